/- The contracts of the document's Deliver and Drop. -/
import Derived.Test.YtegofkpiipomfaaRefCut
namespace Go.Proofs.Ytegofkpiipomfaa
open Go.RowKit

section
variable {T : Nat → Prop} {w : World} {r : Nat} {s : RefSt}

set_option maxHeartbeats 1000000 in
set_option maxRecDepth 100000 in
theorem refDeliver_ok (h : RefAt T w r s) (j : Nat) (hj : j < s.grams.length) (hroom : s.grams.length ≤ 1000) :
    Calls Try.prog 9 #[.pointer (some ⟨r, 0, none⟩), .int .i64 (j : Int)] w fun e w' => e = .returned (ansV (getG s.grams j) 0) ∧ RNext T w w' r { s with grams := s.grams.eraseIdx j } := by
  have Hp := hid (fun o => refPeek_ok (h.alloc o) j hj)
  have Hc := hid (fun W (hW : RefAt T W r s) => refcut_any hW j hj hroom)
  have Hlt : Hid (∀ i, T i → i < w.heap.size) := fun i hi => h.lt hi
  have HA := hid h
  clear h hj hroom
  unfold ansV at *
  generalize getG s.grams j = x at *
  go_enter Try.func9, Try.ntmps9
  go_wp2_with fail
  refine (Hp.out _).mono ?_
  rintro e' w1 ⟨rfl, hk1⟩
  have hk0 := ((Kept.refl (fun _ => False) w).alloc (.cells #[.int .i64 0, .int .i64 0, .string ⟨#[]⟩] 39)).trans hk1
  have HA2 := hid (HA.out.kept0 (hk0.alloc (.cells #[.int .i64 x.src, .int .i64 x.dst, .string x.data] 39)))
  have hR1 : w1.heap[w.heap.size]? = _ := (hk1.block w.heap.size (by simp) id).trans (heap_alloc_new w _)
  have hsz1 : w.heap.size < w1.heap.size := by have := hk1.size; simp at this; omega
  have HK0 := hid hk0
  clear hk0 hk1 Hp HA
  go_wp2_with fail
  refine (Hc.out _ HA2.out).mono ?_
  rintro e' w2 ⟨rfl, T2, hA2, hT2, hK2⟩
  have hns : ¬ T w.heap.size := fun e => by have := Hlt.out _ e; omega
  have hnd : ¬ T w1.heap.size := fun e => by have := Hlt.out _ e; omega
  have hR : w2.heap[w.heap.size]? = _ := (hK2.block w.heap.size (by simp; omega) hns).trans ((((Kept.refl (fun _ => False) w1).alloc _).block w.heap.size hsz1 id).trans hR1)
  have hD : w2.heap[w1.heap.size]? = _ := (hK2.block w1.heap.size (by simp) hnd).trans (heap_alloc_new w1 _)
  have R0 : w2.cell? ⟨w.heap.size, 0, none⟩ = some (.int .i64 0) := by simp only [World.cell?, hR]; rfl
  have R1 : w2.cell? ⟨w.heap.size, 1, none⟩ = some (.int .i64 0) := by simp only [World.cell?, hR]; rfl
  have R2 : w2.cell? ⟨w.heap.size, 2, none⟩ = some (.string ⟨#[]⟩) := by simp only [World.cell?, hR]; rfl
  have RF : ∀ j, w2.frozen? ⟨w.heap.size, j, none⟩ = false := fun j => by simp [World.frozen?, hR]
  have F0 := RF 0
  have F1 := RF 1
  have F2 := RF 2
  have D0 : w2.cell? ⟨w1.heap.size, 0, none⟩ = some (.int .i64 x.src) := by simp only [World.cell?, hD]; rfl
  have D1 : w2.cell? ⟨w1.heap.size, 1, none⟩ = some (.int .i64 x.dst) := by simp only [World.cell?, hD]; rfl
  have D2 : w2.cell? ⟨w1.heap.size, 2, none⟩ = some (.string x.data) := by simp only [World.cell?, hD]; rfl
  have fin : Hid (∀ vs, RNext T w (w2.setCells w.heap.size 0 vs) r { s with grams := s.grams.eraseIdx j }) := fun vs => by
    have hgw := grown_setCells (g := w.heap.size) vs 0 w2
    have hk : Kept T w w2 := ((HK0.out.mono (T := T) (fun _ _ h => h.elim)).alloc _).andThen hK2 (fun i _ h => h)
    refine ⟨T2, hA2.kept (U := fun i => i = w.heap.size) ((Kept.refl _ w2).grown hgw (fun j hj => Or.inr (Option.some.inj hj).symm)) (fun i hi e => ?_), fun i hi => ?_, hk.grown hgw (fun j hj => Or.inl (Nat.le_of_eq (Option.some.inj hj)))⟩
    · rcases hT2 i hi with h | h
      · exact hns (e ▸ h)
      · simp at h
        omega
    · rcases hT2 i hi with h | h
      · exact Or.inl h
      · simp at h
        exact Or.inr (by omega)
  clear hR hD RF hA2 hT2 hK2 hns hnd Hc hR1 hsz1
  go_wp2
  (try simp only [Exit.inBlock, Exit.then])
  refine bodyPost_ret (v := .tuple #[.agg #[.int .i64 x.src, .int .i64 x.dst, .string x.data], .int .i64 0]) (by simp [results, Try.results9, go_sem, R0, R1, R2]) rfl ⟨rfl, ?_⟩
  exact fin.out [.int .i64 x.src, .int .i64 x.dst, .string x.data]

set_option maxHeartbeats 1000000 in
set_option maxRecDepth 100000 in
theorem refDeliver_no (h : RefAt T w r s) (i : Int) (hi : i < 0 ∨ (s.grams.length : Int) ≤ i) :
    Calls Try.prog 9 #[.pointer (some ⟨r, 0, none⟩), .int .i64 i] w fun e w' => e = .returned (ansV g0 3) ∧ Kept (fun _ => False) w w' := by
  have Hp := hid (fun o => refPeek_no (h.alloc o) i hi)
  clear h hi
  unfold ansV g0 at *
  go_enter Try.func9, Try.ntmps9
  go_wp2_with fail
  refine (Hp.out _).mono ?_
  rintro e' w1 ⟨rfl, hk1⟩
  have hR : w1.heap[w.heap.size]? = _ := (hk1.block w.heap.size (by simp) id).trans (heap_alloc_new w _)
  have hsz1 : w.heap.size < w1.heap.size := by have := hk1.size; simp at this; omega
  have R0 : w1.cell? ⟨w.heap.size, 0, none⟩ = some (.int .i64 0) := by simp only [World.cell?, hR]; rfl
  have R1 : w1.cell? ⟨w.heap.size, 1, none⟩ = some (.int .i64 0) := by simp only [World.cell?, hR]; rfl
  have R2 : w1.cell? ⟨w.heap.size, 2, none⟩ = some (.string ⟨#[]⟩) := by simp only [World.cell?, hR]; rfl
  have RF : ∀ j, w1.frozen? ⟨w.heap.size, j, none⟩ = false := fun j => by simp [World.frozen?, hR]
  have F0 := RF 0
  have F1 := RF 1
  have F2 := RF 2
  have HK := hid (((Kept.refl (fun _ => False) w).alloc (.cells #[.int .i64 0, .int .i64 0, .string ⟨#[]⟩] 39)).trans hk1)
  clear hR RF hk1 Hp
  go_wp2
  (try simp only [Exit.inBlock, Exit.then])
  refine bodyPost_ret (v := .tuple #[.agg #[.int .i64 0, .int .i64 0, .string ⟨#[]⟩], .int .i64 3]) (by simp [results, Try.results9, go_sem, R0, R1, R2, hsz1]) rfl ⟨rfl, ?_⟩
  first
  | exact (((HK.out.setCell (Or.inl (Nat.le_refl _)) _).setCell (Or.inl (Nat.le_refl _)) _).setCell (Or.inl (Nat.le_refl _)) _).alloc _
  | exact (((HK.out.alloc _).setCell (Or.inl (Nat.le_refl _)) _).setCell (Or.inl (Nat.le_refl _)) _).setCell (Or.inl (Nat.le_refl _)) _

set_option maxHeartbeats 1000000 in
set_option maxRecDepth 100000 in
theorem refDrop_no (h : RefAt T w r s) (i : Int) (hi : i < 0 ∨ (s.grams.length : Int) ≤ i) :
    Calls Try.prog 11 #[.pointer (some ⟨r, 0, none⟩), .int .i64 i] w fun e w' => e = .returned (.int .i64 3) ∧ Kept (fun _ => False) w w' := by
  have Hp := hid (refPeek_no h i hi)
  clear h hi
  unfold ansV g0 at *
  go_enter Try.func11, Try.ntmps11
  go_wp2_with fail
  refine (Hp.out).mono ?_
  rintro e' w1 ⟨rfl, hk1⟩
  have HK := hid hk1
  clear hk1 Hp
  go_wp2
  go_ret
  exact ⟨rfl, HK.out.alloc _⟩

set_option maxHeartbeats 1000000 in
set_option maxRecDepth 100000 in
theorem refDrop_ok (h : RefAt T w r s) (hU : WU s.ways) (j : Nat) (hj : j < s.grams.length) (hroom : s.grams.length ≤ 1000) (hways : s.ways.length < 1000000) (hl : (wyOf s.ways (getG s.grams j).src (getG s.grams j).dst).lost ≤ 1000000000) (hl0 : 0 ≤ (wyOf s.ways (getG s.grams j).src (getG s.grams j).dst).lost) :
    Calls Try.prog 11 #[.pointer (some ⟨r, 0, none⟩), .int .i64 (j : Int)] w fun e w' => e = .returned (.int .i64 0) ∧ ∃ ways', RNext T w w' r ⟨s.grams.eraseIdx j, ways'⟩ ∧ Put s.ways ways' (getG s.grams j).src (getG s.grams j).dst { wyOf s.ways (getG s.grams j).src (getG s.grams j).dst with lost := (wyOf s.ways (getG s.grams j).src (getG s.grams j).dst).lost + 1 } := by
  have Hp := hid (refPeek_ok h j hj)
  have Hc := hid (fun W (hW : RefAt T W r s) => refcut_any hW j hj hroom)
  have Hlt : Hid (∀ i, T i → i < w.heap.size) := fun i hi => h.lt hi
  have HA := hid h
  have HU := hid hU
  have Hwy := hid (fun T' W (hW : RefAt T' W r ⟨s.grams.eraseIdx j, s.ways⟩) => way_any hW (getG s.grams j).src (getG s.grams j).dst hways)
  clear h hj hroom hU hways
  unfold ansV at *
  generalize getG s.grams j = x at *
  go_enter Try.func11, Try.ntmps11
  go_wp2_with fail
  refine (Hp.out).mono ?_
  rintro e' w1 ⟨rfl, hk1⟩
  have HA2 := hid (HA.out.kept0 (hk1.alloc (.cells #[.int .i64 x.src, .int .i64 x.dst, .string x.data] 39)))
  have hsz1 := hk1.size
  have HK0 := hid (hk1.alloc (.cells #[.int .i64 x.src, .int .i64 x.dst, .string x.data] 39))
  clear hk1 Hp HA
  go_wp2_with fail
  refine (Hc.out _ HA2.out).mono ?_
  rintro e' w2 ⟨rfl, T2, hA2, hT2, hK2⟩
  have hnd : ¬ T w1.heap.size := fun e => by have := Hlt.out _ e; omega
  have hD : w2.heap[w1.heap.size]? = _ := (hK2.block w1.heap.size (by simp) hnd).trans (heap_alloc_new w1 _)
  have D0 : w2.cell? ⟨w1.heap.size, 0, none⟩ = some (.int .i64 x.src) := by simp only [World.cell?, hD]; rfl
  have D1 : w2.cell? ⟨w1.heap.size, 1, none⟩ = some (.int .i64 x.dst) := by simp only [World.cell?, hD]; rfl
  have hK2' : Kept T w w2 := (HK0.out.mono (T := T) (fun _ _ h => h.elim)).andThen hK2 (fun i _ h => h)
  have hT2' : ∀ i, T2 i → T i ∨ w.heap.size ≤ i := fun i hi => (hT2 i hi).imp id (fun h => Nat.le_trans HK0.out.size h)
  have HA3 := hid hA2
  have HK2 := hid hK2'
  have HT2 := hid hT2'
  clear hD hA2 hT2 hK2 hnd Hc HK0 hK2' hT2' HA2
  go_wp2_with fail
  refine (Hwy.out _ _ HA3.out).mono ?_
  rintro e w3 ⟨q, rfl, ⟨T', ⟨lv, wv, hN, hT⟩, hTT, hK⟩, hq⟩
  simp only at hN hq
  obtain ⟨g, c, rfl, hle, h63, hW⟩ := ways_some hN hq
  simp only at hle hW hN
  obtain ⟨_, _, _, a3, _⟩ := hW.cells5 hq
  have f3 := hW.frozenAt (q * 5 + 3)
  have c1 := hN.c1
  have hql := (List.getElem?_eq_some_iff.1 hq).1
  have hqz : (q : Int) < ((wayS s.ways x.src x.dst).length : Int) := by omega
  have fin : Hid (∃ ways', RNext T w (w3.setCell ⟨g, q * 5 + 3, none⟩ (.int .i64 ((wyOf s.ways x.src x.dst).lost + 1))) r ⟨s.grams.eraseIdx j, ways'⟩ ∧ Put s.ways ways' x.src x.dst { wyOf s.ways x.src x.dst with lost := (wyOf s.ways x.src x.dst).lost + 1 }) := by
    refine ⟨(wayS s.ways x.src x.dst).set q { wyOf s.ways x.src x.dst with lost := (wyOf s.ways x.src x.dst).lost + 1 }, ?_, way_put HU.out hq (wyOf_is s.ways x.src x.dst)⟩
    have hR := RefIn.setWay (s := ⟨s.grams.eraseIdx j, wayS s.ways x.src x.dst⟩) (q := 3) (y := wyOf s.ways x.src x.dst) (u := .int .i64 ((wyOf s.ways x.src x.dst).lost + 1)) (y' := { wyOf s.ways x.src x.dst with lost := (wyOf s.ways x.src x.dst).lost + 1 }) hN hq (by decide) rfl
    have hgT : T' g := (hT g).2 (Or.inr (Or.inr rfl))
    have hall : ∀ i, T' i → T i ∨ w.heap.size ≤ i := fun i hi => by
      rcases hTT i hi with h | h
      · exact HT2.out i h
      · exact Or.inr (Nat.le_trans HK2.out.size h)
    have hKK : Kept T w w3 := HK2.out.andThen hK (fun i hi t => by
      rcases HT2.out i t with h | h
      · exact h
      · omega)
    exact ⟨_, ⟨_, _, hR, fun _ => Iff.rfl⟩, fun i hi => hall i ((hT i).2 hi), hKK.setCell ((hall g hgT).symm) _⟩
  generalize (wayS s.ways x.src x.dst).length = n at *
  clear hN hT hTT hK hW hq hql Hwy HU HA3 HK2 HT2
  go_wp2
  go_ret
  exact ⟨rfl, fin.out⟩

end
end Go.Proofs.Ytegofkpiipomfaa
