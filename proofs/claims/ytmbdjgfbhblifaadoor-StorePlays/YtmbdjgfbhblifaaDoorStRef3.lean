/- The document's own store (tollgateref13): Set. -/
import Derived.Test.YtmbdjgfbhblifaaDoorStRef2
import Derived.Test.YtmbdjgfbhblifaaDoorHeldBut
import Derived.Lib.Overlaps
namespace Go.Proofs.YtmbdjgfbhblifaaDoor
open Go.RowKit

/-- The store's own block, whatever its row. -/
def StB (b : Nat) (limit calm : Int) (v : Value) (w : World) : Prop := w.heap[b]? = some (.cells #[.int .i64 limit, .int .i64 calm, v] 36 (0, 0))
theorem st_has {s : ByteArray} (h : s.size ≠ 0) : ¬ s.toList = [] := fun e => by
  rw [ByteArray.toList_eq] at e
  exact h (by rw [Lib.size_eq, e]; rfl)
section
variable {w w' : World} {base b : Nat} {limit calm : Int} {l : List Kn} {v : Value}
theorem StB.lt (h : StB b limit calm v w) : b < w.heap.size := (Array.getElem?_eq_some_iff.1 h).1
theorem StB.c2 (h : StB b limit calm v w) : w.cell? ⟨b, 2, none⟩ = some v := by
  have h' : w.heap[b]? = _ := h
  simp [World.cell?, h']
theorem StB.fz (h : StB b limit calm v w) (i : Nat) : w.frozen? ⟨b, i, none⟩ = false := by
  have h' : w.heap[b]? = _ := h
  simp [World.frozen?, h']
theorem StB.kept {S : Nat → Prop} (h : StB b limit calm v w) (hk : Kept S w w') (hS : ¬ S b) : StB b limit calm v w' := (hk.block b h.lt hS).trans h
/-- The store's row becomes another one. -/
theorem StB.put {v' : Value} {l' : List Kn} (h : StB b limit calm v w) (ho : OwnG knCells 5 58 w base v' l') : SrIn (w.setCell ⟨b, 2, none⟩ v') base b v' limit calm l' := by
  refine ⟨(Joins.block_setCell h (i := 2) v'), ho.same (fun i hi => Below.heap_setCell w _ _ i (fun e => ?_))⟩
  obtain ⟨⟨cur, h1⟩, _⟩ := ho.block hi
  have h' : w.heap[b]? = _ := h
  rw [show i = b from e, h'] at h1
  simp at h1
theorem known_new (W : World) (k : Kn) : ∀ (j : Nat) (x : Value), (rowG knCells [k])[j]? = some x → (W.alloc (.cells #[.string k.name, .string k.realm, .string k.secret, .int .i64 k.wrong, .int .i64 k.last] 58)).cell? ((⟨W.heap.size, 0, none⟩ : Addr).add j) = some x := by
  intro j x h
  rw [addr_add, World.cell?_alloc_new]
  simpa [rowG, knCells] using h

set_option maxHeartbeats 2000000 in
set_option maxRecDepth 100000 in
/-- A new name. -/
theorem rSet_new (h : SrIn w base b v limit calm l) (hb : base ≤ w.heap.size) (hl : FewK l) (s x : ByteArray) (hs : s.size ≤ 60) (hx : x.size ≤ 60) (hx0 : x.size ≠ 0) (hf : findK l (splitF s) = none) (hn : l.length < 100) :
    Calls Tryd.prog 9 #[.pointer (some ⟨b, 0, none⟩), .string s, .string x] w fun e w' => e = .returned (.int .i64 0) ∧ SrAt w' base b limit calm (l ++ [⟨(splitF s).1, (splitF s).2, x, 0, 0⟩]) ∧ SrK base b w w' := by
  have HF := hid (rFind_any h hl s (by omega))
  rw [hf, show idxI none = -1 from rfl] at HF
  have HSp := hid (rSplit_any s (by omega))
  have z1 : ¬ (60 : Int) < (s.size : Int) := by omega
  have z2 : ¬ (60 : Int) < (x.size : Int) := by omega
  have z3 : ¬ (100 : Int) ≤ (l.length : Int) := by omega
  have hne := st_has hx0
  have hne' : x.toList.isEmpty = false := by rw [List.isEmpty_eq_false_iff]; exact hne
  generalize splitF s = sp at *
  obtain ⟨sn, sr⟩ := sp
  simp only at HSp
  obtain ⟨p, cap, rfl⟩ := slice_of h.own
  have HI := hid h
  clear h hf hl hx0
  go_enter Tryd.func9, Tryd.ntmps9
  go_wp2_with fail
  refine HF.out.mono ?_
  rintro e w1 ⟨rfl, hk1⟩
  have HK1 := hid hk1
  have H1 := hid (HI.out.kept0 hk1)
  have hB1 : StB b limit calm (.slice p l.length cap) w1 := H1.out.blk
  have c2 := H1.out.c2
  have g2 : ∀ W, StB b limit calm (.slice p l.length cap) W → W.cell? ⟨b, 2, none⟩ = some (.slice p l.length cap) := fun W h => h.c2
  clear hk1
  go_upto_region 6 with fail
  refine wp_region_but (S := StB b limit calm (.slice p l.length cap)) 13 (by kernel_rfl) (hB1) (fun hSd => ?_)
  refine wpAnyB_take (i := 0) (v := ?_) rfl (by kernel_rfl) (by kernel_rfl) (by kernel_rfl) (by kernel_rfl) (by kernel_rfl) (fun _ _ _ h => h) (Or.inl ⟨by kernel_rfl, fun W hSW => by go_simp; try with_reducible rfl⟩) (by assumption) ?_
  try simp only [List.getElem_toArray]
  try simp only [List.getElem_cons_succ]
  try simp only [List.getElem_cons_zero]
  try simp only [Act.put]
  try simp only [List.setIfInBounds_toArray]
  try simp only [List.set_cons_succ]
  try simp only [List.set_cons_zero]
  refine wpAnyB_take (i := 1) (v := ?_) rfl (by kernel_rfl) (by kernel_rfl) (by kernel_rfl) (by kernel_rfl) (by kernel_rfl) (fun _ _ _ h => h) (Or.inl ⟨by kernel_rfl, fun W hSW => by go_simp; try with_reducible rfl⟩) (by assumption) ?_
  try simp only [List.getElem_toArray]
  try simp only [List.getElem_cons_succ]
  try simp only [List.getElem_cons_zero]
  try simp only [Act.put]
  try simp only [List.setIfInBounds_toArray]
  try simp only [List.set_cons_succ]
  try simp only [List.set_cons_zero]
  refine wpAnyB_take (i := 2) (v := ?_) rfl (by kernel_rfl) (by kernel_rfl) (by kernel_rfl) (by kernel_rfl) (by kernel_rfl) (fun _ _ _ h => h) (Or.inl ⟨by kernel_rfl, fun W hSW => by go_simp; try with_reducible rfl⟩) (by assumption) ?_
  try simp only [List.getElem_toArray]
  try simp only [List.getElem_cons_succ]
  try simp only [List.getElem_cons_zero]
  try simp only [Act.put]
  try simp only [List.setIfInBounds_toArray]
  try simp only [List.set_cons_succ]
  try simp only [List.set_cons_zero]
  refine wpAnyB_take (i := 3) (v := ?_) rfl (by kernel_rfl) (by kernel_rfl) (by kernel_rfl) (by kernel_rfl) (by kernel_rfl) (fun _ _ _ h => h) (Or.inl ⟨by kernel_rfl, fun W hSW => by go_simp; try with_reducible rfl⟩) (by assumption) ?_
  try simp only [List.getElem_toArray]
  try simp only [List.getElem_cons_succ]
  try simp only [List.getElem_cons_zero]
  try simp only [Act.put]
  try simp only [List.setIfInBounds_toArray]
  try simp only [List.set_cons_succ]
  try simp only [List.set_cons_zero]
  refine wpAnyB_take (i := 4) (v := ?_) rfl (by kernel_rfl) (by kernel_rfl) (by kernel_rfl) (by kernel_rfl) (by kernel_rfl) (fun _ _ _ h => h) (Or.inl ⟨by kernel_rfl, fun W hSW => by go_simp; try with_reducible rfl⟩) (by assumption) ?_
  try simp only [List.getElem_toArray]
  try simp only [List.getElem_cons_succ]
  try simp only [List.getElem_cons_zero]
  try simp only [Act.put]
  try simp only [List.setIfInBounds_toArray]
  try simp only [List.set_cons_succ]
  try simp only [List.set_cons_zero]
  refine wpAnyB_take (i := 5) (v := ?_) rfl (by kernel_rfl) (by kernel_rfl) (by kernel_rfl) (by kernel_rfl) (by kernel_rfl) (fun _ _ _ h => h) (Or.inl ⟨by kernel_rfl, fun W hSW => by go_simp; try with_reducible rfl⟩) (by assumption) ?_
  try simp only [List.getElem_toArray]
  try simp only [List.getElem_cons_succ]
  try simp only [List.getElem_cons_zero]
  try simp only [Act.put]
  try simp only [List.setIfInBounds_toArray]
  try simp only [List.set_cons_succ]
  try simp only [List.set_cons_zero]
  refine wpAnyB_take (i := 7) (v := ?_) rfl (by kernel_rfl) (by kernel_rfl) (by kernel_rfl) (by kernel_rfl) (by kernel_rfl) (fun _ _ _ h => h) (Or.inl ⟨by kernel_rfl, fun W hSW => by go_simp; try with_reducible rfl⟩) (by assumption) ?_
  try simp only [List.getElem_toArray]
  try simp only [List.getElem_cons_succ]
  try simp only [List.getElem_cons_zero]
  try simp only [Act.put]
  try simp only [List.setIfInBounds_toArray]
  try simp only [List.set_cons_succ]
  try simp only [List.set_cons_zero]
  refine wpAnyB_ready (rs := [6]) (by kernel_rfl) (by simp) ?_
  refine AllReadyB.cons rfl (fun K hK => ?_) AllReadyB.nil
  go_simp
  refine (HSp.out _).mono ?_
  rintro e w2 ⟨rfl, hk2⟩
  have hB2 := hSd.kept hk2 (fun h => h)
  have HK2 := hid (((Kept.refl (fun _ => False) w1).drew).trans hk2)
  clear hk2
  refine hK.out _ _ (hB2) (fun _ => ?_)
  clear hK K
  try simp only [List.getElem_toArray]
  try simp only [List.getElem_cons_succ]
  try simp only [List.getElem_cons_zero]
  try simp only [Act.put]
  try simp only [List.setIfInBounds_toArray]
  try simp only [List.set_cons_succ]
  try simp only [List.set_cons_zero]
  refine wpAnyB_take (i := 8) (v := ?_) rfl (by kernel_rfl) (by kernel_rfl) (by kernel_rfl) (by kernel_rfl) (by kernel_rfl) (fun _ _ _ h => h) (Or.inl ⟨by kernel_rfl, fun W hSW => by go_simp; try with_reducible rfl⟩) (by assumption) ?_
  try simp only [List.getElem_toArray]
  try simp only [List.getElem_cons_succ]
  try simp only [List.getElem_cons_zero]
  try simp only [Act.put]
  try simp only [List.setIfInBounds_toArray]
  try simp only [List.set_cons_succ]
  try simp only [List.set_cons_zero]
  have k3 := (Kept.refl (fun _ => False) w2).alloc (.cells #[.string sn, .string sr, .string x, .int .i64 0, .int .i64 0] 58)
  have hB3 := hB2.kept k3 (fun h => h)
  have hsz : base ≤ (w2.alloc (.cells #[.string sn, .string sr, .string x, .int .i64 0, .int .i64 0] 58)).heap.size := Nat.le_trans hb ((HK1.out.trans HK2.out).trans k3).size
  obtain ⟨v4, w4, hrun, hown4, hgr⟩ := ((H1.out.own.kept0 HK2.out).kept0 k3).append tyK encK hsz ⟨w2.heap.size, 0, none⟩ 1 [⟨sn, sr, x, 0, 0⟩] (by simp) (known_new w2 ⟨sn, sr, x, 0, 0⟩) (by simp; omega)
  have k4 := hgr.kept
  obtain ⟨p4, cap4, hp4⟩ := slice_of hown4
  subst hp4
  have hne4 : ∀ i, (Value.slice p l.length cap).ownBlock = some i → i ≠ b := fun i hi => H1.out.ne hi
  have hB4 := hB3.kept k4 (fun e => hne4 b e rfl)
  have H5 := hid (hB4.put hown4)
  have a1 : Kept (fun _ => False) w (w2.alloc (.cells #[.string sn, .string sr, .string x, .int .i64 0, .int .i64 0] 58)) := (HK1.out.trans HK2.out).trans k3
  have a2 : SrK base b w w4 := (SrK.none a1).andThen k4 (fun i hi e => Or.inr ⟨(HI.out.own.block e).2.1, (HI.out.own.block e).1⟩)
  have K5 := hid (a2.setCell (p := ⟨b, 2, none⟩) (Or.inr (Or.inl rfl)) (.slice p4 (l ++ [(⟨sn, sr, x, 0, 0⟩ : Kn)]).length cap4))
  clear a1 a2
  generalize (l ++ [(⟨sn, sr, x, 0, 0⟩ : Kn)]).length = n4 at *
  have f4 := hB4.fz 2
  have d4 := hB4.c2
  refine wpAnyB_ready (rs := [9]) (by kernel_rfl) (by simp) ?_
  refine AllReadyB.cons rfl (fun K hK => ?_) AllReadyB.nil
  go_simp
  refine hK.out _ _ (hB3) (fun _ => ?_)
  clear hK K
  try simp only [List.getElem_toArray]
  try simp only [List.getElem_cons_succ]
  try simp only [List.getElem_cons_zero]
  try simp only [Act.put]
  try simp only [List.setIfInBounds_toArray]
  try simp only [List.set_cons_succ]
  try simp only [List.set_cons_zero]
  refine wpAnyB_ready (rs := [10]) (by kernel_rfl) (by simp) ?_
  refine AllReadyB.cons rfl (fun K hK => ?_) AllReadyB.nil
  refine stepG_append rfl (.tmp 33) (.tmp 38) 34 rfl (.slice p l.length cap) (.slice (some ⟨w2.heap.size, 0, none⟩) 1 1) rfl rfl (hrun _) ?_
  refine hK.out _ _ (hB4) (fun _ => ?_)
  clear hK K
  try simp only [List.getElem_toArray]
  try simp only [List.getElem_cons_succ]
  try simp only [List.getElem_cons_zero]
  try simp only [Act.put]
  try simp only [List.setIfInBounds_toArray]
  try simp only [List.set_cons_succ]
  try simp only [List.set_cons_zero]
  refine wpAnyB_take (i := 11) (v := ?_) rfl (by kernel_rfl) (by kernel_rfl) (by kernel_rfl) (by kernel_rfl) (by kernel_rfl) (fun _ _ _ h => h) (Or.inl ⟨by kernel_rfl, fun W hSW => by go_simp; try with_reducible rfl⟩) (by assumption) ?_
  try simp only [List.getElem_toArray]
  try simp only [List.getElem_cons_succ]
  try simp only [List.getElem_cons_zero]
  try simp only [Act.put]
  try simp only [List.setIfInBounds_toArray]
  try simp only [List.set_cons_succ]
  try simp only [List.set_cons_zero]
  refine wpAnyB_take (i := 12) (v := ?_) rfl (by kernel_rfl) (by kernel_rfl) (by kernel_rfl) (by kernel_rfl) (by kernel_rfl) (fun _ _ _ h => h) (Or.inl ⟨by kernel_rfl, fun W hSW => by go_simp; try with_reducible rfl⟩) (by assumption) ?_
  try simp only [List.getElem_toArray]
  try simp only [List.getElem_cons_succ]
  try simp only [List.getElem_cons_zero]
  try simp only [Act.put]
  try simp only [List.setIfInBounds_toArray]
  try simp only [List.set_cons_succ]
  try simp only [List.set_cons_zero]
  refine wpAnyB_ready (rs := [13]) (by kernel_rfl) (by simp) ?_
  refine AllReadyB.end rfl (fun K hK => ?_)
  go_simp
  refine hK.out _ _ (trivial) (fun _ => ?_)
  clear hK K
  try simp only [List.getElem_toArray]
  try simp only [List.getElem_cons_succ]
  try simp only [List.getElem_cons_zero]
  try simp only [Act.put]
  try simp only [List.setIfInBounds_toArray]
  try simp only [List.set_cons_succ]
  try simp only [List.set_cons_zero]
  refine wpAnyB_done (by kernel_rfl) ?_ _
  clear g2 c2 hB1 hSd hB2 hB3 k3 hsz hrun hown4 hgr k4 hne4 hB4 f4 d4
  go_wp2
  go_ret
  exact ⟨rfl, ⟨_, H5.out⟩, K5.out⟩

set_option maxHeartbeats 2000000 in
set_option maxRecDepth 100000 in
/-- What changes nothing: too long, no room, nothing to take away. -/
theorem rSet_still (h : SrIn w base b v limit calm l) (hl : FewK l) (s x : ByteArray) (hs : s.size ≤ 1000000) (hx : x.size ≤ 1000000) (E : Int)
    (hE : (60 < s.size ∨ 60 < x.size) ∧ E = 2 ∨ (s.size ≤ 60 ∧ x.size ≤ 60) ∧ findK l (splitF s) = none ∧ (100 ≤ l.length ∧ E = 10 ∨ l.length < 100 ∧ x.size = 0 ∧ E = 0)) :
    Calls Tryd.prog 9 #[.pointer (some ⟨b, 0, none⟩), .string s, .string x] w fun e w' => e = .returned (.int .i64 E) ∧ Kept (fun _ => False) w w' := by
  have HF := hid (rFind_any h hl s (by omega))
  obtain ⟨p, cap, rfl⟩ := slice_of h.own
  have HI := hid h
  clear h
  rcases hE with ⟨hq, rfl⟩ | ⟨⟨q1, q2⟩, hf, hq⟩
  · clear HF
    by_cases q1 : 60 < s.size
    · have z1 : (60 : Int) < (s.size : Int) := by omega
      go_enter Tryd.func9, Tryd.ntmps9
      go_wp2
      go_ret
      exact ⟨rfl, Kept.refl _ _⟩
    · have z1 : ¬ (60 : Int) < (s.size : Int) := by omega
      have z2 : (60 : Int) < (x.size : Int) := by omega
      clear hq
      go_enter Tryd.func9, Tryd.ntmps9
      go_wp2
      go_ret
      exact ⟨rfl, Kept.refl _ _⟩
  · have z1 : ¬ (60 : Int) < (s.size : Int) := by omega
    have z2 : ¬ (60 : Int) < (x.size : Int) := by omega
    rw [hf, show idxI none = -1 from rfl] at HF
    rcases hq with ⟨q3, rfl⟩ | ⟨q3, q4, rfl⟩
    · have z3 : (100 : Int) ≤ (l.length : Int) := by omega
      clear hl
      go_enter Tryd.func9, Tryd.ntmps9
      go_wp2_with fail
      refine HF.out.mono ?_
      rintro e w1 ⟨rfl, hk1⟩
      have c2 := (HI.out.kept0 hk1).c2
      go_wp2
      go_ret
      exact ⟨rfl, hk1⟩
    · have z3 : ¬ (100 : Int) ≤ (l.length : Int) := by omega
      obtain rfl := str_nil x q4
      clear hl q4
      go_enter Tryd.func9, Tryd.ntmps9
      go_wp2_with fail
      refine HF.out.mono ?_
      rintro e w1 ⟨rfl, hk1⟩
      have c2 := (HI.out.kept0 hk1).c2
      go_wp2
      go_ret
      exact ⟨rfl, hk1⟩

theorem modify_set (l : List Kn) (i : Nat) (k : Kn) (h : l[i]? = some k) (f : Kn → Kn) : l.modify i f = l.set i (f k) := by
  apply List.ext_getElem?
  intro j
  rw [List.getElem?_modify, List.getElem?_set]
  by_cases e : i = j
  · subst e
    obtain ⟨hlt, he⟩ := List.getElem?_eq_some_iff.1 h
    simp [hlt, he]
  · simp [e]

set_option maxHeartbeats 2000000 in
set_option maxRecDepth 100000 in
/-- A name that is there has another secret. -/
theorem rSet_turn (h : SrIn w base b v limit calm l) (hl : FewK l) (s x : ByteArray) (hs : s.size ≤ 60) (hx : x.size ≤ 60) (hx0 : x.size ≠ 0) (i : Nat) (k : Kn) (hf : findK l (splitF s) = some i) (hk : l[i]? = some k) :
    Calls Tryd.prog 9 #[.pointer (some ⟨b, 0, none⟩), .string s, .string x] w fun e w' => e = .returned (.int .i64 0) ∧ SrAt w' base b limit calm (l.set i { k with secret := x }) ∧ SrK base b w w' := by
  have HF := hid (rFind_any h hl s (by omega))
  rw [hf, show idxI (some i) = (i : Int) from rfl] at HF
  have z1 : ¬ (60 : Int) < (s.size : Int) := by omega
  have z2 : ¬ (60 : Int) < (x.size : Int) := by omega
  have hlt := (List.getElem?_eq_some_iff.1 hk).1
  have hlen := hl.1
  have hiz : (0 : Int) ≤ (i : Int) := by omega
  have hin : ¬ (i : Int) < 0 := by omega
  have hiz2 : (i : Int) < (l.length : Int) := by omega
  have hne := st_has hx0
  have hne' : x.toList.isEmpty = false := by rw [List.isEmpty_eq_false_iff]; exact hne
  obtain ⟨p, cap, rfl⟩ := slice_of h.own
  obtain ⟨g, rfl, _, _, hcap, hcm, _, _⟩ := h.own.at encK hk
  have HX := hid hk
  have HI := hid h
  clear h hf hl hx0 hk
  go_enter Tryd.func9, Tryd.ntmps9
  go_wp2_with fail
  refine HF.out.mono ?_
  rintro e w1 ⟨rfl, hk1⟩
  have HK1 := hid hk1
  have H1 := hid (HI.out.kept0 hk1)
  have c2 := H1.out.c2
  obtain ⟨g', e', _, _, _, _, hcs, hfz⟩ := H1.out.own.at encK HX.out
  cases e'
  have n2 := hcs 2 _ rfl
  have f2 := hfz (i * 5 + 2)
  have H2 := hid (H1.out.setRow HX.out 2 (by decide) (.string x) (y := { k with secret := x }) rfl)
  have K2 : Hid (SrK base b w (w1.setCell ⟨g, i * 5 + 2, none⟩ (.string x))) := (SrK.none HK1.out).setCell (p := ⟨g, i * 5 + 2, none⟩) (Or.inr HI.out.inS) _
  clear hk1 hcs hfz H1 HK1
  go_wp2
  go_ret
  exact ⟨rfl, ⟨_, H2.out⟩, K2.out⟩

set_option maxHeartbeats 4000000 in
set_option maxRecDepth 100000 in
/-- A name is taken away. -/
theorem rSet_gone (h : SrIn w base b v limit calm l) (hb : base ≤ w.heap.size) (hl : FewK l) (s : ByteArray) (hs : s.size ≤ 60) (i : Nat) (hf : findK l (splitF s) = some i) :
    Calls Tryd.prog 9 #[.pointer (some ⟨b, 0, none⟩), .string s, .string ⟨#[]⟩] w fun e w' => e = .returned (.int .i64 0) ∧ SrAt w' base b limit calm (l.take i ++ l.drop (i + 1)) ∧ SrK base b w w' := by
  have HF := hid (rFind_any h hl s (by omega))
  rw [hf, show idxI (some i) = (i : Int) from rfl] at HF
  obtain ⟨k, hk, _⟩ := findK_some hf
  have z1 : ¬ (60 : Int) < (s.size : Int) := by omega
  have hlt := (List.getElem?_eq_some_iff.1 hk).1
  have hlen := hl.1
  have hiz : (0 : Int) ≤ (i : Int) := by omega
  have hin : ¬ (i : Int) < 0 := by omega
  have hiz2 : (i : Int) < (l.length : Int) := by omega
  obtain ⟨p, cap, rfl⟩ := slice_of h.own
  obtain ⟨g, rfl, _, _, hcap, hcm, _, _⟩ := h.own.at encK hk
  have HI := hid h
  have HB := hid hb
  have hne0 : l ≠ [] := fun e => by rw [e] at hlt; simp at hlt
  have HN := hid hne0
  have hcm' := hcm
  unfold maxLen at hcm'
  clear h hf hl hk hb hne0 hcm
  have htl : (l.take i).length = i := by rw [List.length_take]; omega
  have hdl : (l.drop (i + 1)).length = l.length - (i + 1) := by rw [List.length_drop]
  have HL2 := hid (And.intro htl hdl)
  clear htl hdl
  have hw1 : IntKind.i64.wrap ((i : Int) + 1) = (i : Int) + 1 := by rw [IntKind.wrap_i64]; omega
  have hb1 : i ≤ cap := by omega
  have hb2 : (i : Int) ≤ (i : Int) + 1 := by omega
  have hb3 : (i : Int) + 1 ≤ (l.length : Int) := by omega
  have hb4 : (0 : Int) ≤ (i : Int) + 1 := by omega
  have hb5 : ((i : Int) + 1).toNat = i + 1 := by omega
  have hb6 : i + 1 ≤ l.length := hlt
  go_enter Tryd.func9, Tryd.ntmps9
  go_wp2_with fail
  refine HF.out.mono ?_
  rintro e w1 ⟨rfl, hk1⟩
  have HK1 := hid hk1
  have H1 := hid (HI.out.kept0 hk1)
  have hB1 : StB b limit calm (.slice (some ⟨g, 0, none⟩) l.length cap) w1 := H1.out.blk
  have c2 := H1.out.c2
  have g2 : ∀ W, StB b limit calm (.slice (some ⟨g, 0, none⟩) l.length cap) W → W.cell? ⟨b, 2, none⟩ = some (.slice (some ⟨g, 0, none⟩) l.length cap) := fun W h => h.c2
  clear hk1
  go_upto_region 8 with fail
  -- the two appends
  have hcell : Hid (∀ W, Kept (fun _ => False) w1 W → ∀ j, j < l.length * 5 → W.cell? ⟨g, j, none⟩ = (rowG knCells l)[j]?) := fun W hk => by
    obtain ⟨g', cap', e', _, _, _, hc, _⟩ := (H1.out.own.kept0 hk).lies HN.out
    cases e'
    exact hc
  have kd : Kept (fun _ => False) w1 w1.drew := (Kept.refl _ w1).drew
  obtain ⟨v2, w2, hrun2, hown2, hk2⟩ := (OwnG.nil (enc := knCells) (k := 5) (e := 58) w1.drew w1.drew.heap.size).appendList tyK encK (Nat.le_refl _) (some ⟨g, 0, none⟩) cap (l.take i) (fun _ => ⟨_, rfl, fun j u hu => by
    have hj := (List.getElem?_eq_some_iff.1 hu).1
    rw [encK.length, HL2.out.1] at hj
    rw [addr_add, hcell.out _ kd j (by omega), ← hu, ← encK.take, List.getElem?_take_of_lt hj]⟩) (by rw [HL2.out.1]; simp; omega)
  have hK2 : Kept (fun _ => False) w1.drew w2 := hk2.mono (fun i _ e => by cases e)
  obtain ⟨v3, w3, hrun3, hown3, hk3⟩ := hown2.appendList tyK encK hK2.size (some ⟨g, if cap = i + 1 then 0 else (i + 1) * 5, none⟩) (cap - (i + 1)) (l.drop (i + 1)) (fun hne => ⟨_, rfl, fun j u hu => by
    have hj := (List.getElem?_eq_some_iff.1 hu).1
    rw [encK.length, HL2.out.2] at hj
    have hc0 : ¬ cap = i + 1 := by omega
    rw [if_neg hc0, Addr.add_lit, hcell.out _ (kd.trans hK2) _ (by omega), ← hu, ← encK.drop, List.getElem?_drop]⟩) (by rw [List.nil_append, HL2.out.1, HL2.out.2]; omega)
  have hlow : ∀ q, v2.ownBlock = some q → w1.heap.size ≤ q := fun q hq => (hown2.block hq).2.1
  have hK3 : Kept (fun _ => False) w1.drew w3 := hK2.andThen hk3 (fun q hq e => absurd (hlow q e) (by show ¬ w1.heap.size ≤ q; exact Nat.not_le.2 hq))
  rw [List.nil_append] at hown2 hown3
  rw [HL2.out.1] at hrun2
  rw [HL2.out.2] at hrun3
  obtain ⟨p2, cap2, hp2⟩ := slice_of hown2
  subst hp2
  obtain ⟨p3, cap3, hp3⟩ := slice_of hown3
  subst hp3
  have hB2 : StB b limit calm (.slice (some ⟨g, 0, none⟩) l.length cap) w2 := StB.kept (w := w1.drew) hB1 hK2 (fun h => h)
  have hB3 : StB b limit calm (.slice (some ⟨g, 0, none⟩) l.length cap) w3 := StB.kept (w := w1.drew) hB1 hK3 (fun h => h)
  have H4 := hid (hB3.put (hown3.mono (base' := base) (Nat.le_trans HB.out HK1.out.size)))
  have K4 : Hid (SrK base b w (w3.setCell ⟨b, 2, none⟩ (.slice p3 (l.take i ++ l.drop (i + 1)).length cap3))) := (SrK.none ((HK1.out.trans kd).trans hK3)).setCell (p := ⟨b, 2, none⟩) (Or.inr (Or.inl rfl)) _
  have f3 := hB3.fz 2
  have d3 := hB3.c2
  clear hown2 hown3 hk2 hk3 hlow hcell
  generalize (l.take i).length = n2 at *
  generalize (l.take i ++ l.drop (i + 1)).length = n3 at *
  by_cases hcap0 : cap = i + 1
  · rw [if_pos hcap0] at hrun3
    subst hcap0
    rw [Nat.sub_self] at hrun3
    refine wp_region_but (S := StB b limit calm (.slice (some ⟨g, 0, none⟩) l.length (i + 1))) 18 (by kernel_rfl) (hB1) (fun hSd => ?_)
    refine wpAnyB_take (i := 0) (v := ?_) rfl (by kernel_rfl) (by kernel_rfl) (by kernel_rfl) (by kernel_rfl) (by kernel_rfl) (fun _ _ _ h => h) (Or.inl ⟨by kernel_rfl, fun W hSW => by go_simp; try with_reducible rfl⟩) (by assumption) ?_
    try simp only [List.getElem_toArray]
    try simp only [List.getElem_cons_succ]
    try simp only [List.getElem_cons_zero]
    try simp only [Act.put]
    try simp only [List.setIfInBounds_toArray]
    try simp only [List.set_cons_succ]
    try simp only [List.set_cons_zero]
    refine wpAnyB_take (i := 1) (v := ?_) rfl (by kernel_rfl) (by kernel_rfl) (by kernel_rfl) (by kernel_rfl) (by kernel_rfl) (fun _ _ _ h => h) (Or.inl ⟨by kernel_rfl, fun W hSW => by go_simp; try with_reducible rfl⟩) (by assumption) ?_
    try simp only [List.getElem_toArray]
    try simp only [List.getElem_cons_succ]
    try simp only [List.getElem_cons_zero]
    try simp only [Act.put]
    try simp only [List.setIfInBounds_toArray]
    try simp only [List.set_cons_succ]
    try simp only [List.set_cons_zero]
    refine wpAnyB_take (i := 2) (v := ?_) rfl (by kernel_rfl) (by kernel_rfl) (by kernel_rfl) (by kernel_rfl) (by kernel_rfl) (fun _ _ _ h => h) (Or.inl ⟨by kernel_rfl, fun W hSW => by go_simp; try with_reducible rfl⟩) (by assumption) ?_
    try simp only [List.getElem_toArray]
    try simp only [List.getElem_cons_succ]
    try simp only [List.getElem_cons_zero]
    try simp only [Act.put]
    try simp only [List.setIfInBounds_toArray]
    try simp only [List.set_cons_succ]
    try simp only [List.set_cons_zero]
    refine wpAnyB_take (i := 3) (v := ?_) rfl (by kernel_rfl) (by kernel_rfl) (by kernel_rfl) (by kernel_rfl) (by kernel_rfl) (fun _ _ _ h => h) (Or.inl ⟨by kernel_rfl, fun W hSW => by go_simp; try with_reducible rfl⟩) (by assumption) ?_
    try simp only [List.getElem_toArray]
    try simp only [List.getElem_cons_succ]
    try simp only [List.getElem_cons_zero]
    try simp only [Act.put]
    try simp only [List.setIfInBounds_toArray]
    try simp only [List.set_cons_succ]
    try simp only [List.set_cons_zero]
    refine wpAnyB_take (i := 4) (v := ?_) rfl (by kernel_rfl) (by kernel_rfl) (by kernel_rfl) (by kernel_rfl) (by kernel_rfl) (fun _ _ _ h => h) (Or.inl ⟨by kernel_rfl, fun W hSW => by go_simp; try with_reducible rfl⟩) (by assumption) ?_
    try simp only [List.getElem_toArray]
    try simp only [List.getElem_cons_succ]
    try simp only [List.getElem_cons_zero]
    try simp only [Act.put]
    try simp only [List.setIfInBounds_toArray]
    try simp only [List.set_cons_succ]
    try simp only [List.set_cons_zero]
    refine wpAnyB_take (i := 5) (v := ?_) rfl (by kernel_rfl) (by kernel_rfl) (by kernel_rfl) (by kernel_rfl) (by kernel_rfl) (fun _ _ _ h => h) (Or.inl ⟨by kernel_rfl, fun W hSW => by go_simp; try with_reducible rfl⟩) (by assumption) ?_
    try simp only [List.getElem_toArray]
    try simp only [List.getElem_cons_succ]
    try simp only [List.getElem_cons_zero]
    try simp only [Act.put]
    try simp only [List.setIfInBounds_toArray]
    try simp only [List.set_cons_succ]
    try simp only [List.set_cons_zero]
    refine wpAnyB_take (i := 6) (v := (.slice (some ⟨g, 0, none⟩) i (i + 1))) rfl (by kernel_rfl) (by kernel_rfl) (by kernel_rfl) (by kernel_rfl) (by kernel_rfl) (fun _ _ _ h => h) (Or.inl ⟨by kernel_rfl, fun W hSW => by go_simp; try with_reducible rfl⟩) (by assumption) ?_
    try simp only [List.getElem_toArray]
    try simp only [List.getElem_cons_succ]
    try simp only [List.getElem_cons_zero]
    try simp only [Act.put]
    try simp only [List.setIfInBounds_toArray]
    try simp only [List.set_cons_succ]
    try simp only [List.set_cons_zero]
    refine wpAnyB_take (i := 8) (v := ?_) rfl (by kernel_rfl) (by kernel_rfl) (by kernel_rfl) (by kernel_rfl) (by kernel_rfl) (fun _ _ _ h => h) (Or.inl ⟨by kernel_rfl, fun W hSW => by go_simp; try with_reducible rfl⟩) (by assumption) ?_
    try simp only [List.getElem_toArray]
    try simp only [List.getElem_cons_succ]
    try simp only [List.getElem_cons_zero]
    try simp only [Act.put]
    try simp only [List.setIfInBounds_toArray]
    try simp only [List.set_cons_succ]
    try simp only [List.set_cons_zero]
    refine wpAnyB_take (i := 9) (v := ?_) rfl (by kernel_rfl) (by kernel_rfl) (by kernel_rfl) (by kernel_rfl) (by kernel_rfl) (fun _ _ _ h => h) (Or.inl ⟨by kernel_rfl, fun W hSW => by go_simp; try with_reducible rfl⟩) (by assumption) ?_
    try simp only [List.getElem_toArray]
    try simp only [List.getElem_cons_succ]
    try simp only [List.getElem_cons_zero]
    try simp only [Act.put]
    try simp only [List.setIfInBounds_toArray]
    try simp only [List.set_cons_succ]
    try simp only [List.set_cons_zero]
    refine wpAnyB_take (i := 10) (v := ?_) rfl (by kernel_rfl) (by kernel_rfl) (by kernel_rfl) (by kernel_rfl) (by kernel_rfl) (fun _ _ _ h => h) (Or.inl ⟨by kernel_rfl, fun W hSW => by go_simp; try with_reducible rfl⟩) (by assumption) ?_
    try simp only [List.getElem_toArray]
    try simp only [List.getElem_cons_succ]
    try simp only [List.getElem_cons_zero]
    try simp only [Act.put]
    try simp only [List.setIfInBounds_toArray]
    try simp only [List.set_cons_succ]
    try simp only [List.set_cons_zero]
    refine wpAnyB_take (i := 11) (v := ?_) rfl (by kernel_rfl) (by kernel_rfl) (by kernel_rfl) (by kernel_rfl) (by kernel_rfl) (fun _ _ _ h => h) (Or.inl ⟨by kernel_rfl, fun W hSW => by go_simp; try with_reducible rfl⟩) (by assumption) ?_
    try simp only [List.getElem_toArray]
    try simp only [List.getElem_cons_succ]
    try simp only [List.getElem_cons_zero]
    try simp only [Act.put]
    try simp only [List.setIfInBounds_toArray]
    try simp only [List.set_cons_succ]
    try simp only [List.set_cons_zero]
    refine wpAnyB_take (i := 12) (v := ?_) rfl (by kernel_rfl) (by kernel_rfl) (by kernel_rfl) (by kernel_rfl) (by kernel_rfl) (fun _ _ _ h => h) (Or.inl ⟨by kernel_rfl, fun W hSW => by go_simp; try with_reducible rfl⟩) (by assumption) ?_
    try simp only [List.getElem_toArray]
    try simp only [List.getElem_cons_succ]
    try simp only [List.getElem_cons_zero]
    try simp only [Act.put]
    try simp only [List.setIfInBounds_toArray]
    try simp only [List.set_cons_succ]
    try simp only [List.set_cons_zero]
    refine wpAnyB_take (i := 13) (v := ?_) rfl (by kernel_rfl) (by kernel_rfl) (by kernel_rfl) (by kernel_rfl) (by kernel_rfl) (fun _ _ _ h => h) (Or.inl ⟨by kernel_rfl, fun W hSW => by go_simp; try with_reducible rfl⟩) (by assumption) ?_
    try simp only [List.getElem_toArray]
    try simp only [List.getElem_cons_succ]
    try simp only [List.getElem_cons_zero]
    try simp only [Act.put]
    try simp only [List.setIfInBounds_toArray]
    try simp only [List.set_cons_succ]
    try simp only [List.set_cons_zero]
    refine wpAnyB_take (i := 14) (v := (.slice (some ⟨g, 0, none⟩) (l.length - (i + 1)) 0)) rfl (by kernel_rfl) (by kernel_rfl) (by kernel_rfl) (by kernel_rfl) (by kernel_rfl) (fun _ _ _ h => h) (Or.inl ⟨by kernel_rfl, fun W hSW => by go_simp; try with_reducible rfl⟩) (by assumption) ?_
    try simp only [List.getElem_toArray]
    try simp only [List.getElem_cons_succ]
    try simp only [List.getElem_cons_zero]
    try simp only [Act.put]
    try simp only [List.setIfInBounds_toArray]
    try simp only [List.set_cons_succ]
    try simp only [List.set_cons_zero]
    refine wpAnyB_ready (rs := [7]) (by kernel_rfl) (by simp) ?_
    refine AllReadyB.cons rfl (fun K hK => ?_) AllReadyB.nil
    refine stepG_append rfl (.const (.slice none 0 0)) (.tmp 55) 34 rfl (.slice none 0 0) (.slice (some ⟨g, 0, none⟩) i (i + 1)) rfl rfl (hrun2 _) ?_
    refine hK.out _ _ (hB2) (fun _ => ?_)
    clear hK K
    try simp only [List.getElem_toArray]
    try simp only [List.getElem_cons_succ]
    try simp only [List.getElem_cons_zero]
    try simp only [Act.put]
    try simp only [List.setIfInBounds_toArray]
    try simp only [List.set_cons_succ]
    try simp only [List.set_cons_zero]
    refine wpAnyB_ready (rs := [15]) (by kernel_rfl) (by simp) ?_
    refine AllReadyB.cons rfl (fun K hK => ?_) AllReadyB.nil
    refine stepG_append rfl (.tmp 56) (.tmp 63) 34 rfl (.slice p2 n2 cap2) (.slice (some ⟨g, 0, none⟩) (l.length - (i + 1)) 0) rfl rfl (hrun3 _) ?_
    refine hK.out _ _ (hB3) (fun _ => ?_)
    clear hK K
    try simp only [List.getElem_toArray]
    try simp only [List.getElem_cons_succ]
    try simp only [List.getElem_cons_zero]
    try simp only [Act.put]
    try simp only [List.setIfInBounds_toArray]
    try simp only [List.set_cons_succ]
    try simp only [List.set_cons_zero]
    refine wpAnyB_take (i := 16) (v := ?_) rfl (by kernel_rfl) (by kernel_rfl) (by kernel_rfl) (by kernel_rfl) (by kernel_rfl) (fun _ _ _ h => h) (Or.inl ⟨by kernel_rfl, fun W hSW => by go_simp; try with_reducible rfl⟩) (by assumption) ?_
    try simp only [List.getElem_toArray]
    try simp only [List.getElem_cons_succ]
    try simp only [List.getElem_cons_zero]
    try simp only [Act.put]
    try simp only [List.setIfInBounds_toArray]
    try simp only [List.set_cons_succ]
    try simp only [List.set_cons_zero]
    refine wpAnyB_take (i := 17) (v := ?_) rfl (by kernel_rfl) (by kernel_rfl) (by kernel_rfl) (by kernel_rfl) (by kernel_rfl) (fun _ _ _ h => h) (Or.inl ⟨by kernel_rfl, fun W hSW => by go_simp; try with_reducible rfl⟩) (by assumption) ?_
    try simp only [List.getElem_toArray]
    try simp only [List.getElem_cons_succ]
    try simp only [List.getElem_cons_zero]
    try simp only [Act.put]
    try simp only [List.setIfInBounds_toArray]
    try simp only [List.set_cons_succ]
    try simp only [List.set_cons_zero]
    refine wpAnyB_ready (rs := [18]) (by kernel_rfl) (by simp) ?_
    refine AllReadyB.end rfl (fun K hK => ?_)
    go_simp
    refine hK.out _ _ (trivial) (fun _ => ?_)
    clear hK K
    try simp only [List.getElem_toArray]
    try simp only [List.getElem_cons_succ]
    try simp only [List.getElem_cons_zero]
    try simp only [Act.put]
    try simp only [List.setIfInBounds_toArray]
    try simp only [List.set_cons_succ]
    try simp only [List.set_cons_zero]
    refine wpAnyB_done (by kernel_rfl) ?_ _
    clear g2 c2 hB1 hSd hB2 hB3 hrun2 hrun3 hK2 hK3 f3 d3 kd
    go_wp2
    go_ret
    exact ⟨rfl, ⟨_, H4.out⟩, K4.out⟩
  · rw [if_neg hcap0] at hrun3
    refine wp_region_but (S := StB b limit calm (.slice (some ⟨g, 0, none⟩) l.length cap)) 18 (by kernel_rfl) (hB1) (fun hSd => ?_)
    refine wpAnyB_take (i := 0) (v := ?_) rfl (by kernel_rfl) (by kernel_rfl) (by kernel_rfl) (by kernel_rfl) (by kernel_rfl) (fun _ _ _ h => h) (Or.inl ⟨by kernel_rfl, fun W hSW => by go_simp; try with_reducible rfl⟩) (by assumption) ?_
    try simp only [List.getElem_toArray]
    try simp only [List.getElem_cons_succ]
    try simp only [List.getElem_cons_zero]
    try simp only [Act.put]
    try simp only [List.setIfInBounds_toArray]
    try simp only [List.set_cons_succ]
    try simp only [List.set_cons_zero]
    refine wpAnyB_take (i := 1) (v := ?_) rfl (by kernel_rfl) (by kernel_rfl) (by kernel_rfl) (by kernel_rfl) (by kernel_rfl) (fun _ _ _ h => h) (Or.inl ⟨by kernel_rfl, fun W hSW => by go_simp; try with_reducible rfl⟩) (by assumption) ?_
    try simp only [List.getElem_toArray]
    try simp only [List.getElem_cons_succ]
    try simp only [List.getElem_cons_zero]
    try simp only [Act.put]
    try simp only [List.setIfInBounds_toArray]
    try simp only [List.set_cons_succ]
    try simp only [List.set_cons_zero]
    refine wpAnyB_take (i := 2) (v := ?_) rfl (by kernel_rfl) (by kernel_rfl) (by kernel_rfl) (by kernel_rfl) (by kernel_rfl) (fun _ _ _ h => h) (Or.inl ⟨by kernel_rfl, fun W hSW => by go_simp; try with_reducible rfl⟩) (by assumption) ?_
    try simp only [List.getElem_toArray]
    try simp only [List.getElem_cons_succ]
    try simp only [List.getElem_cons_zero]
    try simp only [Act.put]
    try simp only [List.setIfInBounds_toArray]
    try simp only [List.set_cons_succ]
    try simp only [List.set_cons_zero]
    refine wpAnyB_take (i := 3) (v := ?_) rfl (by kernel_rfl) (by kernel_rfl) (by kernel_rfl) (by kernel_rfl) (by kernel_rfl) (fun _ _ _ h => h) (Or.inl ⟨by kernel_rfl, fun W hSW => by go_simp; try with_reducible rfl⟩) (by assumption) ?_
    try simp only [List.getElem_toArray]
    try simp only [List.getElem_cons_succ]
    try simp only [List.getElem_cons_zero]
    try simp only [Act.put]
    try simp only [List.setIfInBounds_toArray]
    try simp only [List.set_cons_succ]
    try simp only [List.set_cons_zero]
    refine wpAnyB_take (i := 4) (v := ?_) rfl (by kernel_rfl) (by kernel_rfl) (by kernel_rfl) (by kernel_rfl) (by kernel_rfl) (fun _ _ _ h => h) (Or.inl ⟨by kernel_rfl, fun W hSW => by go_simp; try with_reducible rfl⟩) (by assumption) ?_
    try simp only [List.getElem_toArray]
    try simp only [List.getElem_cons_succ]
    try simp only [List.getElem_cons_zero]
    try simp only [Act.put]
    try simp only [List.setIfInBounds_toArray]
    try simp only [List.set_cons_succ]
    try simp only [List.set_cons_zero]
    refine wpAnyB_take (i := 5) (v := ?_) rfl (by kernel_rfl) (by kernel_rfl) (by kernel_rfl) (by kernel_rfl) (by kernel_rfl) (fun _ _ _ h => h) (Or.inl ⟨by kernel_rfl, fun W hSW => by go_simp; try with_reducible rfl⟩) (by assumption) ?_
    try simp only [List.getElem_toArray]
    try simp only [List.getElem_cons_succ]
    try simp only [List.getElem_cons_zero]
    try simp only [Act.put]
    try simp only [List.setIfInBounds_toArray]
    try simp only [List.set_cons_succ]
    try simp only [List.set_cons_zero]
    refine wpAnyB_take (i := 6) (v := (.slice (some ⟨g, 0, none⟩) i cap)) rfl (by kernel_rfl) (by kernel_rfl) (by kernel_rfl) (by kernel_rfl) (by kernel_rfl) (fun _ _ _ h => h) (Or.inl ⟨by kernel_rfl, fun W hSW => by go_simp; try with_reducible rfl⟩) (by assumption) ?_
    try simp only [List.getElem_toArray]
    try simp only [List.getElem_cons_succ]
    try simp only [List.getElem_cons_zero]
    try simp only [Act.put]
    try simp only [List.setIfInBounds_toArray]
    try simp only [List.set_cons_succ]
    try simp only [List.set_cons_zero]
    refine wpAnyB_take (i := 8) (v := ?_) rfl (by kernel_rfl) (by kernel_rfl) (by kernel_rfl) (by kernel_rfl) (by kernel_rfl) (fun _ _ _ h => h) (Or.inl ⟨by kernel_rfl, fun W hSW => by go_simp; try with_reducible rfl⟩) (by assumption) ?_
    try simp only [List.getElem_toArray]
    try simp only [List.getElem_cons_succ]
    try simp only [List.getElem_cons_zero]
    try simp only [Act.put]
    try simp only [List.setIfInBounds_toArray]
    try simp only [List.set_cons_succ]
    try simp only [List.set_cons_zero]
    refine wpAnyB_take (i := 9) (v := ?_) rfl (by kernel_rfl) (by kernel_rfl) (by kernel_rfl) (by kernel_rfl) (by kernel_rfl) (fun _ _ _ h => h) (Or.inl ⟨by kernel_rfl, fun W hSW => by go_simp; try with_reducible rfl⟩) (by assumption) ?_
    try simp only [List.getElem_toArray]
    try simp only [List.getElem_cons_succ]
    try simp only [List.getElem_cons_zero]
    try simp only [Act.put]
    try simp only [List.setIfInBounds_toArray]
    try simp only [List.set_cons_succ]
    try simp only [List.set_cons_zero]
    refine wpAnyB_take (i := 10) (v := ?_) rfl (by kernel_rfl) (by kernel_rfl) (by kernel_rfl) (by kernel_rfl) (by kernel_rfl) (fun _ _ _ h => h) (Or.inl ⟨by kernel_rfl, fun W hSW => by go_simp; try with_reducible rfl⟩) (by assumption) ?_
    try simp only [List.getElem_toArray]
    try simp only [List.getElem_cons_succ]
    try simp only [List.getElem_cons_zero]
    try simp only [Act.put]
    try simp only [List.setIfInBounds_toArray]
    try simp only [List.set_cons_succ]
    try simp only [List.set_cons_zero]
    refine wpAnyB_take (i := 11) (v := ?_) rfl (by kernel_rfl) (by kernel_rfl) (by kernel_rfl) (by kernel_rfl) (by kernel_rfl) (fun _ _ _ h => h) (Or.inl ⟨by kernel_rfl, fun W hSW => by go_simp; try with_reducible rfl⟩) (by assumption) ?_
    try simp only [List.getElem_toArray]
    try simp only [List.getElem_cons_succ]
    try simp only [List.getElem_cons_zero]
    try simp only [Act.put]
    try simp only [List.setIfInBounds_toArray]
    try simp only [List.set_cons_succ]
    try simp only [List.set_cons_zero]
    refine wpAnyB_take (i := 12) (v := ?_) rfl (by kernel_rfl) (by kernel_rfl) (by kernel_rfl) (by kernel_rfl) (by kernel_rfl) (fun _ _ _ h => h) (Or.inl ⟨by kernel_rfl, fun W hSW => by go_simp; try with_reducible rfl⟩) (by assumption) ?_
    try simp only [List.getElem_toArray]
    try simp only [List.getElem_cons_succ]
    try simp only [List.getElem_cons_zero]
    try simp only [Act.put]
    try simp only [List.setIfInBounds_toArray]
    try simp only [List.set_cons_succ]
    try simp only [List.set_cons_zero]
    refine wpAnyB_take (i := 13) (v := ?_) rfl (by kernel_rfl) (by kernel_rfl) (by kernel_rfl) (by kernel_rfl) (by kernel_rfl) (fun _ _ _ h => h) (Or.inl ⟨by kernel_rfl, fun W hSW => by go_simp; try with_reducible rfl⟩) (by assumption) ?_
    try simp only [List.getElem_toArray]
    try simp only [List.getElem_cons_succ]
    try simp only [List.getElem_cons_zero]
    try simp only [Act.put]
    try simp only [List.setIfInBounds_toArray]
    try simp only [List.set_cons_succ]
    try simp only [List.set_cons_zero]
    refine wpAnyB_take (i := 14) (v := (.slice (some ⟨g, (i + 1) * 5, none⟩) (l.length - (i + 1)) (cap - (i + 1)))) rfl (by kernel_rfl) (by kernel_rfl) (by kernel_rfl) (by kernel_rfl) (by kernel_rfl) (fun _ _ _ h => h) (Or.inl ⟨by kernel_rfl, fun W hSW => by go_simp; try with_reducible rfl⟩) (by assumption) ?_
    try simp only [List.getElem_toArray]
    try simp only [List.getElem_cons_succ]
    try simp only [List.getElem_cons_zero]
    try simp only [Act.put]
    try simp only [List.setIfInBounds_toArray]
    try simp only [List.set_cons_succ]
    try simp only [List.set_cons_zero]
    refine wpAnyB_ready (rs := [7]) (by kernel_rfl) (by simp) ?_
    refine AllReadyB.cons rfl (fun K hK => ?_) AllReadyB.nil
    refine stepG_append rfl (.const (.slice none 0 0)) (.tmp 55) 34 rfl (.slice none 0 0) (.slice (some ⟨g, 0, none⟩) i cap) rfl rfl (hrun2 _) ?_
    refine hK.out _ _ (hB2) (fun _ => ?_)
    clear hK K
    try simp only [List.getElem_toArray]
    try simp only [List.getElem_cons_succ]
    try simp only [List.getElem_cons_zero]
    try simp only [Act.put]
    try simp only [List.setIfInBounds_toArray]
    try simp only [List.set_cons_succ]
    try simp only [List.set_cons_zero]
    refine wpAnyB_ready (rs := [15]) (by kernel_rfl) (by simp) ?_
    refine AllReadyB.cons rfl (fun K hK => ?_) AllReadyB.nil
    refine stepG_append rfl (.tmp 56) (.tmp 63) 34 rfl (.slice p2 n2 cap2) (.slice (some ⟨g, (i + 1) * 5, none⟩) (l.length - (i + 1)) (cap - (i + 1))) rfl rfl (hrun3 _) ?_
    refine hK.out _ _ (hB3) (fun _ => ?_)
    clear hK K
    try simp only [List.getElem_toArray]
    try simp only [List.getElem_cons_succ]
    try simp only [List.getElem_cons_zero]
    try simp only [Act.put]
    try simp only [List.setIfInBounds_toArray]
    try simp only [List.set_cons_succ]
    try simp only [List.set_cons_zero]
    refine wpAnyB_take (i := 16) (v := ?_) rfl (by kernel_rfl) (by kernel_rfl) (by kernel_rfl) (by kernel_rfl) (by kernel_rfl) (fun _ _ _ h => h) (Or.inl ⟨by kernel_rfl, fun W hSW => by go_simp; try with_reducible rfl⟩) (by assumption) ?_
    try simp only [List.getElem_toArray]
    try simp only [List.getElem_cons_succ]
    try simp only [List.getElem_cons_zero]
    try simp only [Act.put]
    try simp only [List.setIfInBounds_toArray]
    try simp only [List.set_cons_succ]
    try simp only [List.set_cons_zero]
    refine wpAnyB_take (i := 17) (v := ?_) rfl (by kernel_rfl) (by kernel_rfl) (by kernel_rfl) (by kernel_rfl) (by kernel_rfl) (fun _ _ _ h => h) (Or.inl ⟨by kernel_rfl, fun W hSW => by go_simp; try with_reducible rfl⟩) (by assumption) ?_
    try simp only [List.getElem_toArray]
    try simp only [List.getElem_cons_succ]
    try simp only [List.getElem_cons_zero]
    try simp only [Act.put]
    try simp only [List.setIfInBounds_toArray]
    try simp only [List.set_cons_succ]
    try simp only [List.set_cons_zero]
    refine wpAnyB_ready (rs := [18]) (by kernel_rfl) (by simp) ?_
    refine AllReadyB.end rfl (fun K hK => ?_)
    go_simp
    refine hK.out _ _ (trivial) (fun _ => ?_)
    clear hK K
    try simp only [List.getElem_toArray]
    try simp only [List.getElem_cons_succ]
    try simp only [List.getElem_cons_zero]
    try simp only [Act.put]
    try simp only [List.setIfInBounds_toArray]
    try simp only [List.set_cons_succ]
    try simp only [List.set_cons_zero]
    refine wpAnyB_done (by kernel_rfl) ?_ _
    clear g2 c2 hB1 hSd hB2 hB3 hrun2 hrun3 hK2 hK3 f3 d3 kd
    go_wp2
    go_ret
    exact ⟨rfl, ⟨_, H4.out⟩, K4.out⟩

/-- Set, at whatever store. -/
theorem rSet_any (h : SrIn w base b v limit calm l) (hb : base ≤ w.heap.size) (hl : FewK l) (s x : ByteArray) (hs : s.size ≤ 1000000) (hx : x.size ≤ 1000000) :
    Calls Tryd.prog 9 #[.pointer (some ⟨b, 0, none⟩), .string s, .string x] w fun e w' => e = .returned (.int .i64 (setK l s x).1) ∧ SrAt w' base b limit calm (setK l s x).2 ∧ SrK base b w w' := by
  unfold setK
  by_cases q : 60 < s.size ∨ 60 < x.size
  · rw [if_pos q]
    exact (rSet_still h hl s x hs hx 2 (Or.inl ⟨q, rfl⟩)).mono fun _ _ ⟨he, hk⟩ => ⟨he, ⟨_, h.kept0 hk⟩, SrK.none hk⟩
  · rw [if_neg q]
    cases hf : findK l (splitF s) with
    | none =>
      simp only
      by_cases q2 : 100 ≤ l.length
      · rw [if_pos q2]
        exact (rSet_still h hl s x hs hx 10 (Or.inr ⟨by omega, hf, Or.inl ⟨q2, rfl⟩⟩)).mono fun _ _ ⟨he, hk⟩ => ⟨he, ⟨_, h.kept0 hk⟩, SrK.none hk⟩
      · rw [if_neg q2]
        by_cases q3 : x.size = 0
        · rw [if_pos q3]
          exact (rSet_still h hl s x hs hx 0 (Or.inr ⟨by omega, hf, Or.inr ⟨by omega, q3, rfl⟩⟩)).mono fun _ _ ⟨he, hk⟩ => ⟨he, ⟨_, h.kept0 hk⟩, SrK.none hk⟩
        · rw [if_neg q3]
          exact rSet_new h hb hl s x (by omega) (by omega) q3 hf (by omega)
    | some i =>
      simp only
      by_cases q3 : x.size = 0
      · rw [if_pos q3]
        obtain rfl := str_nil x q3
        exact rSet_gone h hb hl s (by omega) i hf
      · rw [if_neg q3]
        obtain ⟨k, hk, _⟩ := findK_some hf
        rw [modify_set l i k hk]
        exact rSet_turn h hl s x (by omega) (by omega) q3 i k hf hk
end
end Go.Proofs.YtmbdjgfbhblifaaDoor
