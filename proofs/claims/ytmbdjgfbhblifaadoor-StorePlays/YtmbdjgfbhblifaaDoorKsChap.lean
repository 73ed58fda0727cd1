/- The contract of the program's store's Chap: a try by a proof; the tables of the digest stand. -/
import Derived.Test.YtmbdjgfbhblifaaDoorKsJudgeC
import Derived.Test.YtmbdjgfbhblifaaDoorKsPap
import Derived.Test.YtmbdjgfbhblifaaDoorCaK
namespace Go.Proofs.YtmbdjgfbhblifaaDoor
open Go.RowKit

theorem chapK_wide (i : Int) (s v : ByteArray) (hs : s.size ≤ 1000000) (hv : v.size ≤ 1000000) (W : World) (hT : Tables W) :
    Calls Tryd.prog 19 #[.int .i64 i, .string s, .string v] W fun e w' => e = .returned (.string (chapK i s v)) ∧ Kept (fun _ => False) W w' :=
  (chap_any i s v (by omega) (by omega) W hT).mono fun _ _ ⟨he, hb⟩ => ⟨he, Kept.of_below hb (fun i h3 h4 => by omega)⟩

set_option maxHeartbeats 1000000 in
set_option maxRecDepth 100000 in
theorem chapFn_any (bx b2 b3 : Nat) (x v y : ByteArray) (id : Int) (hx : x.size ≤ 1000000) (hv : v.size ≤ 1000000) (hy : y.size ≤ 1000000) (W : World) (hT : Tables W) (h1 : W.cell? ⟨bx, 0, none⟩ = some (.string x)) (h2 : W.cell? ⟨b2, 0, none⟩ = some (.int .i64 id)) (h3 : W.cell? ⟨b3, 0, none⟩ = some (.string v)) :
    Calls Tryd.prog 26 #[.string y, .pointer (some ⟨bx, 0, none⟩), .pointer (some ⟨b2, 0, none⟩), .pointer (some ⟨b3, 0, none⟩)] W fun e w' => e = .returned (.bool (goodS x (chapK id y v))) ∧ Kept (fun _ => False) W w' := by
  have HS := hid (fun V => same_any x (chapK id y v) (by unfold maxLen; omega) V)
  rw [← goodS_eq x (chapK id y v)] at HS
  have HC := hid (chapK_wide id y v hy hv W.drew (tab_kept hT (Kept.refl _ W).drew))
  generalize goodS x (chapK id y v) = g at *
  generalize chapK id y v = K at *
  have k1 := lt_of_cell h1
  have k2 := lt_of_cell h2
  have k3 := lt_of_cell h3
  have q1 : ∀ X, Kept (fun _ => False) W X → X.cell? ⟨bx, 0, none⟩ = some (.string x) := fun X hk => (hk.cell (p := ⟨bx, 0, none⟩) k1 (fun h => h)).trans h1
  have q2 : ∀ X, Kept (fun _ => False) W X → X.cell? ⟨b2, 0, none⟩ = some (.int .i64 id) := fun X hk => (hk.cell (p := ⟨b2, 0, none⟩) k2 (fun h => h)).trans h2
  have q3 : ∀ X, Kept (fun _ => False) W X → X.cell? ⟨b3, 0, none⟩ = some (.string v) := fun X hk => (hk.cell (p := ⟨b3, 0, none⟩) k3 (fun h => h)).trans h3
  clear h1 h2 h3 k1 k2 k3 hT
  go_enter Tryd.func26, Tryd.ntmps26
  go_wp2_with fail
  refine wp_region_held_drew (S := Kept (fun _ => False) W) (by kernel_rfl) ((Kept.refl _ W).drew) (fun hSd => ?_)
  refine wpAnyH_take (i := 0) (v := ?_) rfl (by kernel_rfl) (by kernel_rfl) (by kernel_rfl) (fun _ _ _ h => h) (Or.inl ⟨by kernel_rfl, fun W hSW => by go_simp; try with_reducible rfl⟩) (by assumption) ?_
  try simp only [List.getElem_toArray]
  try simp only [List.getElem_cons_succ]
  try simp only [List.getElem_cons_zero]
  try simp only [Act.put]
  try simp only [List.setIfInBounds_toArray]
  try simp only [List.set_cons_succ]
  try simp only [List.set_cons_zero]
  refine wpAnyH_take (i := 1) (v := ?_) rfl (by kernel_rfl) (by kernel_rfl) (by kernel_rfl) (fun _ _ _ h => h) (Or.inl ⟨by kernel_rfl, fun W hSW => by go_simp; try with_reducible rfl⟩) (by assumption) ?_
  try simp only [List.getElem_toArray]
  try simp only [List.getElem_cons_succ]
  try simp only [List.getElem_cons_zero]
  try simp only [Act.put]
  try simp only [List.setIfInBounds_toArray]
  try simp only [List.set_cons_succ]
  try simp only [List.set_cons_zero]
  refine wpAnyH_take (i := 2) (v := ?_) rfl (by kernel_rfl) (by kernel_rfl) (by kernel_rfl) (fun _ _ _ h => h) (Or.inl ⟨by kernel_rfl, fun W hSW => by go_simp; try with_reducible rfl⟩) (by assumption) ?_
  try simp only [List.getElem_toArray]
  try simp only [List.getElem_cons_succ]
  try simp only [List.getElem_cons_zero]
  try simp only [Act.put]
  try simp only [List.setIfInBounds_toArray]
  try simp only [List.set_cons_succ]
  try simp only [List.set_cons_zero]
  refine wpAnyH_take (i := 3) (v := ?_) rfl (by kernel_rfl) (by kernel_rfl) (by kernel_rfl) (fun _ _ _ h => h) (Or.inl ⟨by kernel_rfl, fun W hSW => by go_simp; try with_reducible rfl⟩) (by assumption) ?_
  try simp only [List.getElem_toArray]
  try simp only [List.getElem_cons_succ]
  try simp only [List.getElem_cons_zero]
  try simp only [Act.put]
  try simp only [List.setIfInBounds_toArray]
  try simp only [List.set_cons_succ]
  try simp only [List.set_cons_zero]
  refine wpAnyH_ready (rs := [4]) (by kernel_rfl) (by simp) ?_
  refine AllReadyH.cons rfl (fun K hK => ?_) AllReadyH.nil
  go_simp
  refine HC.out.mono ?_
  rintro e w1 ⟨rfl, hk1⟩
  have hk2 : Kept (fun _ => False) W w1 := (Kept.refl (fun _ => False) W).drew.trans hk1
  clear hk1
  refine hK.out _ _ (hk2) (fun _ => ?_)
  clear hK K
  try simp only [List.getElem_toArray]
  try simp only [List.getElem_cons_succ]
  try simp only [List.getElem_cons_zero]
  try simp only [Act.put]
  try simp only [List.setIfInBounds_toArray]
  try simp only [List.set_cons_succ]
  try simp only [List.set_cons_zero]
  refine wpAnyH_ready (rs := [5]) (by kernel_rfl) (by simp) ?_
  refine AllReadyH.cons rfl (fun K hK => ?_) AllReadyH.nil
  go_simp
  refine (HS.out _).mono ?_
  rintro e w2 ⟨rfl, hb⟩
  have hk3 : Kept (fun _ => False) W w2 := hk2.trans (Kept.of_below hb (fun i h3 h4 => by omega))
  clear hb
  refine hK.out _ _ (hk3) (fun _ => ?_)
  clear hK K
  try simp only [List.getElem_toArray]
  try simp only [List.getElem_cons_succ]
  try simp only [List.getElem_cons_zero]
  try simp only [Act.put]
  try simp only [List.setIfInBounds_toArray]
  try simp only [List.set_cons_succ]
  try simp only [List.set_cons_zero]
  refine wpAnyH_take (i := 6) (v := ?_) rfl (by kernel_rfl) (by kernel_rfl) (by kernel_rfl) (fun _ _ _ h => h) (Or.inl ⟨by kernel_rfl, fun W hSW => by go_simp; try with_reducible rfl⟩) (by assumption) ?_
  try simp only [List.getElem_toArray]
  try simp only [List.getElem_cons_succ]
  try simp only [List.getElem_cons_zero]
  try simp only [Act.put]
  try simp only [List.setIfInBounds_toArray]
  try simp only [List.set_cons_succ]
  try simp only [List.set_cons_zero]
  refine wpAnyH_done (by kernel_rfl) ?_ _
  go_wp2
  go_ret
  exact ⟨rfl, hk3⟩

section
variable {w : World} {base b : Nat} {m : Option Nat} {limit calm : Int} {A : Ab}
set_option maxHeartbeats 1000000 in
set_option maxRecDepth 100000 in
theorem chapS_any (h : KsIn w base b m limit calm A) (hc : 0 ≤ calm ∧ calm ≤ 1000000) (hA : FewA A) (hT : Tables w) (s v x : ByteArray) (id : Int) (hs : s.size ≤ 1000000) (hv : v.size ≤ 1000000) (hx : x.size ≤ 1000000) (time : Int) (ht : In64 time) :
    Calls Tryd.prog 12 #[.pointer (some ⟨b, 0, none⟩), .string s, .int .i64 id, .string v, .string x, .int .i64 time] w fun e w' => e = .returned (.int .i64 (tryP limit calm A s (fun y => goodS x (chapK id y v)) time).1) ∧ KsAt w' base b limit calm (tryP limit calm A s (fun y => goodS x (chapK id y v)) time).2 ∧ KsK base b w w' := by
  obtain ⟨W1, hW1⟩ : ∃ W1, W1 = w.alloc (.cells #[.int .i64 id] 3) := ⟨_, rfl⟩
  obtain ⟨W2, hW2⟩ : ∃ W2, W2 = W1.alloc (.cells #[.string v] 9) := ⟨_, rfl⟩
  obtain ⟨W3, hW3⟩ : ∃ W3, W3 = W2.alloc (.cells #[.string x] 9) := ⟨_, rfl⟩
  have k1 : Kept (fun _ => False) w W1 := hW1 ▸ (Kept.refl _ w).alloc _
  have k2 : Kept (fun _ => False) W1 W2 := hW2 ▸ (Kept.refl _ W1).alloc _
  have k3 : Kept (fun _ => False) W2 W3 := hW3 ▸ (Kept.refl _ W2).alloc _
  have b1 : W1.heap[w.heap.size]? = some (.cells #[.int .i64 id] 3 (0, 0)) := hW1 ▸ heap_alloc_new w _
  have b2 : W2.heap[W1.heap.size]? = some (.cells #[.string v] 9 (0, 0)) := hW2 ▸ heap_alloc_new W1 _
  have b3 : W3.heap[W2.heap.size]? = some (.cells #[.string x] 9 (0, 0)) := hW3 ▸ heap_alloc_new W2 _
  have s1 : W1.heap.size = w.heap.size + 1 := by rw [hW1]; simp
  have s2 : W2.heap.size = w.heap.size + 1 + 1 := by rw [hW2, ← s1]; simp
  have K := hid ((k1.trans k2).trans k3)
  have c1 : W3.heap[w.heap.size]? = some (.cells #[.int .i64 id] 3 (0, 0)) := ((k2.trans k3).block _ (by omega) (fun h => h)).trans b1
  have c2 : W3.heap[w.heap.size + 1]? = some (.cells #[.string v] 9 (0, 0)) := by
    rw [← s1]
    exact (k3.block _ (by omega) (fun h => h)).trans b2
  have c3 : W3.heap[w.heap.size + 1 + 1]? = some (.cells #[.string x] 9 (0, 0)) := by
    rw [← s2]
    exact b3
  have hcell : ∀ (W : World) (j : Nat) (u : Value) (t : TypeId), Kept (fun _ => False) W3 W → W3.heap[j]? = some (.cells #[u] t (0, 0)) → W.cell? ⟨j, 0, none⟩ = some u := fun W j u t hk hj => by
    have e1 := (hk.block j (Array.getElem?_eq_some_iff.1 hj).1 (fun h => h)).trans hj
    simp [World.cell?, e1]
  have HJ : Hid _ := hid (judge_chap (h.kept0 K.out) hc hA s hs time ht (w.heap.size + 1 + 1) w.heap.size (w.heap.size + 1) (fun y => goodS x (chapK id y v)) (fun W y hy hk => chapFn_any _ _ _ x v y id hx hv hy W (tab_kept hT (K.out.trans hk)) (hcell W _ _ _ hk c3) (hcell W _ _ _ hk c1) (hcell W _ _ _ hk c2)))
  have HE : Hid (((w.alloc (.cells #[.int .i64 id] 3)).alloc (.cells #[.string v] 9)).alloc (.cells #[.string x] 9) = W3) := by
    show ((w.alloc (.cells #[.int .i64 id] 3)).alloc (.cells #[.string v] 9)).alloc (.cells #[.string x] 9) = W3
    rw [hW3, hW2, hW1]
  clear h hA hT hcell c1 c2 c3 b1 b2 b3 k1 k2 k3 s1 s2 hW1 hW2 hW3 W1 W2
  generalize tryP limit calm A s (fun y => goodS x (chapK id y v)) time = R at *
  go_enter Tryd.func12, Tryd.ntmps12
  go_upto_region 1 with fail
  rw [HE.out]
  go_wp2_with fail
  refine HJ.out.mono ?_
  rintro e w1 ⟨rfl, h1, h2⟩
  have H1 := hid h1
  have H2 := hid ((KsK.none K.out).trans h2)
  clear h1 h2
  go_wp2
  go_ret
  exact ⟨rfl, H1.out, H2.out⟩
end
end Go.Proofs.YtmbdjgfbhblifaaDoor
