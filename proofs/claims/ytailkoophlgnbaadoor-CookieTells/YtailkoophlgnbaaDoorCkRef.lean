/- The contracts of the document's own Epoch, cookie, Make and Check: for every card and every int; service and secret have at most a million bytes each. -/
import Derived.Test.YtailkoophlgnbaaDoorCkMake
import Derived.Test.YtailkoophlgnbaaDoorCkRefLow
import Derived.Test.YtailkoophlgnbaaDoorRefMd5
import Derived.Test.YtailkoophlgnbaaDoorDigestSame
namespace Go.Proofs.YtailkoophlgnbaaDoor
open Go.RowKit

set_option maxHeartbeats 400000 in
theorem refEpoch_any (t : Int) (w : World) :
    Calls Tryd.prog 13 #[.int .i64 t] w fun e w' => e = .returned (.int .i64 (t / 64)) ∧ Below w.heap.size w w' := by
  go_enter Tryd.func13, Tryd.ntmps13
  go_wp2
  go_ret
  exact ⟨rfl, Below.refl _ _⟩

theorem SK.below {w W : World} {b : Nat} {m : List UInt8} (h : SK w b m W) : Below w.heap.size w W := h.2.2
theorem MacAt.conv {W : World} {b : Nat} {m : List UInt8} (h : MacAt W b m) (hm : m.length = 6) : (convert 34 9 (.slice (some ⟨b, 0, none⟩) 6 6)).run Tryd.prog W = .ok (.string ⟨m.toArray⟩) W := by
  have hb := run_convert_bytes_arg (P := Tryd.prog) W 34 5 Tryd.underlying34 Tryd.underlying5 b 0 6 6 (m.map fun b => (b.toNat : Int)) (by simp [hm]) (fun i hi => by
    rw [Nat.zero_add, cell_of_row _ b i (Lib.byteCells m).toArray _ _ h]
    simp [Lib.byteCells, List.getElem?_eq_getElem (show i < m.length by omega)]) 9 Tryd.underlying9
  rw [hb]
  congr 2
  apply ByteArray.ext
  apply Array.toList_inj.1
  rw [strOfNums_data, List.map_map]
  refine (List.map_congr_left (g := id) ?_).trans (List.map_id m)
  intro x _
  simp

set_option maxHeartbeats 2000000 in
theorem refCookie_any (secret service : ByteArray) (m : List UInt8) (hm : m.length = 6) (e : Int) (he1 : -9223372036854775808 ≤ e) (he2 : e ≤ 9223372036854775807) (hs : secret.size ≤ 1000000) (hv : service.size ≤ 1000000) (w : World) (hT : Tables w) :
    Calls Tryd.prog 18 #[.string secret, .agg (Lib.byteCells m).toArray, .string service, .int .i64 e] w fun r w' => r = .returned (.string ⟨(bakeF secret.data.toList m service.data.toList e).toArray⟩) ∧ Below w.heap.size w w' := by
  obtain ⟨A, hA⟩ : ∃ A : ByteArray, A = ⟨(low (e % 18446744073709551616).toNat 8).toArray⟩ := ⟨_, rfl⟩
  obtain ⟨B, hB⟩ : ∃ B : ByteArray, B = ⟨(low service.size 4).toArray⟩ := ⟨_, rfl⟩
  obtain ⟨M, hM⟩ : ∃ M : ByteArray, M = ⟨m.toArray⟩ := ⟨_, rfl⟩
  have hAs : A.size ≤ 8 := by rw [hA, Lib.size_eq]; exact Nat.le_of_eq (low_length _ _)
  have hBs : B.size ≤ 4 := by rw [hB, Lib.size_eq]; exact Nat.le_of_eq (low_length _ _)
  have hMs : M.size ≤ 6 := by rw [hM, Lib.size_eq]; exact Nat.le_of_eq hm
  have h8 : ∀ W, Calls Tryd.prog 27 #[.int .i64 e, .int .i64 8] W fun r w' => r = .returned (.string A) ∧ Below W.heap.size W w' := fun W => by rw [hA]; exact refLowI_any e he1 he2 8 (by decide) (by decide) W
  have h4 : ∀ W, Calls Tryd.prog 27 #[.int .i64 (service.size : Int), .int .i64 4] W fun r w' => r = .returned (.string B) ∧ Below W.heap.size W w' := fun W => by
    have h := refLowI_any (service.size : Int) (by omega) (by omega) 4 (by decide) (by decide) W
    rw [show (((service.size : Int) % 18446744073709551616).toNat) = service.size by omega] at h
    rw [hB]
    exact h
  have eD : md5F (A ++ M ++ B ++ service ++ secret).data.toList = bakeF secret.data.toList m service.data.toList e := by
    unfold bakeF bakeL
    rw [hA, hB, hM, ← Lib.size_eq]
    simp only [ByteArray.data_append, Array.toList_append]
  have hmd := refMd5_any (A ++ M ++ B ++ service ++ secret) (by simp only [ByteArray.size_append]; omega)
  rw [eD] at hmd
  have htx := refText_any (bakeF secret.data.toList m service.data.toList e) (bakeF_length _ _ _ _)
  have hcv : ∀ W, SK w w.heap.size m W → (convert 34 9 (.slice (some ⟨w.heap.size, 0, none⟩) 6 6)).run Tryd.prog W = .ok (.string M) W := fun W h => by rw [hM]; exact h.2.1.conv hm
  have HS := hide (SK.first (m := m) hT)
  generalize bakeF secret.data.toList m service.data.toList e = D at hmd htx ⊢
  generalize (Lib.byteCells m).toArray = xs at HS ⊢
  have H8 : Ans 27 #[.int .i64 e, .int .i64 8] (.string A) := ⟨fun W _ => h8 W⟩
  have H4 : Ans 27 #[.int .i64 (service.size : Int), .int .i64 4] (.string B) := ⟨fun W _ => h4 W⟩
  have HM : Ans 26 #[.string (A ++ M ++ B ++ service ++ secret)] _ := ⟨fun W _ => hmd W⟩
  have HX : Ans 25 #[.agg (Lib.byteCells D).toArray] _ := ⟨fun W _ => htx W⟩
  have q1 : ¬ (9223372036854775807 < A.size + M.size) := by omega
  have q2 : ¬ (9223372036854775807 < A.size + M.size + B.size) := by omega
  have q3 : ¬ (9223372036854775807 < A.size + M.size + B.size + service.size) := by omega
  have q4 : ¬ (9223372036854775807 < A.size + M.size + B.size + service.size + secret.size) := by omega
  clear h8 h4 hmd htx hA hB hM eD hm hT
  go_enter Tryd.func18, Tryd.ntmps18
  go_wp2
  have hS0 : SK w w.heap.size m (w.alloc (.cells xs 23)).drew := HS.out.drew
  go_region_held3 (SK w w.heap.size m) (assumption) ((refine (SK.ans (by assumption) (by assumption)).mono ?_; rintro e w2 ⟨rfl, hb2⟩))
  all_goals
    go_wp2
    go_ret
    exact ⟨rfl, SK.below (by assumption)⟩

set_option maxHeartbeats 1000000 in
theorem refMake_any (secret service : ByteArray) (m : List UInt8) (hm : m.length = 6) (t : Int) (ht1 : -9223372036854775808 ≤ t) (ht2 : t ≤ 9223372036854775807) (hs : secret.size ≤ 1000000) (hv : service.size ≤ 1000000) (w : World) (hT : Tables w) :
    Calls Tryd.prog 9 #[.string secret, .agg (Lib.byteCells m).toArray, .string service, .int .i64 t] w fun r w' => r = .returned (.string ⟨(makeF secret.data.toList m service.data.toList t).toArray⟩) ∧ Below w.heap.size w w' := by
  have hbk := fun (W : World) (h : Tables W) => refCookie_any secret service m hm (t / 64) (by omega) (by omega) hs hv W h
  have HS := hide (SK.first (m := m) hT)
  obtain ⟨x0, x1, x2, x3, x4, x5, hx⟩ := six hm
  have h0 : ∀ W, SK w w.heap.size m W → W.cell? ⟨w.heap.size, 0, none⟩ = some x0 := fun W h => (h.six hx).c0
  have h1 : ∀ W, SK w w.heap.size m W → W.cell? ⟨w.heap.size, 1, none⟩ = some x1 := fun W h => (h.six hx).c1
  have h2 : ∀ W, SK w w.heap.size m W → W.cell? ⟨w.heap.size, 2, none⟩ = some x2 := fun W h => (h.six hx).c2
  have h3 : ∀ W, SK w w.heap.size m W → W.cell? ⟨w.heap.size, 3, none⟩ = some x3 := fun W h => (h.six hx).c3
  have h4 : ∀ W, SK w w.heap.size m W → W.cell? ⟨w.heap.size, 4, none⟩ = some x4 := fun W h => (h.six hx).c4
  have h5 : ∀ W, SK w w.heap.size m W → W.cell? ⟨w.heap.size, 5, none⟩ = some x5 := fun W h => (h.six hx).c5
  rw [hx] at hbk HS ⊢
  unfold makeF
  generalize bakeF secret.data.toList m service.data.toList (t / 64) = D at hbk ⊢
  have HBK : Ans 18 _ _ := ⟨hbk⟩
  have HEP : Ans 13 #[.int .i64 t] (.int .i64 (t / 64)) := ⟨fun W _ => refEpoch_any t W⟩
  clear hT hx hbk
  go_enter Tryd.func9, Tryd.ntmps9
  go_wp2
  have hS0 : SK w w.heap.size m (w.alloc (.cells #[x0, x1, x2, x3, x4, x5] 23)).drew := HS.out.drew
  go_region_held3 (SK w w.heap.size m) (assumption) ((refine (SK.ans (by assumption) (by assumption)).mono ?_; rintro e w2 ⟨rfl, hb2⟩))
  all_goals
    go_wp2
    go_ret
    exact ⟨rfl, SK.below (by assumption)⟩

theorem str_eq (c : ByteArray) (D : List UInt8) : (c = ⟨D.toArray⟩) ↔ c.data.toList = D := by
  constructor
  · rintro rfl; rfl
  · intro h
    apply ByteArray.ext
    apply Array.toList_inj.1
    exact h

set_option maxHeartbeats 2000000 in
theorem refCheck_yes (secret service c X1 : ByteArray) (m : List UInt8) (t e0 : Int) (x0 x1 x2 x3 x4 x5 : Value) (w : World)
    (HS : Hid (SK w w.heap.size m (w.alloc (.cells #[x0, x1, x2, x3, x4, x5] 23))))
    (h0 : ∀ W, SK w w.heap.size m W → W.cell? ⟨w.heap.size, 0, none⟩ = some x0) (h1 : ∀ W, SK w w.heap.size m W → W.cell? ⟨w.heap.size, 1, none⟩ = some x1) (h2 : ∀ W, SK w w.heap.size m W → W.cell? ⟨w.heap.size, 2, none⟩ = some x2)
    (h3 : ∀ W, SK w w.heap.size m W → W.cell? ⟨w.heap.size, 3, none⟩ = some x3) (h4 : ∀ W, SK w w.heap.size m W → W.cell? ⟨w.heap.size, 4, none⟩ = some x4) (h5 : ∀ W, SK w w.heap.size m W → W.cell? ⟨w.heap.size, 5, none⟩ = some x5)
    (HB1 : Ans 18 #[.string secret, .agg #[x0, x1, x2, x3, x4, x5], .string service, .int .i64 e0] (.string X1)) (HEP : Ans 13 #[.int .i64 t] (.int .i64 e0))
    (hq3 : (c.toList == X1.toList) = true) :
    Calls Tryd.prog 11 #[.string secret, .agg #[x0, x1, x2, x3, x4, x5], .string service, .string c, .int .i64 t] w fun r w' => r = .returned (.bool true) ∧ Below w.heap.size w w' := by
  go_enter Tryd.func11, Tryd.ntmps11
  go_wp2
  have hS0 : SK w w.heap.size m (w.alloc (.cells #[x0, x1, x2, x3, x4, x5] 23)).drew := HS.out.drew
  refine wp_region_held_drew (S := SK w w.heap.size m) (by kernel_rfl) hS0 (fun hSd => ?_)
  refine wpAnyH_take (i := 0) (v := ?_) rfl (by kernel_rfl) (by kernel_rfl) (by kernel_rfl) (fun _ _ _ h => h) (Or.inl ⟨by kernel_rfl, fun W hSW => by go_simp; try with_reducible rfl⟩) (by assumption) ?_
  try simp only [List.getElem_toArray]
  try simp only [List.getElem_cons_succ]
  try simp only [List.getElem_cons_zero]
  try simp only [Act.put]
  try simp only [List.setIfInBounds_toArray]
  try simp only [List.set_cons_succ]
  try simp only [List.set_cons_zero]
  refine wpAnyH_take (i := 1) (v := ?_) rfl (by kernel_rfl) (by kernel_rfl) (by kernel_rfl) (fun _ _ _ h => h) (Or.inl ⟨by kernel_rfl, fun W hSW => by go_simp; try with_reducible rfl⟩) (by assumption) ?_
  try simp only [List.getElem_toArray]
  try simp only [List.getElem_cons_succ]
  try simp only [List.getElem_cons_zero]
  try simp only [Act.put]
  try simp only [List.setIfInBounds_toArray]
  try simp only [List.set_cons_succ]
  try simp only [List.set_cons_zero]
  refine wpAnyH_take (i := 2) (v := ?_) rfl (by kernel_rfl) (by kernel_rfl) (by kernel_rfl) (fun _ _ _ h => h) (Or.inl ⟨by kernel_rfl, fun W hSW => by go_simp; try with_reducible rfl⟩) (by assumption) ?_
  try simp only [List.getElem_toArray]
  try simp only [List.getElem_cons_succ]
  try simp only [List.getElem_cons_zero]
  try simp only [Act.put]
  try simp only [List.setIfInBounds_toArray]
  try simp only [List.set_cons_succ]
  try simp only [List.set_cons_zero]
  refine wpAnyH_take (i := 3) (v := ?_) rfl (by kernel_rfl) (by kernel_rfl) (by kernel_rfl) (fun _ _ _ h => h) (Or.inl ⟨by kernel_rfl, fun W hSW => by go_simp; try with_reducible rfl⟩) (by assumption) ?_
  try simp only [List.getElem_toArray]
  try simp only [List.getElem_cons_succ]
  try simp only [List.getElem_cons_zero]
  try simp only [Act.put]
  try simp only [List.setIfInBounds_toArray]
  try simp only [List.set_cons_succ]
  try simp only [List.set_cons_zero]
  refine wpAnyH_take (i := 4) (v := ?_) rfl (by kernel_rfl) (by kernel_rfl) (by kernel_rfl) (fun _ _ _ h => h) (Or.inl ⟨by kernel_rfl, fun W hSW => by go_simp; try with_reducible rfl⟩) (by assumption) ?_
  try simp only [List.getElem_toArray]
  try simp only [List.getElem_cons_succ]
  try simp only [List.getElem_cons_zero]
  try simp only [Act.put]
  try simp only [List.setIfInBounds_toArray]
  try simp only [List.set_cons_succ]
  try simp only [List.set_cons_zero]
  refine wpAnyH_ready (rs := [5]) (by kernel_rfl) (by simp) ?_
  refine AllReadyH.cons rfl (fun K hK => ?_) AllReadyH.nil
  go_simp
  refine (SK.ans (by assumption) (by assumption)).mono ?_
  rintro e w5 ⟨rfl, hS5⟩
  refine hK.out _ _ hS5 (fun _ => ?_)
  clear hK K
  try simp only [List.getElem_toArray]
  try simp only [List.getElem_cons_succ]
  try simp only [List.getElem_cons_zero]
  try simp only [Act.put]
  try simp only [List.setIfInBounds_toArray]
  try simp only [List.set_cons_succ]
  try simp only [List.set_cons_zero]
  refine wpAnyH_ready (rs := [6]) (by kernel_rfl) (by simp) ?_
  refine AllReadyH.cons rfl (fun K hK => ?_) AllReadyH.nil
  go_simp
  refine (SK.ans (by assumption) (by assumption)).mono ?_
  rintro e w6 ⟨rfl, hS6⟩
  refine hK.out _ _ hS6 (fun _ => ?_)
  clear hK K
  try simp only [List.getElem_toArray]
  try simp only [List.getElem_cons_succ]
  try simp only [List.getElem_cons_zero]
  try simp only [Act.put]
  try simp only [List.setIfInBounds_toArray]
  try simp only [List.set_cons_succ]
  try simp only [List.set_cons_zero]
  refine wpAnyH_take (i := 7) (v := ?_) rfl (by kernel_rfl) (by kernel_rfl) (by kernel_rfl) (fun _ _ _ h => h) (Or.inl ⟨by kernel_rfl, fun W hSW => by go_simp; try with_reducible rfl⟩) (by assumption) ?_
  try simp only [List.getElem_toArray]
  try simp only [List.getElem_cons_succ]
  try simp only [List.getElem_cons_zero]
  try simp only [Act.put]
  try simp only [List.setIfInBounds_toArray]
  try simp only [List.set_cons_succ]
  try simp only [List.set_cons_zero]
  refine wpAnyH_take (i := 8) (v := ?_) rfl (by kernel_rfl) (by kernel_rfl) (by kernel_rfl) (fun _ _ _ h => h) (Or.inl ⟨by kernel_rfl, fun W hSW => by go_simp; try with_reducible rfl⟩) (by assumption) ?_
  try simp only [List.getElem_toArray]
  try simp only [List.getElem_cons_succ]
  try simp only [List.getElem_cons_zero]
  try simp only [Act.put]
  try simp only [List.setIfInBounds_toArray]
  try simp only [List.set_cons_succ]
  try simp only [List.set_cons_zero]
  refine wpAnyH_take (i := 9) rfl (by kernel_rfl) (by kernel_rfl) (by kernel_rfl) (fun _ _ _ h => h) (Or.inr ⟨by kernel_rfl, rfl⟩) (by assumption) ?_
  try simp only [List.getElem_toArray]
  try simp only [List.getElem_cons_succ]
  try simp only [List.getElem_cons_zero]
  try simp only [Act.put]
  try simp only [List.setIfInBounds_toArray]
  try simp only [List.set_cons_succ]
  try simp only [List.set_cons_zero]
  refine wpAnyH_take (i := 10) rfl (by kernel_rfl) (by kernel_rfl) (by kernel_rfl) (fun _ _ _ h => h) (Or.inr ⟨by kernel_rfl, rfl⟩) (by assumption) ?_
  try simp only [List.getElem_toArray]
  try simp only [List.getElem_cons_succ]
  try simp only [List.getElem_cons_zero]
  try simp only [Act.put]
  try simp only [List.setIfInBounds_toArray]
  try simp only [List.set_cons_succ]
  try simp only [List.set_cons_zero]
  refine wpAnyH_take (i := 11) rfl (by kernel_rfl) (by kernel_rfl) (by kernel_rfl) (fun _ _ _ h => h) (Or.inr ⟨by kernel_rfl, rfl⟩) (by assumption) ?_
  try simp only [List.getElem_toArray]
  try simp only [List.getElem_cons_succ]
  try simp only [List.getElem_cons_zero]
  try simp only [Act.put]
  try simp only [List.setIfInBounds_toArray]
  try simp only [List.set_cons_succ]
  try simp only [List.set_cons_zero]
  refine wpAnyH_take (i := 12) rfl (by kernel_rfl) (by kernel_rfl) (by kernel_rfl) (fun _ _ _ h => h) (Or.inr ⟨by kernel_rfl, rfl⟩) (by assumption) ?_
  try simp only [List.getElem_toArray]
  try simp only [List.getElem_cons_succ]
  try simp only [List.getElem_cons_zero]
  try simp only [Act.put]
  try simp only [List.setIfInBounds_toArray]
  try simp only [List.set_cons_succ]
  try simp only [List.set_cons_zero]
  refine wpAnyH_take (i := 13) rfl (by kernel_rfl) (by kernel_rfl) (by kernel_rfl) (fun _ _ _ h => h) (Or.inr ⟨by kernel_rfl, rfl⟩) (by assumption) ?_
  try simp only [List.getElem_toArray]
  try simp only [List.getElem_cons_succ]
  try simp only [List.getElem_cons_zero]
  try simp only [Act.put]
  try simp only [List.setIfInBounds_toArray]
  try simp only [List.set_cons_succ]
  try simp only [List.set_cons_zero]
  refine wpAnyH_take (i := 14) rfl (by kernel_rfl) (by kernel_rfl) (by kernel_rfl) (fun _ _ _ h => h) (Or.inr ⟨by kernel_rfl, rfl⟩) (by assumption) ?_
  try simp only [List.getElem_toArray]
  try simp only [List.getElem_cons_succ]
  try simp only [List.getElem_cons_zero]
  try simp only [Act.put]
  try simp only [List.setIfInBounds_toArray]
  try simp only [List.set_cons_succ]
  try simp only [List.set_cons_zero]
  refine wpAnyH_take (i := 15) rfl (by kernel_rfl) (by kernel_rfl) (by kernel_rfl) (fun _ _ _ h => h) (Or.inr ⟨by kernel_rfl, rfl⟩) (by assumption) ?_
  try simp only [List.getElem_toArray]
  try simp only [List.getElem_cons_succ]
  try simp only [List.getElem_cons_zero]
  try simp only [Act.put]
  try simp only [List.setIfInBounds_toArray]
  try simp only [List.set_cons_succ]
  try simp only [List.set_cons_zero]
  refine wpAnyH_take (i := 16) rfl (by kernel_rfl) (by kernel_rfl) (by kernel_rfl) (fun _ _ _ h => h) (Or.inr ⟨by kernel_rfl, rfl⟩) (by assumption) ?_
  try simp only [List.getElem_toArray]
  try simp only [List.getElem_cons_succ]
  try simp only [List.getElem_cons_zero]
  try simp only [Act.put]
  try simp only [List.setIfInBounds_toArray]
  try simp only [List.set_cons_succ]
  try simp only [List.set_cons_zero]
  refine wpAnyH_take (i := 17) rfl (by kernel_rfl) (by kernel_rfl) (by kernel_rfl) (fun _ _ _ h => h) (Or.inr ⟨by kernel_rfl, rfl⟩) (by assumption) ?_
  try simp only [List.getElem_toArray]
  try simp only [List.getElem_cons_succ]
  try simp only [List.getElem_cons_zero]
  try simp only [Act.put]
  try simp only [List.setIfInBounds_toArray]
  try simp only [List.set_cons_succ]
  try simp only [List.set_cons_zero]
  refine wpAnyH_take (i := 18) (v := .bool true) rfl (by kernel_rfl) (by kernel_rfl) (by kernel_rfl) (fun _ _ _ h => h) (Or.inl ⟨by kernel_rfl, fun W hSW => by go_simp; try with_reducible rfl⟩) (by assumption) ?_
  try simp only [List.getElem_toArray]
  try simp only [List.getElem_cons_succ]
  try simp only [List.getElem_cons_zero]
  try simp only [Act.put]
  try simp only [List.setIfInBounds_toArray]
  try simp only [List.set_cons_succ]
  try simp only [List.set_cons_zero]
  refine wpAnyH_take (i := 19) (v := .bool true) rfl (by kernel_rfl) (by kernel_rfl) (by kernel_rfl) (fun _ _ _ h => h) (Or.inl ⟨by kernel_rfl, fun W hSW => by go_simp; try with_reducible rfl⟩) (by assumption) ?_
  try simp only [List.getElem_toArray]
  try simp only [List.getElem_cons_succ]
  try simp only [List.getElem_cons_zero]
  try simp only [Act.put]
  try simp only [List.setIfInBounds_toArray]
  try simp only [List.set_cons_succ]
  try simp only [List.set_cons_zero]
  refine wpAnyH_done (by kernel_rfl) ?_ _
  go_wp2
  go_ret
  exact ⟨rfl, SK.below (by assumption)⟩

set_option maxHeartbeats 2000000 in
theorem refCheck_no (secret service c X1 X2 : ByteArray) (m : List UInt8) (t e0 e1 : Int) (x0 x1 x2 x3 x4 x5 : Value) (w : World)
    (HS : Hid (SK w w.heap.size m (w.alloc (.cells #[x0, x1, x2, x3, x4, x5] 23))))
    (h0 : ∀ W, SK w w.heap.size m W → W.cell? ⟨w.heap.size, 0, none⟩ = some x0) (h1 : ∀ W, SK w w.heap.size m W → W.cell? ⟨w.heap.size, 1, none⟩ = some x1) (h2 : ∀ W, SK w w.heap.size m W → W.cell? ⟨w.heap.size, 2, none⟩ = some x2)
    (h3 : ∀ W, SK w w.heap.size m W → W.cell? ⟨w.heap.size, 3, none⟩ = some x3) (h4 : ∀ W, SK w w.heap.size m W → W.cell? ⟨w.heap.size, 4, none⟩ = some x4) (h5 : ∀ W, SK w w.heap.size m W → W.cell? ⟨w.heap.size, 5, none⟩ = some x5)
    (HB1 : Ans 18 #[.string secret, .agg #[x0, x1, x2, x3, x4, x5], .string service, .int .i64 e0] (.string X1)) (HEP : Ans 13 #[.int .i64 t] (.int .i64 e0))
    (HB2 : Ans 18 #[.string secret, .agg #[x0, x1, x2, x3, x4, x5], .string service, .int .i64 e1] (.string X2)) (hw1 : IntKind.i64.wrap (e0 - 1) = e1)
    (hq3 : (c.toList == X1.toList) = false) :
    Calls Tryd.prog 11 #[.string secret, .agg #[x0, x1, x2, x3, x4, x5], .string service, .string c, .int .i64 t] w fun r w' => r = .returned (.bool (c.toList == X2.toList)) ∧ Below w.heap.size w w' := by
  go_enter Tryd.func11, Tryd.ntmps11
  go_wp2
  have hS0 : SK w w.heap.size m (w.alloc (.cells #[x0, x1, x2, x3, x4, x5] 23)).drew := HS.out.drew
  go_region_held3 (SK w w.heap.size m) (assumption) ((refine (SK.ans (by assumption) (by assumption)).mono ?_; rintro e w2 ⟨rfl, hb2⟩))
  all_goals
    go_wp2
    go_ret
    exact ⟨rfl, SK.below (by assumption)⟩

set_option maxHeartbeats 1000000 in
theorem refCheck_any (secret service c : ByteArray) (m : List UInt8) (hm : m.length = 6) (t : Int) (ht1 : -9223372036854775808 ≤ t) (ht2 : t ≤ 9223372036854775807) (hs : secret.size ≤ 1000000) (hv : service.size ≤ 1000000) (w : World) (hT : Tables w) :
    Calls Tryd.prog 11 #[.string secret, .agg (Lib.byteCells m).toArray, .string service, .string c, .int .i64 t] w fun r w' => r = .returned (.bool (checkF secret.data.toList m service.data.toList c.data.toList t)) ∧ Below w.heap.size w w' := by
  have hb1 := fun (W : World) (h : Tables W) => refCookie_any secret service m hm (t / 64) (by omega) (by omega) hs hv W h
  have hb2 := fun (W : World) (h : Tables W) => refCookie_any secret service m hm (t / 64 - 1) (by omega) (by omega) hs hv W h
  have hw1 : IntKind.i64.wrap (t / 64 - 1) = t / 64 - 1 := by rw [IntKind.wrap_i64]; omega
  have HS := hide (SK.first (m := m) hT)
  obtain ⟨x0, x1, x2, x3, x4, x5, hx⟩ := six hm
  have h0 : ∀ W, SK w w.heap.size m W → W.cell? ⟨w.heap.size, 0, none⟩ = some x0 := fun W h => (h.six hx).c0
  have h1 : ∀ W, SK w w.heap.size m W → W.cell? ⟨w.heap.size, 1, none⟩ = some x1 := fun W h => (h.six hx).c1
  have h2 : ∀ W, SK w w.heap.size m W → W.cell? ⟨w.heap.size, 2, none⟩ = some x2 := fun W h => (h.six hx).c2
  have h3 : ∀ W, SK w w.heap.size m W → W.cell? ⟨w.heap.size, 3, none⟩ = some x3 := fun W h => (h.six hx).c3
  have h4 : ∀ W, SK w w.heap.size m W → W.cell? ⟨w.heap.size, 4, none⟩ = some x4 := fun W h => (h.six hx).c4
  have h5 : ∀ W, SK w w.heap.size m W → W.cell? ⟨w.heap.size, 5, none⟩ = some x5 := fun W h => (h.six hx).c5
  rw [hx] at hb1 hb2 HS ⊢
  unfold checkF
  generalize bakeF secret.data.toList m service.data.toList (t / 64) = D1 at hb1 ⊢
  generalize bakeF secret.data.toList m service.data.toList (t / 64 - 1) = D2 at hb2 ⊢
  rw [show decide (c.data.toList = D1) = decide (c = ⟨D1.toArray⟩) from by rw [decide_eq_decide]; exact (str_eq c D1).symm, show decide (c.data.toList = D2) = decide (c = ⟨D2.toArray⟩) from by rw [decide_eq_decide]; exact (str_eq c D2).symm]
  generalize (⟨D1.toArray⟩ : ByteArray) = X1 at hb1 ⊢
  generalize (⟨D2.toArray⟩ : ByteArray) = X2 at hb2 ⊢
  have HB1 : Ans 18 _ _ := ⟨hb1⟩
  have HB2 : Ans 18 _ _ := ⟨hb2⟩
  have HEP : Ans 13 #[.int .i64 t] (.int .i64 (t / 64)) := ⟨fun W _ => refEpoch_any t W⟩
  clear hT hx hb1 hb2
  obtain ⟨e1, he1⟩ : ∃ e1, e1 = t / 64 - 1 := ⟨_, rfl⟩
  rw [← he1] at HB2
  have hw2 : IntKind.i64.wrap (t / 64 - 1) = e1 := hw1.trans he1.symm
  clear hw1 he1
  generalize t / 64 = e0 at HB1 HEP hw2
  by_cases hq : c = X1
  · rw [decide_eq_true hq, Bool.true_or]
    have hq3 : (c.toList == X1.toList) = true := by rw [hq]; simp
    clear hq
    exact refCheck_yes secret service c X1 m t e0 x0 x1 x2 x3 x4 x5 w HS h0 h1 h2 h3 h4 h5 HB1 HEP hq3
  · have hq3 : (c.toList == X1.toList) = false := by rw [beq_eq_false_iff_ne, ByteArray.toList_eq, ByteArray.toList_eq]; exact fun h => hq (ByteArray.ext (Array.toList_inj.1 h))
    have hq4 : decide (c = X2) = (c.toList == X2.toList) := by rw [Bool.eq_iff_iff, decide_eq_true_eq, beq_iff_eq, ByteArray.toList_eq, ByteArray.toList_eq]; exact ⟨fun h => by rw [h], fun h => ByteArray.ext (Array.toList_inj.1 h)⟩
    rw [decide_eq_false hq, Bool.false_or, hq4]
    clear hq hq4
    exact refCheck_no secret service c X1 X2 m t e0 e1 x0 x1 x2 x3 x4 x5 w HS h0 h1 h2 h3 h4 h5 HB1 HEP HB2 hw2 hq3
end Go.Proofs.YtailkoophlgnbaaDoor
