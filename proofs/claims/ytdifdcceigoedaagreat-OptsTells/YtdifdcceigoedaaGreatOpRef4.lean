/- The contracts of the document's own PutData, whole, and Put (tollgateref9). -/
import Derived.Test.YtdifdcceigoedaaGreatOpRef3
namespace Go.Proofs.YtdifdcceigoedaaGreat
open Go.RowKit

theorem not_bytes {c i : Int} {n : Nat} (h : ¬ (byteB c && byteB i && decide (n = 0)) = true) : c < 0 ∨ (0 ≤ c ∧ 255 < c) ∨ ((0 ≤ c ∧ c ≤ 255) ∧ i < 0) ∨ ((0 ≤ c ∧ c ≤ 255) ∧ 0 ≤ i ∧ 255 < i) ∨ ((0 ≤ c ∧ c ≤ 255) ∧ (0 ≤ i ∧ i ≤ 255) ∧ 0 < n) := by
  have h2 : ¬ (((0 ≤ c ∧ c ≤ 255) ∧ (0 ≤ i ∧ i ≤ 255)) ∧ n = 0) := fun ⟨⟨⟨h1, h2⟩, ⟨h3, h4⟩⟩, h5⟩ => h (by simp [byteB, h1, h2, h3, h4, h5])
  omega

set_option maxHeartbeats 1000000 in
set_option maxRecDepth 100000 in
theorem rPutData_no (c i : Int) (p : Option Addr) (n cap : Nat) (s : ByteArray) (w : World) (h : c < 0 ∨ (0 ≤ c ∧ 255 < c) ∨ ((0 ≤ c ∧ c ≤ 255) ∧ i < 0) ∨ ((0 ≤ c ∧ c ≤ 255) ∧ 0 ≤ i ∧ 255 < i) ∨ ((0 ≤ c ∧ c ≤ 255) ∧ (0 ≤ i ∧ i ≤ 255) ∧ 0 < n)) :
    Calls Tryz.prog 14 #[pkV c i (.slice p n cap) s] w fun e w' => e = .returned (.tuple #[.string ⟨#[]⟩, .int .i64 1]) ∧ Kept (fun _ => False) w w' := by
  unfold pkV
  obtain ⟨b0, b1, b2, b3⟩ := (PkAt.new w c i (.slice p n cap) s).cells
  rcases h with h | ⟨h, h'⟩ | ⟨⟨h, h'⟩, h''⟩ | ⟨⟨h, h'⟩, h'', h3⟩ | ⟨⟨h, h'⟩, ⟨h'', h3⟩, h4⟩
  all_goals
    go_enter Tryz.func14, Tryz.ntmps14
    go_wp2
    go_ret2
    exact ⟨rfl, (Kept.refl _ _).alloc _⟩

set_option maxHeartbeats 1000000 in
set_option maxRecDepth 100000 in
theorem rPutData_long (c i : Nat) (hc : c ≤ 255) (hi : i ≤ 255) (p : Option Addr) (cap : Nat) (s : ByteArray) (hs : s.size ≤ 140737488351232) (hl : 1488 < s.size) (w : World) :
    Calls Tryz.prog 14 #[pkV (c : Int) (i : Int) (.slice p 0 cap) s] w fun e w' => e = .returned (.tuple #[.string ⟨#[]⟩, .int .i64 2]) ∧ Kept (fun _ => False) w w' := by
  unfold pkV
  obtain ⟨b0, b1, b2, b3⟩ := (PkAt.new w (c : Int) (i : Int) (.slice p 0 cap) s).cells
  have hlz : (1488 : Int) < (s.size : Int) := by omega
  have hc0 : ¬ (c : Int) < 0 := by omega
  have hc5 : ¬ (255 : Int) < (c : Int) := by omega
  have hi0 : ¬ (i : Int) < 0 := by omega
  have hi5 : ¬ (255 : Int) < (i : Int) := by omega
  go_enter Tryz.func14, Tryz.ntmps14
  go_wp2
  go_ret2
  exact ⟨rfl, (Kept.refl _ _).alloc _⟩

/-- The document's PutData. -/
theorem rPutData_any (c i : Int) (v : Value) (o : List Tg) (s : ByteArray) (hs : s.size ≤ 140737488351232) (w : World) (hv : TagsAt w v o) :
    Calls Tryz.prog 14 #[pkV c i v s] w fun e w' => e = .returned (.tuple #[.string ⟨(putDataF c i o s.data.toList).1.toArray⟩, .int .i64 (putDataF c i o s.data.toList).2]) ∧ Kept (fun _ => False) w w' := by
  obtain ⟨p, cap, rfl⟩ := hv.slice
  unfold putDataF
  by_cases h : (byteB c && byteB i && decide (o.length = 0)) = true
  · rw [if_pos h]
    simp only [Bool.and_eq_true, decide_eq_true_eq] at h
    obtain ⟨⟨hc, hi⟩, h0⟩ := h
    obtain ⟨a, rfl, ha⟩ := byteB_nat hc
    obtain ⟨b, rfl, hb⟩ := byteB_nat hi
    rw [Int.toNat_natCast, Int.toNat_natCast, h0]
    unfold packF
    rw [show s.data.toList.length = s.size from (Lib.size_eq s).symm]
    by_cases hl : 1488 < s.size
    · rw [if_pos hl]
      exact rPutData_long a b ha hb p cap s hs hl w
    · rw [if_neg hl]
      exact rPutData_yes a b ha hb p cap s (by omega) w
  · rw [if_neg h]
    exact rPutData_no c i p _ cap s w (not_bytes h)
set_option maxHeartbeats 4000000 in
set_option maxRecDepth 100000 in
theorem rPut_no (c i : Int) (p : Option Addr) (n cap : Nat) (s : ByteArray) (w : World)
    (h : c < 0 ∨ (0 ≤ c ∧ 255 < c) ∨ ((0 ≤ c ∧ c ≤ 255) ∧ i < 0) ∨ ((0 ≤ c ∧ c ≤ 255) ∧ 0 ≤ i ∧ 255 < i) ∨ ((0 ≤ c ∧ c ≤ 255) ∧ (0 ≤ i ∧ i ≤ 255) ∧ 0 < n ∧ confB c = false) ∨
      ((0 ≤ c ∧ c ≤ 255) ∧ (0 ≤ i ∧ i ≤ 255) ∧ 0 < n ∧ confB c = true ∧ s.size ≠ 0) ∨ ((0 ≤ c ∧ c ≤ 255) ∧ (0 ≤ i ∧ i ≤ 255) ∧ n = 0 ∧ confB c = true ∧ s.size ≠ 0)) :
    Calls Tryz.prog 8 #[pkV c i (.slice p n cap) s] w fun e w' => e = .returned (.tuple #[.string ⟨#[]⟩, .int .i64 1]) ∧ Kept (fun _ => False) w w' := by
  unfold pkV
  have HC := hid (rConf_any c)
  have hK := hid ((Kept.refl (fun _ => False) w).alloc (.cells #[.int .i64 c, .int .i64 i, .slice p n cap, .string s] 24))
  obtain ⟨b0, b1, b2, b3⟩ := (PkAt.new w c i (.slice p n cap) s).cells
  rcases h with h | ⟨h, h'⟩ | ⟨⟨h, h'⟩, h''⟩ | ⟨⟨h, h'⟩, h'', h3⟩ | ⟨⟨h, h'⟩, ⟨h'', h3⟩, h4, h5⟩ | ⟨⟨h, h'⟩, ⟨h'', h3⟩, h4, h5, h6⟩ | ⟨⟨h, h'⟩, ⟨h'', h3⟩, h4, h5, h6⟩
  iterate 4
    · go_enter Tryz.func8, Tryz.ntmps8
      go_wp2
      go_ret2
      exact ⟨rfl, hK.out⟩
  · rw [h5] at HC
    clear h5
    go_enter Tryz.func8, Tryz.ntmps8
    go_wp2_with (go_at_call 33; refine (HC.out _).mono ?_; rintro e w' ⟨rfl, hw⟩; rw [hw]; clear hw)
    go_ret2
    exact ⟨rfl, hK.out⟩
  · have hne0 := str_some h6
    have hne : s.toList.isEmpty = false := by rw [List.isEmpty_eq_false_iff]; exact hne0
    rw [h5] at HC
    clear h5
    go_enter Tryz.func8, Tryz.ntmps8
    go_wp2_with (go_at_call 33; refine (HC.out _).mono ?_; rintro e w' ⟨rfl, hw⟩; rw [hw]; clear hw)
    go_ret2
    exact ⟨rfl, hK.out⟩
  · subst h4
    have hne0 := str_some h6
    have hne : s.toList.isEmpty = false := by rw [List.isEmpty_eq_false_iff]; exact hne0
    rw [h5] at HC
    clear h5
    go_enter Tryz.func8, Tryz.ntmps8
    go_wp2_with (go_at_call 33; refine (HC.out _).mono ?_; rintro e w' ⟨rfl, hw⟩; rw [hw]; clear hw)
    go_ret2
    exact ⟨rfl, hK.out⟩

set_option maxHeartbeats 4000000 in
set_option maxRecDepth 100000 in
theorem rPut_data_yes (c i : Nat) (hc : c ≤ 255) (hi : i ≤ 255) (hcf : confB (c : Int) = false) (p : Option Addr) (cap : Nat) (s : ByteArray) (hs : s.size ≤ 1488) (w : World) :
    Calls Tryz.prog 8 #[pkV (c : Int) (i : Int) (.slice p 0 cap) s] w fun e w' => e = .returned (.tuple #[.string ⟨(headF c i (4 + s.size) ++ s.data.toList).toArray⟩, .int .i64 0]) ∧ Kept (fun _ => False) w w' := by
  unfold pkV
  have HE := hid (head_two c i s hs)
  obtain ⟨A, hA⟩ : ∃ A : ByteArray, A = ⟨#[UInt8.ofNat c, UInt8.ofNat i]⟩ := ⟨_, rfl⟩
  obtain ⟨B, hB⟩ : ∃ B : ByteArray, B = ⟨(low (s.size + 4) 2).toArray⟩ := ⟨_, rfl⟩
  have hAs : A.size = 2 := by rw [hA]; rfl
  have hBs : B.size = 2 := by rw [hB, Lib.size_eq]; simp [low_length]
  have hq1 : ¬ (9223372036854775807 < A.size + B.size) := by omega
  have hq2 : ¬ (9223372036854775807 < A.size + B.size + s.size) := by omega
  rw [← hA, ← hB] at HE
  have HT0 := refTwo_any (s.size + 4) (by omega)
  rw [← hB, show ((s.size + 4 : Nat) : Int) = (s.size : Int) + 4 by omega] at HT0
  have HT : Hid (∀ W, Calls Tryz.prog 34 #[.int .i64 ((s.size : Int) + 4)] W fun e w' => e = .returned (.string B) ∧ Kept (fun _ => False) W w') := fun W => (HT0 W).mono fun _ _ h => ⟨h.1, kept_of h.2⟩
  have hws : IntKind.i64.wrap ((s.size : Int) + 4) = (s.size : Int) + 4 := by rw [IntKind.wrap_i64]; omega
  have hwc : IntKind.u8.wrap (c : Int) = (c : Int) := by show (c : Int) % 256 = _; omega
  have hwi : IntKind.u8.wrap (i : Int) = (i : Int) := by show (i : Int) % 256 = _; omega
  have hlz : ¬ (1488 : Int) < (s.size : Int) := by omega
  have HCV : Hid (∀ W g, W.heap[g]? = some (.cells #[.int .u8 (c : Int), .int .u8 (i : Int)] 5 (0, 0)) → (convert 70 9 (.slice (some ⟨g, 0, none⟩) 2 2)).run Tryz.prog W = .ok (.string A) W) := fun W g hg => by
    rw [hA]
    exact two_conv W g c i (by omega) (by omega) (c : Int) (i : Int) rfl rfl hg
  clear hA hB hAs hBs HT0
  have HC := hid (rConf_any (c : Int))
  rw [hcf] at HC
  clear hcf
  have hc0 : ¬ (c : Int) < 0 := by omega
  have hc5 : ¬ (255 : Int) < (c : Int) := by omega
  have hi0 : ¬ (i : Int) < 0 := by omega
  have hi5 : ¬ (255 : Int) < (i : Int) := by omega
  have P0 := hid (PkAt.new w (c : Int) (i : Int) (.slice p 0 cap) s)
  have K0 := hid ((Kept.refl (fun _ => False) w).alloc (.cells #[.int .i64 (c : Int), .int .i64 (i : Int), (.slice p 0 cap), .string s] 24))
  by_cases hs0 : s.size = 0
  · have hse : s = ⟨#[]⟩ := str_nil s hs0
    subst hse
    clear hs0
    go_enter Tryz.func8, Tryz.ntmps8
    go_upto_region 1 with fail
    generalize w.alloc (.cells #[.int .i64 (c : Int), .int .i64 (i : Int), (.slice p 0 cap), .string ⟨#[]⟩] 24) = W0 at P0 K0 ⊢
    obtain ⟨b0, b1, b2, b3⟩ := P0.out.cells
    go_upto_region 11 with (go_at_call 33; refine (HC.out _).mono ?_; rintro e w' ⟨rfl, hw⟩; rw [hw]; clear hw)
    have r0 : ∀ W, Kept (fun _ => False) W0 W → W.cell? ⟨w.heap.size, 0, none⟩ = some (.int .i64 (c : Int)) := fun W hW => (P0.out.kept hW id).cells.1
    have r1 : ∀ W, Kept (fun _ => False) W0 W → W.cell? ⟨w.heap.size, 1, none⟩ = some (.int .i64 (i : Int)) := fun W hW => (P0.out.kept hW id).cells.2.1
    have K1 : Kept (fun _ => False) W0 (W0.alloc (.cells #[.int .u8 (c : Int), .int .u8 (i : Int)] 5)).drew := ((Kept.refl (fun _ => False) W0).alloc _).drew
    have hc1 := HCV.out (W0.alloc (.cells #[.int .u8 (c : Int), .int .u8 (i : Int)] 5)).drew W0.heap.size (heap_alloc_new W0 _)
    have HG1 : Hid ((W0.alloc (.cells #[.int .u8 (c : Int), .int .u8 (i : Int)] 5)).drew.heap[W0.heap.size]? = some (.cells #[.int .u8 (c : Int), .int .u8 (i : Int)] 5 (0, 0))) := heap_alloc_new W0 _
    have HL1 : Hid (W0.heap.size < (W0.alloc (.cells #[.int .u8 (c : Int), .int .u8 (i : Int)] 5)).drew.heap.size) := by show W0.heap.size < (W0.alloc _).heap.size; simp
    clear b0 b1 b2 b3 hc0 hc5 hi0 hi5 hlz
    refine wp_region_held_drew (S := Kept (fun _ => False) W0) (by kernel_rfl) ((Kept.refl _ W0).drew) (fun hSd => ?_)
    refine wpAnyH_take (i := 0) (v := ?_) rfl (by kernel_rfl) (by kernel_rfl) (by kernel_rfl) (fun _ _ _ h => h) (Or.inl ⟨by kernel_rfl, fun W hSW => by go_simp; try with_reducible rfl⟩) (by assumption) ?_
    try simp only [List.getElem_toArray]
    try simp only [List.getElem_cons_succ]
    try simp only [List.getElem_cons_zero]
    try simp only [Act.put]
    try simp only [List.setIfInBounds_toArray]
    try simp only [List.set_cons_succ]
    try simp only [List.set_cons_zero]
    refine wpAnyH_take (i := 1) (v := ?_) rfl (by kernel_rfl) (by kernel_rfl) (by kernel_rfl) (fun _ _ _ h => h) (Or.inl ⟨by kernel_rfl, fun W hSW => by go_simp; try with_reducible rfl⟩) (by assumption) ?_
    try simp only [List.getElem_toArray]
    try simp only [List.getElem_cons_succ]
    try simp only [List.getElem_cons_zero]
    try simp only [Act.put]
    try simp only [List.setIfInBounds_toArray]
    try simp only [List.set_cons_succ]
    try simp only [List.set_cons_zero]
    refine wpAnyH_take (i := 2) (v := ?_) rfl (by kernel_rfl) (by kernel_rfl) (by kernel_rfl) (fun _ _ _ h => h) (Or.inl ⟨by kernel_rfl, fun W hSW => by go_simp; try with_reducible rfl⟩) (by assumption) ?_
    try simp only [List.getElem_toArray]
    try simp only [List.getElem_cons_succ]
    try simp only [List.getElem_cons_zero]
    try simp only [Act.put]
    try simp only [List.setIfInBounds_toArray]
    try simp only [List.set_cons_succ]
    try simp only [List.set_cons_zero]
    refine wpAnyH_take (i := 3) (v := ?_) rfl (by kernel_rfl) (by kernel_rfl) (by kernel_rfl) (fun _ _ _ h => h) (Or.inl ⟨by kernel_rfl, fun W hSW => by go_simp; try with_reducible rfl⟩) (by assumption) ?_
    try simp only [List.getElem_toArray]
    try simp only [List.getElem_cons_succ]
    try simp only [List.getElem_cons_zero]
    try simp only [Act.put]
    try simp only [List.setIfInBounds_toArray]
    try simp only [List.set_cons_succ]
    try simp only [List.set_cons_zero]
    refine wpAnyH_take (i := 4) (v := ?_) rfl (by kernel_rfl) (by kernel_rfl) (by kernel_rfl) (fun _ _ _ h => h) (Or.inl ⟨by kernel_rfl, fun W hSW => by go_simp; try with_reducible rfl⟩) (by assumption) ?_
    try simp only [List.getElem_toArray]
    try simp only [List.getElem_cons_succ]
    try simp only [List.getElem_cons_zero]
    try simp only [Act.put]
    try simp only [List.setIfInBounds_toArray]
    try simp only [List.set_cons_succ]
    try simp only [List.set_cons_zero]
    refine wpAnyH_take (i := 5) (v := ?_) rfl (by kernel_rfl) (by kernel_rfl) (by kernel_rfl) (fun _ _ _ h => h) (Or.inl ⟨by kernel_rfl, fun W hSW => by go_simp; try with_reducible rfl⟩) (by assumption) ?_
    try simp only [List.getElem_toArray]
    try simp only [List.getElem_cons_succ]
    try simp only [List.getElem_cons_zero]
    try simp only [Act.put]
    try simp only [List.setIfInBounds_toArray]
    try simp only [List.set_cons_succ]
    try simp only [List.set_cons_zero]
    refine wpAnyH_take (i := 8) (v := ?_) rfl (by kernel_rfl) (by kernel_rfl) (by kernel_rfl) (fun _ _ _ h => h) (Or.inl ⟨by kernel_rfl, fun W hSW => by go_simp; try with_reducible rfl⟩) (by assumption) ?_
    try simp only [List.getElem_toArray]
    try simp only [List.getElem_cons_succ]
    try simp only [List.getElem_cons_zero]
    try simp only [Act.put]
    try simp only [List.setIfInBounds_toArray]
    try simp only [List.set_cons_succ]
    try simp only [List.set_cons_zero]
    refine wpAnyH_take (i := 9) (v := ?_) rfl (by kernel_rfl) (by kernel_rfl) (by kernel_rfl) (fun _ _ _ h => h) (Or.inl ⟨by kernel_rfl, fun W hSW => by go_simp; try with_reducible rfl⟩) (by assumption) ?_
    try simp only [List.getElem_toArray]
    try simp only [List.getElem_cons_succ]
    try simp only [List.getElem_cons_zero]
    try simp only [Act.put]
    try simp only [List.setIfInBounds_toArray]
    try simp only [List.set_cons_succ]
    try simp only [List.set_cons_zero]
    refine wpAnyH_take (i := 10) (v := ?_) rfl (by kernel_rfl) (by kernel_rfl) (by kernel_rfl) (fun _ _ _ h => h) (Or.inl ⟨by kernel_rfl, fun W hSW => by go_simp; try with_reducible rfl⟩) (by assumption) ?_
    try simp only [List.getElem_toArray]
    try simp only [List.getElem_cons_succ]
    try simp only [List.getElem_cons_zero]
    try simp only [Act.put]
    try simp only [List.setIfInBounds_toArray]
    try simp only [List.set_cons_succ]
    try simp only [List.set_cons_zero]
    refine wpAnyH_take (i := 13) (v := ?_) rfl (by kernel_rfl) (by kernel_rfl) (by kernel_rfl) (fun _ _ _ h => h) (Or.inl ⟨by kernel_rfl, fun W hSW => by go_simp; try with_reducible rfl⟩) (by assumption) ?_
    try simp only [List.getElem_toArray]
    try simp only [List.getElem_cons_succ]
    try simp only [List.getElem_cons_zero]
    try simp only [Act.put]
    try simp only [List.setIfInBounds_toArray]
    try simp only [List.set_cons_succ]
    try simp only [List.set_cons_zero]
    refine wpAnyH_ready (rs := [6, 11]) (by kernel_rfl) (by simp) ?_
    refine AllReadyH.cons rfl (fun K hK => ?_) (AllReadyH.cons rfl (fun K hK => ?_) AllReadyH.nil)
    · go_simp
      refine hK.out _ _ (K1) (fun _ => ?_)
      clear hK K
      try dsimp only
      try simp only [List.getElem_toArray]
      try simp only [List.getElem_cons_succ]
      try simp only [List.getElem_cons_zero]
      try simp only [Act.put]
      try simp only [List.setIfInBounds_toArray]
      try simp only [List.set_cons_succ]
      try simp only [List.set_cons_zero]
      refine wpAnyH_ready (rs := [7, 11]) (by kernel_rfl) (by simp) ?_
      refine AllReadyH.cons rfl (fun K hK => ?_) (AllReadyH.cons rfl (fun K hK => ?_) AllReadyH.nil)
      · go_simp
        refine hK.out _ _ (K1) (fun _ => ?_)
        clear hK K
        try dsimp only
        try simp only [List.getElem_toArray]
        try simp only [List.getElem_cons_succ]
        try simp only [List.getElem_cons_zero]
        try simp only [Act.put]
        try simp only [List.setIfInBounds_toArray]
        try simp only [List.set_cons_succ]
        try simp only [List.set_cons_zero]
        refine wpAnyH_ready (rs := [11]) (by kernel_rfl) (by simp) ?_
        refine AllReadyH.cons rfl (fun K hK => ?_) AllReadyH.nil
        go_simp
        refine (HT.out _).mono ?_
        rintro e w3 ⟨rfl, hk3⟩
        refine hK.out _ _ (K1.trans hk3) (fun _ => ?_)
        clear hK K
        try simp only [List.getElem_toArray]
        try simp only [List.getElem_cons_succ]
        try simp only [List.getElem_cons_zero]
        try simp only [Act.put]
        try simp only [List.setIfInBounds_toArray]
        try simp only [List.set_cons_succ]
        try simp only [List.set_cons_zero]
        refine wpAnyH_take (i := 12) (v := ?_) rfl (by kernel_rfl) (by kernel_rfl) (by kernel_rfl) (fun _ _ _ h => h) (Or.inl ⟨by kernel_rfl, fun W hSW => by go_simp; try with_reducible rfl⟩) (by assumption) ?_
        try simp only [List.getElem_toArray]
        try simp only [List.getElem_cons_succ]
        try simp only [List.getElem_cons_zero]
        try simp only [Act.put]
        try simp only [List.setIfInBounds_toArray]
        try simp only [List.set_cons_succ]
        try simp only [List.set_cons_zero]
        refine wpAnyH_take (i := 14) (v := ?_) rfl (by kernel_rfl) (by kernel_rfl) (by kernel_rfl) (fun _ _ _ h => h) (Or.inl ⟨by kernel_rfl, fun W hSW => by go_simp; try with_reducible rfl⟩) (by assumption) ?_
        try simp only [List.getElem_toArray]
        try simp only [List.getElem_cons_succ]
        try simp only [List.getElem_cons_zero]
        try simp only [Act.put]
        try simp only [List.setIfInBounds_toArray]
        try simp only [List.set_cons_succ]
        try simp only [List.set_cons_zero]
        refine wpAnyH_take (i := 15) (v := ?_) rfl (by kernel_rfl) (by kernel_rfl) (by kernel_rfl) (fun _ _ _ h => h) (Or.inl ⟨by kernel_rfl, fun W hSW => by go_simp; try with_reducible rfl⟩) (by assumption) ?_
        try simp only [List.getElem_toArray]
        try simp only [List.getElem_cons_succ]
        try simp only [List.getElem_cons_zero]
        try simp only [Act.put]
        try simp only [List.setIfInBounds_toArray]
        try simp only [List.set_cons_succ]
        try simp only [List.set_cons_zero]
        refine wpAnyH_take (i := 16) (v := ?_) rfl (by kernel_rfl) (by kernel_rfl) (by kernel_rfl) (fun _ _ _ h => h) (Or.inl ⟨by kernel_rfl, fun W hSW => by go_simp; try with_reducible rfl⟩) (by assumption) ?_
        try simp only [List.getElem_toArray]
        try simp only [List.getElem_cons_succ]
        try simp only [List.getElem_cons_zero]
        try simp only [Act.put]
        try simp only [List.setIfInBounds_toArray]
        try simp only [List.set_cons_succ]
        try simp only [List.set_cons_zero]
        refine wpAnyH_done (by kernel_rfl) ?_ _
        go_wp2
        go_ret2
        exact ⟨by rw [HE.out]; rfl, K0.out.trans (K1.trans hk3)⟩
      · go_simp
        refine (HT.out _).mono ?_
        rintro e w3 ⟨rfl, hk3⟩
        have hc3 := HCV.out w3 W0.heap.size ((hk3.block W0.heap.size HL1.out id).trans HG1.out)
        refine hK.out _ _ (K1.trans hk3) (fun _ => ?_)
        clear hK K
        try simp only [List.getElem_toArray]
        try simp only [List.getElem_cons_succ]
        try simp only [List.getElem_cons_zero]
        try simp only [Act.put]
        try simp only [List.setIfInBounds_toArray]
        try simp only [List.set_cons_succ]
        try simp only [List.set_cons_zero]
        refine wpAnyH_ready (rs := [7]) (by kernel_rfl) (by simp) ?_
        refine AllReadyH.cons rfl (fun K hK => ?_) AllReadyH.nil
        go_simp
        refine hK.out _ _ (K1.trans hk3) (fun _ => ?_)
        clear hK K
        try dsimp only
        try simp only [List.getElem_toArray]
        try simp only [List.getElem_cons_succ]
        try simp only [List.getElem_cons_zero]
        try simp only [Act.put]
        try simp only [List.setIfInBounds_toArray]
        try simp only [List.set_cons_succ]
        try simp only [List.set_cons_zero]
        refine wpAnyH_take (i := 12) (v := ?_) rfl (by kernel_rfl) (by kernel_rfl) (by kernel_rfl) (fun _ _ _ h => h) (Or.inl ⟨by kernel_rfl, fun W hSW => by go_simp; try with_reducible rfl⟩) (by assumption) ?_
        try simp only [List.getElem_toArray]
        try simp only [List.getElem_cons_succ]
        try simp only [List.getElem_cons_zero]
        try simp only [Act.put]
        try simp only [List.setIfInBounds_toArray]
        try simp only [List.set_cons_succ]
        try simp only [List.set_cons_zero]
        refine wpAnyH_take (i := 14) (v := ?_) rfl (by kernel_rfl) (by kernel_rfl) (by kernel_rfl) (fun _ _ _ h => h) (Or.inl ⟨by kernel_rfl, fun W hSW => by go_simp; try with_reducible rfl⟩) (by assumption) ?_
        try simp only [List.getElem_toArray]
        try simp only [List.getElem_cons_succ]
        try simp only [List.getElem_cons_zero]
        try simp only [Act.put]
        try simp only [List.setIfInBounds_toArray]
        try simp only [List.set_cons_succ]
        try simp only [List.set_cons_zero]
        refine wpAnyH_take (i := 15) (v := ?_) rfl (by kernel_rfl) (by kernel_rfl) (by kernel_rfl) (fun _ _ _ h => h) (Or.inl ⟨by kernel_rfl, fun W hSW => by go_simp; try with_reducible rfl⟩) (by assumption) ?_
        try simp only [List.getElem_toArray]
        try simp only [List.getElem_cons_succ]
        try simp only [List.getElem_cons_zero]
        try simp only [Act.put]
        try simp only [List.setIfInBounds_toArray]
        try simp only [List.set_cons_succ]
        try simp only [List.set_cons_zero]
        refine wpAnyH_take (i := 16) (v := ?_) rfl (by kernel_rfl) (by kernel_rfl) (by kernel_rfl) (fun _ _ _ h => h) (Or.inl ⟨by kernel_rfl, fun W hSW => by go_simp; try with_reducible rfl⟩) (by assumption) ?_
        try simp only [List.getElem_toArray]
        try simp only [List.getElem_cons_succ]
        try simp only [List.getElem_cons_zero]
        try simp only [Act.put]
        try simp only [List.setIfInBounds_toArray]
        try simp only [List.set_cons_succ]
        try simp only [List.set_cons_zero]
        refine wpAnyH_done (by kernel_rfl) ?_ _
        go_wp2
        go_ret2
        exact ⟨by rw [HE.out]; rfl, K0.out.trans (K1.trans hk3)⟩
    · go_simp
      refine (HT.out _).mono ?_
      rintro e w3 ⟨rfl, hk3⟩
      have K3 : Kept (fun _ => False) W0 w3 := (Kept.refl (fun _ => False) W0).drew.trans hk3
      have hc3 := HCV.out (w3.alloc (.cells #[.int .u8 (c : Int), .int .u8 (i : Int)] 5)) w3.heap.size (heap_alloc_new w3 _)
      refine hK.out _ _ (K3) (fun _ => ?_)
      clear hK K
      try simp only [List.getElem_toArray]
      try simp only [List.getElem_cons_succ]
      try simp only [List.getElem_cons_zero]
      try simp only [Act.put]
      try simp only [List.setIfInBounds_toArray]
      try simp only [List.set_cons_succ]
      try simp only [List.set_cons_zero]
      refine wpAnyH_ready (rs := [6]) (by kernel_rfl) (by simp) ?_
      refine AllReadyH.cons rfl (fun K hK => ?_) AllReadyH.nil
      go_simp
      refine hK.out _ _ (K3.alloc _) (fun _ => ?_)
      clear hK K
      try dsimp only
      try simp only [List.getElem_toArray]
      try simp only [List.getElem_cons_succ]
      try simp only [List.getElem_cons_zero]
      try simp only [Act.put]
      try simp only [List.setIfInBounds_toArray]
      try simp only [List.set_cons_succ]
      try simp only [List.set_cons_zero]
      refine wpAnyH_ready (rs := [7]) (by kernel_rfl) (by simp) ?_
      refine AllReadyH.cons rfl (fun K hK => ?_) AllReadyH.nil
      go_simp
      refine hK.out _ _ (K3.alloc _) (fun _ => ?_)
      clear hK K
      try dsimp only
      try simp only [List.getElem_toArray]
      try simp only [List.getElem_cons_succ]
      try simp only [List.getElem_cons_zero]
      try simp only [Act.put]
      try simp only [List.setIfInBounds_toArray]
      try simp only [List.set_cons_succ]
      try simp only [List.set_cons_zero]
      refine wpAnyH_take (i := 12) (v := ?_) rfl (by kernel_rfl) (by kernel_rfl) (by kernel_rfl) (fun _ _ _ h => h) (Or.inl ⟨by kernel_rfl, fun W hSW => by go_simp; try with_reducible rfl⟩) (by assumption) ?_
      try simp only [List.getElem_toArray]
      try simp only [List.getElem_cons_succ]
      try simp only [List.getElem_cons_zero]
      try simp only [Act.put]
      try simp only [List.setIfInBounds_toArray]
      try simp only [List.set_cons_succ]
      try simp only [List.set_cons_zero]
      refine wpAnyH_take (i := 14) (v := ?_) rfl (by kernel_rfl) (by kernel_rfl) (by kernel_rfl) (fun _ _ _ h => h) (Or.inl ⟨by kernel_rfl, fun W hSW => by go_simp; try with_reducible rfl⟩) (by assumption) ?_
      try simp only [List.getElem_toArray]
      try simp only [List.getElem_cons_succ]
      try simp only [List.getElem_cons_zero]
      try simp only [Act.put]
      try simp only [List.setIfInBounds_toArray]
      try simp only [List.set_cons_succ]
      try simp only [List.set_cons_zero]
      refine wpAnyH_take (i := 15) (v := ?_) rfl (by kernel_rfl) (by kernel_rfl) (by kernel_rfl) (fun _ _ _ h => h) (Or.inl ⟨by kernel_rfl, fun W hSW => by go_simp; try with_reducible rfl⟩) (by assumption) ?_
      try simp only [List.getElem_toArray]
      try simp only [List.getElem_cons_succ]
      try simp only [List.getElem_cons_zero]
      try simp only [Act.put]
      try simp only [List.setIfInBounds_toArray]
      try simp only [List.set_cons_succ]
      try simp only [List.set_cons_zero]
      refine wpAnyH_take (i := 16) (v := ?_) rfl (by kernel_rfl) (by kernel_rfl) (by kernel_rfl) (fun _ _ _ h => h) (Or.inl ⟨by kernel_rfl, fun W hSW => by go_simp; try with_reducible rfl⟩) (by assumption) ?_
      try simp only [List.getElem_toArray]
      try simp only [List.getElem_cons_succ]
      try simp only [List.getElem_cons_zero]
      try simp only [Act.put]
      try simp only [List.setIfInBounds_toArray]
      try simp only [List.set_cons_succ]
      try simp only [List.set_cons_zero]
      refine wpAnyH_done (by kernel_rfl) ?_ _
      go_wp2
      go_ret2
      exact ⟨by rw [HE.out]; rfl, K0.out.trans (K3.alloc _)⟩
  · have hne0 := str_some hs0
    have hne : s.toList.isEmpty = false := by rw [List.isEmpty_eq_false_iff]; exact hne0
    clear hs0
    go_enter Tryz.func8, Tryz.ntmps8
    go_upto_region 1 with fail
    generalize w.alloc (.cells #[.int .i64 (c : Int), .int .i64 (i : Int), (.slice p 0 cap), .string s] 24) = W0 at P0 K0 ⊢
    obtain ⟨b0, b1, b2, b3⟩ := P0.out.cells
    go_upto_region 11 with (go_at_call 33; refine (HC.out _).mono ?_; rintro e w' ⟨rfl, hw⟩; rw [hw]; clear hw)
    have r0 : ∀ W, Kept (fun _ => False) W0 W → W.cell? ⟨w.heap.size, 0, none⟩ = some (.int .i64 (c : Int)) := fun W hW => (P0.out.kept hW id).cells.1
    have r1 : ∀ W, Kept (fun _ => False) W0 W → W.cell? ⟨w.heap.size, 1, none⟩ = some (.int .i64 (i : Int)) := fun W hW => (P0.out.kept hW id).cells.2.1
    have K1 : Kept (fun _ => False) W0 (W0.alloc (.cells #[.int .u8 (c : Int), .int .u8 (i : Int)] 5)).drew := ((Kept.refl (fun _ => False) W0).alloc _).drew
    have hc1 := HCV.out (W0.alloc (.cells #[.int .u8 (c : Int), .int .u8 (i : Int)] 5)).drew W0.heap.size (heap_alloc_new W0 _)
    have HG1 : Hid ((W0.alloc (.cells #[.int .u8 (c : Int), .int .u8 (i : Int)] 5)).drew.heap[W0.heap.size]? = some (.cells #[.int .u8 (c : Int), .int .u8 (i : Int)] 5 (0, 0))) := heap_alloc_new W0 _
    have HL1 : Hid (W0.heap.size < (W0.alloc (.cells #[.int .u8 (c : Int), .int .u8 (i : Int)] 5)).drew.heap.size) := by show W0.heap.size < (W0.alloc _).heap.size; simp
    clear b0 b1 b2 b3 hc0 hc5 hi0 hi5 hlz
    refine wp_region_held_drew (S := Kept (fun _ => False) W0) (by kernel_rfl) ((Kept.refl _ W0).drew) (fun hSd => ?_)
    refine wpAnyH_take (i := 0) (v := ?_) rfl (by kernel_rfl) (by kernel_rfl) (by kernel_rfl) (fun _ _ _ h => h) (Or.inl ⟨by kernel_rfl, fun W hSW => by go_simp; try with_reducible rfl⟩) (by assumption) ?_
    try simp only [List.getElem_toArray]
    try simp only [List.getElem_cons_succ]
    try simp only [List.getElem_cons_zero]
    try simp only [Act.put]
    try simp only [List.setIfInBounds_toArray]
    try simp only [List.set_cons_succ]
    try simp only [List.set_cons_zero]
    refine wpAnyH_take (i := 1) (v := ?_) rfl (by kernel_rfl) (by kernel_rfl) (by kernel_rfl) (fun _ _ _ h => h) (Or.inl ⟨by kernel_rfl, fun W hSW => by go_simp; try with_reducible rfl⟩) (by assumption) ?_
    try simp only [List.getElem_toArray]
    try simp only [List.getElem_cons_succ]
    try simp only [List.getElem_cons_zero]
    try simp only [Act.put]
    try simp only [List.setIfInBounds_toArray]
    try simp only [List.set_cons_succ]
    try simp only [List.set_cons_zero]
    refine wpAnyH_take (i := 2) (v := ?_) rfl (by kernel_rfl) (by kernel_rfl) (by kernel_rfl) (fun _ _ _ h => h) (Or.inl ⟨by kernel_rfl, fun W hSW => by go_simp; try with_reducible rfl⟩) (by assumption) ?_
    try simp only [List.getElem_toArray]
    try simp only [List.getElem_cons_succ]
    try simp only [List.getElem_cons_zero]
    try simp only [Act.put]
    try simp only [List.setIfInBounds_toArray]
    try simp only [List.set_cons_succ]
    try simp only [List.set_cons_zero]
    refine wpAnyH_take (i := 3) (v := ?_) rfl (by kernel_rfl) (by kernel_rfl) (by kernel_rfl) (fun _ _ _ h => h) (Or.inl ⟨by kernel_rfl, fun W hSW => by go_simp; try with_reducible rfl⟩) (by assumption) ?_
    try simp only [List.getElem_toArray]
    try simp only [List.getElem_cons_succ]
    try simp only [List.getElem_cons_zero]
    try simp only [Act.put]
    try simp only [List.setIfInBounds_toArray]
    try simp only [List.set_cons_succ]
    try simp only [List.set_cons_zero]
    refine wpAnyH_take (i := 4) (v := ?_) rfl (by kernel_rfl) (by kernel_rfl) (by kernel_rfl) (fun _ _ _ h => h) (Or.inl ⟨by kernel_rfl, fun W hSW => by go_simp; try with_reducible rfl⟩) (by assumption) ?_
    try simp only [List.getElem_toArray]
    try simp only [List.getElem_cons_succ]
    try simp only [List.getElem_cons_zero]
    try simp only [Act.put]
    try simp only [List.setIfInBounds_toArray]
    try simp only [List.set_cons_succ]
    try simp only [List.set_cons_zero]
    refine wpAnyH_take (i := 5) (v := ?_) rfl (by kernel_rfl) (by kernel_rfl) (by kernel_rfl) (fun _ _ _ h => h) (Or.inl ⟨by kernel_rfl, fun W hSW => by go_simp; try with_reducible rfl⟩) (by assumption) ?_
    try simp only [List.getElem_toArray]
    try simp only [List.getElem_cons_succ]
    try simp only [List.getElem_cons_zero]
    try simp only [Act.put]
    try simp only [List.setIfInBounds_toArray]
    try simp only [List.set_cons_succ]
    try simp only [List.set_cons_zero]
    refine wpAnyH_take (i := 8) (v := ?_) rfl (by kernel_rfl) (by kernel_rfl) (by kernel_rfl) (fun _ _ _ h => h) (Or.inl ⟨by kernel_rfl, fun W hSW => by go_simp; try with_reducible rfl⟩) (by assumption) ?_
    try simp only [List.getElem_toArray]
    try simp only [List.getElem_cons_succ]
    try simp only [List.getElem_cons_zero]
    try simp only [Act.put]
    try simp only [List.setIfInBounds_toArray]
    try simp only [List.set_cons_succ]
    try simp only [List.set_cons_zero]
    refine wpAnyH_take (i := 9) (v := ?_) rfl (by kernel_rfl) (by kernel_rfl) (by kernel_rfl) (fun _ _ _ h => h) (Or.inl ⟨by kernel_rfl, fun W hSW => by go_simp; try with_reducible rfl⟩) (by assumption) ?_
    try simp only [List.getElem_toArray]
    try simp only [List.getElem_cons_succ]
    try simp only [List.getElem_cons_zero]
    try simp only [Act.put]
    try simp only [List.setIfInBounds_toArray]
    try simp only [List.set_cons_succ]
    try simp only [List.set_cons_zero]
    refine wpAnyH_take (i := 10) (v := ?_) rfl (by kernel_rfl) (by kernel_rfl) (by kernel_rfl) (fun _ _ _ h => h) (Or.inl ⟨by kernel_rfl, fun W hSW => by go_simp; try with_reducible rfl⟩) (by assumption) ?_
    try simp only [List.getElem_toArray]
    try simp only [List.getElem_cons_succ]
    try simp only [List.getElem_cons_zero]
    try simp only [Act.put]
    try simp only [List.setIfInBounds_toArray]
    try simp only [List.set_cons_succ]
    try simp only [List.set_cons_zero]
    refine wpAnyH_take (i := 13) (v := ?_) rfl (by kernel_rfl) (by kernel_rfl) (by kernel_rfl) (fun _ _ _ h => h) (Or.inl ⟨by kernel_rfl, fun W hSW => by go_simp; try with_reducible rfl⟩) (by assumption) ?_
    try simp only [List.getElem_toArray]
    try simp only [List.getElem_cons_succ]
    try simp only [List.getElem_cons_zero]
    try simp only [Act.put]
    try simp only [List.setIfInBounds_toArray]
    try simp only [List.set_cons_succ]
    try simp only [List.set_cons_zero]
    refine wpAnyH_ready (rs := [6, 11]) (by kernel_rfl) (by simp) ?_
    refine AllReadyH.cons rfl (fun K hK => ?_) (AllReadyH.cons rfl (fun K hK => ?_) AllReadyH.nil)
    · go_simp
      refine hK.out _ _ (K1) (fun _ => ?_)
      clear hK K
      try dsimp only
      try simp only [List.getElem_toArray]
      try simp only [List.getElem_cons_succ]
      try simp only [List.getElem_cons_zero]
      try simp only [Act.put]
      try simp only [List.setIfInBounds_toArray]
      try simp only [List.set_cons_succ]
      try simp only [List.set_cons_zero]
      refine wpAnyH_ready (rs := [7, 11]) (by kernel_rfl) (by simp) ?_
      refine AllReadyH.cons rfl (fun K hK => ?_) (AllReadyH.cons rfl (fun K hK => ?_) AllReadyH.nil)
      · go_simp
        refine hK.out _ _ (K1) (fun _ => ?_)
        clear hK K
        try dsimp only
        try simp only [List.getElem_toArray]
        try simp only [List.getElem_cons_succ]
        try simp only [List.getElem_cons_zero]
        try simp only [Act.put]
        try simp only [List.setIfInBounds_toArray]
        try simp only [List.set_cons_succ]
        try simp only [List.set_cons_zero]
        refine wpAnyH_ready (rs := [11]) (by kernel_rfl) (by simp) ?_
        refine AllReadyH.cons rfl (fun K hK => ?_) AllReadyH.nil
        go_simp
        refine (HT.out _).mono ?_
        rintro e w3 ⟨rfl, hk3⟩
        refine hK.out _ _ (K1.trans hk3) (fun _ => ?_)
        clear hK K
        try simp only [List.getElem_toArray]
        try simp only [List.getElem_cons_succ]
        try simp only [List.getElem_cons_zero]
        try simp only [Act.put]
        try simp only [List.setIfInBounds_toArray]
        try simp only [List.set_cons_succ]
        try simp only [List.set_cons_zero]
        refine wpAnyH_take (i := 12) (v := ?_) rfl (by kernel_rfl) (by kernel_rfl) (by kernel_rfl) (fun _ _ _ h => h) (Or.inl ⟨by kernel_rfl, fun W hSW => by go_simp; try with_reducible rfl⟩) (by assumption) ?_
        try simp only [List.getElem_toArray]
        try simp only [List.getElem_cons_succ]
        try simp only [List.getElem_cons_zero]
        try simp only [Act.put]
        try simp only [List.setIfInBounds_toArray]
        try simp only [List.set_cons_succ]
        try simp only [List.set_cons_zero]
        refine wpAnyH_take (i := 14) (v := ?_) rfl (by kernel_rfl) (by kernel_rfl) (by kernel_rfl) (fun _ _ _ h => h) (Or.inl ⟨by kernel_rfl, fun W hSW => by go_simp; try with_reducible rfl⟩) (by assumption) ?_
        try simp only [List.getElem_toArray]
        try simp only [List.getElem_cons_succ]
        try simp only [List.getElem_cons_zero]
        try simp only [Act.put]
        try simp only [List.setIfInBounds_toArray]
        try simp only [List.set_cons_succ]
        try simp only [List.set_cons_zero]
        refine wpAnyH_take (i := 15) (v := ?_) rfl (by kernel_rfl) (by kernel_rfl) (by kernel_rfl) (fun _ _ _ h => h) (Or.inl ⟨by kernel_rfl, fun W hSW => by go_simp; try with_reducible rfl⟩) (by assumption) ?_
        try simp only [List.getElem_toArray]
        try simp only [List.getElem_cons_succ]
        try simp only [List.getElem_cons_zero]
        try simp only [Act.put]
        try simp only [List.setIfInBounds_toArray]
        try simp only [List.set_cons_succ]
        try simp only [List.set_cons_zero]
        refine wpAnyH_take (i := 16) (v := ?_) rfl (by kernel_rfl) (by kernel_rfl) (by kernel_rfl) (fun _ _ _ h => h) (Or.inl ⟨by kernel_rfl, fun W hSW => by go_simp; try with_reducible rfl⟩) (by assumption) ?_
        try simp only [List.getElem_toArray]
        try simp only [List.getElem_cons_succ]
        try simp only [List.getElem_cons_zero]
        try simp only [Act.put]
        try simp only [List.setIfInBounds_toArray]
        try simp only [List.set_cons_succ]
        try simp only [List.set_cons_zero]
        refine wpAnyH_done (by kernel_rfl) ?_ _
        go_wp2
        go_ret2
        exact ⟨by rw [HE.out]; rfl, K0.out.trans (K1.trans hk3)⟩
      · go_simp
        refine (HT.out _).mono ?_
        rintro e w3 ⟨rfl, hk3⟩
        have hc3 := HCV.out w3 W0.heap.size ((hk3.block W0.heap.size HL1.out id).trans HG1.out)
        refine hK.out _ _ (K1.trans hk3) (fun _ => ?_)
        clear hK K
        try simp only [List.getElem_toArray]
        try simp only [List.getElem_cons_succ]
        try simp only [List.getElem_cons_zero]
        try simp only [Act.put]
        try simp only [List.setIfInBounds_toArray]
        try simp only [List.set_cons_succ]
        try simp only [List.set_cons_zero]
        refine wpAnyH_ready (rs := [7]) (by kernel_rfl) (by simp) ?_
        refine AllReadyH.cons rfl (fun K hK => ?_) AllReadyH.nil
        go_simp
        refine hK.out _ _ (K1.trans hk3) (fun _ => ?_)
        clear hK K
        try dsimp only
        try simp only [List.getElem_toArray]
        try simp only [List.getElem_cons_succ]
        try simp only [List.getElem_cons_zero]
        try simp only [Act.put]
        try simp only [List.setIfInBounds_toArray]
        try simp only [List.set_cons_succ]
        try simp only [List.set_cons_zero]
        refine wpAnyH_take (i := 12) (v := ?_) rfl (by kernel_rfl) (by kernel_rfl) (by kernel_rfl) (fun _ _ _ h => h) (Or.inl ⟨by kernel_rfl, fun W hSW => by go_simp; try with_reducible rfl⟩) (by assumption) ?_
        try simp only [List.getElem_toArray]
        try simp only [List.getElem_cons_succ]
        try simp only [List.getElem_cons_zero]
        try simp only [Act.put]
        try simp only [List.setIfInBounds_toArray]
        try simp only [List.set_cons_succ]
        try simp only [List.set_cons_zero]
        refine wpAnyH_take (i := 14) (v := ?_) rfl (by kernel_rfl) (by kernel_rfl) (by kernel_rfl) (fun _ _ _ h => h) (Or.inl ⟨by kernel_rfl, fun W hSW => by go_simp; try with_reducible rfl⟩) (by assumption) ?_
        try simp only [List.getElem_toArray]
        try simp only [List.getElem_cons_succ]
        try simp only [List.getElem_cons_zero]
        try simp only [Act.put]
        try simp only [List.setIfInBounds_toArray]
        try simp only [List.set_cons_succ]
        try simp only [List.set_cons_zero]
        refine wpAnyH_take (i := 15) (v := ?_) rfl (by kernel_rfl) (by kernel_rfl) (by kernel_rfl) (fun _ _ _ h => h) (Or.inl ⟨by kernel_rfl, fun W hSW => by go_simp; try with_reducible rfl⟩) (by assumption) ?_
        try simp only [List.getElem_toArray]
        try simp only [List.getElem_cons_succ]
        try simp only [List.getElem_cons_zero]
        try simp only [Act.put]
        try simp only [List.setIfInBounds_toArray]
        try simp only [List.set_cons_succ]
        try simp only [List.set_cons_zero]
        refine wpAnyH_take (i := 16) (v := ?_) rfl (by kernel_rfl) (by kernel_rfl) (by kernel_rfl) (fun _ _ _ h => h) (Or.inl ⟨by kernel_rfl, fun W hSW => by go_simp; try with_reducible rfl⟩) (by assumption) ?_
        try simp only [List.getElem_toArray]
        try simp only [List.getElem_cons_succ]
        try simp only [List.getElem_cons_zero]
        try simp only [Act.put]
        try simp only [List.setIfInBounds_toArray]
        try simp only [List.set_cons_succ]
        try simp only [List.set_cons_zero]
        refine wpAnyH_done (by kernel_rfl) ?_ _
        go_wp2
        go_ret2
        exact ⟨by rw [HE.out]; rfl, K0.out.trans (K1.trans hk3)⟩
    · go_simp
      refine (HT.out _).mono ?_
      rintro e w3 ⟨rfl, hk3⟩
      have K3 : Kept (fun _ => False) W0 w3 := (Kept.refl (fun _ => False) W0).drew.trans hk3
      have hc3 := HCV.out (w3.alloc (.cells #[.int .u8 (c : Int), .int .u8 (i : Int)] 5)) w3.heap.size (heap_alloc_new w3 _)
      refine hK.out _ _ (K3) (fun _ => ?_)
      clear hK K
      try simp only [List.getElem_toArray]
      try simp only [List.getElem_cons_succ]
      try simp only [List.getElem_cons_zero]
      try simp only [Act.put]
      try simp only [List.setIfInBounds_toArray]
      try simp only [List.set_cons_succ]
      try simp only [List.set_cons_zero]
      refine wpAnyH_ready (rs := [6]) (by kernel_rfl) (by simp) ?_
      refine AllReadyH.cons rfl (fun K hK => ?_) AllReadyH.nil
      go_simp
      refine hK.out _ _ (K3.alloc _) (fun _ => ?_)
      clear hK K
      try dsimp only
      try simp only [List.getElem_toArray]
      try simp only [List.getElem_cons_succ]
      try simp only [List.getElem_cons_zero]
      try simp only [Act.put]
      try simp only [List.setIfInBounds_toArray]
      try simp only [List.set_cons_succ]
      try simp only [List.set_cons_zero]
      refine wpAnyH_ready (rs := [7]) (by kernel_rfl) (by simp) ?_
      refine AllReadyH.cons rfl (fun K hK => ?_) AllReadyH.nil
      go_simp
      refine hK.out _ _ (K3.alloc _) (fun _ => ?_)
      clear hK K
      try dsimp only
      try simp only [List.getElem_toArray]
      try simp only [List.getElem_cons_succ]
      try simp only [List.getElem_cons_zero]
      try simp only [Act.put]
      try simp only [List.setIfInBounds_toArray]
      try simp only [List.set_cons_succ]
      try simp only [List.set_cons_zero]
      refine wpAnyH_take (i := 12) (v := ?_) rfl (by kernel_rfl) (by kernel_rfl) (by kernel_rfl) (fun _ _ _ h => h) (Or.inl ⟨by kernel_rfl, fun W hSW => by go_simp; try with_reducible rfl⟩) (by assumption) ?_
      try simp only [List.getElem_toArray]
      try simp only [List.getElem_cons_succ]
      try simp only [List.getElem_cons_zero]
      try simp only [Act.put]
      try simp only [List.setIfInBounds_toArray]
      try simp only [List.set_cons_succ]
      try simp only [List.set_cons_zero]
      refine wpAnyH_take (i := 14) (v := ?_) rfl (by kernel_rfl) (by kernel_rfl) (by kernel_rfl) (fun _ _ _ h => h) (Or.inl ⟨by kernel_rfl, fun W hSW => by go_simp; try with_reducible rfl⟩) (by assumption) ?_
      try simp only [List.getElem_toArray]
      try simp only [List.getElem_cons_succ]
      try simp only [List.getElem_cons_zero]
      try simp only [Act.put]
      try simp only [List.setIfInBounds_toArray]
      try simp only [List.set_cons_succ]
      try simp only [List.set_cons_zero]
      refine wpAnyH_take (i := 15) (v := ?_) rfl (by kernel_rfl) (by kernel_rfl) (by kernel_rfl) (fun _ _ _ h => h) (Or.inl ⟨by kernel_rfl, fun W hSW => by go_simp; try with_reducible rfl⟩) (by assumption) ?_
      try simp only [List.getElem_toArray]
      try simp only [List.getElem_cons_succ]
      try simp only [List.getElem_cons_zero]
      try simp only [Act.put]
      try simp only [List.setIfInBounds_toArray]
      try simp only [List.set_cons_succ]
      try simp only [List.set_cons_zero]
      refine wpAnyH_take (i := 16) (v := ?_) rfl (by kernel_rfl) (by kernel_rfl) (by kernel_rfl) (fun _ _ _ h => h) (Or.inl ⟨by kernel_rfl, fun W hSW => by go_simp; try with_reducible rfl⟩) (by assumption) ?_
      try simp only [List.getElem_toArray]
      try simp only [List.getElem_cons_succ]
      try simp only [List.getElem_cons_zero]
      try simp only [Act.put]
      try simp only [List.setIfInBounds_toArray]
      try simp only [List.set_cons_succ]
      try simp only [List.set_cons_zero]
      refine wpAnyH_done (by kernel_rfl) ?_ _
      go_wp2
      go_ret2
      exact ⟨by rw [HE.out]; rfl, K0.out.trans (K3.alloc _)⟩

set_option maxHeartbeats 4000000 in
set_option maxRecDepth 100000 in
theorem rPut_data_long (c i : Nat) (hc : c ≤ 255) (hi : i ≤ 255) (hcf : confB (c : Int) = false) (p : Option Addr) (cap : Nat) (s : ByteArray) (hs : s.size ≤ 140737488351232) (hl : 1488 < s.size) (w : World) :
    Calls Tryz.prog 8 #[pkV (c : Int) (i : Int) (.slice p 0 cap) s] w fun e w' => e = .returned (.tuple #[.string ⟨#[]⟩, .int .i64 2]) ∧ Kept (fun _ => False) w w' := by
  unfold pkV
  have HC := hid (rConf_any (c : Int))
  rw [hcf] at HC
  clear hcf
  have hc0 : ¬ (c : Int) < 0 := by omega
  have hc5 : ¬ (255 : Int) < (c : Int) := by omega
  have hi0 : ¬ (i : Int) < 0 := by omega
  have hi5 : ¬ (255 : Int) < (i : Int) := by omega
  have P0 := hid (PkAt.new w (c : Int) (i : Int) (.slice p 0 cap) s)
  have K0 := hid ((Kept.refl (fun _ => False) w).alloc (.cells #[.int .i64 (c : Int), .int .i64 (i : Int), (.slice p 0 cap), .string s] 24))
  have hne0 := str_some (s := s) (by omega)
  have hne : s.toList.isEmpty = false := by rw [List.isEmpty_eq_false_iff]; exact hne0
  have hlz : (1488 : Int) < (s.size : Int) := by omega
  go_enter Tryz.func8, Tryz.ntmps8
  go_upto_region 1 with fail
  generalize w.alloc (.cells #[.int .i64 (c : Int), .int .i64 (i : Int), (.slice p 0 cap), .string s] 24) = W0 at P0 K0 ⊢
  obtain ⟨b0, b1, b2, b3⟩ := P0.out.cells
  go_wp2_with (go_at_call 33; refine (HC.out _).mono ?_; rintro e w' ⟨rfl, hw⟩; rw [hw]; clear hw)
  go_ret2
  exact ⟨rfl, K0.out⟩

set_option maxHeartbeats 4000000 in
set_option maxRecDepth 100000 in
theorem rPut_opts_err (c i : Nat) (hc : c ≤ 255) (hi : i ≤ 255) (hcf : confB (c : Int) = true) (p : Option Addr) (n cap : Nat) (S : ByteArray) (E : Int) (w : World)
    (HO0 : ∀ W, Kept (fun _ => False) w W → Calls Tryz.prog 10 #[.slice p n cap] W fun e w' => e = .returned (.tuple #[.string S, .int .i64 E]) ∧ Kept (fun _ => False) W w') (hE : (E != 0) = true) :
    Calls Tryz.prog 8 #[pkV (c : Int) (i : Int) (.slice p n cap) ⟨#[]⟩] w fun e w' => e = .returned (.tuple #[.string ⟨#[]⟩, .int .i64 E]) ∧ Kept (fun _ => False) w w' := by
  unfold pkV
  have HO := hid HO0
  have HC := hid (rConf_any (c : Int))
  rw [hcf] at HC
  clear hcf HO0
  have hc0 : ¬ (c : Int) < 0 := by omega
  have hc5 : ¬ (255 : Int) < (c : Int) := by omega
  have hi0 : ¬ (i : Int) < 0 := by omega
  have hi5 : ¬ (255 : Int) < (i : Int) := by omega
  have P0 := hid (PkAt.new w (c : Int) (i : Int) (.slice p n cap) ⟨#[]⟩)
  have K0 := hid ((Kept.refl (fun _ => False) w).alloc (.cells #[.int .i64 (c : Int), .int .i64 (i : Int), (.slice p n cap), .string ⟨#[]⟩] 24))
  by_cases hn : n = 0
  · subst hn
    go_enter Tryz.func8, Tryz.ntmps8
    go_upto_region 1 with fail
    generalize w.alloc (.cells #[.int .i64 (c : Int), .int .i64 (i : Int), (.slice p 0 cap), .string ⟨#[]⟩] 24) = W0 at P0 K0 ⊢
    obtain ⟨b0, b1, b2, b3⟩ := P0.out.cells
    go_upto_region 5 with (go_at_call 33; refine (HC.out _).mono ?_; rintro e w' ⟨rfl, hw⟩; rw [hw]; clear hw)
    go_wp2_with fail
    refine (HO.out _ K0.out).mono ?_
    rintro e w1 ⟨rfl, hk1⟩
    have K0 := hid (K0.out.trans hk1)
    have P0 := hid (P0.out.kept hk1 id)
    obtain ⟨b0, b1, b2, b3⟩ := P0.out.cells
    clear hk1
    go_wp2
    go_ret2
    exact ⟨rfl, K0.out⟩
  · have hnz : (0 : Int) < (n : Int) := by omega
    go_enter Tryz.func8, Tryz.ntmps8
    go_upto_region 1 with fail
    generalize w.alloc (.cells #[.int .i64 (c : Int), .int .i64 (i : Int), (.slice p n cap), .string ⟨#[]⟩] 24) = W0 at P0 K0 ⊢
    obtain ⟨b0, b1, b2, b3⟩ := P0.out.cells
    go_upto_region 5 with (go_at_call 33; refine (HC.out _).mono ?_; rintro e w' ⟨rfl, hw⟩; rw [hw]; clear hw)
    go_wp2_with fail
    refine (HO.out _ K0.out).mono ?_
    rintro e w1 ⟨rfl, hk1⟩
    have K0 := hid (K0.out.trans hk1)
    have P0 := hid (P0.out.kept hk1 id)
    obtain ⟨b0, b1, b2, b3⟩ := P0.out.cells
    clear hk1
    go_wp2
    go_ret2
    exact ⟨rfl, K0.out⟩

set_option maxHeartbeats 4000000 in
set_option maxRecDepth 100000 in
theorem rPut_opts_long (c i : Nat) (hc : c ≤ 255) (hi : i ≤ 255) (hcf : confB (c : Int) = true) (p : Option Addr) (n cap : Nat) (S : ByteArray) (E : Int) (w : World)
    (HO0 : ∀ W, Kept (fun _ => False) w W → Calls Tryz.prog 10 #[.slice p n cap] W fun e w' => e = .returned (.tuple #[.string S, .int .i64 E]) ∧ Kept (fun _ => False) W w') (hE : E = 0) (hs : S.size ≤ 140737488351232) (hl : 1488 < S.size) :
    Calls Tryz.prog 8 #[pkV (c : Int) (i : Int) (.slice p n cap) ⟨#[]⟩] w fun e w' => e = .returned (.tuple #[.string ⟨#[]⟩, .int .i64 2]) ∧ Kept (fun _ => False) w w' := by
  unfold pkV
  have HO := hid HO0
  have HC := hid (rConf_any (c : Int))
  rw [hcf] at HC
  clear hcf HO0
  subst hE
  have hlz : (1488 : Int) < (S.size : Int) := by omega
  have hc0 : ¬ (c : Int) < 0 := by omega
  have hc5 : ¬ (255 : Int) < (c : Int) := by omega
  have hi0 : ¬ (i : Int) < 0 := by omega
  have hi5 : ¬ (255 : Int) < (i : Int) := by omega
  have P0 := hid (PkAt.new w (c : Int) (i : Int) (.slice p n cap) ⟨#[]⟩)
  have K0 := hid ((Kept.refl (fun _ => False) w).alloc (.cells #[.int .i64 (c : Int), .int .i64 (i : Int), (.slice p n cap), .string ⟨#[]⟩] 24))
  by_cases hn : n = 0
  · subst hn
    go_enter Tryz.func8, Tryz.ntmps8
    go_upto_region 1 with fail
    generalize w.alloc (.cells #[.int .i64 (c : Int), .int .i64 (i : Int), (.slice p 0 cap), .string ⟨#[]⟩] 24) = W0 at P0 K0 ⊢
    obtain ⟨b0, b1, b2, b3⟩ := P0.out.cells
    go_upto_region 5 with (go_at_call 33; refine (HC.out _).mono ?_; rintro e w' ⟨rfl, hw⟩; rw [hw]; clear hw)
    go_wp2_with fail
    refine (HO.out _ K0.out).mono ?_
    rintro e w1 ⟨rfl, hk1⟩
    have K0 := hid (K0.out.trans hk1)
    have P0 := hid (P0.out.kept hk1 id)
    obtain ⟨b0, b1, b2, b3⟩ := P0.out.cells
    clear hk1
    go_wp2
    go_ret2
    exact ⟨rfl, K0.out⟩
  · have hnz : (0 : Int) < (n : Int) := by omega
    go_enter Tryz.func8, Tryz.ntmps8
    go_upto_region 1 with fail
    generalize w.alloc (.cells #[.int .i64 (c : Int), .int .i64 (i : Int), (.slice p n cap), .string ⟨#[]⟩] 24) = W0 at P0 K0 ⊢
    obtain ⟨b0, b1, b2, b3⟩ := P0.out.cells
    go_upto_region 5 with (go_at_call 33; refine (HC.out _).mono ?_; rintro e w' ⟨rfl, hw⟩; rw [hw]; clear hw)
    go_wp2_with fail
    refine (HO.out _ K0.out).mono ?_
    rintro e w1 ⟨rfl, hk1⟩
    have K0 := hid (K0.out.trans hk1)
    have P0 := hid (P0.out.kept hk1 id)
    obtain ⟨b0, b1, b2, b3⟩ := P0.out.cells
    clear hk1
    go_wp2
    go_ret2
    exact ⟨rfl, K0.out⟩

set_option maxHeartbeats 4000000 in
set_option maxRecDepth 100000 in
theorem rPut_opts_yes (c i : Nat) (hc : c ≤ 255) (hi : i ≤ 255) (hcf : confB (c : Int) = true) (p : Option Addr) (n cap : Nat) (S : ByteArray) (E : Int) (w : World)
    (HO0 : ∀ W, Kept (fun _ => False) w W → Calls Tryz.prog 10 #[.slice p n cap] W fun e w' => e = .returned (.tuple #[.string S, .int .i64 E]) ∧ Kept (fun _ => False) W w') (hE : E = 0) (hs : S.size ≤ 1488) :
    Calls Tryz.prog 8 #[pkV (c : Int) (i : Int) (.slice p n cap) ⟨#[]⟩] w fun e w' => e = .returned (.tuple #[.string ⟨(headF c i (4 + S.size) ++ S.data.toList).toArray⟩, .int .i64 0]) ∧ Kept (fun _ => False) w w' := by
  unfold pkV
  have HO := hid HO0
  have HC := hid (rConf_any (c : Int))
  rw [hcf] at HC
  clear hcf HO0
  subst hE
  have HE := hid (head_two c i S hs)
  obtain ⟨A, hA⟩ : ∃ A : ByteArray, A = ⟨#[UInt8.ofNat c, UInt8.ofNat i]⟩ := ⟨_, rfl⟩
  obtain ⟨B, hB⟩ : ∃ B : ByteArray, B = ⟨(low (S.size + 4) 2).toArray⟩ := ⟨_, rfl⟩
  have hAs : A.size = 2 := by rw [hA]; rfl
  have hBs : B.size = 2 := by rw [hB, Lib.size_eq]; simp [low_length]
  have hq1 : ¬ (9223372036854775807 < A.size + B.size) := by omega
  have hq2 : ¬ (9223372036854775807 < A.size + B.size + S.size) := by omega
  rw [← hA, ← hB] at HE
  have HT0 := refTwo_any (S.size + 4) (by omega)
  rw [← hB, show ((S.size + 4 : Nat) : Int) = (S.size : Int) + 4 by omega] at HT0
  have HT : Hid (∀ W, Calls Tryz.prog 34 #[.int .i64 ((S.size : Int) + 4)] W fun e w' => e = .returned (.string B) ∧ Kept (fun _ => False) W w') := fun W => (HT0 W).mono fun _ _ h => ⟨h.1, kept_of h.2⟩
  have hws : IntKind.i64.wrap ((S.size : Int) + 4) = (S.size : Int) + 4 := by rw [IntKind.wrap_i64]; omega
  have hwc : IntKind.u8.wrap (c : Int) = (c : Int) := by show (c : Int) % 256 = _; omega
  have hwi : IntKind.u8.wrap (i : Int) = (i : Int) := by show (i : Int) % 256 = _; omega
  have hlz : ¬ (1488 : Int) < (S.size : Int) := by omega
  have HCV : Hid (∀ W g, W.heap[g]? = some (.cells #[.int .u8 (c : Int), .int .u8 (i : Int)] 5 (0, 0)) → (convert 70 9 (.slice (some ⟨g, 0, none⟩) 2 2)).run Tryz.prog W = .ok (.string A) W) := fun W g hg => by
    rw [hA]
    exact two_conv W g c i (by omega) (by omega) (c : Int) (i : Int) rfl rfl hg
  clear hA hB hAs hBs HT0
  have hc0 : ¬ (c : Int) < 0 := by omega
  have hc5 : ¬ (255 : Int) < (c : Int) := by omega
  have hi0 : ¬ (i : Int) < 0 := by omega
  have hi5 : ¬ (255 : Int) < (i : Int) := by omega
  have P0 := hid (PkAt.new w (c : Int) (i : Int) (.slice p n cap) ⟨#[]⟩)
  have K0 := hid ((Kept.refl (fun _ => False) w).alloc (.cells #[.int .i64 (c : Int), .int .i64 (i : Int), (.slice p n cap), .string ⟨#[]⟩] 24))
  by_cases hn : n = 0
  · subst hn
    go_enter Tryz.func8, Tryz.ntmps8
    go_upto_region 1 with fail
    generalize w.alloc (.cells #[.int .i64 (c : Int), .int .i64 (i : Int), (.slice p 0 cap), .string ⟨#[]⟩] 24) = W0 at P0 K0 ⊢
    obtain ⟨b0, b1, b2, b3⟩ := P0.out.cells
    go_upto_region 5 with (go_at_call 33; refine (HC.out _).mono ?_; rintro e w' ⟨rfl, hw⟩; rw [hw]; clear hw)
    go_wp2_with fail
    refine (HO.out _ K0.out).mono ?_
    rintro e w1 ⟨rfl, hk1⟩
    have K0 := hid (K0.out.trans hk1)
    have P0 := hid (P0.out.kept hk1 id)
    obtain ⟨b0, b1, b2, b3⟩ := P0.out.cells
    clear hk1
    go_upto_region 11 with fail
    have r0 : ∀ W, Kept (fun _ => False) w1 W → W.cell? ⟨w.heap.size, 0, none⟩ = some (.int .i64 (c : Int)) := fun W hW => (P0.out.kept hW id).cells.1
    have r1 : ∀ W, Kept (fun _ => False) w1 W → W.cell? ⟨w.heap.size, 1, none⟩ = some (.int .i64 (i : Int)) := fun W hW => (P0.out.kept hW id).cells.2.1
    have K1 : Kept (fun _ => False) w1 (w1.alloc (.cells #[.int .u8 (c : Int), .int .u8 (i : Int)] 5)).drew := ((Kept.refl (fun _ => False) w1).alloc _).drew
    have hc1 := HCV.out (w1.alloc (.cells #[.int .u8 (c : Int), .int .u8 (i : Int)] 5)).drew w1.heap.size (heap_alloc_new w1 _)
    have HG1 : Hid ((w1.alloc (.cells #[.int .u8 (c : Int), .int .u8 (i : Int)] 5)).drew.heap[w1.heap.size]? = some (.cells #[.int .u8 (c : Int), .int .u8 (i : Int)] 5 (0, 0))) := heap_alloc_new w1 _
    have HL1 : Hid (w1.heap.size < (w1.alloc (.cells #[.int .u8 (c : Int), .int .u8 (i : Int)] 5)).drew.heap.size) := by show w1.heap.size < (w1.alloc _).heap.size; simp
    clear b0 b1 b2 b3 hc0 hc5 hi0 hi5 hlz
    refine wp_region_held_drew (S := Kept (fun _ => False) w1) (by kernel_rfl) ((Kept.refl _ w1).drew) (fun hSd => ?_)
    refine wpAnyH_take (i := 0) (v := ?_) rfl (by kernel_rfl) (by kernel_rfl) (by kernel_rfl) (fun _ _ _ h => h) (Or.inl ⟨by kernel_rfl, fun W hSW => by go_simp; try with_reducible rfl⟩) (by assumption) ?_
    try simp only [List.getElem_toArray]
    try simp only [List.getElem_cons_succ]
    try simp only [List.getElem_cons_zero]
    try simp only [Act.put]
    try simp only [List.setIfInBounds_toArray]
    try simp only [List.set_cons_succ]
    try simp only [List.set_cons_zero]
    refine wpAnyH_take (i := 1) (v := ?_) rfl (by kernel_rfl) (by kernel_rfl) (by kernel_rfl) (fun _ _ _ h => h) (Or.inl ⟨by kernel_rfl, fun W hSW => by go_simp; try with_reducible rfl⟩) (by assumption) ?_
    try simp only [List.getElem_toArray]
    try simp only [List.getElem_cons_succ]
    try simp only [List.getElem_cons_zero]
    try simp only [Act.put]
    try simp only [List.setIfInBounds_toArray]
    try simp only [List.set_cons_succ]
    try simp only [List.set_cons_zero]
    refine wpAnyH_take (i := 2) (v := ?_) rfl (by kernel_rfl) (by kernel_rfl) (by kernel_rfl) (fun _ _ _ h => h) (Or.inl ⟨by kernel_rfl, fun W hSW => by go_simp; try with_reducible rfl⟩) (by assumption) ?_
    try simp only [List.getElem_toArray]
    try simp only [List.getElem_cons_succ]
    try simp only [List.getElem_cons_zero]
    try simp only [Act.put]
    try simp only [List.setIfInBounds_toArray]
    try simp only [List.set_cons_succ]
    try simp only [List.set_cons_zero]
    refine wpAnyH_take (i := 3) (v := ?_) rfl (by kernel_rfl) (by kernel_rfl) (by kernel_rfl) (fun _ _ _ h => h) (Or.inl ⟨by kernel_rfl, fun W hSW => by go_simp; try with_reducible rfl⟩) (by assumption) ?_
    try simp only [List.getElem_toArray]
    try simp only [List.getElem_cons_succ]
    try simp only [List.getElem_cons_zero]
    try simp only [Act.put]
    try simp only [List.setIfInBounds_toArray]
    try simp only [List.set_cons_succ]
    try simp only [List.set_cons_zero]
    refine wpAnyH_take (i := 4) (v := ?_) rfl (by kernel_rfl) (by kernel_rfl) (by kernel_rfl) (fun _ _ _ h => h) (Or.inl ⟨by kernel_rfl, fun W hSW => by go_simp; try with_reducible rfl⟩) (by assumption) ?_
    try simp only [List.getElem_toArray]
    try simp only [List.getElem_cons_succ]
    try simp only [List.getElem_cons_zero]
    try simp only [Act.put]
    try simp only [List.setIfInBounds_toArray]
    try simp only [List.set_cons_succ]
    try simp only [List.set_cons_zero]
    refine wpAnyH_take (i := 5) (v := ?_) rfl (by kernel_rfl) (by kernel_rfl) (by kernel_rfl) (fun _ _ _ h => h) (Or.inl ⟨by kernel_rfl, fun W hSW => by go_simp; try with_reducible rfl⟩) (by assumption) ?_
    try simp only [List.getElem_toArray]
    try simp only [List.getElem_cons_succ]
    try simp only [List.getElem_cons_zero]
    try simp only [Act.put]
    try simp only [List.setIfInBounds_toArray]
    try simp only [List.set_cons_succ]
    try simp only [List.set_cons_zero]
    refine wpAnyH_take (i := 8) (v := ?_) rfl (by kernel_rfl) (by kernel_rfl) (by kernel_rfl) (fun _ _ _ h => h) (Or.inl ⟨by kernel_rfl, fun W hSW => by go_simp; try with_reducible rfl⟩) (by assumption) ?_
    try simp only [List.getElem_toArray]
    try simp only [List.getElem_cons_succ]
    try simp only [List.getElem_cons_zero]
    try simp only [Act.put]
    try simp only [List.setIfInBounds_toArray]
    try simp only [List.set_cons_succ]
    try simp only [List.set_cons_zero]
    refine wpAnyH_take (i := 9) (v := ?_) rfl (by kernel_rfl) (by kernel_rfl) (by kernel_rfl) (fun _ _ _ h => h) (Or.inl ⟨by kernel_rfl, fun W hSW => by go_simp; try with_reducible rfl⟩) (by assumption) ?_
    try simp only [List.getElem_toArray]
    try simp only [List.getElem_cons_succ]
    try simp only [List.getElem_cons_zero]
    try simp only [Act.put]
    try simp only [List.setIfInBounds_toArray]
    try simp only [List.set_cons_succ]
    try simp only [List.set_cons_zero]
    refine wpAnyH_take (i := 10) (v := ?_) rfl (by kernel_rfl) (by kernel_rfl) (by kernel_rfl) (fun _ _ _ h => h) (Or.inl ⟨by kernel_rfl, fun W hSW => by go_simp; try with_reducible rfl⟩) (by assumption) ?_
    try simp only [List.getElem_toArray]
    try simp only [List.getElem_cons_succ]
    try simp only [List.getElem_cons_zero]
    try simp only [Act.put]
    try simp only [List.setIfInBounds_toArray]
    try simp only [List.set_cons_succ]
    try simp only [List.set_cons_zero]
    refine wpAnyH_take (i := 13) (v := ?_) rfl (by kernel_rfl) (by kernel_rfl) (by kernel_rfl) (fun _ _ _ h => h) (Or.inl ⟨by kernel_rfl, fun W hSW => by go_simp; try with_reducible rfl⟩) (by assumption) ?_
    try simp only [List.getElem_toArray]
    try simp only [List.getElem_cons_succ]
    try simp only [List.getElem_cons_zero]
    try simp only [Act.put]
    try simp only [List.setIfInBounds_toArray]
    try simp only [List.set_cons_succ]
    try simp only [List.set_cons_zero]
    refine wpAnyH_ready (rs := [6, 11]) (by kernel_rfl) (by simp) ?_
    refine AllReadyH.cons rfl (fun K hK => ?_) (AllReadyH.cons rfl (fun K hK => ?_) AllReadyH.nil)
    · go_simp
      refine hK.out _ _ (K1) (fun _ => ?_)
      clear hK K
      try dsimp only
      try simp only [List.getElem_toArray]
      try simp only [List.getElem_cons_succ]
      try simp only [List.getElem_cons_zero]
      try simp only [Act.put]
      try simp only [List.setIfInBounds_toArray]
      try simp only [List.set_cons_succ]
      try simp only [List.set_cons_zero]
      refine wpAnyH_ready (rs := [7, 11]) (by kernel_rfl) (by simp) ?_
      refine AllReadyH.cons rfl (fun K hK => ?_) (AllReadyH.cons rfl (fun K hK => ?_) AllReadyH.nil)
      · go_simp
        refine hK.out _ _ (K1) (fun _ => ?_)
        clear hK K
        try dsimp only
        try simp only [List.getElem_toArray]
        try simp only [List.getElem_cons_succ]
        try simp only [List.getElem_cons_zero]
        try simp only [Act.put]
        try simp only [List.setIfInBounds_toArray]
        try simp only [List.set_cons_succ]
        try simp only [List.set_cons_zero]
        refine wpAnyH_ready (rs := [11]) (by kernel_rfl) (by simp) ?_
        refine AllReadyH.cons rfl (fun K hK => ?_) AllReadyH.nil
        go_simp
        refine (HT.out _).mono ?_
        rintro e w3 ⟨rfl, hk3⟩
        refine hK.out _ _ (K1.trans hk3) (fun _ => ?_)
        clear hK K
        try simp only [List.getElem_toArray]
        try simp only [List.getElem_cons_succ]
        try simp only [List.getElem_cons_zero]
        try simp only [Act.put]
        try simp only [List.setIfInBounds_toArray]
        try simp only [List.set_cons_succ]
        try simp only [List.set_cons_zero]
        refine wpAnyH_take (i := 12) (v := ?_) rfl (by kernel_rfl) (by kernel_rfl) (by kernel_rfl) (fun _ _ _ h => h) (Or.inl ⟨by kernel_rfl, fun W hSW => by go_simp; try with_reducible rfl⟩) (by assumption) ?_
        try simp only [List.getElem_toArray]
        try simp only [List.getElem_cons_succ]
        try simp only [List.getElem_cons_zero]
        try simp only [Act.put]
        try simp only [List.setIfInBounds_toArray]
        try simp only [List.set_cons_succ]
        try simp only [List.set_cons_zero]
        refine wpAnyH_take (i := 14) (v := ?_) rfl (by kernel_rfl) (by kernel_rfl) (by kernel_rfl) (fun _ _ _ h => h) (Or.inl ⟨by kernel_rfl, fun W hSW => by go_simp; try with_reducible rfl⟩) (by assumption) ?_
        try simp only [List.getElem_toArray]
        try simp only [List.getElem_cons_succ]
        try simp only [List.getElem_cons_zero]
        try simp only [Act.put]
        try simp only [List.setIfInBounds_toArray]
        try simp only [List.set_cons_succ]
        try simp only [List.set_cons_zero]
        refine wpAnyH_take (i := 15) (v := ?_) rfl (by kernel_rfl) (by kernel_rfl) (by kernel_rfl) (fun _ _ _ h => h) (Or.inl ⟨by kernel_rfl, fun W hSW => by go_simp; try with_reducible rfl⟩) (by assumption) ?_
        try simp only [List.getElem_toArray]
        try simp only [List.getElem_cons_succ]
        try simp only [List.getElem_cons_zero]
        try simp only [Act.put]
        try simp only [List.setIfInBounds_toArray]
        try simp only [List.set_cons_succ]
        try simp only [List.set_cons_zero]
        refine wpAnyH_take (i := 16) (v := ?_) rfl (by kernel_rfl) (by kernel_rfl) (by kernel_rfl) (fun _ _ _ h => h) (Or.inl ⟨by kernel_rfl, fun W hSW => by go_simp; try with_reducible rfl⟩) (by assumption) ?_
        try simp only [List.getElem_toArray]
        try simp only [List.getElem_cons_succ]
        try simp only [List.getElem_cons_zero]
        try simp only [Act.put]
        try simp only [List.setIfInBounds_toArray]
        try simp only [List.set_cons_succ]
        try simp only [List.set_cons_zero]
        refine wpAnyH_done (by kernel_rfl) ?_ _
        go_wp2
        go_ret2
        exact ⟨by rw [HE.out]; rfl, K0.out.trans (K1.trans hk3)⟩
      · go_simp
        refine (HT.out _).mono ?_
        rintro e w3 ⟨rfl, hk3⟩
        have hc3 := HCV.out w3 w1.heap.size ((hk3.block w1.heap.size HL1.out id).trans HG1.out)
        refine hK.out _ _ (K1.trans hk3) (fun _ => ?_)
        clear hK K
        try simp only [List.getElem_toArray]
        try simp only [List.getElem_cons_succ]
        try simp only [List.getElem_cons_zero]
        try simp only [Act.put]
        try simp only [List.setIfInBounds_toArray]
        try simp only [List.set_cons_succ]
        try simp only [List.set_cons_zero]
        refine wpAnyH_ready (rs := [7]) (by kernel_rfl) (by simp) ?_
        refine AllReadyH.cons rfl (fun K hK => ?_) AllReadyH.nil
        go_simp
        refine hK.out _ _ (K1.trans hk3) (fun _ => ?_)
        clear hK K
        try dsimp only
        try simp only [List.getElem_toArray]
        try simp only [List.getElem_cons_succ]
        try simp only [List.getElem_cons_zero]
        try simp only [Act.put]
        try simp only [List.setIfInBounds_toArray]
        try simp only [List.set_cons_succ]
        try simp only [List.set_cons_zero]
        refine wpAnyH_take (i := 12) (v := ?_) rfl (by kernel_rfl) (by kernel_rfl) (by kernel_rfl) (fun _ _ _ h => h) (Or.inl ⟨by kernel_rfl, fun W hSW => by go_simp; try with_reducible rfl⟩) (by assumption) ?_
        try simp only [List.getElem_toArray]
        try simp only [List.getElem_cons_succ]
        try simp only [List.getElem_cons_zero]
        try simp only [Act.put]
        try simp only [List.setIfInBounds_toArray]
        try simp only [List.set_cons_succ]
        try simp only [List.set_cons_zero]
        refine wpAnyH_take (i := 14) (v := ?_) rfl (by kernel_rfl) (by kernel_rfl) (by kernel_rfl) (fun _ _ _ h => h) (Or.inl ⟨by kernel_rfl, fun W hSW => by go_simp; try with_reducible rfl⟩) (by assumption) ?_
        try simp only [List.getElem_toArray]
        try simp only [List.getElem_cons_succ]
        try simp only [List.getElem_cons_zero]
        try simp only [Act.put]
        try simp only [List.setIfInBounds_toArray]
        try simp only [List.set_cons_succ]
        try simp only [List.set_cons_zero]
        refine wpAnyH_take (i := 15) (v := ?_) rfl (by kernel_rfl) (by kernel_rfl) (by kernel_rfl) (fun _ _ _ h => h) (Or.inl ⟨by kernel_rfl, fun W hSW => by go_simp; try with_reducible rfl⟩) (by assumption) ?_
        try simp only [List.getElem_toArray]
        try simp only [List.getElem_cons_succ]
        try simp only [List.getElem_cons_zero]
        try simp only [Act.put]
        try simp only [List.setIfInBounds_toArray]
        try simp only [List.set_cons_succ]
        try simp only [List.set_cons_zero]
        refine wpAnyH_take (i := 16) (v := ?_) rfl (by kernel_rfl) (by kernel_rfl) (by kernel_rfl) (fun _ _ _ h => h) (Or.inl ⟨by kernel_rfl, fun W hSW => by go_simp; try with_reducible rfl⟩) (by assumption) ?_
        try simp only [List.getElem_toArray]
        try simp only [List.getElem_cons_succ]
        try simp only [List.getElem_cons_zero]
        try simp only [Act.put]
        try simp only [List.setIfInBounds_toArray]
        try simp only [List.set_cons_succ]
        try simp only [List.set_cons_zero]
        refine wpAnyH_done (by kernel_rfl) ?_ _
        go_wp2
        go_ret2
        exact ⟨by rw [HE.out]; rfl, K0.out.trans (K1.trans hk3)⟩
    · go_simp
      refine (HT.out _).mono ?_
      rintro e w3 ⟨rfl, hk3⟩
      have K3 : Kept (fun _ => False) w1 w3 := (Kept.refl (fun _ => False) w1).drew.trans hk3
      have hc3 := HCV.out (w3.alloc (.cells #[.int .u8 (c : Int), .int .u8 (i : Int)] 5)) w3.heap.size (heap_alloc_new w3 _)
      refine hK.out _ _ (K3) (fun _ => ?_)
      clear hK K
      try simp only [List.getElem_toArray]
      try simp only [List.getElem_cons_succ]
      try simp only [List.getElem_cons_zero]
      try simp only [Act.put]
      try simp only [List.setIfInBounds_toArray]
      try simp only [List.set_cons_succ]
      try simp only [List.set_cons_zero]
      refine wpAnyH_ready (rs := [6]) (by kernel_rfl) (by simp) ?_
      refine AllReadyH.cons rfl (fun K hK => ?_) AllReadyH.nil
      go_simp
      refine hK.out _ _ (K3.alloc _) (fun _ => ?_)
      clear hK K
      try dsimp only
      try simp only [List.getElem_toArray]
      try simp only [List.getElem_cons_succ]
      try simp only [List.getElem_cons_zero]
      try simp only [Act.put]
      try simp only [List.setIfInBounds_toArray]
      try simp only [List.set_cons_succ]
      try simp only [List.set_cons_zero]
      refine wpAnyH_ready (rs := [7]) (by kernel_rfl) (by simp) ?_
      refine AllReadyH.cons rfl (fun K hK => ?_) AllReadyH.nil
      go_simp
      refine hK.out _ _ (K3.alloc _) (fun _ => ?_)
      clear hK K
      try dsimp only
      try simp only [List.getElem_toArray]
      try simp only [List.getElem_cons_succ]
      try simp only [List.getElem_cons_zero]
      try simp only [Act.put]
      try simp only [List.setIfInBounds_toArray]
      try simp only [List.set_cons_succ]
      try simp only [List.set_cons_zero]
      refine wpAnyH_take (i := 12) (v := ?_) rfl (by kernel_rfl) (by kernel_rfl) (by kernel_rfl) (fun _ _ _ h => h) (Or.inl ⟨by kernel_rfl, fun W hSW => by go_simp; try with_reducible rfl⟩) (by assumption) ?_
      try simp only [List.getElem_toArray]
      try simp only [List.getElem_cons_succ]
      try simp only [List.getElem_cons_zero]
      try simp only [Act.put]
      try simp only [List.setIfInBounds_toArray]
      try simp only [List.set_cons_succ]
      try simp only [List.set_cons_zero]
      refine wpAnyH_take (i := 14) (v := ?_) rfl (by kernel_rfl) (by kernel_rfl) (by kernel_rfl) (fun _ _ _ h => h) (Or.inl ⟨by kernel_rfl, fun W hSW => by go_simp; try with_reducible rfl⟩) (by assumption) ?_
      try simp only [List.getElem_toArray]
      try simp only [List.getElem_cons_succ]
      try simp only [List.getElem_cons_zero]
      try simp only [Act.put]
      try simp only [List.setIfInBounds_toArray]
      try simp only [List.set_cons_succ]
      try simp only [List.set_cons_zero]
      refine wpAnyH_take (i := 15) (v := ?_) rfl (by kernel_rfl) (by kernel_rfl) (by kernel_rfl) (fun _ _ _ h => h) (Or.inl ⟨by kernel_rfl, fun W hSW => by go_simp; try with_reducible rfl⟩) (by assumption) ?_
      try simp only [List.getElem_toArray]
      try simp only [List.getElem_cons_succ]
      try simp only [List.getElem_cons_zero]
      try simp only [Act.put]
      try simp only [List.setIfInBounds_toArray]
      try simp only [List.set_cons_succ]
      try simp only [List.set_cons_zero]
      refine wpAnyH_take (i := 16) (v := ?_) rfl (by kernel_rfl) (by kernel_rfl) (by kernel_rfl) (fun _ _ _ h => h) (Or.inl ⟨by kernel_rfl, fun W hSW => by go_simp; try with_reducible rfl⟩) (by assumption) ?_
      try simp only [List.getElem_toArray]
      try simp only [List.getElem_cons_succ]
      try simp only [List.getElem_cons_zero]
      try simp only [Act.put]
      try simp only [List.setIfInBounds_toArray]
      try simp only [List.set_cons_succ]
      try simp only [List.set_cons_zero]
      refine wpAnyH_done (by kernel_rfl) ?_ _
      go_wp2
      go_ret2
      exact ⟨by rw [HE.out]; rfl, K0.out.trans (K3.alloc _)⟩
  · have hnz : (0 : Int) < (n : Int) := by omega
    go_enter Tryz.func8, Tryz.ntmps8
    go_upto_region 1 with fail
    generalize w.alloc (.cells #[.int .i64 (c : Int), .int .i64 (i : Int), (.slice p n cap), .string ⟨#[]⟩] 24) = W0 at P0 K0 ⊢
    obtain ⟨b0, b1, b2, b3⟩ := P0.out.cells
    go_upto_region 5 with (go_at_call 33; refine (HC.out _).mono ?_; rintro e w' ⟨rfl, hw⟩; rw [hw]; clear hw)
    go_wp2_with fail
    refine (HO.out _ K0.out).mono ?_
    rintro e w1 ⟨rfl, hk1⟩
    have K0 := hid (K0.out.trans hk1)
    have P0 := hid (P0.out.kept hk1 id)
    obtain ⟨b0, b1, b2, b3⟩ := P0.out.cells
    clear hk1
    go_upto_region 11 with fail
    have r0 : ∀ W, Kept (fun _ => False) w1 W → W.cell? ⟨w.heap.size, 0, none⟩ = some (.int .i64 (c : Int)) := fun W hW => (P0.out.kept hW id).cells.1
    have r1 : ∀ W, Kept (fun _ => False) w1 W → W.cell? ⟨w.heap.size, 1, none⟩ = some (.int .i64 (i : Int)) := fun W hW => (P0.out.kept hW id).cells.2.1
    have K1 : Kept (fun _ => False) w1 (w1.alloc (.cells #[.int .u8 (c : Int), .int .u8 (i : Int)] 5)).drew := ((Kept.refl (fun _ => False) w1).alloc _).drew
    have hc1 := HCV.out (w1.alloc (.cells #[.int .u8 (c : Int), .int .u8 (i : Int)] 5)).drew w1.heap.size (heap_alloc_new w1 _)
    have HG1 : Hid ((w1.alloc (.cells #[.int .u8 (c : Int), .int .u8 (i : Int)] 5)).drew.heap[w1.heap.size]? = some (.cells #[.int .u8 (c : Int), .int .u8 (i : Int)] 5 (0, 0))) := heap_alloc_new w1 _
    have HL1 : Hid (w1.heap.size < (w1.alloc (.cells #[.int .u8 (c : Int), .int .u8 (i : Int)] 5)).drew.heap.size) := by show w1.heap.size < (w1.alloc _).heap.size; simp
    clear b0 b1 b2 b3 hc0 hc5 hi0 hi5 hlz
    refine wp_region_held_drew (S := Kept (fun _ => False) w1) (by kernel_rfl) ((Kept.refl _ w1).drew) (fun hSd => ?_)
    refine wpAnyH_take (i := 0) (v := ?_) rfl (by kernel_rfl) (by kernel_rfl) (by kernel_rfl) (fun _ _ _ h => h) (Or.inl ⟨by kernel_rfl, fun W hSW => by go_simp; try with_reducible rfl⟩) (by assumption) ?_
    try simp only [List.getElem_toArray]
    try simp only [List.getElem_cons_succ]
    try simp only [List.getElem_cons_zero]
    try simp only [Act.put]
    try simp only [List.setIfInBounds_toArray]
    try simp only [List.set_cons_succ]
    try simp only [List.set_cons_zero]
    refine wpAnyH_take (i := 1) (v := ?_) rfl (by kernel_rfl) (by kernel_rfl) (by kernel_rfl) (fun _ _ _ h => h) (Or.inl ⟨by kernel_rfl, fun W hSW => by go_simp; try with_reducible rfl⟩) (by assumption) ?_
    try simp only [List.getElem_toArray]
    try simp only [List.getElem_cons_succ]
    try simp only [List.getElem_cons_zero]
    try simp only [Act.put]
    try simp only [List.setIfInBounds_toArray]
    try simp only [List.set_cons_succ]
    try simp only [List.set_cons_zero]
    refine wpAnyH_take (i := 2) (v := ?_) rfl (by kernel_rfl) (by kernel_rfl) (by kernel_rfl) (fun _ _ _ h => h) (Or.inl ⟨by kernel_rfl, fun W hSW => by go_simp; try with_reducible rfl⟩) (by assumption) ?_
    try simp only [List.getElem_toArray]
    try simp only [List.getElem_cons_succ]
    try simp only [List.getElem_cons_zero]
    try simp only [Act.put]
    try simp only [List.setIfInBounds_toArray]
    try simp only [List.set_cons_succ]
    try simp only [List.set_cons_zero]
    refine wpAnyH_take (i := 3) (v := ?_) rfl (by kernel_rfl) (by kernel_rfl) (by kernel_rfl) (fun _ _ _ h => h) (Or.inl ⟨by kernel_rfl, fun W hSW => by go_simp; try with_reducible rfl⟩) (by assumption) ?_
    try simp only [List.getElem_toArray]
    try simp only [List.getElem_cons_succ]
    try simp only [List.getElem_cons_zero]
    try simp only [Act.put]
    try simp only [List.setIfInBounds_toArray]
    try simp only [List.set_cons_succ]
    try simp only [List.set_cons_zero]
    refine wpAnyH_take (i := 4) (v := ?_) rfl (by kernel_rfl) (by kernel_rfl) (by kernel_rfl) (fun _ _ _ h => h) (Or.inl ⟨by kernel_rfl, fun W hSW => by go_simp; try with_reducible rfl⟩) (by assumption) ?_
    try simp only [List.getElem_toArray]
    try simp only [List.getElem_cons_succ]
    try simp only [List.getElem_cons_zero]
    try simp only [Act.put]
    try simp only [List.setIfInBounds_toArray]
    try simp only [List.set_cons_succ]
    try simp only [List.set_cons_zero]
    refine wpAnyH_take (i := 5) (v := ?_) rfl (by kernel_rfl) (by kernel_rfl) (by kernel_rfl) (fun _ _ _ h => h) (Or.inl ⟨by kernel_rfl, fun W hSW => by go_simp; try with_reducible rfl⟩) (by assumption) ?_
    try simp only [List.getElem_toArray]
    try simp only [List.getElem_cons_succ]
    try simp only [List.getElem_cons_zero]
    try simp only [Act.put]
    try simp only [List.setIfInBounds_toArray]
    try simp only [List.set_cons_succ]
    try simp only [List.set_cons_zero]
    refine wpAnyH_take (i := 8) (v := ?_) rfl (by kernel_rfl) (by kernel_rfl) (by kernel_rfl) (fun _ _ _ h => h) (Or.inl ⟨by kernel_rfl, fun W hSW => by go_simp; try with_reducible rfl⟩) (by assumption) ?_
    try simp only [List.getElem_toArray]
    try simp only [List.getElem_cons_succ]
    try simp only [List.getElem_cons_zero]
    try simp only [Act.put]
    try simp only [List.setIfInBounds_toArray]
    try simp only [List.set_cons_succ]
    try simp only [List.set_cons_zero]
    refine wpAnyH_take (i := 9) (v := ?_) rfl (by kernel_rfl) (by kernel_rfl) (by kernel_rfl) (fun _ _ _ h => h) (Or.inl ⟨by kernel_rfl, fun W hSW => by go_simp; try with_reducible rfl⟩) (by assumption) ?_
    try simp only [List.getElem_toArray]
    try simp only [List.getElem_cons_succ]
    try simp only [List.getElem_cons_zero]
    try simp only [Act.put]
    try simp only [List.setIfInBounds_toArray]
    try simp only [List.set_cons_succ]
    try simp only [List.set_cons_zero]
    refine wpAnyH_take (i := 10) (v := ?_) rfl (by kernel_rfl) (by kernel_rfl) (by kernel_rfl) (fun _ _ _ h => h) (Or.inl ⟨by kernel_rfl, fun W hSW => by go_simp; try with_reducible rfl⟩) (by assumption) ?_
    try simp only [List.getElem_toArray]
    try simp only [List.getElem_cons_succ]
    try simp only [List.getElem_cons_zero]
    try simp only [Act.put]
    try simp only [List.setIfInBounds_toArray]
    try simp only [List.set_cons_succ]
    try simp only [List.set_cons_zero]
    refine wpAnyH_take (i := 13) (v := ?_) rfl (by kernel_rfl) (by kernel_rfl) (by kernel_rfl) (fun _ _ _ h => h) (Or.inl ⟨by kernel_rfl, fun W hSW => by go_simp; try with_reducible rfl⟩) (by assumption) ?_
    try simp only [List.getElem_toArray]
    try simp only [List.getElem_cons_succ]
    try simp only [List.getElem_cons_zero]
    try simp only [Act.put]
    try simp only [List.setIfInBounds_toArray]
    try simp only [List.set_cons_succ]
    try simp only [List.set_cons_zero]
    refine wpAnyH_ready (rs := [6, 11]) (by kernel_rfl) (by simp) ?_
    refine AllReadyH.cons rfl (fun K hK => ?_) (AllReadyH.cons rfl (fun K hK => ?_) AllReadyH.nil)
    · go_simp
      refine hK.out _ _ (K1) (fun _ => ?_)
      clear hK K
      try dsimp only
      try simp only [List.getElem_toArray]
      try simp only [List.getElem_cons_succ]
      try simp only [List.getElem_cons_zero]
      try simp only [Act.put]
      try simp only [List.setIfInBounds_toArray]
      try simp only [List.set_cons_succ]
      try simp only [List.set_cons_zero]
      refine wpAnyH_ready (rs := [7, 11]) (by kernel_rfl) (by simp) ?_
      refine AllReadyH.cons rfl (fun K hK => ?_) (AllReadyH.cons rfl (fun K hK => ?_) AllReadyH.nil)
      · go_simp
        refine hK.out _ _ (K1) (fun _ => ?_)
        clear hK K
        try dsimp only
        try simp only [List.getElem_toArray]
        try simp only [List.getElem_cons_succ]
        try simp only [List.getElem_cons_zero]
        try simp only [Act.put]
        try simp only [List.setIfInBounds_toArray]
        try simp only [List.set_cons_succ]
        try simp only [List.set_cons_zero]
        refine wpAnyH_ready (rs := [11]) (by kernel_rfl) (by simp) ?_
        refine AllReadyH.cons rfl (fun K hK => ?_) AllReadyH.nil
        go_simp
        refine (HT.out _).mono ?_
        rintro e w3 ⟨rfl, hk3⟩
        refine hK.out _ _ (K1.trans hk3) (fun _ => ?_)
        clear hK K
        try simp only [List.getElem_toArray]
        try simp only [List.getElem_cons_succ]
        try simp only [List.getElem_cons_zero]
        try simp only [Act.put]
        try simp only [List.setIfInBounds_toArray]
        try simp only [List.set_cons_succ]
        try simp only [List.set_cons_zero]
        refine wpAnyH_take (i := 12) (v := ?_) rfl (by kernel_rfl) (by kernel_rfl) (by kernel_rfl) (fun _ _ _ h => h) (Or.inl ⟨by kernel_rfl, fun W hSW => by go_simp; try with_reducible rfl⟩) (by assumption) ?_
        try simp only [List.getElem_toArray]
        try simp only [List.getElem_cons_succ]
        try simp only [List.getElem_cons_zero]
        try simp only [Act.put]
        try simp only [List.setIfInBounds_toArray]
        try simp only [List.set_cons_succ]
        try simp only [List.set_cons_zero]
        refine wpAnyH_take (i := 14) (v := ?_) rfl (by kernel_rfl) (by kernel_rfl) (by kernel_rfl) (fun _ _ _ h => h) (Or.inl ⟨by kernel_rfl, fun W hSW => by go_simp; try with_reducible rfl⟩) (by assumption) ?_
        try simp only [List.getElem_toArray]
        try simp only [List.getElem_cons_succ]
        try simp only [List.getElem_cons_zero]
        try simp only [Act.put]
        try simp only [List.setIfInBounds_toArray]
        try simp only [List.set_cons_succ]
        try simp only [List.set_cons_zero]
        refine wpAnyH_take (i := 15) (v := ?_) rfl (by kernel_rfl) (by kernel_rfl) (by kernel_rfl) (fun _ _ _ h => h) (Or.inl ⟨by kernel_rfl, fun W hSW => by go_simp; try with_reducible rfl⟩) (by assumption) ?_
        try simp only [List.getElem_toArray]
        try simp only [List.getElem_cons_succ]
        try simp only [List.getElem_cons_zero]
        try simp only [Act.put]
        try simp only [List.setIfInBounds_toArray]
        try simp only [List.set_cons_succ]
        try simp only [List.set_cons_zero]
        refine wpAnyH_take (i := 16) (v := ?_) rfl (by kernel_rfl) (by kernel_rfl) (by kernel_rfl) (fun _ _ _ h => h) (Or.inl ⟨by kernel_rfl, fun W hSW => by go_simp; try with_reducible rfl⟩) (by assumption) ?_
        try simp only [List.getElem_toArray]
        try simp only [List.getElem_cons_succ]
        try simp only [List.getElem_cons_zero]
        try simp only [Act.put]
        try simp only [List.setIfInBounds_toArray]
        try simp only [List.set_cons_succ]
        try simp only [List.set_cons_zero]
        refine wpAnyH_done (by kernel_rfl) ?_ _
        go_wp2
        go_ret2
        exact ⟨by rw [HE.out]; rfl, K0.out.trans (K1.trans hk3)⟩
      · go_simp
        refine (HT.out _).mono ?_
        rintro e w3 ⟨rfl, hk3⟩
        have hc3 := HCV.out w3 w1.heap.size ((hk3.block w1.heap.size HL1.out id).trans HG1.out)
        refine hK.out _ _ (K1.trans hk3) (fun _ => ?_)
        clear hK K
        try simp only [List.getElem_toArray]
        try simp only [List.getElem_cons_succ]
        try simp only [List.getElem_cons_zero]
        try simp only [Act.put]
        try simp only [List.setIfInBounds_toArray]
        try simp only [List.set_cons_succ]
        try simp only [List.set_cons_zero]
        refine wpAnyH_ready (rs := [7]) (by kernel_rfl) (by simp) ?_
        refine AllReadyH.cons rfl (fun K hK => ?_) AllReadyH.nil
        go_simp
        refine hK.out _ _ (K1.trans hk3) (fun _ => ?_)
        clear hK K
        try dsimp only
        try simp only [List.getElem_toArray]
        try simp only [List.getElem_cons_succ]
        try simp only [List.getElem_cons_zero]
        try simp only [Act.put]
        try simp only [List.setIfInBounds_toArray]
        try simp only [List.set_cons_succ]
        try simp only [List.set_cons_zero]
        refine wpAnyH_take (i := 12) (v := ?_) rfl (by kernel_rfl) (by kernel_rfl) (by kernel_rfl) (fun _ _ _ h => h) (Or.inl ⟨by kernel_rfl, fun W hSW => by go_simp; try with_reducible rfl⟩) (by assumption) ?_
        try simp only [List.getElem_toArray]
        try simp only [List.getElem_cons_succ]
        try simp only [List.getElem_cons_zero]
        try simp only [Act.put]
        try simp only [List.setIfInBounds_toArray]
        try simp only [List.set_cons_succ]
        try simp only [List.set_cons_zero]
        refine wpAnyH_take (i := 14) (v := ?_) rfl (by kernel_rfl) (by kernel_rfl) (by kernel_rfl) (fun _ _ _ h => h) (Or.inl ⟨by kernel_rfl, fun W hSW => by go_simp; try with_reducible rfl⟩) (by assumption) ?_
        try simp only [List.getElem_toArray]
        try simp only [List.getElem_cons_succ]
        try simp only [List.getElem_cons_zero]
        try simp only [Act.put]
        try simp only [List.setIfInBounds_toArray]
        try simp only [List.set_cons_succ]
        try simp only [List.set_cons_zero]
        refine wpAnyH_take (i := 15) (v := ?_) rfl (by kernel_rfl) (by kernel_rfl) (by kernel_rfl) (fun _ _ _ h => h) (Or.inl ⟨by kernel_rfl, fun W hSW => by go_simp; try with_reducible rfl⟩) (by assumption) ?_
        try simp only [List.getElem_toArray]
        try simp only [List.getElem_cons_succ]
        try simp only [List.getElem_cons_zero]
        try simp only [Act.put]
        try simp only [List.setIfInBounds_toArray]
        try simp only [List.set_cons_succ]
        try simp only [List.set_cons_zero]
        refine wpAnyH_take (i := 16) (v := ?_) rfl (by kernel_rfl) (by kernel_rfl) (by kernel_rfl) (fun _ _ _ h => h) (Or.inl ⟨by kernel_rfl, fun W hSW => by go_simp; try with_reducible rfl⟩) (by assumption) ?_
        try simp only [List.getElem_toArray]
        try simp only [List.getElem_cons_succ]
        try simp only [List.getElem_cons_zero]
        try simp only [Act.put]
        try simp only [List.setIfInBounds_toArray]
        try simp only [List.set_cons_succ]
        try simp only [List.set_cons_zero]
        refine wpAnyH_done (by kernel_rfl) ?_ _
        go_wp2
        go_ret2
        exact ⟨by rw [HE.out]; rfl, K0.out.trans (K1.trans hk3)⟩
    · go_simp
      refine (HT.out _).mono ?_
      rintro e w3 ⟨rfl, hk3⟩
      have K3 : Kept (fun _ => False) w1 w3 := (Kept.refl (fun _ => False) w1).drew.trans hk3
      have hc3 := HCV.out (w3.alloc (.cells #[.int .u8 (c : Int), .int .u8 (i : Int)] 5)) w3.heap.size (heap_alloc_new w3 _)
      refine hK.out _ _ (K3) (fun _ => ?_)
      clear hK K
      try simp only [List.getElem_toArray]
      try simp only [List.getElem_cons_succ]
      try simp only [List.getElem_cons_zero]
      try simp only [Act.put]
      try simp only [List.setIfInBounds_toArray]
      try simp only [List.set_cons_succ]
      try simp only [List.set_cons_zero]
      refine wpAnyH_ready (rs := [6]) (by kernel_rfl) (by simp) ?_
      refine AllReadyH.cons rfl (fun K hK => ?_) AllReadyH.nil
      go_simp
      refine hK.out _ _ (K3.alloc _) (fun _ => ?_)
      clear hK K
      try dsimp only
      try simp only [List.getElem_toArray]
      try simp only [List.getElem_cons_succ]
      try simp only [List.getElem_cons_zero]
      try simp only [Act.put]
      try simp only [List.setIfInBounds_toArray]
      try simp only [List.set_cons_succ]
      try simp only [List.set_cons_zero]
      refine wpAnyH_ready (rs := [7]) (by kernel_rfl) (by simp) ?_
      refine AllReadyH.cons rfl (fun K hK => ?_) AllReadyH.nil
      go_simp
      refine hK.out _ _ (K3.alloc _) (fun _ => ?_)
      clear hK K
      try dsimp only
      try simp only [List.getElem_toArray]
      try simp only [List.getElem_cons_succ]
      try simp only [List.getElem_cons_zero]
      try simp only [Act.put]
      try simp only [List.setIfInBounds_toArray]
      try simp only [List.set_cons_succ]
      try simp only [List.set_cons_zero]
      refine wpAnyH_take (i := 12) (v := ?_) rfl (by kernel_rfl) (by kernel_rfl) (by kernel_rfl) (fun _ _ _ h => h) (Or.inl ⟨by kernel_rfl, fun W hSW => by go_simp; try with_reducible rfl⟩) (by assumption) ?_
      try simp only [List.getElem_toArray]
      try simp only [List.getElem_cons_succ]
      try simp only [List.getElem_cons_zero]
      try simp only [Act.put]
      try simp only [List.setIfInBounds_toArray]
      try simp only [List.set_cons_succ]
      try simp only [List.set_cons_zero]
      refine wpAnyH_take (i := 14) (v := ?_) rfl (by kernel_rfl) (by kernel_rfl) (by kernel_rfl) (fun _ _ _ h => h) (Or.inl ⟨by kernel_rfl, fun W hSW => by go_simp; try with_reducible rfl⟩) (by assumption) ?_
      try simp only [List.getElem_toArray]
      try simp only [List.getElem_cons_succ]
      try simp only [List.getElem_cons_zero]
      try simp only [Act.put]
      try simp only [List.setIfInBounds_toArray]
      try simp only [List.set_cons_succ]
      try simp only [List.set_cons_zero]
      refine wpAnyH_take (i := 15) (v := ?_) rfl (by kernel_rfl) (by kernel_rfl) (by kernel_rfl) (fun _ _ _ h => h) (Or.inl ⟨by kernel_rfl, fun W hSW => by go_simp; try with_reducible rfl⟩) (by assumption) ?_
      try simp only [List.getElem_toArray]
      try simp only [List.getElem_cons_succ]
      try simp only [List.getElem_cons_zero]
      try simp only [Act.put]
      try simp only [List.setIfInBounds_toArray]
      try simp only [List.set_cons_succ]
      try simp only [List.set_cons_zero]
      refine wpAnyH_take (i := 16) (v := ?_) rfl (by kernel_rfl) (by kernel_rfl) (by kernel_rfl) (fun _ _ _ h => h) (Or.inl ⟨by kernel_rfl, fun W hSW => by go_simp; try with_reducible rfl⟩) (by assumption) ?_
      try simp only [List.getElem_toArray]
      try simp only [List.getElem_cons_succ]
      try simp only [List.getElem_cons_zero]
      try simp only [Act.put]
      try simp only [List.setIfInBounds_toArray]
      try simp only [List.set_cons_succ]
      try simp only [List.set_cons_zero]
      refine wpAnyH_done (by kernel_rfl) ?_ _
      go_wp2
      go_ret2
      exact ⟨by rw [HE.out]; rfl, K0.out.trans (K3.alloc _)⟩

/-- The document's Put. -/
theorem rPut_any (c i : Int) (v : Value) (o : List Tg) (s : ByteArray) (hs : s.size ≤ 140737488351232) (w : World) (hv : TagsAt w v o) (hsz : ∀ x ∈ o, x.value.size ≤ 140737488351232) :
    Calls Tryz.prog 8 #[pkV c i v s] w fun e w' => e = .returned (.tuple #[.string ⟨(putPackF c i o s.data.toList).1.toArray⟩, .int .i64 (putPackF c i o s.data.toList).2]) ∧ Kept (fun _ => False) w w' := by
  have HO := fun W (h : Kept (fun _ => False) w W) => rPutOpts_any v o W (hv.kept0 h) hsz
  obtain ⟨p, cap, rfl⟩ := hv.slice
  have hl : s.data.toList.length = s.size := (Lib.size_eq s).symm
  unfold putPackF
  cases hcf : confB c with
  | false =>
    rw [if_pos rfl]
    unfold putDataF
    by_cases h : (byteB c && byteB i && decide (o.length = 0)) = true
    · rw [if_pos h]
      simp only [Bool.and_eq_true, decide_eq_true_eq] at h
      obtain ⟨⟨hc, hi⟩, h0⟩ := h
      obtain ⟨a, rfl, ha⟩ := byteB_nat hc
      obtain ⟨b, rfl, hb⟩ := byteB_nat hi
      rw [Int.toNat_natCast, Int.toNat_natCast, h0]
      unfold packF
      rw [hl]
      by_cases hlg : 1488 < s.size
      · rw [if_pos hlg]
        exact rPut_data_long a b ha hb hcf p cap s hs hlg w
      · rw [if_neg hlg]
        exact rPut_data_yes a b ha hb hcf p cap s (by omega) w
    · rw [if_neg h]
      refine rPut_no c i p _ cap s w ?_
      rcases not_bytes h with h | h | h | h | ⟨h, h2, h3⟩
      · exact Or.inl h
      · exact Or.inr (Or.inl h)
      · exact Or.inr (Or.inr (Or.inl h))
      · exact Or.inr (Or.inr (Or.inr (Or.inl h)))
      · exact Or.inr (Or.inr (Or.inr (Or.inr (Or.inl ⟨h, h2, h3, hcf⟩))))
  | true =>
    rw [if_neg (by simp)]
    have hr : 1 ≤ c ∧ c ≤ 4 := by simpa [confB] using hcf
    by_cases h : (byteB i && decide (s.data.toList.length = 0)) = true
    · rw [if_pos h]
      simp only [Bool.and_eq_true, decide_eq_true_eq] at h
      obtain ⟨hi, h0⟩ := h
      obtain rfl := str_nil s (by omega)
      obtain ⟨a, rfl, ha⟩ := confB_nat hcf
      obtain ⟨b, rfl, hb⟩ := byteB_nat hi
      rw [Int.toNat_natCast, Int.toNat_natCast]
      by_cases he : (putOptsF o).2 = 0
      · rw [if_pos he]
        unfold packF
        have hz : (⟨(putOptsF o).1.toArray⟩ : ByteArray).size = (putOptsF o).1.length := rfl
        by_cases hlg : 1488 < (putOptsF o).1.length
        · rw [if_pos hlg]
          have hsm : (putOptsF o).1.length ≤ 140737488351232 := by
            unfold putOptsF
            split
            · simp
            · split
              · simp
              · rename_i h1 h2
                have h3 := sizeO_le (l := o) (by simpa using h2)
                rw [bytesO_length]
                omega
          exact rPut_opts_long a b ha hb hcf p _ cap ⟨(putOptsF o).1.toArray⟩ _ w HO he (by rw [hz]; exact hsm) (by rw [hz]; exact hlg)
        · rw [if_neg hlg]
          exact rPut_opts_yes a b ha hb hcf p _ cap ⟨(putOptsF o).1.toArray⟩ _ w HO he (by rw [hz]; omega)
      · rw [if_neg he]
        exact rPut_opts_err a b ha hb hcf p _ cap ⟨(putOptsF o).1.toArray⟩ _ w HO (by simpa using he)
    · rw [if_neg h]
      refine rPut_no c i p _ cap s w ?_
      rw [hl] at h
      have h2 : ¬ ((0 ≤ i ∧ i ≤ 255) ∧ s.size = 0) := fun ⟨⟨h1, h2⟩, h3⟩ => h (by simp [byteB, h1, h2, h3])
      by_cases h3 : i < 0
      · exact Or.inr (Or.inr (Or.inl ⟨by omega, h3⟩))
      · by_cases h4 : 255 < i
        · exact Or.inr (Or.inr (Or.inr (Or.inl ⟨by omega, by omega, h4⟩)))
        · by_cases h5 : o.length = 0
          · exact Or.inr (Or.inr (Or.inr (Or.inr (Or.inr (Or.inr ⟨by omega, by omega, h5, hcf, by omega⟩)))))
          · exact Or.inr (Or.inr (Or.inr (Or.inr (Or.inr (Or.inl ⟨by omega, by omega, by omega, hcf, by omega⟩)))))
end Go.Proofs.YtdifdcceigoedaaGreat
