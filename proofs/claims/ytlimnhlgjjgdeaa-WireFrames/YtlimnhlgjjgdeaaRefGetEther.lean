/- The contract of the document's own GetEther: the frame of some bytes, or the error. -/
import Derived.Test.YtlimnhlgjjgdeaaRefPpp
import Derived.Test.YtlimnhlgjjgdeaaGetEther
import Derived.Deep.WholeRow
namespace Go.Proofs.Ytlimnhlgjjgdeaa
open Go.RowKit

set_option maxHeartbeats 400000 in
theorem refNum_drew (s : ByteArray) (hs : s.size ≤ maxLen) (k : Nat) (h : k + 1 < s.size) (w : World) :
    Calls Try.prog 26 #[.string s, .int .i64 (k : Int)] w fun e w' => e = .returned (.int .i64 (numOf ((s.data.toList.drop k).take 2) : Int)) ∧ w' = w.drew := by
  unfold maxLen at hs
  rw [num_pair s k h]
  have b0 := s[k].toNat_lt
  have b1 := s[k + 1].toNat_lt
  have x0 := index_at s k (by omega) (k : Int) rfl
  have x1 := index_at s (k + 1) h ((k : Int) + 1) (by omega)
  generalize s[k].toNat = A at b0 x0
  generalize s[k + 1].toNat = B at b1 x1
  have hwr : IntKind.i64.wrap ((k : Int) + 1) = (k : Int) + 1 := by rw [IntKind.wrap_i64]; omega
  go_enter Try.func26, Try.ntmps26
  go_wp2
  go_region
  go_wp2
  go_ret
  exact ⟨ret_int (by omega), rfl⟩

/-- The frame's cells when k rounds are done. -/
def ethAt (s : ByteArray) (k : Nat) (t : Int) (x : ByteArray) (j : Nat) : Value :=
  if j < 12 then (if j % 6 < k then .int .u8 ((s.data.toList.getD j 0).toNat : Int) else .int .u8 0) else if j = 12 then .int .i64 t else .string x
def ethK (s : ByteArray) (k : Nat) (t : Int) (x : ByteArray) : Array Value := ((List.range 14).map (ethAt s k t x)).toArray
theorem ethK_size (s : ByteArray) (k : Nat) (t : Int) (x : ByteArray) : (ethK s k t x).size = 14 := by simp [ethK]
theorem ethK_at (s : ByteArray) (k : Nat) (t : Int) (x : ByteArray) (j : Nat) (h : j < 14) : (ethK s k t x)[j]? = some (ethAt s k t x j) := by simp [ethK, h]
theorem ethK_zero (s : ByteArray) (t : Int) (x : ByteArray) : ethK s 0 t x = #[.int .u8 0, .int .u8 0, .int .u8 0, .int .u8 0, .int .u8 0, .int .u8 0, .int .u8 0, .int .u8 0, .int .u8 0, .int .u8 0, .int .u8 0, .int .u8 0, .int .i64 t, .string x] := by rfl
theorem ethK_next (s : ByteArray) (k : Nat) (h : k < 6) (hs : 14 ≤ s.size) (t : Int) (x : ByteArray) :
    ((ethK s k t x).setIfInBounds k (.int .u8 (s[k].toNat : Int))).setIfInBounds (6 + k) (.int .u8 (s[6 + k].toNat : Int)) = ethK s (k + 1) t x := by
  have g : ∀ i (hi : i < s.size), (s.data.toList.getD i 0).toNat = s[i].toNat := fun i hi => by
    rw [List.getD_eq_getElem?_getD, List.getElem?_eq_getElem (by simpa using hi)]
    rfl
  rw [← g k (by omega), ← g (6 + k) (by omega)]
  apply Array.ext_getElem?
  intro j
  rw [Array.getElem?_setIfInBounds, Array.getElem?_setIfInBounds, Array.size_setIfInBounds, ethK_size]
  by_cases hj : j < 14
  · rw [ethK_at _ _ _ _ _ hj, ethK_at _ _ _ _ _ hj]
    by_cases h1 : 6 + k = j
    · subst h1
      rw [if_pos rfl, if_pos hj]
      unfold ethAt
      rw [if_pos (by omega), if_pos (by omega)]
    · by_cases h2 : k = j
      · subst h2
        rw [if_neg h1, if_pos rfl, if_pos hj]
        unfold ethAt
        rw [if_pos (by omega), if_pos (by omega)]
      · rw [if_neg h1, if_neg h2]
        unfold ethAt
        by_cases h3 : j < 12
        · rw [if_pos h3, if_pos h3]
          by_cases h4 : j % 6 < k
          · rw [if_pos h4, if_pos (by omega)]
          · rw [if_neg h4, if_neg (by omega)]
        · rw [if_neg h3, if_neg h3]
  · rw [if_neg (by omega), if_neg (by omega), Array.getElem?_eq_none (by rw [ethK_size]; omega), Array.getElem?_eq_none (by rw [ethK_size]; omega)]
theorem ethK_six (s : ByteArray) (hs : 14 ≤ s.size) (t : Int) (x : ByteArray) : ethK s 6 t x = (ethCells (s.data.toList.take 6) ((s.data.toList.drop 6).take 6) t x).toArray := by
  have hl : s.data.toList.length = s.size := (Lib.size_eq s).symm
  have hc : ∀ (m : List UInt8) (j : Nat), j < m.length → (Lib.byteCells m)[j]? = some (.int .u8 ((m.getD j 0).toNat : Int)) := fun m j hj => by
    simp [Lib.byteCells, hj]
  unfold ethK
  apply congrArg List.toArray
  apply List.ext_getElem?
  intro j
  unfold ethCells
  by_cases hj : j < 14
  · rw [show ((List.range 14).map (ethAt s 6 t x))[j]? = some (ethAt s 6 t x j) by simp [hj]]
    unfold ethAt
    by_cases h6 : j < 6
    · rw [if_pos (by omega), if_pos (by omega), List.getElem?_append_left (by rw [Lib.byteCells_length, List.length_take]; omega), hc _ _ (by rw [List.length_take]; omega)]
      simp [List.getD_eq_getElem?_getD, h6]
    · rw [List.getElem?_append_right (by rw [Lib.byteCells_length, List.length_take]; omega), Lib.byteCells_length, List.length_take, Nat.min_eq_left (by omega)]
      by_cases h12 : j < 12
      · rw [if_pos h12, if_pos (by omega), List.getElem?_append_left (by rw [Lib.byteCells_length, List.length_take, List.length_drop]; omega), hc _ _ (by rw [List.length_take, List.length_drop]; omega)]
        rw [List.getD_eq_getElem?_getD, List.getD_eq_getElem?_getD, List.getElem?_take, if_pos (by omega), List.getElem?_drop, show 6 + (j - 6) = j by omega]
      · rw [if_neg h12, List.getElem?_append_right (by rw [Lib.byteCells_length, List.length_take, List.length_drop]; omega), Lib.byteCells_length, List.length_take, List.length_drop, Nat.min_eq_left (by omega)]
        obtain rfl | rfl : j = 12 ∨ j = 13 := by omega
        · rfl
        · rfl
  · rw [List.getElem?_eq_none (by simp; omega), List.getElem?_eq_none (by simp [Lib.byteCells_length]; omega)]
theorem ethK_one (s : ByteArray) (k : Nat) (t : Int) (x : ByteArray) : (ethK s k t x).all (·.oneCell') = true := by
  rw [Array.all_eq_true_iff_forall_mem]
  intro u hu
  simp only [ethK, List.mem_toArray, List.mem_map] at hu
  obtain ⟨j, _, rfl⟩ := hu
  unfold ethAt
  split
  · split <;> rfl
  · split <;> rfl

theorem refRet_eth (tmps : Array Value) (W : World) (R : Nat) (D : Array Value) (e : Int) (h2 : tmps.getD 2 undef = .pointer (some ⟨R, 0, none⟩)) (h3 : tmps.getD 3 undef = .int .i64 e) (hr : W.rangeAt R 0 D.toList) (hs : D.size = 14) :
    (results Try.f8 tmps).run Try.prog W = .ok (.tuple #[.agg D, .int .i64 e]) W := by
  have hl := run_loadVar_mid (P := Try.prog) W R 0 25 D.toList _ hr Try.underlying25 rfl (by rw [Array.length_toList, hs]; kernel_rfl)
  rw [results_cell_tmp Try.results8 tmps Try.prog W, h2, h3]
  simp [asAddr, hl]

theorem range_row {W : World} {R : Nat} {D : Array Value} (h : W.heap[R]? = some (.cells D 25 (0, 0))) : W.rangeAt R 0 D.toList := fun j v hj => by
  rw [Nat.zero_add, cell_of_row W R j D _ _ h]
  simpa using hj
theorem below_rowW {w W : World} (hb : Below w.heap.size w W) (cs : Array Value) : Below w.heap.size w (W.setRow w.heap.size cs) :=
  hb.trans ⟨rfl, rfl, rfl, by simp, fun k hk => setRow_other _ _ _ _ (by omega)⟩

set_option maxHeartbeats 4000000 in
set_option maxRecDepth 100000 in
theorem refGetEther_yes (s : ByteArray) (h14 : 14 ≤ s.size) (hs : s.size ≤ 1514) (t : Nat)
    (h1 : ∀ w, Calls Try.prog 26 #[.string s, .int .i64 12] w fun e w' => e = .returned (.int .i64 (t : Int)) ∧ w' = w.drew) (w : World) :
    Calls Try.prog 8 #[.string s] w fun e w' => e = .returned (.tuple #[.agg (ethK s 6 (t : Int) (s.extract 14 s.size)), .int .i64 0]) ∧ Below w.heap.size w w' := by
  have HN := hide h1
  clear h1
  have i2 := last_at s 14 (by omega) 14 (by rfl)
  go_enter Try.func8, Try.ntmps8
  go_wp2_with fail
  go_region_with (go_at_call 26; refine (HN.out _).mono ?_; rintro e3 w3 ⟨rfl, rfl⟩)
  all_goals
    go_wp2
    go_loopw [5] (fun c wr => ∃ (k : Nat) (u : World), k ≤ 6 ∧ c = .int .i64 (k : Int) ∧ wr = (u.alloc (.cells Z 25)).alloc (.cells (ethK s k (t : Int) (s.extract 14 s.size)) 25) ∧ u.heap.size = w.heap.size ∧ Below w.heap.size w u)
      (fun c _ => 6 - (intOf c).toNat)
    case atStart => exact ⟨0, w.drew.drew, Nat.zero_le _, rfl, by rw [ethK_zero]; rfl, rfl, (Below.refl _ _).drew.drew⟩
    case round =>
      obtain ⟨k, u, hk, rfl, rfl, hu, hb⟩ := hrel
      have hu1 : (u.alloc (.cells Z 25)).heap.size = w.heap.size + 1 := by simp [hu]
      by_cases hlt : k < 6
      · have cc : ∀ j, ((u.alloc (.cells Z 25)).alloc (.cells (ethK s k (t : Int) (s.extract 14 s.size)) 25)).cell? ⟨w.heap.size + 1, j, none⟩ = (ethK s k (t : Int) (s.extract 14 s.size))[j]? := fun j => by
          rw [← hu1, cell_of_row _ _ j (ethK s k (t : Int) (s.extract 14 s.size)) _ _ (heap_alloc_new _ _)]
        have c1 := (cc k).trans (ethK_at s k (t : Int) (s.extract 14 s.size) k (by omega))
        have c2 := (cc (6 + k)).trans (ethK_at s k (t : Int) (s.extract 14 s.size) (6 + k) (by omega))
        have HX := hide (ethK_next s k hlt h14 (t : Int) (s.extract 14 s.size))
        have x0 := index_at s k (by omega) (k : Int) rfl
        have x1 := index_at s (6 + k) (by omega) (6 + (k : Int)) (by omega)
        have c3 : ((u.alloc (.cells Z 25)).alloc (.cells ((ethK s k (t : Int) (s.extract 14 s.size)).setIfInBounds k (.int .u8 (s[k].toNat : Int))) 25)).cell? ⟨w.heap.size + 1, 6 + k, none⟩ = some (ethAt s k (t : Int) (s.extract 14 s.size) (6 + k)) := by
          rw [← hu1, cell_of_row _ _ (6 + k) ((ethK s k (t : Int) (s.extract 14 s.size)).setIfInBounds k (.int .u8 (s[k].toNat : Int))) _ _ (heap_alloc_new _ _), Array.getElem?_setIfInBounds, if_neg (by omega)]
          exact ethK_at s k (t : Int) (s.extract 14 s.size) (6 + k) (by omega)
        clear cc
        go_wp2
        go_region
        rw [HX.out]
        go_wp2
        go_roundw
        case rel => exact ⟨k + 1, u.drew, by omega, by go_num, rfl, hu, hb.drew⟩
        case measure => simp [intOf]; omega
      · obtain rfl : k = 6 := by omega
        have g1 := heap_alloc_new (u.alloc (.cells Z 25)) (.cells (ethK s 6 (t : Int) (s.extract 14 s.size)) 25)
        have g00 := heap_alloc_new u (.cells Z 25)
        rw [hu] at g00
        have g0 := (heap_alloc_old (u.alloc (.cells Z 25)) (.cells (ethK s 6 (t : Int) (s.extract 14 s.size)) 25) (r := w.heap.size) (by omega)).trans g00
        rw [hu1] at g1
        have hcs := ethK_size s 6 (t : Int) (s.extract 14 s.size)
        have hc1 := ethK_one s 6 (t : Int) (s.extract 14 s.size)
        have HB := hide (show Below w.heap.size w ((u.alloc (.cells Z 25)).alloc (.cells (ethK s 6 (t : Int) (s.extract 14 s.size)) 25)) from (hb.alloc (by omega) _).alloc (by omega) _)
        obtain ⟨C, hC⟩ : ∃ C, ethK s 6 (t : Int) (s.extract 14 s.size) = C := ⟨_, rfl⟩
        rw [hC] at g1 g0 hcs hc1 HB ⊢
        have HC := hide hC
        clear hC
        generalize (u.alloc (.cells Z 25)).alloc (.cells C 25) = W at g1 g0 HB
        have H1 := hide g1
        have H0 := hide g0
        have HCS := hide hcs
        have HC1 := hide hc1
        clear g1 g0 g00 hcs hc1 hlt
        go_wp2_with (first
          | (refine wpList_load_row rfl 25 _ rfl (w.heap.size + 1) rfl 25 C (0, 0) _ H1.out Try.underlying25 rfl (by rw [HCS.out]; kernel_rfl) ?_)
          | (refine wpList_store_row rfl 25 _ _ rfl w.heap.size C rfl rfl 25 Z H0.out (by rw [HCS.out]; kernel_rfl) (by rw [HCS.out]; rfl) HC1.out ?_))
        refine bodyPost_ret (v := .tuple #[.agg C, .int .i64 0]) (refRet_eth _ _ w.heap.size C 0 rfl rfl ?_ HCS.out) rfl ⟨by rw [HC.out], below_rowW HB.out C⟩
        exact range_row (setRow_heap _ _ _ _ _ _ H0.out)

set_option maxHeartbeats 1000000 in
theorem refGetEther_short (s : ByteArray) (h14 : s.size < 14) (w : World) :
    Calls Try.prog 8 #[.string s] w fun e w' => e = .returned (.tuple #[.agg Z, .int .i64 5]) ∧ Below w.heap.size w w' := by
  go_enter Try.func8, Try.ntmps8
  go_wp2
  refine bodyPost_ret (v := .tuple #[.agg Z, .int .i64 5]) (refRet_eth _ _ w.heap.size Z 5 rfl rfl (range_new w) rfl) rfl ⟨rfl, (Below.refl _ _).alloc (Nat.le_refl _) _⟩
set_option maxHeartbeats 1000000 in
theorem refGetEther_long (s : ByteArray) (h : 1514 < s.size) (w : World) :
    Calls Try.prog 8 #[.string s] w fun e w' => e = .returned (.tuple #[.agg Z, .int .i64 2]) ∧ Below w.heap.size w w' := by
  go_enter Try.func8, Try.ntmps8
  go_wp2
  refine bodyPost_ret (v := .tuple #[.agg Z, .int .i64 2]) (refRet_eth _ _ w.heap.size Z 2 rfl rfl (range_new w) rfl) rfl ⟨rfl, (Below.refl _ _).alloc (Nat.le_refl _) _⟩

/-- The document's own 'GetEther(b)'. -/
theorem refGetEther_any (s : ByteArray) (hs : s.size ≤ maxLen) (w : World) :
    Calls Try.prog 8 #[.string s] w fun e w' => e = .returned (.tuple #[ethV (getEtherF s.data.toList).1, .int .i64 (getEtherF s.data.toList).2]) ∧ Below w.heap.size w w' := by
  have hl : s.data.toList.length = s.size := (Lib.size_eq s).symm
  by_cases h14 : s.size < 14
  · have e : getEtherF s.data.toList = ((zero6, zero6, 0, []), 5) := by unfold getEtherF; rw [if_pos (by omega)]
    rw [e]
    exact refGetEther_short s h14 w
  · by_cases h : 1514 < s.size
    · have e : getEtherF s.data.toList = ((zero6, zero6, 0, []), 2) := by unfold getEtherF; rw [if_neg (by omega), if_pos (by omega)]
      rw [e]
      exact refGetEther_long s h w
    · have e : getEtherF s.data.toList = ((s.data.toList.take 6, (s.data.toList.drop 6).take 6, numOf ((s.data.toList.drop 12).take 2), s.data.toList.drop 14), 0) := by unfold getEtherF; rw [if_neg (by omega), if_neg (by omega)]
      rw [e]
      have hz : (⟨(s.data.toList.drop 14).toArray⟩ : ByteArray) = s.extract 14 s.size := by
        apply ByteArray.ext
        apply Array.toList_inj.1
        rw [Lib.extract_data, List.take_of_length_le (by simp)]
      unfold ethV
      simp only [hz]
      rw [← ethK_six s (by omega)]
      exact refGetEther_yes s (by omega) (by omega) _ (fun w => refNum_drew s hs 12 (by omega) w) w
end Go.Proofs.Ytlimnhlgjjgdeaa
