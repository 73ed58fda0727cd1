/- The contract of package digest's inner cover: what it lays into its first row, of pieces of the second, by keys that hang on the third. -/
import Derived.Test.YtkneogfeokckjaaGreatDoorMd5
import Derived.Test.YtkneogfeokckjaaGreatDoorMaskPlain
namespace Go.Proofs.YtkneogfeokckjaaGreatDoor
open Go.RowKit

/-- A row of bytes that may be written. -/
def RowIs (W : World) (g : Nat) (bs : List UInt8) : Prop := W.heap[g]? = some (.cells (Lib.byteCells bs).toArray 5 (0, 0))
theorem RowIs.lt {W : World} {g : Nat} {bs : List UInt8} (h : RowIs W g bs) : g < W.heap.size := (Array.getElem?_eq_some_iff.1 h).1
theorem byteCells_at (bs : List UInt8) (i : Nat) (hi : i < bs.length) : (Lib.byteCells bs).toArray[i]? = some (.int .u8 ((bs.getD i 0).toNat : Int)) := by
  simp [Lib.byteCells, hi, List.getD]
theorem RowIs.cell {W : World} {g : Nat} {bs : List UInt8} (h : RowIs W g bs) (i : Nat) (hi : i < bs.length) : W.cell? ⟨g, i, none⟩ = some (.int .u8 ((bs.getD i 0).toNat : Int)) := by
  rw [cell_of_row W g i _ _ _ h]
  exact byteCells_at bs i hi
theorem RowIs.frozen {W : World} {g : Nat} {bs : List UInt8} (h : RowIs W g bs) (i : Nat) : W.frozen? ⟨g, i, none⟩ = false := frozen_of_row W g i _ _ h
theorem RowIs.set {W : World} {g : Nat} {bs : List UInt8} (h : RowIs W g bs) (i : Nat) (b : UInt8) : RowIs (W.setCell ⟨g, i, none⟩ (.int .u8 (b.toNat : Int))) g (bs.set i b) := by
  have hlt := h.lt
  have hv : W.heap[g] = .cells (Lib.byteCells bs).toArray 5 (0, 0) := (Array.getElem?_eq_some_iff.1 h).2
  unfold RowIs World.setCell
  rw [Array.getElem?_eq_getElem (by simpa using hlt), Array.getElem_modify]
  simp [hv, Lib.byteCells, List.map_set]
theorem setCell_heap_other (W : World) (g i : Nat) (v : Value) (k : Nat) (h : k ≠ g) : (W.setCell ⟨g, i, none⟩ v).heap[k]? = W.heap[k]? := by
  simp [World.setCell, Array.getElem?_modify, Ne.symm h]
/-- Bytes that can be read. -/
def HoldsB (W : World) (h : Nat) (v : List UInt8) : Prop := ∀ i, i < v.length → W.cell? ⟨h, i, none⟩ = some (.int .u8 ((v.getD i 0).toNat : Int))

/-- Between two pieces, or within one. -/
structure CInv (w W : World) (g h : Nat) (v bs key : List UInt8) : Prop where
  out : RowIs W g bs
  inp : HoldsB W h v
  key : W.heap[w.heap.size]? = some (.cells (Lib.byteCells key).toArray 230 (0, 0))
  grown : w.grownBy W (some g)
theorem CInv.lt {w W : World} {g h : Nat} {v bs key : List UInt8} (I : CInv w W g h v bs key) : w.heap.size < W.heap.size := (Array.getElem?_eq_some_iff.1 I.key).1
theorem CInv.drew {w W : World} {g h : Nat} {v bs key : List UInt8} (I : CInv w W g h v bs key) : CInv w W.drew g h v bs key := ⟨I.out, I.inp, I.key, ⟨I.grown.os, I.grown.tape, I.grown.output, I.grown.size, I.grown.block⟩⟩
theorem CInv.next {w W W' : World} {g h : Nat} {v bs key : List UInt8} (I : CInv w W g h v bs key) (hh : h < W.heap.size) (hb : Bel W W') : CInv w W' g h v bs key :=
  ⟨(Below.block hb g I.out.lt).trans I.out, fun i hi => (Below.cell hb (p := ⟨h, i, none⟩) hh).trans (I.inp i hi), (Below.block hb _ I.lt).trans I.key,
    ⟨(Below.os hb).trans I.grown.os, (Below.tape hb).trans I.grown.tape, (Below.output hb).trans I.grown.output, Nat.le_trans I.grown.size (Below.size hb), fun k hk hne => (Below.block hb k (Nat.lt_of_lt_of_le hk I.grown.size)).trans (I.grown.block k hk hne)⟩⟩
theorem CInv.setOut {w W : World} {g h : Nat} {v bs key : List UInt8} (I : CInv w W g h v bs key) (hg : g < w.heap.size) (hne : h ≠ g) (i : Nat) (b : UInt8) : CInv w (W.setCell ⟨g, i, none⟩ (.int .u8 (b.toNat : Int))) g h v (bs.set i b) key :=
  ⟨I.out.set i b, fun j hj => (World.cell?_of_block (a := ⟨h, j, none⟩) (setCell_heap_other W g i _ h hne)).trans (I.inp j hj), (setCell_heap_other W g i _ _ (by omega)).trans I.key,
    ⟨I.grown.os, I.grown.tape, I.grown.output, by have := I.grown.size; simpa [World.setCell] using this, fun k hk hn => (setCell_heap_other W g i _ k (fun e => hn (by rw [e]))).trans (I.grown.block k hk hn)⟩⟩
theorem CInv.setKey {w W : World} {g h : Nat} {v bs key : List UInt8} (I : CInv w W g h v bs key) (hg : g < w.heap.size) (hh : h < w.heap.size) (key' : List UInt8) : CInv w (W.setRow w.heap.size (Lib.byteCells key').toArray) g h v bs key' :=
  ⟨(setRow_other W _ _ _ (by omega)).trans I.out, fun j hj => (World.cell?_of_block (a := ⟨h, j, none⟩) (setRow_other W _ _ _ (by show h ≠ w.heap.size; omega))).trans (I.inp j hj), setRow_heap W _ _ _ _ _ I.key,
    ⟨I.grown.os, I.grown.tape, I.grown.output, by have := I.grown.size; simpa using this, fun k hk hn => (setRow_other W _ _ _ (by omega)).trans (I.grown.block k hk hn)⟩⟩
theorem CInv.tables {w W : World} {g h : Nat} {v bs key : List UInt8} (I : CInv w W g h v bs key) (hT : Tables w) (hg : 1 < g) : Tables W :=
  ⟨fun i hi => (World.cell?_of_block (a := ⟨0, i, none⟩) (I.grown.block 0 (cell_lt (hT.1 i hi)) (by simp; omega))).trans (hT.1 i hi),
    fun i hi => (World.cell?_of_block (a := ⟨1, i / 16 * 4 + i % 4, none⟩) (I.grown.block 1 (cell_lt (hT.2 i hi)) (by simp; omega))).trans (hT.2 i hi)⟩

set_option maxRecDepth 100000 in
theorem row_conv (W : World) (x o c : Nat) (l : List UInt8) (n : Nat) (hn : l.length = n) (hc : ∀ i, i < n → W.cell? ⟨x, o + i, none⟩ = some (.int .u8 ((l.getD i 0).toNat : Int))) :
    (convert 127 9 (.slice (some ⟨x, o, none⟩) n c)).run Tryz.prog W = .ok (.string ⟨l.toArray⟩) W := by
  have hb := run_convert_bytes_arg (P := Tryz.prog) W 127 5 Tryz.underlying127 Tryz.underlying5 x o n c (l.map fun b => (b.toNat : Int)) (by simp [hn]) (fun i hi => by
    rw [hc i hi]
    simp [List.getElem?_eq_getElem (show i < l.length by omega), List.getD]) 9 Tryz.underlying9
  rw [hb]
  congr 2
  apply ByteArray.ext
  apply Array.toList_inj.1
  rw [strOfNums_data, List.map_map]
  refine (List.map_congr_left (g := id) ?_).trans (List.map_id l)
  intro x _
  simp

/-- The first row, t bytes into piece j. -/
def outB (un : Bool) (first secret v : List UInt8) (j t : Nat) : List UInt8 := (maskB un first secret v j).1 ++ xorL ((pieceF v j).take t) (keyB un first secret v j) ++ List.replicate (v.length - 16 * j - t) 0
theorem outB_zero (un : Bool) (first secret v : List UInt8) (j : Nat) : outB un first secret v j 0 = (maskB un first secret v j).1 ++ List.replicate (v.length - 16 * j) 0 := by simp [outB, xorL]
theorem outB_end (un : Bool) (first secret v : List UInt8) (j t : Nat) (ht : t = min 16 (v.length - 16 * j)) : outB un first secret v j t = (maskB un first secret v (j + 1)).1 ++ List.replicate (v.length - 16 * (j + 1)) 0 := by
  unfold outB
  rw [List.take_of_length_le (by rw [pieceF_length]; omega), maskB_out]
  congr 2
  omega
theorem outB_length (un : Bool) (first secret v : List UInt8) (h : first.length = 16) (j t : Nat) (hj : 16 * j ≤ v.length) (ht : t ≤ min 16 (v.length - 16 * j)) : (outB un first secret v j t).length = v.length := by
  unfold outB
  rw [List.length_append, List.length_append, maskB_length un first secret v h, xorL_length, keyB_length un first secret v j h, List.length_take, pieceF_length, List.length_replicate]
  omega
theorem outB_at (un : Bool) (first secret v : List UInt8) (h : first.length = 16) (j t : Nat) (hj : 16 * j ≤ v.length) (ht : t < min 16 (v.length - 16 * j)) : (outB un first secret v j t).getD (16 * j + t) 0 = 0 := by
  have hl : ((maskB un first secret v j).1 ++ xorL ((pieceF v j).take t) (keyB un first secret v j)).length = 16 * j + t := by
    rw [List.length_append, maskB_length un first secret v h, xorL_length, keyB_length un first secret v j h, List.length_take, pieceF_length]
    omega
  unfold outB
  rw [List.getD_eq_getElem?_getD, List.getElem?_append_right (by omega), hl, Nat.sub_self, List.getElem?_replicate]
  rw [if_pos (by omega)]
  rfl
theorem outB_next (un : Bool) (first secret v : List UInt8) (h : first.length = 16) (j t : Nat) (hj : 16 * j ≤ v.length) (ht : t < min 16 (v.length - 16 * j)) :
    (outB un first secret v j t).set (16 * j + t) (v.getD (16 * j + t) 0 ^^^ (keyB un first secret v j).getD t 0) = outB un first secret v j (t + 1) := by
  have hkl := keyB_length un first secret v j h
  have hpl := pieceF_length v j
  have hl : ((maskB un first secret v j).1 ++ xorL ((pieceF v j).take t) (keyB un first secret v j)).length = 16 * j + t := by
    rw [List.length_append, maskB_length un first secret v h, xorL_length, hkl, List.length_take, hpl]
    omega
  have hx : xorL ((pieceF v j).take (t + 1)) (keyB un first secret v j) = xorL ((pieceF v j).take t) (keyB un first secret v j) ++ [v.getD (16 * j + t) 0 ^^^ (keyB un first secret v j).getD t 0] := by
    apply List.ext_getElem?
    intro i
    have hxl : (xorL ((pieceF v j).take t) (keyB un first secret v j)).length = t := by rw [xorL_length, hkl, List.length_take, hpl]; omega
    by_cases hi : i < t
    · rw [List.getElem?_append_left (by omega)]
      unfold xorL
      rw [List.getElem?_zipWith, List.getElem?_zipWith, List.getElem?_take_of_lt (by omega), List.getElem?_take_of_lt hi]
    · by_cases hi2 : i = t
      · subst hi2
        rw [List.getElem?_append_right (by omega), hxl, Nat.sub_self]
        unfold xorL
        rw [List.getElem?_zipWith, List.getElem?_take_of_lt (by omega)]
        have e1 : (pieceF v j)[i]? = some (v.getD (16 * j + i) 0) := by
          unfold pieceF
          rw [List.getElem?_take_of_lt (by omega), List.getElem?_drop, List.getD_eq_getElem?_getD, List.getElem?_eq_getElem (by omega)]
          rfl
        have e2 : (keyB un first secret v j)[i]? = some ((keyB un first secret v j).getD i 0) := by
          rw [List.getD_eq_getElem?_getD, List.getElem?_eq_getElem (by omega)]
          rfl
        rw [e1, e2]
        rfl
      · rw [List.getElem?_eq_none (by rw [xorL_length, hkl, List.length_take, hpl]; omega), List.getElem?_eq_none (by rw [List.length_append, hxl]; simp; omega)]
  have hr : List.replicate (v.length - 16 * j - t) (0 : UInt8) = 0 :: List.replicate (v.length - 16 * j - (t + 1)) 0 := by
    rw [← List.replicate_succ]
    congr 1
    omega
  unfold outB
  rw [List.set_append_right _ _ (by omega), hl, Nat.sub_self, hr, List.set_cons_zero, hx]
  simp [List.append_assoc]

/-- The piece that the next key hangs on, as it stands in the row. -/
theorem last_row (un : Bool) (first secret v : List UInt8) (h : first.length = 16) (j : Nat) (hj : 0 < j) (hv : 16 * j < v.length) :
    (maskB un first secret v j).2.length = 16 ∧ ∀ i, i < 16 → (maskB un first secret v j).2.getD i 0 = (if un then v else (maskB un first secret v j).1 ++ List.replicate (v.length - 16 * j) 0).getD (16 * (j - 1) + i) 0 := by
  obtain ⟨k, rfl⟩ : ∃ k, j = k + 1 := ⟨j - 1, by omega⟩
  have hpl := pieceF_length v k
  have hkl := keyB_length un first secret v k h
  rw [maskB_last]
  cases un with
  | true =>
    simp only [if_true]
    refine ⟨by omega, fun i hi => ?_⟩
    unfold pieceF
    rw [List.getD_eq_getElem?_getD, List.getD_eq_getElem?_getD, List.getElem?_take_of_lt hi, List.getElem?_drop]
    congr 2
  | false =>
    have hxl : (xorL (pieceF v k) (keyB false first secret v k)).length = 16 := by rw [xorL_length, hpl, hkl]; omega
    refine ⟨by simpa using hxl, fun i hi => ?_⟩
    have hl := maskB_length false first secret v h k
    simp only [Bool.false_eq_true, if_false]
    rw [maskB_out, List.append_assoc, List.getD_eq_getElem?_getD, List.getD_eq_getElem?_getD, List.getElem?_append_right (by omega), hl, List.getElem?_append_left (by omega)]
    congr 2
    omega

set_option maxRecDepth 100000 in
set_option maxHeartbeats 4000000 in
theorem cover_any (un : Bool) (secret : ByteArray) (hsec : secret.size ≤ 1099511627776) (first v : List UInt8) (hf : first.length = 16) (g h x ca cb cx : Nat) (hxe : x = if un then h else g) (hg1 : 1 < g) (hne : h ≠ g) (n : Nat) (hn : v.length = n) (hn40 : n ≤ 1099511627776) (hcx : n ≤ cx)
    (w : World) (hgw : g < w.heap.size) (hhw : h < w.heap.size) (hout : RowIs w g (List.replicate n 0)) (hinp : HoldsB w h v) (hT : Tables w) :
    Calls Tryz.prog 186 #[.slice (some ⟨g, 0, none⟩) n ca, .slice (some ⟨h, 0, none⟩) n cb, .slice (some ⟨x, 0, none⟩) n cx, .string secret, .agg (Lib.byteCells first).toArray] w
      fun e w' => e = .returned (.tuple #[]) ∧ RowIs w' g (maskF un first secret.data.toList v) ∧ w.grownBy w' (some g) := by
  have H0 := hide (show CInv w (w.alloc (.cells (Lib.byteCells first).toArray 230)) g h v (outB un first secret.data.toList v 0 0) first from
    ⟨by rw [outB_zero]; simp only [maskB, List.nil_append, Nat.mul_zero, Nat.sub_zero, hn]; exact (heap_alloc_old w _ hgw).trans hout, fun i hi => by rw [World.cell?_of_block (w := w) (a := ⟨h, i, none⟩) (heap_alloc_old w _ hhw)]; exact hinp i hi, heap_alloc_new w _, World.grownBy_alloc w _ _⟩)
  have HT := hide hT
  have HF := hide hf
  have HN := hide hn
  have HX := hide hxe
  obtain ⟨C0, hC0⟩ : ∃ C, C = (Lib.byteCells first).toArray := ⟨_, rfl⟩
  rw [← hC0]
  rw [← hC0] at H0
  clear hout hinp hT hf hn hC0 hxe
  go_enter Tryz.func186, Tryz.ntmps186
  go_wp2
  go_loopw [10, 11] (fun va _ wr => ∃ (j m : Nat) (key : List UInt8), m = 16 * j ∧ j ≤ (n + 15) / 16 ∧ va = .int .i64 (m : Int) ∧ (j = 0 → key = first) ∧ key.length = 16 ∧ CInv w wr g h v ((maskB un first secret.data.toList v j).1 ++ List.replicate (n - 16 * j) 0) key)
    (fun va _ _ => (n + 16 - (intOf va).toNat))
  case atStart => exact ⟨0, 0, first, rfl, Nat.zero_le _, rfl, fun _ => rfl, HF.out, by have I := H0.out; rw [outB_zero, HN.out] at I; exact I⟩
  case round =>
    obtain ⟨j, m, key, hm, hj, rfl, hk0, hkl, I⟩ := hrel
    by_cases hlt : m < n
    · by_cases hj0 : j = 0
      · have hm0 : decide (0 < m) = false := by rw [decide_eq_false_iff_not]; omega
        have HM0 := hide (show m = 0 by omega)
        have hkey : key = keyB un first secret.data.toList v j := by rw [hk0 hj0, hj0]; rfl
        have HI : Hid (CInv w wr g h v (outB un first secret.data.toList v j 0) (keyB un first secret.data.toList v j)) := by rw [outB_zero, HN.out, ← hkey]; exact I
        have HM := hide hm
        have HJ0 := hide hj0
        clear I hk0 hkl hkey hm hj0
        go_wp2
        obtain ⟨T, hT1⟩ : ∃ T, T = min 16 (n - m) := ⟨_, rfl⟩
        have hTn : m + T ≤ n := by omega
        have hT16 : T ≤ 16 := by omega
        have HT1 := hide hT1
        clear hT1
        go_loopw [11] (fun vi wr => ∃ t i : Nat, i = m + t ∧ t ≤ T ∧ vi = .int .i64 (i : Int) ∧ CInv w wr g h v (outB un first secret.data.toList v j t) (keyB un first secret.data.toList v j))
          (fun vi _ => m + T - (intOf vi).toNat)
        case atStart => exact ⟨0, m, rfl, Nat.zero_le _, rfl, HI.out⟩
        case round =>
          obtain ⟨t, i, hi, ht, rfl, I2⟩ := hrel
          have hT1 := HT1.out
          have hmj := HM.out
          have hvn := HN.out
          by_cases hlt2 : t < T
          · have hin : i < n := by omega
            have him : m ≤ i := by omega
            have hiT : i < m + T := by omega
            have hi16 : i = 16 * j + t := by omega
            have hsub : (i : Int) - (m : Int) = (t : Int) := by omega
            have c1 := I2.inp i (by omega)
            have c2 : wr.cell? ⟨w.heap.size, t, none⟩ = some (.int .u8 (((keyB un first secret.data.toList v j).getD t 0).toNat : Int)) := by
              rw [cell_of_row wr w.heap.size t _ _ _ I2.key]
              exact byteCells_at _ t (by rw [keyB_length _ _ _ _ _ HF.out]; omega)
            have c3 := I2.out.cell i (by rw [outB_length _ _ _ _ HF.out j t (by omega) (by omega)]; omega)
            rw [hi16, outB_at _ _ _ _ HF.out j t (by omega) (by omega), ← hi16] at c3
            have c4 : wr.frozen? ⟨g, i, none⟩ = false := I2.out.frozen i
            have I3 := I2.setOut hgw hne i (v.getD i 0 ^^^ (keyB un first secret.data.toList v j).getD t 0)
            rw [hi16, outB_next _ _ _ _ HF.out j t (by omega) (by omega), ← hi16] at I3
            have hA := (v.getD i 0).toNat_lt
            have hB := ((keyB un first secret.data.toList v j).getD t 0).toNat_lt
            have e1 : bits .xor .u8 ((v.getD i 0).toNat : Int) (((keyB un first secret.data.toList v j).getD t 0).toNat : Int) = ((v.getD i 0 ^^^ (keyB un first secret.data.toList v j).getD t 0).toNat : Int) := by
              rw [UInt8.toNat_xor]
              exact u8_xor_nat _ _ (by omega) (by omega)
            have c5 : wr.cell? ⟨w.heap.size, i, none⟩ = some (.int .u8 (((keyB un first secret.data.toList v j).getD t 0).toNat : Int)) := by rw [show i = t by have := HM0.out; omega]; exact c2
            generalize v.getD i 0 ^^^ (keyB un first secret.data.toList v j).getD t 0 = X at e1 I3
            generalize (keyB un first secret.data.toList v j).getD t 0 = B at c2 c5 e1 hB
            generalize v.getD i 0 = A at c1 e1 hA
            have H3 := hide I3
            have HIT := hide hi
            clear I2 I3 hi16 hmj hvn hT1 hi
            go_wp2
            all_goals
              go_region
              go_wp2
              go_roundw
              case rel => exact ⟨t + 1, i + 1, by have := HIT.out; omega, by omega, by go_num, H3.out.drew⟩
              case measure => simp [intOf]; omega
          · obtain rfl : t = T := by omega
            have I3 := I2
            rw [outB_end _ _ _ _ j t (by omega), hvn] at I3
            have H3 := hide I3
            have HKL := hide (keyB_length un first secret.data.toList v j HF.out)
            have HIT := hide hi
            by_cases hmn : n ≤ m + 16
            · have hni : n ≤ i := by omega
              clear I2 I3 hmj hvn hT1 hi
              go_wp2
              all_goals
                go_roundw
                case rel => exact ⟨j + 1, m + 16, _, by have := HM.out; omega, by have := HM.out; omega, by go_num, fun h => by omega, HKL.out, H3.out⟩
                case measure => simp [intOf]; omega
            · have hni : m + 16 ≤ i := by omega
              clear I2 I3 hmj hvn hT1 hi
              go_wp2
              all_goals
                go_roundw
                case rel => exact ⟨j + 1, m + 16, _, by have := HM.out; omega, by have := HM.out; omega, by go_num, fun h => by omega, HKL.out, H3.out⟩
                case measure => simp [intOf]; omega
      · have hm0 : 0 < m := by omega
        have hm16 : 16 ≤ m := by omega
        have hkb : keyB un first secret.data.toList v j = md5F (secret.data.toList ++ (maskB un first secret.data.toList v j).2) := if_neg hj0
        have hlast := last_row un first secret.data.toList v HF.out j (by omega) (by rw [HN.out]; omega)
        have hcell : ∀ i, i < 16 → wr.cell? ⟨x, m - 16 + i, none⟩ = some (.int .u8 (((maskB un first secret.data.toList v j).2.getD i 0).toNat : Int)) := fun i hi => by
          rw [HX.out]
          have h2 := hlast.2 i hi
          rw [HN.out] at h2
          have hmi : m - 16 + i = 16 * (j - 1) + i := by omega
          cases un with
          | true =>
            rw [show (if true = true then h else g) = h from rfl, hmi, h2]
            exact I.inp _ (by rw [HN.out]; omega)
          | false =>
            rw [show (if false = true then h else g) = g from rfl, hmi, h2]
            exact I.out.cell _ (by rw [List.length_append, maskB_length _ _ _ _ HF.out, List.length_replicate, HN.out]; omega)
        have hcv : ∀ c W, W = wr → (convert 127 9 (.slice (some ⟨x, m - 16, none⟩) (m - (m - 16)) c)).run Tryz.prog W = .ok (.string ⟨(maskB un first secret.data.toList v j).2.toArray⟩) W := fun c W hW => by
          rw [hW]
          rw [show m - (m - 16) = 16 by omega]
          exact row_conv wr x (m - 16) c _ 16 hlast.1 hcell
        have hcv2 := fun c => hcv c wr rfl
        obtain ⟨L, hL⟩ : ∃ L : ByteArray, L = ⟨(maskB un first secret.data.toList v j).2.toArray⟩ := ⟨_, rfl⟩
        rw [← hL] at hcv2
        have hLs : L.size = 16 := by rw [hL, Lib.size_eq]; exact hlast.1
        have HT2 := hide (I.tables HT.out hg1)
        have HMD : Hid (Calls Tryz.prog 192 #[.string (secret ++ L)] wr fun e w' => e = .returned (.agg (Lib.byteCells (keyB un first secret.data.toList v j)).toArray) ∧ Bel wr w') := by
          have hmd := md5_any (secret ++ L) (by rw [ByteArray.size_append]; omega) wr HT2.out
          have e : (secret ++ L).data.toList = secret.data.toList ++ (maskB un first secret.data.toList v j).2 := by rw [hL]; simp
          rw [e, ← hkb] at hmd
          exact hmd
        have hDl := keyB_length un first secret.data.toList v j HF.out
        have hD1 : (Lib.byteCells (keyB un first secret.data.toList v j)).toArray.all (·.oneCell') = true := all_oneCell_toArray (fun v hv => Lib.byteCells_one _ v hv)
        have hDs : (Lib.byteCells (keyB un first secret.data.toList v j)).toArray.size = 16 := by simp [Lib.byteCells, hDl]
        have hKs : (Lib.byteCells key).toArray.size = 16 := by simp [Lib.byteCells, hkl]
        obtain ⟨D, hD⟩ : ∃ D, D = (Lib.byteCells (keyB un first secret.data.toList v j)).toArray := ⟨_, rfl⟩
        rw [← hD] at HMD hD1 hDs
        have HD := hide hD
        have HDS := hide hDs
        have HD1 := hide hD1
        have HI0 := hide I
        have HM := hide hm
        have HKS := hide hKs
        have hwr : IntKind.i64.wrap ((m : Int) - 16) = (m : Int) - 16 := by rw [IntKind.wrap_i64]; omega
        have hLs2 : L.size ≤ 16 := by omega
        clear I hk0 hkl hm hcell hcv hlast hkb hD hDs hD1 hKs hL hDl hLs
        go_wp2_with (first
          | (go_at_call 192; refine HMD.out.mono ?_; rintro e w1 ⟨rfl, hb1⟩)
          | (refine wpList_store_row rfl 230 _ _ rfl w.heap.size D rfl rfl 230 (Lib.byteCells key).toArray (HI0.out.next (Nat.lt_of_lt_of_le hhw HI0.out.grown.size) hb1).key (by rw [HDS.out]; kernel_rfl) (by rw [HDS.out, HKS.out]) HD1.out ?_))
        have hI1 := (HI0.out.next (Nat.lt_of_lt_of_le hhw HI0.out.grown.size) hb1).setKey hgw hhw (keyB un first secret.data.toList v j)
        rw [← HD.out] at hI1
        have HI : Hid (CInv w (w1.setRow w.heap.size D) g h v (outB un first secret.data.toList v j 0) (keyB un first secret.data.toList v j)) := by rw [outB_zero, HN.out]; exact hI1
        clear hI1 hb1 HI0 HMD HT2 hcv2 HD HDS HD1 HKS
        generalize w1.setRow w.heap.size D = W1 at HI
        obtain ⟨T, hT1⟩ : ∃ T, T = min 16 (n - m) := ⟨_, rfl⟩
        have hTn : m + T ≤ n := by omega
        have hT16 : T ≤ 16 := by omega
        have HT1 := hide hT1
        clear hT1
        go_loopw [11] (fun vi wr => ∃ t i : Nat, i = m + t ∧ t ≤ T ∧ vi = .int .i64 (i : Int) ∧ CInv w wr g h v (outB un first secret.data.toList v j t) (keyB un first secret.data.toList v j))
          (fun vi _ => m + T - (intOf vi).toNat)
        case atStart => exact ⟨0, m, rfl, Nat.zero_le _, rfl, HI.out⟩
        case round =>
          obtain ⟨t, i, hi, ht, rfl, I2⟩ := hrel
          have hT1 := HT1.out
          have hmj := HM.out
          have hvn := HN.out
          by_cases hlt2 : t < T
          · have hin : i < n := by omega
            have him : m ≤ i := by omega
            have hiT : i < m + T := by omega
            have hi16 : i = 16 * j + t := by omega
            have hsub : (i : Int) - (m : Int) = (t : Int) := by omega
            have c1 := I2.inp i (by omega)
            have c2 : wr.cell? ⟨w.heap.size, t, none⟩ = some (.int .u8 (((keyB un first secret.data.toList v j).getD t 0).toNat : Int)) := by
              rw [cell_of_row wr w.heap.size t _ _ _ I2.key]
              exact byteCells_at _ t (by rw [keyB_length _ _ _ _ _ HF.out]; omega)
            have c3 := I2.out.cell i (by rw [outB_length _ _ _ _ HF.out j t (by omega) (by omega)]; omega)
            rw [hi16, outB_at _ _ _ _ HF.out j t (by omega) (by omega), ← hi16] at c3
            have c4 : wr.frozen? ⟨g, i, none⟩ = false := I2.out.frozen i
            have I3 := I2.setOut hgw hne i (v.getD i 0 ^^^ (keyB un first secret.data.toList v j).getD t 0)
            rw [hi16, outB_next _ _ _ _ HF.out j t (by omega) (by omega), ← hi16] at I3
            have hA := (v.getD i 0).toNat_lt
            have hB := ((keyB un first secret.data.toList v j).getD t 0).toNat_lt
            have e1 : bits .xor .u8 ((v.getD i 0).toNat : Int) (((keyB un first secret.data.toList v j).getD t 0).toNat : Int) = ((v.getD i 0 ^^^ (keyB un first secret.data.toList v j).getD t 0).toNat : Int) := by
              rw [UInt8.toNat_xor]
              exact u8_xor_nat _ _ (by omega) (by omega)
            generalize v.getD i 0 ^^^ (keyB un first secret.data.toList v j).getD t 0 = X at e1 I3
            generalize (keyB un first secret.data.toList v j).getD t 0 = B at c2 e1 hB
            generalize v.getD i 0 = A at c1 e1 hA
            have H3 := hide I3
            have HIT := hide hi
            clear I2 I3 hi16 hmj hvn hT1 hi
            go_wp2
            all_goals
              go_region
              go_wp2
              go_roundw
              case rel => exact ⟨t + 1, i + 1, by have := HIT.out; omega, by omega, by go_num, H3.out.drew⟩
              case measure => simp [intOf]; omega
          · obtain rfl : t = T := by omega
            have I3 := I2
            rw [outB_end _ _ _ _ j t (by omega), hvn] at I3
            have H3 := hide I3
            have HKL := hide (keyB_length un first secret.data.toList v j HF.out)
            have HIT := hide hi
            by_cases hmn : n ≤ m + 16
            · have hni : n ≤ i := by omega
              clear I2 I3 hmj hvn hT1 hi
              go_wp2
              all_goals
                go_roundw
                case rel => exact ⟨j + 1, m + 16, _, by have := HM.out; omega, by have := HM.out; omega, by go_num, fun h => by omega, HKL.out, H3.out⟩
                case measure => simp [intOf]; omega
            · have hni : m + 16 ≤ i := by omega
              clear I2 I3 hmj hvn hT1 hi
              go_wp2
              all_goals
                go_roundw
                case rel => exact ⟨j + 1, m + 16, _, by have := HM.out; omega, by have := HM.out; omega, by go_num, fun h => by omega, HKL.out, H3.out⟩
                case measure => simp [intOf]; omega
    · obtain ⟨K, hK⟩ : ∃ K, K = (n + 15) / 16 := ⟨_, rfl⟩
      have hjK : j = K := by omega
      have hfin : (maskB un first secret.data.toList v j).1 ++ List.replicate (n - 16 * j) 0 = maskF un first secret.data.toList v := by
        rw [show n - 16 * j = 0 by omega, List.replicate_zero, List.append_nil, maskF, HN.out, ← hK, hjK]
      rw [hfin] at I
      have HI := hide I
      clear I hfin hjK hK hk0 hkl hm hj
      go_wp2
      refine bodyPost_end (v := .tuple #[]) ?_ rfl ⟨rfl, HI.out.out, HI.out.grown⟩
      simp [results, Tryz.results186]
end Go.Proofs.YtkneogfeokckjaaGreatDoor
