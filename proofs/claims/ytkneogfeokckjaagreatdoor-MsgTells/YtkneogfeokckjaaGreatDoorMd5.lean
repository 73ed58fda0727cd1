/- The contract of package digest's Md5: the digest of every text, where the two tables hold what the program's text lays. -/
import Derived.Test.YtkneogfeokckjaaGreatDoorPadding
import Derived.Deep.MidRow
namespace Go.Proofs.YtkneogfeokckjaaGreatDoor
open Go.RowKit

def MInv (w W : World) (s : Four) : Prop := IsFour W (w.heap.size + 1) s ∧ W.heap[w.heap.size]? = some (.cells Z16b 230 (0, 0)) ∧ Below w.heap.size w W
set_option maxRecDepth 100000 in
theorem MInv.set {w W : World} {s : Four} (h : MInv w W s) (t : Four) : MInv w (W.setRow (w.heap.size + 1) (fourCells t)) t :=
  ⟨setRow_heap W _ _ _ _ _ h.1, (setRow_other W _ _ _ (by omega)).trans h.2.1, h.2.2.trans ⟨rfl, rfl, rfl, by simp, fun k hk => setRow_other _ _ _ _ (by omega)⟩⟩
set_option maxRecDepth 100000 in
theorem MInv.next {w W W' : World} {s : Four} (h : MInv w W s) (hb : Bel W W') : MInv w W' s :=
  ⟨h.1.next hb, (Below.block hb _ (Array.getElem?_eq_some_iff.1 h.2.1).1).trans h.2.1, h.2.2.trans (Below.mono hb (by have := h.1.lt; omega))⟩
set_option maxRecDepth 100000 in
theorem MInv.drew {w W : World} {s : Four} (h : MInv w W s) : MInv w W.drew s := h.next (Below.refl _ _).drew

set_option maxRecDepth 100000 in
set_option maxHeartbeats 2000000 in
theorem md5_any (b : ByteArray) (hbs : b.size ≤ 140737488355328) (w : World) (hT : Tables w) :
    Calls Tryz.prog 192 #[.string b] w fun e w' => e = .returned (.agg (Lib.byteCells (md5F b.data.toList)).toArray) ∧ Below w.heap.size w w' := by
  have hlen : b.data.toList.length = b.size := (Lib.size_eq b).symm
  obtain ⟨q, hq⟩ : ∃ q, q = b.size / 64 := ⟨_, rfl⟩
  obtain ⟨m, hm⟩ : ∃ m, m = 64 * q := ⟨_, rfl⟩
  have hmb : m ≤ b.size := by omega
  have e1 : (b.size : Int) - (b.size : Int) % 64 = (m : Int) := by omega
  obtain ⟨pd, hpd⟩ : ∃ pd : ByteArray, pd = ⟨(padF b.size).toArray⟩ := ⟨_, rfl⟩
  have hpl : pd.size = 72 - (b.size + 8) % 64 := by rw [hpd, Lib.size_eq]; exact padF_length _
  have hA : ∀ w, Tables w → Calls Tryz.prog 193 #[.agg (fourCells firstFour), .string (b.extract 0 m)] w fun e w' => e = .returned (.agg (fourCells (blocksF (b.data.toList.take m) q firstFour))) ∧ Bel w w' := fun w hT => by
    have h := stirAll_any firstFour (by unfold Four.ok firstFour; decide) (b.extract 0 m) q (by rw [ByteArray.size_extract]; omega) (by rw [ByteArray.size_extract]; omega) w hT
    have e : (b.extract 0 m).data.toList = b.data.toList.take m := by rw [Lib.extract_data]; simp
    rw [e] at h
    exact h
  have hok : (blocksF (b.data.toList.take m) q firstFour).ok := blocksF_ok _ (by unfold Four.ok firstFour; decide) _
  have hD : spreadF (blocksF (b.data.toList.drop m ++ padF b.size) ((b.data.toList.drop m ++ padF b.size).length / 64) (blocksF (b.data.toList.take m) q firstFour)) = md5F b.data.toList := by
    rw [md5F_parts, hlen, ← hq, ← hm]
  have hB : ∀ w, Tables w → Calls Tryz.prog 193 #[.agg (fourCells (blocksF (b.data.toList.take m) q firstFour)), .string (b.extract m b.size ++ pd)] w fun e w' => e = .returned (.agg (fourCells (blocksF (b.data.toList.drop m ++ padF b.size) ((b.data.toList.drop m ++ padF b.size).length / 64) (blocksF (b.data.toList.take m) q firstFour)))) ∧ Bel w w' := fun w hT => by
    have hl : (b.data.toList.drop m ++ padF b.size).length = b.size - m + (72 - (b.size + 8) % 64) := by rw [List.length_append, List.length_drop, hlen, padF_length]
    have hsz : (b.extract m b.size ++ pd).size = b.size - m + (72 - (b.size + 8) % 64) := by rw [ByteArray.size_append, ByteArray.size_extract, hpl]; omega
    have h := stirAll_any _ hok (b.extract m b.size ++ pd) ((b.data.toList.drop m ++ padF b.size).length / 64) (by rw [hl, hsz]; omega) (by omega) w hT
    have e : (b.extract m b.size ++ pd).data.toList = b.data.toList.drop m ++ padF b.size := by
      rw [hpd]
      simp only [ByteArray.data_append, Array.toList_append, Lib.extract_data]
      rw [List.take_of_length_le (by rw [List.length_drop, hlen]; omega)]
    rw [e] at h
    exact h
  have hC : ∀ w, Calls Tryz.prog 194 #[.int .i64 (b.size : Int)] w fun e w' => e = .returned (.string pd) ∧ Bel w w' := fun w => by rw [hpd]; exact padding_any b.size (by omega) w
  have hE := spread_any (blocksF (b.data.toList.drop m ++ padF b.size) ((b.data.toList.drop m ++ padF b.size).length / 64) (blocksF (b.data.toList.take m) q firstFour))
  rw [hD] at hE
  generalize blocksF (b.data.toList.drop m ++ padF b.size) ((b.data.toList.drop m ++ padF b.size).length / 64) (blocksF (b.data.toList.take m) q firstFour) = S2 at hB hE
  generalize blocksF (b.data.toList.take m) q firstFour = S1 at hA hB
  have hcs : (Lib.byteCells (md5F b.data.toList)).toArray.size = 16 := by simp [Lib.byteCells, md5F_length]
  have hc1 : (Lib.byteCells (md5F b.data.toList)).toArray.all (·.oneCell') = true := all_oneCell_toArray (fun v hv => Lib.byteCells_one _ v hv)
  generalize (Lib.byteCells (md5F b.data.toList)).toArray = D at hE hcs hc1
  have HA : Hid (∀ w, Tables w → Calls Tryz.prog 193 #[.agg #[.int .u32 1732584193, .int .u32 4023233417, .int .u32 2562383102, .int .u32 271733878], .string (b.extract 0 m)] w fun e w' => e = .returned (.agg #[.int .u32 (S1.a : Int), .int .u32 (S1.b : Int), .int .u32 (S1.c : Int), .int .u32 (S1.d : Int)]) ∧ Bel w w') := hA
  have HB : Hid (∀ w, Tables w → Calls Tryz.prog 193 #[.agg #[.int .u32 (S1.a : Int), .int .u32 (S1.b : Int), .int .u32 (S1.c : Int), .int .u32 (S1.d : Int)], .string (b.extract m b.size ++ pd)] w fun e w' => e = .returned (.agg #[.int .u32 (S2.a : Int), .int .u32 (S2.b : Int), .int .u32 (S2.c : Int), .int .u32 (S2.d : Int)]) ∧ Bel w w') := hB
  have HE : Hid (∀ w, Calls Tryz.prog 195 #[.agg #[.int .u32 (S2.a : Int), .int .u32 (S2.b : Int), .int .u32 (S2.c : Int), .int .u32 (S2.d : Int)]] w fun e w' => e = .returned (.agg D) ∧ Bel w w') := hE
  have HC := hide hC
  have HT := hide hT
  have HCS := hide hcs
  have HC1 := hide hc1
  have i1 := dg_first_at b m hmb (m : Int) rfl
  have i2 := dg_last_at b m hmb (m : Int) rfl
  have hpl2 : pd.size ≤ 72 := by omega
  clear hA hB hC hE hok hD hcs hc1 hT hpd hlen hq hm hpl
  go_enter Tryz.func192, Tryz.ntmps192
  go_wp2
  have hI0 : MInv w ((w.alloc (.cells Z16b 230)).alloc (.cells #[.int .u32 1732584193, .int .u32 4023233417, .int .u32 2562383102, .int .u32 271733878] 246)) firstFour :=
    ⟨heap_alloc2_new w _ _, (heap_alloc_old (w.alloc (.cells Z16b 230)) _ (by simp)).trans (heap_alloc_new w _), ((Below.refl _ _).alloc (Nat.le_refl _) _).alloc (by simp) _⟩
  generalize (w.alloc (.cells Z16b 230)).alloc (.cells #[.int .u32 1732584193, .int .u32 4023233417, .int .u32 2562383102, .int .u32 271733878] 246) = W0 at hI0
  have HI0 := hide hI0
  have HT0 := hide (HT.out.next hI0.2.2.drew)
  have q0 : W0.cell? ⟨w.heap.size + 1, 0, none⟩ = some (.int .u32 1732584193) := hI0.1.cell 0 (by decide)
  have q1 : W0.cell? ⟨w.heap.size + 1, 1, none⟩ = some (.int .u32 4023233417) := hI0.1.cell 1 (by decide)
  have q2 : W0.cell? ⟨w.heap.size + 1, 2, none⟩ = some (.int .u32 2562383102) := hI0.1.cell 2 (by decide)
  have q3 : W0.cell? ⟨w.heap.size + 1, 3, none⟩ = some (.int .u32 271733878) := hI0.1.cell 3 (by decide)
  have p0 : ∀ w1, Bel W0.drew w1 → w1.cell? ⟨w.heap.size + 1, 0, none⟩ = some (.int .u32 1732584193) := fun w1 h => (hI0.drew.next h).1.cell 0 (by decide)
  have p1 : ∀ w1, Bel W0.drew w1 → w1.cell? ⟨w.heap.size + 1, 1, none⟩ = some (.int .u32 4023233417) := fun w1 h => (hI0.drew.next h).1.cell 1 (by decide)
  have p2 : ∀ w1, Bel W0.drew w1 → w1.cell? ⟨w.heap.size + 1, 2, none⟩ = some (.int .u32 2562383102) := fun w1 h => (hI0.drew.next h).1.cell 2 (by decide)
  have p3 : ∀ w1, Bel W0.drew w1 → w1.cell? ⟨w.heap.size + 1, 3, none⟩ = some (.int .u32 271733878) := fun w1 h => (hI0.drew.next h).1.cell 3 (by decide)
  have pf : ∀ w1 j, Bel W0.drew w1 → w1.frozen? ⟨w.heap.size + 1, j, none⟩ = false := fun w1 j h => (hI0.drew.next h).1.frozen j
  clear hI0
  go_region_with (go_at_call 193; refine (HA.out _ ?_).mono ?_; exact HT0.out; rintro e w1 ⟨rfl, hb1⟩)
  have hI1 := (HI0.out.drew.next hb1)
  rw [setCells_four _ _ _ S1 hI1.1]
  have hI2 := hI1.set S1
  generalize w1.setRow (w.heap.size + 1) (fourCells S1) = W1 at hI2
  clear hI1 hb1 q0 q1 q2 q3 p0 p1 p2 p3 pf HI0 HT0 i1 HA
  have HI2 := hide hI2
  have HT2 := hide (fun (w3 : World) (h : Bel W1.drew w3) => HT.out.next ((hI2.drew.next h).2.2))
  have q0 : W1.cell? ⟨w.heap.size + 1, 0, none⟩ = some (.int .u32 (S1.a : Int)) := hI2.1.cell 0 (by decide)
  have q1 : W1.cell? ⟨w.heap.size + 1, 1, none⟩ = some (.int .u32 (S1.b : Int)) := hI2.1.cell 1 (by decide)
  have q2 : W1.cell? ⟨w.heap.size + 1, 2, none⟩ = some (.int .u32 (S1.c : Int)) := hI2.1.cell 2 (by decide)
  have q3 : W1.cell? ⟨w.heap.size + 1, 3, none⟩ = some (.int .u32 (S1.d : Int)) := hI2.1.cell 3 (by decide)
  have p0 : ∀ w1, Bel W1.drew w1 → w1.cell? ⟨w.heap.size + 1, 0, none⟩ = some (.int .u32 (S1.a : Int)) := fun w1 h => (hI2.drew.next h).1.cell 0 (by decide)
  have p1 : ∀ w1, Bel W1.drew w1 → w1.cell? ⟨w.heap.size + 1, 1, none⟩ = some (.int .u32 (S1.b : Int)) := fun w1 h => (hI2.drew.next h).1.cell 1 (by decide)
  have p2 : ∀ w1, Bel W1.drew w1 → w1.cell? ⟨w.heap.size + 1, 2, none⟩ = some (.int .u32 (S1.c : Int)) := fun w1 h => (hI2.drew.next h).1.cell 2 (by decide)
  have p3 : ∀ w1, Bel W1.drew w1 → w1.cell? ⟨w.heap.size + 1, 3, none⟩ = some (.int .u32 (S1.d : Int)) := fun w1 h => (hI2.drew.next h).1.cell 3 (by decide)
  have pf : ∀ w1 j, Bel W1.drew w1 → w1.frozen? ⟨w.heap.size + 1, j, none⟩ = false := fun w1 j h => (hI2.drew.next h).1.frozen j
  clear hI2
  go_wp2
  go_region_with (first
    | (go_at_call 194; refine (HC.out _).mono ?_; rintro e w3 ⟨rfl, hb3⟩)
    | (go_at_call 193; refine (HB.out _ ?_).mono ?_; exact HT2.out _ hb3; rintro e w4 ⟨rfl, hb4⟩; replace hb4 := bel_next hb3 hb4))
  all_goals
    have hI3 := (HI2.out.drew.next hb4)
    rw [setCells_four _ _ _ S2 hI3.1]
    have hI4 := hI3.set S2
    generalize w4.setRow (w.heap.size + 1) (fourCells S2) = W2 at hI4
    clear hI3 hb3 hb4 q0 q1 q2 q3 p0 p1 p2 p3 pf HT2 i2 HB
    have r0 : W2.cell? ⟨w.heap.size + 1, 0, none⟩ = some (.int .u32 (S2.a : Int)) := hI4.1.cell 0 (by decide)
    have r1 : W2.cell? ⟨w.heap.size + 1, 1, none⟩ = some (.int .u32 (S2.b : Int)) := hI4.1.cell 1 (by decide)
    have r2 : W2.cell? ⟨w.heap.size + 1, 2, none⟩ = some (.int .u32 (S2.c : Int)) := hI4.1.cell 2 (by decide)
    have r3 : W2.cell? ⟨w.heap.size + 1, 3, none⟩ = some (.int .u32 (S2.d : Int)) := hI4.1.cell 3 (by decide)
    have HI4 := hide hI4
    clear hI4
    go_wp2_with (first
      | (go_at_call 195; refine (HE.out _).mono ?_; rintro e w5 ⟨rfl, hb5⟩)
      | (refine wpList_store_row rfl 230 _ _ rfl w.heap.size D rfl rfl 230 Z16b (HI4.out.next hb5).2.1 (by rw [HCS.out]; kernel_rfl) (by rw [HCS.out]; rfl) HC1.out ?_))
    refine bodyPost_ret (v := .agg D) ?_ rfl ⟨rfl, below_row (HI4.out.next hb5).2.2 D⟩
    exact results_cell_row Tryz.results192 _ _ w.heap.size 230 D (0, 0) _ rfl (setRow_heap _ _ _ _ _ _ (HI4.out.next hb5).2.1) Tryz.underlying230 rfl (by rw [HCS.out]; kernel_rfl)
end Go.Proofs.YtkneogfeokckjaaGreatDoor
