/- The contract of package digest's inner stirAll: the state behind all blocks of a text of whole blocks, where the two tables hold what the program's text lays. -/
import Derived.Test.YtkneogfeokckjaaGreatDoorStir
namespace Go.Proofs.YtkneogfeokckjaaGreatDoor
open Go.RowKit

theorem dg_mid_at (s : ByteArray) (k m : Nat) (h : k ≤ m) (h2 : m ≤ s.size) (i j : Int) (hi : i = (k : Int)) (hj : j = (m : Int)) (W : World) :
    (Instr.slice 9 (.string s) (some (.int .i64 i)) (some (.int .i64 j)) none).run Tryz.prog W = .ok (.string (s.extract k m)) W := by
  subst hi hj
  rw [run_slice_string W 9 s .i64 .i64 (k : Int) (m : Int) Tryz.underlying9 (by omega) (by omega) (by omega)]
  rfl
theorem dg_first_at (s : ByteArray) (k : Nat) (h : k ≤ s.size) (i : Int) (hi : i = (k : Int)) (W : World) :
    (Instr.slice 9 (.string s) none (some (.int .i64 i)) none).run Tryz.prog W = .ok (.string (s.extract 0 k)) W := by
  subst hi
  rw [run_slice_string_h W 9 s Tryz.underlying9 .i64 (k : Int) (by omega) (by omega)]
  rfl
theorem dg_last_at (s : ByteArray) (k : Nat) (h : k ≤ s.size) (i : Int) (hi : i = (k : Int)) (W : World) :
    (Instr.slice 9 (.string s) (some (.int .i64 i)) none none).run Tryz.prog W = .ok (.string (s.extract k s.size)) W := by
  subst hi
  rw [run_slice_string_l W 9 s Tryz.underlying9 .i64 (k : Int) (by omega) (by omega)]
  rfl

theorem fourCells_one (s : Four) : (fourCells s).all (·.oneCell') = true := by simp [fourCells, Value.oneCell']
/-- Nothing below W's end has turned. -/
def Bel (W w' : World) : Prop := Below W.heap.size W w'
theorem bel_next {a b c : World} (h : Bel a b) (k : Bel b c) : Bel a c := below_next h k
/-- A block of the call's own that holds four numbers. -/
def IsFour (W : World) (g : Nat) (s : Four) : Prop := W.heap[g]? = some (.cells (fourCells s) 246 (0, 0))
theorem IsFour.lt {W : World} {g : Nat} {s : Four} (h : IsFour W g s) : g < W.heap.size := (Array.getElem?_eq_some_iff.1 h).1
theorem IsFour.next {W W' : World} {g : Nat} {s : Four} (h : IsFour W g s) (hb : Bel W W') : IsFour W' g s := (Below.block hb g h.lt).trans h
theorem IsFour.cell {W : World} {g : Nat} {s : Four} (h : IsFour W g s) (j : Nat) (hj : j < 4) : W.cell? ⟨g, j, none⟩ = some (.int .u32 (s.at j : Int)) := by
  rw [cell_of_row W g j _ _ _ h]
  exact fourCells_at s j hj
theorem IsFour.frozen {W : World} {g : Nat} {s : Four} (h : IsFour W g s) (j : Nat) : W.frozen? ⟨g, j, none⟩ = false := frozen_of_row W g j _ _ h
theorem setCells_four (W : World) (g : Nat) (s t : Four) (hg : IsFour W g s) :
    (((W.setCell ⟨g, 0, none⟩ (.int .u32 (t.a : Int))).setCell ⟨g, 1, none⟩ (.int .u32 (t.b : Int))).setCell ⟨g, 2, none⟩ (.int .u32 (t.c : Int))).setCell ⟨g, 3, none⟩ (.int .u32 (t.d : Int)) = W.setRow g (fourCells t) := by
  have r1 := run_storeCells_at Tryz.prog g 0 246 (fourCells t).toList 0 (fourCells s) W hg (by simp [fourCells]) (by simp [fourCells, Value.oneCell'])
  have r2 := run_storeCells_cells (P := Tryz.prog) g 0 (fourCells t).toList 0 W (fun j hj => by
    rw [Nat.add_zero, Nat.zero_add, hg.cell j (by simpa [fourCells] using hj)]
    rfl) (fun j _ => by rw [Nat.add_zero, Nat.zero_add]; exact hg.frozen j) (by simp [fourCells, Value.oneCell'])
  rw [r1] at r2
  simp only [Result.ok.injEq, true_and] at r2
  exact r2.symm

/-- The state's own block and the result's, behind some blocks of the text. -/
def SInv (w W : World) (s : Four) : Prop := IsFour W w.heap.size s ∧ W.heap[w.heap.size + 1]? = some (.cells Z4 246 (0, 0)) ∧ Below w.heap.size w W
theorem SInv.set {w W : World} {s : Four} (h : SInv w W s) (t : Four) : SInv w (W.setRow w.heap.size (fourCells t)) t :=
  ⟨setRow_heap W _ _ _ _ _ h.1, (setRow_other W _ _ _ (by omega)).trans h.2.1, h.2.2.trans ⟨rfl, rfl, rfl, by simp, fun k hk => setRow_other _ _ _ _ (by omega)⟩⟩
theorem SInv.next {w W W' : World} {s : Four} (h : SInv w W s) (hb : Bel W W') : SInv w W' s :=
  ⟨h.1.next hb, (Below.block hb _ (Array.getElem?_eq_some_iff.1 h.2.1).1).trans h.2.1, h.2.2.trans (Below.mono hb (Nat.le_of_lt h.1.lt))⟩

theorem block_ext (b : ByteArray) (k : Nat) : (b.extract (64 * k) (64 * k + 64)).data.toList = (b.data.toList.drop (64 * k)).take 64 := by
  rw [Lib.extract_data]
  congr 1
  omega

set_option maxHeartbeats 1000000 in
theorem stirAll_any (s : Four) (hs : s.ok) (b : ByteArray) (n : Nat) (hb : b.size = 64 * n) (hmax : b.size ≤ 281474976710656) (w : World) (hT : Tables w) :
    Calls Tryz.prog 193 #[.agg (fourCells s), .string b] w fun e w' => e = .returned (.agg (fourCells (blocksF b.data.toList n s))) ∧ Below w.heap.size w w' := by
  have HT := hide hT
  have HS := hide hs
  have HZ := hide hb
  clear hT hs hb
  have H0 := hide (show SInv w ((w.alloc (.cells (fourCells s) 246)).alloc (.cells Z4 246)) s from
    ⟨(heap_alloc_old (w.alloc (.cells (fourCells s) 246)) _ (by simp)).trans (heap_alloc_new w _), heap_alloc2_new w _ _, ((Below.refl _ _).alloc (Nat.le_refl _) _).alloc (by simp) _⟩)
  go_enter Tryz.func193, Tryz.ntmps193
  go_wp2
  go_loopw [5] (fun v wr => ∃ (k m : Nat), k ≤ n ∧ m = 64 * k ∧ v = .int .i64 (m : Int) ∧ SInv w wr (blocksF b.data.toList k s))
    (fun v _ => b.size - (intOf v).toNat)
  case atStart => exact ⟨0, 0, Nat.zero_le _, rfl, rfl, H0.out⟩
  case round =>
    obtain ⟨k, m, hk, hm, rfl, hI⟩ := hrel
    have hbz := HZ.out
    by_cases hlt : k < n
    · have hmb : m + 64 ≤ b.size := by omega
      have hi := dg_mid_at b m (m + 64) (by omega) hmb (m : Int) ((m : Int) + 64) rfl (by omega)
      have hwr : IntKind.i64.wrap ((m : Int) + 64) = (m : Int) + 64 := by rw [IntKind.wrap_i64]; omega
      have HE : Hid (∀ w, Calls Tryz.prog 197 #[.string (b.extract m (m + 64))] w fun e w' => e = .returned (.agg (wordCells ((b.data.toList.drop (64 * k)).take 64) 64)) ∧ Bel w w') := fun w => by
        have h := words_any (b.extract m (m + 64)) (by rw [ByteArray.size_extract]; omega) w
        rw [hm, block_ext] at h
        rw [hm]
        exact h
      have hok := blocksF_ok b.data.toList HS.out k
      have HST := hide (fun (w : World) (hT : Tables w) => stir_any (blocksF b.data.toList k s) hok (wordCells ((b.data.toList.drop (64 * k)).take 64) 64) (wordTo ((b.data.toList.drop (64 * k)).take 64) 64) (fun j hj => wordCells_at _ _ _ hj) (fun j => wordTo_lt _ _ _) w hT)
      have HN := hide (show blocksF b.data.toList (k + 1) s = stirF (blocksF b.data.toList k s) (wordTo ((b.data.toList.drop (64 * k)).take 64) 64) from rfl)
      generalize wordCells ((b.data.toList.drop (64 * k)).take 64) 64 = ws at HE HST
      generalize stirF (blocksF b.data.toList k s) (wordTo ((b.data.toList.drop (64 * k)).take 64) 64) = S' at HST HN
      generalize blocksF b.data.toList k s = S at hI HST hok
      have HST2 : Hid (∀ w, Tables w → Calls Tryz.prog 196 #[.agg #[.int .u32 (S.a : Int), .int .u32 (S.b : Int), .int .u32 (S.c : Int), .int .u32 (S.d : Int)], .agg ws] w fun e w' => e = .returned (.agg #[.int .u32 (S'.a : Int), .int .u32 (S'.b : Int), .int .u32 (S'.c : Int), .int .u32 (S'.d : Int)]) ∧ Bel w w') := HST.out
      have HI := hide hI
      have q0 := hI.1.cell 0 (by decide)
      have q1 := hI.1.cell 1 (by decide)
      have q2 := hI.1.cell 2 (by decide)
      have q3 := hI.1.cell 3 (by decide)
      have p0 : ∀ w1, Bel wr.drew w1 → w1.cell? ⟨w.heap.size, 0, none⟩ = some (.int .u32 (S.a : Int)) := fun w1 h => ((hI.next (W' := wr.drew) (Below.refl _ _).drew).next h).1.cell 0 (by decide)
      have p1 : ∀ w1, Bel wr.drew w1 → w1.cell? ⟨w.heap.size, 1, none⟩ = some (.int .u32 (S.b : Int)) := fun w1 h => ((hI.next (W' := wr.drew) (Below.refl _ _).drew).next h).1.cell 1 (by decide)
      have p2 : ∀ w1, Bel wr.drew w1 → w1.cell? ⟨w.heap.size, 2, none⟩ = some (.int .u32 (S.c : Int)) := fun w1 h => ((hI.next (W' := wr.drew) (Below.refl _ _).drew).next h).1.cell 2 (by decide)
      have p3 : ∀ w1, Bel wr.drew w1 → w1.cell? ⟨w.heap.size, 3, none⟩ = some (.int .u32 (S.d : Int)) := fun w1 h => ((hI.next (W' := wr.drew) (Below.refl _ _).drew).next h).1.cell 3 (by decide)
      have pf : ∀ w1 j, Bel wr.drew w1 → w1.frozen? ⟨w.heap.size, j, none⟩ = false := fun w1 j h => ((hI.next (W' := wr.drew) (Below.refl _ _).drew).next h).1.frozen j
      have HTB := hide (fun (w1 : World) (h : Bel wr.drew w1) => HT.out.next (((hI.next (W' := wr.drew) (Below.refl _ _).drew).next h).2.2))
      have HMK := hide hm
      clear HST hok hI hm hbz
      go_wp2
      go_region_with (first
        | (go_at_call 197; refine (HE.out _).mono ?_; rintro e w1 ⟨rfl, hb1⟩)
        | (go_at_call 196; refine (HST2.out _ ?_).mono ?_; exact HTB.out _ hb1; rintro e w2 ⟨rfl, hb2⟩; replace hb2 := bel_next hb1 hb2))
      all_goals
        have hI2 := (HI.out.next (W' := wr.drew) (Below.refl _ _).drew).next hb2
        rw [setCells_four _ _ _ S' hI2.1]
        have HI3 := hide (hI2.set S')
        clear p0 p1 p2 p3 pf q0 q1 q2 q3 hb1 hb2 hI2 HTB HE HST2 hi
        generalize w2.setRow w.heap.size (fourCells S') = W at HI3
        go_wp2
        go_roundw
        case rel => exact ⟨k + 1, m + 64, by omega, by rw [HMK.out]; omega, by go_num, by rw [HN.out]; exact HI3.out⟩
        case measure => simp [intOf]; omega
    · obtain rfl : k = n := by omega
      have hmb : m = b.size := by omega
      have HI := hide hI
      clear hlt hk hm hbz
      obtain ⟨C, hC⟩ : ∃ C, fourCells (blocksF b.data.toList k s) = C := ⟨_, rfl⟩
      have h1 : wr.heap[w.heap.size]? = some (.cells C 246 (0, 0)) := by rw [← hC]; exact hI.1
      have HCS := hide (show C.size = 4 by rw [← hC]; rfl)
      have HC1 := hide (show C.all (·.oneCell') = true by rw [← hC]; exact fourCells_one _)
      have H1 := hide h1
      have H0 := hide hI.2.1
      have HB := hide hI.2.2
      have HCC := hide hC
      clear hC hI h1
      subst hmb
      go_wp2_with (first
        | (refine wpList_load_row rfl 246 _ rfl w.heap.size rfl 246 C (0, 0) _ H1.out Tryz.underlying246 rfl (by rw [HCS.out]; kernel_rfl) ?_)
        | (refine wpList_store_row rfl 246 _ _ rfl (w.heap.size + 1) C rfl rfl 246 Z4 H0.out (by rw [HCS.out]; kernel_rfl) (by rw [HCS.out]; rfl) HC1.out ?_))
      refine bodyPost_ret (v := .agg C) ?_ rfl ⟨by rw [HCC.out], HB.out.trans ⟨rfl, rfl, rfl, by simp, fun k hk => setRow_other _ _ _ _ (by omega)⟩⟩
      exact results_cell_row Tryz.results193 _ _ (w.heap.size + 1) 246 C (0, 0) _ rfl (setRow_heap _ _ _ _ _ _ H0.out) Tryz.underlying246 rfl (by rw [HCS.out]; kernel_rfl)
end Go.Proofs.YtkneogfeokckjaaGreatDoor
