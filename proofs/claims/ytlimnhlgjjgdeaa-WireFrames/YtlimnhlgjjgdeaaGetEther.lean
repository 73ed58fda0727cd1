/- The contract of wire.GetEther: the frame of some bytes, or the error; for every string of at most 2^47 bytes. -/
import Derived.Test.YtlimnhlgjjgdeaaGetGram
import Derived.Test.YtlimnhlgjjgdeaaPutEther
import Derived.Deep.MidRow
import Derived.Deep.RegionLaw
import Derived.Laws.ResultCell
namespace Go.Proofs.Ytlimnhlgjjgdeaa
open Go.RowKit

/-- Block g holds the cells of a frame, and none of them is frozen. -/
def IsEth (W : World) (g : Nat) (cur : Array Value) : Prop := W.heap[g]? = some (.cells cur 25 (0, 0))
abbrev Z : Array Value := #[.int .u8 0, .int .u8 0, .int .u8 0, .int .u8 0, .int .u8 0, .int .u8 0, .int .u8 0, .int .u8 0, .int .u8 0, .int .u8 0, .int .u8 0, .int .u8 0, .int .i64 0, .string ⟨#[]⟩]
def EthFacts (W : World) (g : Nat) : Prop := (W.cell? ⟨g, 0, none⟩ = some (.int .u8 0) ∧ W.cell? ⟨g, 1, none⟩ = some (.int .u8 0) ∧ W.cell? ⟨g, 2, none⟩ = some (.int .u8 0) ∧ W.cell? ⟨g, 3, none⟩ = some (.int .u8 0) ∧ W.cell? ⟨g, 4, none⟩ = some (.int .u8 0) ∧ W.cell? ⟨g, 5, none⟩ = some (.int .u8 0) ∧ W.cell? ⟨g, 6, none⟩ = some (.int .u8 0) ∧ W.cell? ⟨g, 7, none⟩ = some (.int .u8 0) ∧ W.cell? ⟨g, 8, none⟩ = some (.int .u8 0) ∧ W.cell? ⟨g, 9, none⟩ = some (.int .u8 0) ∧ W.cell? ⟨g, 10, none⟩ = some (.int .u8 0) ∧ W.cell? ⟨g, 11, none⟩ = some (.int .u8 0) ∧ W.cell? ⟨g, 12, none⟩ = some (.int .i64 0) ∧ W.cell? ⟨g, 13, none⟩ = some (.string ⟨#[]⟩)) ∧ ∀ j, W.frozen? ⟨g, j, none⟩ = false
theorem eth_facts {W : World} {g : Nat} (hg : IsEth W g Z) : EthFacts W g := by
  have h : ∀ j, W.cell? ⟨g, j, none⟩ = Z[j]? := fun j => cell_of_row W g j Z _ _ hg
  exact ⟨⟨h 0, h 1, h 2, h 3, h 4, h 5, h 6, h 7, h 8, h 9, h 10, h 11, h 12, h 13⟩, fun j => frozen_of_row W g j Z _ hg⟩
theorem isEth_below {w w5 : World} (hb : Below ((w.alloc (.cells Z 25)).alloc (.cells Z 25)).drew.heap.size ((w.alloc (.cells Z 25)).alloc (.cells Z 25)).drew w5) : IsEth w5 (w.heap.size + 1) Z := by
  refine (hb.block (w.heap.size + 1) (by simp)).trans ?_
  exact heap_alloc2_new w (.cells Z 25) (.cells Z 25)

/-- Nothing below W's end has turned. -/
def Bel (W w' : World) : Prop := Below W.heap.size W w'
theorem clone_bel (s : ByteArray) (hlim : s.size ≤ 281474976710656) (w : World) : Calls Try.prog 25 #[.string s] w fun e w' => e = .returned (.string s) ∧ Bel w w' := clone_any s w hlim
theorem bel_facts {w w5 : World} (hb : Bel ((w.alloc (.cells Z 25)).alloc (.cells Z 25)).drew w5) : EthFacts w5 (w.heap.size + 1) := eth_facts (isEth_below hb)

/-- The result's block, and the frame's own block F with the cells C. -/
def EInv (w wx : World) (F : Nat) (C : Array Value) : Prop := IsEth wx w.heap.size Z ∧ IsEth wx F C ∧ w.heap.size < F ∧ Below w.heap.size w wx
theorem EInv.drew {w wx : World} {F : Nat} {C : Array Value} (h : EInv w wx F C) : EInv w wx.drew F C := ⟨h.1, h.2.1, h.2.2.1, h.2.2.2.drew⟩
theorem isEth_setRow {W : World} {g : Nat} {c c' : Array Value} (h : IsEth W g c) : IsEth (W.setRow g c') g c' := setRow_heap W g c c' _ _ h
theorem EInv.setRow {w wx : World} {F : Nat} {C : Array Value} (h : EInv w wx F C) (C' : Array Value) : EInv w (wx.setRow F C') F C' :=
  ⟨(setRow_other wx F w.heap.size C' (Nat.ne_of_lt h.2.2.1)).trans h.1, isEth_setRow h.2.1, h.2.2.1,
    h.2.2.2.trans ⟨rfl, rfl, rfl, by simp, fun k hk => setRow_other _ _ _ _ (by have := h.2.2.1; omega)⟩⟩
theorem setCells_row (W : World) (g : Nat) (cur : Array Value) (cs : List Value) (hg : IsEth W g cur) (hs : cur.size = cs.length) (h1 : ∀ v ∈ cs, v.oneCell' = true) : W.setCells g 0 cs = W.setRow g cs.toArray := by
  have r1 := run_storeCells_at Try.prog g 0 25 cs 0 cur W hg (by omega) h1
  have r2 := run_storeCells_cells (P := Try.prog) g 0 cs 0 W (fun j hj => by
    rw [Nat.add_zero, Nat.zero_add, cell_of_row W g j cur _ _ hg, Array.getElem?_eq_getElem (by omega)]
    rfl) (fun j _ => by rw [Nat.add_zero, Nat.zero_add]; exact frozen_of_row W g j cur _ hg) h1
  rw [r1] at r2
  simp only [Result.ok.injEq, true_and, Nat.add_zero, Nat.zero_add, List.take_zero, List.nil_append] at r2
  rw [← r2, List.drop_of_length_le (by rw [Array.length_toList]; omega), List.append_nil]
theorem einv_after {w w5 : World} (hb : Bel ((w.alloc (.cells Z 25))).drew w5) (C : Array Value) : EInv w (w5.alloc (.cells C 25)) w5.heap.size C := by
  have hs : w.heap.size < w5.heap.size := by have := Below.size hb; simp at this; omega
  have hb0 : Below w.heap.size w w5 := (((Below.refl _ _).alloc (Nat.le_refl _) _).drew).trans (Below.mono hb (by simp))
  refine ⟨?_, heap_alloc_new _ _, hs, hb0.alloc (Nat.le_of_lt hs) _⟩
  refine (heap_alloc_old w5 _ hs).trans ((Below.block hb w.heap.size (by simp)).trans ?_)
  exact heap_alloc_new w (.cells Z 25)
theorem einv_ahead {w w5 : World} (hb : Bel ((w.alloc (.cells Z 25)).alloc (.cells Z 25)).drew w5) (cs : List Value) (hl : cs.length = 14) (h1 : ∀ v ∈ cs, v.oneCell' = true) :
    EInv w (w5.setCells (w.heap.size + 1) 0 cs) (w.heap.size + 1) cs.toArray := by
  have hF := isEth_below hb
  rw [setCells_row w5 (w.heap.size + 1) Z cs hF (by rw [hl]; rfl) h1]
  have hb0 : Below w.heap.size w w5 := ((((Below.refl _ _).alloc (Nat.le_refl _) _).alloc (by simp) _).drew).trans (Below.mono hb (by simp; omega))
  have hR : IsEth w5 w.heap.size Z := by
    refine (Below.block hb w.heap.size (by simp; omega)).trans ?_
    refine (heap_alloc_old (w.alloc (.cells Z 25)) (.cells Z 25) (by simp)).trans ?_
    exact heap_alloc_new w (.cells Z 25)
  exact EInv.setRow (⟨hR, hF, by omega, hb0⟩ : EInv w w5 (w.heap.size + 1) Z) _

theorem step_copy_eth {ops : Array Oper} {o : Oper} {a : Act} {K : Act → World → Prop} {Q : Exit → Act → World → Prop} {E : Prop} (hgd : o.guard = none) (d s : Operand)
    (ho : o.op = .call { callee := .builtin .copy, args := #[d, s], argTypes := #[47, 9] }) (w W : World) (F off : Nat) (hd : a.eval d = .slice (some ⟨F, off, none⟩) 6 6)
    (x : ByteArray) (hs : a.eval s = .string x) (hx : x.size = 6) (cur : List Value) (hI : EInv w W F cur.toArray) (hfit : off + 6 ≤ cur.length)
    (h : ∀ w', EInv w w' F (cur.take off ++ Lib.byteCells x.data.toList ++ cur.drop (off + 6)).toArray → K (a.put o.dst (goInt x.size)) w') :
    if Region.wanted o (yielded ops a.tmps) = true then Oper.wp Try.prog o a W K Q else E := by
  have hw : Region.wanted o (yielded ops a.tmps) = true := by simp [Region.wanted, hgd]
  rw [if_pos hw]
  have hr := Lib.run_copy_row_string (P := Try.prog) W 47 9 o.type 5 F off 6 6 x cur.toArray 25 Try.underlying47 (by kernel_rfl) hI.2.1 (by omega) (by rw [hx]; simpa using hfit)
  unfold Oper.wp execOp
  simp only [ho, resolve, invoke, builtin, Sem.run_bind, Sem.run_pure, Result.andThen_ok, List.map_toArray, List.map_cons, List.map_nil, hd, hs, hr]
  refine h _ ?_
  have h2 := hI.setRow (cur.take off ++ Lib.byteCells x.data.toList ++ cur.drop (off + 6)).toArray
  rw [hx]
  exact h2

theorem eth_there {w wx : World} {F n : Nat} {C : Array Value} (h : EInv w wx F C) (hn : n = 14) : wx.there w.heap.size 0 n := fun j hj => by
  have hz : Z.size = 14 := rfl
  rw [Nat.zero_add]
  refine ⟨?_, frozen_of_row wx _ j Z _ h.1⟩
  rw [cell_of_row wx _ j Z _ _ h.1, Array.getElem?_eq_getElem (by omega)]
  rfl
theorem eth_cells (s : ByteArray) (h : 14 ≤ s.size) (t : Int) (x : ByteArray) :
    (([.int .u8 0, .int .u8 0, .int .u8 0, .int .u8 0, .int .u8 0, .int .u8 0, .int .u8 0, .int .u8 0, .int .u8 0, .int .u8 0, .int .u8 0, .int .u8 0, .int .i64 t, .string x] : List Value).take 0 ++ Lib.byteCells (s.extract 0 6).data.toList ++
      ([.int .u8 0, .int .u8 0, .int .u8 0, .int .u8 0, .int .u8 0, .int .u8 0, .int .u8 0, .int .u8 0, .int .u8 0, .int .u8 0, .int .u8 0, .int .u8 0, .int .i64 t, .string x] : List Value).drop (0 + 6)).take 6 ++
      Lib.byteCells (s.extract 6 12).data.toList ++
    (([.int .u8 0, .int .u8 0, .int .u8 0, .int .u8 0, .int .u8 0, .int .u8 0, .int .u8 0, .int .u8 0, .int .u8 0, .int .u8 0, .int .u8 0, .int .u8 0, .int .i64 t, .string x] : List Value).take 0 ++ Lib.byteCells (s.extract 0 6).data.toList ++
      ([.int .u8 0, .int .u8 0, .int .u8 0, .int .u8 0, .int .u8 0, .int .u8 0, .int .u8 0, .int .u8 0, .int .u8 0, .int .u8 0, .int .u8 0, .int .u8 0, .int .i64 t, .string x] : List Value).drop (0 + 6)).drop (6 + 6) =
    ethCells (s.data.toList.take 6) ((s.data.toList.drop 6).take 6) t x := by
  have hl : s.data.toList.length = s.size := (Lib.size_eq s).symm
  have e1 : (s.extract 0 6).data.toList = s.data.toList.take 6 := by rw [Lib.extract_data]; simp
  have e2 : (s.extract 6 12).data.toList = (s.data.toList.drop 6).take 6 := by rw [Lib.extract_data]
  have l1 : (Lib.byteCells (s.data.toList.take 6)).length = 6 := by rw [Lib.byteCells_length, List.length_take]; omega
  rw [e1, e2]
  unfold ethCells
  generalize Lib.byteCells (s.data.toList.take 6) = A at l1
  have l3 : A.drop 12 = [] := List.drop_of_length_le (by omega)
  simp [List.drop_append, l1, l3]

theorem ret_eth (tmps : Array Value) (W : World) (R : Nat) (D : Array Value) (e : Int) (h2 : tmps.getD 2 undef = .pointer (some ⟨R, 0, none⟩)) (h3 : tmps.getD 3 undef = .int .i64 e) (hr : W.rangeAt R 0 D.toList) (hs : D.size = 14) :
    (results Try.f7 tmps).run Try.prog W = .ok (.tuple #[.agg D, .int .i64 e]) W := by
  have hl := run_loadVar_mid (P := Try.prog) W R 0 25 D.toList _ hr Try.underlying25 rfl (by rw [Array.length_toList, hs]; kernel_rfl)
  rw [results_cell_tmp Try.results7 tmps Try.prog W, h2, h3]
  simp [asAddr, hl]
theorem range_setCells {W : World} {R : Nat} {D : Array Value} (ht : W.there R 0 D.size) : (W.setCells R 0 D.toList).rangeAt R 0 D.toList := fun j v hj => by
  have hjl := (List.getElem?_eq_some_iff.1 hj).1
  rw [World.cell?_setCells_in R D.toList 0 W (fun i hi => (ht i (by simpa using hi)).1) j hjl]
  rw [List.getElem?_eq_getElem hjl] at hj
  exact hj
theorem below_setCells {w W : World} (hb : Below w.heap.size w W) (o : Nat) (cs : List Value) : Below w.heap.size w (W.setCells w.heap.size o cs) := by
  induction cs generalizing W o with
  | nil => exact hb
  | cons v r ih => exact ih (hb.setCell (Nat.le_refl _) v) (o + 1)

set_option maxHeartbeats 4000000 in
theorem getEther_yes (s : ByteArray) (h14 : 14 ≤ s.size) (hs : s.size ≤ 1514) (t : Nat)
    (h1 : ∀ w, Calls Try.prog 24 #[.string (s.extract 12 14)] w fun e w' => e = .returned (.int .i64 (t : Int)) ∧ w' = w) (w : World) :
    Calls Try.prog 7 #[.string s] w fun e w' => e = .returned (.tuple #[.agg (ethCells (s.data.toList.take 6) ((s.data.toList.drop 6).take 6) (t : Int) (s.extract 14 s.size)).toArray, .int .i64 0]) ∧ Below w.heap.size w w' := by
  have HL := hide h1
  clear h1
  obtain ⟨D, hD⟩ : ∃ D, D = (ethCells (s.data.toList.take 6) ((s.data.toList.drop 6).take 6) (t : Int) (s.extract 14 s.size)).toArray := ⟨_, rfl⟩
  rw [← hD]
  have hDs : D.size = 14 := by
    have hl : s.data.toList.length = s.size := (Lib.size_eq s).symm
    rw [hD]
    simp [ethCells, Lib.byteCells]
    omega
  have hD1 : D.all (·.oneCell') = true := by
    rw [hD]
    refine all_oneCell_toArray (fun v hv => ?_)
    unfold ethCells at hv
    rcases List.mem_append.1 hv with hv | hv
    · exact Lib.byteCells_one _ v hv
    · rcases List.mem_append.1 hv with hv | hv
      · exact Lib.byteCells_one _ v hv
      · simp at hv
        rcases hv with rfl | rfl <;> rfl
  have HD := hide hD
  have HDS := hide hDs
  clear hD hDs
  have hcl : (s.extract 14 s.size).size ≤ 281474976710656 := by rw [ByteArray.size_extract]; omega
  have HC := hide (clone_bel (s.extract 14 s.size) hcl)
  have i1 := mid_at s 12 14 (by omega) (by omega) 12 14 (by rfl) (by rfl)
  have i2 := last_at s 14 (by omega) 14 (by rfl)
  go_enter Try.func7, Try.ntmps7
  go_wp2_with fail
  have k0 : ∀ w5, Bel ((w.alloc (.cells Z 25)).alloc (.cells Z 25)).drew w5 → w5.cell? ⟨w.heap.size + 1, 0, none⟩ = some (.int .u8 0) := fun w5 hb => (bel_facts hb).1.1
  have k1 : ∀ w5, Bel ((w.alloc (.cells Z 25)).alloc (.cells Z 25)).drew w5 → w5.cell? ⟨w.heap.size + 1, 1, none⟩ = some (.int .u8 0) := fun w5 hb => (bel_facts hb).1.2.1
  have k2 : ∀ w5, Bel ((w.alloc (.cells Z 25)).alloc (.cells Z 25)).drew w5 → w5.cell? ⟨w.heap.size + 1, 2, none⟩ = some (.int .u8 0) := fun w5 hb => (bel_facts hb).1.2.2.1
  have k3 : ∀ w5, Bel ((w.alloc (.cells Z 25)).alloc (.cells Z 25)).drew w5 → w5.cell? ⟨w.heap.size + 1, 3, none⟩ = some (.int .u8 0) := fun w5 hb => (bel_facts hb).1.2.2.2.1
  have k4 : ∀ w5, Bel ((w.alloc (.cells Z 25)).alloc (.cells Z 25)).drew w5 → w5.cell? ⟨w.heap.size + 1, 4, none⟩ = some (.int .u8 0) := fun w5 hb => (bel_facts hb).1.2.2.2.2.1
  have k5 : ∀ w5, Bel ((w.alloc (.cells Z 25)).alloc (.cells Z 25)).drew w5 → w5.cell? ⟨w.heap.size + 1, 5, none⟩ = some (.int .u8 0) := fun w5 hb => (bel_facts hb).1.2.2.2.2.2.1
  have k6 : ∀ w5, Bel ((w.alloc (.cells Z 25)).alloc (.cells Z 25)).drew w5 → w5.cell? ⟨w.heap.size + 1, 6, none⟩ = some (.int .u8 0) := fun w5 hb => (bel_facts hb).1.2.2.2.2.2.2.1
  have k7 : ∀ w5, Bel ((w.alloc (.cells Z 25)).alloc (.cells Z 25)).drew w5 → w5.cell? ⟨w.heap.size + 1, 7, none⟩ = some (.int .u8 0) := fun w5 hb => (bel_facts hb).1.2.2.2.2.2.2.2.1
  have k8 : ∀ w5, Bel ((w.alloc (.cells Z 25)).alloc (.cells Z 25)).drew w5 → w5.cell? ⟨w.heap.size + 1, 8, none⟩ = some (.int .u8 0) := fun w5 hb => (bel_facts hb).1.2.2.2.2.2.2.2.2.1
  have k9 : ∀ w5, Bel ((w.alloc (.cells Z 25)).alloc (.cells Z 25)).drew w5 → w5.cell? ⟨w.heap.size + 1, 9, none⟩ = some (.int .u8 0) := fun w5 hb => (bel_facts hb).1.2.2.2.2.2.2.2.2.2.1
  have k10 : ∀ w5, Bel ((w.alloc (.cells Z 25)).alloc (.cells Z 25)).drew w5 → w5.cell? ⟨w.heap.size + 1, 10, none⟩ = some (.int .u8 0) := fun w5 hb => (bel_facts hb).1.2.2.2.2.2.2.2.2.2.2.1
  have k11 : ∀ w5, Bel ((w.alloc (.cells Z 25)).alloc (.cells Z 25)).drew w5 → w5.cell? ⟨w.heap.size + 1, 11, none⟩ = some (.int .u8 0) := fun w5 hb => (bel_facts hb).1.2.2.2.2.2.2.2.2.2.2.2.1
  have k12 : ∀ w5, Bel ((w.alloc (.cells Z 25)).alloc (.cells Z 25)).drew w5 → w5.cell? ⟨w.heap.size + 1, 12, none⟩ = some (.int .i64 0) := fun w5 hb => (bel_facts hb).1.2.2.2.2.2.2.2.2.2.2.2.2.1
  have k13 : ∀ w5, Bel ((w.alloc (.cells Z 25)).alloc (.cells Z 25)).drew w5 → w5.cell? ⟨w.heap.size + 1, 13, none⟩ = some (.string ⟨#[]⟩) := fun w5 hb => (bel_facts hb).1.2.2.2.2.2.2.2.2.2.2.2.2.2
  have kf : ∀ w5 j, Bel ((w.alloc (.cells Z 25)).alloc (.cells Z 25)).drew w5 → w5.frozen? ⟨w.heap.size + 1, j, none⟩ = false := fun w5 j hb => (bel_facts hb).2 j
  go_region_with (first
    | (go_at_call 24; refine (HL.out _).mono ?_; rintro e3 w3 ⟨rfl, rfl⟩)
    | (go_at_call 25; refine (HC.out _).mono ?_; rintro e5 w5 ⟨rfl, hb5⟩))
  all_goals first
    | (have hI := einv_after (w := w) hb5 #[.int .u8 0, .int .u8 0, .int .u8 0, .int .u8 0, .int .u8 0, .int .u8 0, .int .u8 0, .int .u8 0, .int .u8 0, .int .u8 0, .int .u8 0, .int .u8 0, .int .i64 (t : Int), .string (s.extract 14 s.size)]; generalize w5.alloc (.cells #[.int .u8 0, .int .u8 0, .int .u8 0, .int .u8 0, .int .u8 0, .int .u8 0, .int .u8 0, .int .u8 0, .int .u8 0, .int .u8 0, .int .u8 0, .int .u8 0, .int .i64 (t : Int), .string (s.extract 14 s.size)] 25) = wx at hI ⊢; generalize w5.heap.size = F at hI ⊢)
    | (have hI : EInv w ((((((((((((((w5.setCell ⟨w.heap.size + 1, 0, none⟩ (.int .u8 0)).setCell ⟨w.heap.size + 1, 1, none⟩ (.int .u8 0)).setCell ⟨w.heap.size + 1, 2, none⟩ (.int .u8 0)).setCell ⟨w.heap.size + 1, 3, none⟩ (.int .u8 0)).setCell ⟨w.heap.size + 1, 4, none⟩ (.int .u8 0)).setCell ⟨w.heap.size + 1, 5, none⟩ (.int .u8 0)).setCell ⟨w.heap.size + 1, 6, none⟩ (.int .u8 0)).setCell ⟨w.heap.size + 1, 7, none⟩ (.int .u8 0)).setCell ⟨w.heap.size + 1, 8, none⟩ (.int .u8 0)).setCell ⟨w.heap.size + 1, 9, none⟩ (.int .u8 0)).setCell ⟨w.heap.size + 1, 10, none⟩ (.int .u8 0)).setCell ⟨w.heap.size + 1, 11, none⟩ (.int .u8 0)).setCell ⟨w.heap.size + 1, 12, none⟩ (.int .i64 (t : Int))).setCell ⟨w.heap.size + 1, 13, none⟩ (.string (s.extract 14 s.size))) (w.heap.size + 1) #[.int .u8 0, .int .u8 0, .int .u8 0, .int .u8 0, .int .u8 0, .int .u8 0, .int .u8 0, .int .u8 0, .int .u8 0, .int .u8 0, .int .u8 0, .int .u8 0, .int .i64 (t : Int), .string (s.extract 14 s.size)] := einv_ahead (w := w) hb5 [.int .u8 0, .int .u8 0, .int .u8 0, .int .u8 0, .int .u8 0, .int .u8 0, .int .u8 0, .int .u8 0, .int .u8 0, .int .u8 0, .int .u8 0, .int .u8 0, .int .i64 (t : Int), .string (s.extract 14 s.size)] rfl (by intro v hv; simp at hv; rcases hv with rfl | rfl | rfl <;> rfl); generalize ((((((((((((((w5.setCell ⟨w.heap.size + 1, 0, none⟩ (.int .u8 0)).setCell ⟨w.heap.size + 1, 1, none⟩ (.int .u8 0)).setCell ⟨w.heap.size + 1, 2, none⟩ (.int .u8 0)).setCell ⟨w.heap.size + 1, 3, none⟩ (.int .u8 0)).setCell ⟨w.heap.size + 1, 4, none⟩ (.int .u8 0)).setCell ⟨w.heap.size + 1, 5, none⟩ (.int .u8 0)).setCell ⟨w.heap.size + 1, 6, none⟩ (.int .u8 0)).setCell ⟨w.heap.size + 1, 7, none⟩ (.int .u8 0)).setCell ⟨w.heap.size + 1, 8, none⟩ (.int .u8 0)).setCell ⟨w.heap.size + 1, 9, none⟩ (.int .u8 0)).setCell ⟨w.heap.size + 1, 10, none⟩ (.int .u8 0)).setCell ⟨w.heap.size + 1, 11, none⟩ (.int .u8 0)).setCell ⟨w.heap.size + 1, 12, none⟩ (.int .i64 (t : Int))).setCell ⟨w.heap.size + 1, 13, none⟩ (.string (s.extract 14 s.size))) = wx at hI ⊢; generalize w.heap.size + 1 = F at hI ⊢)
  all_goals
    clear k0 k1 k2 k3 k4 k5 k6 k7 k8 k9 k10 k11 k12 k13 kf hb5 i1 i2
    have j1 := first_at s 6 (by omega) 6 (by rfl)
    have j2 := mid_at s 6 12 (by omega) (by omega) 6 12 (by rfl) (by rfl)
    have HI := hide hI
    clear hI
    go_wp2
    go_region_law (refine step_copy_eth rfl (.tmp 21) (.tmp 23) rfl w _ F 0 rfl (s.extract 0 6) rfl (by rw [ByteArray.size_extract]; omega) [.int .u8 0, .int .u8 0, .int .u8 0, .int .u8 0, .int .u8 0, .int .u8 0, .int .u8 0, .int .u8 0, .int .u8 0, .int .u8 0, .int .u8 0, .int .u8 0, .int .i64 (t : Int), .string (s.extract 14 s.size)] HI.out.drew (by simp) ?_; intro w6 hI6)
    have HI6 := hide hI6
    clear hI6
    go_wp2
    go_region_law (refine step_copy_eth rfl (.tmp 26) (.tmp 28) rfl w _ F 6 rfl (s.extract 6 12) rfl (by rw [ByteArray.size_extract]; omega) _ HI6.out.drew (by simp [Lib.byteCells]; omega) ?_; intro w7 hI7)
    rw [eth_cells s h14 (t : Int) (s.extract 14 s.size), ← HD.out] at hI7
    have HT := eth_there hI7 HDS.out
    have hF := hI7.2.1
    have HB := hide hI7.2.2.2
    have HFD := hide hF
    have HTT := hide HT
    clear HI HI6 hI7 hF HT
    go_wp2_with (first
      | (refine wpList_load_row rfl 25 _ rfl F rfl 25 D (0, 0) _ HFD.out Try.underlying25 rfl (by rw [HDS.out]; kernel_rfl) ?_)
      | (refine wpList_store_mid rfl 25 _ _ rfl w.heap.size 0 D rfl rfl HTT.out (by rw [HDS.out]; kernel_rfl) hD1 ?_))
    refine bodyPost_ret (v := .tuple #[.agg D, .int .i64 0]) (ret_eth _ _ w.heap.size D 0 rfl rfl (range_setCells HTT.out) HDS.out) rfl ⟨rfl, below_setCells HB.out _ _⟩

theorem range_new (w : World) : (w.alloc (.cells Z 25)).rangeAt w.heap.size 0 Z.toList := fun j v hj => by
  rw [Nat.zero_add, cell_of_row _ w.heap.size j Z _ _ (heap_alloc_new w _)]
  simpa using hj

set_option maxHeartbeats 1000000 in
theorem getEther_short (s : ByteArray) (h14 : s.size < 14) (w : World) :
    Calls Try.prog 7 #[.string s] w fun e w' => e = .returned (.tuple #[.agg Z, .int .i64 5]) ∧ Below w.heap.size w w' := by
  go_enter Try.func7, Try.ntmps7
  go_wp2
  refine bodyPost_ret (v := .tuple #[.agg Z, .int .i64 5]) (ret_eth _ _ w.heap.size Z 5 rfl rfl (range_new w) rfl) rfl ⟨rfl, (Below.refl _ _).alloc (Nat.le_refl _) _⟩

set_option maxHeartbeats 1000000 in
theorem getEther_long (s : ByteArray) (h : 1514 < s.size) (w : World) :
    Calls Try.prog 7 #[.string s] w fun e w' => e = .returned (.tuple #[.agg Z, .int .i64 2]) ∧ Below w.heap.size w w' := by
  go_enter Try.func7, Try.ntmps7
  go_wp2
  refine bodyPost_ret (v := .tuple #[.agg Z, .int .i64 2]) (ret_eth _ _ w.heap.size Z 2 rfl rfl (range_new w) rfl) rfl ⟨rfl, (Below.refl _ _).alloc (Nat.le_refl _) _⟩

def zero6 : List UInt8 := [0, 0, 0, 0, 0, 0]
def getEtherF (l : List UInt8) : (List UInt8 × List UInt8 × Nat × List UInt8) × Int :=
  if l.length < 14 then ((zero6, zero6, 0, []), 5) else if 1514 < l.length then ((zero6, zero6, 0, []), 2) else ((l.take 6, (l.drop 6).take 6, numOf ((l.drop 12).take 2), l.drop 14), 0)
def ethV (g : List UInt8 × List UInt8 × Nat × List UInt8) : Value := .agg (ethCells g.1 g.2.1 (g.2.2.1 : Int) ⟨g.2.2.2.toArray⟩).toArray

/-- 'GetEther(b)'. -/
theorem getEther_any (s : ByteArray) (w : World) :
    Calls Try.prog 7 #[.string s] w fun e w' => e = .returned (.tuple #[ethV (getEtherF s.data.toList).1, .int .i64 (getEtherF s.data.toList).2]) ∧ Below w.heap.size w w' := by
  have hl : s.data.toList.length = s.size := (Lib.size_eq s).symm
  by_cases h14 : s.size < 14
  · have e : getEtherF s.data.toList = ((zero6, zero6, 0, []), 5) := by unfold getEtherF; rw [if_pos (by omega)]
    rw [e]
    exact getEther_short s h14 w
  · by_cases h : 1514 < s.size
    · have e : getEtherF s.data.toList = ((zero6, zero6, 0, []), 2) := by unfold getEtherF; rw [if_neg (by omega), if_pos (by omega)]
      rw [e]
      exact getEther_long s h w
    · have e : getEtherF s.data.toList = ((s.data.toList.take 6, (s.data.toList.drop 6).take 6, numOf ((s.data.toList.drop 12).take 2), s.data.toList.drop 14), 0) := by unfold getEtherF; rw [if_neg (by omega), if_neg (by omega)]
      rw [e]
      have hz : (⟨(s.data.toList.drop 14).toArray⟩ : ByteArray) = s.extract 14 s.size := by
        apply ByteArray.ext
        apply Array.toList_inj.1
        rw [Lib.extract_data, List.take_of_length_le (by simp)]
      unfold ethV
      simp only [hz]
      refine getEther_yes s (by omega) (by omega) _ (fun w => ?_) w
      have hL := lift_any (s.extract 12 14) (by rw [ByteArray.size_extract]; omega) w
      rw [Lib.extract_data] at hL
      exact hL
end Go.Proofs.Ytlimnhlgjjgdeaa
