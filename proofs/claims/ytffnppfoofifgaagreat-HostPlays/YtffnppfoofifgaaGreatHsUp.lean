/- slices.Index and slices.Contains over tags: whether a tag is among them. · The contracts of the host's inner isMine and settle. · The contract of the host's inner padr. · The contract of the host's inner choose. -/
import Derived.Test.YtffnppfoofifgaaGreatTagFind
import Derived.Test.YtffnppfoofifgaaGreatEtEq
import Derived.Test.YtffnppfoofifgaaGreatHsIn
import Derived.Test.YtffnppfoofifgaaGreatTk
namespace Go.Proofs.YtffnppfoofifgaaGreat
open Go.RowKit

/-- Tags that can be read: not many, not long, of types that are numbers of Go's. -/
def FewT (l : List Tg) : Prop := l.length ≤ 1000000 ∧ ∀ x ∈ l, x.value.size ≤ 1000000 ∧ (Lit.int .i64 x.type).wf = true
theorem FewT.size {l : List Tg} (h : FewT l) : ∀ x ∈ l, x.value.size ≤ 140737488351232 := fun x hx => Nat.le_trans (h.2 x hx).1 (by decide)
def hasT (l : List Tg) (t : Tg) : Bool := l.any (sameT t)

theorem cellsTg : Tryz.prog.cellsOf 97 = 2 := by kernel_rfl
theorem cellsInt : Tryz.prog.cellsOf 3 = 1 := by kernel_rfl
theorem cellsStr : Tryz.prog.cellsOf 9 = 1 := by kernel_rfl
theorem tg_lits (d : Nat) (t : Tg) (h : (Lit.int .i64 t.type).wf = true) (hx : t.value.size ≤ maxLen) : Tryz.prog.keyLits (d + 2) 97 [.int .i64 t.type, .string t.value] = some [.int .i64 t.type, .string t.value.data.toList] := by
  have h1 : Tryz.prog.keyLits (d + 1) 3 [.int .i64 t.type] = some [.int .i64 t.type] := by
    unfold Program.keyLits
    rw [Tryz.underlying3]
    simp [h]
  have h2 : Tryz.prog.keyLits (d + 1) 9 [.string t.value] = some [.string t.value.data.toList] := by
    unfold Program.keyLits
    rw [Tryz.underlying9]
    simp [hx]
  unfold Program.keyLits
  rw [Tryz.underlying97]
  simp [cellsTg, cellsInt, cellsStr, h1, h2]
theorem tg_eq (a b : Tg) (ha : (Lit.int .i64 a.type).wf = true) (hb : (Lit.int .i64 b.type).wf = true) (hx : a.value.size ≤ 1000000) (hy : b.value.size ≤ 1000000) (W : World) :
    Sem.run Tryz.prog (Op.equalIn 10000 97 (.agg #[.int .i64 a.type, .string a.value]) (.agg #[.int .i64 b.type, .string b.value])) W = .ok (sameT a b) W := by
  have hk : Tryz.prog.keyTypeAt 2 97 = true := by kernel_rfl
  have hm : 1000000 ≤ maxLen := by decide
  have hf : ∀ t : Tg, (Value.agg #[.int .i64 t.type, .string t.value]).formed Tryz.prog 97 = true := fun t => by simp [Value.formed, Tryz.underlying97, cellsTg]
  obtain ⟨r, hr, hiff⟩ := run_equalIn_deep (P := Tryz.prog) 9998 2 97 hk W 2 2 (.agg #[.int .i64 a.type, .string a.value]) (.agg #[.int .i64 b.type, .string b.value]) _ _ (hf a) (hf b) (tg_lits 0 a ha (by omega)) (tg_lits 0 b hb (by omega))
  have hr' : (Op.equalIn 10000 97 (.agg #[.int .i64 a.type, .string a.value]) (.agg #[.int .i64 b.type, .string b.value])).run Tryz.prog W = .ok r W := hr
  have hd : sameT a b = r := by
    unfold sameT
    cases r with
    | true =>
      have h3 := hiff.1 rfl
      simp only [List.cons.injEq, Lit.int.injEq, Lit.string.injEq, true_and, and_true] at h3
      rw [h3.1, h3.2]
      simp
    | false =>
      rw [Bool.eq_false_iff]
      intro e
      simp only [Bool.and_eq_true, beq_iff_eq] at e
      have := hiff.2 (by rw [e.1, e.2])
      cases this
  rw [hd]
  exact hr'

/-- k tells whether y is in l. -/
def TellsT (k : Int) (l : List Tg) (y : Tg) : Prop := decide (0 ≤ k) = hasT l y
theorem hasT_yes {l : List Tg} {y x : Tg} {j : Nat} (h : l[j]? = some x) (hs : sameT y x = true) : hasT l y = true := by
  unfold hasT
  rw [List.any_eq_true]
  exact ⟨x, List.mem_of_getElem? h, hs⟩
theorem hasT_no {l : List Tg} {y : Tg} (h : ∀ x ∈ l.take l.length, sameT y x = false) : hasT l y = false := by
  rw [List.take_length] at h
  unfold hasT
  rw [Bool.eq_false_iff]
  intro e
  rw [List.any_eq_true] at e
  obtain ⟨x, hx, hs⟩ := e
  rw [h x hx] at hs
  cases hs

set_option maxHeartbeats 1000000 in
set_option maxRecDepth 100000 in
theorem indexT_any (v : Value) (l : List Tg) (y : Tg) (hl : FewT l) (hy : (Lit.int .i64 y.type).wf = true) (hys : y.value.size ≤ 1000000) (w : World) (hv : TagsAt w v l) : Calls Tryz.prog 170 #[v, .agg #[.int .i64 y.type, .string y.value]] w fun e w' => ∃ k : Int, e = .returned (.int .i64 k) ∧ TellsT k l y ∧ Kept (fun _ => False) w w' := by
  obtain ⟨p, cap, rfl⟩ := hv.slice
  obtain ⟨w1, hw1⟩ : ∃ w1, w1 = w.alloc (.cells #[.int .i64 y.type, .string y.value] 97) := ⟨_, rfl⟩
  have Hw1 := hid hw1
  have K1 : Hid (Kept (fun _ => False) w w1) := by rw [hw1]; exact (Kept.refl _ w).alloc _
  have B1 : w1.heap[w.heap.size]? = some (.cells #[.int .i64 y.type, .string y.value] 97 (0, 0)) := by rw [hw1]; exact heap_alloc_new w _
  have hlt1 : w.heap.size < w1.heap.size := (Array.getElem?_eq_some_iff.1 B1).1
  have HB : Hid (∀ W, Kept (fun _ => False) w1 W → W.cell? ⟨w.heap.size, 0, none⟩ = some (.int .i64 y.type) ∧ W.cell? ⟨w.heap.size, 1, none⟩ = some (.string y.value)) := fun W hW =>
    ⟨(cell_of_row W w.heap.size 0 _ _ _ ((hW.block _ hlt1 id).trans B1)).trans rfl, (cell_of_row W w.heap.size 1 _ _ _ ((hW.block _ hlt1 id).trans B1)).trans rfl⟩
  have Hat : Hid (∀ (j : Nat) (x : Tg), l[j]? = some x → ∀ W, Kept (fun _ => False) w1 W → ∃ g o, p = some ⟨g, o, none⟩ ∧ l.length ≤ cap ∧ W.cell? ⟨g, o + j * 2, none⟩ = some (.int .i64 x.type) ∧ W.cell? ⟨g, o + j * 2 + 1, none⟩ = some (.string x.value)) :=
    fun j x hj W hW => (hv.kept0 (K1.out.trans hW)).at hj
  have HE : Hid (∀ (j : Nat) (x : Tg), l[j]? = some x → ∀ W, Sem.run Tryz.prog (Op.equalIn 10000 97 (.agg #[.int .i64 y.type, .string y.value]) (.agg #[.int .i64 x.type, .string x.value])) W = .ok (sameT y x) W) := fun j x hj W =>
    tg_eq y x hy (hl.2 x (List.mem_of_getElem? hj)).2 hys (hl.2 x (List.mem_of_getElem? hj)).1 W
  have hl1 := hl.1
  clear hw1 B1 hl hv hlt1 hy hys
  go_enter Tryz.func170, Tryz.ntmps170
  go_wp2
  rw [← Hw1.out]
  go_loopw [8] (fun vi wr => ∃ j : Nat, j ≤ l.length ∧ vi = .int .i64 (j : Int) ∧ Hid (∀ x ∈ l.take j, sameT y x = false) ∧ Kept (fun _ => False) w1 wr) (fun vi _ => l.length - (intOf vi).toNat)
  case atStart => exact ⟨0, Nat.zero_le _, rfl, fun x hx => by simp at hx, Kept.refl _ _⟩
  case round =>
    obtain ⟨j, hj, rfl, HI, hkr⟩ := hrel
    by_cases hlt : j < l.length
    · have hltz : (j : Int) < (l.length : Int) := by omega
      obtain ⟨x, hx⟩ : ∃ x, l[j]? = some x := ⟨l[j], by simp [hlt]⟩
      obtain ⟨g, o, rfl, hcap, c0, c1⟩ := Hat.out j x hx wr hkr
      obtain ⟨b0, b1⟩ := HB.out wr hkr
      have hE := HE.out j x hx
      have HX := hid hx
      clear hx
      cases hs : sameT y x with
      | true =>
        have R : Hid (TellsT (j : Int) l y) := by
          show _ = _
          rw [hasT_yes HX.out hs]
          simp
        rw [hs] at hE
        clear hs HI
        go_wp2
        go_quiet (fail)
        go_wp2
        go_ret
        exact ⟨(j : Int), rfl, R.out, K1.out.trans (hkr.drewN _)⟩
      | false =>
        have R : Hid (∀ z ∈ l.take (j + 1), sameT y z = false) := fun z hz => by
          rw [List.take_add_one, HX.out] at hz
          rcases List.mem_append.1 hz with hz | hz
          · exact HI.out z hz
          · simp at hz
            rw [hz]
            exact hs
        rw [hs] at hE
        clear hs HI
        go_wp2
        go_quiet (fail)
        go_wp2
        exact ⟨⟨j + 1, hlt, by go_num, R.out, hkr.drewN _⟩, by simp [intOf]; omega⟩
    · obtain rfl : j = l.length := by omega
      have hltz : ¬ (l.length : Int) < (l.length : Int) := by omega
      have R : Hid (TellsT (-1) l y) := by
        show _ = _
        rw [hasT_no HI.out]
        rfl
      clear HI
      go_wp2
      go_ret
      exact ⟨-1, rfl, R.out, K1.out.trans hkr⟩

set_option maxRecDepth 100000 in
theorem containsT_any (v : Value) (l : List Tg) (y : Tg) (hl : FewT l) (hy : (Lit.int .i64 y.type).wf = true) (hys : y.value.size ≤ 1000000) (w : World) (hv : TagsAt w v l) : Calls Tryz.prog 126 #[v, .agg #[.int .i64 y.type, .string y.value]] w fun e w' => e = .returned (.bool (hasT l y)) ∧ Kept (fun _ => False) w w' := by
  obtain ⟨p, cap, rfl⟩ := hv.slice
  have HX := hid (fun W (hk : Kept (fun _ => False) w W) => indexT_any (.slice p l.length cap) l y hl hy hys W (hv.kept0 hk))
  obtain ⟨w1, hw1⟩ : ∃ w1, w1 = w.alloc (.cells #[.int .i64 y.type, .string y.value] 97) := ⟨_, rfl⟩
  have Hw1 := hid hw1
  have K1 : Hid (Kept (fun _ => False) w w1) := by rw [hw1]; exact (Kept.refl _ w).alloc _
  have B1 : w1.heap[w.heap.size]? = some (.cells #[.int .i64 y.type, .string y.value] 97 (0, 0)) := by rw [hw1]; exact heap_alloc_new w _
  have hlt1 : w.heap.size < w1.heap.size := (Array.getElem?_eq_some_iff.1 B1).1
  have c0 : w1.cell? ⟨w.heap.size, 0, none⟩ = some (.int .i64 y.type) := (cell_of_row w1 w.heap.size 0 _ _ _ B1).trans rfl
  have c1 : w1.cell? ⟨w.heap.size, 1, none⟩ = some (.string y.value) := (cell_of_row w1 w.heap.size 1 _ _ _ B1).trans rfl
  rw [hw1] at c0 c1
  clear hw1 B1 hl hv hlt1 hy hys
  go_enter Tryz.func126, Tryz.ntmps126
  go_wp2_with fail
  rw [← Hw1.out]
  refine (HX.out _ K1.out).mono ?_
  rintro e w' ⟨k, rfl, hk, hk2⟩
  go_wp2
  go_ret
  exact ⟨by rw [← show decide (0 ≤ k) = hasT l y from hk]; rfl, K1.out.trans hk2⟩
end Go.Proofs.YtffnppfoofifgaaGreat

namespace Go.Proofs.YtffnppfoofifgaaGreat
open Go.RowKit

set_option maxHeartbeats 1000000 in
set_option maxRecDepth 100000 in
theorem isMine_any (b : Nat) (av : Value) (h : Hs) (hg : GoodH h) (v : Value) (l : List Tg) (hl : FewT l) (w : World) (hH : HostIn w b av h) (hv : TagsAt w v l) :
    Calls Tryz.prog 37 #[.pointer (some ⟨b, 0, none⟩), v] w fun e w' => e = .returned (.bool (mineF h l)) ∧ Kept (fun _ => False) w w' := by
  obtain ⟨x0, x1, x2, x3, x4, x5, hx⟩ := six_cells hg.mac
  obtain ⟨y0, y1, y2, y3, y4, y5, hy⟩ := six_cells hg.conc
  obtain ⟨p, cap, rfl⟩ := hv.slice
  have HF := hid (find_any (.slice p l.length cap) l 259 w hv hl.1 hl.size)
  have HC := hid (fun W (hk : Kept (fun _ => False) w W) => (hH.kept0 hk).cells hx hy)
  unfold mineF sameB
  generalize (findF l 259).1 = U at *
  generalize (findF l 259).2 = n at *
  clear hg hH hx hy hl hv
  by_cases hu : h.uniq.toList = []
  · have hu' : h.uniq.toList.isEmpty = true := by rw [hu]; rfl
    rw [hu']
    clear hu
    go_enter Tryz.func37, Tryz.ntmps37
    go_wp2_with fail
    refine HF.out.mono ?_
    rintro e w1 ⟨rfl, hk1⟩
    have c7 := (HC.out w1 hk1).c7
    go_wp2
    go_ret
    exact ⟨rfl, hk1⟩
  · have hu' : h.uniq.toList.isEmpty = false := by simpa using hu
    rw [hu']
    clear hu
    go_enter Tryz.func37, Tryz.ntmps37
    go_wp2_with fail
    refine HF.out.mono ?_
    rintro e w1 ⟨rfl, hk1⟩
    have c7 := (HC.out w1 hk1).c7
    go_wp2
    go_ret
    exact ⟨by simp only [ByteArray.toList_eq]; rfl, hk1⟩

/-- What settle makes of a host. -/
def settleF (h : Hs) (n : Int) : Hs := if n = 0 then h.at 4 mac0 0 [] else h.at 3 h.conc n []

set_option maxHeartbeats 2000000 in
set_option maxRecDepth 100000 in
theorem settle_any {S : Nat → Prop} (b : Nat) (h : Hs) (hg : GoodH h) (n : Int) (w : World) (hA : HAt S w b h) :
    Calls Tryz.prog 38 #[.pointer (some ⟨b, 0, none⟩), .int .i64 n] w fun e w' => e = .returned (.tuple #[]) ∧ HNext S w w' b (settleF h n) := by
  obtain ⟨x0, x1, x2, x3, x4, x5, hx⟩ := six_cells hg.mac
  obtain ⟨y0, y1, y2, y3, y4, y5, hy⟩ := six_cells hg.conc
  obtain ⟨av, hH, hS⟩ := id hA
  obtain ⟨pa, ca, rfl⟩ := slice_of hH.own
  have hflat := hH.flat hx hy
  have hb0 : b < w.heap.size := hH.lt (Or.inl rfl)
  have hcl := fun j => cell_of_row w b j _ _ _ hflat
  have hfz := fun j => frozen_of_row w b j _ _ hflat
  have d10 := hcl 10
  have d11 := hcl 11
  have d12 := hcl 12
  have d13 := hcl 13
  have d14 := hcl 14
  have d15 := hcl 15
  have d16 := hcl 16
  have d17 := hcl 17
  have d18 := hcl 18
  have d19 := hcl 19
  have d20 := hcl 20
  simp only [List.getElem?_toArray, List.getElem?_cons_zero, List.getElem?_cons_succ] at d10 d11 d12 d13 d14 d15 d16 d17 d18 d19 d20
  unfold settleF
  by_cases hn : n = 0
  · rw [if_pos hn]
    subst hn
    have HX : Hid (HNext S w (setPhase w b (.int .i64 4) (.int .u8 0) (.int .u8 0) (.int .u8 0) (.int .u8 0) (.int .u8 0) (.int .u8 0) (.int .i64 0) (.slice none 0 0) (.int .i64 0) (.int .i64 0)) b (h.at 4 mac0 0 [])) :=
      next_nil hH hS (setPhase_kept (S := fun i => i = b) (Kept.refl _ _) (Or.inr (by rfl)) _ _ _ _ _ _ _ _ _ _ _) (by
        unfold hostList Hs.at
        simp only []
        rw [hx]
        exact setPhase_block hflat) rfl
    clear hcl hA hH hS hflat hx hy hg
    go_enter Tryz.func38, Tryz.ntmps38
    go_wp2
    refine bodyPost_ret (results_none rfl _ _ _) rfl ?_
    exact ⟨rfl, HX.out⟩
  · rw [if_neg hn]
    have HX : Hid (HNext S w (setPhase w b (.int .i64 3) (.int .u8 y0) (.int .u8 y1) (.int .u8 y2) (.int .u8 y3) (.int .u8 y4) (.int .u8 y5) (.int .i64 n) (.slice none 0 0) (.int .i64 0) (.int .i64 0)) b (h.at 3 h.conc n [])) :=
      next_nil hH hS (setPhase_kept (S := fun i => i = b) (Kept.refl _ _) (Or.inr (by rfl)) _ _ _ _ _ _ _ _ _ _ _) (by
        unfold hostList Hs.at
        simp only []
        rw [hx, hy]
        exact setPhase_block hflat) rfl
    have hz : (n == 0) = false := by simpa using hn
    clear hcl hA hH hS hflat hx hy hg hn
    go_enter Tryz.func38, Tryz.ntmps38
    go_wp2
    go_end0
    exact ⟨rfl, HX.out⟩
end Go.Proofs.YtffnppfoofifgaaGreat

namespace Go.Proofs.YtffnppfoofifgaaGreat
open Go.RowKit

theorem find_size {l : List Tg} {n : Nat} (h : ∀ x ∈ l, x.value.size ≤ n) (k : Int) : (findF l k).1.size ≤ n := by
  suffices H : ∀ (l : List Tg) (s : ByteArray × Nat), s.1.size ≤ n → (∀ x ∈ l, x.value.size ≤ n) → (l.foldl (findOn k) s).1.size ≤ n from H l (⟨#[]⟩, 0) (Nat.zero_le _) h
  intro l
  induction l with
  | nil => intro s hs _; exact hs
  | cons x l ih =>
    intro s hs hl
    refine ih _ ?_ (fun y hy => hl y (List.mem_cons_of_mem _ hy))
    unfold findOn
    split
    · simp only []
      split
      · exact hl x List.mem_cons_self
      · exact hs
    · exact hs
theorem FewT.find {l : List Tg} (h : FewT l) (k : Int) : (findF l k).1.size ≤ 1000000 := find_size (fun x hx => (h.2 x hx).1) k

set_option maxHeartbeats 4000000 in
set_option maxRecDepth 100000 in
theorem padr_any (b : Nat) (av : Value) (h : Hs) (hg : GoodH h) (conc : List UInt8) (hc6 : conc.length = 6) (v : Value) (l : List Tg) (hl : FewT l) (w : World) (hH : HostIn w b av h) (hv : TagsAt w v l) :
    Calls Tryz.prog 127 #[.pointer (some ⟨b, 0, none⟩), .agg (Lib.byteCells conc).toArray, v] w fun e w' => ∃ u, e = .returned u ∧ OwnE w' w.heap.size u (padrF h conc l) ∧ Kept (fun _ => False) w w' := by
  obtain ⟨x0, x1, x2, x3, x4, x5, hx⟩ := six_cells hg.mac
  obtain ⟨y0, y1, y2, y3, y4, y5, hy⟩ := six_cells hg.conc
  obtain ⟨z0, z1, z2, z3, z4, z5, hz⟩ := six_cells hc6
  obtain ⟨p, cap, rfl⟩ := hv.slice
  obtain ⟨w1, hw1⟩ : ∃ w1, w1 = w.alloc (.cells #[.int .u8 z0, .int .u8 z1, .int .u8 z2, .int .u8 z3, .int .u8 z4, .int .u8 z5] 23) := ⟨_, rfl⟩
  have Hw1 := hid hw1
  have K1 : Hid (Kept (fun _ => False) w w1) := by rw [hw1]; exact (Kept.refl _ w).alloc _
  have B1 : w1.heap[w.heap.size]? = some (.cells #[.int .u8 z0, .int .u8 z1, .int .u8 z2, .int .u8 z3, .int .u8 z4, .int .u8 z5] 23 (0, 0)) := by rw [hw1]; exact heap_alloc_new w _
  have hlt1 : w.heap.size < w1.heap.size := (Array.getElem?_eq_some_iff.1 B1).1
  have HC := hid (fun W (hk : Kept (fun _ => False) w1 W) => (hH.kept0 (K1.out.trans hk)).cells hx hy)
  have q0 : ∀ W, Kept (fun _ => False) w1 W → W.cell? ⟨w.heap.size, 0, none⟩ = some (.int .u8 z0) := fun W hW => (cell_of_row W w.heap.size 0 _ _ _ ((hW.block _ hlt1 id).trans B1)).trans rfl
  have q1 : ∀ W, Kept (fun _ => False) w1 W → W.cell? ⟨w.heap.size, 1, none⟩ = some (.int .u8 z1) := fun W hW => (cell_of_row W w.heap.size 1 _ _ _ ((hW.block _ hlt1 id).trans B1)).trans rfl
  have q2 : ∀ W, Kept (fun _ => False) w1 W → W.cell? ⟨w.heap.size, 2, none⟩ = some (.int .u8 z2) := fun W hW => (cell_of_row W w.heap.size 2 _ _ _ ((hW.block _ hlt1 id).trans B1)).trans rfl
  have q3 : ∀ W, Kept (fun _ => False) w1 W → W.cell? ⟨w.heap.size, 3, none⟩ = some (.int .u8 z3) := fun W hW => (cell_of_row W w.heap.size 3 _ _ _ ((hW.block _ hlt1 id).trans B1)).trans rfl
  have q4 : ∀ W, Kept (fun _ => False) w1 W → W.cell? ⟨w.heap.size, 4, none⟩ = some (.int .u8 z4) := fun W hW => (cell_of_row W w.heap.size 4 _ _ _ ((hW.block _ hlt1 id).trans B1)).trans rfl
  have q5 : ∀ W, Kept (fun _ => False) w1 W → W.cell? ⟨w.heap.size, 5, none⟩ = some (.int .u8 z5) := fun W hW => (cell_of_row W w.heap.size 5 _ _ _ ((hW.block _ hlt1 id).trans B1)).trans rfl
  have r0 := fun W (hW : Kept (fun _ => False) w1 W) => (HC.out W hW).c0
  have r1 := fun W (hW : Kept (fun _ => False) w1 W) => (HC.out W hW).c1
  have r2 := fun W (hW : Kept (fun _ => False) w1 W) => (HC.out W hW).c2
  have r3 := fun W (hW : Kept (fun _ => False) w1 W) => (HC.out W hW).c3
  have r4 := fun W (hW : Kept (fun _ => False) w1 W) => (HC.out W hW).c4
  have r5 := fun W (hW : Kept (fun _ => False) w1 W) => (HC.out W hW).c5
  have HWA := hid (wanted_any b h.service w1 (HC.out w1 (Kept.refl _ _)).c6)
  have HMA := hid (fun W (hk : Kept (fun _ => False) w1 W) => mark_any b h.uniq W (HC.out W hk).c7)
  have HFI := hid (fun W (hk : Kept (fun _ => False) w W) => find_any (.slice p l.length cap) l 260 W (hv.kept0 hk) hl.1 hl.size)
  have hfs := hl.find 260
  have hml := markT_few h.uniq hg.uniq
  have hsv := hg.service
  have HSD := hid (fun (v8 : Value) W (hv8 : TagsAt W v8 (padrTags h l)) => disc_any conc h.mac hc6 hg.mac 25 0 v8 (padrTags h l) W hv8 (fun x hx => by
    unfold padrTags at hx
    simp only [List.mem_append, List.mem_cons, List.not_mem_nil, or_false] at hx
    rcases hx with (rfl | hx) | hx
    · show h.service.size ≤ _
      omega
    · split at hx
      · simp at hx
      · simp only [List.mem_cons, List.not_mem_nil, or_false] at hx
        rw [hx]
        show (findF l 260).1.size ≤ _
        omega
    · exact Nat.le_trans (hml.2 x hx) (by decide)))
  change Hid (∀ (v8 : Value) W, TagsAt W v8 (padrTags h l) → Calls Tryz.prog 28 _ W fun e w' => ∃ u, e = .returned u ∧ OwnE w' W.heap.size u (padrF h conc l) ∧ Kept (fun _ => False) W w') at HSD
  rw [hz, hx] at HSD
  rw [hz]
  have HT0 : Hid ((findF l 260).2 = 0 → padrTags h l = [wantedF h] ++ markT h.uniq) := fun e => by unfold padrTags; rw [if_pos e, List.append_nil]; rfl
  have HT1 : Hid (¬ (findF l 260).2 = 0 → padrTags h l = ([wantedF h] ++ [⟨260, (findF l 260).1⟩]) ++ markT h.uniq) := fun e => by unfold padrTags; rw [if_neg e]; rfl
  have hm1 := hml.1
  clear hH hx hy hz hg B1 hlt1 hw1 hv hl hfs hml hsv HC hc6
  generalize padrF h conc l = PD at *
  generalize padrTags h l = TT at *
  generalize (findF l 260).1 = ck at *
  generalize (findF l 260).2 = n at *
  go_enter Tryz.func127, Tryz.ntmps127
  go_wp2_with fail
  rw [← Hw1.out]
  refine HWA.out.mono ?_
  rintro e w2 ⟨rfl, hk2⟩
  obtain ⟨w3, hw3⟩ : ∃ w3, w3 = w2.alloc (.cells #[.int .i64 257, .string h.service] 97) := ⟨_, rfl⟩
  have Hw3 := hid hw3
  have K3 : Hid (Kept (fun _ => False) w1 w3) := by rw [hw3]; exact hk2.alloc _
  have O3 : Hid (OwnT w3 w1.heap.size (.slice (some ⟨w2.heap.size, 0, none⟩) 1 1) [wantedF h]) := by rw [hw3]; exact own_one w2 w1.heap.size hk2.size 257 h.service
  clear hw3 HWA hk2
  go_wp2_with fail
  rw [← Hw3.out]
  refine (HFI.out _ (K1.out.trans K3.out)).mono ?_
  rintro e w4 ⟨rfl, hk4⟩
  have K4 : Hid (Kept (fun _ => False) w1 w4) := K3.out.trans hk4
  have O4 := hid (OwnT.kept O3.out hk4)
  clear hk4 K3 O3 HFI
  by_cases hn : n = 0
  · have hT := HT0.out hn
    subst hn
    subst hT
    have HLN : Hid (([wantedF h] : List Tg).length + (markT h.uniq).length ≤ 1000000) := by show 1 + _ ≤ _; omega
    go_wp2_with fail
    refine wp_region_held_drew (S := Kept (fun _ => False) w1) (by kernel_rfl) (K4.out.drew) (fun hSd => ?_)
    refine Tks.out (l := [(0, some none), (1, some none), (2, some none), (3, some none), (4, some none), (5, some none), (6, some none)]) ?_
    iterate 7
     refine tkT (v := ?_) rfl (by kernel_rfl) (by kernel_rfl) (by kernel_rfl) (fun _ _ _ h => h) (Or.inl ⟨by kernel_rfl, fun W hSW => by go_simp; try with_reducible rfl⟩) (by assumption) ?_
     try simp only [List.getElem_toArray, List.getElem_cons_succ, List.getElem_cons_zero]
     try go_frame
    refine tkE ?_
    refine wpAnyH_ready (rs := [7]) (by kernel_rfl) (by simp) ?_
    refine AllReadyH.cons rfl (fun K hK => ?_) AllReadyH.nil
    go_simp
    refine (HMA.out _ K4.out.drew).mono ?_
    rintro e w7 ⟨u7, rfl, hu7, hk7⟩
    have hK7 : Kept (fun _ => False) w1 w7 := K4.out.drew.trans hk7
    obtain ⟨v8, w8, hrun8, hown8, hk8⟩ := append_run hK7 (OwnT.kept O4.out ((Kept.refl _ w4).drew.trans hk7)) hu7.tags HLN.out
    obtain ⟨p7, c7, rfl⟩ := slice_of hu7
    obtain ⟨p8, c8, rfl⟩ := slice_of hown8
    refine hK.out _ _ (hK7) (fun _ => ?_)
    clear hK K
    try simp only [List.getElem_toArray, List.getElem_cons_succ, List.getElem_cons_zero]
    try go_frame
    refine wpAnyH_ready (rs := [8]) (by kernel_rfl) (by simp) ?_
    refine AllReadyH.cons rfl (fun K hK => ?_) AllReadyH.nil
    refine step_append_run rfl (.tmp 30) (.tmp 32) 88 rfl (.slice (some ⟨w2.heap.size, 0, none⟩) 1 1) _ rfl rfl (hrun8 _) ?_
    refine hK.out _ _ (hk8) (fun _ => ?_)
    clear hK K
    try simp only [List.getElem_toArray, List.getElem_cons_succ, List.getElem_cons_zero]
    try go_frame
    refine wpAnyH_ready (rs := [9]) (by kernel_rfl) (by simp) ?_
    refine AllReadyH.cons rfl (fun K hK => ?_) AllReadyH.nil
    go_simp
    refine (HSD.out _ _ hown8.tags).mono ?_
    rintro e w9 ⟨u9, rfl, hu9, hk9⟩
    have hK9 : Kept (fun _ => False) w1 w9 := hk8.trans hk9
    refine hK.out _ _ (hK9) (fun _ => ?_)
    clear hK K
    try simp only [List.getElem_toArray, List.getElem_cons_succ, List.getElem_cons_zero]
    try go_frame
    refine wpAnyH_take (i := 10) (v := ?_) rfl (by kernel_rfl) (by kernel_rfl) (by kernel_rfl) (fun _ _ _ h => h) (Or.inl ⟨by kernel_rfl, fun W hSW => by go_simp; try with_reducible rfl⟩) (by assumption) ?_
    try simp only [List.getElem_toArray, List.getElem_cons_succ, List.getElem_cons_zero]
    try go_frame
    refine wpAnyH_done (by kernel_rfl) ?_ _
    go_wp2
    go_ret
    exact ⟨u9, rfl, hu9.mono (Nat.le_trans K1.out.size hk8.size), K1.out.trans hK9⟩
  · have hnz : (n : Int) > 0 := by omega
    have hT := HT1.out hn
    subst hT
    clear hn
    have hap := append_run (u := .slice (some ⟨w4.heap.size, 0, none⟩) 1 1) (b := [⟨260, ck⟩]) (K4.out.alloc (.cells #[.int .i64 260, .string ck] 97)) (OwnT.kept O4.out ((Kept.refl _ _).alloc (.cells #[.int .i64 260, .string ck] 97))) (own_one w4 0 (Nat.zero_le _) 260 ck).tags (by show (1 : Nat) + 1 ≤ 1000000; omega)
    obtain ⟨v6, w6, hrun6, hown6, hk6⟩ := hap
    obtain ⟨p6, c6, hv6⟩ := slice_of hown6
    obtain rfl : v6 = .slice p6 2 c6 := hv6
    have K6 : Hid (Kept (fun _ => False) w1 w6) := hk6
    have O6 := hid hown6
    have HLN : Hid (([wantedF h] ++ [⟨260, ck⟩] : List Tg).length + (markT h.uniq).length ≤ 1000000) := by show 2 + _ ≤ _; omega
    clear hown6
    go_wp2_with (at_builtin; refine Lib.wpList_append_run _ rfl _ _ 88 88 rfl _ _ rfl rfl _ _ (hrun6 _) ?_)
    clear hrun6
    refine wp_region_held_drew (S := Kept (fun _ => False) w1) (by kernel_rfl) (K6.out.drew) (fun hSd => ?_)
    refine Tks.out (l := [(0, some none), (1, some none), (2, some none), (3, some none), (4, some none), (5, some none), (6, some none)]) ?_
    iterate 7
     refine tkT (v := ?_) rfl (by kernel_rfl) (by kernel_rfl) (by kernel_rfl) (fun _ _ _ h => h) (Or.inl ⟨by kernel_rfl, fun W hSW => by go_simp; try with_reducible rfl⟩) (by assumption) ?_
     try simp only [List.getElem_toArray, List.getElem_cons_succ, List.getElem_cons_zero]
     try go_frame
    refine tkE ?_
    refine wpAnyH_ready (rs := [7]) (by kernel_rfl) (by simp) ?_
    refine AllReadyH.cons rfl (fun K hK => ?_) AllReadyH.nil
    go_simp
    refine (HMA.out _ K6.out.drew).mono ?_
    rintro e w7 ⟨u7, rfl, hu7, hk7⟩
    have hK7 : Kept (fun _ => False) w1 w7 := K6.out.drew.trans hk7
    obtain ⟨v8, w8, hrun8, hown8, hk8⟩ := append_run hK7 (OwnT.kept O6.out ((Kept.refl _ w6).drew.trans hk7)) hu7.tags HLN.out
    obtain ⟨p7, c7, rfl⟩ := slice_of hu7
    obtain ⟨p8, c8, rfl⟩ := slice_of hown8
    refine hK.out _ _ (hK7) (fun _ => ?_)
    clear hK K
    try simp only [List.getElem_toArray, List.getElem_cons_succ, List.getElem_cons_zero]
    try go_frame
    refine wpAnyH_ready (rs := [8]) (by kernel_rfl) (by simp) ?_
    refine AllReadyH.cons rfl (fun K hK => ?_) AllReadyH.nil
    refine step_append_run rfl (.tmp 30) (.tmp 32) 88 rfl (.slice p6 2 c6) _ rfl rfl (hrun8 _) ?_
    refine hK.out _ _ (hk8) (fun _ => ?_)
    clear hK K
    try simp only [List.getElem_toArray, List.getElem_cons_succ, List.getElem_cons_zero]
    try go_frame
    refine wpAnyH_ready (rs := [9]) (by kernel_rfl) (by simp) ?_
    refine AllReadyH.cons rfl (fun K hK => ?_) AllReadyH.nil
    go_simp
    refine (HSD.out _ _ hown8.tags).mono ?_
    rintro e w9 ⟨u9, rfl, hu9, hk9⟩
    have hK9 : Kept (fun _ => False) w1 w9 := hk8.trans hk9
    refine hK.out _ _ (hK9) (fun _ => ?_)
    clear hK K
    try simp only [List.getElem_toArray, List.getElem_cons_succ, List.getElem_cons_zero]
    try go_frame
    refine wpAnyH_take (i := 10) (v := ?_) rfl (by kernel_rfl) (by kernel_rfl) (by kernel_rfl) (fun _ _ _ h => h) (Or.inl ⟨by kernel_rfl, fun W hSW => by go_simp; try with_reducible rfl⟩) (by assumption) ?_
    try simp only [List.getElem_toArray, List.getElem_cons_succ, List.getElem_cons_zero]
    try go_frame
    refine wpAnyH_done (by kernel_rfl) ?_ _
    go_wp2
    go_ret
    exact ⟨u9, rfl, hu9.mono (Nat.le_trans K1.out.size hk8.size), K1.out.trans hK9⟩
end Go.Proofs.YtffnppfoofifgaaGreat

namespace Go.Proofs.YtffnppfoofifgaaGreat
open Go.RowKit

/-- What choose answers and makes of a host. -/
def chooseF (h : Hs) (conc : List UInt8) (l : List Tg) : List Fr × Hs := if hasT l (wantedF h) = true ∧ mineF h l = true then (padrF h conc l, h.at 2 conc 0 (padrF h conc l)) else ([], h)

/-- The start is drawn back. -/
theorem HOut.back {S : Nat → Prop} {w w' w'' : World} {b : Nat} {c : Hs} {v : Value} {l : List Fr} (h : HOut S w' w'' b c v l) (hk : Kept (fun _ => False) w w') : HOut S w w'' b c v l := by
  obtain ⟨h0, S1, h1, h2, h3, h4⟩ := h
  exact ⟨h0.mono hk.size, S1, h1, fun i hi => (h2 i hi).imp id (fun h => Nat.le_trans hk.size h), (hk.mono (T := S) (fun _ _ h => h.elim)).trans h3, h4⟩

set_option maxHeartbeats 4000000 in
set_option maxRecDepth 100000 in
theorem choose_any {S : Nat → Prop} (b : Nat) (h : Hs) (hg : GoodH h) (conc : List UInt8) (hc6 : conc.length = 6) (v : Value) (l : List Tg) (hl : FewT l) (w0 w : World) (hk0 : Kept (fun _ => False) w0 w) (hA : HAt S w0 b h) (hv : TagsAt w v l) :
    Calls Tryz.prog 36 #[.pointer (some ⟨b, 0, none⟩), .agg (Lib.byteCells conc).toArray, v] w fun e w' => ∃ u, e = .returned u ∧ HOut S w0 w' b (chooseF h conc l).2 u (chooseF h conc l).1 := by
  obtain ⟨x0, x1, x2, x3, x4, x5, hx⟩ := six_cells hg.mac
  obtain ⟨y0, y1, y2, y3, y4, y5, hy⟩ := six_cells hg.conc
  obtain ⟨z0, z1, z2, z3, z4, z5, hz⟩ := six_cells hc6
  obtain ⟨p, cap, rfl⟩ := hv.slice
  obtain ⟨av, hH, hS⟩ := id hA
  obtain ⟨w1, hw1⟩ : ∃ w1, w1 = w.alloc (.cells #[.int .u8 z0, .int .u8 z1, .int .u8 z2, .int .u8 z3, .int .u8 z4, .int .u8 z5] 23) := ⟨_, rfl⟩
  have Hw1 := hid hw1
  have K1 : Hid (Kept (fun _ => False) w0 w1) := by rw [hw1]; exact hk0.alloc _
  have K01 : Hid (Kept (fun _ => False) w w1) := by rw [hw1]; exact (Kept.refl _ w).alloc _
  have B1 : w1.heap[w.heap.size]? = some (.cells #[.int .u8 z0, .int .u8 z1, .int .u8 z2, .int .u8 z3, .int .u8 z4, .int .u8 z5] 23 (0, 0)) := by rw [hw1]; exact heap_alloc_new w _
  have hlt1 : w.heap.size < w1.heap.size := (Array.getElem?_eq_some_iff.1 B1).1
  have hnS : ¬ S w.heap.size := fun e => by
    have h1 := hA.lt e
    have h2 := hk0.size
    omega
  have HH := hid (fun W (hk : Kept (fun _ => False) w1 W) => hH.kept0 (K1.out.trans hk))
  have q0 : ∀ W, Kept S w1 W → W.cell? ⟨w.heap.size, 0, none⟩ = some (.int .u8 z0) := fun W hW => (cell_of_row W w.heap.size 0 _ _ _ ((hW.block _ hlt1 hnS).trans B1)).trans rfl
  have q1 : ∀ W, Kept S w1 W → W.cell? ⟨w.heap.size, 1, none⟩ = some (.int .u8 z1) := fun W hW => (cell_of_row W w.heap.size 1 _ _ _ ((hW.block _ hlt1 hnS).trans B1)).trans rfl
  have q2 : ∀ W, Kept S w1 W → W.cell? ⟨w.heap.size, 2, none⟩ = some (.int .u8 z2) := fun W hW => (cell_of_row W w.heap.size 2 _ _ _ ((hW.block _ hlt1 hnS).trans B1)).trans rfl
  have q3 : ∀ W, Kept S w1 W → W.cell? ⟨w.heap.size, 3, none⟩ = some (.int .u8 z3) := fun W hW => (cell_of_row W w.heap.size 3 _ _ _ ((hW.block _ hlt1 hnS).trans B1)).trans rfl
  have q4 : ∀ W, Kept S w1 W → W.cell? ⟨w.heap.size, 4, none⟩ = some (.int .u8 z4) := fun W hW => (cell_of_row W w.heap.size 4 _ _ _ ((hW.block _ hlt1 hnS).trans B1)).trans rfl
  have q5 : ∀ W, Kept S w1 W → W.cell? ⟨w.heap.size, 5, none⟩ = some (.int .u8 z5) := fun W hW => (cell_of_row W w.heap.size 5 _ _ _ ((hW.block _ hlt1 hnS).trans B1)).trans rfl
  have HWA := hid (wanted_any b h.service w1 ((HH.out w1 (Kept.refl _ _)).cells hx hy).c6)
  have HV := hid (fun W (hk : Kept (fun _ => False) w1 W) => hv.kept0 (K01.out.trans hk))
  have hsv := hg.service
  have HCO := hid (fun W (hk : Kept (fun _ => False) w1 W) => containsT_any (.slice p l.length cap) l (wantedF h) hl (by show (Lit.int .i64 257).wf = true; decide) (by show h.service.size ≤ _; omega) W (HV.out W hk))
  change Hid (∀ W, Kept (fun _ => False) w1 W → Calls Tryz.prog 126 #[.slice p l.length cap, .agg #[.int .i64 257, .string h.service]] W fun e w' => e = .returned (.bool (hasT l (wantedF h))) ∧ Kept (fun _ => False) W w') at HCO
  have HMI := hid (fun W (hk : Kept (fun _ => False) w1 W) => isMine_any b av h hg (.slice p l.length cap) l hl W (HH.out W hk) (HV.out W hk))
  have HPR := hid (fun W (hk : Kept (fun _ => False) w1 W) => padr_any b av h hg conc hc6 (.slice p l.length cap) l hl W (HH.out W hk) (HV.out W hk))
  rw [hz] at HPR
  have HA := hid (fun (p : Option Addr) (c : Nat) (V W : World) (hV : Kept (fun _ => False) w0 V) (hk : Kept (fun _ => False) V W) (hu : OwnE W V.heap.size (.slice p (padrF h conc l).length c) (padrF h conc l)) => ask_any b h hg 2 conc hc6 0 (.slice p (padrF h conc l).length c) (padrF h conc l) (etDisc_len _ _ _ _ _) V W hk (hA.kept0 hV) hu)
  unfold phaseV at HA
  rw [hz] at HA
  change Hid (∀ (p : Option Addr) (c : Nat) (V W : World), Kept (fun _ => False) w0 V → Kept (fun _ => False) V W → OwnE W V.heap.size (.slice p (padrF h conc l).length c) (padrF h conc l) → Calls Tryz.prog 25 #[.pointer (some ⟨b, 0, none⟩), .agg #[.int .i64 2, .int .u8 z0, .int .u8 z1, .int .u8 z2, .int .u8 z3, .int .u8 z4, .int .u8 z5, .int .i64 0, .slice p (padrF h conc l).length c, .int .i64 0, .int .i64 0]] W fun e w' => ∃ v, e = .returned v ∧ HOut S V w' b (h.at 2 conc 0 (padrF h conc l)) v (padrF h conc l)) at HA
  have HNX := hid (fun W (hk : Kept (fun _ => False) w1 W) => HOut.nil (hA.next.still (K1.out.trans hk)))
  have HSM : Hid (∀ W, Kept (fun _ => False) w1 W → Kept S w1 W) := fun W hk => hk.mono (fun _ _ h => h.elim)
  rw [hz]
  unfold chooseF
  cases hc : hasT l (wantedF h) with
  | false =>
    rw [if_neg (by simp)]
    rw [hc] at HCO
    clear hw1 hA hH hS hx hy hz hg hc6 hv hl hk0 B1 hlt1 hnS hsv hc HPR HA HMI
    go_enter Tryz.func36, Tryz.ntmps36
    go_wp2_with fail
    rw [← Hw1.out]
    refine HWA.out.mono ?_
    rintro e w2 ⟨rfl, hk2⟩
    go_wp2_with fail
    refine (HCO.out _ hk2).mono ?_
    rintro e w3 ⟨rfl, hk3⟩
    go_wp2
    go_ret
    exact ⟨_, rfl, HNX.out _ (hk2.trans hk3)⟩
  | true =>
    cases hm : mineF h l with
    | false =>
      rw [if_neg (by simp)]
      rw [hc] at HCO
      rw [hm] at HMI
      clear hw1 hA hH hS hx hy hz hg hc6 hv hl hk0 B1 hlt1 hnS hsv hc hm HPR HA
      go_enter Tryz.func36, Tryz.ntmps36
      go_wp2_with fail
      rw [← Hw1.out]
      refine HWA.out.mono ?_
      rintro e w2 ⟨rfl, hk2⟩
      go_wp2_with fail
      refine (HCO.out _ hk2).mono ?_
      rintro e w3 ⟨rfl, hk3⟩
      go_wp2_with fail
      refine (HMI.out _ (hk2.trans hk3)).mono ?_
      rintro e w4 ⟨rfl, hk4⟩
      go_wp2
      go_ret
      exact ⟨_, rfl, HNX.out _ ((hk2.trans hk3).trans hk4)⟩
    | true =>
      rw [if_pos ⟨rfl, rfl⟩]
      rw [hc] at HCO
      rw [hm] at HMI
      have hsz := hk0.size
      have hsz1 := K01.out.size
      clear hw1 hA hH hS hx hy hz hg hc6 hv hl hk0 B1 hlt1 hnS hsv hc hm
      go_enter Tryz.func36, Tryz.ntmps36
      go_wp2_with fail
      rw [← Hw1.out]
      refine HWA.out.mono ?_
      rintro e w2 ⟨rfl, hk2⟩
      go_wp2_with fail
      refine (HCO.out _ hk2).mono ?_
      rintro e w3 ⟨rfl, hk3⟩
      go_wp2_with fail
      refine (HMI.out _ (hk2.trans hk3)).mono ?_
      rintro e w4 ⟨rfl, hk4⟩
      have K4 : Kept (fun _ => False) w1 w4 := (hk2.trans hk3).trans hk4
      clear hk2 hk3 hk4
      go_wp2_with fail
      refine wp_region_held_drew (S := Kept S w1) (by kernel_rfl) ((HSM.out _ K4).drew) (fun hSd => ?_)
      refine Tks.out (l := [(0, some none), (1, some none), (2, some none), (3, some none), (4, some none)]) ?_
      iterate 5
       refine tkT (v := ?_) rfl (by kernel_rfl) (by kernel_rfl) (by kernel_rfl) (fun _ _ _ h => h) (Or.inl ⟨by kernel_rfl, fun W hSW => by go_simp; try with_reducible rfl⟩) (by assumption) ?_
       try simp only [List.getElem_toArray, List.getElem_cons_succ, List.getElem_cons_zero]
       try go_frame
      refine tkE ?_
      refine wpAnyH_ready (rs := [5]) (by kernel_rfl) (by simp) ?_
      refine AllReadyH.cons rfl (fun K hK => ?_) AllReadyH.nil
      go_simp
      refine (HPR.out _ K4.drew).mono ?_
      rintro e w5 ⟨u5, rfl, hu5, hk5⟩
      have K5 : Kept (fun _ => False) w1 w5 := K4.drew.trans hk5
      obtain ⟨p5, c5, rfl⟩ := slice_of hu5
      refine hK.out _ _ (HSM.out _ K5) (fun _ => ?_)
      clear hK K
      try simp only [List.getElem_toArray, List.getElem_cons_succ, List.getElem_cons_zero]
      try go_frame
      refine wpAnyH_take (i := 6) (v := ?_) rfl (by kernel_rfl) (by kernel_rfl) (by kernel_rfl) (fun _ _ _ h => h) (Or.inl ⟨by kernel_rfl, fun W hSW => by go_simp; try with_reducible rfl⟩) (by assumption) ?_
      try simp only [List.getElem_toArray, List.getElem_cons_succ, List.getElem_cons_zero]
      try go_frame
      refine wpAnyH_ready (rs := [7]) (by kernel_rfl) (by simp) ?_
      refine AllReadyH.cons rfl (fun K hK => ?_) AllReadyH.nil
      go_simp
      refine (HA.out p5 c5 w4.drew w5 (K1.out.trans K4.drew) hk5 hu5).mono ?_
      rintro e w6 ⟨u6, rfl, hn6⟩
      refine hK.out _ _ ((HSM.out _ K4.drew).trans hn6.next.kept) (fun _ => ?_)
      clear hK K
      try simp only [List.getElem_toArray, List.getElem_cons_succ, List.getElem_cons_zero]
      try go_frame
      refine wpAnyH_take (i := 8) (v := ?_) rfl (by kernel_rfl) (by kernel_rfl) (by kernel_rfl) (fun _ _ _ h => h) (Or.inl ⟨by kernel_rfl, fun W hSW => by go_simp; try with_reducible rfl⟩) (by assumption) ?_
      try simp only [List.getElem_toArray, List.getElem_cons_succ, List.getElem_cons_zero]
      try go_frame
      refine wpAnyH_done (by kernel_rfl) ?_ _
      go_wp2
      go_ret
      exact ⟨u6, rfl, hn6.back (K1.out.trans K4.drew)⟩
end Go.Proofs.YtffnppfoofifgaaGreat
