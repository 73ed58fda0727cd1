/- The contracts of neg.New and lcp.New where they refuse. · How a list of ints among the arguments is read. · How a config among the arguments is read. -/
import Derived.Test.YtklapjfljffahaaGreatLpIn
import Derived.Test.YtklapjfljffahaaGreatAuDo
import Derived.ChangeSlices
import Derived.ProofKit
import Derived.OpenShut
import Derived.SizedLaws
import Derived.Lib.SmallJoins
namespace Go.Proofs.YtklapjfljffahaaGreat
open Go.RowKit

structure GoodS (cf tm fails wait : Int) : Prop where
  cf : 1 ≤ cf ∧ cf ≤ 20
  tm : 1 ≤ tm ∧ tm ≤ 20
  fails : 0 ≤ fails ∧ fails ≤ 20
  wait : 1 ≤ wait ∧ wait ≤ 100

set_option maxHeartbeats 4000000 in
set_option maxRecDepth 100000 in
theorem ngNew_bad (p0 p1 p2 p3 : Option Addr) (n0 n1 n2 n3 c0 c1 c2 c3 : Nat) (cf tm fails wait : Int) (hb : ¬ GoodS cf tm fails wait) (w : World) :
    Calls Tryz.prog 45 #[setupV (.slice p0 n0 c0) (.slice p1 n1 c1) (.slice p2 n2 c2) (.slice p3 n3 c3) cf tm fails wait] w fun e w' => e = .returned (.tuple #[.pointer none, .int .i64 1]) ∧ Kept (fun _ => False) w w' := by
  unfold setupV
  have hk0 := (Kept.refl (fun _ => False) w).alloc (.cells #[.slice p0 n0 c0, .slice p1 n1 c1, .slice p2 n2 c2, .slice p3 n3 c3, .int .i64 cf, .int .i64 tm, .int .i64 fails, .int .i64 wait] 76)
  have c := cells8_new w 76 (.slice p0 n0 c0) (.slice p1 n1 c1) (.slice p2 n2 c2) (.slice p3 n3 c3) (.int .i64 cf) (.int .i64 tm) (.int .i64 fails) (.int .i64 wait)
  have s4 := c 4 _ rfl
  have s5 := c 5 _ rfl
  have s6 := c 6 _ rfl
  have s7 := c 7 _ rfl
  have HC := hid c
  have HK0 := hid hk0
  generalize hA : w.alloc (.cells #[.slice p0 n0 c0, .slice p1 n1 c1, .slice p2 n2 c2, .slice p3 n3 c3, .int .i64 cf, .int .i64 tm, .int .i64 fails, .int .i64 wait] 76) = A at *
  have HA := hid hA
  clear hA hk0 c
  by_cases hq : 1 ≤ cf ∧ cf ≤ 20 ∧ 1 ≤ tm ∧ tm ≤ 20
  · have HN := hid (new_any cf tm ⟨hq.1, hq.2.1⟩ hq.2.2 A)
    have hcase : fails < 0 ∨ (¬ fails < 0 ∧ 20 < fails) ∨ (¬ fails < 0 ∧ ¬ 20 < fails ∧ wait < 1) ∨ (¬ fails < 0 ∧ ¬ 20 < fails ∧ ¬ wait < 1 ∧ 100 < wait) := by
      have h1 : ¬ ((0 ≤ fails ∧ fails ≤ 20) ∧ (1 ≤ wait ∧ wait ≤ 100)) := fun h => hb ⟨⟨hq.1, hq.2.1⟩, hq.2.2, h.1, h.2⟩
      omega
    clear hq hb
    rcases hcase with h1 | ⟨h1, h2⟩ | ⟨h1, h2, h3⟩ | ⟨h1, h2, h3, h4⟩
    all_goals
      go_enter Tryz.func45, Tryz.ntmps45
      go_upto_region 1 with fail
      rw [HA.out]
      go_wp2_with fail
      refine HN.out.mono ?_
      rintro e w1 ⟨rfl, _, hk1⟩
      have t6 := (hk1.cell (p := ⟨w.heap.size, 6, none⟩) (lt_of_cell s6) id).trans s6
      have t7 := (hk1.cell (p := ⟨w.heap.size, 7, none⟩) (lt_of_cell s7) id).trans s7
      have K1 := hid (HK0.out.trans hk1)
      clear hk1 s4 s5 s6 s7
      go_wp2
      go_ret2
      exact ⟨rfl, K1.out⟩
  · have HN := hid (new_bad cf tm hq A)
    clear hq hb
    go_enter Tryz.func45, Tryz.ntmps45
    go_upto_region 1 with fail
    rw [HA.out]
    go_wp2_with (first | (go_at_call 74; refine HN.out.mono ?_; rintro e w' ⟨rfl, hw⟩; rw [hw]; clear hw w'))
    go_ret2
    exact ⟨rfl, HK0.out⟩

set_option maxHeartbeats 4000000 in
set_option maxRecDepth 100000 in
theorem lcpNew_bad1 (c : Cf) (gc : ¬ GoodC c) (w : World) : Calls Tryz.prog 19 #[cfV c, .pointer none] w fun e w' => e = .returned (.tuple #[.pointer none, .int .i64 1]) ∧ Kept (fun _ => False) w w' := by
  have hk0 := (Kept.refl (fun _ => False) w).alloc (.cells #[.int .i64 c.mru, .int .i64 c.auth, .int .i64 c.magic, .int .i64 c.echo, .int .i64 c.cf, .int .i64 c.tm, .int .i64 c.fails, .int .i64 c.wait] 43)
  have HC := hid (CfgAt.new w c)
  have HG := hid (fun W => isGood_no c gc W)
  unfold cfV at *
  generalize hA : w.alloc (.cells #[.int .i64 c.mru, .int .i64 c.auth, .int .i64 c.magic, .int .i64 c.echo, .int .i64 c.cf, .int .i64 c.tm, .int .i64 c.fails, .int .i64 c.wait] 43) = A at *
  have HA := hid hA
  have HK0 := hid hk0
  clear hA hk0 gc
  have x0 := HC.out 0 _ rfl
  have x1 := HC.out 1 _ rfl
  have x2 := HC.out 2 _ rfl
  have x3 := HC.out 3 _ rfl
  have x4 := HC.out 4 _ rfl
  have x5 := HC.out 5 _ rfl
  have x6 := HC.out 6 _ rfl
  have x7 := HC.out 7 _ rfl
  go_enter Tryz.func19, Tryz.ntmps19
  go_upto_region 1 with fail
  rw [HA.out]
  go_wp2_with fail
  refine (HG.out _).mono ?_
  rintro e w1 ⟨rfl, hk1⟩
  have HK1 := hid (HK0.out.trans hk1)
  clear hk1 x0 x1 x2 x3 x4 x5 x6 x7
  go_wp2
  go_ret2
  exact ⟨rfl, HK1.out⟩

set_option maxHeartbeats 8000000 in
set_option maxRecDepth 100000 in
theorem lcpNew_bad2 (c : Cf) (gc : GoodC c) (hbad : ¬ GoodS c.cf c.tm c.fails c.wait) (w : World) :
    Calls Tryz.prog 19 #[cfV c, .pointer none] w fun e w' => e = .returned (.tuple #[.pointer none, .int .i64 1]) ∧ Kept (fun _ => False) w w' := by
  have hk0 := (Kept.refl (fun _ => False) w).alloc (.cells #[.int .i64 c.mru, .int .i64 c.auth, .int .i64 c.magic, .int .i64 c.echo, .int .i64 c.cf, .int .i64 c.tm, .int .i64 c.fails, .int .i64 c.wait] 43)
  have HC := hid (CfgAt.new w c)
  have HG := hid (fun W => isGood_yes c gc W)
  have HOp := hid (fun W => options_any c W)
  have HOw := hid (fun W => ownRules_any W)
  have HNw := hid (fun (W : World) (p0 p1 p3 : Option Addr) (n0 n1 n3 c0 c1 c3 : Nat) => ngNew_bad p0 p1 none p3 n0 n1 0 n3 c0 c1 0 c3 c.cf c.tm c.fails c.wait hbad W)
  unfold cfV setupV at *
  generalize hA : w.alloc (.cells #[.int .i64 c.mru, .int .i64 c.auth, .int .i64 c.magic, .int .i64 c.echo, .int .i64 c.cf, .int .i64 c.tm, .int .i64 c.fails, .int .i64 c.wait] 43) = A at *
  have HA := hid hA
  have HK0 := hid hk0
  clear hA hk0 gc hbad
  have x0 := HC.out 0 _ rfl
  have x1 := HC.out 1 _ rfl
  have x2 := HC.out 2 _ rfl
  have x3 := HC.out 3 _ rfl
  have x4 := HC.out 4 _ rfl
  have x5 := HC.out 5 _ rfl
  have x6 := HC.out 6 _ rfl
  have x7 := HC.out 7 _ rfl
  go_enter Tryz.func19, Tryz.ntmps19
  go_upto_region 1 with fail
  rw [HA.out]
  go_wp2_with fail
  refine (HG.out _).mono ?_
  rintro e w1 ⟨rfl, hk1⟩
  have hS0 : CfgK w1 w.heap.size c w1.drew := ⟨(HC.out.kept0 hk1).kept0 ((Kept.refl _ _).drew), (Kept.refl _ _).drew⟩
  have HK1 := hid (HK0.out.trans hk1)
  clear hk1 x0 x1 x2 x3 x4 x5 x6 x7 HK0 HC HA
  have h0 : ∀ W, CfgK w1 w.heap.size c W → W.cell? ⟨w.heap.size, 0, none⟩ = some (.int .i64 c.mru) := fun W h => h.at_ 0 _ rfl
  have h1 : ∀ W, CfgK w1 w.heap.size c W → W.cell? ⟨w.heap.size, 1, none⟩ = some (.int .i64 c.auth) := fun W h => h.at_ 1 _ rfl
  have h2 : ∀ W, CfgK w1 w.heap.size c W → W.cell? ⟨w.heap.size, 2, none⟩ = some (.int .i64 c.magic) := fun W h => h.at_ 2 _ rfl
  have h3 : ∀ W, CfgK w1 w.heap.size c W → W.cell? ⟨w.heap.size, 3, none⟩ = some (.int .i64 c.echo) := fun W h => h.at_ 3 _ rfl
  have h4 : ∀ W, CfgK w1 w.heap.size c W → W.cell? ⟨w.heap.size, 4, none⟩ = some (.int .i64 c.cf) := fun W h => h.at_ 4 _ rfl
  have h5 : ∀ W, CfgK w1 w.heap.size c W → W.cell? ⟨w.heap.size, 5, none⟩ = some (.int .i64 c.tm) := fun W h => h.at_ 5 _ rfl
  have h6 : ∀ W, CfgK w1 w.heap.size c W → W.cell? ⟨w.heap.size, 6, none⟩ = some (.int .i64 c.fails) := fun W h => h.at_ 6 _ rfl
  have h7 : ∀ W, CfgK w1 w.heap.size c W → W.cell? ⟨w.heap.size, 7, none⟩ = some (.int .i64 c.wait) := fun W h => h.at_ 7 _ rfl
  go_wp2_with fail
  go_region_held3 (CfgK w1 w.heap.size c) (first | assumption | exact CfgK.kept (by assumption) ((Kept.refl _ _).alloc _)) (first
    | (go_at_call 26; refine (HOp.out _).mono ?_; rintro e w6 ⟨u6, rfl, ho6, hk6⟩; obtain ⟨pr, cr, rfl⟩ := slice_of ho6; have hS6 : CfgK w1 w.heap.size c w6 := (by first | exact CfgK.kept hS0 hk6 | exact CfgK.kept (CfgK.kept hS0 ((Kept.refl _ _).alloc _)) hk6); clear ho6 hk6)
    | (go_at_call 46; refine (HOw.out _).mono ?_; rintro e w7 ⟨v7, rfl, hr7, hk7⟩; obtain ⟨p7, c7, rfl⟩ := hr7.slice; have hS7 : CfgK w1 w.heap.size c w7 := (by first | exact CfgK.kept hS6 hk7 | exact CfgK.kept (CfgK.kept hS6 ((Kept.refl _ _).alloc _)) hk7); clear hr7 hk7)
    | (go_at_call 45; refine (HNw.out _ _ _ _ _ _ _ _ _ _).mono ?_; rintro e w8 ⟨rfl, hk8⟩; have hS8 : CfgK w1 w.heap.size c w8 := (by first | exact CfgK.kept hS7 hk8 | exact CfgK.kept (CfgK.kept hS7 ((Kept.refl _ _).alloc _)) hk8); clear hk8))
  all_goals
    have KZ := hid (HK1.out.trans hS8.k)
    clear hS8 hS7 hS6 hS0 h0 h1 h2 h3 h4 h5 h6 h7 HOp HOw HNw HG
    go_wp2
    go_ret2
    exact ⟨rfl, KZ.out⟩
end Go.Proofs.YtklapjfljffahaaGreat

namespace Go.Proofs.YtklapjfljffahaaGreat
open Go.ChangeShapes Go.WideShapes Go.ChangeAt Go.RowKit Go.Joins

/-- A list of ints in memory, as an argument of the type []int. -/
def IntsAt (W : World) (v : Value) (l : List Int) : Prop :=
  (v = .slice none 0 0 ∧ l = []) ∨ ∃ ad cap, v = .slice (some ad) l.length cap ∧ l.length ≤ cap ∧ cap ≤ maxLen ∧ ∀ j u, (intCells l)[j]? = some u → W.cell? (ad.add j) = some u

/-- How such a list is read. -/
theorem IntsAt.form {W : World} {v : Value} {l : List Int} (h : IntsAt W v l) : ∃ p cap, v = .slice p l.length cap ∧ ∀ (j : Nat) (x : Int), l[j]? = some x → ∃ g o, p = some ⟨g, o, none⟩ ∧ l.length ≤ cap ∧ W.cell? ⟨g, o + j, none⟩ = some (.int .i64 x) := by
  rcases h with ⟨rfl, rfl⟩ | ⟨ad, cap, rfl, h1, _, hc⟩
  · exact ⟨none, 0, rfl, fun j x hj => by simp at hj⟩
  · refine ⟨some ad, cap, rfl, fun j x hj => ?_⟩
    have h0 := hc j (.int .i64 x) (by unfold intCells; rw [List.getElem?_map, hj]; rfl)
    have hlt := (List.getElem?_eq_some_iff.1 hj).1
    have h00 := hc 0 (.int .i64 (l[0]'(by omega))) (by unfold intCells; rw [List.getElem?_map, List.getElem?_eq_getElem (by omega)]; rfl)
    obtain ⟨g, o, sp⟩ := ad
    have hsp : sp = none := by
      unfold Addr.add at h00
      cases sp with
      | none => rfl
      | some q =>
        exfalso
        unfold World.cell? at h00
        split at h00 <;> simp at h00
    subst hsp
    have ha : (⟨g, o, none⟩ : Addr).add j = ⟨g, o + j, none⟩ := by
      unfold Addr.add
      split <;> simp_all
    rw [ha] at h0
    exact ⟨g, o, rfl, h1, h0⟩
theorem IntsAt.kept {W W' : World} {v : Value} {l : List Int} (h : IntsAt W v l) (hk : Kept (fun _ => False) W W') : IntsAt W' v l := by
  rcases h with h | ⟨ad, cap, rfl, h1, h2, hc⟩
  · exact Or.inl h
  · refine Or.inr ⟨ad, cap, rfl, h1, h2, fun j u hj => ?_⟩
    have := hc j u hj
    rw [hk.cell (lt_of_cell this) id]
    exact this

section
variable {H : Type} {enc : TypeId × Value → H} {w : World} {base : Nat} {spare : Nat → Bool} {held : Bool}

set_option maxRecDepth 100000 in
theorem in64_of_wf {x : Int} (h : (Lit.int .i64 x).wf = true) : In64 x := by
  have := bounds_i64 h
  exact this
set_option maxRecDepth 100000 in
theorem open_ints {r : Reach} {b0 : Nat} {v : Value} {d : DataW H} {p : List MemPlace} (hv : Value.okWide Tryz.prog w r b0 44 v) (h : DataW.Trod enc Tryz.prog w base spare held 44 v d p) : ∃ l : List Int, IntsAt w v l ∧ ∀ x ∈ l, In64 x := by
  obtain ⟨a, len, cap, rfl⟩ := okWide_slice Tryz.underlying44 hv
  obtain ⟨fuel, hf⟩ := h
  have hf' : DataW.trod enc Tryz.prog w base spare held fuel 44 [.slice a len cap] = some (d, p) := by simpa [Value.cells] using hf
  rcases ChangeShapes.open_ints Tryz.underlying44 Tryz.underlying3 cellsIntA hf' with ⟨hcs, _⟩ | ⟨a', len', cap', zs, hcs, hb, hl, hm, hz, hx, hcell, hwf⟩
  · simp at hcs
    obtain ⟨rfl, rfl, rfl⟩ := hcs
    exact ⟨[], Or.inl ⟨rfl, rfl⟩, by simp⟩
  · simp at hcs
    obtain ⟨rfl, rfl, rfl⟩ := hcs
    have hle : len ≤ zs.length := by rw [hz]; split <;> omega
    have hll : (zs.take len).length = len := by simp; omega
    refine ⟨zs.take len, Or.inr ⟨a', cap, by rw [hll], by omega, hm, fun j u hj => ?_⟩, fun x hx => in64_of_wf (hwf x (List.mem_of_mem_take hx))⟩
    · have hjl : j < len := by
        have := (List.getElem?_eq_some_iff.1 hj).1
        simp [intCells] at this
        omega
      have hg : zs[j]? = some (zs.getD j 0) := by
        rw [List.getD_eq_getElem?_getD, List.getElem?_eq_getElem (by omega)]
        rfl
      rw [hcell j (by omega)]
      unfold intCells at hj
      rw [List.getElem?_map, List.getElem?_take_of_lt hjl, hg] at hj
      exact hj
end
end Go.Proofs.YtklapjfljffahaaGreat

namespace Go.Proofs.YtklapjfljffahaaGreat
open Go.ChangeShapes Go.WideShapes Go.ChangeAt Go.RowKit Go.Joins

theorem cellsCfg : Tryz.prog.cellsOf 43 = 8 := by kernel_rfl

section
variable {H : Type} {enc : TypeId × Value → H} {w : World} {base : Nat} {spare : Nat → Bool} {held : Bool}
set_option maxRecDepth 100000 in
theorem cfg_cells {n : Nat} {cs : List Value} {y : DataW H × List MemPlace} (hlen : cs.length = 8) (ht : DataW.trod enc Tryz.prog w base spare held n 43 cs = some y) : ∃ c : Cf, cs = cfList c := by
  obtain ⟨xs, k, hk, hxy, _, hxl, hf⟩ := DataW.trod_struct Tryz.underlying43 ht
  match xs, hxl, cs, hlen with
  | [y0, y1, y2, y3, y4, y5, y6, y7], _, [v0, v1, v2, v3, v4, v5, v6, v7], _ =>
    have g0 := hf 0 _ rfl
    have g1 := hf 1 _ rfl
    have g2 := hf 2 _ rfl
    have g3 := hf 3 _ rfl
    have g4 := hf 4 _ rfl
    have g5 := hf 5 _ rfl
    have g6 := hf 6 _ rfl
    have g7 := hf 7 _ rfl
    simp [cellsIntA] at g0 g1 g2 g3 g4 g5 g6 g7
    obtain ⟨i0, e0, _, _⟩ := DataW.trod_int Tryz.underlying3 g0
    obtain ⟨i1, e1, _, _⟩ := DataW.trod_int Tryz.underlying3 g1
    obtain ⟨i2, e2, _, _⟩ := DataW.trod_int Tryz.underlying3 g2
    obtain ⟨i3, e3, _, _⟩ := DataW.trod_int Tryz.underlying3 g3
    obtain ⟨i4, e4, _, _⟩ := DataW.trod_int Tryz.underlying3 g4
    obtain ⟨i5, e5, _, _⟩ := DataW.trod_int Tryz.underlying3 g5
    obtain ⟨i6, e6, _, _⟩ := DataW.trod_int Tryz.underlying3 g6
    obtain ⟨i7, e7, _, _⟩ := DataW.trod_int Tryz.underlying3 g7
    simp at e0 e1 e2 e3 e4 e5 e6 e7
    subst e0 e1 e2 e3 e4 e5 e6 e7
    exact ⟨⟨i0, i1, i2, i3, i4, i5, i6, i7⟩, rfl⟩
set_option maxRecDepth 100000 in
theorem open_cfg {r : Reach} {b0 : Nat} {v : Value} {d : DataW H} {p : List MemPlace} (hv : Value.okWide Tryz.prog w r b0 43 v) (h : DataW.Trod enc Tryz.prog w base spare held 43 v d p) : ∃ c : Cf, v = cfV c := by
  obtain ⟨cs, rfl, hsz⟩ := okWide_struct Tryz.underlying43 hv
  obtain ⟨fuel, hf⟩ := h
  have hf' : DataW.trod enc Tryz.prog w base spare held fuel 43 cs.toList = some (d, p) := by simpa [Value.cells] using hf
  obtain ⟨c, e⟩ := cfg_cells (by rw [Array.length_toList, hsz, cellsCfg]) hf'
  refine ⟨c, ?_⟩
  unfold cfV
  congr 1
  exact Array.toList_inj.1 (by rw [e]; rfl)
end
end Go.Proofs.YtklapjfljffahaaGreat
