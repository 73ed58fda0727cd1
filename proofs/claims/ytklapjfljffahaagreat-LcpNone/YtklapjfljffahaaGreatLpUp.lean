/- Of no link: nil, or a zero one. · How a packet and a list of options among the arguments are read. -/
import Derived.Test.YtklapjfljffahaaGreatLpIn
import Derived.Test.YtklapjfljffahaaGreatOpPk
import Derived.ChangeSlices
import Derived.ProofKit
import Derived.OpenShut
import Derived.SizedLaws
import Derived.Lib.SmallJoins
namespace Go.Proofs.YtklapjfljffahaaGreat
open Go.RowKit

set_option maxRecDepth 100000 in
theorem nn_do (e : Int) (w : World) : Calls Tryz.prog 32 #[.pointer none, .int .i64 e] w fun e w' => e = .returned (.slice none 0 0) ∧ w' = w := by
  have HN := hid (ngNone_nil w)
  go_enter Tryz.func32, Tryz.ntmps32
  go_wp2_with (first | (go_at_call 55; refine HN.out.mono ?_; rintro e w' ⟨rfl, hw⟩; rw [hw]; clear hw w'))
  go_ret
  exact ⟨rfl, rfl⟩
set_option maxRecDepth 100000 in
theorem nn_tick (w : World) : Calls Tryz.prog 38 #[.pointer none] w fun e w' => e = .returned (.slice none 0 0) ∧ w' = w := by
  have HN := hid (ngNone_nil w)
  go_enter Tryz.func38, Tryz.ntmps38
  go_wp2_with (first | (go_at_call 55; refine HN.out.mono ?_; rintro e w' ⟨rfl, hw⟩; rw [hw]; clear hw w'))
  go_ret
  exact ⟨rfl, rfl⟩
set_option maxRecDepth 100000 in
theorem nn_state (w : World) : Calls Tryz.prog 42 #[.pointer none] w fun e w' => e = .returned (.int .i64 0) ∧ w' = w := by
  have HN := hid (ngNone_nil w)
  go_enter Tryz.func42, Tryz.ntmps42
  go_wp2_with (first | (go_at_call 55; refine HN.out.mono ?_; rintro e w' ⟨rfl, hw⟩; rw [hw]; clear hw w'))
  go_ret
  exact ⟨rfl, rfl⟩
set_option maxRecDepth 100000 in
theorem nn_adopt (x y : Value) (w : World) : Calls Tryz.prog 43 #[.pointer none, x, y] w fun e w' => e = .returned (.int .i64 1) ∧ w' = w := by
  have HN := hid (ngNone_nil w)
  go_enter Tryz.func43, Tryz.ntmps43
  go_wp2_with (first | (go_at_call 55; refine HN.out.mono ?_; rintro e w' ⟨rfl, hw⟩; rw [hw]; clear hw w'))
  go_ret
  exact ⟨rfl, rfl⟩
set_option maxRecDepth 100000 in
theorem nn_mine (w : World) : Calls Tryz.prog 48 #[.pointer none] w fun e w' => e = .returned (.slice none 0 0) ∧ w' = w := by
  have HN := hid (nn_state w)
  go_enter Tryz.func48, Tryz.ntmps48
  go_wp2_with (first | (go_at_call 42; refine HN.out.mono ?_; rintro e w' ⟨rfl, hw⟩; rw [hw]; clear hw w'))
  go_ret
  exact ⟨rfl, rfl⟩
set_option maxRecDepth 100000 in
theorem nn_theirs (w : World) : Calls Tryz.prog 49 #[.pointer none] w fun e w' => e = .returned (.slice none 0 0) ∧ w' = w := by
  have HN := hid (nn_state w)
  go_enter Tryz.func49, Tryz.ntmps49
  go_wp2_with (first | (go_at_call 42; refine HN.out.mono ?_; rintro e w' ⟨rfl, hw⟩; rw [hw]; clear hw w'))
  go_ret
  exact ⟨rfl, rfl⟩

/-- v is no link, in every world that comes of w. -/
structure LNone (w : World) (v : Value) : Prop where
  out : ∀ W, Kept (fun _ => False) w W → Calls Tryz.prog 31 #[v] W fun e w' => e = .returned (.pointer none) ∧ w' = W
theorem LNone.kept {w w' : World} {v : Value} (h : LNone w v) (hk : Kept (fun _ => False) w w') : LNone w' v := ⟨fun W k => h.out W (hk.trans k)⟩
set_option maxRecDepth 100000 in
theorem lnone_nil (w : World) : LNone w (.pointer none) := ⟨fun W _ => by
  have hE := eqLcpNone
  go_enter Tryz.func31, Tryz.ntmps31
  go_wp2
  go_ret
  exact ⟨rfl, rfl⟩⟩
set_option maxRecDepth 100000 in
theorem lnone_zero {w : World} {b : Nat} (h : w.cell? ⟨b, 0, none⟩ = some (.pointer none)) : LNone w (.pointer (some ⟨b, 0, none⟩)) := ⟨fun W k => by
  have c0 := (k.cell (p := ⟨b, 0, none⟩) (lt_of_cell h) id).trans h
  have hE := eqLcpSome ⟨b, 0, none⟩
  clear h k
  go_enter Tryz.func31, Tryz.ntmps31
  go_wp2
  go_ret
  exact ⟨rfl, rfl⟩⟩
set_option maxRecDepth 100000 in
theorem lnone_loopsN (w : World) : Calls Tryz.prog 16 #[.pointer none] w fun e w' => e = .returned (.int .i64 0) ∧ Kept (fun _ => False) w w' := by
  have hE := eqLcpNone
  go_enter Tryz.func16, Tryz.ntmps16
  go_wp2
  go_ret
  exact ⟨rfl, Kept.refl _ _⟩
set_option maxRecDepth 100000 in
theorem lnone_loopsZ (b : Nat) (w : World) (c3 : w.cell? ⟨b, 3, none⟩ = some (.int .i64 0)) : Calls Tryz.prog 16 #[.pointer (some ⟨b, 0, none⟩)] w fun e w' => e = .returned (.int .i64 0) ∧ Kept (fun _ => False) w w' := by
  have hE := eqLcpSome ⟨b, 0, none⟩
  go_enter Tryz.func16, Tryz.ntmps16
  go_wp2
  go_ret
  exact ⟨rfl, Kept.refl _ _⟩
set_option maxHeartbeats 1000000 in
set_option maxRecDepth 100000 in
theorem lnone_do (v : Value) (e : Int) (w : World) (h : LNone w v) : Calls Tryz.prog 11 #[v, .int .i64 e] w fun e w' => e = .returned (.slice none 0 0) ∧ Kept (fun _ => False) w w' := by
  have HN := hid h
  have k0 := Kept.refl (fun _ => False) w
  clear h
  go_enter Tryz.func11, Tryz.ntmps11
  go_wp2_with (first | (go_at_call 31; refine (HN.out.out _ (by assumption)).mono ?_; rintro e w' ⟨rfl, hw⟩; rw [hw]; clear hw w') | (go_at_call 32; refine (nn_do _ _).mono ?_; rintro e w' ⟨rfl, hw⟩; rw [hw]; clear hw w'))
  go_ret
  exact ⟨rfl, by assumption⟩
set_option maxHeartbeats 1000000 in
set_option maxRecDepth 100000 in
theorem lnone_adopt (v : Value) (x y : Value) (w : World) (h : LNone w v) : Calls Tryz.prog 18 #[v, x, y] w fun e w' => e = .returned (.int .i64 1) ∧ Kept (fun _ => False) w w' := by
  have HN := hid h
  have k0 := Kept.refl (fun _ => False) w
  clear h
  go_enter Tryz.func18, Tryz.ntmps18
  go_wp2_with (first | (go_at_call 31; refine (HN.out.out _ (by assumption)).mono ?_; rintro e w' ⟨rfl, hw⟩; rw [hw]; clear hw w') | (go_at_call 43; refine (nn_adopt _ _ _).mono ?_; rintro e w' ⟨rfl, hw⟩; rw [hw]; clear hw w'))
  go_ret
  exact ⟨rfl, by assumption⟩
set_option maxRecDepth 100000 in
theorem lnone_state (v : Value) (w : World) (h : LNone w v) : Calls Tryz.prog 15 #[v] w fun e w' => e = .returned (.int .i64 0) ∧ w' = w := by
  have HN := hid h
  have k0 := Kept.refl (fun _ => False) w
  clear h
  go_enter Tryz.func15, Tryz.ntmps15
  go_wp2_with (first | (go_at_call 31; refine (HN.out.out _ (by assumption)).mono ?_; rintro e w' ⟨rfl, hw⟩; rw [hw]; clear hw w') | (go_at_call 42; refine (nn_state _).mono ?_; rintro e w' ⟨rfl, hw⟩; rw [hw]; clear hw w'))
  go_ret
  exact ⟨rfl, rfl⟩
set_option maxRecDepth 100000 in
theorem lnone_mine (v : Value) (w : World) (h : LNone w v) : Calls Tryz.prog 23 #[v] w fun e w' => e = .returned (.slice none 0 0) ∧ w' = w := by
  have HN := hid h
  have k0 := Kept.refl (fun _ => False) w
  clear h
  go_enter Tryz.func23, Tryz.ntmps23
  go_wp2_with (first | (go_at_call 31; refine (HN.out.out _ (by assumption)).mono ?_; rintro e w' ⟨rfl, hw⟩; rw [hw]; clear hw w') | (go_at_call 48; refine (nn_mine _).mono ?_; rintro e w' ⟨rfl, hw⟩; rw [hw]; clear hw w'))
  go_ret
  exact ⟨rfl, rfl⟩
set_option maxRecDepth 100000 in
theorem lnone_theirs (v : Value) (w : World) (h : LNone w v) : Calls Tryz.prog 24 #[v] w fun e w' => e = .returned (.slice none 0 0) ∧ w' = w := by
  have HN := hid h
  have k0 := Kept.refl (fun _ => False) w
  clear h
  go_enter Tryz.func24, Tryz.ntmps24
  go_wp2_with (first | (go_at_call 31; refine (HN.out.out _ (by assumption)).mono ?_; rintro e w' ⟨rfl, hw⟩; rw [hw]; clear hw w') | (go_at_call 49; refine (nn_theirs _).mono ?_; rintro e w' ⟨rfl, hw⟩; rw [hw]; clear hw w'))
  go_ret
  exact ⟨rfl, rfl⟩
theorem lnone_stateK (v : Value) (w : World) (h : LNone w v) : Calls Tryz.prog 15 #[v] w fun e w' => e = .returned (.int .i64 0) ∧ Kept (fun _ => False) w w' := (lnone_state v w h).mono fun _ _ ⟨h1, h2⟩ => ⟨h1, by rw [h2]; exact Kept.refl _ _⟩
set_option maxRecDepth 100000 in
theorem lnone_opened (v : Value) (w : World) (h : LNone w v) : Calls Tryz.prog 36 #[v] w fun e w' => e = .returned (.bool false) ∧ w' = w := by
  have HS := hid (lnone_state v w h)
  clear h
  go_enter Tryz.func36, Tryz.ntmps36
  go_wp2_with (first | (go_at_call 15; refine HS.out.mono ?_; rintro e w' ⟨rfl, hw⟩; rw [hw]; clear hw w'))
  go_ret
  exact ⟨rfl, rfl⟩
set_option maxHeartbeats 1000000 in
set_option maxRecDepth 100000 in
theorem lnone_tick (v : Value) (w : World) (h : LNone w v) : Calls Tryz.prog 13 #[v] w fun e w' => e = .returned (.slice none 0 0) ∧ Kept (fun _ => False) w w' := by
  have HN := hid h
  have k0 := Kept.refl (fun _ => False) w
  have HO := hid (lnone_opened v w h)
  clear h
  go_enter Tryz.func13, Tryz.ntmps13
  go_wp2_with (first | (go_at_call 31; refine (HN.out.out _ (by assumption)).mono ?_; rintro e w' ⟨rfl, hw⟩; rw [hw]; clear hw w') | (go_at_call 38; refine (nn_tick _).mono ?_; rintro e w' ⟨rfl, hw⟩; rw [hw]; clear hw w') | (go_at_call 36; refine (HO.out).mono ?_; rintro e w' ⟨rfl, hw⟩; rw [hw]; clear hw w'))
  go_ret
  exact ⟨rfl, by assumption⟩
set_option maxHeartbeats 1000000 in
set_option maxRecDepth 100000 in
theorem lnone_reject (v : Value) (n : Int) (s : ByteArray) (w : World) (h : LNone w v) : Calls Tryz.prog 14 #[v, .int .i64 n, .string s] w fun e w' => e = .returned (.slice none 0 0) ∧ Kept (fun _ => False) w w' := by
  have HN := hid h
  have k0 := Kept.refl (fun _ => False) w
  have HO := hid (lnone_opened v w h)
  clear h
  go_enter Tryz.func14, Tryz.ntmps14
  go_wp2_with (first | (go_at_call 36; refine (HO.out).mono ?_; rintro e w' ⟨rfl, hw⟩; rw [hw]; clear hw w'))
  go_ret
  exact ⟨rfl, by assumption⟩
set_option maxHeartbeats 1000000 in
set_option maxRecDepth 100000 in
theorem lnone_take (v : Value) (c i : Int) (p : Option Addr) (m cap : Nat) (s : ByteArray) (w : World) (h : LNone w v) : Calls Tryz.prog 12 #[v, .agg #[.int .i64 c, .int .i64 i, .slice p m cap, .string s]] w fun e w' => e = .returned (.slice none 0 0) ∧ Kept (fun _ => False) w w' := by
  have HN := hid h
  have k0 := Kept.refl (fun _ => False) w
  have k1 := k0.alloc (.cells #[.int .i64 c, .int .i64 i, .slice p m cap, .string s] 24)
  have hE := eqNegNone
  clear h
  go_enter Tryz.func12, Tryz.ntmps12
  go_wp2_with (first | (go_at_call 31; refine (HN.out.out _ (by assumption)).mono ?_; rintro e w' ⟨rfl, hw⟩; rw [hw]; clear hw w'))
  go_ret
  exact ⟨rfl, by assumption⟩
set_option maxHeartbeats 1000000 in
set_option maxRecDepth 100000 in
theorem lnone_auth (v : Value) (w : World) (h : LNone w v) : Calls Tryz.prog 10 #[v] w fun e w' => e = .returned (.tuple #[.int .i64 0, .int .i64 0]) ∧ Kept (fun _ => False) w w' := by
  have HM := hid (lnone_mine v w h)
  have HTh := hid (fun (W : World) (k : Kept (fun _ => False) w W) => lnone_theirs v W (h.kept k))
  have HA := hid (fun W => authOf_any (.slice none 0 0) [] W (Or.inl ⟨rfl, none, 0, rfl⟩) (by decide) (fun _ h => absurd h List.not_mem_nil))
  rw [show authOfF [] = 0 from by kernel_rfl] at HA
  clear h
  go_enter Tryz.func10, Tryz.ntmps10
  go_wp2_with (first | (go_at_call 23; refine HM.out.mono ?_; rintro e w' ⟨rfl, hw⟩; rw [hw]; clear hw w'))
  refine (HA.out _).mono ?_
  rintro e w1 ⟨rfl, hk1⟩
  have K1 := hid hk1
  clear hk1
  go_wp2_with (first | (go_at_call 24; refine (HTh.out _ K1.out).mono ?_; rintro e w' ⟨rfl, hw⟩; rw [hw]; clear hw w'))
  refine (HA.out _).mono ?_
  rintro e w2 ⟨rfl, hk2⟩
  have K2 := hid (K1.out.trans hk2)
  clear hk2
  go_wp2
  go_ret2
  exact ⟨rfl, K2.out⟩
set_option maxHeartbeats 1000000 in
set_option maxRecDepth 100000 in
theorem lnone_mru (v : Value) (w : World) (h : LNone w v) : Calls Tryz.prog 17 #[v] w fun e w' => e = .returned (.int .i64 1492) ∧ Kept (fun _ => False) w w' := by
  have HTh := hid (lnone_theirs v w h)
  have HF := hid (fun W => findOpt_any (.slice none 0 0) [] 1 W (Or.inl ⟨rfl, none, 0, rfl⟩) (by decide) (fun _ h => absurd h List.not_mem_nil))
  rw [show findOB [] 1 = ⟨#[]⟩ from rfl, show (findO [] 1).isSome = false from rfl] at HF
  clear h
  go_enter Tryz.func17, Tryz.ntmps17
  go_wp2_with (first | (go_at_call 24; refine HTh.out.mono ?_; rintro e w' ⟨rfl, hw⟩; rw [hw]; clear hw w'))
  refine (HF.out _).mono ?_
  rintro e w1 ⟨rfl, hk1⟩
  have K1 := hid hk1
  clear hk1
  go_wp2
  go_ret
  exact ⟨rfl, K1.out⟩
end Go.Proofs.YtklapjfljffahaaGreat

namespace Go.Proofs.YtklapjfljffahaaGreat
open Go.ChangeShapes Go.WideShapes Go.ChangeAt Go.RowKit Go.Joins

theorem laidOutO : laidOutB Tryz.prog = true := by kernel_rfl
theorem cellsPk : Tryz.prog.cellsOf 24 = 4 := by kernel_rfl
theorem cellsOpt : Tryz.prog.cellsOf 67 = 2 := by kernel_rfl
theorem cellsInt : Tryz.prog.cellsOf 3 = 1 := by kernel_rfl
theorem cellsStr : Tryz.prog.cellsOf 9 = 1 := by kernel_rfl

section
variable {H : Type} {enc : TypeId × Value → H} {w : World} {base : Nat} {spare : Nat → Bool} {held : Bool}

theorem spot_none {W : World} {g o : Nat} {sp : Option Nat} {u : Value} (h : W.cell? ((⟨g, o, sp⟩ : Addr).add 0) = some u) : sp = none := by
  unfold Addr.add at h
  cases sp with
  | none => rfl
  | some q =>
    exfalso
    unfold World.cell? at h
    split at h <;> simp at h

set_option maxRecDepth 100000 in
theorem open_opt {n : Nat} {a : Addr} {y : DataW H × List MemPlace} (h : (w.cells? base a 2).bind (DataW.trod enc Tryz.prog w base spare held n 67) = some y) :
    ∃ o : Tg, w.cell? (a.add 0) = some (.int .i64 o.type) ∧ w.cell? (a.add 1) = some (.string o.value) ∧ ∃ z, y.1 = .agg [z, .lit (.string o.value.data.toList)] := by
  rw [Option.bind_eq_some_iff] at h
  obtain ⟨cs, hc, ht⟩ := h
  obtain ⟨_, hlen, hcell⟩ := World.cells?_some hc
  obtain ⟨xs, k, hk, hxy, _, hxl, hf⟩ := DataW.trod_struct Tryz.underlying67 ht
  match xs, hxl, cs, hlen with
  | [y0, y1], _, [v0, v1], _ =>
    have g0 := hf 0 _ rfl
    have g1 := hf 1 _ rfl
    simp [cellsInt, cellsStr] at g0 g1
    obtain ⟨i0, e0, _, w0⟩ := DataW.trod_int Tryz.underlying3 g0
    obtain ⟨x, e1, hy1, _⟩ := DataW.trod_string Tryz.underlying9 g1
    simp at e0 e1
    subst e0 e1
    refine ⟨⟨i0, x⟩, by simpa using hcell 0 (by omega), by simpa using hcell 1 (by omega), y0.1, ?_⟩
    rw [hxy]
    simp [hy1]

/-- What a list's data hold of its values. -/
def Holds (l : List Tg) (d : DataW H) : Prop := l = [] ∨ ∃ es sp, d = .slice es sp ∧ ∀ (j : Nat) (x : Tg), l[j]? = some x → ∃ z, es[j]? = some (.agg [z, .lit (.string x.value.data.toList)])

set_option maxRecDepth 100000 in
theorem open_opts_in {fuel : Nat} {v : Value} {d : DataW H} {p : List MemPlace} (hf' : DataW.trod enc Tryz.prog w base spare held fuel 22 [v] = some (d, p)) : ∃ l : List Tg, TagsAt w v l ∧ l.length ≤ maxLen ∧ Holds l d := by
  rcases DataW.trod_slice Tryz.underlying22 hf' with ⟨hcs, _⟩ | ⟨a', len, cap, elems, rest, n, _, hcs, hx, hb, hl, hm, hlen, hel, _, _⟩
  · obtain rfl := List.singleton_inj.1 hcs
    exact ⟨[], Or.inl ⟨rfl, _, _, rfl⟩, Nat.zero_le _, Or.inl rfl⟩
  · obtain rfl := List.singleton_inj.1 hcs
    have each : ∀ i, ∃ o : Tg, i < len → w.cell? ((a'.add (i * 2)).add 0) = some (.int .i64 o.type) ∧ w.cell? ((a'.add (i * 2)).add 1) = some (.string o.value) ∧ ∃ z, (elems.map (·.1))[i]? = some (.agg [z, .lit (.string o.value.data.toList)]) := fun i => by
      by_cases hi : i < len
      · have h1 := hel i hi
        rw [cellsOpt] at h1
        obtain ⟨y, hy⟩ : ∃ y, elems[i]? = some y := ⟨elems[i]'(by omega), by simp⟩
        rw [hy] at h1
        obtain ⟨o, h2, h3, z, h4⟩ := open_opt h1
        exact ⟨o, fun _ => ⟨h2, h3, z, by rw [List.getElem?_map, hy, ← h4]; rfl⟩⟩
      · exact ⟨⟨0, ⟨#[]⟩⟩, fun h => absurd h hi⟩
    obtain ⟨F, hF⟩ := skolem1 each
    refine ⟨(List.range len).map F, ?_, by simp; omega, ?_⟩
    · obtain ⟨g, o, sp⟩ := a'
      cases len with
      | zero => exact Or.inl ⟨rfl, some ⟨g, o, sp⟩, cap, rfl⟩
      | succ m =>
        have h0 := (hF 0 (by omega)).1
        have hsp : sp = none := by
          have h00 : w.cell? ((⟨g, o, sp⟩ : Addr).add 0) = some (.int .i64 (F 0).type) := by
            have e : ((⟨g, o, sp⟩ : Addr).add (0 * 2)).add 0 = (⟨g, o, sp⟩ : Addr).add 0 := by
              rw [Nat.zero_mul]
              unfold Addr.add
              simp
            rw [← e]
            exact h0
          exact spot_none h00
        subst hsp
        refine Or.inr ⟨g, o, cap, by simp, by simpa using hl, hm, fun j x hj => ?_⟩
        have hjl : j < m + 1 := by
          have := (List.getElem?_eq_some_iff.1 hj).1
          simpa using this
        have hx : x = F j := by
          rw [List.getElem?_map, List.getElem?_range hjl] at hj
          simpa using hj.symm
        subst hx
        obtain ⟨k1, k2, _⟩ := hF j hjl
        simp only [add_none] at k1 k2
        exact ⟨k1, k2⟩
    · have hd : d = .slice (elems.map (·.1)) (rest.map (·.1)) := congrArg Prod.fst hx
      refine Or.inr ⟨_, _, hd, fun j x hj => ?_⟩
      have hjl : j < len := by
        have := (List.getElem?_eq_some_iff.1 hj).1
        simpa using this
      have hx : x = F j := by
        rw [List.getElem?_map, List.getElem?_range hjl] at hj
        simpa using hj.symm
      subst hx
      exact (hF j hjl).2.2

set_option maxRecDepth 100000 in
theorem open_opts {r : Reach} {b0 : Nat} {v : Value} {d : DataW H} {p : List MemPlace} (hv : Value.okWide Tryz.prog w r b0 22 v) (h : DataW.Trod enc Tryz.prog w base spare held 22 v d p) : ∃ l : List Tg, TagsAt w v l ∧ l.length ≤ maxLen ∧ Holds l d := by
  obtain ⟨a, len, cap, rfl⟩ := okWide_slice Tryz.underlying22 hv
  obtain ⟨fuel, hf⟩ := h
  have hf' : DataW.trod enc Tryz.prog w base spare held fuel 22 [.slice a len cap] = some (d, p) := by simpa [Value.cells] using hf
  exact open_opts_in hf'

set_option maxRecDepth 100000 in
theorem open_pack {r : Reach} {b0 : Nat} {v : Value} {d : DataW H} {p : List MemPlace} (hv : Value.okWide Tryz.prog w r b0 24 v) (h : DataW.Trod enc Tryz.prog w base spare held 24 v d p) :
    ∃ (c i : Int) (u : Value) (l : List Tg) (x : ByteArray), v = pkV c i u x ∧ TagsAt w u l ∧ l.length ≤ maxLen ∧ ∃ y0 y1 y2, d = .agg [y0, y1, y2, .lit (.string x.data.toList)] ∧ Holds l y2 := by
  obtain ⟨c0, c1, c2, c3, y0, y1, y2, y3, n, rfl, hd, _, h0, h1, h2, h3⟩ := open_agg4 Tryz.underlying24 (by kernel_rfl) cellsPk hv h
  obtain ⟨c, e0, hy0, _⟩ := DataW.trod_int Tryz.underlying3 h0
  obtain ⟨i, e1, hy1, _⟩ := DataW.trod_int Tryz.underlying3 h1
  obtain ⟨x, e3, hy3, _⟩ := DataW.trod_string Tryz.underlying9 h3
  simp at e0 e1 e3
  subst e0 e1 e3
  obtain ⟨l, hl, hm, hH⟩ := open_opts_in (d := y2.1) (p := y2.2) h2
  exact ⟨c, i, c2, l, x, rfl, hl, hm, _, _, _, by rw [hd, hy3], hH⟩

theorem weightsAll_mem {P : Program} {e : TypeId} : ∀ {l : List (DataW H)} {d : DataW H}, d ∈ l → ∀ n ∈ d.weights P e, n ∈ DataW.weightsAll P e l
  | a :: l, d, h, n, hn => by
    simp only [DataW.weightsAll, List.mem_append]
    rcases List.mem_cons.1 h with rfl | h
    · exact Or.inl hn
    · exact Or.inr (weightsAll_mem h n hn)

set_option maxRecDepth 100000 in
theorem sized_opts {ts : List TypeId} {ds : List (DataW H)} (h : (DataW.weightsEach Tryz.prog ts ds).all (· ≤ reachBytes) = true) {j : Nat} {d : DataW H} {l : List Tg} (ht : ts[j]? = some 22) (hd : ds[j]? = some d) (hl : Holds l d) :
    ∀ x ∈ l, x.value.size ≤ 140737488351232 := by
  intro x hx
  rcases hl with rfl | ⟨es, sp, rfl, he⟩
  · simp at hx
  · obtain ⟨i, hi⟩ := List.getElem?_of_mem hx
    obtain ⟨z, hz⟩ := he i x hi
    have hm1 : x.value.data.toList.length ∈ DataW.weights Tryz.prog 67 (.agg [z, .lit (.string x.value.data.toList)] : DataW H) := by
      simp only [DataW.weights, Tryz.underlying67]
      exact DataW.weights_mem_each (j := 1) (t := 9) (d := .lit (.string x.value.data.toList)) rfl rfl _ (by simp [DataW.weights])
    have hm : x.value.data.toList.length ∈ DataW.weights Tryz.prog 22 (.slice es sp : DataW H) := by
      simp only [DataW.weights, Tryz.underlying22, List.mem_cons, List.mem_append]
      exact Or.inr (Or.inl (weightsAll_mem (List.mem_of_getElem? hz) _ hm1))
    have := List.all_eq_true.1 h _ (DataW.weights_mem_each ht hd _ hm)
    have h2 : x.value.data.toList.length ≤ reachBytes := by simpa using this
    rw [Lib.size_eq]
    exact h2

set_option maxRecDepth 100000 in
theorem sized_pack {ts : List TypeId} {ds : List (DataW H)} (h : (DataW.weightsEach Tryz.prog ts ds).all (· ≤ reachBytes) = true) {j : Nat} {y0 y1 y2 : DataW H} {x : ByteArray} {l : List Tg}
    (ht : ts[j]? = some 24) (hd : ds[j]? = some (.agg [y0, y1, y2, .lit (.string x.data.toList)])) (hl : Holds l y2) : x.size ≤ 140737488351232 ∧ ∀ z ∈ l, z.value.size ≤ 140737488351232 := by
  constructor
  · have hm : x.data.toList.length ∈ DataW.weights Tryz.prog 24 (.agg [y0, y1, y2, .lit (.string x.data.toList)] : DataW H) := by
      simp only [DataW.weights, Tryz.underlying24]
      exact DataW.weights_mem_each (j := 3) (t := 9) (d := .lit (.string x.data.toList)) rfl rfl _ (by simp [DataW.weights])
    have := List.all_eq_true.1 h _ (DataW.weights_mem_each ht hd _ hm)
    have h2 : x.data.toList.length ≤ reachBytes := by simpa using this
    rw [Lib.size_eq]
    exact h2
  · intro x' hx
    rcases hl with rfl | ⟨es, sp, rfl, he⟩
    · simp at hx
    · obtain ⟨i, hi⟩ := List.getElem?_of_mem hx
      obtain ⟨z, hz⟩ := he i x' hi
      have hm1 : x'.value.data.toList.length ∈ DataW.weights Tryz.prog 67 (.agg [z, .lit (.string x'.value.data.toList)] : DataW H) := by
        simp only [DataW.weights, Tryz.underlying67]
        exact DataW.weights_mem_each (j := 1) (t := 9) (d := .lit (.string x'.value.data.toList)) rfl rfl _ (by simp [DataW.weights])
      have hm2 : x'.value.data.toList.length ∈ DataW.weights Tryz.prog 22 (.slice es sp : DataW H) := by
        simp only [DataW.weights, Tryz.underlying22, List.mem_cons, List.mem_append]
        exact Or.inr (Or.inl (weightsAll_mem (List.mem_of_getElem? hz) _ hm1))
      have hm : x'.value.data.toList.length ∈ DataW.weights Tryz.prog 24 (.agg [y0, y1, .slice es sp, .lit (.string x.data.toList)] : DataW H) := by
        simp only [DataW.weights, Tryz.underlying24]
        exact DataW.weights_mem_each (j := 2) (t := 22) (d := .slice es sp) rfl rfl _ hm2
      have := List.all_eq_true.1 h _ (DataW.weights_mem_each ht hd _ hm)
      have h2 : x'.value.data.toList.length ≤ reachBytes := by simpa using this
      rw [Lib.size_eq]
      exact h2
end
end Go.Proofs.YtklapjfljffahaaGreat
