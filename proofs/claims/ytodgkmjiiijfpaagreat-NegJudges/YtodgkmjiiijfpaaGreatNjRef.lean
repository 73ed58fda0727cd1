/- The contracts of the document's own conf, number, Value, Find and SameOptions (tollgateref9). · The contracts of the document's own Fits and rule (tollgateref9). · The contract of the document's own rule (tollgateref9). · The contract of the document's own Judge (tollgateref9). · Rules as rows of memory, five cells each: lists of a call's own, and 'append' of a list that is read onto one. · The contracts of the book's LentRules and StaysRules, and of the laws' rules (chapter 11). · The contract of the laws' rules (chapter 11): are rules few, and their texts short? · How a packet and a list of options among the arguments are read. · How a rule and a list of rules among the arguments are read. -/
import Derived.Test.YtodgkmjiiijfpaaGreatOpRow
import Derived.Test.YtodgkmjiiijfpaaGreatNgPlain
import Derived.Deep.DeepCutAuto
import Derived.Test.YtodgkmjiiijfpaaGreatOpApp
import Derived.Deep.RegionWith
import Derived.Deep.RegionHeldLaw
import Derived.Deep.AppendLies
import Derived.Deep.Upon
import Derived.Lib.AppendZeros
import Derived.Maps.AppendAt
import Derived.Test.YtodgkmjiiijfpaaGreatBookKit
import Derived.Test.YtodgkmjiiijfpaaGreatOpPk
import Derived.ChangeSlices
import Derived.ProofKit
import Derived.OpenShut
import Derived.SizedLaws
import Derived.Lib.SmallJoins
import Derived.Test.YtodgkmjiiijfpaaGreatNgClone
namespace Go.Proofs.YtodgkmjiiijfpaaGreat
open Go.RowKit

set_option maxHeartbeats 1000000 in
set_option maxRecDepth 100000 in
theorem rNumber_any (s : ByteArray) (hs : s.size ≤ 7) (w : World) : Calls Tryz.prog 29 #[.string s] w fun e w' => e = .returned (.int .i64 (numOf s.data.toList : Int)) ∧ w' = w := by
  have hl : s.data.toList.length = s.size := (Lib.size_eq s).symm
  have HN : Hid (∀ j, j < s.size → numOf (s.data.toList.take (j + 1)) = numOf (s.data.toList.take j) * 256 + (s.data.toList.getD j 0).toNat) := fun j hj => num_next (by omega)
  have HX : Hid (∀ j, j < s.size → ∀ W, (Instr.index 9 (.string s) (.int .i64 (j : Int))).run Tryz.prog W = .ok (.int .u8 ((s.data.toList.getD j 0).toNat : Int)) W) := fun j hj W => index_at s j hj (j : Int) rfl W
  have HE : Hid (numOf s.data.toList = numOf (s.data.toList.take s.size)) := by show _ = _; rw [← hl, List.take_length]
  clear hl
  go_enter Tryz.func29, Tryz.ntmps29
  go_wp2
  go_loopw [3, 4] (fun vv vi wr => ∃ j N : Nat, j ≤ s.size ∧ vi = .int .i64 (j : Int) ∧ vv = .int .i64 (N : Int) ∧ Hid (N = numOf (s.data.toList.take j) ∧ wr = w)) (fun _ vi _ => s.size - (intOf vi).toNat)
  case atStart => exact ⟨0, 0, Nat.zero_le _, rfl, rfl, rfl, rfl⟩
  case round =>
    obtain ⟨j, N, hj, rfl, rfl, HI⟩ := hrel
    by_cases hlt : j < s.size
    · have hltz : (j : Int) < (s.size : Int) := by omega
      have hx := HX.out j hlt
      have hb := (s.data.toList.getD j 0).toNat_lt
      have R := HN.out j hlt
      rw [← HI.out.1] at R
      have hNb : N < 281474976710656 := by rw [HI.out.1]; exact num_bound (by omega)
      generalize (s.data.toList.getD j 0).toNat = B at *
      have RR := hid R
      have HK := hid HI.out.2
      clear R HI
      go_wp2
      exact ⟨⟨j + 1, N * 256 + B, hlt, by go_num, by go_num, RR.out.symm, HK.out⟩, by simp [intOf]; omega⟩
    · obtain rfl : j = s.size := by omega
      obtain ⟨h1, h2⟩ := HI.out
      have H1 := hid (h1.trans HE.out.symm)
      clear h1 hlt
      go_wp2
      go_ret
      exact ⟨by rw [← H1.out]; rfl, rfl⟩

set_option maxHeartbeats 2000000 in
set_option maxRecDepth 100000 in
theorem rFind_any (v : Value) (l : List Tg) (kind : Int) (w : World) (hv : TagsAt w v l) (hl : l.length ≤ 1000000) :
    Calls Tryz.prog 25 #[v, .int .i64 kind] w fun e w' => e = .returned (.tuple #[.string (findOB l kind), .bool (findO l kind).isSome]) ∧ Kept (fun _ => False) w w' := by
  obtain ⟨p, cap, rfl⟩ := hv.slice
  have Hat : Hid (∀ (j : Nat) (x : Tg), l[j]? = some x → ∀ W, Kept (fun _ => False) w W → ∃ g o, p = some ⟨g, o, none⟩ ∧ l.length ≤ cap ∧ W.cell? ⟨g, o + j * 2, none⟩ = some (.int .i64 x.type) ∧ W.cell? ⟨g, o + j * 2 + 1, none⟩ = some (.string x.value)) :=
    fun j x hj W hW => (hv.kept0 hW).at hj
  clear hv
  go_enter Tryz.func25, Tryz.ntmps25
  go_wp2
  go_loopw [6] (fun vi wr => ∃ j : Nat, j ≤ l.length ∧ vi = .int .i64 (j : Int) ∧ Hid ((l.take j).find? (fun t => t.type == kind) = none ∧ Kept (fun _ => False) w wr)) (fun vi _ => l.length - (intOf vi).toNat)
  case atStart => exact ⟨0, Nat.zero_le _, rfl, rfl, Kept.refl _ _⟩
  case round =>
    obtain ⟨j, hj, rfl, HI⟩ := hrel
    by_cases hlt : j < l.length
    · have hltz : (j : Int) < (l.length : Int) := by omega
      obtain ⟨x, hx⟩ : ∃ x, l[j]? = some x := ⟨l[j], by simp [hlt]⟩
      obtain ⟨g, o, rfl, hcap, c0, c1⟩ := Hat.out j x hx wr HI.out.2
      have HK := hid HI.out.2
      cases hty : (x.type == kind) with
      | true =>
        have hF := find_hit HI.out.1 hx hty
        have HF : Hid (findOB l kind = x.value ∧ (findO l kind).isSome = true) := by
          show _ ∧ _
          unfold findOB findO
          rw [hF]
          exact ⟨rfl, rfl⟩
        clear hF hx HI
        generalize x.type = T at *
        generalize x.value = V at *
        go_wp2
        go_ret2
        exact ⟨by rw [HF.out.1, HF.out.2]; rfl, HK.out⟩
      | false =>
        have HF := hid (find_on HI.out.1 hx hty)
        clear hx HI
        generalize x.type = T at *
        generalize x.value = V at *
        go_wp2
        exact ⟨⟨j + 1, hlt, by go_num, HF.out, HK.out⟩, by simp [intOf]; omega⟩
    · obtain rfl : j = l.length := by omega
      obtain ⟨hF, hk⟩ := HI.out
      rw [List.take_length] at hF
      have HF : Hid (findOB l kind = ⟨#[]⟩ ∧ (findO l kind).isSome = false) := by
        show _ ∧ _
        unfold findOB findO
        rw [hF]
        exact ⟨rfl, rfl⟩
      clear hF HI hlt
      go_wp2
      go_ret2
      exact ⟨by rw [HF.out.1, HF.out.2]; rfl, hk⟩

set_option maxHeartbeats 2000000 in
set_option maxRecDepth 100000 in
theorem rSame_any (v u : Value) (l m : List Tg) (w : World) (hv : TagsAt w v l) (hu : TagsAt w u m) (hl : l.length ≤ 1000000) :
    Calls Tryz.prog 164 #[v, u] w fun e w' => e = .returned (.bool (sameF l m)) ∧ Kept (fun _ => False) w w' := by
  obtain ⟨p, cap, rfl⟩ := hv.slice
  obtain ⟨q, cbp, rfl⟩ := hu.slice
  by_cases hlen : l.length = m.length
  · have hne : ((l.length : Int) != (m.length : Int)) = false := by simp [hlen]
    have Hat : Hid (∀ (j : Nat) (x : Tg), l[j]? = some x → ∀ W, Kept (fun _ => False) w W → ∃ g o, p = some ⟨g, o, none⟩ ∧ l.length ≤ cap ∧ W.cell? ⟨g, o + j * 2, none⟩ = some (.int .i64 x.type) ∧ W.cell? ⟨g, o + j * 2 + 1, none⟩ = some (.string x.value)) :=
      fun j x hj W hW => (hv.kept0 hW).at hj
    have Hau : Hid (∀ (j : Nat) (x : Tg), m[j]? = some x → ∀ W, Kept (fun _ => False) w W → ∃ g o, q = some ⟨g, o, none⟩ ∧ m.length ≤ cbp ∧ W.cell? ⟨g, o + j * 2, none⟩ = some (.int .i64 x.type) ∧ W.cell? ⟨g, o + j * 2 + 1, none⟩ = some (.string x.value)) :=
      fun j x hj W hW => (hu.kept0 hW).at hj
    have HL := hid hlen
    clear hv hu hlen
    go_enter Tryz.func164, Tryz.ntmps164
    go_wp2
    go_loopw [5] (fun vi wr => ∃ j : Nat, j ≤ l.length ∧ vi = .int .i64 (j : Int) ∧ Hid (l.take j = m.take j ∧ Kept (fun _ => False) w wr)) (fun vi _ => l.length - (intOf vi).toNat)
    case atStart => exact ⟨0, Nat.zero_le _, rfl, rfl, Kept.refl _ _⟩
    case round =>
      obtain ⟨j, hj, rfl, HI⟩ := hrel
      by_cases hlt : j < l.length
      · have hltz : (j : Int) < (l.length : Int) := by omega
        have hltm : (j : Int) < (m.length : Int) := by have := HL.out; omega
        obtain ⟨x, hx⟩ : ∃ x, l[j]? = some x := ⟨l[j], by simp [hlt]⟩
        obtain ⟨y, hy⟩ : ∃ y, m[j]? = some y := ⟨m[j]'(by have := HL.out; omega), by simp⟩
        have hk1 := HI.out.2.drew
        obtain ⟨g, o, rfl, hcap, c0, c1⟩ := Hat.out j x hx wr HI.out.2
        obtain ⟨g2, o2, rfl, hcbp, d0, d1⟩ := Hau.out j y hy wr HI.out.2
        have e0 : sameT x y = ((x.type == y.type) && (x.value.toList == y.value.toList)) := by unfold sameT; rw [bytes_same]
        cases hs : sameT x y with
        | false =>
          have HN := hid (sameF_at hx hy hs)
          rw [hs] at e0
          have hcase : (x.type == y.type) = false ∨ ((x.type == y.type) = true ∧ (x.value.toList == y.value.toList) = false) := by
            cases h1 : (x.type == y.type) with
            | false => exact Or.inl rfl
            | true =>
              rw [h1] at e0
              exact Or.inr ⟨rfl, by simpa using e0.symm⟩
          clear hx hy hs e0
          rcases hcase with e1 | ⟨e1, e2⟩
          · go_wp2
            go_quiet (fail)
            go_wp2
            go_ret
            exact ⟨by rw [HN.out]; rfl, HI.out.2.drewN _⟩
          · go_wp2
            go_quiet (fail)
            go_wp2
            go_ret
            exact ⟨by rw [HN.out]; rfl, HI.out.2.drewN _⟩
        | true =>
          have HN : Hid (l.take (j + 1) = m.take (j + 1)) := by
            show _ = _
            rw [take_next hx, take_next hy, HI.out.1, sameT_iff.1 hs]
          rw [hs] at e0
          obtain ⟨e1, e2⟩ : (x.type == y.type) = true ∧ (x.value.toList == y.value.toList) = true := by simpa using e0.symm
          clear hx hy hs e0
          go_wp2
          go_quiet (fail)
          go_wp2
          exact ⟨⟨j + 1, hlt, by go_num, HN.out, HI.out.2.drewN _⟩, by simp [intOf]; omega⟩
      · obtain rfl : j = l.length := by omega
        obtain ⟨hF, hk⟩ := HI.out
        have hFm : l = m := by rw [List.take_length, HL.out, List.take_length] at hF; exact hF
        have HN := hid (sameF_iff.2 hFm)
        clear hF HI hlt hFm
        go_wp2
        go_ret
        exact ⟨by rw [HN.out]; rfl, hk⟩
  · have hne : ((l.length : Int) != (m.length : Int)) = true := by
      rw [bne_iff_ne]
      omega
    have HN := hid (sameF_len hlen)
    clear hv hu hlen
    go_enter Tryz.func164, Tryz.ntmps164
    go_wp2
    go_ret
    exact ⟨by rw [HN.out]; rfl, Kept.refl _ _⟩
end Go.Proofs.YtodgkmjiiijfpaaGreat

namespace Go.Proofs.YtodgkmjiiijfpaaGreat
open Go.RowKit

/-- The five cells of a boxed rule. -/
def Box5 (w : World) (b : Nat) (r : Rl) : Prop := w.cell? ⟨b, 0, none⟩ = some (.int .i64 r.type) ∧ w.cell? ⟨b, 1, none⟩ = some (.int .i64 r.len) ∧ w.cell? ⟨b, 2, none⟩ = some (.int .i64 r.min) ∧ w.cell? ⟨b, 3, none⟩ = some (.int .i64 r.max) ∧ w.cell? ⟨b, 4, none⟩ = some (.string r.suggest)
theorem box5_new (w : World) (r : Rl) : Box5 (w.alloc (.cells #[.int .i64 r.type, .int .i64 r.len, .int .i64 r.min, .int .i64 r.max, .string r.suggest] 25)) w.heap.size r := by
  refine ⟨?_, ?_, ?_, ?_, ?_⟩ <;> rw [World.cell?_alloc_new] <;> rfl

set_option maxHeartbeats 2000000 in
set_option maxRecDepth 100000 in
theorem rFits_any (r : Rl) (v : ByteArray) (hv : v.size ≤ 140737488351232) (w : World) :
    Calls Tryz.prog 13 #[rlV r, .string v] w fun e w' => e = .returned (.bool (fitsF r v)) ∧ Kept (fun _ => False) w w' := by
  unfold rlV
  obtain ⟨b0, b1, b2, b3, b4⟩ := box5_new w r
  have HK := hid ((Kept.refl (fun _ => False) w).alloc (.cells #[.int .i64 r.type, .int .i64 r.len, .int .i64 r.min, .int .i64 r.max, .string r.suggest] 25))
  have hl : v.data.toList.length = v.size := (Lib.size_eq v).symm
  by_cases h : (v.size : Int) = r.len
  · have hne : ((v.size : Int) != r.len) = false := by simp [h]
    obtain ⟨V, hV, hV7, hVn⟩ : ∃ V : ByteArray, (V = if 7 < v.size then v.extract 0 7 else v) ∧ V.size ≤ 7 ∧ numOf V.data.toList = numOf (v.data.toList.take 7) := by
      by_cases h7 : 7 < v.size
      · refine ⟨_, rfl, ?_, ?_⟩
        · rw [if_pos h7, ByteArray.size_extract]
          omega
        · rw [if_pos h7, Lib.extract_data, Nat.sub_zero, List.drop_zero]
      · refine ⟨_, rfl, by rw [if_neg h7]; omega, ?_⟩
        rw [if_neg h7, List.take_of_length_le (by omega)]
    have HN := hid (rNumber_any V hV7)
    rw [hVn] at HN
    have e : fitsF r v = (decide (r.min ≤ (numOf (v.data.toList.take 7) : Int)) && decide ((numOf (v.data.toList.take 7) : Int) ≤ r.max)) := by
      unfold fitsF
      rw [decide_eq_true h, Bool.true_and]
    rw [e]
    generalize (numOf (v.data.toList.take 7) : Int) = M at *
    have jF := fun (h7 : 7 < v.size) => first_at v 7 (by omega) 7 rfl
    have HV := hid hV
    clear e hVn hl h hV
    by_cases h7 : 7 < v.size
    · have hV : V = v.extract 0 7 := by rw [HV.out, if_pos h7]
      have h7z : (7 : Int) < (v.size : Int) := by omega
      have j7 := jF h7
      rw [← hV] at j7
      clear jF HV hV
      by_cases h1 : r.min ≤ M
      · have D1 : Hid (decide (r.min ≤ M) = true) := decide_eq_true h1
        by_cases h2 : M ≤ r.max
        all_goals
          go_enter Tryz.func13, Tryz.ntmps13
          go_wp2_with fail
          refine (HN.out _).mono ?_
          rintro e w1 ⟨rfl, rfl⟩
          go_wp2
          go_ret
          exact ⟨by rw [D1.out, Bool.true_and]; first | rfl | (simp [h2]), HK.out⟩
      · have D1 : Hid (decide (r.min ≤ M) = false) := decide_eq_false h1
        go_enter Tryz.func13, Tryz.ntmps13
        go_wp2_with fail
        refine (HN.out _).mono ?_
        rintro e w1 ⟨rfl, rfl⟩
        go_wp2
        go_ret
        exact ⟨by rw [D1.out]; rfl, HK.out⟩
    · have hV : V = v := by rw [HV.out, if_neg h7]
      have h7z : ¬ (7 : Int) < (v.size : Int) := by omega
      subst hV
      clear jF HV
      by_cases h1 : r.min ≤ M
      · have D1 : Hid (decide (r.min ≤ M) = true) := decide_eq_true h1
        by_cases h2 : M ≤ r.max
        all_goals
          go_enter Tryz.func13, Tryz.ntmps13
          go_wp2_with fail
          refine (HN.out _).mono ?_
          rintro e w1 ⟨rfl, rfl⟩
          go_wp2
          go_ret
          exact ⟨by rw [D1.out, Bool.true_and]; first | rfl | (simp [h2]), HK.out⟩
      · have D1 : Hid (decide (r.min ≤ M) = false) := decide_eq_false h1
        go_enter Tryz.func13, Tryz.ntmps13
        go_wp2_with fail
        refine (HN.out _).mono ?_
        rintro e w1 ⟨rfl, rfl⟩
        go_wp2
        go_ret
        exact ⟨by rw [D1.out]; rfl, HK.out⟩
  · have hne : ((v.size : Int) != r.len) = true := by simpa using h
    have e : fitsF r v = false := by
      unfold fitsF
      rw [decide_eq_false h, Bool.false_and]
    rw [e]
    clear e h hl
    go_enter Tryz.func13, Tryz.ntmps13
    go_wp2
    go_ret
    exact ⟨rfl, HK.out⟩
end Go.Proofs.YtodgkmjiiijfpaaGreat

namespace Go.Proofs.YtodgkmjiiijfpaaGreat
open Go.RowKit

theorem findG_hit {α : Type} {l : List α} {p : α → Bool} {j : Nat} {x : α} (h : (l.take j).find? p = none) (hx : l[j]? = some x) (hp : p x = true) : l.find? p = some x := by
  have e : l = l.take j ++ l.drop j := (List.take_append_drop j l).symm
  have hd : l.drop j = x :: l.drop (j + 1) := by
    obtain ⟨hlt, hg⟩ := List.getElem?_eq_some_iff.1 hx
    rw [List.drop_eq_getElem_cons hlt, hg]
  rw [e, List.find?_append, h, hd, List.find?_cons, hp]
  rfl
theorem findG_on {α : Type} {l : List α} {p : α → Bool} {j : Nat} {x : α} (h : (l.take j).find? p = none) (hx : l[j]? = some x) (hp : p x = false) : (l.take (j + 1)).find? p = none := by
  rw [take_next hx, List.find?_append, h]
  simp [hp]

/-- A rule in a block of its own. -/
def RlAt (w : World) (b : Nat) (r : Rl) : Prop := w.heap[b]? = some (.cells #[.int .i64 r.type, .int .i64 r.len, .int .i64 r.min, .int .i64 r.max, .string r.suggest] 25 (0, 0))
theorem RlAt.lt {w : World} {b : Nat} {r : Rl} (h : RlAt w b r) : b < w.heap.size := (Array.getElem?_eq_some_iff.1 h).1
theorem RlAt.new (w : World) (r : Rl) : RlAt (w.alloc (.cells #[.int .i64 r.type, .int .i64 r.len, .int .i64 r.min, .int .i64 r.max, .string r.suggest] 25)) w.heap.size r := heap_alloc_new w _
theorem RlAt.kept {S : Nat → Prop} {w w' : World} {b : Nat} {r : Rl} (h : RlAt w b r) (hk : Kept S w w') (hS : ¬ S b) : RlAt w' b r := (hk.block b h.lt hS).trans h
theorem RlAt.cells {w : World} {b : Nat} {r : Rl} (h : RlAt w b r) : Box5 w b r := by
  have h' : w.heap[b]? = _ := h
  refine ⟨?_, ?_, ?_, ?_, ?_⟩ <;> simp [World.cell?, h']
theorem RlAt.own {w : World} {b : Nat} {r : Rl} (h : RlAt w b r) : Box5 w b r ∧ ∀ j, w.frozen? ⟨b, j, none⟩ = false := ⟨h.cells, fun j => frozen_of_row _ b j _ _ h⟩

set_option maxHeartbeats 2000000 in
set_option maxRecDepth 100000 in
theorem rRule_any (v : Value) (rs : List Rl) (kind : Int) (w : World) (hv : RulesAt w v rs) (hl : rs.length ≤ 1000000) :
    Calls Tryz.prog 24 #[v, .int .i64 kind] w fun e w' => e = .returned (.tuple #[rlV ((ruleF rs kind).getD rl0), .bool (ruleF rs kind).isSome]) ∧ Kept (fun _ => False) w w' := by
  obtain ⟨p, cap, rfl⟩ := hv.slice
  have Z := hid (RlAt.new w rl0)
  have K := hid ((Kept.refl (fun _ => False) w).alloc (.cells #[.int .i64 rl0.type, .int .i64 rl0.len, .int .i64 rl0.min, .int .i64 rl0.max, .string rl0.suggest] 25))
  have Hat := hid (fun (j : Nat) (x : Rl) (hj : rs[j]? = some x) => (hv.kept0 K.out).at hj)
  unfold rl0 at *
  simp only at Z K Hat
  clear hv
  go_enter Tryz.func24, Tryz.ntmps24
  go_upto_region 1 with fail
  generalize w.alloc (.cells #[.int .i64 0, .int .i64 0, .int .i64 0, .int .i64 0, .string ⟨#[]⟩] 25) = W1 at Z K Hat ⊢
  obtain ⟨⟨z0, z1, z2, z3, z4⟩, zf⟩ := Z.out.own
  simp only at z0 z1 z2 z3 z4
  go_wp2
  go_loopw [6] (fun vi wr => ∃ j : Nat, j ≤ rs.length ∧ vi = .int .i64 (j : Int) ∧ Hid ((rs.take j).find? (fun r => r.type == kind) = none ∧ wr = W1)) (fun vi _ => rs.length - (intOf vi).toNat)
  case atStart => exact ⟨0, Nat.zero_le _, rfl, rfl, rfl⟩
  case round =>
    obtain ⟨j, hj, rfl, HI⟩ := hrel
    have hw : wr = W1 := HI.out.2
    have HF := hid HI.out.1
    clear HI
    rw [hw]
    clear hw wr
    by_cases hlt : j < rs.length
    · have hltz : (j : Int) < (rs.length : Int) := by omega
      obtain ⟨x, hx⟩ : ∃ x, rs[j]? = some x := ⟨rs[j], by simp [hlt]⟩
      obtain ⟨g, o, rfl, hcap, c0, c1, c2, c3, c4⟩ := Hat.out j x hx
      cases hty : (x.type == kind) with
      | true =>
        have hF := findG_hit HF.out hx hty
        have HR : Hid (ruleF rs kind = some x) := hF
        clear hF hx
        go_wp2
        refine bodyPost_ret (v := .tuple #[.agg #[.int .i64 x.type, .int .i64 x.len, .int .i64 x.min, .int .i64 x.max, .string x.suggest], .bool true]) (by simp [results, Tryz.results24, go_sem, z0, z1, z2, z3, z4]) rfl ⟨by rw [HR.out]; rfl, ?_⟩
        repeat refine Kept.setCell ?_ (Or.inl (Nat.le_refl _)) _
        exact K.out
      | false =>
        have HR := hid (findG_on HF.out hx hty)
        clear hx
        go_wp2
        exact ⟨⟨j + 1, hlt, by go_num, HR.out, by first | rfl | trivial⟩, by simp [intOf]; omega⟩
    · obtain rfl : j = rs.length := by omega
      have hF := HF.out
      rw [List.take_length] at hF
      have HR : Hid (ruleF rs kind = none) := hF
      clear hF hlt HF
      go_wp2
      refine bodyPost_ret (v := .tuple #[.agg #[.int .i64 0, .int .i64 0, .int .i64 0, .int .i64 0, .string ⟨#[]⟩], .bool false]) (by simp [results, Tryz.results24, go_sem, z0, z1, z2, z3, z4]) rfl ⟨by rw [HR.out]; rfl, ?_⟩
      repeat refine Kept.setCell ?_ (Or.inl (Nat.le_refl _)) _
      exact K.out
end Go.Proofs.YtodgkmjiiijfpaaGreat

namespace Go.Proofs.YtodgkmjiiijfpaaGreat
open Go.RowKit

theorem OwnO.keptB {S : Nat → Prop} {W W' : World} {base : Nat} {v : Value} {l : List Tg} (h : OwnO W base v l) (hk : Kept S W W') (hS : ∀ i, v.ownBlock = some i → ¬ S i) : OwnO W' base v l := by
  rcases h.2 with ⟨rfl, h0⟩ | ⟨g, cap, cur, rfl, hb, hg, h1, h2, h3, h4⟩
  · exact ⟨h.1, Or.inl ⟨rfl, h0⟩⟩
  · exact ⟨h.1, Or.inr ⟨g, cap, cur, rfl, hb, (hk.block g (Array.getElem?_eq_some_iff.1 hg).1 (hS g rfl)).trans hg, h1, h2, h3, h4⟩⟩
theorem OwnO.ltB {W : World} {base : Nat} {v : Value} {l : List Tg} (h : OwnO W base v l) {g : Nat} (hg : v.ownBlock = some g) : g < W.heap.size := by
  rcases h.2 with ⟨rfl, _⟩ | ⟨g', cap, cur, rfl, hb, hgg, _⟩
  · cases hg
  · have : g' = g := by simpa [Value.ownBlock] using hg
    subst this
    exact (Array.getElem?_eq_some_iff.1 hgg).1

/-- Two lists of options of a call's own, apart. -/
structure JU (w : World) (va : Value) (A : List Tg) (vb : Value) (B : List Tg) (W : World) : Prop where
  a : OwnO W w.heap.size va A
  b : OwnO W w.heap.size vb B
  far : ∀ g, va.ownBlock = some g → vb.ownBlock ≠ some g
  k : Kept (fun _ => False) w W
theorem JU.kept {w W W' : World} {va vb : Value} {A B : List Tg} (h : JU w va A vb B W) (hk : Kept (fun _ => False) W W') : JU w va A vb B W' := ⟨h.a.kept hk, h.b.kept hk, h.far, h.k.trans hk⟩
theorem JU.swap {w W : World} {va vb : Value} {A B : List Tg} (h : JU w va A vb B W) : JU w vb B va A W := ⟨h.b, h.a, fun g h1 h2 => h.far g h2 h1, h.k⟩
/-- One option more in the first. -/
theorem JU.more {w W W0 W' : World} {va vb : Value} {A B : List Tg} {x : Tg} {g cap : Nat} (h : JU w va A vb B W) (h0 : W0.heap = W.heap) (h1 : W0.os = W.os) (h2 : W0.tape = W.tape) (h3 : W0.output = W.output)
    (hown : W'.ownsRow w.heap.size 60 2 (.slice (some ⟨g, 0, none⟩) (A.length + 1) cap) (A.length + 1) (rowT A ++ [.int .i64 x.type, .string x.value]))
    (hg : (W0.alloc (.cells #[.int .i64 x.type, .string x.value] 60)).grownBy W' va.ownBlock) (hgg : va.ownBlock = some g ∨ g = (W0.alloc (.cells #[.int .i64 x.type, .string x.value] 60)).heap.size) :
    JU w (.slice (some ⟨g, 0, none⟩) (A.length + 1) cap) (A ++ [x]) vb B W' := by
  have hk0 : Kept (fun _ => False) W W0 := ⟨h1, h2, h3, by rw [h0]; exact Nat.le_refl _, fun k _ _ => by rw [h0]⟩
  have hk1 : Kept (fun _ => False) W (W0.alloc (.cells #[.int .i64 x.type, .string x.value] 60)) := hk0.alloc _
  have hk2 : Kept (fun i => va.ownBlock = some i) W W' := (hk1.mono (fun _ _ h => h.elim)).grown hg (fun j hj => Or.inr hj)
  refine ⟨?_, h.b.keptB hk2 (fun i hi e => h.far i e hi), ?_, h.k.andThen hk2 (fun i hi hs => by have := (World.ownsRow.lt h.a i hs).1; omega)⟩
  · unfold OwnO
    rw [rowT_append, rowT_one, List.length_append]
    exact hown
  · intro g' h4 h5
    have : g = g' := by simpa [Value.ownBlock] using h4
    subst this
    rcases hgg with h6 | h6
    · exact h.far g h6 h5
    · have h7 := h.b.ltB h5
      have h8 := hk1.size
      omega

theorem badF_of {rules : List Rl} {l : List Tg} {i : Nat} {t : Tg} {b1 b2 : Bool} (h1 : (ruleF rules t.type).isSome = b1) (h2 : (findO (l.take i) t.type).isSome = b2) : badF rules l i t = (!b1 || b2) := by
  unfold badF
  rw [h1, h2]

theorem TagsAt.first {W : World} {p : Option Addr} {cap : Nat} {l : List Tg} {j : Nat} (h : TagsAt W (.slice p l.length cap) l) (hj : j < l.length) : TagsAt W (.slice p j cap) (l.take j) := by
  have hlen : (l.take j).length = j := by rw [List.length_take]; omega
  rcases h with ⟨rfl, _⟩ | ⟨g, o, cap', e, h1, h2, hc⟩
  · simp at hj
  · simp only [Value.slice.injEq] at e
    obtain ⟨rfl, _, rfl⟩ := e
    refine Or.inr ⟨g, o, cap, by rw [hlen], by omega, h2, fun k x hk => ?_⟩
    have hkl := (List.getElem?_eq_some_iff.1 hk).1
    rw [List.getElem?_take_of_lt (by omega)] at hk
    exact hc k x hk

set_option maxHeartbeats 8000000 in
set_option maxRecDepth 100000 in
theorem rJudge_any (vr : Value) (rs : List Rl) (v : Value) (l : List Tg) (w : World) (hr : RulesAt w vr rs) (hrl : rs.length ≤ 1000000) (hv : TagsAt w v l) (hl : l.length ≤ 10000) (hsz : ∀ x ∈ l, x.value.size ≤ 140737488351232) :
    Calls Tryz.prog 7 #[vr, v] w fun e w' => ∃ u, e = .returned (.tuple #[.int .i64 (judgeF rs l).1, u]) ∧ OwnO w' w.heap.size u (judgeF rs l).2 ∧ Kept (fun _ => False) w w' := by
  obtain ⟨i0, hi, hz0, hz1, hz2⟩ := info_parts infoOpt
  have HRu := hid (fun (W : World) (k : Kept (fun _ => False) w W) (kind : Int) => rRule_any vr rs kind W (hr.kept0 k) hrl)
  have HTv := hid (fun (W : World) (k : Kept (fun _ => False) w W) => hv.kept0 k)
  have Hsz := hid hsz
  have HAp := hid (fun (W : World) (k : Kept (fun _ => False) w W) => appendO_run (w0 := w) k (OwnO.nil W w.heap.size) (hv.kept0 k) (by simp; omega))
  obtain ⟨pr, cr, rfl⟩ := hr.slice
  obtain ⟨p, cap, rfl⟩ := hv.slice
  clear hr hv hsz
  go_enter Tryz.func7, Tryz.ntmps7
  go_wp2
  go_loopw [6, 7, 8] (fun v6 v7 vi wr => ∃ j : Nat, j ≤ l.length ∧ vi = .int .i64 (j : Int) ∧ Hid ((upTo (rejF rs l) l j).length ≤ j ∧ (upTo (nakF rs l) l j).length ≤ j ∧ JU w v6 (upTo (rejF rs l) l j) v7 (upTo (nakF rs l) l j) wr)) (fun _ _ vi _ => l.length - (intOf vi).toNat)
  case atStart => exact ⟨0, Nat.zero_le _, rfl, Nat.le_refl _, Nat.le_refl _, OwnO.nil _ _, OwnO.nil _ _, fun g h => by simp [Value.ownBlock] at h, Kept.refl _ _⟩
  case round =>
    obtain ⟨j, hj, rfl, HI⟩ := hrel
    have J := hid HI.out.2.2
    by_cases hlt : j < l.length
    · have hltz : (j : Int) < (l.length : Int) := by omega
      obtain ⟨x, hx⟩ : ∃ x, l[j]? = some x := ⟨l[j], by simp [hlt]⟩
      have hxs := Hsz.out x (List.mem_of_getElem? hx)
      have HX := hid (fun (W : World) (k : Kept (fun _ => False) w W) => (HTv.out W k).at hx)
      obtain ⟨g, o, rfl, hcap, c0, c1⟩ := HX.out wr J.out.k
      have hjc : (j : Int) ≤ (cap : Int) := by omega
      obtain ⟨R, hR⟩ : ∃ R, R = (ruleF rs x.type).getD rl0 := ⟨_, rfl⟩
      obtain ⟨b1, hb1⟩ : ∃ b1, (ruleF rs x.type).isSome = b1 := ⟨_, rfl⟩
      obtain ⟨b2, hb2⟩ : ∃ b2, (findO (l.take j) x.type).isSome = b2 := ⟨_, rfl⟩
      have HRx := hid (fun (W : World) (k : Kept (fun _ => False) w W) => HRu.out W k x.type)
      have HFi := hid (fun (W : World) (k : Kept (fun _ => False) w W) => rFind_any (.slice (some ⟨g, o, none⟩) j cap) (l.take j) x.type W ((HTv.out W k).first hlt) (by rw [List.length_take]; omega))
      rw [← hR, hb1] at HRx
      rw [hb2] at HFi
      unfold rlV at HRx
      have HFt := hid (fun (W : World) => rFits_any R x.value hxs W)
      unfold rlV at HFt
      generalize findOB (l.take j) x.type = FB at HFi
      have HB := badF_of (rules := rs) hb1 hb2
      have HNr : Hid (upTo (rejF rs l) l (j + 1) = upTo (rejF rs l) l j ++ (if (!b1 || b2) = true then [x] else [])) := by
        show _ = _
        rw [upTo_next _ _ _ hx, rejF, HB]
      have HNn : Hid (upTo (nakF rs l) l (j + 1) = upTo (nakF rs l) l j ++ (if (!b1 || b2) = true then [] else if fitsF R x.value = true then [] else [⟨x.type, R.suggest⟩])) := by
        show _ = _
        rw [upTo_next _ _ _ hx, nakF, HB, ← hR]
      obtain ⟨hA, hB', _⟩ := HI.out
      clear hx HB hb1 hb2 HI
      generalize upTo (rejF rs l) l j = A at *
      generalize upTo (nakF rs l) l j = B at *
      have HA := hid hA
      have HBn := hid hB'
      obtain ⟨p6, c6, hp6⟩ := slice_of J.out.a
      obtain ⟨p7, c7, hp7⟩ := slice_of J.out.b
      subst hp6 hp7
      clear hR hA hB'
      go_wp2_with fail
      refine (HRx.out _ J.out.k).mono ?_
      rintro e a1 ⟨rfl, hk1⟩
      clear c0 c1
      go_upto_region 6 with fail
      have J2 := hid (J.out.kept (hk1.alloc (.cells #[.int .i64 R.type, .int .i64 R.len, .int .i64 R.min, .int .i64 R.max, .string R.suggest] 25)))
      have B2 := hid (RlAt.new a1 R)
      clear hk1 J
      generalize a1.alloc (.cells #[.int .i64 R.type, .int .i64 R.len, .int .i64 R.min, .int .i64 R.max, .string R.suggest] 25) = W2 at J2 B2 ⊢
      have HXa := hid (fun (W : World) (k : Kept (fun _ => False) w W) => by
        obtain ⟨g', o', e, _, d0, d1⟩ := HX.out W k
        simp only [Option.some.injEq, Addr.mk.injEq, and_true] at e
        obtain ⟨rfl, rfl⟩ := e
        exact (⟨d0, d1⟩ : W.cell? ⟨g, o + j * 2, none⟩ = some (.int .i64 x.type) ∧ W.cell? ⟨g, o + j * 2 + 1, none⟩ = some (.string x.value)))
      clear HX
      obtain ⟨c0, c1⟩ := HXa.out W2 J2.out.k
      go_region_with (first | (go_at_call 25; refine (HFi.out _ J2.out.k.drew).mono ?_; rintro e a3 ⟨rfl, hk3⟩))
      have hkd := (Kept.refl (fun _ => False) W2).drew.trans hk3
      have J3 := hid (J2.out.kept hkd)
      have B3 := hid (B2.out.kept hkd id)
      clear hk3 hkd J2 B2 c0 c1
      obtain ⟨c0, c1⟩ := HXa.out a3 J3.out.k
      have hs3 := hid J3.out.k.size
      cases hbad : (!b1 || b2) with
      | true =>
        rw [hbad] at HNr HNn
        simp only [if_true] at HNr HNn
        have hcase : b1 = false ∨ (b1 = true ∧ b2 = true) := by cases b1 <;> cases b2 <;> simp_all
        clear hbad
        rcases hcase with rfl | ⟨rfl, rfl⟩
        all_goals
          go_wp2_with (at_builtin; refine wpList_append_lies _ rfl _ _ 23 rfl w.heap.size 60 i0 (.agg #[.int .i64 0, .string ⟨#[]⟩]) 2 24 Tryz.underlying23 hi hz0 hz1 hz2 rfl (by decide) _ A.length (rowT A) rfl (World.ownsRow.alloc J3.out.a _) ⟨a3.heap.size, 0, none⟩ 1 1 [.int .i64 x.type, .string x.value] rfl rfl (cells_two_new _ _ _ _) (by intro u hu; simp at hu; rcases hu with rfl | rfl <;> rfl) (by decide) (by have := HA.out; unfold maxLen; omega) (by have := HA.out; omega) (by have := hs3.out; simp; omega) _ rfl ?_; intro g' cap' w6 hown' hgrow hgg hgl')
          have J6 := hid (J3.out.more (x := x) rfl rfl rfl rfl hown' hgrow hgg)
          clear hown' hgrow hgg hgl'
          go_wp2
          exact ⟨⟨j + 1, hlt, by go_num, by rw [HNr.out, List.length_append]; have := HA.out; simp; omega, by rw [HNn.out, List.append_nil]; have := HBn.out; omega, by rw [HNr.out, HNn.out, List.append_nil]; exact J6.out⟩, by simp [intOf]; omega⟩
      | false =>
        rw [hbad] at HNr HNn
        simp only [Bool.false_eq_true, if_false] at HNr HNn
        obtain ⟨rfl, rfl⟩ : b1 = true ∧ b2 = false := by cases b1 <;> cases b2 <;> simp_all
        clear hbad
        obtain ⟨e0, e1, e2, e3, e4⟩ := B3.out.cells
        generalize hft : fitsF R x.value = ft at *
        clear hft
        go_upto_region 9 with fail
        have r0 : ∀ W, Kept (fun _ => False) a3 W → W.cell? ⟨a1.heap.size, 0, none⟩ = some (.int .i64 R.type) := fun W k => (B3.out.kept k id).cells.1
        have r1 : ∀ W, Kept (fun _ => False) a3 W → W.cell? ⟨a1.heap.size, 1, none⟩ = some (.int .i64 R.len) := fun W k => (B3.out.kept k id).cells.2.1
        have r2 : ∀ W, Kept (fun _ => False) a3 W → W.cell? ⟨a1.heap.size, 2, none⟩ = some (.int .i64 R.min) := fun W k => (B3.out.kept k id).cells.2.2.1
        have r3 : ∀ W, Kept (fun _ => False) a3 W → W.cell? ⟨a1.heap.size, 3, none⟩ = some (.int .i64 R.max) := fun W k => (B3.out.kept k id).cells.2.2.2.1
        have r4 : ∀ W, Kept (fun _ => False) a3 W → W.cell? ⟨a1.heap.size, 4, none⟩ = some (.string R.suggest) := fun W k => (B3.out.kept k id).cells.2.2.2.2
        have r5 : ∀ W, Kept (fun _ => False) a3 W → W.cell? ⟨g, o + j * 2 + 1, none⟩ = some (.string x.value) := fun W k => (HXa.out W (J3.out.k.trans k)).2
        refine wp_region_held_drew (S := Kept (fun _ => False) a3) (by kernel_rfl) ((Kept.refl _ a3).drew) (fun hSd => ?_)
        refine wpAnyH_take (i := 0) (v := ?_) rfl (by kernel_rfl) (by kernel_rfl) (by kernel_rfl) (fun _ _ _ h => h) (Or.inl ⟨by kernel_rfl, fun W hSW => by go_simp; try with_reducible rfl⟩) (by assumption) ?_
        try simp only [List.getElem_toArray]
        try simp only [List.getElem_cons_succ]
        try simp only [List.getElem_cons_zero]
        try simp only [Act.put]
        try simp only [List.setIfInBounds_toArray]
        try simp only [List.set_cons_succ]
        try simp only [List.set_cons_zero]
        refine wpAnyH_take (i := 1) (v := ?_) rfl (by kernel_rfl) (by kernel_rfl) (by kernel_rfl) (fun _ _ _ h => h) (Or.inl ⟨by kernel_rfl, fun W hSW => by go_simp; try with_reducible rfl⟩) (by assumption) ?_
        try simp only [List.getElem_toArray]
        try simp only [List.getElem_cons_succ]
        try simp only [List.getElem_cons_zero]
        try simp only [Act.put]
        try simp only [List.setIfInBounds_toArray]
        try simp only [List.set_cons_succ]
        try simp only [List.set_cons_zero]
        refine wpAnyH_take (i := 2) (v := ?_) rfl (by kernel_rfl) (by kernel_rfl) (by kernel_rfl) (fun _ _ _ h => h) (Or.inl ⟨by kernel_rfl, fun W hSW => by go_simp; try with_reducible rfl⟩) (by assumption) ?_
        try simp only [List.getElem_toArray]
        try simp only [List.getElem_cons_succ]
        try simp only [List.getElem_cons_zero]
        try simp only [Act.put]
        try simp only [List.setIfInBounds_toArray]
        try simp only [List.set_cons_succ]
        try simp only [List.set_cons_zero]
        refine wpAnyH_take (i := 3) (v := ?_) rfl (by kernel_rfl) (by kernel_rfl) (by kernel_rfl) (fun _ _ _ h => h) (Or.inl ⟨by kernel_rfl, fun W hSW => by go_simp; try with_reducible rfl⟩) (by assumption) ?_
        try simp only [List.getElem_toArray]
        try simp only [List.getElem_cons_succ]
        try simp only [List.getElem_cons_zero]
        try simp only [Act.put]
        try simp only [List.setIfInBounds_toArray]
        try simp only [List.set_cons_succ]
        try simp only [List.set_cons_zero]
        refine wpAnyH_take (i := 4) (v := ?_) rfl (by kernel_rfl) (by kernel_rfl) (by kernel_rfl) (fun _ _ _ h => h) (Or.inl ⟨by kernel_rfl, fun W hSW => by go_simp; try with_reducible rfl⟩) (by assumption) ?_
        try simp only [List.getElem_toArray]
        try simp only [List.getElem_cons_succ]
        try simp only [List.getElem_cons_zero]
        try simp only [Act.put]
        try simp only [List.setIfInBounds_toArray]
        try simp only [List.set_cons_succ]
        try simp only [List.set_cons_zero]
        refine wpAnyH_take (i := 5) (v := ?_) rfl (by kernel_rfl) (by kernel_rfl) (by kernel_rfl) (fun _ _ _ h => h) (Or.inl ⟨by kernel_rfl, fun W hSW => by go_simp; try with_reducible rfl⟩) (by assumption) ?_
        try simp only [List.getElem_toArray]
        try simp only [List.getElem_cons_succ]
        try simp only [List.getElem_cons_zero]
        try simp only [Act.put]
        try simp only [List.setIfInBounds_toArray]
        try simp only [List.set_cons_succ]
        try simp only [List.set_cons_zero]
        refine wpAnyH_ready (rs := [6]) (by kernel_rfl) (by simp) ?_
        refine AllReadyH.cons rfl (fun K hK => ?_) AllReadyH.nil
        go_simp
        refine (HFt.out _).mono ?_
        rintro e a5 ⟨rfl, hk5⟩
        have hkd := (Kept.refl (fun _ => False) a3).drew.trans hk5
        refine hK.out _ _ (hkd) (fun _ => ?_)
        clear hK K
        try simp only [List.getElem_toArray]
        try simp only [List.getElem_cons_succ]
        try simp only [List.getElem_cons_zero]
        try simp only [Act.put]
        try simp only [List.setIfInBounds_toArray]
        try simp only [List.set_cons_succ]
        try simp only [List.set_cons_zero]
        refine wpAnyH_take (i := 7) (v := ?_) rfl (by kernel_rfl) (by kernel_rfl) (by kernel_rfl) (fun _ _ _ h => h) (Or.inl ⟨by kernel_rfl, fun W hSW => by go_simp; try with_reducible rfl⟩) (by assumption) ?_
        try simp only [List.getElem_toArray]
        try simp only [List.getElem_cons_succ]
        try simp only [List.getElem_cons_zero]
        try simp only [Act.put]
        try simp only [List.setIfInBounds_toArray]
        try simp only [List.set_cons_succ]
        try simp only [List.set_cons_zero]
        refine wpAnyH_take (i := 8) (v := ?_) rfl (by kernel_rfl) (by kernel_rfl) (by kernel_rfl) (fun _ _ _ h => h) (Or.inl ⟨by kernel_rfl, fun W hSW => by go_simp; try with_reducible rfl⟩) (by assumption) ?_
        try simp only [List.getElem_toArray]
        try simp only [List.getElem_cons_succ]
        try simp only [List.getElem_cons_zero]
        try simp only [Act.put]
        try simp only [List.setIfInBounds_toArray]
        try simp only [List.set_cons_succ]
        try simp only [List.set_cons_zero]
        refine wpAnyH_done (by kernel_rfl) ?_ _
        have J5 := hid (J3.out.kept hkd)
        have B5 := hid (B3.out.kept hkd id)
        clear hk5 hkd J3 B3 c0 c1 e0 e1 e2 e3 e4 r0 r1 r2 r3 r4 r5
        obtain ⟨c0, c1⟩ := HXa.out a5 J5.out.k
        obtain ⟨e0, e1, e2, e3, e4⟩ := B5.out.cells
        cases ft with
        | true =>
          simp only [if_true] at HNn
          go_wp2
          exact ⟨⟨j + 1, hlt, by go_num, by rw [HNr.out, List.append_nil]; have := HA.out; omega, by rw [HNn.out, List.append_nil]; have := HBn.out; omega, by rw [HNr.out, HNn.out, List.append_nil, List.append_nil]; exact J5.out⟩, by simp [intOf]; omega⟩
        | false =>
          simp only [Bool.false_eq_true, if_false] at HNn
          have hK5 := J5.out.k
          have HO : Hid ((a5.alloc (.cells #[.int .i64 x.type, .string R.suggest] 60)).drew.ownsRow w.heap.size 60 2 (.slice p7 B.length c7) B.length (rowT B)) := World.ownsRow.alloc J5.out.b _
          have HS : Hid (w.heap.size ≤ (a5.alloc (.cells #[.int .i64 x.type, .string R.suggest] 60)).drew.heap.size) := (J5.out.k.alloc _).size
          have HNw : Hid (∀ (q : Nat) (u : Value), ([.int .i64 x.type, .string R.suggest] : List Value)[q]? = some u → (a5.alloc (.cells #[.int .i64 x.type, .string R.suggest] 60)).drew.cell? ((⟨a5.heap.size, 0, none⟩ : Addr).add q) = some u) := cells_two_new a5 _ _ _
          have HM : Hid (∀ w6 g' cap', w6.ownsRow w.heap.size 60 2 (.slice (some ⟨g', 0, none⟩) (B.length + 1) cap') (B.length + 1) (rowT B ++ [.int .i64 x.type, .string R.suggest]) → (a5.alloc (.cells #[.int .i64 x.type, .string R.suggest] 60)).drew.grownBy w6 (Value.slice p7 B.length c7).ownBlock → ((Value.slice p7 B.length c7).ownBlock = some g' ∨ g' = (a5.alloc (.cells #[.int .i64 x.type, .string R.suggest] 60)).heap.size) → JU w (.slice p6 A.length c6) A (.slice (some ⟨g', 0, none⟩) (B.length + 1) cap') (B ++ [⟨x.type, R.suggest⟩]) w6) :=
            fun w6 g' cap' h1 h2 h3 => (J5.out.swap.more (x := ⟨x.type, R.suggest⟩) rfl rfl rfl rfl h1 ⟨h2.os, h2.tape, h2.output, h2.size, h2.block⟩ h3).swap
          have hBl : B.length ≤ 10000 := by have := HBn.out; omega
          have HSd : Hid (a5.drew.cell? ⟨g, o + j * 2, none⟩ = some (.int .i64 x.type) ∧ a5.drew.cell? ⟨a1.heap.size, 4, none⟩ = some (.string R.suggest)) := ⟨c0, e4⟩
          have HSa : Hid ((a5.alloc (.cells #[.int .i64 x.type, .string R.suggest] 60)).drew.cell? ⟨g, o + j * 2, none⟩ = some (.int .i64 x.type) ∧ (a5.alloc (.cells #[.int .i64 x.type, .string R.suggest] 60)).drew.cell? ⟨a1.heap.size, 4, none⟩ = some (.string R.suggest)) := ⟨(HXa.out _ (J5.out.k.alloc _)).1, (B5.out.kept ((Kept.refl (fun _ => False) a5).alloc _) id).cells.2.2.2.2⟩
          have HS6 : Hid (∀ w6, Kept (fun _ => False) w w6 → (a5.alloc (.cells #[.int .i64 x.type, .string R.suggest] 60)).drew.grownBy w6 (Value.slice p7 B.length c7).ownBlock → w6.cell? ⟨g, o + j * 2, none⟩ = some (.int .i64 x.type) ∧ w6.cell? ⟨a1.heap.size, 4, none⟩ = some (.string R.suggest)) := fun w6 k h2 => by
            refine ⟨(HXa.out _ k).1, ?_⟩
            have hk2 : Kept (fun i => (Value.slice p7 B.length c7).ownBlock = some i) a5 w6 := ((Kept.refl _ a5).alloc _).drew.grown h2 (fun j hj => Or.inr hj)
            refine (B5.out.kept hk2 (fun e => ?_)).cells.2.2.2.2
            rcases J5.out.b.2 with ⟨h0, _⟩ | ⟨g9, cap9, cur9, h0, _, hg9, _⟩
            · rw [h0] at e
              cases e
            · rw [h0] at e
              have : g9 = a1.heap.size := by simpa [Value.ownBlock] using e
              subst this
              rw [show a5.heap[a1.heap.size]? = _ from B5.out] at hg9
              simp at hg9
          go_wp2
          go_region_held_law (fun W => W.cell? ⟨g, o + j * 2, none⟩ = some (.int .i64 x.type) ∧ W.cell? ⟨a1.heap.size, 4, none⟩ = some (.string R.suggest)) (first | assumption | exact HSd.out | exact HSa.out)
            (first
              | (refine step_append_lies _ rfl (.tmp 63) (.tmp 72) 23 rfl w.heap.size 60 i0 (.agg #[.int .i64 0, .string ⟨#[]⟩]) 2 24 Tryz.underlying23 hi hz0 hz1 hz2 rfl (by decide) _ B.length (rowT B) rfl HO.out _ 1 1 [.int .i64 x.type, .string R.suggest] rfl rfl HNw.out (by intro u hu; simp at hu; rcases hu with rfl | rfl <;> rfl) (by decide) (by unfold maxLen; omega) (by omega) HS.out _ rfl ?_; intro g' cap' w6 hown' hgrow hgg hgl'; have hM6 := HM.out _ _ _ hown' hgrow hgg; have hS6 := HS6.out _ hM6.k hgrow))
          all_goals
            clear hown' hgrow hgg hgl'
            have J6 := hid hM6
            go_wp2
            exact ⟨⟨j + 1, hlt, by go_num, by rw [HNr.out, List.append_nil]; have := HA.out; omega, by rw [HNn.out, List.length_append]; have := HBn.out; simp; omega, by rw [HNr.out, HNn.out, List.append_nil]; exact J6.out⟩, by simp [intOf]; omega⟩
    · obtain rfl : j = l.length := by omega
      have hltz : ¬ (l.length : Int) < (l.length : Int) := by omega
      obtain ⟨h1, h2, _⟩ := HI.out
      obtain ⟨p6, c6, hp6⟩ := slice_of J.out.a
      obtain ⟨p7, c7, hp7⟩ := slice_of J.out.b
      subst hp6 hp7
      by_cases h3 : (upTo (rejF rs l) l l.length).length = 0
      · by_cases h4 : (upTo (nakF rs l) l l.length).length = 0
        · have HJ : Hid (judgeF rs l = (2, l)) := by show _ = _; unfold judgeF; rw [if_neg (by omega), if_neg (by omega)]
          have h3z : ¬ (0 : Int) < ((upTo (rejF rs l) l l.length).length : Int) := by omega
          have h4z : ¬ (0 : Int) < ((upTo (nakF rs l) l l.length).length : Int) := by omega
          obtain ⟨v5, w5, hr5, ho5, hk5⟩ := HAp.out wr J.out.k
          rw [List.nil_append] at ho5
          have O5 := hid ho5
          have K5 := hid hk5
          clear ho5 hk5 HI h1 h2 h3 h4 hlt
          generalize (upTo (rejF rs l) l l.length).length = n6 at *
          generalize (upTo (nakF rs l) l l.length).length = n7 at *
          go_wp2_with (at_builtin; refine Lib.wpList_append_run _ rfl _ _ _ _ rfl _ _ rfl rfl _ _ (hr5 _) ?_)
          go_ret2
          exact ⟨_, by rw [HJ.out]; rfl, by rw [HJ.out]; exact O5.out, K5.out⟩
        · have HJ : Hid (judgeF rs l = (3, upTo (nakF rs l) l l.length)) := by show _ = _; unfold judgeF; rw [if_neg (by omega), if_pos h4]
          have h3z : ¬ (0 : Int) < ((upTo (rejF rs l) l l.length).length : Int) := by omega
          have h4z : (0 : Int) < ((upTo (nakF rs l) l l.length).length : Int) := by omega
          have O5 := hid J.out.b
          have K5 := hid J.out.k
          clear HI h1 h2 h3 h4 hlt J
          go_wp2
          go_ret2
          exact ⟨_, by rw [HJ.out]; rfl, by rw [HJ.out]; exact O5.out, K5.out⟩
      · have HJ : Hid (judgeF rs l = (4, upTo (rejF rs l) l l.length)) := by show _ = _; unfold judgeF; rw [if_pos h3]
        have h3z : (0 : Int) < ((upTo (rejF rs l) l l.length).length : Int) := by omega
        have O5 := hid J.out.a
        have K5 := hid J.out.k
        clear HI h1 h2 h3 hlt J
        go_wp2
        go_ret2
        exact ⟨_, by rw [HJ.out]; rfl, by rw [HJ.out]; exact O5.out, K5.out⟩
end Go.Proofs.YtodgkmjiiijfpaaGreat

namespace Go.Proofs.YtodgkmjiiijfpaaGreat
open Go.RowKit

theorem infoRule : (Tryz.prog.info? 25).map (fun i => (i.zero, i.size, i.bytes)) = some (some (.agg #[.int .i64 0, .int .i64 0, .int .i64 0, .int .i64 0, .string ⟨#[]⟩]), 5, 48) := by kernel_rfl

def rowR (l : List Rl) : List Value := l.flatMap rlCells
theorem rowR_append (a b : List Rl) : rowR (a ++ b) = rowR a ++ rowR b := by simp [rowR]
theorem rowR_one (r : Rl) : rowR [r] = rlCells r := by simp [rowR]
theorem rowR_length (l : List Rl) : (rowR l).length = l.length * 5 := by
  induction l with
  | nil => rfl
  | cons a r ih => rw [rowR, List.flatMap_cons, List.length_append]; rw [rowR] at ih; rw [ih]; simp [rlCells]; omega
theorem rowR_get {l : List Rl} {k : Nat} {x : Rl} (h : l[k]? = some x) (j : Nat) (hj : j < 5) : (rowR l)[k * 5 + j]? = (rlCells x)[j]? := by
  induction l generalizing k with
  | nil => simp at h
  | cons a r ih =>
    have hc : rowR (a :: r) = rlCells a ++ rowR r := by simp [rowR]
    cases k with
    | zero =>
      simp at h
      subst h
      rw [hc, List.getElem?_append_left (by simp [rlCells]; omega)]
      simp
    | succ k =>
      simp at h
      rw [hc, List.getElem?_append_right (by simp [rlCells]; omega), ← ih h]
      simp only [rlCells, List.length_cons, List.length_nil]
      congr 1
      omega
theorem rowR_oneCell (l : List Rl) : ∀ u ∈ rowR l, u.oneCell' = true := by
  intro u hu
  obtain ⟨g, _, hg⟩ := List.mem_flatMap.1 hu
  simp [rlCells] at hg
  rcases hg with rfl | rfl | rfl | rfl | rfl <;> rfl

/-- The slice v holds the rules of l, in a row that lies at base or behind. -/
def OwnR (w : World) (base : Nat) (v : Value) (l : List Rl) : Prop := w.ownsRow base 25 5 v l.length (rowR l)
theorem OwnR.nil (w : World) (base : Nat) : OwnR w base (.slice none 0 0) [] := World.ownsRow_nil _ _ _ _
theorem OwnR.kept {w w' : World} {base : Nat} {v : Value} {l : List Rl} (h : OwnR w base v l) (hk : Kept (fun _ => False) w w') : OwnR w' base v l := by
  rcases h.2 with ⟨rfl, h0⟩ | ⟨g, cap, cur, rfl, hb, hg, h1, h2, h3, h4⟩
  · exact ⟨h.1, Or.inl ⟨rfl, h0⟩⟩
  · exact ⟨h.1, Or.inr ⟨g, cap, cur, rfl, hb, (hk.block g (Array.getElem?_eq_some_iff.1 hg).1 id).trans hg, h1, h2, h3, h4⟩⟩
theorem OwnR.mono {w : World} {base base' : Nat} {v : Value} {l : List Rl} (h : OwnR w base v l) (hb : base' ≤ base) : OwnR w base' v l := by
  rcases h.2 with ⟨rfl, h0⟩ | ⟨g, cap, cur, rfl, hb', hg, h1, h2, h3, h4⟩
  · exact ⟨h.1, Or.inl ⟨rfl, h0⟩⟩
  · exact ⟨h.1, Or.inr ⟨g, cap, cur, rfl, Nat.le_trans hb hb', hg, h1, h2, h3, h4⟩⟩
theorem OwnR.rules {w : World} {base : Nat} {v : Value} {l : List Rl} (h : OwnR w base v l) : RulesAt w v l := by
  rcases h.2 with ⟨rfl, h0⟩ | ⟨g, cap, cur, rfl, hb, hg, h1, h2, h3, h4⟩
  · exact Or.inl ⟨List.eq_nil_of_length_eq_zero h0, none, 0, rfl⟩
  · refine Or.inr ⟨g, 0, cap, rfl, h1, h2, fun j x hj i u hi => ?_⟩
    have hlt := (List.getElem?_eq_some_iff.1 hj).1
    have hi5 : i < 5 := by simpa [rlCells] using (List.getElem?_eq_some_iff.1 hi).1
    have hc : ∀ q, q < l.length * 5 → w.cell? ⟨g, q, none⟩ = (rowR l)[q]? := fun q hq => by
      rw [← h4, List.getElem?_take_of_lt hq]
      simp [World.cell?, hg]
    rw [Nat.zero_add, hc _ (by omega), rowR_get hj i hi5]
    exact hi

theorem RulesAt.row {W : World} {v : Value} {l : List Rl} (h : RulesAt W v l) (hne : l ≠ []) : ∃ g o cap, v = .slice (some ⟨g, o, none⟩) l.length cap ∧ ∀ (j : Nat) (u : Value), (rowR l)[j]? = some u → W.cell? ((⟨g, o, none⟩ : Addr).add j) = some u := by
  rcases h with ⟨rfl, _⟩ | ⟨g, o, cap, rfl, h1, h2, hc⟩
  · exact absurd rfl hne
  · refine ⟨g, o, cap, rfl, fun j u hj => ?_⟩
    have hlt := (List.getElem?_eq_some_iff.1 hj).1
    rw [rowR_length] at hlt
    have hd : j / 5 < l.length := by omega
    have hg := rowR_get (l := l) (k := j / 5) (x := l[j / 5]) (by simp) (j % 5) (by omega)
    rw [show j / 5 * 5 + j % 5 = j by omega, hj] at hg
    have := hc (j / 5) l[j / 5] (by simp) (j % 5) u hg.symm
    rw [add_none, ← this]
    congr 2
    omega

/-- What 'append' makes of two lists of rules. -/
def AppR (w : World) (v u v' : Value) (w' : World) : Prop := ∀ ty, (Builtin.append_ #[22, 22] ty #[v, u]).run Tryz.prog w = .ok v' w'
theorem appendR_run {w0 w : World} {v u : Value} {a b : List Rl} (hk : Kept (fun _ => False) w0 w) (hown : OwnR w w0.heap.size v a) (hu : RulesAt w u b) (hn : a.length + b.length ≤ 1000000) :
    ∃ v' w', AppR w v u v' w' ∧ OwnR w' w0.heap.size v' (a ++ b) ∧ Kept (fun _ => False) w0 w' := by
  obtain ⟨i0, hi0, hz0, hz1, hz2⟩ := info_parts infoRule
  by_cases hb : b = []
  · subst hb
    rcases hu with ⟨_, p, cap, rfl⟩ | ⟨g, o, cap, rfl, _⟩
    all_goals
      have hsrc : ∀ (q : Option Addr) (c : Nat), Src Tryz.prog i0.size 22 (.slice q 0 c) 0 [] w := fun q c => by
        cases q with
        | none => exact Src.ofNil w Tryz.underlying22 c
        | some a => exact Src.ofSlice w Tryz.underlying22 a 0 c [] (by simp) (fun j u hj => by simp at hj) (fun u hu => by simp at hu)
      refine ⟨v, w, fun ty => ?_, by rw [List.append_nil]; exact hown, hk⟩
      rcases hown.2 with ⟨rfl, _⟩ | ⟨g', cap', cur, rfl, _, _, h1, _⟩
      · exact run_append_nothing w _ _ _ _ i0 Tryz.underlying22 hi0 none 0 0 (Nat.le_refl _) _ (hsrc _ _)
      · exact run_append_nothing w _ _ _ _ i0 Tryz.underlying22 hi0 _ _ _ h1 _ (hsrc _ _)
  · obtain ⟨g, o, cap, rfl, hc⟩ := hu.row hb
    obtain ⟨v', w', h1, h2, h3, _, h5⟩ := run_append_own_at (P := Tryz.prog) w w0.heap.size 22 0 25 i0 (.agg #[.int .i64 0, .int .i64 0, .int .i64 0, .int .i64 0, .string ⟨#[]⟩]) 5 48 Tryz.underlying22 hi0 hz0 hz1 hz2 rfl (by decide) v a.length (rowR a) hown ⟨g, o, none⟩ b.length cap (rowR b) (rowR_length b) hc (rowR_oneCell b) (by unfold maxLen; omega) (by omega) hk.size
    refine ⟨v', w', fun ty => h1, ?_, hk.grown h3 (fun j hj => Or.inl (World.ownsRow.lt hown j hj).1)⟩
    unfold OwnR
    rw [rowR_append, List.length_append]
    exact h2
end Go.Proofs.YtodgkmjiiijfpaaGreat

namespace Go.Proofs.YtodgkmjiiijfpaaGreat
open Go.RowKit

theorem cells_five_new (w : World) (x y z u s : Value) (t : TypeId) : ∀ (j : Nat) (v : Value), [x, y, z, u, s][j]? = some v → (w.alloc (.cells #[x, y, z, u, s] t)).cell? ((⟨w.heap.size, 0, none⟩ : Addr).add j) = some v := by
  intro j v h
  rw [addr_add, World.cell?_alloc_new]
  simpa using h

def lentR : Rl := ⟨-77, 0, 0, 0, ⟨#[]⟩⟩
/-- A list with one more, hidden, behind it. -/
def LentRAt (W : World) (base g cap : Nat) (l : List Rl) : Prop := OwnR W base (.slice (some ⟨g, 0, none⟩) (l.length + 1) cap) (l ++ [lentR])
theorem LentRAt.kept {W W' : World} {base g cap : Nat} {l : List Rl} (h : LentRAt W base g cap l) (hk : Kept (fun _ => False) W W') : LentRAt W' base g cap l := OwnR.kept h hk
theorem LentRAt.cap {W : World} {base g cap : Nat} {l : List Rl} (h : LentRAt W base g cap l) : l.length + 1 ≤ cap ∧ cap ≤ maxLen := by
  rcases h.2 with ⟨h', _⟩ | ⟨g', cap', cur, h', hb, hg, h1, h2, _⟩
  · simp at h'
  · simp only [Value.slice.injEq] at h'
    simp at h1
    omega
theorem LentRAt.own {W : World} {base g cap : Nat} {l : List Rl} (h : LentRAt W base g cap l) : OwnR W base (.slice (some ⟨g, 0, none⟩) l.length cap) l := by
  have h' : W.ownsRow base 25 5 (.slice (some ⟨g, 0, none⟩) (l.length + 1) cap) (l.length + 1) (rowR (l ++ [lentR])) := by
    have e : (l ++ [lentR]).length = l.length + 1 := by simp
    unfold LentRAt OwnR at h
    rw [e] at h
    exact h
  have := owned_first h' (m := l.length) (by omega)
  rw [rowR_append, List.take_append_of_le_length (by rw [rowR_length]; exact Nat.le_refl _), List.take_of_length_le (by rw [rowR_length]; exact Nat.le_refl _)] at this
  exact this

set_option maxHeartbeats 1000000 in
set_option maxRecDepth 100000 in
theorem lentRules_any (v : Value) (l : List Rl) (w : World) (hv : RulesAt w v l) (hl : l.length ≤ 10000) :
    Calls Tryz.prog 8 #[v] w fun e w' => ∃ g cap, e = .returned (.slice (some ⟨g, 0, none⟩) l.length cap) ∧ LentRAt w' w.heap.size g cap l ∧ Kept (fun _ => False) w w' := by
  obtain ⟨i0, hi0, hz0, hz1, hz2⟩ := info_parts infoRule
  obtain ⟨p, cp, rfl⟩ := hv.slice
  obtain ⟨u, w1, hr, ho, hk⟩ := appendR_run (Kept.refl (fun _ => False) w) (OwnR.nil w w.heap.size) hv (by simp; omega)
  rw [List.nil_append] at ho
  have HO := hid ho
  have HK := hid hk
  have hs1 := hk.size
  have HM : Hid (∀ w2 g cap, w2.ownsRow w.heap.size 25 5 (.slice (some ⟨g, 0, none⟩) (l.length + 1) cap) (l.length + 1) (rowR l ++ [.int .i64 (-77), .int .i64 0, .int .i64 0, .int .i64 0, .string ⟨#[]⟩]) → (w1.alloc (.cells #[.int .i64 (-77), .int .i64 0, .int .i64 0, .int .i64 0, .string ⟨#[]⟩] 25)).grownBy w2 u.ownBlock → LentRAt w2 w.heap.size g cap l ∧ Kept (fun _ => False) w w2) := fun w2 g cap h1 h2 => by
    constructor
    · unfold LentRAt OwnR
      rw [rowR_append, rowR_one, List.length_append]
      exact h1
    · exact (HK.out.alloc _).grown h2 (fun j hj => Or.inl (World.ownsRow.lt HO.out j hj).1)
  clear ho hk hv
  go_enter Tryz.func8, Tryz.ntmps8
  go_wp2_with (first
    | (at_builtin; refine Lib.wpList_append_run _ rfl _ _ _ _ rfl _ _ rfl rfl _ _ (hr _) ?_)
    | (at_builtin; refine wpList_append_lies _ rfl _ _ 22 rfl w.heap.size 25 i0 (.agg #[.int .i64 0, .int .i64 0, .int .i64 0, .int .i64 0, .string ⟨#[]⟩]) 5 48 Tryz.underlying22 hi0 hz0 hz1 hz2 rfl (by decide) _ l.length (rowR l) rfl (World.ownsRow.alloc HO.out _) ⟨w1.heap.size, 0, none⟩ 1 1 [.int .i64 (-77), .int .i64 0, .int .i64 0, .int .i64 0, .string ⟨#[]⟩] rfl rfl (cells_five_new _ _ _ _ _ _ _) (by intro u hu; simp at hu; rcases hu with rfl | rfl | rfl <;> rfl) (by decide) (by unfold maxLen; omega) (by omega) (by simp; omega) _ rfl ?_; intro g cap w2 hown' hgrow _ _; have R := HM.out _ _ _ hown' hgrow; have hcap := LentRAt.cap (l := l) R.1; have HR := hid R; clear hown' hgrow R; obtain ⟨hc1, hc2⟩ := hcap; unfold maxLen at hc2))
  go_ret
  exact ⟨_, _, rfl, HR.out.1, HR.out.2⟩

set_option maxHeartbeats 2000000 in
set_option maxRecDepth 100000 in
theorem staysRules_any (g cap base : Nat) (v : Value) (l : List Rl) (w : World) (hn : LentRAt w base g cap l) (hv : RulesAt w v l) (hl : l.length ≤ 10000) :
    Calls Tryz.prog 14 #[.slice (some ⟨g, 0, none⟩) l.length cap, v] w fun e w' => e = .returned (.bool true) ∧ Kept (fun _ => False) w w' := by
  obtain ⟨p, cp, rfl⟩ := hv.slice
  obtain ⟨hc1, hc2⟩ := hn.cap
  unfold maxLen at hc2
  have Hat := hid (fun (j : Nat) (x : Rl) (hj : l[j]? = some x) (W : World) (hW : Kept (fun _ => False) w W) => (hv.kept0 hW).at hj)
  have Hau := hid (fun (j : Nat) (x : Rl) (hj : l[j]? = some x) (W : World) (hW : Kept (fun _ => False) w W) => ((hn.kept hW).own.rules).at hj)
  have HL := hid (fun (W : World) (hW : Kept (fun _ => False) w W) => by
    have h1 := OwnR.rules (hn.kept hW)
    rw [show l.length + 1 = (l ++ [lentR]).length by simp] at h1
    obtain ⟨g', o', e, _, c, _⟩ := h1.at (j := l.length) (x := lentR) (by simp)
    simp only [Option.some.injEq, Addr.mk.injEq, and_true] at e
    obtain ⟨rfl, rfl⟩ := e
    rw [Nat.zero_add] at c
    exact (c : W.cell? ⟨g, l.length * 5, none⟩ = some (.int .i64 (-77))))
  clear hn hv
  go_enter Tryz.func14, Tryz.ntmps14
  go_wp2
  go_loopw [5] (fun vi wr => ∃ j : Nat, j ≤ l.length ∧ vi = .int .i64 (j : Int) ∧ Hid (Kept (fun _ => False) w wr)) (fun vi _ => l.length - (intOf vi).toNat)
  case atStart => exact ⟨0, Nat.zero_le _, rfl, Kept.refl _ _⟩
  case round =>
    obtain ⟨j, hj, rfl, HI⟩ := hrel
    by_cases hlt : j < l.length
    · have hltz : (j : Int) < (l.length : Int) := by omega
      obtain ⟨x, hx⟩ : ∃ x, l[j]? = some x := ⟨l[j], by simp [hlt]⟩
      obtain ⟨g1, o1, rfl, hcp, c0, c1, c2, c3, c4⟩ := Hat.out j x hx wr HI.out
      obtain ⟨g2, o2, e2, hcq, d0, d1, d2, d3, d4⟩ := Hau.out j x hx wr HI.out
      simp only [Option.some.injEq, Addr.mk.injEq, and_true] at e2
      obtain ⟨rfl, rfl⟩ := e2
      clear hx
      rw [Nat.zero_add] at d0 d1 d2 d3 d4
      go_wp2
      go_quiet (fail)
      go_wp2
      exact ⟨⟨j + 1, hlt, by go_num, HI.out.drewN _⟩, by simp [intOf]; omega⟩
    · obtain rfl : j = l.length := by omega
      have q0 := HL.out wr HI.out
      have hl1 : (l.length : Int) + 1 ≤ (cap : Int) := by omega
      go_wp2
      go_ret
      exact ⟨rfl, HI.out⟩
end Go.Proofs.YtodgkmjiiijfpaaGreat

namespace Go.Proofs.YtodgkmjiiijfpaaGreat
open Go.RowKit

/-- Few rules with short texts. -/
def lightR (l : List Rl) : Bool := (l.take 50).all (fun t => decide (t.suggest.size ≤ 400)) && decide (l.length ≤ 40)
theorem lightR_true {l : List Rl} (h : lightR l = true) : l.length ≤ 40 ∧ ∀ x ∈ l, x.suggest.size ≤ 400 := by
  simp only [lightR, Bool.and_eq_true, decide_eq_true_eq] at h
  obtain ⟨h1, h2⟩ := h
  rw [List.take_of_length_le (by omega), List.all_eq_true] at h1
  exact ⟨h2, fun x hx => by simpa using h1 x hx⟩

set_option maxHeartbeats 2000000 in
set_option maxRecDepth 100000 in
theorem lightR_any (v : Value) (l : List Rl) (w : World) (hv : RulesAt w v l) (hl : l.length ≤ maxLen) (hsz : ∀ x ∈ l, x.suggest.size ≤ 140737488351232) :
    Calls Tryz.prog 4 #[v] w fun e w' => e = .returned (.bool (lightR l)) ∧ Kept (fun _ => False) w w' := by
  unfold maxLen at hl
  obtain ⟨p, cap, rfl⟩ := hv.slice
  have Hat : Hid (∀ (j : Nat) (x : Rl), l[j]? = some x → ∀ W, Kept (fun _ => False) w W → ∃ g o, p = some ⟨g, o, none⟩ ∧ l.length ≤ cap ∧ W.cell? ⟨g, o + j * 5 + 4, none⟩ = some (.string x.suggest)) :=
    fun j x hj W hW => by obtain ⟨g, o, e, h1, _, _, _, _, h2⟩ := (hv.kept0 hW).at hj; exact ⟨g, o, e, h1, h2⟩
  have Hsz := hid hsz
  have hlz : (l.length : Int) ≤ 9223372036854775807 := by omega
  clear hv hsz
  go_enter Tryz.func4, Tryz.ntmps4
  go_wp2
  go_loopw [3] (fun vi wr => ∃ j : Nat, j ≤ l.length ∧ j ≤ 50 ∧ vi = .int .i64 (j : Int) ∧ Hid ((l.take j).all (fun t => decide (t.suggest.size ≤ 400)) = true ∧ wr = w)) (fun vi _ => 50 - (intOf vi).toNat)
  case atStart => exact ⟨0, Nat.zero_le _, Nat.zero_le _, rfl, rfl, rfl⟩
  case round =>
    obtain ⟨j, hj, hj6, rfl, HI⟩ := hrel
    obtain rfl : wr = w := HI.out.2
    have HA := hid HI.out.1
    clear HI
    by_cases hlt : j < l.length
    · have hltz : (j : Int) < (l.length : Int) := by omega
      by_cases h5 : j < 50
      · have h5z : (j : Int) < 50 := by omega
        obtain ⟨x, hx⟩ : ∃ x, l[j]? = some x := ⟨l[j], by simp [hlt]⟩
        obtain ⟨g, o, rfl, hcap, c1⟩ := Hat.out j x hx wr (Kept.refl _ _)
        have hxs := Hsz.out x (List.mem_of_getElem? hx)
        by_cases h4 : 400 < x.suggest.size
        · have h4z : (400 : Int) < (x.suggest.size : Int) := by omega
          have e : lightR l = false := by
            unfold lightR
            have : (l.take 50).all (fun t => decide (t.suggest.size ≤ 400)) = false := by
              rw [List.all_eq_false]
              refine ⟨x, List.mem_of_getElem? (i := j) ?_, by simp; omega⟩
              rw [List.getElem?_take_of_lt h5]
              exact hx
            rw [this]
            rfl
          have HF := hid e
          clear hx e
          go_wp2
          go_ret
          exact ⟨by rw [HF.out]; rfl, Kept.refl _ _⟩
        · have h4z : ¬ (400 : Int) < (x.suggest.size : Int) := by omega
          have R : Hid ((l.take (j + 1)).all (fun t => decide (t.suggest.size ≤ 400)) = true) := by
            show _ = _
            rw [take_next hx, List.all_append, HA.out]
            simp
            omega
          clear hx
          go_wp2
          exact ⟨⟨j + 1, hlt, by omega, by go_num, R.out, by first | rfl | trivial⟩, by simp [intOf]; omega⟩
      · have h5z : ¬ (j : Int) < 50 := by omega
        have e : lightR l = false := by
          unfold lightR
          rw [show decide (l.length ≤ 40) = false from by rw [decide_eq_false_iff_not]; omega, Bool.and_false]
        have HF := hid e
        have h4z : ¬ (l.length : Int) ≤ 40 := by omega
        clear e
        go_wp2
        go_ret
        exact ⟨by rw [HF.out]; rfl, Kept.refl _ _⟩
    · obtain rfl : j = l.length := by omega
      have hltz : ¬ (l.length : Int) < (l.length : Int) := by omega
      have hV := HA.out
      rw [List.take_length] at hV
      have e : lightR l = decide ((l.length : Int) ≤ 40) := by
        unfold lightR
        rw [List.take_of_length_le hj6, hV, Bool.true_and, decide_eq_decide]
        omega
      have HF := hid e
      clear e hV hlt
      by_cases h4 : (l.length : Int) ≤ 40
      · go_wp2
        go_ret
        exact ⟨by rw [HF.out]; simp [h4], Kept.refl _ _⟩
      · have H4 : Hid (decide ((l.length : Int) ≤ 40) = false) := decide_eq_false h4
        go_wp2
        go_ret
        exact ⟨by rw [HF.out, H4.out]; rfl, Kept.refl _ _⟩

end Go.Proofs.YtodgkmjiiijfpaaGreat

namespace Go.Proofs.YtodgkmjiiijfpaaGreat
open Go.ChangeShapes Go.WideShapes Go.ChangeAt Go.RowKit Go.Joins

theorem laidOutO : laidOutB Tryz.prog = true := by kernel_rfl
theorem cellsPk : Tryz.prog.cellsOf 73 = 4 := by kernel_rfl
theorem cellsOpt : Tryz.prog.cellsOf 60 = 2 := by kernel_rfl
theorem cellsInt : Tryz.prog.cellsOf 3 = 1 := by kernel_rfl
theorem cellsStr : Tryz.prog.cellsOf 9 = 1 := by kernel_rfl

section
variable {H : Type} {enc : TypeId × Value → H} {w : World} {base : Nat} {spare : Nat → Bool} {held : Bool}

theorem spot_none {W : World} {g o : Nat} {sp : Option Nat} {u : Value} (h : W.cell? ((⟨g, o, sp⟩ : Addr).add 0) = some u) : sp = none := by
  unfold Addr.add at h
  cases sp with
  | none => rfl
  | some q =>
    exfalso
    unfold World.cell? at h
    split at h <;> simp at h

set_option maxRecDepth 100000 in
theorem open_opt {n : Nat} {a : Addr} {y : DataW H × List MemPlace} (h : (w.cells? base a 2).bind (DataW.trod enc Tryz.prog w base spare held n 60) = some y) :
    ∃ o : Tg, w.cell? (a.add 0) = some (.int .i64 o.type) ∧ w.cell? (a.add 1) = some (.string o.value) ∧ ∃ z, y.1 = .agg [z, .lit (.string o.value.data.toList)] := by
  rw [Option.bind_eq_some_iff] at h
  obtain ⟨cs, hc, ht⟩ := h
  obtain ⟨_, hlen, hcell⟩ := World.cells?_some hc
  obtain ⟨xs, k, hk, hxy, _, hxl, hf⟩ := DataW.trod_struct Tryz.underlying60 ht
  match xs, hxl, cs, hlen with
  | [y0, y1], _, [v0, v1], _ =>
    have g0 := hf 0 _ rfl
    have g1 := hf 1 _ rfl
    simp [cellsInt, cellsStr] at g0 g1
    obtain ⟨i0, e0, _, w0⟩ := DataW.trod_int Tryz.underlying3 g0
    obtain ⟨x, e1, hy1, _⟩ := DataW.trod_string Tryz.underlying9 g1
    simp at e0 e1
    subst e0 e1
    refine ⟨⟨i0, x⟩, by simpa using hcell 0 (by omega), by simpa using hcell 1 (by omega), y0.1, ?_⟩
    rw [hxy]
    simp [hy1]

/-- What a list's data hold of its values. -/
def Holds (l : List Tg) (d : DataW H) : Prop := l = [] ∨ ∃ es sp, d = .slice es sp ∧ ∀ (j : Nat) (x : Tg), l[j]? = some x → ∃ z, es[j]? = some (.agg [z, .lit (.string x.value.data.toList)])

set_option maxRecDepth 100000 in
theorem open_opts_in {fuel : Nat} {v : Value} {d : DataW H} {p : List MemPlace} (hf' : DataW.trod enc Tryz.prog w base spare held fuel 23 [v] = some (d, p)) : ∃ l : List Tg, TagsAt w v l ∧ l.length ≤ maxLen ∧ Holds l d := by
  rcases DataW.trod_slice Tryz.underlying23 hf' with ⟨hcs, _⟩ | ⟨a', len, cap, elems, rest, n, _, hcs, hx, hb, hl, hm, hlen, hel, _, _⟩
  · obtain rfl := List.singleton_inj.1 hcs
    exact ⟨[], Or.inl ⟨rfl, _, _, rfl⟩, Nat.zero_le _, Or.inl rfl⟩
  · obtain rfl := List.singleton_inj.1 hcs
    have each : ∀ i, ∃ o : Tg, i < len → w.cell? ((a'.add (i * 2)).add 0) = some (.int .i64 o.type) ∧ w.cell? ((a'.add (i * 2)).add 1) = some (.string o.value) ∧ ∃ z, (elems.map (·.1))[i]? = some (.agg [z, .lit (.string o.value.data.toList)]) := fun i => by
      by_cases hi : i < len
      · have h1 := hel i hi
        rw [cellsOpt] at h1
        obtain ⟨y, hy⟩ : ∃ y, elems[i]? = some y := ⟨elems[i]'(by omega), by simp⟩
        rw [hy] at h1
        obtain ⟨o, h2, h3, z, h4⟩ := open_opt h1
        exact ⟨o, fun _ => ⟨h2, h3, z, by rw [List.getElem?_map, hy, ← h4]; rfl⟩⟩
      · exact ⟨⟨0, ⟨#[]⟩⟩, fun h => absurd h hi⟩
    obtain ⟨F, hF⟩ := skolem1 each
    refine ⟨(List.range len).map F, ?_, by simp; omega, ?_⟩
    · obtain ⟨g, o, sp⟩ := a'
      cases len with
      | zero => exact Or.inl ⟨rfl, some ⟨g, o, sp⟩, cap, rfl⟩
      | succ m =>
        have h0 := (hF 0 (by omega)).1
        have hsp : sp = none := by
          have h00 : w.cell? ((⟨g, o, sp⟩ : Addr).add 0) = some (.int .i64 (F 0).type) := by
            have e : ((⟨g, o, sp⟩ : Addr).add (0 * 2)).add 0 = (⟨g, o, sp⟩ : Addr).add 0 := by
              rw [Nat.zero_mul]
              unfold Addr.add
              simp
            rw [← e]
            exact h0
          exact spot_none h00
        subst hsp
        refine Or.inr ⟨g, o, cap, by simp, by simpa using hl, hm, fun j x hj => ?_⟩
        have hjl : j < m + 1 := by
          have := (List.getElem?_eq_some_iff.1 hj).1
          simpa using this
        have hx : x = F j := by
          rw [List.getElem?_map, List.getElem?_range hjl] at hj
          simpa using hj.symm
        subst hx
        obtain ⟨k1, k2, _⟩ := hF j hjl
        simp only [add_none] at k1 k2
        exact ⟨k1, k2⟩
    · have hd : d = .slice (elems.map (·.1)) (rest.map (·.1)) := congrArg Prod.fst hx
      refine Or.inr ⟨_, _, hd, fun j x hj => ?_⟩
      have hjl : j < len := by
        have := (List.getElem?_eq_some_iff.1 hj).1
        simpa using this
      have hx : x = F j := by
        rw [List.getElem?_map, List.getElem?_range hjl] at hj
        simpa using hj.symm
      subst hx
      exact (hF j hjl).2.2

set_option maxRecDepth 100000 in
theorem open_opts {r : Reach} {b0 : Nat} {v : Value} {d : DataW H} {p : List MemPlace} (hv : Value.okWide Tryz.prog w r b0 23 v) (h : DataW.Trod enc Tryz.prog w base spare held 23 v d p) : ∃ l : List Tg, TagsAt w v l ∧ l.length ≤ maxLen ∧ Holds l d := by
  obtain ⟨a, len, cap, rfl⟩ := okWide_slice Tryz.underlying23 hv
  obtain ⟨fuel, hf⟩ := h
  have hf' : DataW.trod enc Tryz.prog w base spare held fuel 23 [.slice a len cap] = some (d, p) := by simpa [Value.cells] using hf
  exact open_opts_in hf'

set_option maxRecDepth 100000 in
theorem open_pack {r : Reach} {b0 : Nat} {v : Value} {d : DataW H} {p : List MemPlace} (hv : Value.okWide Tryz.prog w r b0 73 v) (h : DataW.Trod enc Tryz.prog w base spare held 73 v d p) :
    ∃ (c i : Int) (u : Value) (l : List Tg) (x : ByteArray), v = pkV c i u x ∧ TagsAt w u l ∧ l.length ≤ maxLen ∧ ∃ y0 y1 y2, d = .agg [y0, y1, y2, .lit (.string x.data.toList)] ∧ Holds l y2 := by
  obtain ⟨c0, c1, c2, c3, y0, y1, y2, y3, n, rfl, hd, _, h0, h1, h2, h3⟩ := open_agg4 Tryz.underlying73 (by kernel_rfl) cellsPk hv h
  obtain ⟨c, e0, hy0, _⟩ := DataW.trod_int Tryz.underlying3 h0
  obtain ⟨i, e1, hy1, _⟩ := DataW.trod_int Tryz.underlying3 h1
  obtain ⟨x, e3, hy3, _⟩ := DataW.trod_string Tryz.underlying9 h3
  simp at e0 e1 e3
  subst e0 e1 e3
  obtain ⟨l, hl, hm, hH⟩ := open_opts_in (d := y2.1) (p := y2.2) h2
  exact ⟨c, i, c2, l, x, rfl, hl, hm, _, _, _, by rw [hd, hy3], hH⟩

theorem weightsAll_mem {P : Program} {e : TypeId} : ∀ {l : List (DataW H)} {d : DataW H}, d ∈ l → ∀ n ∈ d.weights P e, n ∈ DataW.weightsAll P e l
  | a :: l, d, h, n, hn => by
    simp only [DataW.weightsAll, List.mem_append]
    rcases List.mem_cons.1 h with rfl | h
    · exact Or.inl hn
    · exact Or.inr (weightsAll_mem h n hn)

set_option maxRecDepth 100000 in
theorem sized_opts {ts : List TypeId} {ds : List (DataW H)} (h : (DataW.weightsEach Tryz.prog ts ds).all (· ≤ reachBytes) = true) {j : Nat} {d : DataW H} {l : List Tg} (ht : ts[j]? = some 23) (hd : ds[j]? = some d) (hl : Holds l d) :
    ∀ x ∈ l, x.value.size ≤ 140737488351232 := by
  intro x hx
  rcases hl with rfl | ⟨es, sp, rfl, he⟩
  · simp at hx
  · obtain ⟨i, hi⟩ := List.getElem?_of_mem hx
    obtain ⟨z, hz⟩ := he i x hi
    have hm1 : x.value.data.toList.length ∈ DataW.weights Tryz.prog 60 (.agg [z, .lit (.string x.value.data.toList)] : DataW H) := by
      simp only [DataW.weights, Tryz.underlying60]
      exact DataW.weights_mem_each (j := 1) (t := 9) (d := .lit (.string x.value.data.toList)) rfl rfl _ (by simp [DataW.weights])
    have hm : x.value.data.toList.length ∈ DataW.weights Tryz.prog 23 (.slice es sp : DataW H) := by
      simp only [DataW.weights, Tryz.underlying23, List.mem_cons, List.mem_append]
      exact Or.inr (Or.inl (weightsAll_mem (List.mem_of_getElem? hz) _ hm1))
    have := List.all_eq_true.1 h _ (DataW.weights_mem_each ht hd _ hm)
    have h2 : x.value.data.toList.length ≤ reachBytes := by simpa using this
    rw [Lib.size_eq]
    exact h2

set_option maxRecDepth 100000 in
theorem sized_pack {ts : List TypeId} {ds : List (DataW H)} (h : (DataW.weightsEach Tryz.prog ts ds).all (· ≤ reachBytes) = true) {j : Nat} {y0 y1 y2 : DataW H} {x : ByteArray} {l : List Tg}
    (ht : ts[j]? = some 73) (hd : ds[j]? = some (.agg [y0, y1, y2, .lit (.string x.data.toList)])) (hl : Holds l y2) : x.size ≤ 140737488351232 ∧ ∀ z ∈ l, z.value.size ≤ 140737488351232 := by
  constructor
  · have hm : x.data.toList.length ∈ DataW.weights Tryz.prog 73 (.agg [y0, y1, y2, .lit (.string x.data.toList)] : DataW H) := by
      simp only [DataW.weights, Tryz.underlying73]
      exact DataW.weights_mem_each (j := 3) (t := 9) (d := .lit (.string x.data.toList)) rfl rfl _ (by simp [DataW.weights])
    have := List.all_eq_true.1 h _ (DataW.weights_mem_each ht hd _ hm)
    have h2 : x.data.toList.length ≤ reachBytes := by simpa using this
    rw [Lib.size_eq]
    exact h2
  · intro x' hx
    rcases hl with rfl | ⟨es, sp, rfl, he⟩
    · simp at hx
    · obtain ⟨i, hi⟩ := List.getElem?_of_mem hx
      obtain ⟨z, hz⟩ := he i x' hi
      have hm1 : x'.value.data.toList.length ∈ DataW.weights Tryz.prog 60 (.agg [z, .lit (.string x'.value.data.toList)] : DataW H) := by
        simp only [DataW.weights, Tryz.underlying60]
        exact DataW.weights_mem_each (j := 1) (t := 9) (d := .lit (.string x'.value.data.toList)) rfl rfl _ (by simp [DataW.weights])
      have hm2 : x'.value.data.toList.length ∈ DataW.weights Tryz.prog 23 (.slice es sp : DataW H) := by
        simp only [DataW.weights, Tryz.underlying23, List.mem_cons, List.mem_append]
        exact Or.inr (Or.inl (weightsAll_mem (List.mem_of_getElem? hz) _ hm1))
      have hm : x'.value.data.toList.length ∈ DataW.weights Tryz.prog 73 (.agg [y0, y1, .slice es sp, .lit (.string x.data.toList)] : DataW H) := by
        simp only [DataW.weights, Tryz.underlying73]
        exact DataW.weights_mem_each (j := 2) (t := 23) (d := .slice es sp) rfl rfl _ hm2
      have := List.all_eq_true.1 h _ (DataW.weights_mem_each ht hd _ hm)
      have h2 : x'.value.data.toList.length ≤ reachBytes := by simpa using this
      rw [Lib.size_eq]
      exact h2
end
end Go.Proofs.YtodgkmjiiijfpaaGreat

namespace Go.Proofs.YtodgkmjiiijfpaaGreat
open Go.ChangeShapes Go.WideShapes Go.ChangeAt Go.RowKit Go.Joins

theorem cellsRule : Tryz.prog.cellsOf 25 = 5 := by kernel_rfl

section
variable {H : Type} {enc : TypeId × Value → H} {w : World} {base : Nat} {spare : Nat → Bool} {held : Bool}

set_option maxRecDepth 100000 in
theorem rule_cells {n : Nat} {cs : List Value} {y : DataW H × List MemPlace} (hlen : cs.length = 5) (ht : DataW.trod enc Tryz.prog w base spare held n 25 cs = some y) :
    ∃ r : Rl, cs = rlCells r ∧ ∃ z0 z1 z2 z3, y.1 = .agg [z0, z1, z2, z3, .lit (.string r.suggest.data.toList)] := by
  obtain ⟨xs, k, hk, hxy, _, hxl, hf⟩ := DataW.trod_struct Tryz.underlying25 ht
  match xs, hxl, cs, hlen with
  | [y0, y1, y2, y3, y4], _, [v0, v1, v2, v3, v4], _ =>
    have g0 := hf 0 _ rfl
    have g1 := hf 1 _ rfl
    have g2 := hf 2 _ rfl
    have g3 := hf 3 _ rfl
    have g4 := hf 4 _ rfl
    simp [cellsInt, cellsStr] at g0 g1 g2 g3 g4
    obtain ⟨i0, e0, _, _⟩ := DataW.trod_int Tryz.underlying3 g0
    obtain ⟨i1, e1, _, _⟩ := DataW.trod_int Tryz.underlying3 g1
    obtain ⟨i2, e2, _, _⟩ := DataW.trod_int Tryz.underlying3 g2
    obtain ⟨i3, e3, _, _⟩ := DataW.trod_int Tryz.underlying3 g3
    obtain ⟨x, e4, hy4, _⟩ := DataW.trod_string Tryz.underlying9 g4
    simp at e0 e1 e2 e3 e4
    subst e0 e1 e2 e3 e4
    refine ⟨⟨i0, i1, i2, i3, x⟩, rfl, y0.1, y1.1, y2.1, y3.1, ?_⟩
    rw [hxy]
    simp [hy4]

set_option maxRecDepth 100000 in
theorem open_rule {r : Reach} {b0 : Nat} {v : Value} {d : DataW H} {p : List MemPlace} (hv : Value.okWide Tryz.prog w r b0 25 v) (h : DataW.Trod enc Tryz.prog w base spare held 25 v d p) :
    ∃ o : Rl, v = rlV o ∧ ∃ z0 z1 z2 z3, d = .agg [z0, z1, z2, z3, .lit (.string o.suggest.data.toList)] := by
  obtain ⟨cs, rfl, hsz⟩ := okWide_struct Tryz.underlying25 hv
  obtain ⟨fuel, hf⟩ := h
  have hf' : DataW.trod enc Tryz.prog w base spare held fuel 25 cs.toList = some (d, p) := by simpa [Value.cells] using hf
  obtain ⟨o, e, z⟩ := rule_cells (by rw [Array.length_toList, hsz, cellsRule]) hf'
  refine ⟨o, ?_, z⟩
  unfold rlV
  congr 1
  exact Array.toList_inj.1 (by rw [e]; rfl)

/-- What a list's data hold of its rules' texts. -/
def HoldsR (l : List Rl) (d : DataW H) : Prop := l = [] ∨ ∃ es sp, d = .slice es sp ∧ ∀ (j : Nat) (x : Rl), l[j]? = some x → ∃ z0 z1 z2 z3, es[j]? = some (.agg [z0, z1, z2, z3, .lit (.string x.suggest.data.toList)])

set_option maxRecDepth 100000 in
theorem open_rules_in {fuel : Nat} {v : Value} {d : DataW H} {p : List MemPlace} (hf' : DataW.trod enc Tryz.prog w base spare held fuel 22 [v] = some (d, p)) : ∃ l : List Rl, RulesAt w v l ∧ l.length ≤ maxLen ∧ HoldsR l d := by
  rcases DataW.trod_slice Tryz.underlying22 hf' with ⟨hcs, _⟩ | ⟨a', len, cap, elems, rest, n, _, hcs, hx, hb, hl, hm, hlen, hel, _, _⟩
  · obtain rfl := List.singleton_inj.1 hcs
    exact ⟨[], Or.inl ⟨rfl, _, _, rfl⟩, Nat.zero_le _, Or.inl rfl⟩
  · obtain rfl := List.singleton_inj.1 hcs
    have each : ∀ i, ∃ o : Rl, i < len → (∀ q u, (rlCells o)[q]? = some u → w.cell? ((a'.add (i * 5)).add q) = some u) ∧ ∃ z0 z1 z2 z3, (elems.map (·.1))[i]? = some (.agg [z0, z1, z2, z3, .lit (.string o.suggest.data.toList)]) := fun i => by
      by_cases hi : i < len
      · have h1 := hel i hi
        rw [cellsRule] at h1
        obtain ⟨y, hy⟩ : ∃ y, elems[i]? = some y := ⟨elems[i]'(by omega), by simp⟩
        rw [hy, Option.bind_eq_some_iff] at h1
        obtain ⟨cs, hc, ht⟩ := h1
        obtain ⟨_, hcl, hcell⟩ := World.cells?_some hc
        obtain ⟨o, e, z0, z1, z2, z3, h4⟩ := rule_cells hcl ht
        refine ⟨o, fun _ => ⟨fun q u hq => ?_, z0, z1, z2, z3, by rw [List.getElem?_map, hy, ← h4]; rfl⟩⟩
        subst e
        have hql := (List.getElem?_eq_some_iff.1 hq).1
        have := hcell q (by simpa [rlCells] using hql)
        rw [this]
        exact hq
      · exact ⟨⟨0, 0, 0, 0, ⟨#[]⟩⟩, fun h => absurd h hi⟩
    obtain ⟨F, hF⟩ := skolem1 each
    refine ⟨(List.range len).map F, ?_, by simp; omega, ?_⟩
    · obtain ⟨g, o, sp⟩ := a'
      cases len with
      | zero => exact Or.inl ⟨rfl, some ⟨g, o, sp⟩, cap, rfl⟩
      | succ m =>
        have h0 := (hF 0 (by omega)).1 0 _ rfl
        have hsp : sp = none := by
          have e : ((⟨g, o, sp⟩ : Addr).add (0 * 5)).add 0 = (⟨g, o, sp⟩ : Addr).add 0 := by
            rw [Nat.zero_mul]
            unfold Addr.add
            simp
          rw [e] at h0
          exact spot_none h0
        subst hsp
        refine Or.inr ⟨g, o, cap, by simp, by simpa using hl, hm, fun j x hj q u hq => ?_⟩
        have hjl : j < m + 1 := by
          have := (List.getElem?_eq_some_iff.1 hj).1
          simpa using this
        have hx : x = F j := by
          rw [List.getElem?_map, List.getElem?_range hjl] at hj
          simpa using hj.symm
        subst hx
        have k1 := (hF j hjl).1 q u hq
        simp only [add_none] at k1
        exact k1
    · have hd : d = .slice (elems.map (·.1)) (rest.map (·.1)) := congrArg Prod.fst hx
      refine Or.inr ⟨_, _, hd, fun j x hj => ?_⟩
      have hjl : j < len := by
        have := (List.getElem?_eq_some_iff.1 hj).1
        simpa using this
      have hx : x = F j := by
        rw [List.getElem?_map, List.getElem?_range hjl] at hj
        simpa using hj.symm
      subst hx
      exact (hF j hjl).2

set_option maxRecDepth 100000 in
theorem open_rules {r : Reach} {b0 : Nat} {v : Value} {d : DataW H} {p : List MemPlace} (hv : Value.okWide Tryz.prog w r b0 22 v) (h : DataW.Trod enc Tryz.prog w base spare held 22 v d p) : ∃ l : List Rl, RulesAt w v l ∧ l.length ≤ maxLen ∧ HoldsR l d := by
  obtain ⟨a, len, cap, rfl⟩ := okWide_slice Tryz.underlying22 hv
  obtain ⟨fuel, hf⟩ := h
  have hf' : DataW.trod enc Tryz.prog w base spare held fuel 22 [.slice a len cap] = some (d, p) := by simpa [Value.cells] using hf
  exact open_rules_in hf'

set_option maxRecDepth 100000 in
theorem sized_rule {ts : List TypeId} {ds : List (DataW H)} (h : (DataW.weightsEach Tryz.prog ts ds).all (· ≤ reachBytes) = true) {j : Nat} {z0 z1 z2 z3 : DataW H} {x : ByteArray}
    (ht : ts[j]? = some 25) (hd : ds[j]? = some (.agg [z0, z1, z2, z3, .lit (.string x.data.toList)])) : x.size ≤ 140737488351232 := by
  have hm : x.data.toList.length ∈ DataW.weights Tryz.prog 25 (.agg [z0, z1, z2, z3, .lit (.string x.data.toList)] : DataW H) := by
    simp only [DataW.weights, Tryz.underlying25]
    exact DataW.weights_mem_each (j := 4) (t := 9) (d := .lit (.string x.data.toList)) rfl rfl _ (by simp [DataW.weights])
  have := List.all_eq_true.1 h _ (DataW.weights_mem_each ht hd _ hm)
  have h2 : x.data.toList.length ≤ reachBytes := by simpa using this
  rw [Lib.size_eq]
  exact h2

set_option maxRecDepth 100000 in
theorem sized_rules {ts : List TypeId} {ds : List (DataW H)} (h : (DataW.weightsEach Tryz.prog ts ds).all (· ≤ reachBytes) = true) {j : Nat} {d : DataW H} {l : List Rl} (ht : ts[j]? = some 22) (hd : ds[j]? = some d) (hl : HoldsR l d) :
    ∀ x ∈ l, x.suggest.size ≤ 140737488351232 := by
  intro x hx
  rcases hl with rfl | ⟨es, sp, rfl, he⟩
  · simp at hx
  · obtain ⟨i, hi⟩ := List.getElem?_of_mem hx
    obtain ⟨z0, z1, z2, z3, hz⟩ := he i x hi
    have hm1 : x.suggest.data.toList.length ∈ DataW.weights Tryz.prog 25 (.agg [z0, z1, z2, z3, .lit (.string x.suggest.data.toList)] : DataW H) := by
      simp only [DataW.weights, Tryz.underlying25]
      exact DataW.weights_mem_each (j := 4) (t := 9) (d := .lit (.string x.suggest.data.toList)) rfl rfl _ (by simp [DataW.weights])
    have hm : x.suggest.data.toList.length ∈ DataW.weights Tryz.prog 22 (.slice es sp : DataW H) := by
      simp only [DataW.weights, Tryz.underlying22, List.mem_cons, List.mem_append]
      exact Or.inr (Or.inl (weightsAll_mem (List.mem_of_getElem? hz) _ hm1))
    have := List.all_eq_true.1 h _ (DataW.weights_mem_each ht hd _ hm)
    have h2 : x.suggest.data.toList.length ≤ reachBytes := by simpa using this
    rw [Lib.size_eq]
    exact h2
end

theorem in64_wf {x : Int} (h : (Lit.int .i64 x).wf = true) : In64 x := bounds_i64 h

section
variable {H : Type} {enc : TypeId × Value → H} {w : World} {base : Nat} {spare : Nat → Bool} {held : Bool}

set_option maxRecDepth 100000 in
theorem opt_wf {n : Nat} {a : Addr} {y : DataW H × List MemPlace} (h : (w.cells? base a 2).bind (DataW.trod enc Tryz.prog w base spare held n 60) = some y) : ∃ i, w.cell? (a.add 0) = some (.int .i64 i) ∧ In64 i := by
  rw [Option.bind_eq_some_iff] at h
  obtain ⟨cs, hc, ht⟩ := h
  obtain ⟨_, hlen, hcell⟩ := World.cells?_some hc
  obtain ⟨xs, k, hk, hxy, _, hxl, hf⟩ := DataW.trod_struct Tryz.underlying60 ht
  match xs, hxl, cs, hlen with
  | [y0, y1], _, [v0, v1], _ =>
    have g0 := hf 0 _ rfl
    simp [cellsInt] at g0
    obtain ⟨i0, e0, _, w0⟩ := DataW.trod_int Tryz.underlying3 g0
    simp at e0
    subst e0
    exact ⟨i0, by simpa using hcell 0 (by omega), in64_wf w0⟩
set_option maxRecDepth 100000 in
theorem rule_wf {n : Nat} {a : Addr} {y : DataW H × List MemPlace} (h : (w.cells? base a 5).bind (DataW.trod enc Tryz.prog w base spare held n 25) = some y) : ∃ i, w.cell? (a.add 0) = some (.int .i64 i) ∧ In64 i := by
  rw [Option.bind_eq_some_iff] at h
  obtain ⟨cs, hc, ht⟩ := h
  obtain ⟨_, hlen, hcell⟩ := World.cells?_some hc
  obtain ⟨xs, k, hk, hxy, _, hxl, hf⟩ := DataW.trod_struct Tryz.underlying25 ht
  match xs, hxl, cs, hlen with
  | [y0, y1, y2, y3, y4], _, [v0, v1, v2, v3, v4], _ =>
    have g0 := hf 0 _ rfl
    simp [cellsInt] at g0
    obtain ⟨i0, e0, _, w0⟩ := DataW.trod_int Tryz.underlying3 g0
    simp at e0
    subst e0
    exact ⟨i0, by simpa using hcell 0 (by omega), in64_wf w0⟩

set_option maxRecDepth 100000 in
theorem opts64 {v : Value} {d : DataW H} {p : List MemPlace} {l : List Tg} (h : DataW.Trod enc Tryz.prog w base spare held 23 v d p) (hv : TagsAt w v l) : (∀ x ∈ l, In64 x.type) ∧ OptsAt w v l := by
  obtain ⟨fuel, hf⟩ := h
  obtain ⟨q, cq, hq⟩ := hv.slice
  subst hq
  have hf' : DataW.trod enc Tryz.prog w base spare held fuel 23 [.slice q l.length cq] = some (d, p) := by simpa [Value.cells] using hf
  rcases DataW.trod_slice Tryz.underlying23 hf' with ⟨hcs, _⟩ | ⟨a', len, cap, elems, rest, n, _, hcs, hx, hb, hl, hm, hlen, hel, _, _⟩
  · have e := List.singleton_inj.1 hcs
    simp only [Value.slice.injEq] at e
    obtain ⟨rfl, e1, rfl⟩ := e
    refine ⟨fun x hx => ?_, hv, fun n cap e2 => ?_⟩
    · rw [List.eq_nil_of_length_eq_zero e1] at hx
      cases hx
    · simp at e2
      omega
  · have e := List.singleton_inj.1 hcs
    simp only [Value.slice.injEq] at e
    obtain ⟨rfl, e1, rfl⟩ := e
    refine ⟨fun x hx => ?_, hv, fun n cap e2 => by simp at e2⟩
    obtain ⟨j, hj⟩ := List.getElem?_of_mem hx
    have hjl := (List.getElem?_eq_some_iff.1 hj).1
    obtain ⟨g, o, e3, _, c0, _⟩ := hv.at hj
    simp only [Option.some.injEq] at e3
    subst e3
    have h1 := hel j (by omega)
    rw [cellsOpt] at h1
    obtain ⟨y, hy⟩ : ∃ y, elems[j]? = some y := ⟨elems[j]'(by omega), by simp⟩
    rw [hy] at h1
    obtain ⟨i, hi, hw⟩ := opt_wf h1
    simp only [add_none, Nat.add_zero] at hi
    rw [hi] at c0
    simp at c0
    rw [← c0]
    exact hw
set_option maxRecDepth 100000 in
theorem rules64 {v : Value} {d : DataW H} {p : List MemPlace} {l : List Rl} (h : DataW.Trod enc Tryz.prog w base spare held 22 v d p) (hv : RulesAt w v l) : ∀ x ∈ l, In64 x.type := by
  obtain ⟨fuel, hf⟩ := h
  obtain ⟨q, cq, hq⟩ := hv.slice
  subst hq
  have hf' : DataW.trod enc Tryz.prog w base spare held fuel 22 [.slice q l.length cq] = some (d, p) := by simpa [Value.cells] using hf
  intro x hx
  obtain ⟨j, hj⟩ := List.getElem?_of_mem hx
  have hjl := (List.getElem?_eq_some_iff.1 hj).1
  obtain ⟨g, o, e3, _, c0, _⟩ := hv.at hj
  subst e3
  rcases DataW.trod_slice Tryz.underlying22 hf' with ⟨hcs, _⟩ | ⟨a', len, cap, elems, rest, n, _, hcs, hx, hb, hl, hm, hlen, hel, _, _⟩
  · have e := List.singleton_inj.1 hcs
    simp at e
  · have e := List.singleton_inj.1 hcs
    simp only [Value.slice.injEq, Option.some.injEq] at e
    obtain ⟨rfl, e1, rfl⟩ := e
    have h1 := hel j (by omega)
    rw [cellsRule] at h1
    obtain ⟨y, hy⟩ : ∃ y, elems[j]? = some y := ⟨elems[j]'(by omega), by simp⟩
    rw [hy] at h1
    obtain ⟨i, hi, hw⟩ := rule_wf h1
    simp only [add_none, Nat.add_zero] at hi
    rw [hi] at c0
    simp at c0
    rw [← c0]
    exact hw
end
end Go.Proofs.YtodgkmjiiijfpaaGreat
