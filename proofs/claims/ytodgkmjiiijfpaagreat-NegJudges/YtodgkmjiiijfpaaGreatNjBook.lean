/- The contracts of the book's name, markOptions, SameOptions and copyOptions. · Lists of tags that a book keeps, in memory: their rows, each apart from the others. · A book that keeps lists of options: the contracts of stillOptions, putOptions, growOptions, markedOptions. · A book that keeps lists of options: the contracts of markedOptions and growOptions. · The contracts of the book's copyOptions, LentOptions, StaysOptions. · The contract of the book's StaysOptions; and what a book comes to by one list more. · The contract of the book's Tags: one list more. · The contract of the book's Tags: one list more. -/
import Derived.Test.YtodgkmjiiijfpaaGreatOpRow
import Derived.Test.YtodgkmjiiijfpaaGreatBookKit
import Derived.Lib.AppendZeros
import Derived.Deep.Upon
import Derived.Test.YtodgkmjiiijfpaaGreatOpApp
import Derived.Deep.RegionHeld3
import Derived.Deep.RegionHeldLaw
import Derived.Deep.AppendLies
namespace Go.Proofs.YtodgkmjiiijfpaaGreat
open Go.RowKit

def nameF (i k : Nat) : ByteArray := ⟨#[109, UInt8.ofNat (65 + i % 26), UInt8.ofNat (65 + i / 26 % 26), UInt8.ofNat (48 + k % 10), UInt8.ofNat (48 + k / 10 % 10), UInt8.ofNat (48 + k / 100 % 10)]⟩

theorem conv_six (w : World) (i k : Nat) (g : Nat) (hg : w.heap[g]? = some (.cells #[.int .u8 109, .int .u8 (65 + (i : Int) % 26), .int .u8 (65 + (i : Int) / 26 % 26), .int .u8 (48 + (k : Int) % 10), .int .u8 (48 + (k : Int) / 10 % 10), .int .u8 (48 + (k : Int) / 100 % 10)] 5 (0, 0))) :
    (convert 220 9 (.slice (some ⟨g, 0, none⟩) 6 6)).run Tryz.prog w = .ok (.string (nameF i k)) w := by
  refine put_conv (base := 0) (n := 6) (l := [109, UInt8.ofNat (65 + i % 26), UInt8.ofNat (65 + i / 26 % 26), UInt8.ofNat (48 + k % 10), UInt8.ofNat (48 + k / 10 % 10), UInt8.ofNat (48 + k / 100 % 10)]) ⟨rfl, Or.inr ⟨g, 6, _, rfl, Nat.zero_le _, hg, Nat.le_refl _, by unfold maxLen; omega, rfl, ?_⟩⟩
  simp only [Lib.byteCells, List.map_cons, List.map_nil, UInt8.toNat_ofNat']
  rw [Nat.mod_eq_of_lt (show 65 + i % 26 < 2 ^ 8 by omega), Nat.mod_eq_of_lt (show 65 + i / 26 % 26 < 2 ^ 8 by omega), Nat.mod_eq_of_lt (show 48 + k % 10 < 2 ^ 8 by omega), Nat.mod_eq_of_lt (show 48 + k / 10 % 10 < 2 ^ 8 by omega), Nat.mod_eq_of_lt (show 48 + k / 100 % 10 < 2 ^ 8 by omega)]
  simp

set_option maxHeartbeats 1000000 in
set_option maxRecDepth 100000 in
theorem name_any (i k : Nat) (hi : i ≤ 1000000) (hk : k ≤ 1000000) (w : World) :
    Calls Tryz.prog 168 #[.int .i64 (i : Int), .int .i64 (k : Int)] w fun e w' => e = .returned (.string (nameF i k)) ∧ Kept (fun _ => False) w w' := by
  have hcv := conv_six (w.alloc (.cells #[.int .u8 109, .int .u8 (65 + (i : Int) % 26), .int .u8 (65 + (i : Int) / 26 % 26), .int .u8 (48 + (k : Int) % 10), .int .u8 (48 + (k : Int) / 10 % 10), .int .u8 (48 + (k : Int) / 100 % 10)] 5)) i k w.heap.size (heap_alloc_new w _)
  go_enter Tryz.func168, Tryz.ntmps168
  go_wp2
  go_ret
  exact ⟨rfl, (Kept.refl _ w).alloc _⟩

def markT (i k : Nat) : Tg := ⟨-1 - (i : Int), nameF i k⟩
def marksT (i a n : Nat) : List Tg := (List.range n).map fun j => markT i (a + j)
theorem marksT_length (i a n : Nat) : (marksT i a n).length = n := by simp [marksT]
theorem marksT_snoc (i a n : Nat) : marksT i a (n + 1) = marksT i a n ++ [markT i (a + n)] := by simp [marksT, List.range_succ]
theorem marksT_append (i a n m : Nat) : marksT i a (n + m) = marksT i a n ++ marksT i (a + n) m := by
  induction m with
  | zero => simp [marksT]
  | succ m ih => rw [← Nat.add_assoc, marksT_snoc, ih, marksT_snoc, List.append_assoc, Nat.add_assoc]
theorem marksT_get {i a n j : Nat} (h : j < n) : (marksT i a n)[j]? = some (markT i (a + j)) := by simp [marksT, h]

set_option maxHeartbeats 2000000 in
set_option maxRecDepth 100000 in
theorem markOptions_any (i a n : Nat) (hi : i ≤ 1000) (ha : a ≤ 10000) (hn : n ≤ 10000) (w : World) :
    Calls Tryz.prog 145 #[.int .i64 (i : Int), .int .i64 (a : Int), .int .i64 (n : Int)] w fun e w' => ∃ v, e = .returned v ∧ OwnO w' w.heap.size v (marksT i a n) ∧ Kept (fun _ => False) w w' := by
  obtain ⟨i0, hi0, hz0, hz1, hz2⟩ := info_parts infoOpt
  go_enter Tryz.func145, Tryz.ntmps145
  go_wp2
  go_loopw [7, 8] (fun v7 vk wr => ∃ j : Nat, j ≤ n ∧ vk = .int .i64 ((a : Int) + (j : Int)) ∧ Hid (OwnO wr w.heap.size v7 (marksT i a j) ∧ Kept (fun _ => False) w wr)) (fun _ vk _ => (a + n) - (intOf vk).toNat)
  case atStart => exact ⟨0, Nat.zero_le _, by simp, OwnO.nil _ _, Kept.refl _ _⟩
  case round =>
    obtain ⟨j, hj, rfl, HI⟩ := hrel
    by_cases hlt : j < n
    · have hltz : (a : Int) + (j : Int) < (a : Int) + (n : Int) := by omega
      have HN := hid (name_any i (a + j) (by omega) (by omega))
      rw [show ((a + j : Nat) : Int) = (a : Int) + (j : Int) by omega] at HN
      obtain ⟨y, hy⟩ : ∃ y, y = nameF i (a + j) := ⟨_, rfl⟩
      rw [← hy] at HN
      have hmk : (⟨-1 - (i : Int), y⟩ : Tg) = markT i (a + j) := by rw [hy]; rfl
      obtain ⟨L, hL⟩ : ∃ L, L = marksT i a j := ⟨_, rfl⟩
      have HLn : Hid (L.length = j) := by show _ = _; rw [hL, marksT_length]
      have HM : Hid (marksT i a (j + 1) = L ++ [⟨-1 - (i : Int), y⟩]) := by show _ = _; rw [marksT_snoc, hL, hmk]
      rw [← hL] at HI
      have HMid : MidO w u7 L wr := HI.out
      clear hy hmk hL HI
      have HM7 := hid HMid
      clear HMid
      go_wp2_with fail
      refine (HN.out _).mono ?_
      rintro e1 w1 ⟨rfl, hk1⟩
      have O1 := hid (HM7.out.1.kept hk1)
      have K1 := hid (HM7.out.2.trans hk1)
      have hs1 := K1.out.size
      clear hk1 HM7 HN
      go_wp2_with (at_builtin; refine wpList_append_own _ rfl _ _ 23 rfl w.heap.size 60 i0 (.agg #[.int .i64 0, .string ⟨#[]⟩]) 2 24 Tryz.underlying23 hi0 hz0 hz1 hz2 rfl (by decide) _ L.length (rowT L) rfl (World.ownsRow.alloc O1.out _) ⟨w1.heap.size, 0, none⟩ 1 1 [.int .i64 (-1 - (i : Int)), .string y] rfl rfl ?c1 ?c2 ?c3 ?c4 ?c5 ?_)
      case c1 => exact cells_two_new _ _ _ _
      case c2 => intro u hu; simp at hu; rcases hu with rfl | rfl <;> rfl
      case c3 => have := HLn.out; unfold maxLen; omega
      case c4 => have := HLn.out; omega
      case c5 => simp; omega
      intro v' w2 hown' hgrow _
      have R := hid (own_moreO (x := ⟨-1 - (i : Int), y⟩) K1.out O1.out hown' hgrow)
      clear hown' hgrow O1 K1
      go_wp2
      exact ⟨⟨j + 1, hlt, by go_num, by rw [HM.out]; exact R.out⟩, by simp [intOf]; omega⟩
    · obtain rfl : j = n := by omega
      have hltz : ¬ (a : Int) + (j : Int) < (a : Int) + (j : Int) := by omega
      go_wp2
      go_ret
      exact ⟨_, rfl, HI.out.1, HI.out.2⟩
set_option maxHeartbeats 2000000 in
set_option maxRecDepth 100000 in
theorem sameOptions_any (v u : Value) (l m : List Tg) (w : World) (hv : TagsAt w v l) (hu : TagsAt w u m) (hl : l.length ≤ 1000000) :
    Calls Tryz.prog 11 #[v, u] w fun e w' => e = .returned (.bool (sameF l m)) ∧ Kept (fun _ => False) w w' := by
  obtain ⟨p, cap, rfl⟩ := hv.slice
  obtain ⟨q, cbp, rfl⟩ := hu.slice
  by_cases hlen : l.length = m.length
  · have hne : ((l.length : Int) != (m.length : Int)) = false := by simp [hlen]
    have Hat : Hid (∀ (j : Nat) (x : Tg), l[j]? = some x → ∀ W, Kept (fun _ => False) w W → ∃ g o, p = some ⟨g, o, none⟩ ∧ l.length ≤ cap ∧ W.cell? ⟨g, o + j * 2, none⟩ = some (.int .i64 x.type) ∧ W.cell? ⟨g, o + j * 2 + 1, none⟩ = some (.string x.value)) :=
      fun j x hj W hW => (hv.kept0 hW).at hj
    have Hau : Hid (∀ (j : Nat) (x : Tg), m[j]? = some x → ∀ W, Kept (fun _ => False) w W → ∃ g o, q = some ⟨g, o, none⟩ ∧ m.length ≤ cbp ∧ W.cell? ⟨g, o + j * 2, none⟩ = some (.int .i64 x.type) ∧ W.cell? ⟨g, o + j * 2 + 1, none⟩ = some (.string x.value)) :=
      fun j x hj W hW => (hu.kept0 hW).at hj
    have HL := hid hlen
    clear hv hu hlen
    go_enter Tryz.func11, Tryz.ntmps11
    go_wp2
    go_loopw [5] (fun vi wr => ∃ j : Nat, j ≤ l.length ∧ vi = .int .i64 (j : Int) ∧ Hid (l.take j = m.take j ∧ Kept (fun _ => False) w wr)) (fun vi _ => l.length - (intOf vi).toNat)
    case atStart => exact ⟨0, Nat.zero_le _, rfl, rfl, Kept.refl _ _⟩
    case round =>
      obtain ⟨j, hj, rfl, HI⟩ := hrel
      by_cases hlt : j < l.length
      · have hltz : (j : Int) < (l.length : Int) := by omega
        have hltm : (j : Int) < (m.length : Int) := by have := HL.out; omega
        obtain ⟨x, hx⟩ : ∃ x, l[j]? = some x := ⟨l[j], by simp [hlt]⟩
        obtain ⟨y, hy⟩ : ∃ y, m[j]? = some y := ⟨m[j]'(by have := HL.out; omega), by simp⟩
        obtain ⟨g, o, rfl, hcap, c0, c1⟩ := Hat.out j x hx wr HI.out.2
        obtain ⟨g2, o2, rfl, hcbp, d0, d1⟩ := Hau.out j y hy wr HI.out.2
        have e0 : sameT x y = ((x.type == y.type) && (x.value.toList == y.value.toList)) := by unfold sameT; rw [bytes_same]
        cases hs : sameT x y with
        | false =>
          have HN := hid (sameF_at hx hy hs)
          rw [hs] at e0
          have hcase : (x.type == y.type) = false ∨ ((x.type == y.type) = true ∧ (x.value.toList == y.value.toList) = false) := by
            cases h1 : (x.type == y.type) with
            | false => exact Or.inl rfl
            | true =>
              rw [h1] at e0
              exact Or.inr ⟨rfl, by simpa using e0.symm⟩
          clear hx hy hs e0
          rcases hcase with e1 | ⟨e1, e2⟩
          · go_wp2
            go_quiet (fail)
            go_wp2
            go_ret
            exact ⟨by rw [HN.out]; rfl, HI.out.2.drewN _⟩
          · go_wp2
            go_quiet (fail)
            go_wp2
            go_ret
            exact ⟨by rw [HN.out]; rfl, HI.out.2.drewN _⟩
        | true =>
          have HN : Hid (l.take (j + 1) = m.take (j + 1)) := by
            show _ = _
            rw [take_next hx, take_next hy, HI.out.1, sameT_iff.1 hs]
          rw [hs] at e0
          obtain ⟨e1, e2⟩ : (x.type == y.type) = true ∧ (x.value.toList == y.value.toList) = true := by simpa using e0.symm
          clear hx hy hs e0
          go_wp2
          go_quiet (fail)
          go_wp2
          exact ⟨⟨j + 1, hlt, by go_num, HN.out, HI.out.2.drewN _⟩, by simp [intOf]; omega⟩
      · obtain rfl : j = l.length := by omega
        obtain ⟨hF, hk⟩ := HI.out
        have hFm : l = m := by rw [List.take_length, HL.out, List.take_length] at hF; exact hF
        have HN := hid (sameF_iff.2 hFm)
        clear hF HI hlt hFm
        go_wp2
        go_ret
        exact ⟨by rw [HN.out]; rfl, hk⟩
  · have hne : ((l.length : Int) != (m.length : Int)) = true := by
      rw [bne_iff_ne]
      omega
    have HN := hid (sameF_len hlen)
    clear hv hu hlen
    go_enter Tryz.func11, Tryz.ntmps11
    go_wp2
    go_ret
    exact ⟨by rw [HN.out]; rfl, Kept.refl _ _⟩

end Go.Proofs.YtodgkmjiiijfpaaGreat

namespace Go.Proofs.YtodgkmjiiijfpaaGreat
open Go.RowKit

/-- Two lists share an array. -/
def Shares (u v : Value) : Prop := ∃ g, u.ownBlock = some g ∧ v.ownBlock = some g

/-- A row of lists. -/
def RowS (W : World) (base : Nat) (v : Value) (vs : List Value) : Prop := W.ownsRow base 23 1 v vs.length vs

/-- The lists vs hold the options of Ls. -/
structure Fam (W : World) (base : Nat) (vs : List Value) (Ls : List (List Tg)) : Prop where
  len : vs.length = Ls.length
  own : ∀ (r : Nat) (v : Value) (L : List Tg), vs[r]? = some v → Ls[r]? = some L → OwnO W base v L

/-- No two of them share an array. -/
def Apart (vs : List Value) : Prop := ∀ (r q : Nat) (u v : Value), vs[r]? = some u → vs[q]? = some v → Shares u v → r = q

theorem own_lt {W : World} {base : Nat} {v : Value} {L : List Tg} (h : OwnO W base v L) {g : Nat} (hg : v.ownBlock = some g) : base ≤ g ∧ g < W.heap.size := World.ownsRow.lt h g hg

theorem own_kept {W W' : World} {S : Nat → Prop} {base : Nat} {v : Value} {L : List Tg} (h : OwnO W base v L) (hk : Kept S W W') (hS : ∀ i, v.ownBlock = some i → ¬ S i) : OwnO W' base v L := owned_kept h hk hS

theorem Fam.kept {W W' : World} {S : Nat → Prop} {base : Nat} {vs : List Value} {Ls : List (List Tg)} (h : Fam W base vs Ls) (hk : Kept S W W') (hS : ∀ (r : Nat) (v : Value) (i : Nat), vs[r]? = some v → v.ownBlock = some i → ¬ S i) : Fam W' base vs Ls :=
  ⟨h.len, fun r v L hv hL => own_kept (h.own r v L hv hL) hk (fun i hi => hS r v i hv hi)⟩

theorem Fam.kept0 {W W' : World} {base : Nat} {vs : List Value} {Ls : List (List Tg)} (h : Fam W base vs Ls) (hk : Kept (fun _ => False) W W') : Fam W' base vs Ls := h.kept hk (fun _ _ _ _ _ => id)

theorem Fam.nil (W : World) (base : Nat) : Fam W base [] [] := ⟨rfl, fun r v L hv => by simp at hv⟩

theorem Fam.at {W : World} {base : Nat} {vs : List Value} {Ls : List (List Tg)} (h : Fam W base vs Ls) {r : Nat} {v : Value} (hv : vs[r]? = some v) : ∃ L, Ls[r]? = some L ∧ OwnO W base v L := by
  have hlt := (List.getElem?_eq_some_iff.1 hv).1
  have hl : r < Ls.length := by rw [← h.len]; exact hlt
  exact ⟨Ls[r], by simp, h.own r v _ hv (by simp)⟩

theorem Fam.snoc {W : World} {base : Nat} {vs : List Value} {Ls : List (List Tg)} (h : Fam W base vs Ls) {v : Value} {L : List Tg} (hv : OwnO W base v L) : Fam W base (vs ++ [v]) (Ls ++ [L]) := by
  refine ⟨by simp [h.len], fun r u M hu hM => ?_⟩
  by_cases hr : r < vs.length
  · rw [List.getElem?_append_left hr] at hu
    rw [List.getElem?_append_left (by rw [← h.len]; exact hr)] at hM
    exact h.own r u M hu hM
  · rw [List.getElem?_append_right (by omega)] at hu
    rw [List.getElem?_append_right (by rw [← h.len]; omega)] at hM
    have e : r - vs.length = 0 := by
      have := (List.getElem?_eq_some_iff.1 hu).1
      simp at this
      omega
    rw [e] at hu
    rw [← h.len, e] at hM
    simp at hu hM
    rw [← hu, ← hM]
    exact hv

theorem Apart.snoc {vs : List Value} (h : Apart vs) {v : Value} (hv : ∀ (r : Nat) (u : Value), vs[r]? = some u → ¬ Shares u v) : Apart (vs ++ [v]) := by
  have key : ∀ (r : Nat) (u : Value), (vs ++ [v])[r]? = some u → (r < vs.length ∧ vs[r]? = some u) ∨ (r = vs.length ∧ u = v) := fun r u hu => by
    by_cases hr : r < vs.length
    · rw [List.getElem?_append_left hr] at hu
      exact Or.inl ⟨hr, hu⟩
    · rw [List.getElem?_append_right (by omega)] at hu
      have := (List.getElem?_eq_some_iff.1 hu).1
      simp at this
      have e : r - vs.length = 0 := by omega
      rw [e] at hu
      simp at hu
      exact Or.inr ⟨by omega, hu.symm⟩
  intro r q u x hu hx hs
  rcases key r u hu with ⟨h1, h2⟩ | ⟨h1, h2⟩ <;> rcases key q x hx with ⟨h3, h4⟩ | ⟨h3, h4⟩
  · exact h r q u x h2 h4 hs
  · subst h4
    exact absurd hs (hv r u h2)
  · subst h2
    obtain ⟨g, g1, g2⟩ := hs
    exact absurd ⟨g, g2, g1⟩ (hv q x h4)
  · omega

theorem Apart.nil : Apart [] := fun r q u v hu => by simp at hu

/-- One list's options turn. -/
theorem Fam.set {W W' : World} {base : Nat} {vs : List Value} {Ls : List (List Tg)} (h : Fam W base vs Ls) (ha : Apart vs) {j : Nat} {v : Value} (hj : vs[j]? = some v) (hk : Kept (fun i => v.ownBlock = some i) W W') {L' : List Tg} (hown : OwnO W' base v L') : Fam W' base vs (Ls.set j L') := by
  refine ⟨by rw [List.length_set]; exact h.len, fun r u M hu hM => ?_⟩
  by_cases hr : r = j
  · subst hr
    have hlt := (List.getElem?_eq_some_iff.1 hj).1
    rw [List.getElem?_set_self (by rw [← h.len]; exact hlt)] at hM
    cases hM
    rw [hj] at hu
    cases hu
    exact hown
  · rw [List.getElem?_set_ne (fun e => hr e.symm)] at hM
    exact own_kept (h.own r u M hu hM) hk (fun i hi hS => hr (ha r j u v hu hj ⟨i, hi, hS⟩))

theorem rowT_set (L : List Tg) {k : Nat} (hk : k < L.length) (x : Tg) : rowT (L.set k x) = ((rowT L).set (k * 2) (.int .i64 x.type)).set (k * 2 + 1) (.string x.value) := by
  induction L generalizing k with
  | nil => simp at hk
  | cons a r ih =>
    have hc : ∀ (a : Tg) (r : List Tg), rowT (a :: r) = .int .i64 a.type :: .string a.value :: rowT r := fun a r => by simp [rowT, tgCells]
    cases k with
    | zero => rw [List.set_cons_zero, hc, hc]; rfl
    | succ k =>
      rw [List.set_cons_succ, hc, hc, ih (by simpa using hk)]
      rw [show (k + 1) * 2 = k * 2 + 1 + 1 by omega]
      rfl

/-- The options of one list, written one by one. -/
theorem own_set {W : World} {base : Nat} {g n cap : Nat} {L : List Tg} (h : OwnO W base (.slice (some ⟨g, 0, none⟩) n cap) L) {k : Nat} (hk : k < L.length) (x : Tg) :
    OwnO ((W.setCell ⟨g, k * 2, none⟩ (.int .i64 x.type)).setCell ⟨g, k * 2 + 1, none⟩ (.string x.value)) base (.slice (some ⟨g, 0, none⟩) n cap) (L.set k x) := by
  rcases h.2 with ⟨h', _⟩ | ⟨g', cap', cur, h', hb, hg, h1, h2, h3, h4⟩
  · simp at h'
  · simp only [Value.slice.injEq, Option.some.injEq, Addr.mk.injEq, and_true] at h'
    obtain ⟨rfl, rfl, rfl⟩ := h'
    have b1 := Joins.block_setCell hg (i := k * 2) (.int .i64 x.type)
    have b2 := Joins.block_setCell b1 (i := k * 2 + 1) (.string x.value)
    have hrow := rowT_set L hk x
    refine ⟨rowT_length _, Or.inr ⟨g, cap, _, by rw [List.length_set], hb, b2, by rw [List.length_set]; exact h1, h2, by simpa using h3, ?_⟩⟩
    rw [List.length_set, Array.toList_setIfInBounds, Array.toList_setIfInBounds, hrow, ← h4, List.take_set, List.take_set]

/-- A list that is a part of another one's row holds its first options. -/
theorem own_part {W : World} {base : Nat} {g n m cap : Nat} {L G : List Tg} (hL : OwnO W base (.slice (some ⟨g, 0, none⟩) n cap) L) (hG : OwnO W base (.slice (some ⟨g, 0, none⟩) m cap) G) : L.length = n ∧ G.length = m ∧ ∃ cur : Array Value, cur.toList.take (n * 2) = rowT L ∧ cur.toList.take (m * 2) = rowT G := by
  rcases hL.2 with ⟨h', _⟩ | ⟨g', cap', cur, h', hb, hg, h1, h2, h3, h4⟩
  · simp at h'
  · rcases hG.2 with ⟨k', _⟩ | ⟨g2, cap2, cur2, k', kb, kg, k1, k2, k3, k4⟩
    · simp at k'
    · simp only [Value.slice.injEq, Option.some.injEq, Addr.mk.injEq, and_true] at h' k'
      obtain ⟨rfl, rfl, rfl⟩ := h'
      obtain ⟨rfl, rfl, rfl⟩ := k'
      rw [hg] at kg
      simp at kg
      subst kg
      exact ⟨rfl, rfl, cur, h4, k4⟩

/-- What is under way while lists grow. -/
structure GrowSt (W : World) (base : Nat) (vs : List Value) (Ls : List (List Tg)) (gs : List Value) (Gs : List (List Tg)) : Prop where
  fam : Fam W base vs Ls
  grown : Fam W base gs Gs
  apart : Apart vs
  gapart : Apart gs
  cross : ∀ (r q : Nat) (u v : Value), gs[r]? = some u → vs[q]? = some v → Shares u v → r = q

/-- The list that grows: v, which was vs[j]. -/
structure Cur (W : World) (base : Nat) (vs gs : List Value) (j : Nat) (v : Value) (G : List Tg) : Prop where
  own : OwnO W base v G
  links : ∀ (r : Nat) (u : Value), vs[r]? = some u → Shares u v → r = j ∧ ∃ g n cap, n ≤ G.length ∧ u = .slice (some ⟨g, 0, none⟩) n cap ∧ v = .slice (some ⟨g, 0, none⟩) G.length cap
  far : ∀ (r : Nat) (u : Value), gs[r]? = some u → ¬ Shares u v

theorem cur_start {W : World} {base : Nat} {vs gs : List Value} {Ls Gs : List (List Tg)} (h : GrowSt W base vs Ls gs Gs) {v : Value} {L : List Tg} (hv : vs[gs.length]? = some v) (hL : Ls[gs.length]? = some L) : Cur W base vs gs gs.length v L := by
  refine ⟨h.fam.own _ v L hv hL, fun r u hu hs => ?_, fun r u hu hs => ?_⟩
  · have e := h.apart r gs.length u v hu hv hs
    subst e
    rw [hv] at hu
    cases hu
    refine ⟨rfl, ?_⟩
    obtain ⟨g, hg, _⟩ := hs
    have ho := h.fam.own _ v L hv hL
    rcases ho.2 with ⟨rfl, _⟩ | ⟨g', cap, cur, rfl, _⟩
    · cases hg
    · exact ⟨g', _, cap, Nat.le_refl _, rfl, rfl⟩
  · have e := h.cross r gs.length u v hu hv hs
    have := (List.getElem?_eq_some_iff.1 hu).1
    omega

/-- It grows. -/
theorem cur_step {W W' : World} {base : Nat} {vs gs : List Value} {Ls Gs : List (List Tg)} {j m : Nat} {v v' : Value} {G N : List Tg} (h : GrowSt W base vs Ls gs Gs) (hc : Cur W base vs gs j v G) (hm : N.length = m) (hg : Grew W W' v v' G.length m) (ho : OwnO W' base v' (G ++ N)) :
    GrowSt W' base vs Ls gs Gs ∧ Cur W' base vs gs j v' (G ++ N) := by
  rcases hg with ⟨g, cap, rfl, rfl, hk⟩ | ⟨cap', rfl, hk, hlt⟩
  · have hfar : ∀ (r : Nat) (u : Value) (i : Nat), gs[r]? = some u → u.ownBlock = some i → ¬ i = g := fun r u i hu hi e => by
      subst e
      exact hc.far r u hu ⟨i, hi, rfl⟩
    refine ⟨⟨⟨h.fam.len, fun r u L hu hL => ?_⟩, h.grown.kept hk hfar, h.apart, h.gapart, h.cross⟩, ho, fun r u hu hs => ?_, fun r u hu hs => ?_⟩
    · have hou := h.fam.own r u L hu hL
      by_cases hsh : Shares u (.slice (some ⟨g, 0, none⟩) G.length cap)
      · obtain ⟨_, g', n, cap', hn, rfl, e⟩ := hc.links r u hu hsh
        simp only [Value.slice.injEq, Option.some.injEq, Addr.mk.injEq, and_true, true_and] at e
        obtain ⟨rfl, rfl⟩ := e
        obtain ⟨q1, q2, cur, q3, q4⟩ := own_part hou hc.own
        have ho' : W'.ownsRow base 60 2 (.slice (some ⟨g, 0, none⟩) (G.length + m) cap) (G.length + m) (rowT (G ++ N)) := by
          have : (G ++ N).length = G.length + m := by rw [List.length_append, hm]
          rw [← this]
          rw [← this] at ho
          exact ho
        have hp := owned_first (m := n) ho' (by omega)
        have e2 : (rowT (G ++ N)).take (n * 2) = rowT L := by
          rw [rowT_append, List.take_append_of_le_length (by rw [rowT_length]; omega), ← q4, List.take_take, Nat.min_eq_left (by omega), q3]
        rw [e2] at hp
        unfold OwnO
        rw [q1]
        exact hp
      · refine own_kept hou hk (fun i hi e => hsh ?_)
        subst e
        exact ⟨i, hi, rfl⟩
    · obtain ⟨g0, h1, h2⟩ := hs
      obtain ⟨hr, g', n, cap', hn, rfl, e⟩ := hc.links r u hu ⟨g0, h1, h2⟩
      simp only [Value.slice.injEq, Option.some.injEq, Addr.mk.injEq, and_true, true_and] at e
      obtain ⟨rfl, rfl⟩ := e
      exact ⟨hr, g, n, cap, by rw [List.length_append]; omega, rfl, by rw [List.length_append, hm]⟩
    · obtain ⟨g0, h1, h2⟩ := hs
      exact hc.far r u hu ⟨g0, h1, h2⟩
  · have hnew : ∀ u, (∃ L, OwnO W base u L) → ¬ Shares u (.slice (some ⟨W.heap.size, 0, none⟩) (G.length + m) cap') := fun u ⟨L, hL⟩ ⟨g, h1, h2⟩ => by
      have := (own_lt hL h1).2
      have e : W.heap.size = g := by simpa [Value.ownBlock] using h2
      omega
    refine ⟨⟨h.fam.kept0 hk, h.grown.kept0 hk, h.apart, h.gapart, h.cross⟩, ho, fun r u hu hs => ?_, fun r u hu hs => ?_⟩
    · obtain ⟨L, _, hL⟩ := h.fam.at hu
      exact absurd hs (hnew u ⟨L, hL⟩)
    · obtain ⟨L, _, hL⟩ := h.grown.at hu
      exact absurd hs (hnew u ⟨L, hL⟩)

/-- Nothing of these turns. -/
theorem GrowSt.kept0 {W W' : World} {base : Nat} {vs gs : List Value} {Ls Gs : List (List Tg)} (h : GrowSt W base vs Ls gs Gs) (hk : Kept (fun _ => False) W W') : GrowSt W' base vs Ls gs Gs := ⟨h.fam.kept0 hk, h.grown.kept0 hk, h.apart, h.gapart, h.cross⟩
theorem Cur.kept0 {W W' : World} {base : Nat} {vs gs : List Value} {j : Nat} {v : Value} {G : List Tg} (h : Cur W base vs gs j v G) (hk : Kept (fun _ => False) W W') : Cur W' base vs gs j v G := ⟨h.own.kept hk, h.links, h.far⟩
/-- A row of lists that turns is none of theirs. -/
theorem GrowSt.row {W W' : World} {base base' n : Nat} {vs gs : List Value} {Ls Gs : List (List Tg)} {x : Value} {xs : List Value} (h : GrowSt W base vs Ls gs Gs) (hx : W.ownsRow base' 23 1 x n xs) (hk : Kept (fun i => x.ownBlock = some i) W W') : GrowSt W' base vs Ls gs Gs :=
  ⟨h.fam.kept hk (fun r v i hv hi hS => by
    obtain ⟨L, _, hL⟩ := h.fam.at hv
    exact owned_unlike hL hx (by decide) i hi hS), h.grown.kept hk (fun r v i hv hi hS => by
    obtain ⟨L, _, hL⟩ := h.grown.at hv
    exact owned_unlike hL hx (by decide) i hi hS), h.apart, h.gapart, h.cross⟩

/-- It is grown. -/
theorem grow_end {W : World} {base : Nat} {vs gs : List Value} {Ls Gs : List (List Tg)} {v : Value} {G : List Tg} (h : GrowSt W base vs Ls gs Gs) (hc : Cur W base vs gs gs.length v G) : GrowSt W base vs Ls (gs ++ [v]) (Gs ++ [G]) := by
  refine ⟨h.fam, h.grown.snoc hc.own, h.apart, h.gapart.snoc hc.far, fun r q u x hu hx hs => ?_⟩
  by_cases hr : r < gs.length
  · rw [List.getElem?_append_left hr] at hu
    exact h.cross r q u x hu hx hs
  · rw [List.getElem?_append_right (by omega)] at hu
    have := (List.getElem?_eq_some_iff.1 hu).1
    simp at this
    have e : r - gs.length = 0 := by omega
    rw [e] at hu
    simp at hu
    subst hu
    obtain ⟨g, g1, g2⟩ := hs
    have := (hc.links q x hx ⟨g, g2, g1⟩).1
    omega
end Go.Proofs.YtodgkmjiiijfpaaGreat

namespace Go.Proofs.YtodgkmjiiijfpaaGreat
open Go.RowKit

def bookCells (v6 v7 : Value) : Array Value := #[.slice none 0 0, .slice none 0 0, .slice none 0 0, .slice none 0 0, .slice none 0 0, .slice none 0 0, .slice none 0 0, .slice none 0 0, v6, v7, .slice none 0 0, .slice none 0 0, .slice none 0 0, .slice none 0 0, .slice none 0 0, .slice none 0 0, .slice none 0 0, .slice none 0 0, .slice none 0 0, .slice none 0 0, .slice none 0 0, .slice none 0 0, .slice none 0 0, .slice none 0 0, .slice none 0 0, .slice none 0 0, .slice none 0 0, .slice none 0 0, .slice none 0 0, .slice none 0 0, .slice none 0 0, .slice none 0 0, .slice none 0 0, .slice none 0 0, .slice none 0 0, .slice none 0 0]

/-- A book whose lists of options, in the row v6, are vs. -/
structure BookP (W : World) (bk base : Nat) (v6 v7 : Value) (vs : List Value) (Ls : List (List Tg)) : Prop where
  blk : W.heap[bk]? = some (.cells (bookCells v6 v7) 49 (0, 0))
  r6 : RowS W base v6 vs
  f6 : Fam W base vs Ls
  a6 : Apart vs
  lo : base ≤ bk

/-- With copies us, in the row v7. -/
structure BookT (W : World) (bk base : Nat) (v6 v7 : Value) (vs us : List Value) (Ls : List (List Tg)) : Prop where
  p : BookP W bk base v6 v7 vs Ls
  r7 : RowS W base v7 us
  f7 : Fam W base us Ls
  ne : ¬ Shares v6 v7

section
variable {W W' : World} {bk base : Nat} {v6 v7 : Value} {vs us : List Value} {Ls : List (List Tg)}

theorem BookP.cell (h : BookP W bk base v6 v7 vs Ls) (i : Nat) : W.cell? ⟨bk, i, none⟩ = (bookCells v6 v7)[i]? := by simp [World.cell?, h.blk]
theorem BookP.frozen (h : BookP W bk base v6 v7 vs Ls) (i : Nat) : W.frozen? ⟨bk, i, none⟩ = false := frozen_of_row _ bk i _ _ h.blk
theorem BookP.lt (h : BookP W bk base v6 v7 vs Ls) : bk < W.heap.size := (Array.getElem?_eq_some_iff.1 h.blk).1
theorem BookP.c6 (h : BookP W bk base v6 v7 vs Ls) : W.cell? ⟨bk, 8, none⟩ = some v6 := (h.cell 8).trans rfl
theorem BookP.c7 (h : BookP W bk base v6 v7 vs Ls) : W.cell? ⟨bk, 9, none⟩ = some v7 := (h.cell 9).trans rfl

theorem rowS_kept {S : Nat → Prop} {v : Value} {xs : List Value} (h : RowS W base v xs) (hk : Kept S W W') (hS : ∀ i, v.ownBlock = some i → ¬ S i) : RowS W' base v xs := owned_kept h hk hS

theorem BookP.kept0 (h : BookP W bk base v6 v7 vs Ls) (hk : Kept (fun _ => False) W W') : BookP W' bk base v6 v7 vs Ls :=
  ⟨(hk.block bk h.lt id).trans h.blk, rowS_kept h.r6 hk (fun _ _ => id), h.f6.kept0 hk, h.a6, h.lo⟩
theorem BookT.kept0 (h : BookT W bk base v6 v7 vs us Ls) (hk : Kept (fun _ => False) W W') : BookT W' bk base v6 v7 vs us Ls :=
  ⟨h.p.kept0 hk, rowS_kept h.r7 hk (fun _ _ => id), h.f7.kept0 hk, h.ne⟩

theorem rowS_slice {v : Value} {xs : List Value} (h : RowS W base v xs) : ∃ p cap, v = .slice p xs.length cap := slice_of h
theorem rowS_at {p : Option Addr} {n cap : Nat} {xs : List Value} (h : RowS W base (.slice p n cap) xs) {j : Nat} {x : Value} (hj : xs[j]? = some x) : ∃ g, p = some ⟨g, 0, none⟩ ∧ xs.length ≤ cap ∧ W.cell? ⟨g, j, none⟩ = some x := by
  have hlt := (List.getElem?_eq_some_iff.1 hj).1
  rcases h.2 with ⟨_, h0⟩ | ⟨g, cap', cur, h', hb, hg, h1, h2, h3, h4⟩
  · omega
  · simp only [Value.slice.injEq] at h'
    obtain ⟨rfl, rfl, rfl⟩ := h'
    refine ⟨g, rfl, h1, ?_⟩
    rw [← hj, ← h4, List.getElem?_take_of_lt (by omega)]
    simp [World.cell?, hg]

set_option maxHeartbeats 2000000 in
set_option maxRecDepth 100000 in
theorem still_Options (h : BookT W bk base v6 v7 vs us Ls) (hsm : ∀ L ∈ Ls, L.length ≤ 1000) (h250 : vs.length ≤ 250) :
    Calls Tryz.prog 35 #[.pointer (some ⟨bk, 0, none⟩)] W fun e w' => e = .returned (.bool true) ∧ Kept (fun _ => False) W w' := by
  obtain ⟨p, cap, rfl⟩ := rowS_slice h.p.r6
  obtain ⟨q, cbp, rfl⟩ := rowS_slice h.r7
  have HK : Hid (∀ W', Kept (fun _ => False) W W' → BookT W' bk base (.slice p vs.length cap) (.slice q us.length cbp) vs us Ls) := fun W' hk => h.kept0 hk
  have hul : us.length = vs.length := h.f7.len.trans h.p.f6.len.symm
  have HL := hid h.p.f6.len
  have HUL := hid hul
  have Hsm := hid hsm
  have c6 := h.p.c6
  have c7 := h.p.c7
  clear h hul hsm
  go_enter Tryz.func35, Tryz.ntmps35
  go_wp2
  go_loopw [3] (fun vi wr => ∃ j : Nat, j ≤ vs.length ∧ vi = .int .i64 (j : Int) ∧ Hid (Kept (fun _ => False) W wr)) (fun vi _ => vs.length - (intOf vi).toNat)
  case atStart => exact ⟨0, Nat.zero_le _, rfl, Kept.refl _ _⟩
  case round =>
    obtain ⟨j, hj, rfl, HI⟩ := hrel
    have hB := HK.out wr HI.out
    have d6 := hB.p.c6
    have d7 := hB.p.c7
    clear c6 c7
    by_cases hlt : j < vs.length
    · have hltz : (j : Int) < (vs.length : Int) := by omega
      have hltu : (j : Int) < (us.length : Int) := by have := HUL.out; omega
      obtain ⟨x, hx⟩ : ∃ x, vs[j]? = some x := ⟨vs[j], by simp [hlt]⟩
      obtain ⟨y, hy⟩ : ∃ y, us[j]? = some y := ⟨us[j]'(by have := HUL.out; omega), by simp⟩
      obtain ⟨L, hL⟩ : ∃ L, Ls[j]? = some L := ⟨Ls[j]'(by have := HL.out; omega), by simp⟩
      obtain ⟨g6, rfl, hc6, e6⟩ := rowS_at hB.p.r6 hx
      obtain ⟨g7, rfl, hc7, e7⟩ := rowS_at hB.r7 hy
      have HS : Hid (∀ W', Kept (fun _ => False) W W' → Calls Tryz.prog 11 #[x, y] W' fun e w' => e = .returned (.bool true) ∧ Kept (fun _ => False) W w') := fun W' hk => by
        have hb := HK.out W' hk
        have := sameOptions_any x y L L W' (hb.p.f6.own j x L hx hL).tags (hb.f7.own j y L hy hL).tags (by have := Hsm.out L (List.mem_of_getElem? hL); omega)
        rw [sameF_self] at this
        exact this.mono fun _ _ ⟨h1, h2⟩ => ⟨h1, hk.trans h2⟩
      have HR : Hid (∀ W', Kept (fun _ => False) W W' → W'.cell? ⟨bk, 8, none⟩ = some (.slice (some ⟨g6, 0, none⟩) vs.length cap) ∧ W'.cell? ⟨bk, 9, none⟩ = some (.slice (some ⟨g7, 0, none⟩) us.length cbp) ∧ W'.cell? ⟨g6, j, none⟩ = some x ∧ W'.cell? ⟨g7, j, none⟩ = some y) := fun W' hk => by
        have hb := HK.out W' hk
        obtain ⟨g, e, _, q1⟩ := rowS_at hb.p.r6 hx
        obtain ⟨g', e', _, q2⟩ := rowS_at hb.r7 hy
        simp at e e'
        subst e e'
        exact ⟨hb.p.c6, hb.p.c7, q1, q2⟩
      have hkr := HI.out
      clear hB hx hy hL HI
      go_wp2
      go_region_held3 (fun W' => W'.cell? ⟨bk, 8, none⟩ = some (.slice (some ⟨g6, 0, none⟩) vs.length cap) ∧ W'.cell? ⟨bk, 9, none⟩ = some (.slice (some ⟨g7, 0, none⟩) us.length cbp) ∧ W'.cell? ⟨g6, j, none⟩ = some x ∧ W'.cell? ⟨g7, j, none⟩ = some y) (first | assumption | exact HR.out _ (by assumption) | go_keep) (first | (go_at_call 11; refine (HS.out _ hkr.drew).mono ?_; rintro e1 w1 ⟨rfl, hk1⟩))
      all_goals
        go_wp2
        exact ⟨⟨j + 1, hlt, by go_num, hk1⟩, by simp [intOf]; omega⟩
    · obtain rfl : j = vs.length := by omega
      have hltz : ¬ (vs.length : Int) < (vs.length : Int) := by omega
      go_wp2
      go_ret
      exact ⟨rfl, HI.out⟩

theorem own_at {v : Value} {L : List Tg} (h : OwnO W base v L) {k : Nat} {y : Tg} (hk : L[k]? = some y) : ∃ g cap, v = .slice (some ⟨g, 0, none⟩) L.length cap ∧ L.length ≤ cap ∧ W.cell? ⟨g, k * 2, none⟩ = some (.int .i64 y.type) ∧ W.cell? ⟨g, k * 2 + 1, none⟩ = some (.string y.value) ∧ ∀ i, W.frozen? ⟨g, i, none⟩ = false := by
  have hlt := (List.getElem?_eq_some_iff.1 hk).1
  rcases h.2 with ⟨_, h0⟩ | ⟨g, cap, cur, rfl, hb, hg, h1, h2, h3, h4⟩
  · omega
  · have hc : ∀ i, i < L.length * 2 → W.cell? ⟨g, i, none⟩ = (rowT L)[i]? := fun i hi => by
      rw [← h4, List.getElem?_take_of_lt hi]
      simp [World.cell?, hg]
    have k0 := rowT_get hk 0 (by omega)
    rw [Nat.add_zero] at k0
    refine ⟨g, cap, rfl, h1, ?_, ?_, fun i => frozen_of_row _ g i _ _ hg⟩
    · rw [hc _ (by omega), k0]
      rfl
    · rw [hc _ (by omega), rowT_get hk 1 (by omega)]
      rfl

theorem BookP.set (h : BookP W bk base v6 v7 vs Ls) {j : Nat} {x : Value} (hj : vs[j]? = some x) (hk : Kept (fun i => x.ownBlock = some i) W W') {L' : List Tg} (hown : OwnO W' base x L') : BookP W' bk base v6 v7 vs (Ls.set j L') := by
  obtain ⟨L, hL, hx⟩ := h.f6.at hj
  refine ⟨(hk.block bk h.lt (fun e => ?_)).trans h.blk, rowS_kept h.r6 hk (fun i hi e => ?_), h.f6.set h.a6 hj hk hown, h.a6, h.lo⟩
  · rcases hx.2 with ⟨rfl, _⟩ | ⟨g, cap, cur, rfl, hb, hg, _⟩
    · cases e
    · have : g = bk := by simpa [Value.ownBlock] using e
      subst this
      rw [h.blk] at hg
      simp at hg
  · exact owned_unlike h.r6 hx (by decide) i hi e

/-- The lists as they are marked, the first j of them. -/
def putL (Ls : List (List Tg)) (j : Nat) : List (List Tg) := Ls.mapIdx fun i L => if i < j then marksT i 0 L.length else L
theorem putL_zero (Ls : List (List Tg)) : putL Ls 0 = Ls := by
  apply List.ext_getElem?
  intro i
  simp [putL]
theorem putL_at {j : Nat} {L : List Tg} (h : Ls[j]? = some L) : (putL Ls j)[j]? = some L := by simp [putL, h]
theorem putL_next {j : Nat} {L : List Tg} (h : Ls[j]? = some L) : putL Ls (j + 1) = (putL Ls j).set j (marksT j 0 L.length) := by
  have hlt := (List.getElem?_eq_some_iff.1 h).1
  apply List.ext_getElem?
  intro i
  by_cases hi : i = j
  · subst hi
    rw [List.getElem?_set_self (by simp [putL]; exact hlt)]
    simp [putL, h]
  · rw [List.getElem?_set_ne (fun e => hi e.symm)]
    simp only [putL, List.getElem?_mapIdx]
    congr 1
    funext L
    by_cases h1 : i < j
    · rw [if_pos h1, if_pos (by omega)]
    · rw [if_neg h1, if_neg (by omega)]
theorem set_self {α : Type} {l : List α} {j : Nat} {x : α} (h : l[j]? = some x) : l.set j x = l := by
  apply List.ext_getElem?
  intro i
  by_cases hi : i = j
  · subst hi
    rw [List.getElem?_set_self (List.getElem?_eq_some_iff.1 h).1, h]
  · rw [List.getElem?_set_ne (fun e => hi e.symm)]
theorem mark_step {j k : Nat} {L : List Tg} (h : k < L.length) : (marksT j 0 k ++ L.drop k).set k (markT j k) = marksT j 0 (k + 1) ++ L.drop (k + 1) := by
  rw [List.drop_eq_getElem_cons h, marksT_snoc, Nat.zero_add, List.append_assoc, List.set_append_right _ _ (by rw [marksT_length]; exact Nat.le_refl _), marksT_length, Nat.sub_self]
  rfl
theorem mark_get {j k : Nat} {L : List Tg} (h : k < L.length) : (marksT j 0 k ++ L.drop k)[k]? = some L[k] := by
  rw [List.getElem?_append_right (by rw [marksT_length]; exact Nat.le_refl _), marksT_length, Nat.sub_self]
  simp [h]

/-- What the inner loop has come to. -/
structure PutIn (W wr : World) (bk base : Nat) (v6 v7 : Value) (vs : List Value) (M : List (List Tg)) (j k : Nat) (L : List Tg) (vm : Value) : Prop where
  bp : BookP wr bk base v6 v7 vs (M.set j (marksT j 0 k ++ L.drop k))
  own : OwnO wr base vm (marksT j 0 L.length)
  bel : Below base W wr
  sz : base ≤ wr.heap.size

theorem PutIn.step {wr : World} {M : List (List Tg)} {j k : Nat} {L : List Tg} {vm : Value} {gx cx : Nat} (h : PutIn W wr bk base v6 v7 vs M j k L vm) (hM : j < M.length) (hk : k < L.length) (hx : vs[j]? = some (.slice (some ⟨gx, 0, none⟩) L.length cx)) (hfar : ¬ Shares (.slice (some ⟨gx, 0, none⟩) L.length cx) vm) :
    PutIn W ((wr.setCell ⟨gx, k * 2, none⟩ (.int .i64 (markT j k).type)).setCell ⟨gx, k * 2 + 1, none⟩ (.string (markT j k).value)).drew bk base v6 v7 vs M j (k + 1) L vm := by
  have ho := h.bp.f6.own j _ (marksT j 0 k ++ L.drop k) hx (by rw [List.getElem?_set_self hM])
  have hlen : (marksT j 0 k ++ L.drop k).length = L.length := by rw [List.length_append, marksT_length, List.length_drop]; omega
  have ho1 := own_set ho (k := k) (by omega) (markT j k)
  rw [mark_step hk] at ho1
  have ho2 := ho1.kept ((Kept.refl (fun _ => False) _).drew)
  have hk2 : Kept (fun i => (Value.slice (some ⟨gx, 0, none⟩) L.length cx).ownBlock = some i) wr ((wr.setCell ⟨gx, k * 2, none⟩ (.int .i64 (markT j k).type)).setCell ⟨gx, k * 2 + 1, none⟩ (.string (markT j k).value)).drew :=
    (((Kept.refl (fun i => (Value.slice (some ⟨gx, 0, none⟩) L.length cx).ownBlock = some i) wr).setCell (p := ⟨gx, k * 2, none⟩) (Or.inr rfl) _).setCell (p := ⟨gx, k * 2 + 1, none⟩) (Or.inr rfl) _).drew
  have hgb := (own_lt ho (g := gx) rfl).1
  refine ⟨?_, own_kept h.own hk2 (fun i hi e => hfar ⟨i, e, hi⟩), h.bel.trans (hk2.below h.sz (fun i hi => by have e : gx = i := (by simpa [Value.ownBlock] using hi); omega)), Nat.le_trans h.sz hk2.size⟩
  have := h.bp.set hx hk2 ho2
  rw [List.set_set] at this
  exact this

set_option maxHeartbeats 4000000 in
set_option maxRecDepth 100000 in
theorem put_Options (h : BookP W bk base v6 v7 vs Ls) (hb : base ≤ W.heap.size) (hsm : ∀ L ∈ Ls, L.length ≤ 1000) (h250 : vs.length ≤ 250) :
    Calls Tryz.prog 57 #[.pointer (some ⟨bk, 0, none⟩)] W fun e w' => e = .returned (.tuple #[]) ∧ BookP w' bk base v6 v7 vs (putL Ls vs.length) ∧ Below base W w' := by
  obtain ⟨p, cap, rfl⟩ := rowS_slice h.r6
  have HL := hid h.f6.len
  have Hsm := hid hsm
  have H0 := hid h
  clear h hsm
  go_enter Tryz.func57, Tryz.ntmps57
  go_wp2
  go_loopw [2] (fun vi wr => ∃ j : Nat, j ≤ vs.length ∧ vi = .int .i64 (j : Int) ∧ Hid (BookP wr bk base (.slice p vs.length cap) v7 vs (putL Ls j) ∧ Below base W wr ∧ base ≤ wr.heap.size)) (fun vi _ => vs.length - (intOf vi).toNat)
  case atStart => exact ⟨0, Nat.zero_le _, rfl, by rw [putL_zero]; exact H0.out, Below.refl _ _, hb⟩
  case round =>
    obtain ⟨j, hj, rfl, HI⟩ := hrel
    have d6 := HI.out.1.c6
    clear H0
    by_cases hlt : j < vs.length
    · have hltz : (j : Int) < (vs.length : Int) := by omega
      obtain ⟨x, hx⟩ : ∃ x, vs[j]? = some x := ⟨vs[j], by simp [hlt]⟩
      obtain ⟨L, hL⟩ : ∃ L, Ls[j]? = some L := ⟨Ls[j]'(by have := HL.out; omega), by simp⟩
      obtain ⟨g6, rfl, hc6, e6⟩ := rowS_at HI.out.1.r6 hx
      have hox := HI.out.1.f6.own j x L hx (putL_at hL)
      obtain ⟨px, cx, rfl⟩ := slice_of hox
      have hLs := Hsm.out L (List.mem_of_getElem? hL)
      have HM := hid (markOptions_any j 0 L.length (by omega) (by omega) (by omega))
      have hx0 := hid hx
      have hL0 := hid hL
      have HO := hid hox
      clear hx hL hox
      go_wp2_with fail
      refine (HM.out _).mono ?_
      rintro e1 w1 ⟨vm, rfl, hom, hk1⟩
      have hfar : Hid (¬ Shares (.slice px L.length cx) vm) := fun ⟨g, g1, g2⟩ => by
        have h1 := (own_lt HO.out g1).2
        have h2 := (own_lt hom g2).1
        omega
      have PI0 : Hid (PutIn W w1 bk base (.slice (some ⟨g6, 0, none⟩) vs.length cap) v7 vs (putL Ls j) j 0 L vm) := by
        refine ⟨?_, hom.mono (Nat.le_trans HI.out.2.2 (Nat.le_refl _)), HI.out.2.1.trans (hk1.below HI.out.2.2 (fun _ h => h.elim)), Nat.le_trans HI.out.2.2 hk1.size⟩
        show BookP w1 bk base _ v7 vs ((putL Ls j).set j L)
        rw [set_self (putL_at hL0.out)]
        exact HI.out.1.kept0 hk1
      have hML : Hid (j < (putL Ls j).length) := by
        show _ < _
        rw [← HI.out.1.f6.len]
        exact hlt
      obtain ⟨pm, cm, rfl⟩ := slice_of hom
      rw [marksT_length] at PI0 hfar
      rw [marksT_length]
      clear hk1 hom HI d6 e6 HO
      go_wp2
      go_loopw [4] (fun vk wr => ∃ k : Nat, k ≤ L.length ∧ vk = .int .i64 (k : Int) ∧ Hid (PutIn W wr bk base (.slice (some ⟨g6, 0, none⟩) vs.length cap) v7 vs (putL Ls j) j k L (.slice pm L.length cm))) (fun vk _ => L.length - (intOf vk).toNat)
      case atStart => exact ⟨0, Nat.zero_le _, rfl, PI0.out⟩
      case round =>
        obtain ⟨k, hk, rfl, HI⟩ := hrel
        clear PI0
        by_cases hklt : k < L.length
        · have hkz : (k : Int) < (L.length : Int) := by omega
          have d6 := HI.out.bp.c6
          obtain ⟨g6', e6', hc6', e6⟩ := rowS_at HI.out.bp.r6 hx0.out
          have hoc := HI.out.bp.f6.own j _ _ hx0.out (by rw [List.getElem?_set_self hML.out])
          obtain ⟨gx, cx', ex, hxc, t0, t1, tf⟩ := own_at hoc (mark_get hklt)
          obtain ⟨gm, cm', em, hmc, m0, m1, mf⟩ := own_at HI.out.own (marksT_get hklt)
          have hlen : (marksT j 0 k ++ L.drop k).length = L.length := by rw [List.length_append, marksT_length, List.length_drop]; omega
          rw [hlen] at ex hxc
          rw [marksT_length] at hmc em
          simp only [Option.some.injEq, Addr.mk.injEq, and_true] at e6'
          simp only [Value.slice.injEq, true_and] at ex em
          obtain ⟨rfl, rfl⟩ := ex
          obtain ⟨rfl, rfl⟩ := em
          subst e6'
          rw [Nat.zero_add] at m0 m1
          have R := hid (HI.out.step hML.out hklt hx0.out hfar.out)
          have tf0 := tf (k * 2)
          have tf1 := tf (k * 2 + 1)
          obtain ⟨mt, hmt⟩ : ∃ mt, mt = (markT j k).type := ⟨_, rfl⟩
          obtain ⟨mv, hmv⟩ : ∃ mv, mv = (markT j k).value := ⟨_, rfl⟩
          rw [← hmt] at m0 R
          rw [← hmv] at m1 R
          clear HI hoc hlen mf tf hmt hmv
          go_wp2
          go_region
          all_goals
            go_wp2
            exact ⟨⟨k + 1, hklt, by go_num, R.out⟩, by simp [intOf]; omega⟩
        · obtain rfl : k = L.length := by omega
          have hkz : ¬ (L.length : Int) < (L.length : Int) := by omega
          have R : Hid (BookP wr bk base (.slice (some ⟨g6, 0, none⟩) vs.length cap) v7 vs (putL Ls (j + 1)) ∧ Below base W wr ∧ base ≤ wr.heap.size) := by
            obtain ⟨q1, q2, q3, q4⟩ := HI.out
            rw [List.drop_of_length_le (Nat.le_refl _), List.append_nil, ← putL_next hL0.out] at q1
            exact ⟨q1, q3, q4⟩
          clear HI
          go_wp2
          exact ⟨⟨j + 1, hlt, by go_num, R.out⟩, by simp [intOf]; omega⟩
    · obtain rfl : j = vs.length := by omega
      have hltz : ¬ (vs.length : Int) < (vs.length : Int) := by omega
      go_wp2
      go_end0
      exact ⟨rfl, HI.out.1, HI.out.2.1⟩
end
end Go.Proofs.YtodgkmjiiijfpaaGreat

namespace Go.Proofs.YtodgkmjiiijfpaaGreat
open Go.RowKit

section
variable {W W' : World} {bk base : Nat} {v6 v7 : Value} {vs us : List Value} {Ls : List (List Tg)}

/-- Every list bears its own marks. -/
def Marked (Ls : List (List Tg)) : Prop := ∀ (j : Nat) (L : List Tg), Ls[j]? = some L → L = marksT j 0 L.length

set_option maxHeartbeats 2000000 in
set_option maxRecDepth 100000 in
theorem marked_Options {v : Value} (hr : RowS W base v vs) (hf : Fam W base vs Ls) (hm : Marked Ls) (hsm : ∀ L ∈ Ls, L.length ≤ 2000) (h250 : vs.length ≤ 250) :
    Calls Tryz.prog 89 #[v] W fun e w' => e = .returned (.bool true) ∧ Kept (fun _ => False) W w' := by
  obtain ⟨p, cap, rfl⟩ := rowS_slice hr
  have HR : Hid (∀ W', Kept (fun _ => False) W W' → RowS W' base (.slice p vs.length cap) vs ∧ Fam W' base vs Ls) := fun W' hk => ⟨rowS_kept hr hk (fun _ _ => id), hf.kept0 hk⟩
  have HL := hid hf.len
  have Hsm := hid hsm
  have Hm := hid hm
  clear hr hf hm hsm
  go_enter Tryz.func89, Tryz.ntmps89
  go_wp2
  go_loopw [3] (fun vi wr => ∃ j : Nat, j ≤ vs.length ∧ vi = .int .i64 (j : Int) ∧ Hid (Kept (fun _ => False) W wr)) (fun vi _ => vs.length - (intOf vi).toNat)
  case atStart => exact ⟨0, Nat.zero_le _, rfl, Kept.refl _ _⟩
  case round =>
    obtain ⟨j, hj, rfl, HI⟩ := hrel
    by_cases hlt : j < vs.length
    · have hltz : (j : Int) < (vs.length : Int) := by omega
      obtain ⟨x, hx⟩ : ∃ x, vs[j]? = some x := ⟨vs[j], by simp [hlt]⟩
      obtain ⟨L, hL⟩ : ∃ L, Ls[j]? = some L := ⟨Ls[j]'(by have := HL.out; omega), by simp⟩
      obtain ⟨g, rfl, hc, e0⟩ := rowS_at (HR.out wr HI.out).1 hx
      obtain ⟨px, cx, rfl⟩ := slice_of ((HR.out wr HI.out).2.own j x L hx hL)
      have hLs := Hsm.out L (List.mem_of_getElem? hL)
      have HC : Hid (∀ W', Kept (fun _ => False) W W' → W'.cell? ⟨g, j, none⟩ = some (.slice px L.length cx)) := fun W' hk => by
        obtain ⟨g', e, _, q⟩ := rowS_at (HR.out W' hk).1 hx
        simp at e
        subst e
        exact q
      have HM : Hid (∀ W', Kept (fun _ => False) W W' → Calls Tryz.prog 145 #[.int .i64 (j : Int), .int .i64 0, .int .i64 (L.length : Int)] W' fun e w' => ∃ u, e = .returned u ∧ OwnO w' W'.heap.size u L ∧ Kept (fun _ => False) W w') := fun W' hk => by
        refine (markOptions_any j 0 L.length (by omega) (by omega) (by omega) W').mono ?_
        rintro e w' ⟨u, rfl, h1, h2⟩
        rw [← Hm.out j L hL] at h1
        exact ⟨u, rfl, h1, hk.trans h2⟩
      have HS : Hid (∀ W' u b, Kept (fun _ => False) W W' → OwnO W' b u L → Calls Tryz.prog 11 #[.slice px L.length cx, u] W' fun e w' => e = .returned (.bool true) ∧ Kept (fun _ => False) W w') := fun W' u b hk hu => by
        have := sameOptions_any (.slice px L.length cx) u L L W' ((HR.out W' hk).2.own j _ L hx hL).tags hu.tags (by omega)
        rw [sameF_self] at this
        exact this.mono fun _ _ ⟨h1, h2⟩ => ⟨h1, hk.trans h2⟩
      have hkr := HI.out.drew
      clear hx hL HI
      go_wp2
      go_region_held3 (fun W' => W'.cell? ⟨g, j, none⟩ = some (.slice px L.length cx)) (first | assumption | exact HC.out _ (by assumption) | go_keep) (first
        | (go_at_call 145; refine (HM.out _ hkr).mono ?_; rintro e1 w1 ⟨u1, rfl, ho1, hk1⟩)
        | (go_at_call 11; refine (HS.out _ _ _ hk1 ho1).mono ?_; rintro e2 w2 ⟨rfl, hk2⟩))
      all_goals
        go_wp2
        exact ⟨⟨j + 1, hlt, by go_num, hk2⟩, by simp [intOf]; omega⟩
    · obtain rfl : j = vs.length := by omega
      have hltz : ¬ (vs.length : Int) < (vs.length : Int) := by omega
      go_wp2
      go_ret
      exact ⟨rfl, HI.out⟩

theorem infoOptions : (Tryz.prog.info? 23).map (fun i => (i.zero, i.size, i.bytes)) = some (some (.slice none 0 0), 1, 24) := by kernel_rfl

/-- 'append' of a list of the call's own onto the one that grows. -/
theorem own_app {v u : Value} {G N : List Tg} {b : Nat} (h : OwnO W base v G) (hb : base ≤ W.heap.size) (hu : OwnO W b u N) (hN : 0 < N.length) (hroom : G.length + N.length ≤ 100000) :
    ∃ v' w', AppO W v u v' w' ∧ OwnO w' base v' (G ++ N) ∧ Grew W w' v v' G.length N.length := by
  obtain ⟨i0, hi0, hz0, hz1, hz2⟩ := info_parts infoOpt
  obtain ⟨g, o, cap, rfl, hc⟩ := hu.tags.rowO (by intro e; rw [e] at hN; simp at hN)
  obtain ⟨v', w', h1, h2, h3⟩ := owned_append (P := Tryz.prog) (t := 23) Tryz.underlying23 hi0 hz0 hz1 hz2 rfl (by decide) h hb ⟨g, o, none⟩ N.length cap (rowT N) hN (rowT_length N) hc (rowT_oneCell N) (by omega) (by decide)
  refine ⟨v', w', h1, ?_, h3⟩
  unfold OwnO
  rw [rowT_append, List.length_append]
  exact h2

/-- What 'append' makes of a row of lists and one list more. -/
def AppS (w : World) (v u v' : Value) (w' : World) : Prop := ∀ ty, (Builtin.append_ #[34, 34] ty #[v, u]).run Tryz.prog w = .ok v' w'

theorem rowS_app {v x : Value} {xs : List Value} (h : RowS W base v xs) (hb : base ≤ W.heap.size) (hx : x.oneCell' = true) (hroom : xs.length ≤ 1000) :
    ∃ v' w', AppS (W.alloc (.cells #[x] 23)) v (.slice (some ⟨W.heap.size, 0, none⟩) 1 1) v' w' ∧ RowS w' base v' (xs ++ [x]) ∧ Grew (W.alloc (.cells #[x] 23)) w' v v' xs.length 1 := by
  obtain ⟨i0, hi0, hz0, hz1, hz2⟩ := info_parts infoOptions
  have h' : RowS (W.alloc (.cells #[x] 23)) base v xs := rowS_kept h ((Kept.refl (fun _ => False) W).alloc _) (fun _ _ => id)
  obtain ⟨v', w', h1, h2, h3⟩ := owned_append (P := Tryz.prog) (t := 34) Tryz.underlying34 hi0 hz0 hz1 hz2 rfl (by decide) h' (by simp; omega) ⟨W.heap.size, 0, none⟩ 1 1 [x] (by decide) rfl (fun j u hj => by
    cases j with
    | zero =>
      simp at hj
      subst hj
      rw [addr_add, World.cell?_alloc_new]
      rfl
    | succ j => simp at hj) (by intro u hu; simp at hu; subst hu; exact hx) (by omega) (by decide)
  refine ⟨v', w', h1, ?_, h3⟩
  unfold RowS
  rw [List.length_append]
  exact h2

theorem Grew.kept {v v' : Value} {n m : Nat} (h : Grew W W' v v' n m) : Kept (fun i => v.ownBlock = some i) W W' := by
  rcases h with ⟨g, cap, rfl, rfl, hk⟩ | ⟨cap', rfl, hk, _⟩
  · exact hk.mono (fun i _ hi => by subst hi; rfl)
  · exact hk.mono (fun _ _ h => h.elim)

/-- The book and the row of what has grown. -/
structure Rest (W : World) (bk base : Nat) (v6 v7 : Value) (vs : List Value) (vo : Value) (gs : List Value) : Prop where
  blk : W.heap[bk]? = some (.cells (bookCells v6 v7) 49 (0, 0))
  r6 : RowS W base v6 vs
  ro : RowS W base vo gs
  ne : ¬ Shares v6 vo
  lo : base ≤ bk

theorem Rest.tags {vo x : Value} {gs : List Value} {G : List Tg} (h : Rest W bk base v6 v7 vs vo gs) (hx : OwnO W base x G) (hk : Kept (fun i => x.ownBlock = some i) W W') : Rest W' bk base v6 v7 vs vo gs := by
  refine ⟨(hk.block bk (Array.getElem?_eq_some_iff.1 h.blk).1 (fun e => ?_)).trans h.blk, rowS_kept h.r6 hk (fun i hi e => owned_unlike h.r6 hx (by decide) i hi e), rowS_kept h.ro hk (fun i hi e => owned_unlike h.ro hx (by decide) i hi e), h.ne, h.lo⟩
  rcases hx.2 with ⟨rfl, _⟩ | ⟨g, cap, cur, rfl, hb, hg, _⟩
  · cases e
  · have : g = bk := by simpa [Value.ownBlock] using e
    subst this
    rw [h.blk] at hg
    simp at hg

theorem Rest.kept0 {vo : Value} {gs : List Value} (h : Rest W bk base v6 v7 vs vo gs) (hk : Kept (fun _ => False) W W') : Rest W' bk base v6 v7 vs vo gs :=
  ⟨(hk.block bk (Array.getElem?_eq_some_iff.1 h.blk).1 id).trans h.blk, rowS_kept h.r6 hk (fun _ _ => id), rowS_kept h.ro hk (fun _ _ => id), h.ne, h.lo⟩

theorem Rest.c6 {vo : Value} {gs : List Value} (h : Rest W bk base v6 v7 vs vo gs) : W.cell? ⟨bk, 8, none⟩ = some v6 := by simp [World.cell?, h.blk, bookCells]

/-- The row of what has grown grows. -/
theorem Rest.row {vo vo' : Value} {gs gs' : List Value} (h : Rest W bk base v6 v7 vs vo gs) (hg : Grew W W' vo vo' gs.length 1) (hr : RowS W' base vo' gs') : Rest W' bk base v6 v7 vs vo' gs' := by
  have hk := hg.kept
  refine ⟨(hk.block bk (Array.getElem?_eq_some_iff.1 h.blk).1 (fun e => ?_)).trans h.blk, rowS_kept h.r6 hk (fun i hi e => h.ne ⟨i, hi, e⟩), hr, ?_, h.lo⟩
  · rcases h.ro.2 with ⟨e0, _⟩ | ⟨g, cap, cur, e0, hb, hg', _⟩
    · rw [e0] at e
      cases e
    · rw [e0] at e
      have : g = bk := by simpa [Value.ownBlock] using e
      subst this
      rw [h.blk] at hg'
      simp at hg'
  · rintro ⟨i, h1, h2⟩
    rcases hg with ⟨g, cap, rfl, rfl, _⟩ | ⟨cap', rfl, _, _⟩
    · exact h.ne ⟨i, h1, h2⟩
    · have hl := (World.ownsRow.lt h.r6 i h1).2
      have e : W.heap.size = i := by simpa [Value.ownBlock] using h2
      omega

theorem Cur.row {n base' : Nat} {gs : List Value} {j : Nat} {v x : Value} {G : List Tg} {xs : List Value} (h : Cur W base vs gs j v G) (hx : W.ownsRow base' 23 1 x n xs) (hk : Kept (fun i => x.ownBlock = some i) W W') : Cur W' base vs gs j v G :=
  ⟨own_kept h.own hk (fun i hi e => owned_unlike h.own hx (by decide) i hi e), h.links, h.far⟩

theorem own_oneCell {v : Value} {L : List Tg} (h : OwnO W base v L) : v.oneCell' = true := by
  obtain ⟨p, c, rfl⟩ := slice_of h
  rfl

/-- How far growOptions has come, between two lists. -/
structure OutSt (W wr : World) (bk base : Nat) (v6 v7 : Value) (vs : List Value) (Ls : List (List Tg)) (vo : Value) (gs : List Value) (Gs : List (List Tg)) : Prop where
  st : GrowSt wr base vs Ls gs Gs
  rest : Rest wr bk base v6 v7 vs vo gs
  mks : Marked Gs
  sz : ∀ G ∈ Gs, G.length ≤ 1100
  bel : Below base W wr
  hb : base ≤ wr.heap.size

/-- And within one. -/
structure InSt (W wr : World) (bk base : Nat) (v6 v7 : Value) (vs : List Value) (Ls : List (List Tg)) (vo : Value) (gs : List Value) (Gs : List (List Tg)) (v : Value) (c : Nat) : Prop where
  st : GrowSt wr base vs Ls gs Gs
  rest : Rest wr bk base v6 v7 vs vo gs
  cur : Cur wr base vs gs gs.length v (marksT gs.length 0 c)
  bel : Below base W wr
  hb : base ≤ wr.heap.size

theorem InSt.slice {wr : World} {vo v : Value} {gs : List Value} {Gs : List (List Tg)} {c : Nat} (h : InSt W wr bk base v6 v7 vs Ls vo gs Gs v c) : ∃ p cap, v = .slice p c cap := by
  obtain ⟨p, cap, e⟩ := slice_of h.cur.own
  rw [marksT_length] at e
  exact ⟨p, cap, e⟩

/-- Some marks more. -/
theorem InSt.more {wr w1 : World} {vo v u : Value} {gs : List Value} {Gs : List (List Tg)} {c m : Nat} (h : InSt W wr bk base v6 v7 vs Ls vo gs Gs v c) (hu : OwnO w1 wr.heap.size u (marksT gs.length c m)) (hk : Kept (fun _ => False) wr w1) (hm : 0 < m) (hcm : c + m ≤ 10000) :
    ∃ v' w', AppO w1 v u v' w' ∧ InSt W w' bk base v6 v7 vs Ls vo gs Gs v' (c + m) := by
  have hc1 := h.cur.kept0 hk
  have hb1 : base ≤ w1.heap.size := Nat.le_trans h.hb hk.size
  obtain ⟨v', w', h1, h2, h3⟩ := own_app hc1.own hb1 hu (by rw [marksT_length]; exact hm) (by rw [marksT_length, marksT_length]; omega)
  rw [marksT_length, marksT_length] at h3
  have hg := h3
  rw [← marksT_length gs.length 0 c] at h3
  have hNl : (marksT gs.length c m).length = m := marksT_length _ _ _
  obtain ⟨q1, q2⟩ := cur_step (h.st.kept0 hk) hc1 hNl h3 h2
  have e : marksT gs.length 0 c ++ marksT gs.length c m = marksT gs.length 0 (c + m) := by rw [marksT_append, Nat.zero_add]
  rw [e] at q2
  refine ⟨v', w', h1, q1, (h.rest.kept0 hk).tags hc1.own hg.kept, q2, ?_, Nat.le_trans hb1 hg.kept.size⟩
  exact (h.bel.trans (hk.below h.hb (fun _ h => h.elim))).trans (hg.kept.below hb1 (fun i hi => (own_lt hc1.own hi).1))

/-- The list is grown, and stands in the row. -/
theorem InSt.close {wr : World} {vo v : Value} {gs : List Value} {Gs : List (List Tg)} {c : Nat} (h : InSt W wr bk base v6 v7 vs Ls vo gs Gs v c) (hmk : Marked Gs) (hsz : ∀ G ∈ Gs, G.length ≤ 1100) (hc : c ≤ 1100) (hgs : gs.length ≤ 250) :
    ∃ vo' w', AppS (wr.alloc (.cells #[v] 23)) vo (.slice (some ⟨wr.heap.size, 0, none⟩) 1 1) vo' w' ∧ OutSt W w' bk base v6 v7 vs Ls vo' (gs ++ [v]) (Gs ++ [marksT gs.length 0 c]) := by
  obtain ⟨vo', w', h1, h2, h3⟩ := rowS_app h.rest.ro h.hb (own_oneCell h.cur.own) (by omega)
  have hk1 : Kept (fun _ => False) wr (wr.alloc (.cells #[v] 23)) := (Kept.refl _ _).alloc _
  have hr1 := h.rest.kept0 hk1
  have hb1 : base ≤ (wr.alloc (.cells #[v] 23)).heap.size := Nat.le_trans h.hb hk1.size
  have st2 := (h.st.kept0 hk1).row hr1.ro h3.kept
  have cur2 := (h.cur.kept0 hk1).row hr1.ro h3.kept
  refine ⟨vo', w', h1, grow_end st2 cur2, hr1.row h3 h2, fun j L hj => ?_, fun G hG => ?_, ?_, Nat.le_trans hb1 h3.kept.size⟩
  · have hlen : gs.length = Gs.length := h.st.grown.len
    by_cases hjl : j < Gs.length
    · rw [List.getElem?_append_left hjl] at hj
      exact hmk j L hj
    · rw [List.getElem?_append_right (by omega)] at hj
      have := (List.getElem?_eq_some_iff.1 hj).1
      simp at this
      have e : j - Gs.length = 0 := by omega
      have ej : j = gs.length := by omega
      rw [e] at hj
      simp at hj
      rw [← hj, marksT_length, ej]
  · rcases List.mem_append.1 hG with hG | hG
    · exact hsz G hG
    · simp at hG
      rw [hG, marksT_length]
      exact hc
  · exact (h.bel.trans (hk1.below h.hb (fun _ h => h.elim))).trans (h3.kept.below hb1 (fun i hi => (World.ownsRow.lt hr1.ro i hi).1))

theorem OutSt.start {wr : World} {vo : Value} {gs : List Value} {Gs : List (List Tg)} (h : OutSt W wr bk base v6 v7 vs Ls vo gs Gs) {x : Value} {L : List Tg} (hx : vs[gs.length]? = some x) (hL : Ls[gs.length]? = some L) (hm : Marked Ls) : InSt W wr bk base v6 v7 vs Ls vo gs Gs x L.length := by
  have hc := cur_start h.st hx hL
  rw [hm _ L hL] at hc
  exact ⟨h.st, h.rest, hc, h.bel, h.hb⟩

set_option maxHeartbeats 4000000 in
set_option maxRecDepth 100000 in
theorem grow_Options (h : BookP W bk base v6 v7 vs Ls) (hm : Marked Ls) (hb : base ≤ W.heap.size) (hsm : ∀ L ∈ Ls, L.length ≤ 1000) (h250 : vs.length ≤ 250) :
    Calls Tryz.prog 71 #[.pointer (some ⟨bk, 0, none⟩)] W fun e w' => ∃ vo, e = .returned vo ∧ ∃ gs : List Value, gs.length = vs.length ∧ ∃ Gs, OutSt W w' bk base v6 v7 vs Ls vo gs Gs := by
  obtain ⟨p, cap, rfl⟩ := rowS_slice h.r6
  have HL := hid h.f6.len
  have Hsm := hid hsm
  have Hm := hid hm
  have H0 : Hid (OutSt W W bk base (.slice p vs.length cap) v7 vs Ls (.slice none 0 0) [] []) := ⟨⟨h.f6, Fam.nil _ _, h.a6, Apart.nil, fun r q u v hu => by simp at hu⟩, ⟨h.blk, h.r6, World.ownsRow_nil _ _ _ _, fun ⟨g, _, h2⟩ => by simp [Value.ownBlock] at h2, h.lo⟩, fun j L hj => by simp at hj, fun G hG => by simp at hG, Below.refl _ _, hb⟩
  clear h hsm hm
  go_enter Tryz.func71, Tryz.ntmps71
  go_wp2
  go_loopw [3, 4] (fun vo vi wr => ∃ (j : Nat) (gs : List Value) (Gs : List (List Tg)), j ≤ vs.length ∧ vi = .int .i64 (j : Int) ∧ Hid (gs.length = j ∧ OutSt W wr bk base (.slice p vs.length cap) v7 vs Ls vo gs Gs)) (fun _ vi _ => vs.length - (intOf vi).toNat)
  case atStart => exact ⟨0, [], [], Nat.zero_le _, rfl, rfl, H0.out⟩
  case round =>
    obtain ⟨j, gs, Gs, hj, rfl, HI⟩ := hrel
    have d6 := HI.out.2.rest.c6
    clear H0
    by_cases hlt : j < vs.length
    · have hltz : (j : Int) < (vs.length : Int) := by omega
      obtain ⟨x, hx⟩ : ∃ x, vs[j]? = some x := ⟨vs[j], by simp [hlt]⟩
      obtain ⟨L, hL⟩ : ∃ L, Ls[j]? = some L := ⟨Ls[j]'(by have := HL.out; omega), by simp⟩
      obtain ⟨g6, rfl, hc6, e6⟩ := rowS_at HI.out.2.rest.r6 hx
      have hLs := Hsm.out L (List.mem_of_getElem? hL)
      obtain ⟨hgj, hO⟩ := HI.out
      have Hgj := hid hgj
      have S0 := hid (hO.start (x := x) (L := L) (by rw [hgj]; exact hx) (by rw [hgj]; exact hL) Hm.out)
      have HMk := hid (And.intro hO.mks hO.sz)
      obtain ⟨n0, hn0⟩ : ∃ n0, n0 = L.length := ⟨_, rfl⟩
      rw [← hn0] at S0 hLs
      clear HI hO hgj hx hL hn0
      go_wp2
      go_loopw [5, 6] (fun v5 vn wr => ∃ c : Nat, c ≤ 12 ∧ vn = .int .i64 (c : Int) ∧ Hid (InSt W wr bk base (.slice (some ⟨g6, 0, none⟩) vs.length cap) v7 vs Ls u3 gs Gs v5 (n0 + c))) (fun _ vn _ => 12 - (intOf vn).toNat)
      case atStart => exact ⟨0, Nat.zero_le _, rfl, S0.out⟩
      case round =>
        obtain ⟨c, hc, rfl, HI⟩ := hrel
        obtain ⟨p5, c5, rfl⟩ := HI.out.slice
        clear S0 e6 d6
        by_cases hclt : c < 12
        · have hcz : (c : Int) < 12 := by omega
          have HM := hid (markOptions_any j (n0 + c) 1 (by omega) (by omega) (by omega))
          rw [show ((n0 + c : Nat) : Int) = (n0 : Int) + (c : Int) by omega] at HM
          go_wp2_with fail
          refine (HM.out _).mono ?_
          rintro e1 w1 ⟨u1, rfl, ho1, hk1⟩
          have ho1' : OwnO w1 wr.heap.size u1 (marksT gs.length (n0 + c) 1) := by rw [Hgj.out]; exact ho1
          obtain ⟨v', w2, happ, hin⟩ := HI.out.more ho1' hk1 (by decide) (by omega)
          have HIN := hid hin
          clear ho1 ho1' hk1 hin HI HM
          go_wp2_with (at_builtin; refine Lib.wpList_append_run _ rfl _ _ _ _ rfl _ _ rfl rfl _ _ (happ _) ?_)
          clear happ
          go_wp2
          exact ⟨⟨c + 1, hclt, by go_num, HIN.out⟩, by simp [intOf]; omega⟩
        · obtain rfl : c = 12 := by omega
          have HM := hid (markOptions_any j (n0 + 12) 60 (by omega) (by omega) (by omega))
          rw [show ((n0 + 12 : Nat) : Int) = (n0 : Int) + 12 by omega] at HM
          go_wp2_with fail
          refine (HM.out _).mono ?_
          rintro e1 w1 ⟨u1, rfl, ho1, hk1⟩
          have ho1' : OwnO w1 wr.heap.size u1 (marksT gs.length (n0 + 12) 60) := by rw [Hgj.out]; exact ho1
          obtain ⟨v', w2, happ, hin⟩ := HI.out.more ho1' hk1 (by decide) (by omega)
          obtain ⟨p', c', rfl⟩ := hin.slice
          obtain ⟨vo', w3, hs, hout⟩ := hin.close HMk.out.1 HMk.out.2 (by omega) (by have := Hgj.out; omega)
          have HOut := hid hout
          clear ho1 ho1' hk1 hin HI HM hout
          go_wp2_with (first | (at_builtin; refine Lib.wpList_append_run _ rfl _ _ _ _ rfl _ _ rfl rfl _ _ (happ _) ?_) | (at_builtin; refine Lib.wpList_append_run _ rfl _ _ _ _ rfl _ _ rfl rfl _ _ (hs _) ?_))
          clear happ hs
          exact ⟨⟨j + 1, _, _, hlt, by go_num, by have := Hgj.out; rw [List.length_append, List.length_singleton]; omega, HOut.out⟩, by simp [intOf]; omega⟩
    · obtain rfl : j = vs.length := by omega
      have hltz : ¬ (vs.length : Int) < (vs.length : Int) := by omega
      go_wp2
      go_ret
      exact ⟨_, rfl, gs, HI.out.1, Gs, HI.out.2⟩
end
end Go.Proofs.YtodgkmjiiijfpaaGreat

namespace Go.Proofs.YtodgkmjiiijfpaaGreat
open Go.RowKit

set_option maxHeartbeats 1000000 in
set_option maxRecDepth 100000 in
theorem copyOptions_any (v : Value) (l : List Tg) (w : World) (hv : TagsAt w v l) (hl : l.length ≤ 100000) :
    Calls Tryz.prog 30 #[v] w fun e w' => ∃ u, e = .returned u ∧ OwnO w' w.heap.size u l ∧ Kept (fun _ => False) w w' := by
  obtain ⟨u, w1, hr, ho, hk⟩ := appendO_run (Kept.refl (fun _ => False) w) (OwnO.nil w w.heap.size) hv (by simp; omega)
  rw [List.nil_append] at ho
  have HO := hid ho
  have HK := hid hk
  clear ho hk hv
  go_enter Tryz.func30, Tryz.ntmps30
  go_wp2_with (at_builtin; refine Lib.wpList_append_run _ rfl _ _ _ _ rfl _ _ rfl rfl _ _ (hr _) ?_)
  go_ret
  exact ⟨_, rfl, HO.out, HK.out⟩

def lentT : Tg := ⟨-77, ⟨#[]⟩⟩
/-- A list with one more, hidden, behind it. -/
def LentAt (W : World) (base g cap : Nat) (l : List Tg) : Prop := OwnO W base (.slice (some ⟨g, 0, none⟩) (l.length + 1) cap) (l ++ [lentT])

theorem LentAt.own {W : World} {base g cap : Nat} {l : List Tg} (h : LentAt W base g cap l) : OwnO W base (.slice (some ⟨g, 0, none⟩) l.length cap) l := by
  have h' : W.ownsRow base 60 2 (.slice (some ⟨g, 0, none⟩) (l.length + 1) cap) (l.length + 1) (rowT (l ++ [lentT])) := by
    have e : (l ++ [lentT]).length = l.length + 1 := by simp
    unfold LentAt OwnO at h
    rw [e] at h
    exact h
  have := owned_first h' (m := l.length) (by omega)
  rw [rowT_append, List.take_append_of_le_length (by rw [rowT_length]; exact Nat.le_refl _), List.take_of_length_le (by rw [rowT_length]; exact Nat.le_refl _)] at this
  exact this
theorem LentAt.kept {W W' : World} {base g cap : Nat} {l : List Tg} (h : LentAt W base g cap l) (hk : Kept (fun _ => False) W W') : LentAt W' base g cap l := OwnO.kept h hk
theorem LentAt.cap {W : World} {base g cap : Nat} {l : List Tg} (h : LentAt W base g cap l) : l.length + 1 ≤ cap ∧ cap ≤ maxLen := by
  rcases h.2 with ⟨h', _⟩ | ⟨g', cap', cur, h', hb, hg, h1, h2, _⟩
  · simp at h'
  · simp only [Value.slice.injEq] at h'
    simp at h1
    omega

set_option maxHeartbeats 1000000 in
set_option maxRecDepth 100000 in
theorem lentOptions_any (v : Value) (l : List Tg) (w : World) (hv : TagsAt w v l) (hl : l.length ≤ 10000) :
    Calls Tryz.prog 9 #[v] w fun e w' => ∃ g cap, e = .returned (.slice (some ⟨g, 0, none⟩) l.length cap) ∧ LentAt w' w.heap.size g cap l ∧ Kept (fun _ => False) w w' := by
  obtain ⟨i0, hi0, hz0, hz1, hz2⟩ := info_parts infoOpt
  obtain ⟨p, cp, rfl⟩ := hv.slice
  obtain ⟨u, w1, hr, ho, hk⟩ := appendO_run (Kept.refl (fun _ => False) w) (OwnO.nil w w.heap.size) hv (by simp; omega)
  rw [List.nil_append] at ho
  have HO := hid ho
  have HK := hid hk
  have hs1 := hk.size
  clear ho hk hv
  go_enter Tryz.func9, Tryz.ntmps9
  go_wp2_with (first
    | (at_builtin; refine Lib.wpList_append_run _ rfl _ _ _ _ rfl _ _ rfl rfl _ _ (hr _) ?_)
    | (at_builtin; refine wpList_append_lies _ rfl _ _ 23 rfl w.heap.size 60 i0 (.agg #[.int .i64 0, .string ⟨#[]⟩]) 2 24 Tryz.underlying23 hi0 hz0 hz1 hz2 rfl (by decide) _ l.length (rowT l) rfl (World.ownsRow.alloc HO.out _) ⟨w1.heap.size, 0, none⟩ 1 1 [.int .i64 (-77), .string ⟨#[]⟩] rfl rfl (cells_two_new _ _ _ _) (by intro u hu; simp at hu; rcases hu with rfl | rfl <;> rfl) (by decide) (by unfold maxLen; omega) (by omega) (by simp; omega) _ rfl ?_; intro g cap w2 hown' hgrow _ _; have R := own_moreO (x := lentT) HK.out HO.out hown' hgrow; have hcap := LentAt.cap (l := l) R.1; have HR := hid R; clear hown' hgrow R; obtain ⟨hc1, hc2⟩ := hcap; unfold maxLen at hc2))
  go_ret
  exact ⟨_, _, rfl, HR.out.1, HR.out.2⟩
end Go.Proofs.YtodgkmjiiijfpaaGreat

namespace Go.Proofs.YtodgkmjiiijfpaaGreat
open Go.RowKit

set_option maxHeartbeats 1000000 in
set_option maxRecDepth 100000 in
theorem staysOptions_any (g cap base : Nat) (v : Value) (l : List Tg) (w : World) (hn : LentAt w base g cap l) (hv : TagsAt w v l) (hl : l.length ≤ 10000) :
    Calls Tryz.prog 15 #[.slice (some ⟨g, 0, none⟩) l.length cap, v] w fun e w' => e = .returned (.bool true) ∧ Kept (fun _ => False) w w' := by
  have HS := hid (sameOptions_any (.slice (some ⟨g, 0, none⟩) l.length cap) v l l w hn.own.tags hv (by omega))
  rw [sameF_self] at HS
  obtain ⟨hc1, hc2⟩ := hn.cap
  unfold maxLen at hc2
  have HN := hid hn
  clear hn hv
  go_enter Tryz.func15, Tryz.ntmps15
  go_wp2_with fail
  refine HS.out.mono ?_
  rintro e w1 ⟨rfl, hk1⟩
  obtain ⟨g', cap', e1, _, q0, _, _⟩ := own_at (HN.out.kept hk1) (k := l.length) (y := lentT) (by simp)
  simp only [Value.slice.injEq, Option.some.injEq, Addr.mk.injEq, and_true] at e1
  obtain ⟨rfl, hx⟩ := e1
  clear hx
  have q1 : w1.cell? ⟨g, l.length * 2, none⟩ = some (.int .i64 (-77)) := q0
  have K1 := hid hk1
  have hl1 : (l.length : Int) + 1 ≤ (cap : Int) := by omega
  clear q0 hk1 HN
  go_wp2
  go_ret
  exact ⟨rfl, K1.out⟩

section
variable {W W' : World} {bk base : Nat} {v6 v7 : Value} {vs us : List Value} {Ls : List (List Tg)}

/-- No row is the book's own block. -/
theorem BookP.far {n k : Nat} {e : TypeId} {x : Value} {xs : List Value} {b : Nat} (h : BookP W bk base v6 v7 vs Ls) (hx : W.ownsRow b e k x n xs) (he : e ≠ 49) : x.ownBlock ≠ some bk := by
  intro h1
  rcases hx.2 with ⟨rfl, _⟩ | ⟨g, cap, cur, rfl, hb, hg, _⟩
  · cases h1
  · have : g = bk := by simpa [Value.ownBlock] using h1
    subst this
    rw [h.blk] at hg
    simp at hg
    exact he hg.2.symm
end
end Go.Proofs.YtodgkmjiiijfpaaGreat

namespace Go.Proofs.YtodgkmjiiijfpaaGreat
open Go.RowKit

/-- 'append' whose run is known, in a region that draws. -/
theorem step_append_run {P : Program} {ops : Array Oper} {o : Oper} {a : Act} {w : World} {K : Act → World → Prop} {Q : Exit → Act → World → Prop} {E : Prop} (hg : o.guard = none) (d x : Operand) (t : TypeId) (hop : o.op = Op.call { callee := Callee.builtin Builtin.append, args := #[d, x], argTypes := #[t, t] })
    (v u : Value) (hd : a.eval d = v) (hx : a.eval x = u) {v' : Value} {w' : World} (hr : (Builtin.append_ #[t, t] o.type #[v, u]).run P w = .ok v' w') (hK : K (a.put o.dst v') w') :
    if Region.wanted o (yielded ops a.tmps) = true then Oper.wp P o a w K Q else E := by
  rw [if_pos (by simp [Region.wanted, hg])]
  unfold Oper.wp execOp
  simp only [hop, resolve, invoke, builtin, Sem.run_bind, Sem.run_pure, Result.andThen_ok, List.map_toArray, List.map_cons, List.map_nil, hd, hx, hr]
  exact hK

section
variable {W W' : World} {bk base : Nat} {v6 v7 : Value} {vs us : List Value} {Ls Ks : List (List Tg)}

/-- A book in the midst of it. -/
structure Half (W : World) (bk base : Nat) (v6 v7 : Value) (vs us : List Value) (Ls Ks : List (List Tg)) : Prop where
  p : BookP W bk base v6 v7 vs Ls
  r7 : RowS W base v7 us
  f7 : Fam W base us Ks
  ne : ¬ Shares v6 v7

theorem Half.kept0 (h : Half W bk base v6 v7 vs us Ls Ks) (hk : Kept (fun _ => False) W W') : Half W' bk base v6 v7 vs us Ls Ks :=
  ⟨h.p.kept0 hk, rowS_kept h.r7 hk (fun _ _ => id), h.f7.kept0 hk, h.ne⟩

/-- A cell of the book is written. -/
theorem half_set {i : Nat} {x v6' v7' : Value} (hb : W.heap[bk]? = some (.cells (bookCells v6 v7) 49 (0, 0))) (hi : (bookCells v6 v7).setIfInBounds i x = bookCells v6' v7') (hlo : base ≤ bk)
    (r6 : RowS W base v6' vs) (f6 : Fam W base vs Ls) (a6 : Apart vs) (r7 : RowS W base v7' us) (f7 : Fam W base us Ks) (ne : ¬ Shares v6' v7') : Half (W.setCell ⟨bk, i, none⟩ x) bk base v6' v7' vs us Ls Ks := by
  have hk : Kept (fun j => j = bk) W (W.setCell ⟨bk, i, none⟩ x) := (Kept.refl (fun j => j = bk) W).setCell (p := ⟨bk, i, none⟩) (Or.inr rfl) x
  have far : ∀ {n k b : Nat} {e : TypeId} {y : Value} {ys : List Value}, W.ownsRow b e k y n ys → e ≠ 49 → ∀ j, y.ownBlock = some j → ¬ j = bk := by
    intro n k b e y ys hy he j hj hjb
    subst hjb
    rcases hy.2 with ⟨rfl, _⟩ | ⟨g, cap, cur, rfl, _, hg, _⟩
    · cases hj
    · have : g = j := by simpa [Value.ownBlock] using hj
      subst this
      rw [hb] at hg
      simp at hg
      exact he hg.2.symm
  have b1 := Joins.block_setCell hb (i := i) x
  rw [hi] at b1
  refine ⟨⟨b1, rowS_kept r6 hk (far r6 (by decide)), f6.kept hk (fun r v j hv hj => ?_), a6, hlo⟩, rowS_kept r7 hk (far r7 (by decide)), f7.kept hk (fun r v j hv hj => ?_), ne⟩
  · obtain ⟨L, _, hL⟩ := f6.at hv
    exact far hL (by decide) j hj
  · obtain ⟨L, _, hL⟩ := f7.at hv
    exact far hL (by decide) j hj

theorem grew_far {x y y' : Value} {n : Nat} {k m b : Nat} {e : TypeId} {xs : List Value} (hg : Grew W W' y y' n 1) (hx : W.ownsRow b e k x m xs) (h : ¬ Shares x y) : ¬ Shares x y' := by
  rintro ⟨i, h1, h2⟩
  rcases hg with ⟨g, cap, rfl, rfl, _⟩ | ⟨cap', rfl, _, _⟩
  · exact h ⟨i, h1, h2⟩
  · have hl := (World.ownsRow.lt hx i h1).2
    have e : W.heap.size = i := by simpa [Value.ownBlock] using h2
    omega

theorem shares_symm {x y : Value} (h : ¬ Shares x y) : ¬ Shares y x := fun ⟨g, a, b⟩ => h ⟨g, b, a⟩

theorem half6 (h : BookT W bk base v6 v7 vs us Ls) {v v6' : Value} {L : List Tg} (hv : OwnO W base v L) (hnew : ∀ (r : Nat) (u : Value), vs[r]? = some u → ¬ Shares u v) (hg : Grew W W' v6 v6' vs.length 1) (hr : RowS W' base v6' (vs ++ [v])) :
    Half (W'.setCell ⟨bk, 8, none⟩ v6') bk base v6' v7 (vs ++ [v]) us (Ls ++ [L]) Ls := by
  have hk := hg.kept
  have unl : ∀ {x : Value} {M : List Tg}, OwnO W base x M → ∀ i, x.ownBlock = some i → ¬ v6.ownBlock = some i := fun hx i hi e => owned_unlike hx h.p.r6 (by decide) i hi e
  refine half_set (v6 := v6) (v7 := v7) ((hk.block bk h.p.lt (fun e => h.p.far h.p.r6 (by decide) e)).trans h.p.blk) rfl h.p.lo hr ?_ (h.p.a6.snoc hnew) (rowS_kept h.r7 hk (fun i hi e => h.ne ⟨i, e, hi⟩)) (h.f7.kept hk (fun r x i hx hi => ?_)) (shares_symm (grew_far hg h.r7 (shares_symm h.ne)))
  · refine Fam.snoc (h.p.f6.kept hk (fun r x i hx hi => ?_)) (own_kept hv hk (unl hv))
    obtain ⟨M, _, hM⟩ := h.p.f6.at hx
    exact unl hM i hi
  · obtain ⟨M, _, hM⟩ := h.f7.at hx
    exact unl hM i hi

theorem half7 (h : Half W bk base v6 v7 vs us Ls Ks) {u v7' : Value} {L : List Tg} (hu : OwnO W base u L) (hg : Grew W W' v7 v7' us.length 1) (hr : RowS W' base v7' (us ++ [u])) (hL : Ls = Ks ++ [L]) :
    BookT (W'.setCell ⟨bk, 9, none⟩ v7') bk base v6 v7' vs (us ++ [u]) Ls := by
  have hk := hg.kept
  have unl : ∀ {x : Value} {M : List Tg}, OwnO W base x M → ∀ i, x.ownBlock = some i → ¬ v7.ownBlock = some i := fun hx i hi e => owned_unlike hx h.r7 (by decide) i hi e
  have R : Half (W'.setCell ⟨bk, 9, none⟩ v7') bk base v6 v7' vs (us ++ [u]) Ls (Ks ++ [L]) := by
    refine half_set (v6 := v6) (v7 := v7) ((hk.block bk h.p.lt (fun e => h.p.far h.r7 (by decide) e)).trans h.p.blk) rfl h.p.lo (rowS_kept h.p.r6 hk (fun i hi e => h.ne ⟨i, hi, e⟩)) (h.p.f6.kept hk (fun r x i hx hi => ?_)) h.p.a6 hr ?_ (grew_far hg h.p.r6 h.ne)
    · obtain ⟨M, _, hM⟩ := h.p.f6.at hx
      exact unl hM i hi
    · refine Fam.snoc (h.f7.kept hk (fun r x i hx hi => ?_)) (own_kept hu hk (unl hu))
      obtain ⟨M, _, hM⟩ := h.f7.at hx
      exact unl hM i hi
  rw [← hL] at R
  exact ⟨R.p, R.r7, R.f7, R.ne⟩

/-- The blocks of the book itself and of its rows of lists. -/
def Bo (bk : Nat) (v6 v7 : Value) (i : Nat) : Prop := i = bk ∨ v6.ownBlock = some i ∨ v7.ownBlock = some i

/-- Behind the copy. -/
def Copied (W0 : World) (S : Nat → Prop) (bk base : Nat) (v6 v7 : Value) (vs us : List Value) (Ls Ks : List (List Tg)) (u : Value) (L : List Tg) (W : World) : Prop := Half W bk base v6 v7 vs us Ls Ks ∧ OwnO W base u L ∧ Kept S W0 W ∧ base ≤ W.heap.size

theorem copied_app {W0 : World} {S : Nat → Prop} {u : Value} {L : List Tg} (hS7 : ∀ i, v7.ownBlock = some i → S i) (hSb : S bk) (h : Copied W0 S bk base v6 v7 vs us Ls Ks u L W) (hL : Ls = Ks ++ [L]) (hn : us.length ≤ 250) :
    ∃ p c w4, AppS (W.alloc (.cells #[u] 23)) v7 (.slice (some ⟨W.heap.size, 0, none⟩) 1 1) (.slice p (us.length + 1) c) w4 ∧ w4.cell? ⟨bk, 9, none⟩ = some v7 ∧ w4.frozen? ⟨bk, 9, none⟩ = false ∧
      BookT (w4.setCell ⟨bk, 9, none⟩ (.slice p (us.length + 1) c)) bk base v6 (.slice p (us.length + 1) c) vs (us ++ [u]) Ls ∧ Kept S W0 (w4.setCell ⟨bk, 9, none⟩ (.slice p (us.length + 1) c)) := by
  obtain ⟨hH, hu, hB, hb⟩ := h
  obtain ⟨v7', w4, h1, h2, h3⟩ := rowS_app hH.r7 hb (own_oneCell hu) (by omega)
  have hk1 : Kept (fun _ => False) W (W.alloc (.cells #[u] 23)) := (Kept.refl _ _).alloc _
  have hH1 := hH.kept0 hk1
  have R := half7 hH1 (hu.kept hk1) h3 h2 hL
  have hblk := (h3.kept.block bk hH1.p.lt (fun e => hH1.p.far hH1.r7 (by decide) e)).trans hH1.p.blk
  have hBw : Kept S W0 w4 := (hB.trans (hk1.mono (fun _ _ h => h.elim))).trans (h3.kept.mono (fun i _ hi => hS7 i hi))
  obtain ⟨p, c, e⟩ := slice_of h2
  rw [List.length_append, List.length_singleton] at e
  subst e
  exact ⟨p, c, w4, h1, by simp [World.cell?, hblk, bookCells], frozen_of_row _ bk 9 _ _ hblk, R, hBw.setCell (p := ⟨bk, 9, none⟩) (Or.inr hSb) _⟩

end
end Go.Proofs.YtodgkmjiiijfpaaGreat

namespace Go.Proofs.YtodgkmjiiijfpaaGreat
open Go.RowKit
section
variable {W W' : World} {bk base : Nat} {v6 v7 : Value} {vs us : List Value} {Ls Ks : List (List Tg)}
set_option maxHeartbeats 4000000 in
set_option maxRecDepth 100000 in
theorem bookOptions_any (h : BookT W bk base v6 v7 vs us Ls) (hb : base ≤ W.heap.size) (h250 : vs.length < 250) {v : Value} {L : List Tg} (hv : OwnO W base v L) (hnew : ∀ (r : Nat) (u : Value), vs[r]? = some u → ¬ Shares u v) (hLn : L.length ≤ 1000) :
    Calls Tryz.prog 16 #[.pointer (some ⟨bk, 0, none⟩), v] W fun e w' => e = .returned (.tuple #[]) ∧ ∃ v6' v7' u, BookT w' bk base v6' v7' (vs ++ [v]) (us ++ [u]) (Ls ++ [L]) ∧ Kept (Bo bk v6 v7) W w' := by
  have hul : us.length ≤ 250 := by have h1 := h.f7.len; have h2 := h.p.f6.len; omega
  obtain ⟨p6, cap6, rfl⟩ := rowS_slice h.p.r6
  obtain ⟨pv, cv, rfl⟩ := slice_of hv
  obtain ⟨v6', w1, hs, hr, hg⟩ := rowS_app h.p.r6 hb (own_oneCell hv) (by omega)
  have hk0 : Kept (fun _ => False) W (W.alloc (.cells #[.slice pv L.length cv] 23)) := (Kept.refl _ _).alloc _
  have h0 := h.kept0 hk0
  have hH := half6 h0 (hv.kept hk0) hnew hg hr
  have hblk := (hg.kept.block bk h0.p.lt (fun e => h0.p.far h0.p.r6 (by decide) e)).trans h0.p.blk
  have c6 := h.p.c6
  have c60 := h0.p.c6
  have d6 : w1.cell? ⟨bk, 8, none⟩ = some (.slice p6 vs.length cap6) := by simp [World.cell?, hblk, bookCells]
  have f6 : w1.frozen? ⟨bk, 8, none⟩ = false := frozen_of_row _ bk 8 _ _ hblk
  have hB1 : Kept (Bo bk (.slice p6 vs.length cap6) v7) W w1 := (hk0.mono (fun _ _ h => h.elim)).trans (hg.kept.mono (fun i _ hi => Or.inr (Or.inl hi)))
  have hBH := hB1.setCell (p := ⟨bk, 8, none⟩) (Or.inr (Or.inl rfl)) v6'
  have hbH : base ≤ (w1.setCell ⟨bk, 8, none⟩ v6').heap.size := Nat.le_trans hb hBH.size
  have hov : OwnO (w1.setCell ⟨bk, 8, none⟩ v6') base (.slice pv L.length cv) L := hH.p.f6.own vs.length _ L (by simp) (by rw [h.p.f6.len]; simp)
  obtain ⟨p6', c6', e6⟩ := slice_of hr
  rw [List.length_append, List.length_singleton] at e6
  subst e6
  have c7 := hH.p.c7
  have f7 := hH.p.frozen 9
  obtain ⟨p7, cap7, e7⟩ := rowS_slice hH.r7
  subst e7
  have hltz : (vs.length : Int) < 250 := by omega
  have HC : Hid (∀ W', Kept (fun _ => False) (w1.setCell ⟨bk, 8, none⟩ (.slice p6' (vs.length + 1) c6')) W' → Calls Tryz.prog 30 #[.slice pv L.length cv] W' fun e w' => ∃ pu cu, e = .returned (.slice pu L.length cu) ∧ Copied W (Bo bk (.slice p6 vs.length cap6) (.slice p7 us.length cap7)) bk base (.slice p6' (vs.length + 1) c6') (.slice p7 us.length cap7) (vs ++ [.slice pv L.length cv]) us (Ls ++ [L]) Ls (.slice pu L.length cu) L w') := fun W' hk => by
    refine (copyOptions_any (.slice pv L.length cv) L W' (hov.kept hk).tags (by omega)).mono ?_
    rintro e w' ⟨u, rfl, ho, hk2⟩
    obtain ⟨pu, cu, rfl⟩ := slice_of ho
    exact ⟨pu, cu, rfl, hH.kept0 (hk.trans hk2), ho.mono (Nat.le_trans hbH hk.size), hBH.trans ((hk.trans hk2).mono (fun _ _ h => h.elim)), Nat.le_trans hbH (hk.trans hk2).size⟩
  have HA := hid (fun W' u (hc : Copied W (Bo bk (.slice p6 vs.length cap6) (.slice p7 us.length cap7)) bk base (.slice p6' (vs.length + 1) c6') (.slice p7 us.length cap7) (vs ++ [.slice pv L.length cv]) us (Ls ++ [L]) Ls u L W') => copied_app (S := Bo bk (.slice p6 vs.length cap6) (.slice p7 us.length cap7)) (fun i hi => Or.inr (Or.inr hi)) (Or.inl rfl) hc rfl hul)
  have D0 : Kept (fun _ => False) (w1.setCell ⟨bk, 8, none⟩ (.slice p6' (vs.length + 1) c6')) (w1.setCell ⟨bk, 8, none⟩ (.slice p6' (vs.length + 1) c6')).drew := (Kept.refl _ _).drew
  have HS : Hid (∀ W', Kept (fun _ => False) (w1.setCell ⟨bk, 8, none⟩ (.slice p6' (vs.length + 1) c6')) W' → W'.cell? ⟨bk, 9, none⟩ = some (.slice p7 us.length cap7) ∧ W'.frozen? ⟨bk, 9, none⟩ = false) := fun W' hk => ⟨(hH.kept0 hk).p.c7, (hH.kept0 hk).p.frozen 9⟩
  have HSc : Hid (∀ W' u o, Copied W (Bo bk (.slice p6 vs.length cap6) (.slice p7 us.length cap7)) bk base (.slice p6' (vs.length + 1) c6') (.slice p7 us.length cap7) (vs ++ [.slice pv L.length cv]) us (Ls ++ [L]) Ls u L W' → (W'.cell? ⟨bk, 9, none⟩ = some (.slice p7 us.length cap7) ∧ W'.frozen? ⟨bk, 9, none⟩ = false) ∧ ((W'.alloc o).cell? ⟨bk, 9, none⟩ = some (.slice p7 us.length cap7) ∧ (W'.alloc o).frozen? ⟨bk, 9, none⟩ = false)) := fun W' u o hc => ⟨⟨hc.1.p.c7, hc.1.p.frozen 9⟩, (hc.1.kept0 ((Kept.refl _ _).alloc o)).p.c7, (hc.1.kept0 ((Kept.refl _ _).alloc o)).p.frozen 9⟩
  clear h h0 hH hov hg hr hv hnew hblk hB1 hBH hk0
  go_enter Tryz.func16, Tryz.ntmps16
  go_wp2_with (at_builtin; refine Lib.wpList_append_run _ rfl _ _ _ _ rfl _ _ rfl rfl _ _ (hs _) ?_)
  clear hs c6 c60
  have c7d := (HS.out _ D0).1
  have f7d := (HS.out _ D0).2
  refine wp_region_noPanic ?_
  refine wp_region_held_drew (S := fun _ => True) (by kernel_rfl) trivial (fun _ => ?_)
  refine wpAnyH_take (i := 0) (v := ?_) rfl (by kernel_rfl) (by kernel_rfl) (by kernel_rfl) (fun _ _ _ h => h) (Or.inl ⟨by kernel_rfl, fun W hSW => by go_simp; try with_reducible rfl⟩) trivial ?_
  try simp only [List.getElem_toArray]
  try simp only [List.getElem_cons_succ]
  try simp only [List.getElem_cons_zero]
  try simp only [Act.put]
  try simp only [List.setIfInBounds_toArray]
  try simp only [List.set_cons_succ]
  try simp only [List.set_cons_zero]
  refine wpAnyH_take (i := 1) (v := ?_) rfl (by kernel_rfl) (by kernel_rfl) (by kernel_rfl) (fun _ _ _ h => h) (Or.inl ⟨by kernel_rfl, fun W hSW => by go_simp; try with_reducible rfl⟩) trivial ?_
  try simp only [List.getElem_toArray]
  try simp only [List.getElem_cons_succ]
  try simp only [List.getElem_cons_zero]
  try simp only [Act.put]
  try simp only [List.setIfInBounds_toArray]
  try simp only [List.set_cons_succ]
  try simp only [List.set_cons_zero]
  refine wpAnyH_take (i := 2) (v := ?_) rfl (by kernel_rfl) (by kernel_rfl) (by kernel_rfl) (fun _ _ _ h => h) (Or.inl ⟨by kernel_rfl, fun W hSW => by go_simp; try with_reducible rfl⟩) trivial ?_
  try simp only [List.getElem_toArray]
  try simp only [List.getElem_cons_succ]
  try simp only [List.getElem_cons_zero]
  try simp only [Act.put]
  try simp only [List.setIfInBounds_toArray]
  try simp only [List.set_cons_succ]
  try simp only [List.set_cons_zero]
  refine wpAnyH_take (i := 3) (v := ?_) rfl (by kernel_rfl) (by kernel_rfl) (by kernel_rfl) (fun _ _ _ h => h) (Or.inl ⟨by kernel_rfl, fun W hSW => by go_simp; try with_reducible rfl⟩) trivial ?_
  try simp only [List.getElem_toArray]
  try simp only [List.getElem_cons_succ]
  try simp only [List.getElem_cons_zero]
  try simp only [Act.put]
  try simp only [List.setIfInBounds_toArray]
  try simp only [List.set_cons_succ]
  try simp only [List.set_cons_zero]
  refine wpAnyH_take (i := 5) (v := ?_) rfl (by kernel_rfl) (by kernel_rfl) (by kernel_rfl) (fun _ _ _ h => h) (Or.inl ⟨by kernel_rfl, fun W hSW => by go_simp; try with_reducible rfl⟩) trivial ?_
  try simp only [List.getElem_toArray]
  try simp only [List.getElem_cons_succ]
  try simp only [List.getElem_cons_zero]
  try simp only [Act.put]
  try simp only [List.setIfInBounds_toArray]
  try simp only [List.set_cons_succ]
  try simp only [List.set_cons_zero]
  refine wpAnyH_ready (rs := [4, 6]) (by kernel_rfl) (by simp) ?_
  refine AllReadyH.cons rfl (fun K hK => ?_) (AllReadyH.cons rfl (fun K hK => ?_) AllReadyH.nil)
  · go_simp
    refine hK.out _ _ trivial (fun _ => ?_)
    clear hK K
    try simp only [List.getElem_toArray]
    try simp only [List.getElem_cons_succ]
    try simp only [List.getElem_cons_zero]
    try simp only [Act.put]
    try simp only [List.setIfInBounds_toArray]
    try simp only [List.set_cons_succ]
    try simp only [List.set_cons_zero]
    refine wpAnyH_ready (rs := [6]) (by kernel_rfl) (by simp) ?_
    refine AllReadyH.cons rfl (fun K hK => ?_) AllReadyH.nil
    go_simp
    refine (HC.out _ D0).mono ?_
    rintro e w3 ⟨pu, cu, rfl, hc3⟩
    have q3 := hc3.1.p.c7
    have q3a := fun o => (HSc.out _ _ o hc3).2.1
    refine hK.out _ _ trivial (fun _ => ?_)
    clear hK K
    try simp only [List.getElem_toArray]
    try simp only [List.getElem_cons_succ]
    try simp only [List.getElem_cons_zero]
    try simp only [Act.put]
    try simp only [List.setIfInBounds_toArray]
    try simp only [List.set_cons_succ]
    try simp only [List.set_cons_zero]
    refine wpAnyH_ready (rs := [7]) (by kernel_rfl) (by simp) ?_
    refine AllReadyH.cons rfl (fun K hK => ?_) AllReadyH.nil
    go_simp
    refine hK.out _ _ trivial (fun _ => ?_)
    clear hK K
    try simp only [List.getElem_toArray]
    try simp only [List.getElem_cons_succ]
    try simp only [List.getElem_cons_zero]
    try simp only [Act.put]
    try simp only [List.setIfInBounds_toArray]
    try simp only [List.set_cons_succ]
    try simp only [List.set_cons_zero]
    refine wpAnyH_ready (rs := [8]) (by kernel_rfl) (by simp) ?_
    refine AllReadyH.cons rfl (fun K hK => ?_) AllReadyH.nil
    obtain ⟨p4, c4, w4, hs4, q7, qf, hB4, hbel⟩ := HA.out _ _ hc3
    refine step_append_run rfl (.tmp 24) (.tmp 27) 34 rfl (.slice p7 us.length cap7) (.slice (some ⟨w3.heap.size, 0, none⟩) 1 1) rfl rfl (hs4 _) ?_
    refine hK.out _ _ trivial (fun _ => ?_)
    clear hK K
    try simp only [List.getElem_toArray]
    try simp only [List.getElem_cons_succ]
    try simp only [List.getElem_cons_zero]
    try simp only [Act.put]
    try simp only [List.setIfInBounds_toArray]
    try simp only [List.set_cons_succ]
    try simp only [List.set_cons_zero]
    refine wpAnyH_take (i := 9) (v := ?_) rfl (by kernel_rfl) (by kernel_rfl) (by kernel_rfl) (fun _ _ _ h => h) (Or.inl ⟨by kernel_rfl, fun W hSW => by go_simp; try with_reducible rfl⟩) trivial ?_
    try simp only [List.getElem_toArray]
    try simp only [List.getElem_cons_succ]
    try simp only [List.getElem_cons_zero]
    try simp only [Act.put]
    try simp only [List.setIfInBounds_toArray]
    try simp only [List.set_cons_succ]
    try simp only [List.set_cons_zero]
    refine wpAnyH_take (i := 10) (v := ?_) rfl (by kernel_rfl) (by kernel_rfl) (by kernel_rfl) (fun _ _ _ h => h) (Or.inl ⟨by kernel_rfl, fun W hSW => by go_simp; try with_reducible rfl⟩) trivial ?_
    try simp only [List.getElem_toArray]
    try simp only [List.getElem_cons_succ]
    try simp only [List.getElem_cons_zero]
    try simp only [Act.put]
    try simp only [List.setIfInBounds_toArray]
    try simp only [List.set_cons_succ]
    try simp only [List.set_cons_zero]
    refine wpAnyH_ready (rs := [11]) (by kernel_rfl) (by simp) ?_
    refine AllReadyH.cons rfl (fun K hK => ?_) AllReadyH.nil
    go_simp
    refine hK.out _ _ trivial (fun _ => ?_)
    clear hK K
    try simp only [List.getElem_toArray]
    try simp only [List.getElem_cons_succ]
    try simp only [List.getElem_cons_zero]
    try simp only [Act.put]
    try simp only [List.setIfInBounds_toArray]
    try simp only [List.set_cons_succ]
    try simp only [List.set_cons_zero]
    refine wpAnyH_done (by kernel_rfl) ?_ _
    refine NoPanic.normal ?_
    go_wp2
    go_end0
    exact ⟨rfl, _, _, _, hB4, hbel⟩
  · go_simp
    refine (HC.out _ D0).mono ?_
    rintro e w3 ⟨pu, cu, rfl, hc3⟩
    have q3 := hc3.1.p.c7
    have q3a := fun o => (HSc.out _ _ o hc3).2.1
    refine hK.out _ _ trivial (fun _ => ?_)
    clear hK K
    try simp only [List.getElem_toArray]
    try simp only [List.getElem_cons_succ]
    try simp only [List.getElem_cons_zero]
    try simp only [Act.put]
    try simp only [List.setIfInBounds_toArray]
    try simp only [List.set_cons_succ]
    try simp only [List.set_cons_zero]
    refine wpAnyH_ready (rs := [4, 7]) (by kernel_rfl) (by simp) ?_
    refine AllReadyH.cons rfl (fun K hK => ?_) (AllReadyH.cons rfl (fun K hK => ?_) AllReadyH.nil)
    · go_simp
      refine hK.out _ _ trivial (fun _ => ?_)
      clear hK K
      try simp only [List.getElem_toArray]
      try simp only [List.getElem_cons_succ]
      try simp only [List.getElem_cons_zero]
      try simp only [Act.put]
      try simp only [List.setIfInBounds_toArray]
      try simp only [List.set_cons_succ]
      try simp only [List.set_cons_zero]
      refine wpAnyH_ready (rs := [7]) (by kernel_rfl) (by simp) ?_
      refine AllReadyH.cons rfl (fun K hK => ?_) AllReadyH.nil
      go_simp
      refine hK.out _ _ trivial (fun _ => ?_)
      clear hK K
      try simp only [List.getElem_toArray]
      try simp only [List.getElem_cons_succ]
      try simp only [List.getElem_cons_zero]
      try simp only [Act.put]
      try simp only [List.setIfInBounds_toArray]
      try simp only [List.set_cons_succ]
      try simp only [List.set_cons_zero]
      refine wpAnyH_ready (rs := [8]) (by kernel_rfl) (by simp) ?_
      refine AllReadyH.cons rfl (fun K hK => ?_) AllReadyH.nil
      obtain ⟨p4, c4, w4, hs4, q7, qf, hB4, hbel⟩ := HA.out _ _ hc3
      refine step_append_run rfl (.tmp 24) (.tmp 27) 34 rfl (.slice p7 us.length cap7) (.slice (some ⟨w3.heap.size, 0, none⟩) 1 1) rfl rfl (hs4 _) ?_
      refine hK.out _ _ trivial (fun _ => ?_)
      clear hK K
      try simp only [List.getElem_toArray]
      try simp only [List.getElem_cons_succ]
      try simp only [List.getElem_cons_zero]
      try simp only [Act.put]
      try simp only [List.setIfInBounds_toArray]
      try simp only [List.set_cons_succ]
      try simp only [List.set_cons_zero]
      refine wpAnyH_take (i := 9) (v := ?_) rfl (by kernel_rfl) (by kernel_rfl) (by kernel_rfl) (fun _ _ _ h => h) (Or.inl ⟨by kernel_rfl, fun W hSW => by go_simp; try with_reducible rfl⟩) trivial ?_
      try simp only [List.getElem_toArray]
      try simp only [List.getElem_cons_succ]
      try simp only [List.getElem_cons_zero]
      try simp only [Act.put]
      try simp only [List.setIfInBounds_toArray]
      try simp only [List.set_cons_succ]
      try simp only [List.set_cons_zero]
      refine wpAnyH_take (i := 10) (v := ?_) rfl (by kernel_rfl) (by kernel_rfl) (by kernel_rfl) (fun _ _ _ h => h) (Or.inl ⟨by kernel_rfl, fun W hSW => by go_simp; try with_reducible rfl⟩) trivial ?_
      try simp only [List.getElem_toArray]
      try simp only [List.getElem_cons_succ]
      try simp only [List.getElem_cons_zero]
      try simp only [Act.put]
      try simp only [List.setIfInBounds_toArray]
      try simp only [List.set_cons_succ]
      try simp only [List.set_cons_zero]
      refine wpAnyH_ready (rs := [11]) (by kernel_rfl) (by simp) ?_
      refine AllReadyH.cons rfl (fun K hK => ?_) AllReadyH.nil
      go_simp
      refine hK.out _ _ trivial (fun _ => ?_)
      clear hK K
      try simp only [List.getElem_toArray]
      try simp only [List.getElem_cons_succ]
      try simp only [List.getElem_cons_zero]
      try simp only [Act.put]
      try simp only [List.setIfInBounds_toArray]
      try simp only [List.set_cons_succ]
      try simp only [List.set_cons_zero]
      refine wpAnyH_done (by kernel_rfl) ?_ _
      refine NoPanic.normal ?_
      go_wp2
      go_end0
      exact ⟨rfl, _, _, _, hB4, hbel⟩
    · go_simp
      refine hK.out _ _ trivial (fun _ => ?_)
      clear hK K
      try simp only [List.getElem_toArray]
      try simp only [List.getElem_cons_succ]
      try simp only [List.getElem_cons_zero]
      try simp only [Act.put]
      try simp only [List.setIfInBounds_toArray]
      try simp only [List.set_cons_succ]
      try simp only [List.set_cons_zero]
      refine wpAnyH_ready (rs := [4]) (by kernel_rfl) (by simp) ?_
      refine AllReadyH.cons rfl (fun K hK => ?_) AllReadyH.nil
      go_simp
      refine hK.out _ _ trivial (fun _ => ?_)
      clear hK K
      try simp only [List.getElem_toArray]
      try simp only [List.getElem_cons_succ]
      try simp only [List.getElem_cons_zero]
      try simp only [Act.put]
      try simp only [List.setIfInBounds_toArray]
      try simp only [List.set_cons_succ]
      try simp only [List.set_cons_zero]
      refine wpAnyH_ready (rs := [8]) (by kernel_rfl) (by simp) ?_
      refine AllReadyH.cons rfl (fun K hK => ?_) AllReadyH.nil
      obtain ⟨p4, c4, w4, hs4, q7, qf, hB4, hbel⟩ := HA.out _ _ hc3
      refine step_append_run rfl (.tmp 24) (.tmp 27) 34 rfl (.slice p7 us.length cap7) (.slice (some ⟨w3.heap.size, 0, none⟩) 1 1) rfl rfl (hs4 _) ?_
      refine hK.out _ _ trivial (fun _ => ?_)
      clear hK K
      try simp only [List.getElem_toArray]
      try simp only [List.getElem_cons_succ]
      try simp only [List.getElem_cons_zero]
      try simp only [Act.put]
      try simp only [List.setIfInBounds_toArray]
      try simp only [List.set_cons_succ]
      try simp only [List.set_cons_zero]
      refine wpAnyH_take (i := 9) (v := ?_) rfl (by kernel_rfl) (by kernel_rfl) (by kernel_rfl) (fun _ _ _ h => h) (Or.inl ⟨by kernel_rfl, fun W hSW => by go_simp; try with_reducible rfl⟩) trivial ?_
      try simp only [List.getElem_toArray]
      try simp only [List.getElem_cons_succ]
      try simp only [List.getElem_cons_zero]
      try simp only [Act.put]
      try simp only [List.setIfInBounds_toArray]
      try simp only [List.set_cons_succ]
      try simp only [List.set_cons_zero]
      refine wpAnyH_take (i := 10) (v := ?_) rfl (by kernel_rfl) (by kernel_rfl) (by kernel_rfl) (fun _ _ _ h => h) (Or.inl ⟨by kernel_rfl, fun W hSW => by go_simp; try with_reducible rfl⟩) trivial ?_
      try simp only [List.getElem_toArray]
      try simp only [List.getElem_cons_succ]
      try simp only [List.getElem_cons_zero]
      try simp only [Act.put]
      try simp only [List.setIfInBounds_toArray]
      try simp only [List.set_cons_succ]
      try simp only [List.set_cons_zero]
      refine wpAnyH_ready (rs := [11]) (by kernel_rfl) (by simp) ?_
      refine AllReadyH.cons rfl (fun K hK => ?_) AllReadyH.nil
      go_simp
      refine hK.out _ _ trivial (fun _ => ?_)
      clear hK K
      try simp only [List.getElem_toArray]
      try simp only [List.getElem_cons_succ]
      try simp only [List.getElem_cons_zero]
      try simp only [Act.put]
      try simp only [List.setIfInBounds_toArray]
      try simp only [List.set_cons_succ]
      try simp only [List.set_cons_zero]
      refine wpAnyH_done (by kernel_rfl) ?_ _
      refine NoPanic.normal ?_
      go_wp2
      go_end0
      exact ⟨rfl, _, _, _, hB4, hbel⟩
end
end Go.Proofs.YtodgkmjiiijfpaaGreat
