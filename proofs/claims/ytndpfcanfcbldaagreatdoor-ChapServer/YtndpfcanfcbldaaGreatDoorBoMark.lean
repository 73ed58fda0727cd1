/- The contracts of the book's name, markOptions, SameOptions and copyOptions. -/
import Derived.Test.YtndpfcanfcbldaaGreatDoorOpRow
import Derived.Test.YtndpfcanfcbldaaGreatDoorBookKit
import Derived.Lib.AppendZeros
import Derived.Deep.Upon
namespace Go.Proofs.YtndpfcanfcbldaaGreatDoor
open Go.RowKit

def nameF (i k : Nat) : ByteArray := ⟨#[109, UInt8.ofNat (65 + i % 26), UInt8.ofNat (65 + i / 26 % 26), UInt8.ofNat (48 + k % 10), UInt8.ofNat (48 + k / 10 % 10), UInt8.ofNat (48 + k / 100 % 10)]⟩

theorem conv_six (w : World) (i k : Nat) (g : Nat) (hg : w.heap[g]? = some (.cells #[.int .u8 109, .int .u8 (65 + (i : Int) % 26), .int .u8 (65 + (i : Int) / 26 % 26), .int .u8 (48 + (k : Int) % 10), .int .u8 (48 + (k : Int) / 10 % 10), .int .u8 (48 + (k : Int) / 100 % 10)] 5 (0, 0))) :
    (convert 141 9 (.slice (some ⟨g, 0, none⟩) 6 6)).run Tryz.prog w = .ok (.string (nameF i k)) w := by
  refine put_conv (base := 0) (n := 6) (l := [109, UInt8.ofNat (65 + i % 26), UInt8.ofNat (65 + i / 26 % 26), UInt8.ofNat (48 + k % 10), UInt8.ofNat (48 + k / 10 % 10), UInt8.ofNat (48 + k / 100 % 10)]) ⟨rfl, Or.inr ⟨g, 6, _, rfl, Nat.zero_le _, hg, Nat.le_refl _, by unfold maxLen; omega, rfl, ?_⟩⟩
  simp only [Lib.byteCells, List.map_cons, List.map_nil, UInt8.toNat_ofNat']
  rw [Nat.mod_eq_of_lt (show 65 + i % 26 < 2 ^ 8 by omega), Nat.mod_eq_of_lt (show 65 + i / 26 % 26 < 2 ^ 8 by omega), Nat.mod_eq_of_lt (show 48 + k % 10 < 2 ^ 8 by omega), Nat.mod_eq_of_lt (show 48 + k / 10 % 10 < 2 ^ 8 by omega), Nat.mod_eq_of_lt (show 48 + k / 100 % 10 < 2 ^ 8 by omega)]
  simp

set_option maxHeartbeats 1000000 in
set_option maxRecDepth 100000 in
theorem name_any (i k : Nat) (hi : i ≤ 1000000) (hk : k ≤ 1000000) (w : World) :
    Calls Tryz.prog 170 #[.int .i64 (i : Int), .int .i64 (k : Int)] w fun e w' => e = .returned (.string (nameF i k)) ∧ Kept (fun _ => False) w w' := by
  have hcv := conv_six (w.alloc (.cells #[.int .u8 109, .int .u8 (65 + (i : Int) % 26), .int .u8 (65 + (i : Int) / 26 % 26), .int .u8 (48 + (k : Int) % 10), .int .u8 (48 + (k : Int) / 10 % 10), .int .u8 (48 + (k : Int) / 100 % 10)] 5)) i k w.heap.size (heap_alloc_new w _)
  go_enter Tryz.func170, Tryz.ntmps170
  go_wp2
  go_ret
  exact ⟨rfl, (Kept.refl _ w).alloc _⟩

def markT (i k : Nat) : Tg := ⟨-1 - (i : Int), nameF i k⟩
def marksT (i a n : Nat) : List Tg := (List.range n).map fun j => markT i (a + j)
theorem marksT_length (i a n : Nat) : (marksT i a n).length = n := by simp [marksT]
theorem marksT_snoc (i a n : Nat) : marksT i a (n + 1) = marksT i a n ++ [markT i (a + n)] := by simp [marksT, List.range_succ]
theorem marksT_append (i a n m : Nat) : marksT i a (n + m) = marksT i a n ++ marksT i (a + n) m := by
  induction m with
  | zero => simp [marksT]
  | succ m ih => rw [← Nat.add_assoc, marksT_snoc, ih, marksT_snoc, List.append_assoc, Nat.add_assoc]
theorem marksT_get {i a n j : Nat} (h : j < n) : (marksT i a n)[j]? = some (markT i (a + j)) := by simp [marksT, h]

set_option maxHeartbeats 2000000 in
set_option maxRecDepth 100000 in
theorem markOptions_any (i a n : Nat) (hi : i ≤ 1000) (ha : a ≤ 10000) (hn : n ≤ 10000) (w : World) :
    Calls Tryz.prog 152 #[.int .i64 (i : Int), .int .i64 (a : Int), .int .i64 (n : Int)] w fun e w' => ∃ v, e = .returned v ∧ OwnO w' w.heap.size v (marksT i a n) ∧ Kept (fun _ => False) w w' := by
  obtain ⟨i0, hi0, hz0, hz1, hz2⟩ := info_parts infoOpt
  go_enter Tryz.func152, Tryz.ntmps152
  go_wp2
  go_loopw [7, 8] (fun v7 vk wr => ∃ j : Nat, j ≤ n ∧ vk = .int .i64 ((a : Int) + (j : Int)) ∧ Hid (OwnO wr w.heap.size v7 (marksT i a j) ∧ Kept (fun _ => False) w wr)) (fun _ vk _ => (a + n) - (intOf vk).toNat)
  case atStart => exact ⟨0, Nat.zero_le _, by simp, OwnO.nil _ _, Kept.refl _ _⟩
  case round =>
    obtain ⟨j, hj, rfl, HI⟩ := hrel
    by_cases hlt : j < n
    · have hltz : (a : Int) + (j : Int) < (a : Int) + (n : Int) := by omega
      have HN := hid (name_any i (a + j) (by omega) (by omega))
      rw [show ((a + j : Nat) : Int) = (a : Int) + (j : Int) by omega] at HN
      obtain ⟨y, hy⟩ : ∃ y, y = nameF i (a + j) := ⟨_, rfl⟩
      rw [← hy] at HN
      have hmk : (⟨-1 - (i : Int), y⟩ : Tg) = markT i (a + j) := by rw [hy]; rfl
      obtain ⟨L, hL⟩ : ∃ L, L = marksT i a j := ⟨_, rfl⟩
      have HLn : Hid (L.length = j) := by show _ = _; rw [hL, marksT_length]
      have HM : Hid (marksT i a (j + 1) = L ++ [⟨-1 - (i : Int), y⟩]) := by show _ = _; rw [marksT_snoc, hL, hmk]
      rw [← hL] at HI
      have HMid : MidO w u7 L wr := HI.out
      clear hy hmk hL HI
      have HM7 := hid HMid
      clear HMid
      go_wp2_with fail
      refine (HN.out _).mono ?_
      rintro e1 w1 ⟨rfl, hk1⟩
      have O1 := hid (HM7.out.1.kept hk1)
      have K1 := hid (HM7.out.2.trans hk1)
      have hs1 := K1.out.size
      clear hk1 HM7 HN
      go_wp2_with (at_builtin; refine wpList_append_own _ rfl _ _ 55 rfl w.heap.size 147 i0 (.agg #[.int .i64 0, .string ⟨#[]⟩]) 2 24 Tryz.underlying55 hi0 hz0 hz1 hz2 rfl (by decide) _ L.length (rowT L) rfl (World.ownsRow.alloc O1.out _) ⟨w1.heap.size, 0, none⟩ 1 1 [.int .i64 (-1 - (i : Int)), .string y] rfl rfl ?c1 ?c2 ?c3 ?c4 ?c5 ?_)
      case c1 => exact cells_two_new _ _ _ _
      case c2 => intro u hu; simp at hu; rcases hu with rfl | rfl <;> rfl
      case c3 => have := HLn.out; unfold maxLen; omega
      case c4 => have := HLn.out; omega
      case c5 => simp; omega
      intro v' w2 hown' hgrow _
      have R := hid (own_moreO (x := ⟨-1 - (i : Int), y⟩) K1.out O1.out hown' hgrow)
      clear hown' hgrow O1 K1
      go_wp2
      exact ⟨⟨j + 1, hlt, by go_num, by rw [HM.out]; exact R.out⟩, by simp [intOf]; omega⟩
    · obtain rfl : j = n := by omega
      have hltz : ¬ (a : Int) + (j : Int) < (a : Int) + (j : Int) := by omega
      go_wp2
      go_ret
      exact ⟨_, rfl, HI.out.1, HI.out.2⟩
set_option maxHeartbeats 2000000 in
set_option maxRecDepth 100000 in
theorem sameOptions_any (v u : Value) (l m : List Tg) (w : World) (hv : TagsAt w v l) (hu : TagsAt w u m) (hl : l.length ≤ 1000000) :
    Calls Tryz.prog 131 #[v, u] w fun e w' => e = .returned (.bool (sameF l m)) ∧ Kept (fun _ => False) w w' := by
  obtain ⟨p, cap, rfl⟩ := hv.slice
  obtain ⟨q, cbp, rfl⟩ := hu.slice
  by_cases hlen : l.length = m.length
  · have hne : ((l.length : Int) != (m.length : Int)) = false := by simp [hlen]
    have Hat : Hid (∀ (j : Nat) (x : Tg), l[j]? = some x → ∀ W, Kept (fun _ => False) w W → ∃ g o, p = some ⟨g, o, none⟩ ∧ l.length ≤ cap ∧ W.cell? ⟨g, o + j * 2, none⟩ = some (.int .i64 x.type) ∧ W.cell? ⟨g, o + j * 2 + 1, none⟩ = some (.string x.value)) :=
      fun j x hj W hW => (hv.kept0 hW).at hj
    have Hau : Hid (∀ (j : Nat) (x : Tg), m[j]? = some x → ∀ W, Kept (fun _ => False) w W → ∃ g o, q = some ⟨g, o, none⟩ ∧ m.length ≤ cbp ∧ W.cell? ⟨g, o + j * 2, none⟩ = some (.int .i64 x.type) ∧ W.cell? ⟨g, o + j * 2 + 1, none⟩ = some (.string x.value)) :=
      fun j x hj W hW => (hu.kept0 hW).at hj
    have HL := hid hlen
    clear hv hu hlen
    go_enter Tryz.func131, Tryz.ntmps131
    go_wp2
    go_loopw [5] (fun vi wr => ∃ j : Nat, j ≤ l.length ∧ vi = .int .i64 (j : Int) ∧ Hid (l.take j = m.take j ∧ Kept (fun _ => False) w wr)) (fun vi _ => l.length - (intOf vi).toNat)
    case atStart => exact ⟨0, Nat.zero_le _, rfl, rfl, Kept.refl _ _⟩
    case round =>
      obtain ⟨j, hj, rfl, HI⟩ := hrel
      by_cases hlt : j < l.length
      · have hltz : (j : Int) < (l.length : Int) := by omega
        have hltm : (j : Int) < (m.length : Int) := by have := HL.out; omega
        obtain ⟨x, hx⟩ : ∃ x, l[j]? = some x := ⟨l[j], by simp [hlt]⟩
        obtain ⟨y, hy⟩ : ∃ y, m[j]? = some y := ⟨m[j]'(by have := HL.out; omega), by simp⟩
        obtain ⟨g, o, rfl, hcap, c0, c1⟩ := Hat.out j x hx wr HI.out.2
        obtain ⟨g2, o2, rfl, hcbp, d0, d1⟩ := Hau.out j y hy wr HI.out.2
        have e0 : sameT x y = ((x.type == y.type) && (x.value.toList == y.value.toList)) := by unfold sameT; rw [bytes_same]
        cases hs : sameT x y with
        | false =>
          have HN := hid (sameF_at hx hy hs)
          rw [hs] at e0
          have hcase : (x.type == y.type) = false ∨ ((x.type == y.type) = true ∧ (x.value.toList == y.value.toList) = false) := by
            cases h1 : (x.type == y.type) with
            | false => exact Or.inl rfl
            | true =>
              rw [h1] at e0
              exact Or.inr ⟨rfl, by simpa using e0.symm⟩
          clear hx hy hs e0
          rcases hcase with e1 | ⟨e1, e2⟩
          · go_wp2
            go_quiet (fail)
            go_wp2
            go_ret
            exact ⟨by rw [HN.out]; rfl, HI.out.2.drewN _⟩
          · go_wp2
            go_quiet (fail)
            go_wp2
            go_ret
            exact ⟨by rw [HN.out]; rfl, HI.out.2.drewN _⟩
        | true =>
          have HN : Hid (l.take (j + 1) = m.take (j + 1)) := by
            show _ = _
            rw [take_next hx, take_next hy, HI.out.1, sameT_iff.1 hs]
          rw [hs] at e0
          obtain ⟨e1, e2⟩ : (x.type == y.type) = true ∧ (x.value.toList == y.value.toList) = true := by simpa using e0.symm
          clear hx hy hs e0
          go_wp2
          go_quiet (fail)
          go_wp2
          exact ⟨⟨j + 1, hlt, by go_num, HN.out, HI.out.2.drewN _⟩, by simp [intOf]; omega⟩
      · obtain rfl : j = l.length := by omega
        obtain ⟨hF, hk⟩ := HI.out
        have hFm : l = m := by rw [List.take_length, HL.out, List.take_length] at hF; exact hF
        have HN := hid (sameF_iff.2 hFm)
        clear hF HI hlt hFm
        go_wp2
        go_ret
        exact ⟨by rw [HN.out]; rfl, hk⟩
  · have hne : ((l.length : Int) != (m.length : Int)) = true := by
      rw [bne_iff_ne]
      omega
    have HN := hid (sameF_len hlen)
    clear hv hu hlen
    go_enter Tryz.func131, Tryz.ntmps131
    go_wp2
    go_ret
    exact ⟨by rw [HN.out]; rfl, Kept.refl _ _⟩

end Go.Proofs.YtndpfcanfcbldaaGreatDoor
