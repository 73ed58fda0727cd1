/- The contract of the document's own Digits: what it returns, for every int. -/
import Derived.Test.YtblcojggjplndaaDoorDigPlain
import Derived.Test.YtblcojggjplndaaDoorTagKit
import Derived.Deep.AppendLies
import Derived.Laws.OwnMore
import Derived.Lib.AppendZeros
namespace Go.Proofs.YtblcojggjplndaaDoor
open Go.RowKit

/-- The digits of what is left; none, if nothing is. -/
def restD (u : Nat) : List UInt8 := if u = 0 then [] else Lib.decDigits u
theorem restD_step (u : Nat) (h : u ≠ 0) : restD u = restD (u / 10) ++ [UInt8.ofNat (48 + u % 10)] := by
  unfold restD
  rw [if_neg h]
  by_cases h1 : u < 10
  · rw [Lib.decDigits_one h1, if_pos (by omega), Nat.mod_eq_of_lt h1]
    rfl
  · rw [Lib.decDigits, dif_neg h1, if_neg (by omega)]
theorem restD_len (u : Nat) (h : u ≤ 9223372036854775808) : (restD u).length ≤ 20 := by
  unfold restD
  split
  · simp
  · rw [Lib.decDigits_length]
    exact nDigits_le 20 u (by decide) (by omega)
theorem cells_ahead (d : Nat) (hd : d < 256) (L : List UInt8) : Lib.byteCells (UInt8.ofNat d :: L) = [.int .u8 (d : Int)] ++ Lib.byteCells L := by
  have e0 : (UInt8.ofNat d).toNat = d := UInt8.toNat_ofNat_of_lt (by exact hd)
  simp [Lib.byteCells, e0]
/-- 'append([]byte{x}, b...)': one byte ahead of what the call owns. -/
theorem ahead_run {base : Nat} {w wr : World} {v : Value} {d : Nat} {L : List UInt8} (hd : d < 256) (hL : L.length ≤ 1000) (hb : base ≤ wr.heap.size) (hbel : Below base w wr) (hown : wr.ownsRow base 5 1 v L.length (Lib.byteCells L)) :
    ∃ g cap w1, (Builtin.append_ #[80, 80] 80 #[.slice (some ⟨wr.heap.size, 0, none⟩) 1 1, v]).run Tryd.prog (wr.alloc (.cells #[.int .u8 (d : Int)] 5)) = .ok (.slice (some ⟨g, 0, none⟩) (L.length + 1) cap) w1 ∧
      w1.ownsRow base 5 1 (.slice (some ⟨g, 0, none⟩) (L.length + 1) cap) (L.length + 1) (Lib.byteCells (UInt8.ofNat d :: L)) ∧ Below base w w1 := by
  obtain ⟨i0, hi, hz0, hz1, hz2⟩ := info_parts info5
  have hlit : (wr.alloc (.cells #[.int .u8 (d : Int)] 5)).ownsRow base 5 1 (.slice (some ⟨wr.heap.size, 0, none⟩) 1 1) 1 [.int .u8 (d : Int)] :=
    World.ownsRow_lit wr #[.int .u8 (d : Int)] 1 hb (by decide) rfl
  have hb1 : Below base w (wr.alloc (.cells #[.int .u8 (d : Int)] 5)) := hbel.alloc hb _
  rcases hown.2 with ⟨rfl, h0⟩ | ⟨g, cap, cur, rfl, hg, hblk, more⟩
  · have hl0 : L = [] := List.eq_nil_of_length_eq_zero h0
    subst hl0
    refine ⟨wr.heap.size, 1, _, run_append_owned_none _ base 80 80 5 i0 1 Tryd.underlying80 hi _ 1 _ hlit, ?_, hb1⟩
    rw [cells_ahead d hd]
    exact hlit
  · have hown2 := hown.alloc (.cells #[.int .u8 (d : Int)] 5)
    obtain ⟨v', w', hr, h2, h3, _, _⟩ := run_append_own_at (P := Tryd.prog) (wr.alloc (.cells #[.int .u8 (d : Int)] 5)) base 80 80 5 i0 (.int .u8 0) 1 1 Tryd.underlying80 hi hz0 hz1 hz2 rfl (by decide) _ 1 _ hlit
      ⟨g, 0, none⟩ L.length cap (Lib.byteCells L) (by rw [Lib.byteCells_length, Nat.mul_one]) (fun j u hj => by
        have h := hown2.cells (g := g) rfl j u hj
        exact h) (Lib.byteCells_one L) (by unfold maxLen; omega) (by omega) (by simp; omega)
    obtain ⟨g', cap', rfl, _, _⟩ := h2.form (by omega)
    rw [Nat.add_comm] at hr h2
    refine ⟨g', cap', w', ?_, ?_, hb1.grown h3 (by simp; omega) (fun k hk => by simp [Value.ownBlock] at hk; omega)⟩
    · simpa [Nat.add_comm] using hr
    · rw [cells_ahead d hd]
      simpa [Nat.add_comm] using h2

set_option maxHeartbeats 1000000 in
set_option maxRecDepth 100000 in
theorem refDigits_zero (w : World) :
    Calls Tryd.prog 31 #[.int .i64 0] w fun e w' => e = .returned (.string ⟨(Lib.itoa 0).toArray⟩) ∧ Below w.heap.size w w' := by
  have e : (⟨(Lib.itoa 0).toArray⟩ : ByteArray) = ⟨#[48]⟩ := by
    have h : Lib.itoa 0 = [48] := by
      rw [show (0 : Int) = ((0 : Nat) : Int) from rfl, Lib.itoa_nonneg, Lib.decDigits_one (by decide)]
      rfl
    rw [h]
  rw [e]
  clear e
  go_enter Tryd.func31, Tryd.ntmps31
  go_wp2
  go_ret
  exact ⟨rfl, Below.refl _ _⟩

set_option maxHeartbeats 2000000 in
set_option maxRecDepth 100000 in
theorem refDigits_pos (n : Nat) (h1 : 1 ≤ n) (h2 : n ≤ 9223372036854775807) (w : World) :
    Calls Tryd.prog 31 #[.int .i64 (n : Int)] w fun e w' => e = .returned (.string ⟨(Lib.itoa (n : Int)).toArray⟩) ∧ Below w.heap.size w w' := by
  obtain ⟨i0, hi, hz0, hz1, hz2⟩ := info_parts info5
  have hI : Lib.itoa (n : Int) = restD n := by rw [Lib.itoa_nonneg]; unfold restD; rw [if_neg (by omega)]
  rw [hI]
  have HLN := hide (restD_len n (by omega))
  generalize hR : restD n = R at HLN
  have hown1 : w.ownsRow w.heap.size 5 1 (.slice none 0 0) 0 (Lib.byteCells []) := World.ownsRow_nil _ _ _ _
  have hn0 : ((n : Int) == 0) = false := by rw [beq_eq_false_iff_ne]; omega
  have HR := hide hR
  clear hI hR
  go_enter Tryd.func31, Tryd.ntmps31
  go_wp2
  go_loopw [3, 4, 5] (fun vb vw _ wr => ∃ (u : Nat) (L : List UInt8), u ≤ n ∧ vw = .int .i64 (u : Int) ∧ restD u ++ L = R ∧ wr.ownsRow w.heap.size 5 1 vb L.length (Lib.byteCells L) ∧ Below w.heap.size w wr)
    (fun _ vw _ _ => (intOf vw).toNat)
  case atStart => exact ⟨n, [], Nat.le_refl _, rfl, by rw [List.append_nil]; exact HR.out, hown1, Below.refl _ _⟩
  case round =>
    obtain ⟨u, L, hu, rfl, hL, hownr, hbel⟩ := hrel
    clear hown1
    have hLl : L.length ≤ 20 := by have h := HLN.out; rw [← hL, List.length_append] at h; omega
    have hszr := hbel.size
    by_cases hz : u = 0
    · subst hz
      have hLR : L = R := by rw [← hL]; rfl
      have hcv := put_conv hownr
      rw [hLR] at hcv
      clear hL hLR HR
      go_wp2
      go_ret
      exact ⟨rfl, hbel⟩
    · have hst := restD_step u hz
      have hnz : ((u : Int) == 0) = false := by rw [beq_eq_false_iff_ne]; omega
      have hnn : ((u : Int) != 0) = true := by simp; omega
      obtain ⟨d, hd⟩ : ∃ d : Nat, d = u % 10 := ⟨_, rfl⟩
      obtain ⟨q, hq⟩ : ∃ q : Nat, q = u / 10 := ⟨_, rfl⟩
      have q1 : ((u : Int)).tmod 10 = (d : Int) := by rw [hd, Int.tmod_eq_emod_of_nonneg (by omega)]; omega
      have q2 : ((u : Int)).tdiv 10 = (q : Int) := by rw [hq, Int.tdiv_eq_ediv_of_nonneg (by omega)]; omega
      have q3 : (u : Int) / 10 = (q : Int) := by omega
      have hd10 : d < 10 := by omega
      have hqu : q < u := by omega
      rw [← hd, ← hq] at hst
      have HST := hide hst
      have HL := hide hL
      clear hst hL hd hq
      obtain ⟨g, cap, w1, hr, ho, hb1⟩ := ahead_run (d := 48 + d) (by omega) (by omega) hszr hbel hownr
      have hcs : (((48 + d : Nat)) : Int) = 48 + (d : Int) := by omega
      rw [hcs] at hr
      have HRn := hide hr
      have HO := hide ho
      clear hr ho hcs hownr
      go_wp2_with (at_builtin; refine Lib.wpList_append_run _ rfl _ _ _ _ rfl _ _ rfl rfl _ _ HRn.out ?_)
      go_roundw
      case rel => exact ⟨q, UInt8.ofNat (48 + d) :: L, by omega, by go_num, by rw [← HL.out, HST.out, List.append_assoc]; rfl, HO.out, hb1⟩
      case measure => simp [intOf]; omega

set_option maxHeartbeats 2000000 in
set_option maxRecDepth 100000 in
theorem refDigits_neg (n : Nat) (h1 : 1 ≤ n) (h2 : n ≤ 9223372036854775808) (w : World) :
    Calls Tryd.prog 31 #[.int .i64 (-(n : Int))] w fun e w' => e = .returned (.string ⟨(Lib.itoa (-(n : Int))).toArray⟩) ∧ Below w.heap.size w w' := by
  have hI : Lib.itoa (-(n : Int)) = 45 :: restD n := by rw [Lib.itoa_neg n h1]; unfold restD; rw [if_neg (by omega)]
  rw [hI]
  have HLN := hide (restD_len n h2)
  generalize hR : restD n = R at HLN
  have hown1 : w.ownsRow w.heap.size 5 1 (.slice none 0 0) 0 (Lib.byteCells []) := World.ownsRow_nil _ _ _ _
  have hn0 : (-(n : Int) == 0) = false := by rw [beq_eq_false_iff_ne]; omega
  have HR := hide hR
  clear hI hR
  go_enter Tryd.func31, Tryd.ntmps31
  go_wp2
  go_loopw [3, 4, 5] (fun vb vw _ wr => ∃ (u : Nat) (L : List UInt8), u ≤ n ∧ vw = .int .i64 (-(u : Int)) ∧ restD u ++ L = R ∧ wr.ownsRow w.heap.size 5 1 vb L.length (Lib.byteCells L) ∧ Below w.heap.size w wr)
    (fun _ vw _ _ => (intOf vw).natAbs)
  case atStart => exact ⟨n, [], Nat.le_refl _, rfl, by rw [List.append_nil]; exact HR.out, hown1, Below.refl _ _⟩
  case round =>
    obtain ⟨u, L, hu, rfl, hL, hownr, hbel⟩ := hrel
    clear hown1
    have hLl : L.length ≤ 20 := by have h := HLN.out; rw [← hL, List.length_append] at h; omega
    have hszr := hbel.size
    by_cases hz : u = 0
    · subst hz
      have hLR : L = R := by rw [← hL]; rfl
      subst hLR
      obtain ⟨g, cap, w1, hr, ho, hb1⟩ := ahead_run (d := 45) (by omega) (by omega) hszr hbel hownr
      have hcv := put_conv ho
      have HRn := hide hr
      clear hL HR hr ho hownr
      go_wp2_with (at_builtin; refine Lib.wpList_append_run _ rfl _ _ _ _ rfl _ _ rfl rfl _ _ HRn.out ?_)
      go_ret
      exact ⟨rfl, hb1⟩
    · have hst := restD_step u hz
      have hnn : (-(u : Int) != 0) = true := by simp; omega
      obtain ⟨d, hd⟩ : ∃ d : Nat, d = u % 10 := ⟨_, rfl⟩
      obtain ⟨q, hq⟩ : ∃ q : Nat, q = u / 10 := ⟨_, rfl⟩
      have q1 : (-(u : Int)).tmod 10 = -(d : Int) := by rw [hd, Int.neg_tmod, Int.tmod_eq_emod_of_nonneg (by omega)]; omega
      have q2 : (-(u : Int)).tdiv 10 = -(q : Int) := by rw [hq, Int.neg_tdiv, Int.tdiv_eq_ediv_of_nonneg (by omega)]; omega
      have hd10 : d < 10 := by omega
      have hqu : q < u := by omega
      rw [← hd, ← hq] at hst
      have HST := hide hst
      have HL := hide hL
      clear hst hL hd hq
      obtain ⟨g, cap, w1, hr, ho, hb1⟩ := ahead_run (d := 48 + d) (by omega) (by omega) hszr hbel hownr
      have hcs : (((48 + d : Nat)) : Int) = 48 + (d : Int) := by omega
      rw [hcs] at hr
      have HRn := hide hr
      have HO := hide ho
      clear hr ho hcs hownr
      have q5 : IntKind.i64.wrap (-(q : Int)) = -(q : Int) := by rw [IntKind.wrap_i64]; omega
      by_cases hdz : d = 0
      · subst hdz
        have q6 : (-(u : Int)).tmod 10 = 0 := q1
        have hr2 := HRn.out
        have e48 : (48 : Int) + ((0 : Nat) : Int) = 48 := rfl
        rw [e48] at hr2
        have HR2 := hide hr2
        clear q1 hr2 HRn e48
        go_wp2_with (at_builtin; refine Lib.wpList_append_run _ rfl _ _ _ _ rfl _ _ rfl rfl _ _ HR2.out ?_)
        go_roundw
        case rel => exact ⟨q, UInt8.ofNat (48 + 0) :: L, by omega, by go_num, by rw [← HL.out, HST.out, List.append_assoc]; rfl, HO.out, hb1⟩
        case measure => simp [intOf]; omega
      · have hlt : decide (-(d : Int) < 0) = true := by rw [decide_eq_true_eq]; omega
        have hlt2 : 0 < d := by omega
        go_wp2_with (at_builtin; refine Lib.wpList_append_run _ rfl _ _ _ _ rfl _ _ rfl rfl _ _ HRn.out ?_)
        go_roundw
        case rel => exact ⟨q, UInt8.ofNat (48 + d) :: L, by omega, by go_num, by rw [← HL.out, HST.out, List.append_assoc]; rfl, HO.out, hb1⟩
        case measure => simp [intOf]; omega

theorem refDigits_any (n : Int) (h0 : -9223372036854775808 ≤ n) (h1 : n ≤ 9223372036854775807) (w : World) :
    Calls Tryd.prog 31 #[.int .i64 n] w fun e w' => e = .returned (.string ⟨(Lib.itoa n).toArray⟩) ∧ Below w.heap.size w w' := by
  rcases (show n = 0 ∨ 0 < n ∨ n < 0 by omega) with h | h | h
  · subst h
    exact refDigits_zero w
  · obtain ⟨u, rfl⟩ : ∃ u : Nat, n = u := ⟨n.toNat, by omega⟩
    exact refDigits_pos u (by omega) (by omega) w
  · obtain ⟨u, rfl⟩ : ∃ u : Nat, n = -(u : Int) := ⟨n.natAbs, by omega⟩
    exact refDigits_neg u (by omega) (by omega) w
end Go.Proofs.YtblcojggjplndaaDoor
