/- The contracts of opts.isByte, opts.hasOptions and opts.number. -/
import Derived.Test.YtcmdfcdmfdheeaaOpPlain
import Derived.Test.YtcmdfcdmfdheeaaTagKit
namespace Go.Proofs.Ytcmdfcdmfdheeaa
open Go.RowKit

set_option maxHeartbeats 400000 in
set_option maxRecDepth 100000 in
theorem isByte_any (v : Int) (w : World) : Calls Try.prog 57 #[.int .i64 v] w fun e w' => e = .returned (.bool (byteB v)) ∧ w' = w := by
  by_cases h0 : 0 ≤ v
  · by_cases h1 : v ≤ 255
    · have e : byteB v = true := by simp [byteB, h0, h1]
      rw [e]
      go_enter Try.func57, Try.ntmps57
      go_wp2
      go_ret
      exact ⟨rfl, rfl⟩
    · have e : byteB v = false := by simp [byteB, h1]
      rw [e]
      go_enter Try.func57, Try.ntmps57
      go_wp2
      go_ret
      exact ⟨rfl, rfl⟩
  · have e : byteB v = false := by simp [byteB, h0]
    rw [e]
    go_enter Try.func57, Try.ntmps57
    go_wp2
    go_ret
    exact ⟨rfl, rfl⟩

set_option maxHeartbeats 400000 in
set_option maxRecDepth 100000 in
theorem hasOptions_any (v : Int) (w : World) : Calls Try.prog 82 #[.int .i64 v] w fun e w' => e = .returned (.bool (confB v)) ∧ w' = w := by
  by_cases h0 : 1 ≤ v
  · by_cases h1 : v ≤ 4
    · have e : confB v = true := by simp [confB, h0, h1]
      rw [e]
      go_enter Try.func82, Try.ntmps82
      go_wp2
      go_ret
      exact ⟨rfl, rfl⟩
    · have e : confB v = false := by simp [confB, h1]
      rw [e]
      go_enter Try.func82, Try.ntmps82
      go_wp2
      go_ret
      exact ⟨rfl, rfl⟩
  · have e : confB v = false := by simp [confB, h0]
    rw [e]
    go_enter Try.func82, Try.ntmps82
    go_wp2
    go_ret
    exact ⟨rfl, rfl⟩

set_option maxHeartbeats 1000000 in
set_option maxRecDepth 100000 in
theorem number_any (s : ByteArray) (hs : s.size ≤ 7) (w : World) : Calls Try.prog 81 #[.string s] w fun e w' => e = .returned (.int .i64 (numOf s.data.toList : Int)) ∧ w' = w := by
  have hl : s.data.toList.length = s.size := (Lib.size_eq s).symm
  have HN : Hid (∀ j, j < s.size → numOf (s.data.toList.take (j + 1)) = numOf (s.data.toList.take j) * 256 + (s.data.toList.getD j 0).toNat) := fun j hj => num_next (by omega)
  have HX : Hid (∀ j, j < s.size → ∀ W, (Instr.index 9 (.string s) (.int .i64 (j : Int))).run Try.prog W = .ok (.int .u8 ((s.data.toList.getD j 0).toNat : Int)) W) := fun j hj W => index_at s j hj (j : Int) rfl W
  have HE : Hid (numOf s.data.toList = numOf (s.data.toList.take s.size)) := by show _ = _; rw [← hl, List.take_length]
  clear hl
  go_enter Try.func81, Try.ntmps81
  go_wp2
  go_loopw [3, 7] (fun vv vi wr => ∃ j N : Nat, j ≤ s.size ∧ vi = .int .i64 (j : Int) ∧ vv = .int .i64 (N : Int) ∧ Hid (N = numOf (s.data.toList.take j) ∧ wr = w)) (fun _ vi _ => s.size - (intOf vi).toNat)
  case atStart => exact ⟨0, 0, Nat.zero_le _, rfl, rfl, rfl, rfl⟩
  case round =>
    obtain ⟨j, N, hj, rfl, rfl, HI⟩ := hrel
    by_cases hlt : j < s.size
    · have hltz : (j : Int) < (s.size : Int) := by omega
      have hx := HX.out j hlt
      have hb := (s.data.toList.getD j 0).toNat_lt
      have R := HN.out j hlt
      rw [← HI.out.1] at R
      have hNb : N < 281474976710656 := by rw [HI.out.1]; exact num_bound (by omega)
      generalize (s.data.toList.getD j 0).toNat = B at *
      have RR := hid R
      have HK := hid HI.out.2
      have hor := i64_or_byte N B (by omega) (by omega)
      clear R HI
      go_wp2
      exact ⟨⟨j + 1, N * 256 + B, hlt, by go_num, by go_num, RR.out.symm, HK.out⟩, by simp [intOf]; omega⟩
    · obtain rfl : j = s.size := by omega
      obtain ⟨h1, h2⟩ := HI.out
      have H1 := hid (h1.trans HE.out.symm)
      clear h1 hlt
      go_wp2
      go_ret
      exact ⟨by rw [← H1.out]; rfl, rfl⟩
end Go.Proofs.Ytcmdfcdmfdheeaa
