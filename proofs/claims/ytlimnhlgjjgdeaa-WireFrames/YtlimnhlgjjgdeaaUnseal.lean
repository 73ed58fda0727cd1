/- The contract of wire.Unseal: the bytes ahead of a right check sum, or the error; for every string of at most 2^47 bytes. -/
import Derived.Test.YtlimnhlgjjgdeaaSeal
import Derived.Deep.QuietTactic
import Derived.BigQuiet
namespace Go.Proofs.Ytlimnhlgjjgdeaa
open Go.RowKit

def unsealF (l : List UInt8) : List UInt8 × Int := if l.length < 2 then ([], 5) else if sealF (l.take (l.length - 2)) = l then (l.take (l.length - 2), 0) else ([], 6)
theorem two_eq (a b f : Nat) (ha : a < 256) (hb : b < 256) : (UInt8.ofNat (f % 256) = UInt8.ofNat a ∧ UInt8.ofNat (f / 256) = UInt8.ofNat b) ∧ f < 65536 ↔ a + b * 256 = f := by
  constructor
  · rintro ⟨⟨h1, h2⟩, h3⟩
    have e1 := congrArg UInt8.toNat h1
    have e2 := congrArg UInt8.toNat h2
    simp at e1 e2
    omega
  · intro h
    subst h
    have e1 : (a + b * 256) % 256 = a := by omega
    have e2 : (a + b * 256) / 256 = b := by omega
    rw [e1, e2]
    exact ⟨⟨rfl, rfl⟩, by omega⟩
theorem last_two (s : ByteArray) (h : 2 ≤ s.size) : s.data.toList = s.data.toList.take (s.size - 2) ++ [s[s.size - 2], s[s.size - 1]] := by
  have h1 := take_snoc s (s.size - 2) (by omega)
  have h2 := take_snoc s (s.size - 2 + 1) (by omega)
  have e : s.data.toList.take (s.size - 2 + 1 + 1) = s.data.toList := List.take_of_length_le (by rw [← Lib.size_eq]; omega)
  rw [e, h1, List.append_assoc] at h2
  have e3 : s[s.size - 2 + 1] = s[s.size - 1] := by congr 1; omega
  rw [e3] at h2
  exact h2
theorem unseal_test (s : ByteArray) (h : 2 ≤ s.size) :
    sealF (s.data.toList.take (s.size - 2)) = s.data.toList ↔ s[s.size - 2].toNat + s[s.size - 1].toNat * 256 = fcs (s.data.toList.take (s.size - 2)) := by
  have hl := last_two s h
  have hb1 := s[s.size - 2].toNat_lt
  have hb2 := s[s.size - 1].toNat_lt
  generalize s[s.size - 2] = x at hl hb1 ⊢
  generalize s[s.size - 1] = y at hl hb2 ⊢
  generalize s.data.toList.take (s.size - 2) = m at hl ⊢
  have hf := fcs_lt m
  have h2 := two_eq x.toNat y.toNat (fcs m) hb1 hb2
  simp only [UInt8.ofNat_toNat] at h2
  rw [hl]
  unfold sealF
  constructor
  · intro hs
    have hc := List.append_cancel_left hs
    simp only [List.cons.injEq, and_true] at hc
    exact h2.1 ⟨⟨hc.1, hc.2⟩, hf⟩
  · intro hs
    have hc := h2.2 hs
    rw [hc.1.1, hc.1.2]

theorem below_draws (w : World) (n : Nat) : Below w.heap.size w (w.drewN n) := below_drewN (Below.refl _ _) n
theorem index_at (s : ByteArray) (k : Nat) (h : k < s.size) (i : Int) (hi : i = (k : Int)) (W : World) :
    (Instr.index 9 (.string s) (.int .i64 i)).run Try.prog W = .ok (.int .u8 (s[k].toNat : Int)) W := by
  subst hi
  rw [run_index_string W 9 s .i64 (k : Int) Try.underlying9, dif_pos ⟨by omega, by omega⟩]
  rfl
theorem first_at (s : ByteArray) (k : Nat) (h : k ≤ s.size) (i : Int) (hi : i = (k : Int)) (W : World) :
    (Instr.slice 9 (.string s) none (some (.int .i64 i)) none).run Try.prog W = .ok (.string (s.extract 0 k)) W := by
  subst hi
  rw [run_slice_string_h W 9 s Try.underlying9 .i64 (k : Int) (by omega) (by omega)]
  rfl
theorem or_two (a b : Nat) (ha : a < 256) (hb : b < 256) : bits .or .i64 (a : Int) ((b : Int) * 256) = ((a + b * 256 : Nat) : Int) := by
  have h := i64_or_nat a (b * 256) (by omega) (by omega)
  rw [Nat.or_comm, nat_join 8 (b * 256) a (by omega) (by omega), Nat.add_comm] at h
  rw [← h]
  rfl

set_option maxHeartbeats 1000000 in
theorem unseal_any (s : ByteArray) (hs : s.size ≤ 140737488351232) (w : World) :
    Calls Try.prog 30 #[.string s] w fun e w' => e = .returned (.tuple #[.string ⟨(unsealF s.data.toList).1.toArray⟩, .int .i64 (unsealF s.data.toList).2]) ∧ Below w.heap.size w w' := by
  have hl : s.data.toList.length = s.size := (Lib.size_eq s).symm
  by_cases h2 : s.size < 2
  · have e : unsealF s.data.toList = ([], 5) := by unfold unsealF; rw [if_pos (by omega)]
    rw [e]
    clear e hl
    go_enter Try.func30, Try.ntmps30
    go_wp2
    go_ret2
    exact ⟨rfl, Below.refl _ _⟩
  have ht := unseal_test s (by omega)
  have hq1 : s.size - 2 < s.size := by omega
  have hq2 : s.size - 2 + 1 < s.size := by omega
  have e2 : s[s.size - 1] = s[s.size - 2 + 1] := by congr 1; omega
  rw [e2] at ht
  have eu : unsealF s.data.toList = if sealF (s.data.toList.take (s.size - 2)) = s.data.toList then (s.data.toList.take (s.size - 2), 0) else ([], 6) := by
    unfold unsealF
    rw [if_neg (by omega), hl]
  have hc1 := s[s.size - 2].toNat_lt
  have hc2 := s[s.size - 2 + 1].toNat_lt
  have hd : (s.extract 0 (s.size - 2)).data.toList = s.data.toList.take (s.size - 2) := by rw [Lib.extract_data]; simp
  have HF : Hid (∀ w, Calls Try.prog 19 #[.string (s.extract 0 (s.size - 2))] w fun e w' => e = .returned (.int .i64 (fcs (s.data.toList.take (s.size - 2)) : Int)) ∧ w' = w) := fun w => by
    have h := fcs_any (s.extract 0 (s.size - 2)) (by rw [ByteArray.size_extract]; unfold maxLen; omega) w
    rw [hd] at h
    exact h
  have hf := fcs_lt (s.data.toList.take (s.size - 2))
  have eo : bits .or .i64 (s[s.size - 2].toNat : Int) ((s[s.size - 2 + 1].toNat : Int) * 256) = ((s[s.size - 2].toNat + s[s.size - 2 + 1].toNat * 256 : Nat) : Int) := or_two _ _ hc1 hc2
  have hx : (⟨(s.data.toList.take (s.size - 2)).toArray⟩ : ByteArray) = s.extract 0 (s.size - 2) := by
    apply ByteArray.ext
    apply Array.toList_inj.1
    rw [hd]
  have i1 := index_at s (s.size - 2) hq1 ((s.size : Int) - 2) (by omega)
  have i2 := index_at s (s.size - 2 + 1) hq2 ((s.size : Int) - 2 + 1) (by omega)
  have i3 := first_at s (s.size - 2) (by omega) ((s.size : Int) - 2) (by omega)
  by_cases hg : s[s.size - 2].toNat + s[s.size - 2 + 1].toNat * 256 = fcs (s.data.toList.take (s.size - 2))
  · rw [if_pos (ht.2 hg)] at eu
    rw [eu]
    simp only [hx]
    have hcl : (s.extract 0 (s.size - 2)).size ≤ 281474976710656 := by rw [ByteArray.size_extract]; omega
    have hne : (((s[s.size - 2].toNat + s[s.size - 2 + 1].toNat * 256 : Nat) : Int) != (fcs (s.data.toList.take (s.size - 2)) : Int)) = false := by rw [hg]; simp
    generalize fcs (s.data.toList.take (s.size - 2)) = f at HF hf hne
    clear hg eu hx ht hd hl e2
    go_enter Try.func30, Try.ntmps30
    go_wp2
    go_quiet ((go_at_call 19; exact Calls.quiet_of_same (HF.out _)))
    go_wp2_with fail
    refine (clone_any _ _ hcl).mono ?_
    rintro e w1 ⟨rfl, hb1⟩
    go_wp2
    go_ret2
    exact ⟨rfl, below_next (below_draws w nq) hb1⟩
  · rw [if_neg (fun h => hg (ht.1 h))] at eu
    rw [eu]
    have hne : (((s[s.size - 2].toNat + s[s.size - 2 + 1].toNat * 256 : Nat) : Int) != (fcs (s.data.toList.take (s.size - 2)) : Int)) = true := by rw [bne_iff_ne]; omega
    generalize fcs (s.data.toList.take (s.size - 2)) = f at HF hf hne
    clear hg eu hx ht hd hl e2
    go_enter Try.func30, Try.ntmps30
    go_wp2
    go_quiet ((go_at_call 19; exact Calls.quiet_of_same (HF.out _)))
    go_wp2
    go_ret2
    exact ⟨rfl, below_draws w nq⟩
end Go.Proofs.Ytlimnhlgjjgdeaa
