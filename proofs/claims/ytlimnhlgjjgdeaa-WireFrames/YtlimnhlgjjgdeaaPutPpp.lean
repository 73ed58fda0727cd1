/- The contract of wire.PutPpp: a protocol ahead of some bytes, or the error; for every int and every string of at most 2^47 bytes. -/
import Derived.Test.YtlimnhlgjjgdeaaLayTwo
namespace Go.Proofs.Ytlimnhlgjjgdeaa
open Go.RowKit

def putPppF (p : Int) (l : List UInt8) : List UInt8 × Int :=
  if (wordB p && protoB p.toNat) = true then (if 1492 < l.length then ([], 2) else (low p.toNat 2 ++ l, 0)) else ([], 1)

set_option maxHeartbeats 400000 in
theorem putPpp_any (p : Int) (s : ByteArray) (hs : s.size ≤ 140737488351232) (w : World) :
    Calls Try.prog 9 #[.int .i64 p, .string s] w fun e w' => e = .returned (.tuple #[.string ⟨(putPppF p s.data.toList).1.toArray⟩, .int .i64 (putPppF p s.data.toList).2]) ∧ Below w.heap.size w w' := by
  have HW := hide (isWord_any p)
  cases hw : wordB p with
  | false =>
    have e : putPppF p s.data.toList = ([], 1) := by unfold putPppF; rw [hw]; rfl
    rw [e]
    rw [hw] at HW
    clear e hw
    go_enter Try.func9, Try.ntmps9
    go_wp2_with (go_at_call 21; refine (HW.out _).mono ?_; rintro e w1 ⟨rfl, rfl⟩)
    go_ret2
    exact ⟨rfl, Below.refl _ _⟩
  | true =>
    have hr : 0 ≤ p ∧ p ≤ 65535 := by simpa [wordB] using hw
    rw [hw] at HW
    obtain ⟨a, rfl⟩ := Int.eq_ofNat_of_zero_le hr.1
    have ha : a ≤ 65535 := by omega
    have HP := hide (isProto_any a ha)
    cases hp : protoB a with
    | false =>
      have e : putPppF (a : Int) s.data.toList = ([], 1) := by unfold putPppF; rw [hw, Int.toNat_natCast, hp]; rfl
      rw [e]
      rw [hp] at HP
      clear e hw hp hr
      go_enter Try.func9, Try.ntmps9
      go_wp2_with (first | (go_at_call 21; refine (HW.out _).mono ?_; rintro e w1 ⟨rfl, rfl⟩) | (go_at_call 27; refine (HP.out _).mono ?_; rintro e w1 ⟨rfl, rfl⟩))
      go_ret2
      exact ⟨rfl, Below.refl _ _⟩
    | true =>
      rw [hp] at HP
      by_cases hl : 1492 < s.size
      · have e : putPppF (a : Int) s.data.toList = ([], 2) := by unfold putPppF; rw [hw, Int.toNat_natCast, hp, ← Lib.size_eq, if_pos (show (true && true) = true from rfl), if_pos hl]
        rw [e]
        clear e hw hp hr
        go_enter Try.func9, Try.ntmps9
        go_wp2_with (first | (go_at_call 21; refine (HW.out _).mono ?_; rintro e w1 ⟨rfl, rfl⟩) | (go_at_call 27; refine (HP.out _).mono ?_; rintro e w1 ⟨rfl, rfl⟩))
        go_ret2
        exact ⟨rfl, Below.refl _ _⟩
      · have e : putPppF (a : Int) s.data.toList = (low a 2 ++ s.data.toList, 0) := by unfold putPppF; rw [hw, Int.toNat_natCast, hp, ← Lib.size_eq, if_pos (show (true && true) = true from rfl), if_neg hl]
        rw [e]
        clear e hw hp hr
        obtain ⟨i0, hi, hz0, hz1, hz2⟩ := info_parts info5
        go_enter Try.func9, Try.ntmps9
        go_wp2_with (first | (go_at_call 21; refine (HW.out _).mono ?_; rintro e w1 ⟨rfl, rfl⟩) | (go_at_call 27; refine (HP.out _).mono ?_; rintro e w2 ⟨rfl, rfl⟩) | (at_make; refine wpList_make_own _ rfl _ _ 47 rfl _ 5 i0 (.int .u8 0) 1 Try.underlying47 hi hz0 hz1 .i64 .i64 _ (2 + s.size) rfl rfl ?m1 ?m2 ?m3 (Nat.le_refl _) ?_))
        case m1 => omega
        case m2 => rw [hz2]; omega
        case m3 => unfold maxLen; omega
        intro w3 hown3 hg3
        have hb3 : Below w2.heap.size w2 w3 := (Below.refl _ w2).grown hg3 (Nat.le_refl _) (fun k hk => by cases hk)
        clear hg3
        go_wp2_with fail
        refine (lay_two w2.heap.size _ 0 [] a (by omega) _ hb3.size hown3 (by omega)).mono ?_
        rintro e w4 ⟨v4, rfl, hown4, hb4⟩
        have hs4 := hb4.size
        have hs3 := hb3.size
        go_wp2_with (at_builtin; refine Lib.wpList_append_own_string _ rfl _ _ 47 9 rfl w2.heap.size 5 i0 Try.underlying47 Try.underlying9 hi hz0 hz1 hz2 _ _ _ rfl hown4 s rfl ?c1 ?c2 ?c3 ?_)
        case c1 => unfold maxLen; omega
        case c2 => omega
        case c3 => omega
        intro v5 w5 hown5 hg5 _
        have R := append_str (by omega) hown4 hown5 hg5
        have hcv := put_conv R.1
        clear hown5 hg5 hown4
        go_wp2
        go_ret2
        exact ⟨rfl, (hb3.trans hb4).trans R.2⟩
end Go.Proofs.Ytlimnhlgjjgdeaa
