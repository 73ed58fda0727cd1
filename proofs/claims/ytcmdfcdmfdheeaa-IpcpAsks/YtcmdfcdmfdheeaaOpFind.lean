/- The contracts of opts.Find and opts.Value. -/
import Derived.Test.YtcmdfcdmfdheeaaOpPutOpts
import Derived.Test.YtcmdfcdmfdheeaaClone
namespace Go.Proofs.Ytcmdfcdmfdheeaa
open Go.RowKit

set_option maxHeartbeats 2000000 in
set_option maxRecDepth 100000 in
theorem findOpt_any (v : Value) (l : List Tg) (kind : Int) (w : World) (hv : TagsAt w v l) (hl : l.length ≤ 1000000) (hsz : ∀ x ∈ l, x.value.size ≤ 140737488351232) :
    Calls Try.prog 21 #[v, .int .i64 kind] w fun e w' => e = .returned (.tuple #[.string (findOB l kind), .bool (findO l kind).isSome]) ∧ Kept (fun _ => False) w w' := by
  obtain ⟨p, cap, rfl⟩ := hv.slice
  have Hat : Hid (∀ (j : Nat) (x : Tg), l[j]? = some x → ∀ W, Kept (fun _ => False) w W → ∃ g o, p = some ⟨g, o, none⟩ ∧ l.length ≤ cap ∧ W.cell? ⟨g, o + j * 2, none⟩ = some (.int .i64 x.type) ∧ W.cell? ⟨g, o + j * 2 + 1, none⟩ = some (.string x.value)) :=
    fun j x hj W hW => (hv.kept0 hW).at hj
  have Hsz := hid hsz
  clear hv hsz
  go_enter Try.func21, Try.ntmps21
  go_wp2
  go_loopw [10] (fun vi wr => ∃ j : Nat, j ≤ l.length ∧ vi = .int .i64 (j : Int) ∧ Hid ((l.take j).find? (fun t => t.type == kind) = none ∧ Kept (fun _ => False) w wr)) (fun vi _ => l.length - (intOf vi).toNat)
  case atStart => exact ⟨0, Nat.zero_le _, rfl, rfl, Kept.refl _ _⟩
  case round =>
    obtain ⟨j, hj, rfl, HI⟩ := hrel
    by_cases hlt : j < l.length
    · have hltz : (j : Int) < (l.length : Int) := by omega
      obtain ⟨x, hx⟩ : ∃ x, l[j]? = some x := ⟨l[j], by simp [hlt]⟩
      obtain ⟨g, o, rfl, hcap, c0, c1⟩ := Hat.out j x hx wr HI.out.2
      have hxs := Hsz.out x (List.mem_of_getElem? hx)
      have HK := hid (HI.out.2.alloc (.cells #[.int .i64 x.type, .string x.value] 51))
      have HC := hid (fun W => clone_any x.value W (by omega))
      have b0 := (BoxO.new wr x).c0
      have b1 := (BoxO.new wr x).c1
      cases hty : (x.type == kind) with
      | true =>
        have hF := find_hit HI.out.1 hx hty
        have HF : Hid (findOB l kind = x.value ∧ (findO l kind).isSome = true) := by
          show _ ∧ _
          unfold findOB findO
          rw [hF]
          exact ⟨rfl, rfl⟩
        clear hF hx HI
        generalize x.type = T at *
        generalize x.value = V at *
        go_wp2_with fail
        refine (HC.out _).mono ?_
        rintro e w1 ⟨rfl, hb1⟩
        have HK1 := hid (HK.out.trans (kept_of hb1))
        clear hb1
        go_wp2
        go_ret2
        exact ⟨by rw [HF.out.1, HF.out.2]; rfl, HK1.out⟩
      | false =>
        have HF := hid (find_on HI.out.1 hx hty)
        clear hx HI
        generalize x.type = T at *
        generalize x.value = V at *
        go_wp2
        exact ⟨⟨j + 1, hlt, by go_num, HF.out, HK.out⟩, by simp [intOf]; omega⟩
    · obtain rfl : j = l.length := by omega
      obtain ⟨hF, hk⟩ := HI.out
      rw [List.take_length] at hF
      have HF : Hid (findOB l kind = ⟨#[]⟩ ∧ (findO l kind).isSome = false) := by
        show _ ∧ _
        unfold findOB findO
        rw [hF]
        exact ⟨rfl, rfl⟩
      clear hF HI hlt
      go_wp2
      go_ret2
      exact ⟨by rw [HF.out.1, HF.out.2]; rfl, hk⟩

set_option maxHeartbeats 400000 in
set_option maxRecDepth 100000 in
theorem value_any (s : ByteArray) (hs : s.size ≤ maxLen) (w : World) :
    Calls Try.prog 76 #[.string s] w fun e w' => e = .returned (.tuple #[.int .i64 ((valueF s.data.toList).1 : Int), .bool (valueF s.data.toList).2]) ∧ w' = w := by
  have hl : s.data.toList.length = s.size := (Lib.size_eq s).symm
  unfold maxLen at hs
  unfold valueF
  rw [hl]
  clear hl
  by_cases h : 7 < s.size
  · rw [if_pos h]
    have hz : (7 : Int) < (s.size : Int) := by omega
    go_enter Try.func76, Try.ntmps76
    go_wp2
    go_ret2
    exact ⟨rfl, rfl⟩
  · rw [if_neg h]
    have hz : ¬ (7 : Int) < (s.size : Int) := by omega
    have HN := hid (number_any s (by omega))
    generalize numOf s.data.toList = N at *
    go_enter Try.func76, Try.ntmps76
    go_wp2_with fail
    refine (HN.out _).mono ?_
    rintro e w1 ⟨rfl, rfl⟩
    go_wp2
    go_ret2
    exact ⟨rfl, rfl⟩
end Go.Proofs.Ytcmdfcdmfdheeaa
