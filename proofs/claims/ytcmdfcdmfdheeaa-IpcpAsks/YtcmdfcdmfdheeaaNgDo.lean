/- The contracts of Do and Tick. -/
import Derived.Test.YtcmdfcdmfdheeaaNgHappen
namespace Go.Proofs.Ytcmdfcdmfdheeaa
open Go.RowKit

/-- The cause where no packet came. -/
def un (n : Ng) : Cz := ⟨⟨0, n.id, [], ⟨#[]⟩⟩, ⟨0, 0, [], ⟨#[]⟩⟩, []⟩
theorem fineNil : FineO [] := ⟨Nat.zero_le _, fun _ h => absurd h List.not_mem_nil, fun _ h => absurd h List.not_mem_nil⟩
theorem un_at {W : World} {base b : Nat} {a : Nm} (n : Ng) : CzAt W base b a (un n) (.slice none 0 0) (.slice none 0 0) none :=
  ⟨OptsAt.nil W, Or.inl rfl, fineNil, Nat.zero_le _, OwnO.nil _ _, (fun _ hi => by cases hi), fineNil, (fun e => absurd e (by simp [un]))⟩

def doN (n : Ng) (e : Int) : Ng × List Pk0 := if 0 ≤ e ∧ e ≤ 3 then happenF (un n) n e else (n, [])

set_option maxHeartbeats 2000000 in
set_option maxRecDepth 100000 in
theorem ngDo_any {base b : Nat} {a : Nm} {n : Ng} (ev : Int) (w : World) (h : NegIn w base b a n) :
    Calls Try.prog 15 #[.pointer (some ⟨b, 0, none⟩), .int .i64 ev] w fun e w' => ∃ vo, e = .returned vo ∧ Sent w w' base b a (doN n ev) vo := by
  have HN := hid (ngNone_any w h)
  have HU := hid (unasked_any w h)
  have H := hid h
  unfold czV at HU
  unfold doN
  clear h
  by_cases he : 0 ≤ ev ∧ ev ≤ 3
  · rw [if_pos he]
    have HH := hid (fun (W : World) (k : Kept (fun _ => False) w W) => happen_any (un n) (.slice none 0 0) (.slice none 0 0) none ev ⟨by omega, by omega⟩ W (H.out.kept0 k) (un_at n))
    unfold czV un at HH
    simp only at HH
    have hc : ev = 0 ∨ ev = 1 ∨ ev = 2 ∨ ev = 3 := by omega
    clear he
    rcases hc with rfl | rfl | rfl | rfl
    all_goals
      go_enter Try.func15, Try.ntmps15
      go_wp2_with (first | (go_at_call 27; refine HN.out.mono ?_; rintro e w' ⟨rfl, hw⟩; rw [hw]; clear hw w'))
      refine HU.out.mono ?_
      rintro e w1 ⟨rfl, hk⟩
      have HK := hid hk
      clear hk
      go_wp2_with fail
      refine (HH.out _ HK.out).mono ?_
      rintro e w2 ⟨vo, rfl, vt, l, w3, N, U⟩
      have HS := hid (Sent.of (NNext.before0 HK.out N) U (fun i hi => by cases hi))
      obtain ⟨p, cap, rfl⟩ := HS.out.slice
      clear N U
      go_wp2
      go_ret
      exact ⟨_, rfl, HS.out⟩
  · rw [if_neg he]
    have h0 : ¬ ev = 0 := by omega
    have h1 : ¬ ev = 1 := by omega
    have h2 : ¬ ev = 2 := by omega
    have h3 : ¬ ev = 3 := by omega
    clear he HU
    go_enter Try.func15, Try.ntmps15
    go_wp2_with (first | (go_at_call 27; refine HN.out.mono ?_; rintro e w' ⟨rfl, hw⟩; rw [hw]; clear hw w'))
    go_ret
    exact ⟨_, rfl, Sent.none (NNext.refl H.out)⟩
end Go.Proofs.Ytcmdfcdmfdheeaa
