/- The contracts of hasTwins and areGood, where nothing is wrong. -/
import Derived.Test.YtcmdfcdmfdheeaaNgDo
namespace Go.Proofs.Ytcmdfcdmfdheeaa
open Go.RowKit

theorem TagsAt.firstN {W : World} {p : Option Addr} {cap : Nat} {l : List Tg} {j : Nat} (h : TagsAt W (.slice p l.length cap) l) (hj : j < l.length) : TagsAt W (.slice p j cap) (l.take j) := by
  have hlen : (l.take j).length = j := by rw [List.length_take]; omega
  rcases h with ⟨rfl, _⟩ | ⟨g, o, cap', e, h1, h2, hc⟩
  · simp at hj
  · simp only [Value.slice.injEq] at e
    obtain ⟨rfl, _, rfl⟩ := e
    refine Or.inr ⟨g, o, cap, by rw [hlen], by omega, h2, fun k x hk => ?_⟩
    have hkl := (List.getElem?_eq_some_iff.1 hk).1
    rw [List.getElem?_take_of_lt (by omega)] at hk
    exact hc k x hk

/-- No two of them are of one type. -/
def Alone (l : List Tg) : Prop := ∀ j x, l[j]? = some x → (findO (l.take j) x.type).isSome = false

set_option maxHeartbeats 2000000 in
set_option maxRecDepth 100000 in
theorem hasTwins_no (v : Value) (l : List Tg) (w : World) (hv : TagsAt w v l) (hl : l.length ≤ 10000) (hsz : ∀ x ∈ l, x.value.size ≤ 140737488351232) (ha : Alone l) :
    Calls Try.prog 42 #[v] w fun e w' => e = .returned (.bool false) ∧ Kept (fun _ => False) w w' := by
  obtain ⟨p, cap, rfl⟩ := hv.slice
  have HT := hid (fun (W : World) (k : Kept (fun _ => False) w W) => hv.kept0 k)
  have HS := hid hsz
  have HAl := hid ha
  clear hv hsz ha
  go_enter Try.func42, Try.ntmps42
  go_wp2
  go_loopw [9] (fun vi wr => ∃ j : Nat, j ≤ l.length ∧ vi = .int .i64 (j : Int) ∧ Hid (Kept (fun _ => False) w wr)) (fun vi _ => l.length - (intOf vi).toNat)
  case atStart => exact ⟨0, Nat.zero_le _, rfl, Kept.refl _ _⟩
  case round =>
    obtain ⟨j, hj, rfl, HI⟩ := hrel
    by_cases hlt : j < l.length
    · have hltz : (j : Int) < (l.length : Int) := by omega
      obtain ⟨x, hx⟩ : ∃ x, l[j]? = some x := ⟨l[j], by simp [hlt]⟩
      have hk1 := (HI.out.alloc (.cells #[.int .i64 x.type, .string x.value] 51)).drew
      obtain ⟨g, o, rfl, hcap, c0, c1⟩ := (HT.out wr HI.out).at hx
      have hjc : (j : Int) ≤ (cap : Int) := by omega
      have b0 := (BoxO.new wr x).c0
      have HF := hid (findOpt_any (.slice (some ⟨g, o, none⟩) j cap) (l.take j) x.type _ ((HT.out _ hk1).firstN hlt) (by rw [List.length_take]; omega) (fun y hy => HS.out y (List.mem_of_mem_take hy)))
      rw [HAl.out j x hx] at HF
      generalize findOB (l.take j) x.type = FB at HF
      have HK := hid hk1
      clear hx hk1
      go_wp2_with fail
      go_region_with (first | (go_at_call 21; refine HF.out.mono ?_; rintro e w2 ⟨rfl, hk2⟩; have HK2 := hid (HK.out.trans hk2); clear hk2))
      all_goals
        go_wp2
        exact ⟨⟨j + 1, hlt, by go_num, HK2.out⟩, by simp [intOf]; omega⟩
    · obtain rfl : j = l.length := by omega
      have hltz : ¬ (l.length : Int) < (l.length : Int) := by omega
      go_wp2
      go_ret
      exact ⟨rfl, HI.out⟩

def GoodR (rs : List Rl) : Prop := rs.length ≤ 10000 ∧ ∀ r ∈ rs, In64 r.type ∧ r.suggest.size ≤ 253 ∧ fitsF r r.suggest = true

set_option maxHeartbeats 2000000 in
set_option maxRecDepth 100000 in
theorem areGood_yes (v : Value) (rs : List Rl) (w : World) (hv : RulesAt w v rs) (hg : GoodR rs) :
    Calls Try.prog 43 #[v] w fun e w' => e = .returned (.bool true) ∧ Kept (fun _ => False) w w' := by
  obtain ⟨p, cap, rfl⟩ := hv.slice
  have HT := hid (fun (W : World) (k : Kept (fun _ => False) w W) => hv.kept0 k)
  have HG := hid hg.2
  have hl := hg.1
  clear hv hg
  go_enter Try.func43, Try.ntmps43
  go_wp2
  go_loopw [7] (fun vi wr => ∃ j : Nat, j ≤ rs.length ∧ vi = .int .i64 (j : Int) ∧ Hid (Kept (fun _ => False) w wr)) (fun vi _ => rs.length - (intOf vi).toNat)
  case atStart => exact ⟨0, Nat.zero_le _, rfl, Kept.refl _ _⟩
  case round =>
    obtain ⟨j, hj, rfl, HI⟩ := hrel
    by_cases hlt : j < rs.length
    · have hltz : (j : Int) < (rs.length : Int) := by omega
      obtain ⟨x, hx⟩ : ∃ x, rs[j]? = some x := ⟨rs[j], by simp [hlt]⟩
      obtain ⟨g, o, rfl, hcap, c0, c1, c2, c3, c4⟩ := (HT.out wr HI.out).at hx
      obtain ⟨_, h253, hft⟩ := HG.out x (List.mem_of_getElem? hx)
      have hz : ¬ (253 : Int) < (x.suggest.size : Int) := by omega
      obtain ⟨b0, b1, b2, b3, b4⟩ := boxR_new wr x
      have HF := hid (fits_any x x.suggest (by omega))
      rw [hft] at HF
      unfold rlV at HF
      have HK := hid (HI.out.alloc (.cells #[.int .i64 x.type, .int .i64 x.len, .int .i64 x.min, .int .i64 x.max, .string x.suggest] 56))
      clear hx hft
      go_wp2_with fail
      refine (HF.out _).mono ?_
      rintro e w2 ⟨rfl, hk2⟩
      have HK2 := hid (HK.out.trans hk2)
      clear hk2
      go_wp2
      exact ⟨⟨j + 1, hlt, by go_num, HK2.out⟩, by simp [intOf]; omega⟩
    · obtain rfl : j = rs.length := by omega
      have hltz : ¬ (rs.length : Int) < (rs.length : Int) := by omega
      go_wp2
      go_ret
      exact ⟨rfl, HI.out⟩
end Go.Proofs.Ytcmdfcdmfdheeaa
