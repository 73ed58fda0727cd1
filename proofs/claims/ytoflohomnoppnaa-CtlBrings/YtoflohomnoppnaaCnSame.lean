/- The book's SameTexts of two lists that are the same. -/
import Derived.Test.YtoflohomnoppnaaCnMem
import Derived.Deep.QuietTactic
import Derived.BigQuiet
import Derived.Handy
import Derived.Deep.CutBlock
import Derived.Deep.CutRange
import Derived.Deep.DeepCutAuto
import Derived.LoopTactic
namespace Go.Proofs.Ytoflohomnoppnaa
open Go.RowKit

/-- A list of texts, to be read. -/
def RdS (W : World) (v : Value) (l : List ByteArray) : Prop := (l = [] ∧ ∃ p cap, v = .slice p 0 cap) ∨ ∃ g cap, v = .slice (some ⟨g, 0, none⟩) l.length cap ∧ l.length ≤ cap ∧ ∀ j x, l[j]? = some x → W.cell? ⟨g, j, none⟩ = some (.string x)
theorem OwnG.rd {w : World} {base : Nat} {v : Value} {l : List ByteArray} (h : OwnS w base v l) : RdS w v l := by
  by_cases hl : l = []
  · subst hl
    rcases h.2 with ⟨rfl, _⟩ | ⟨g, cap, cur, rfl, _⟩
    · exact Or.inl ⟨rfl, _, _, rfl⟩
    · exact Or.inl ⟨rfl, _, _, rfl⟩
  · obtain ⟨g, cap, rfl, _, h1, _, hc, _⟩ := h.lies hl
    refine Or.inr ⟨g, cap, rfl, h1, fun j x hj => ?_⟩
    have hjl := (List.getElem?_eq_some_iff.1 hj).1
    rw [hc j (by omega)]
    have := encS_ok.get hj 0 (by omega)
    rw [Nat.mul_one, Nat.add_zero] at this
    rw [this]
    rfl
theorem RdS.kept {W W' : World} {v : Value} {l : List ByteArray} (h : RdS W v l) (hk : Kept (fun _ => False) W W') : RdS W' v l := by
  rcases h with h | ⟨g, cap, rfl, h1, hc⟩
  · exact Or.inl h
  · exact Or.inr ⟨g, cap, rfl, h1, fun j x hj => (hk.cell (p := ⟨g, j, none⟩) (lt_of_cell (hc j x hj)) id).trans (hc j x hj)⟩
theorem RdS.shape {W : World} {v : Value} {l : List ByteArray} (h : RdS W v l) : ∃ p cap, v = .slice p l.length cap := by
  rcases h with ⟨rfl, p, cap, rfl⟩ | ⟨g, cap, rfl, _⟩
  · exact ⟨p, cap, rfl⟩
  · exact ⟨_, cap, rfl⟩
theorem RdS.at {W : World} {p : Option Addr} {n cap : Nat} {l : List ByteArray} (h : RdS W (.slice p n cap) l) {j : Nat} {x : ByteArray} (hj : l[j]? = some x) : ∃ g, p = some ⟨g, 0, none⟩ ∧ n ≤ cap ∧ W.cell? ⟨g, j, none⟩ = some (.string x) := by
  rcases h with ⟨rfl, _⟩ | ⟨g, cap', e, h1, hc⟩
  · simp at hj
  · simp only [Value.slice.injEq] at e
    obtain ⟨rfl, rfl, rfl⟩ := e
    exact ⟨g, rfl, h1, hc j x hj⟩
/-- The first texts of a list. -/
theorem RdS.first {W : World} {p : Option Addr} {n cap : Nat} {l : List ByteArray} (h : RdS W (.slice p n cap) l) (m : Nat) (hm : m ≤ l.length) : RdS W (.slice p m cap) (l.take m) := by
  rcases h with ⟨rfl, p', cap', e⟩ | ⟨g, cap', e, h1, hc⟩
  · obtain rfl : m = 0 := by simpa using hm
    exact Or.inl ⟨by simp, p, cap, rfl⟩
  · simp only [Value.slice.injEq] at e
    obtain ⟨rfl, rfl, rfl⟩ := e
    refine Or.inr ⟨g, cap, by rw [List.length_take, Nat.min_eq_left hm], by rw [List.length_take]; omega, fun j x hj => ?_⟩
    rw [List.getElem?_take] at hj
    split at hj
    · exact hc j x hj
    · cases hj

set_option maxHeartbeats 4000000 in
set_option maxRecDepth 100000 in
theorem sameTexts_eq (va vb : Value) (l : List ByteArray) (w : World) (ha : RdS w va l) (hb : RdS w vb l) (hl : l.length ≤ 1000000) :
    Calls Try.prog 21 #[va, vb] w fun e w' => e = .returned (.bool true) ∧ Kept (fun _ => False) w w' := by
  obtain ⟨pa, ca, rfl⟩ := ha.shape
  obtain ⟨pb, cb, rfl⟩ := hb.shape
  have HA := hid ha
  have HB := hid hb
  clear ha hb
  go_enter Try.func21, Try.ntmps21
  go_upto_region 4 with fail
  go_loopw [5] (fun vi wr => ∃ j : Nat, j ≤ l.length ∧ vi = .int .i64 (j : Int) ∧ Hid (Kept (fun _ => False) w wr)) (fun vi _ => l.length - (intOf vi).toNat)
  case atStart => exact ⟨0, Nat.zero_le _, rfl, Kept.refl _ _⟩
  case round =>
    obtain ⟨j, hj, rfl, HK⟩ := hrel
    by_cases hlt : j < l.length
    · have hltz : (j : Int) < (l.length : Int) := by omega
      obtain ⟨x, hx⟩ : ∃ x, l[j]? = some x := ⟨l[j], by simp [hlt]⟩
      obtain ⟨ga, rfl, hna, xa⟩ := RdS.at (HA.out.kept HK.out) hx
      obtain ⟨gb, rfl, hnb, xb⟩ := RdS.at (HB.out.kept HK.out) hx
      clear hx
      go_wp2
      go_quiet (fail)
      rename_i nq
      have HK2 := hid (HK.out.trans ((Kept.refl (fun _ => False) wr).drewN nq))
      clear HK xa xb
      go_wp2
      exact ⟨⟨j + 1, hlt, by go_num, HK2⟩, by simp [intOf]; omega⟩
    · have hltz : ¬ (j : Int) < (l.length : Int) := by omega
      have HK2 := hid HK.out
      clear HK
      go_wp2
      go_returns
      exact ⟨rfl, HK2.out⟩
end Go.Proofs.Ytoflohomnoppnaa
