/- The contract of the book's StaysOptions; and what a book comes to by one list more. -/
import Derived.Test.YtdifdcceigoedaaGreatBoLent
namespace Go.Proofs.YtdifdcceigoedaaGreat
open Go.RowKit

set_option maxHeartbeats 1000000 in
set_option maxRecDepth 100000 in
theorem staysOptions_any (g cap base : Nat) (v : Value) (l : List Tg) (w : World) (hn : LentAt w base g cap l) (hv : TagsAt w v l) (hl : l.length ≤ 10000) :
    Calls Tryz.prog 27 #[.slice (some ⟨g, 0, none⟩) l.length cap, v] w fun e w' => e = .returned (.bool true) ∧ Kept (fun _ => False) w w' := by
  have HS := hid (sameOptions_any (.slice (some ⟨g, 0, none⟩) l.length cap) v l l w hn.own.tags hv (by omega))
  rw [sameF_self] at HS
  obtain ⟨hc1, hc2⟩ := hn.cap
  unfold maxLen at hc2
  have HN := hid hn
  clear hn hv
  go_enter Tryz.func27, Tryz.ntmps27
  go_wp2_with fail
  refine HS.out.mono ?_
  rintro e w1 ⟨rfl, hk1⟩
  obtain ⟨g', cap', e1, _, q0, _, _⟩ := own_at (HN.out.kept hk1) (k := l.length) (y := lentT) (by simp)
  simp only [Value.slice.injEq, Option.some.injEq, Addr.mk.injEq, and_true] at e1
  obtain ⟨rfl, hx⟩ := e1
  clear hx
  have q1 : w1.cell? ⟨g, l.length * 2, none⟩ = some (.int .i64 (-77)) := q0
  have K1 := hid hk1
  have hl1 : (l.length : Int) + 1 ≤ (cap : Int) := by omega
  clear q0 hk1 HN
  go_wp2
  go_ret
  exact ⟨rfl, K1.out⟩

section
variable {W W' : World} {bk base : Nat} {v6 v7 : Value} {vs us : List Value} {Ls : List (List Tg)}

/-- No row is the book's own block. -/
theorem BookP.far {n k : Nat} {e : TypeId} {x : Value} {xs : List Value} {b : Nat} (h : BookP W bk base v6 v7 vs Ls) (hx : W.ownsRow b e k x n xs) (he : e ≠ 47) : x.ownBlock ≠ some bk := by
  intro h1
  rcases hx.2 with ⟨rfl, _⟩ | ⟨g, cap, cur, rfl, hb, hg, _⟩
  · cases h1
  · have : g = bk := by simpa [Value.ownBlock] using h1
    subst this
    rw [h.blk] at hg
    simp at hg
    exact he hg.2.symm
end
end Go.Proofs.YtdifdcceigoedaaGreat
