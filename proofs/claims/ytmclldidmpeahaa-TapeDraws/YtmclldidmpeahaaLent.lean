/- The statements' helpers LentInts, SameInts, StaysInts: a list is lent with a mark behind it, and stays. -/
import Derived.Test.YtmclldidmpeahaaTapeArgs
import Derived.Deep.QuietTactic
import Derived.BigQuiet
namespace Go.Proofs.Ytmclldidmpeahaa
open Go.RowKit

/-- A lent list: its row has a mark behind it. -/
def LentAt (W : World) (base g cap : Nat) (l : List Int) : Prop := W.ownsRow base 3 1 (.slice (some ⟨g, 0, none⟩) (l.length + 1) cap) (l.length + 1) (intCells (l ++ [-77]))

theorem cell_one (w : World) (x : Value) (t : TypeId) : ∀ (j : Nat) (u : Value), [x][j]? = some u → (w.alloc (.cells #[x] t)).cell? ((⟨w.heap.size, 0, none⟩ : Addr).add j) = some u := by
  intro j u h
  have ha : (⟨w.heap.size, 0, none⟩ : Addr).add j = ⟨w.heap.size, j, none⟩ := by
    unfold Addr.add
    split <;> simp_all
  rw [ha, World.cell?_alloc_new]
  simpa using h

theorem lent_shape {W : World} {base : Nat} {v : Value} {l : List Int} (h : W.ownsRow base 3 1 v (l.length + 1) (intCells l ++ [.int .i64 (-77)])) : ∃ g cap, v = .slice (some ⟨g, 0, none⟩) (l.length + 1) cap ∧ base ≤ g ∧ l.length + 1 ≤ cap ∧ LentAt W base g cap l := by
  rcases h.2 with ⟨_, h0⟩ | ⟨g, cap, cur, rfl, hb, hh, hn, r⟩
  · omega
  · refine ⟨g, cap, rfl, hb, hn, ?_⟩
    unfold LentAt
    have e : intCells (l ++ [-77]) = intCells l ++ [.int .i64 (-77)] := by simp [intCells]
    rw [e]
    exact h

set_option maxHeartbeats 1000000 in
set_option maxRecDepth 100000 in
theorem lent_any (v : Value) (l : List Int) (hl : l.length ≤ 1000000) (w : World) (hv : IntsAt w v l) :
    Calls Try.prog 9 #[v] w fun e w' => ∃ g cap, e = .returned (.slice (some ⟨g, 0, none⟩) l.length cap) ∧ w.heap.size ≤ g ∧ l.length + 1 ≤ cap ∧ LentAt w' w.heap.size g cap l ∧ Kept (fun _ => False) w w' := by
  obtain ⟨i0, hi, hz0, hz1, hz2⟩ := info_parts info3
  rcases hv with ⟨rfl, rfl⟩ | ⟨ad, c, rfl, _, _, hc⟩
  · have hn : w.ownsRow w.heap.size 3 1 (.slice none 0 0) 0 (intCells []) := World.ownsRow_nil _ _ _ _
    go_enter Try.func9, Try.ntmps9
    go_wp2_with (first | (at_builtin; refine wpList_append_own _ rfl _ _ 22 rfl w.heap.size 3 i0 (.int .i64 0) 1 8 Try.underlying22 hi hz0 hz1 hz2 rfl (by decide) _ 0 _ rfl (hn.alloc _) ⟨w.heap.size, 0, none⟩ 1 1 [.int .i64 (-77)] rfl rfl ?d1 ?d2 ?d3 ?d4 ?d5 ?_) | go_in)
    case d1 => exact cell_one _ _ _
    case d2 => intro u hu; simp at hu; subst hu; rfl
    case d3 => unfold maxLen; omega
    case d4 => omega
    case d5 => simp
    intro v2 w2 hown2 hg2 _
    have hk2 : Kept (fun _ => False) w w2 := ((Kept.refl _ w).alloc _).grown hg2 (fun j hj => by cases hj)
    obtain ⟨g, cap, rfl, hg, hcap, hlent⟩ := lent_shape (l := []) hown2
    clear hown2 hg2 hn
    go_wp2
    go_ret
    exact ⟨g, cap, rfl, hg, hcap, hlent, hk2⟩
  · have hn : w.ownsRow w.heap.size 3 1 (.slice none 0 0) 0 [] := World.ownsRow_nil _ _ _ _
    have Hc := hid hc
    clear hc
    go_enter Try.func9, Try.ntmps9
    go_wp2_with (at_builtin; refine wpList_append_own _ rfl _ _ 22 rfl w.heap.size 3 i0 (.int .i64 0) 1 8 Try.underlying22 hi hz0 hz1 hz2 rfl (by decide) _ _ _ rfl hn ad l.length c (intCells l) rfl ?c0 Hc.out (intCells_one l) ?c3 ?c4 ?c5 ?_)
    case c0 => simp [intCells]
    case c3 => unfold maxLen; omega
    case c4 => omega
    case c5 => exact Nat.le_refl _
    intro v1 w1 hown1 hg1 _
    have hk1 : Kept (fun _ => False) w w1 := (Kept.refl _ w).grown hg1 (fun j hj => by cases hj)
    have hown1' : w1.ownsRow w.heap.size 3 1 v1 l.length (intCells l) := by simpa using hown1
    have hs1 := hk1.size
    clear hown1 hg1 hn
    go_wp2_with (at_builtin; refine wpList_append_own _ rfl _ _ 22 rfl w.heap.size 3 i0 (.int .i64 0) 1 8 Try.underlying22 hi hz0 hz1 hz2 rfl (by decide) _ _ _ rfl (hown1'.alloc _) ⟨w1.heap.size, 0, none⟩ 1 1 [.int .i64 (-77)] rfl rfl ?d1 ?d2 ?d3 ?d4 ?d5 ?_)
    case d1 => exact cell_one _ _ _
    case d2 => intro u hu; simp at hu; subst hu; rfl
    case d3 => unfold maxLen; omega
    case d4 => omega
    case d5 => simp; omega
    intro v2 w2 hown2 hg2 _
    have hk2 : Kept (fun _ => False) w w2 := (hk1.alloc _).grown hg2 (fun j hj => Or.inl (by have := (hown1'.lt j hj).1; omega))
    obtain ⟨g, cap, rfl, hg, hcap, hlent⟩ := lent_shape hown2
    clear hown2 hg2 hown1' hk1
    go_wp2
    go_ret
    exact ⟨g, cap, rfl, hg, hcap, hlent, hk2⟩
/-- How a list of ints lies: none, or at a place without a spot. -/
theorem IntsAt.form {W : World} {v : Value} {l : List Int} (h : IntsAt W v l) : (l = [] ∧ ∃ p cap, v = .slice p 0 cap) ∨ ∃ g o cap, v = .slice (some ⟨g, o, none⟩) l.length cap ∧ l.length ≤ cap ∧ ∀ j x, l[j]? = some x → W.cell? ⟨g, o + j, none⟩ = some (.int .i64 x) := by
  rcases h with ⟨rfl, rfl⟩ | ⟨ad, cap, rfl, h1, _, hc⟩
  · exact Or.inl ⟨rfl, _, _, rfl⟩
  · match l, h1, hc with
    | [], _, _ => exact Or.inl ⟨rfl, _, _, rfl⟩
    | x :: r, h1, hc =>
      have h0 := hc 0 (.int .i64 x) rfl
      obtain ⟨g, o, sp⟩ := ad
      have hsp : sp = none := by
        unfold Addr.add at h0
        cases sp with
        | none => rfl
        | some q =>
          exfalso
          unfold World.cell? at h0
          split at h0 <;> simp at h0
      subst hsp
      refine Or.inr ⟨g, o, cap, rfl, h1, fun j y hj => ?_⟩
      have := hc j (.int .i64 y) (by unfold intCells; rw [List.getElem?_map, hj]; rfl)
      have ha : (⟨g, o, none⟩ : Addr).add j = ⟨g, o + j, none⟩ := by
        unfold Addr.add
        split <;> simp_all
      rw [ha] at this
      exact this

/-- A lent list's cells. -/
theorem LentAt.cell {W : World} {base g cap : Nat} {l : List Int} (h : LentAt W base g cap l) (j : Nat) (x : Int) (hj : (l ++ [-77])[j]? = some x) : W.cell? ⟨g, j, none⟩ = some (.int .i64 x) := by
  have e : (l ++ [-77]).length = l.length + 1 := by simp
  unfold LentAt at h
  rw [← e] at h
  exact row_ints h j x hj

set_option maxHeartbeats 1000000 in
set_option maxRecDepth 100000 in
theorem sameInts_any (ga ca : Nat) (v : Value) (l : List Int) (hl : l.length ≤ 1000000) (w : World) (ha : ∀ j x, l[j]? = some x → w.cell? ⟨ga, j, none⟩ = some (.int .i64 x)) (hv : IntsAt w v l) :
    Calls Try.prog 25 #[.slice (some ⟨ga, 0, none⟩) l.length ca, v] w fun e w' => e = .returned (.bool true) ∧ ∃ q, w' = w.drewN q := by
  rcases hv.form with ⟨rfl, p, cap, rfl⟩ | ⟨g, o, cap, rfl, hle, hb⟩
  · go_enter Try.func25, Try.ntmps25
    go_wp2
    refine wp_loop_rounds 1 ?_
    rw [rounds_succ]
    go_wp2
    go_ret
    exact ⟨rfl, 0, rfl⟩
  · have Ha := hid ha
    have Hb := hid hb
    clear ha hb hv
    go_enter Try.func25, Try.ntmps25
    go_wp2
    go_loopw [5] (fun s wr => ∃ j : Nat, j ≤ l.length ∧ s = .int .i64 (j : Int) ∧ ∃ q, wr = w.drewN q) (fun s _ => l.length - (intOf s).toNat)
    case atStart => exact ⟨0, Nat.zero_le _, rfl, 0, rfl⟩
    case round =>
      obtain ⟨j, hj, rfl, q, rfl⟩ := hrel
      by_cases hlt : j < l.length
      · obtain ⟨x, hx⟩ : ∃ x, l[j]? = some x := ⟨l[j], List.getElem?_eq_getElem hlt⟩
        have a0 := Ha.out j x hx
        have b0 := Hb.out j x hx
        clear hx
        go_wp2
        go_quiet (fail)
        go_wp2
        exact ⟨⟨j + 1, hlt, by go_num, _, rfl⟩, by simp [intOf]; omega⟩
      · go_wp2
        go_ret
        exact ⟨rfl, _, rfl⟩

set_option maxHeartbeats 1000000 in
set_option maxRecDepth 100000 in
theorem staysInts_any (base g cap : Nat) (v : Value) (l : List Int) (hl : l.length ≤ 1000000) (w : World) (hm : LentAt w base g cap l) (hcap : l.length + 1 ≤ cap) (hv : IntsAt w v l) :
    Calls Try.prog 11 #[.slice (some ⟨g, 0, none⟩) l.length cap, v] w fun e w' => e = .returned (.bool true) ∧ ∃ q, w' = w.drewN q := by
  have Hs := hid (sameInts_any g cap v l hl w (fun j x hj => hm.cell j x (by rw [List.getElem?_append_left (List.getElem?_eq_some_iff.1 hj).1]; exact hj)) hv)
  have q0 := hm.cell l.length (-77) (by simp)
  have hcm : cap ≤ maxLen := by
    rcases hm.2 with ⟨h0, _⟩ | ⟨g', cap', cur, he, hb, hh, hn, hm', _⟩
    · cases h0
    · cases he; exact hm'
  unfold maxLen at hcm
  clear hm hv
  go_enter Try.func11, Try.ntmps11
  go_wp2_with (go_at_call 25; refine Hs.out.mono ?_; rintro e w' ⟨rfl, q, rfl⟩)
  go_ret
  exact ⟨rfl, q, rfl⟩
end Go.Proofs.Ytmclldidmpeahaa
