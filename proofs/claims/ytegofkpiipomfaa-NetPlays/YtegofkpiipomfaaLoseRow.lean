/- The contracts of slices.IndexFunc and slices.DeleteFunc with the closure of Net.loseOld. -/
import Derived.Test.YtegofkpiipomfaaLose
namespace Go.Proofs.Ytegofkpiipomfaa
open Go.RowKit

theorem Boxes.kept {w w' : World} {pb sb : Nat} {k i sent : Int} {S : Nat → Prop} (h : Boxes w pb sb k i sent) (hk : Kept S w w') (hp : ¬ S pb) (hs : ¬ S sb) : Boxes w' pb sb k i sent :=
  ⟨(hk.cell (p := ⟨pb, 0, none⟩) (lt_of_cell h.1) hp).trans h.1, (hk.cell (p := ⟨pb, 1, none⟩) (lt_of_cell h.2.1) hp).trans h.2.1, (hk.cell (p := ⟨sb, 0, none⟩) (lt_of_cell h.2.2) hs).trans h.2.2⟩

theorem RowG.cells4 {w : World} {g cap : Nat} {l : List Gr} (h : RowG w g cap l) {j : Nat} {x : Gr} (hj : l[j]? = some x) :
    w.cell? ⟨g, j * 4, none⟩ = some (.int .i64 x.src) ∧ w.cell? ⟨g, j * 4 + 1, none⟩ = some (.int .i64 x.dst) ∧ w.cell? ⟨g, j * 4 + 2, none⟩ = some (.string x.data) ∧ w.cell? ⟨g, j * 4 + 3, none⟩ = some (.int .i64 x.turn) :=
  ⟨h.cellAt hj 0 (by omega), h.cellAt hj 1 (by omega), h.cellAt hj 2 (by omega), h.cellAt hj 3 (by omega)⟩

/-- The first one for which p holds. -/
def Found (p : Gr → Bool) (l : List Gr) (r : Int) : Prop := (r = -1 ∧ ∀ x ∈ l, p x = false) ∨ ∃ (j : Nat) (x : Gr), r = (j : Int) ∧ l[j]? = some x ∧ p x = true ∧ ∀ y ∈ l.take j, p y = false

def lostFn (pb sb : Nat) : Value := .func (.func 39) #[] #[.pointer (some ⟨pb, 0, none⟩), .pointer (some ⟨sb, 0, none⟩)]

set_option maxHeartbeats 1000000 in
set_option maxRecDepth 100000 in
theorem index_row (g cap pb sb : Nat) (l : List Gr) {k i sent : Int} (hk : In64 k) (hi : In64 i) (hs : Cnt sent) (hl : ∀ x ∈ l, GrOk x) (w : World) (hr : RowG w g cap l) (hb : Boxes w pb sb k i sent) :
    Calls Try.prog 43 #[.slice (some ⟨g, 0, none⟩) l.length cap, lostFn pb sb] w fun e w' => ∃ r, e = .returned (.int .i64 r) ∧ Found (oldG k i sent) l r ∧ Kept (fun _ => False) w w' := by
  have Hl : Hid (∀ x ∈ l, GrOk x) := hl
  have Hf : Hid (∀ x, GrOk x → ∀ W, Kept (fun _ => False) w W → Calls Try.prog 39 #[.agg #[.int .i64 x.src, .int .i64 x.dst, .string x.data, .int .i64 x.turn], .pointer (some ⟨pb, 0, none⟩), .pointer (some ⟨sb, 0, none⟩)] W fun e w' => e = .returned (.bool (oldG k i sent x)) ∧ Kept (fun _ => False) W w') :=
    fun x hx W hW => lose_fn pb sb hk hi hs x hx W (hb.kept hW id id)
  have Hr : Hid (RowG w g cap l) := hr
  have h63 : l.length ≤ 9223372036854775807 := Nat.le_trans hr.le hr.le63
  have hg := hr.lt
  clear hl hb hr hk hi hs
  unfold lostFn
  go_enter Try.func43, Try.ntmps43
  go_wp2
  go_loopw [5, 8] (fun _ s wr => ∃ j : Nat, j ≤ l.length ∧ s = .int .i64 (j : Int) ∧ Hid (∀ y ∈ l.take j, oldG k i sent y = false) ∧ Hid (Kept (fun _ => False) w wr)) (fun _ s _ => l.length - (intOf s).toNat)
  case atStart => exact ⟨0, Nat.zero_le _, rfl, (fun y hy => by simp at hy), Kept.refl _ _⟩
  case round =>
    obtain ⟨j, hj, rfl, HA, HK⟩ := hrel
    by_cases hlt : j < l.length
    · obtain ⟨x, hx⟩ : ∃ x, l[j]? = some x := ⟨l[j], by simp [hlt]⟩
      have hltz : (j : Int) < (l.length : Int) := by omega
      have hrow : RowG wr g cap l := Hr.out.same (HK.out.block g hg id)
      obtain ⟨x0, x1, x2, x3⟩ := hrow.cells4 hx
      have Hx := hid hx
      have Hc := hid (Hf.out x (Hl.out x (List.mem_of_getElem? hx)) wr HK.out)
      have hst : Hid (l.take (j + 1) = l.take j ++ [x]) := by
        show l.take (j + 1) = l.take j ++ [x]
        rw [List.take_add_one, hx]
        rfl
      clear hx hrow
      generalize hqq : oldG k i sent x = q at Hc
      have Hq := hid hqq
      clear hqq
      go_wp2_with fail
      refine Hc.out.mono ?_
      rintro e w2 ⟨rfl, hk2⟩
      have HK2 := hid (HK.out.trans hk2)
      clear hk2 x0 x1 x2 x3 Hc
      cases q with
      | true =>
        go_wp2
        go_ret
        exact ⟨_, rfl, Or.inr ⟨j, x, rfl, Hx.out, Hq.out, HA.out⟩, HK2.out⟩
      | false =>
        go_wp2
        refine ⟨⟨j + 1, hlt, by go_num, fun y hy => ?_, HK2.out⟩, by simp [intOf]; omega⟩
        rw [hst.out, List.mem_append] at hy
        rcases hy with hy | hy
        · exact HA.out y hy
        · rw [List.mem_singleton] at hy
          rw [hy]
          exact Hq.out
    · obtain rfl : j = l.length := by omega
      go_wp2
      go_ret
      refine ⟨_, rfl, Or.inl ⟨rfl, fun y hy => HA.out y (by rw [List.take_of_length_le (Nat.le_refl _)]; exact hy)⟩, HK.out⟩

end Go.Proofs.Ytegofkpiipomfaa
