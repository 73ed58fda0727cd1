/- The contract of Net.Twice. -/
import Derived.Test.YtegofkpiipomfaaInsert
namespace Go.Proofs.Ytegofkpiipomfaa
open Go.RowKit

section
variable {S : Nat → Prop} {w : World} {b : Nat} {s : NetSt}

/-- A copy of the datagram at j stands right behind it. -/
def twiceS (s : NetSt) (j : Nat) : NetSt := { s with grams := insG s.grams (j + 1) (getG s.grams j) }

theorem twice_full (h : NetAt S w b s) (j : Nat) (hj : j < s.grams.length) (h600 : 600 ≤ s.grams.length) :
    Calls Try.prog 12 #[.pointer (some ⟨b, 0, none⟩), .int .i64 (j : Int)] w fun e w' => e = .returned (.int .i64 10) ∧ w' = w := by
  have Hp := hid (place_good h j hj w (Kept.refl _ w))
  have Hf := hid (isFull_any h)
  rw [decide_eq_true h600] at Hf
  clear h hj h600
  go_enter Try.func12, Try.ntmps12
  go_wp2_with fail
  refine (Hp.out).mono ?_
  rintro e' w' ⟨rfl, rfl⟩
  go_wp2_with fail
  refine (Hf.out).mono ?_
  rintro e' w' ⟨rfl, rfl⟩
  go_wp2
  go_ret
  exact ⟨rfl, rfl⟩

set_option maxHeartbeats 600000 in
set_option maxRecDepth 100000 in
theorem twice_ok (h : NetAt S w b s) (j : Nat) (hj : j < s.grams.length) (h600 : s.grams.length < 600) :
    Calls Try.prog 12 #[.pointer (some ⟨b, 0, none⟩), .int .i64 (j : Int)] w fun e w' => e = .returned (.int .i64 0) ∧ Next S w w' b (twiceS s j) := by
  have Hp := hid (place_good h j hj w (Kept.refl _ w))
  have Hf := hid (isFull_any h)
  rw [decide_eq_false (by omega)] at Hf
  obtain ⟨gv, tm, cm, hN, hS⟩ := h
  rcases hN.own.cases with ⟨_, e⟩ | ⟨g, cap, rfl, _, hr⟩
  · rw [e] at hj
    cases hj
  have h63 : s.grams.length ≤ 9223372036854775807 := by omega
  have c0 := hN.c0
  have c0' := fun o => (hN.alloc o).c0
  obtain ⟨r0, r1, r2, r3⟩ := hr.cells4 (getG_at hj)
  have hk1 := fun o => (Kept.refl (fun _ => False) w).alloc o
  have q0 := fun o => ((hk1 o).cell (p := ⟨g, j * 4, none⟩) hr.lt id).trans r0
  have q1 := fun o => ((hk1 o).cell (p := ⟨g, j * 4 + 1, none⟩) hr.lt id).trans r1
  have q2 := fun o => ((hk1 o).cell (p := ⟨g, j * 4 + 2, none⟩) hr.lt id).trans r2
  have q3 := fun o => ((hk1 o).cell (p := ⟨g, j * 4 + 3, none⟩) hr.lt id).trans r3
  have hgl := hr.lt
  have hgb : b ≠ g := fun e => hN.ng (by rw [e]; rfl)
  have hlt := hN.lt (Or.inl rfl)
  obtain ⟨x, hx⟩ : ∃ x, x = getG s.grams j := ⟨_, rfl⟩
  rw [← hx] at r0 r1 r2 r3 q0 q1 q2 q3
  have fin : Hid (Calls Try.prog 34 #[.slice (some ⟨g, 0, none⟩) s.grams.length cap, .int .i64 ((j : Int) + 1), .slice (some ⟨w.heap.size, 0, none⟩) 1 1] ((w.alloc (.cells #[.int .i64 x.src, .int .i64 x.dst, .string x.data, .int .i64 x.turn] 56)).drew) fun e w' => ∃ g' c', e = .returned (.slice (some ⟨g', 0, none⟩) (s.grams.length + 1) c') ∧ w'.cell? ⟨b, 0, none⟩ = some (.slice (some ⟨g, 0, none⟩) s.grams.length cap) ∧ w'.frozen? ⟨b, 0, none⟩ = false ∧ (w'.cell? ⟨g, j * 4, none⟩ = some (.int .i64 x.src) ∧ w'.cell? ⟨g, j * 4 + 1, none⟩ = some (.int .i64 x.dst) ∧ w'.cell? ⟨g, j * 4 + 2, none⟩ = some (.string x.data) ∧ w'.cell? ⟨g, j * 4 + 3, none⟩ = some (.int .i64 x.turn)) ∧ Next S w (w'.setCell ⟨b, 0, none⟩ (.slice (some ⟨g', 0, none⟩) (s.grams.length + 1) c')) b (twiceS s j)) := by
    show Calls _ _ _ _ _
    have hI := insert_any g cap w.heap.size (j + 1) s.grams x h600 hj (by omega) ((w.alloc (.cells #[.int .i64 x.src, .int .i64 x.dst, .string x.data, .int .i64 x.turn] 56)).drew) (hr.same ((hk1 _).block g hgl id)) (heap_alloc_new w _)
    rw [show (((j + 1 : Nat) : Int)) = (j : Int) + 1 by omega] at hI
    refine hI.mono ?_
    rintro e w' ⟨g', cap', rfl, hr', hg', hk', hlo⟩
    have hk0 := (hk1 (.cells #[.int .i64 x.src, .int .i64 x.dst, .string x.data, .int .i64 x.turn] 56)).drew
    have hszw : ((w.alloc (.cells #[.int .i64 x.src, .int .i64 x.dst, .string x.data, .int .i64 x.turn] 56)).drew).heap.size = w.heap.size + 1 := World.size_alloc ..
    have hN0 := hN.kept0 hk0
    refine ⟨_, _, rfl, (hk'.cell (p := ⟨b, 0, none⟩) (by rw [hszw]; show b < _; omega) hgb).trans hN0.c0, (hk'.frozen (p := ⟨b, 0, none⟩) (by rw [hszw]; show b < _; omega) hgb).trans (hN0.f 0), ⟨(hlo _ (by omega)).trans (q0 _), (hlo _ (by omega)).trans (q1 _), (hlo _ (by omega)).trans (q2 _), (hlo _ (by omega)).trans (q3 _)⟩, ?_⟩
    have hlen : s.grams.length + 1 = (insG s.grams (j + 1) x).length := (insG_length _ _ _ hj).symm
    have hR := hN0.rerow (gv' := .slice (some ⟨g', 0, none⟩) (s.grams.length + 1) cap') (l := insG s.grams (j + 1) x) (hk'.mono (fun i _ e => by rw [e]; rfl)) (by rw [hlen]; exact hr'.own (Nat.zero_le _)) (fun i hi => by
      cases hi
      rcases hg' with h | h
      · exact Or.inl (by rw [h]; rfl)
      · exact Or.inr h)
    rw [hx] at hR
    refine ⟨_, ⟨_, _, _, hR, fun _ => Iff.rfl⟩, fun i hi => ?_, (((hk0.mono (fun _ _ h => h.elim)).andThen hk' (fun i _ e => (hS i).2 (Or.inr (Or.inl (by rw [e]; rfl))))).setCell (p := ⟨b, 0, none⟩) (Or.inr ((hS b).2 (Or.inl rfl))) _)⟩
    rcases hi with hi | hi | hi | hi
    · exact Or.inl ((hS i).2 (Or.inl hi))
    · cases hi
      rcases hg' with h | h
      · exact Or.inl ((hS _).2 (Or.inr (Or.inl (by show some g = some g'; rw [h]))))
      · exact Or.inr (by rw [hszw] at h; show w.heap.size ≤ g'; omega)
    · exact Or.inl ((hS i).2 (Or.inr (Or.inr (Or.inl hi))))
    · exact Or.inl ((hS i).2 (Or.inr (Or.inr (Or.inr hi))))
  clear hr hN hS hk1 hx hgb
  have hjz : (j : Int) < (s.grams.length : Int) := by omega
  have hw1 : IntKind.i64.wrap ((j : Int) + 1) = (j : Int) + 1 := by rw [IntKind.wrap_i64]; omega
  go_enter Try.func12, Try.ntmps12
  go_wp2_with fail
  refine (Hp.out).mono ?_
  rintro e' w' ⟨rfl, rfl⟩
  go_wp2_with fail
  refine (Hf.out).mono ?_
  rintro e' w' ⟨rfl, rfl⟩
  go_wp2
  go_region_with (go_at_call 34; refine fin.out.mono ?_; rintro e w2 ⟨g', c', rfl, d0, f0, ⟨y0, y1, y2, y3⟩, hn2⟩; have Hn2 := hid hn2; clear hn2)
  all_goals go_wp2
  all_goals go_ret
  all_goals exact ⟨rfl, Hn2.out⟩

end
end Go.Proofs.Ytegofkpiipomfaa
