/- A tape in memory, and the contracts of Tape.behind and Next. -/
import Derived.Test.YtklapjfljffahaaGreatTpNum
import Derived.Test.YtklapjfljffahaaGreatKept
import Derived.Lib.SmallJoins
namespace Go.Proofs.YtklapjfljffahaaGreat.Tp
open Go.RowKit

theorem hid {p : Prop} (h : p) : Hid p := h

/-- A tape at block b: its numbers, and how many asks there were behind the last. -/
structure IsTape (w : World) (b : Nat) (p : Option Addr) (cap : Nat) (rest : List Int) (asked : Nat) : Prop where
  c0 : w.cell? ⟨b, 0, none⟩ = some (.slice p rest.length cap)
  c1 : w.cell? ⟨b, 1, none⟩ = some (.int .i64 (asked : Int))
  f : ∀ i, w.frozen? ⟨b, i, none⟩ = false
  le : rest.length ≤ cap
  row : rest ≠ [] → ∃ g o, p = some ⟨g, o, none⟩ ∧ g ≠ b ∧ ∀ j v, rest[j]? = some v → w.cell? ⟨g, o + j, none⟩ = some (.int .i64 v)
  blk : ∃ cur, w.heap[b]? = some (.cells cur 79 (0, 0))

/-- The block of a tape's numbers. -/
def onTape (p : Option Addr) (rest : List Int) (i : Nat) : Prop := rest ≠ [] ∧ ∃ a, p = some a ∧ a.block = i

theorem IsTape.lt {w : World} {b : Nat} {p : Option Addr} {cap : Nat} {rest : List Int} {asked : Nat} (h : IsTape w b p cap rest asked) : b < w.heap.size := lt_of_cell h.c0

theorem IsTape.rows {w : World} {b : Nat} {p : Option Addr} {cap : Nat} {rest : List Int} {asked : Nat} (h : IsTape w b p cap rest asked) : ∀ i, onTape p rest i → i < w.heap.size := fun i hi => by
  obtain ⟨hne, a, e, rfl⟩ := hi
  obtain ⟨g, o, e2, _, hr⟩ := h.row hne
  rw [e] at e2
  cases e2
  match rest, hne with
  | v :: _, _ => exact lt_of_cell (hr 0 v rfl)

theorem IsTape.kept {S : Nat → Prop} {w w' : World} {b : Nat} {p : Option Addr} {cap : Nat} {rest : List Int} {asked : Nat} (h : IsTape w b p cap rest asked) (hk : Kept S w w') (hb : ¬ S b) (hp : ∀ i, onTape p rest i → ¬ S i) : IsTape w' b p cap rest asked :=
  ⟨(hk.cell (p := ⟨b, 0, none⟩) h.lt hb).trans h.c0, (hk.cell (p := ⟨b, 1, none⟩) h.lt hb).trans h.c1, fun i => (hk.frozen (p := ⟨b, i, none⟩) h.lt hb).trans (h.f i), h.le, fun hne => by
    obtain ⟨g, o, e, hg, hr⟩ := h.row hne
    exact ⟨g, o, e, hg, fun j v hj => (hk.cell (p := ⟨g, o + j, none⟩) (lt_of_cell (hr j v hj)) (hp g ⟨hne, _, e, rfl⟩)).trans (hr j v hj)⟩, by obtain ⟨cur, hc⟩ := h.blk; exact ⟨cur, (hk.block b h.lt hb).trans hc⟩⟩

set_option maxHeartbeats 1000000 in
set_option maxRecDepth 100000 in
theorem behind_any (b : Nat) (p : Option Addr) (cap : Nat) (asked n : Nat) (hn : 1 ≤ n) (hn2 : n ≤ 9223372036854775807) (ha : asked ≤ 1000000) (w : World) (h : IsTape w b p cap [] asked) :
    Calls Tryz.prog 127 #[.pointer (some ⟨b, 0, none⟩), .int .i64 (n : Int)] w fun e w' => e = .returned (.int .i64 (7 * ((asked + 1 : Nat) : Int) % (n : Int))) ∧ IsTape w' b p cap [] (asked + 1) ∧ Kept (fun i => i = b) w w' := by
  have c1 := h.c1
  have f1 := h.f 1
  have fin : ∀ q, IsTape ((w.setCell ⟨b, 1, none⟩ (.int .i64 ((asked : Int) + 1))).drewN q) b p cap [] (asked + 1) ∧ Kept (fun i => i = b) w ((w.setCell ⟨b, 1, none⟩ (.int .i64 ((asked : Int) + 1))).drewN q) := fun q =>
    ⟨⟨(World.cell?_setCell_other _ _ _ _ (by simp)).trans h.c0, World.cell?_setCell_same _ _ _ h.c1, fun i => (World.frozen?_setCell _ _ _ _).trans (h.f i), h.le, fun hne => absurd rfl hne, by obtain ⟨cur, hc⟩ := h.blk; exact ⟨_, Joins.block_setCell hc _⟩⟩, ((Kept.refl (fun i => i = b) w).setCell (p := ⟨b, 1, none⟩) (Or.inr rfl) _).drewN q⟩
  have hm := fun W => mul7 (asked + 1) (by omega) W
  have hr := fun W => rem_low (7 * (asked + 1)) n hn (by omega) hn2 W
  simp only [Int.natCast_add, Int.natCast_mul, Int.cast_ofNat_Int] at hm hr
  have Hm : Hid (∀ W, Calls Tryz.prog 129 #[.int .u64 7, .int .u64 ((asked : Int) + 1)] W fun e w' => e = .returned (.tuple #[.int .u64 0, .int .u64 (7 * ((asked : Int) + 1))]) ∧ w' = W) := hm
  have Hr : Hid (∀ W, Calls Tryz.prog 130 #[.int .u64 0, .int .u64 (7 * ((asked : Int) + 1)), .int .u64 (n : Int)] W fun e w' => e = .returned (.int .u64 (7 * ((asked : Int) + 1) % (n : Int))) ∧ ∃ q, w' = W.drewN q) := hr
  have Hfin : Hid (∀ q, IsTape ((w.setCell ⟨b, 1, none⟩ (.int .i64 ((asked : Int) + 1))).drewN q) b p cap [] (asked + 1) ∧ Kept (fun i => i = b) w ((w.setCell ⟨b, 1, none⟩ (.int .i64 ((asked : Int) + 1))).drewN q)) := fin
  have hb : 7 * ((asked : Int) + 1) % (n : Int) < (n : Int) := Int.emod_lt_of_pos _ (by omega)
  have hb0 : 0 ≤ 7 * ((asked : Int) + 1) % (n : Int) := Int.emod_nonneg _ (by omega)
  rw [show ((asked + 1 : Nat) : Int) = (asked : Int) + 1 from rfl]
  generalize 7 * ((asked : Int) + 1) % (n : Int) = r at *
  generalize hy : 7 * ((asked : Int) + 1) = y at *
  clear hm h hr fin hy
  go_enter Tryz.func127, Tryz.ntmps127
  go_wp2_with (first
    | (go_at_call 129; refine (Hm.out _).mono ?_; rintro e w' ⟨rfl, rfl⟩)
    | (go_at_call 130; refine (Hr.out _).mono ?_; rintro e w' ⟨rfl, q, rfl⟩))
  go_ret
  exact ⟨rfl, Hfin q⟩

/-- What a draw of below n gives: of the next number, or of the count of asks. -/
def drawn (rest : List Int) (asked : Nat) (n : Int) : Int := match rest with | [] => 7 * ((asked + 1 : Nat) : Int) % n | v :: _ => v % n
def askedOn (rest : List Int) (asked : Nat) : Nat := match rest with | [] => asked + 1 | _ => asked

theorem next_nil (n : Int) (w : World) : Calls Tryz.prog 116 #[.pointer none, .int .i64 n] w fun e w' => e = .returned (.int .i64 0) ∧ w' = w := by
  go_enter Tryz.func116, Tryz.ntmps116
  go_wp2
  all_goals go_ret
  all_goals exact ⟨rfl, rfl⟩

theorem next_low (b : Nat) (n : Int) (hn : n < 1) (w : World) : Calls Tryz.prog 116 #[.pointer (some ⟨b, 0, none⟩), .int .i64 n] w fun e w' => e = .returned (.int .i64 0) ∧ w' = w := by
  go_enter Tryz.func116, Tryz.ntmps116
  go_wp2
  go_ret
  exact ⟨rfl, rfl⟩

set_option maxHeartbeats 1000000 in
set_option maxRecDepth 100000 in
theorem next_behind (b : Nat) (p : Option Addr) (cap : Nat) (asked n : Nat) (hn : 1 ≤ n) (hn2 : n ≤ 9223372036854775807) (ha : asked ≤ 1000000) (w : World) (h : IsTape w b p cap [] asked) :
    Calls Tryz.prog 116 #[.pointer (some ⟨b, 0, none⟩), .int .i64 (n : Int)] w fun e w' => e = .returned (.int .i64 (7 * ((asked + 1 : Nat) : Int) % (n : Int))) ∧ IsTape w' b p cap [] (asked + 1) ∧ Kept (fun i => i = b) w w' := by
  have c0 : w.cell? ⟨b, 0, none⟩ = some (.slice p 0 cap) := h.c0
  have hb := behind_any b p cap asked n hn hn2 ha w h
  generalize 7 * ((asked + 1 : Nat) : Int) % (n : Int) = r at *
  have Hb : Hid (Calls Tryz.prog 127 #[.pointer (some ⟨b, 0, none⟩), .int .i64 (n : Int)] w fun e w' => e = .returned (.int .i64 r) ∧ IsTape w' b p cap [] (asked + 1) ∧ Kept (fun i => i = b) w w') := hb
  clear hb h
  go_enter Tryz.func116, Tryz.ntmps116
  go_wp2_with (go_at_call 127; refine Hb.out.mono ?_; rintro e w' ⟨rfl, h1, h2⟩)
  go_ret
  exact ⟨rfl, h1, h2⟩

set_option maxHeartbeats 1000000 in
set_option maxRecDepth 100000 in
theorem next_more (b : Nat) (p : Option Addr) (cap : Nat) (v : Int) (r : List Int) (asked n : Nat) (hn : 1 ≤ n) (hn2 : n ≤ 9223372036854775807) (w : World) (h : IsTape w b p cap (v :: r) asked) :
    Calls Tryz.prog 116 #[.pointer (some ⟨b, 0, none⟩), .int .i64 (n : Int)] w fun e w' => e = .returned (.int .i64 (v % (n : Int))) ∧ (∃ p' cap', IsTape w' b p' cap' r asked ∧ ∀ i, onTape p' r i → onTape p (v :: r) i) ∧ Kept (fun i => i = b) w w' := by
  obtain ⟨g, o, rfl, hg, hr⟩ := h.row (by simp)
  have c0 : w.cell? ⟨b, 0, none⟩ = some (.slice (some ⟨g, o, none⟩) (r.length + 1) cap) := h.c0
  have q0 : w.cell? ⟨g, o, none⟩ = some (.int .i64 v) := hr 0 v rfl
  have f0 := h.f 0
  have hle : r.length + 1 ≤ cap := h.le
  have fin : ∀ p' cap', r.length ≤ cap' → (r ≠ [] → p' = some ⟨g, o + 1, none⟩) → IsTape (w.setCell ⟨b, 0, none⟩ (.slice p' r.length cap')) b p' cap' r asked ∧ Kept (fun i => i = b) w (w.setCell ⟨b, 0, none⟩ (.slice p' r.length cap')) := fun p' cap' h1 h2 =>
    ⟨⟨World.cell?_setCell_same _ _ _ h.c0, (World.cell?_setCell_other _ _ _ _ (by simp)).trans h.c1, fun i => (World.frozen?_setCell _ _ _ _).trans (h.f i), h1, fun hne => ⟨g, o + 1, h2 hne, hg, fun j u hj => by
      rw [World.cell?_setCell_other _ _ _ _ (by simp), Nat.add_assoc, Nat.add_comm 1 j]
      exact hr (j + 1) u (by simpa using hj)⟩, by obtain ⟨cur, hc⟩ := h.blk; exact ⟨_, Joins.block_setCell hc _⟩⟩, (Kept.refl (fun i => i = b) w).setCell (p := ⟨b, 0, none⟩) (Or.inr rfl) _⟩
  have hon : ∀ p' : Option Addr, p' = some ⟨g, o, none⟩ ∨ p' = some ⟨g, o + 1, none⟩ → ∀ i, onTape p' r i → onTape (some ⟨g, o, none⟩) (v :: r) i := fun p' hp i hi => by
    obtain ⟨_, a, e, rfl⟩ := hi
    rcases hp with rfl | rfl <;> cases e <;> exact ⟨by simp, _, rfl, rfl⟩
  have Hfin := hid fin
  have Hon := hid hon
  clear h fin hr hon
  go_enter Tryz.func116, Tryz.ntmps116
  go_wp2_with (go_at_call 128; refine (modulo_any v (n : Int) (by omega) (by omega) _).mono ?_; rintro e w' ⟨rfl, rfl⟩)
  all_goals go_ret
  · have hz : r.length = 0 := by omega
    have hf := Hfin.out (some ⟨g, o, none⟩) 0 (by omega) (fun hne => absurd (List.eq_nil_of_length_eq_zero hz) hne)
    exact ⟨rfl, ⟨_, ⟨_, hf.1⟩, Hon.out _ (Or.inl rfl)⟩, hf.2⟩
  · have hf := Hfin.out (some ⟨g, o + 1, none⟩) (cap - 1) (by omega) (fun _ => rfl)
    exact ⟨rfl, ⟨_, ⟨_, hf.1⟩, Hon.out _ (Or.inr rfl)⟩, hf.2⟩

/-- 'Next(n)' at a tape that is one. -/
theorem next_any (b : Nat) (p : Option Addr) (cap : Nat) (rest : List Int) (asked n : Nat) (hn : 1 ≤ n) (hn2 : n ≤ 9223372036854775807) (ha : asked ≤ 1000000) (w : World) (h : IsTape w b p cap rest asked) :
    Calls Tryz.prog 116 #[.pointer (some ⟨b, 0, none⟩), .int .i64 (n : Int)] w fun e w' => e = .returned (.int .i64 (drawn rest asked (n : Int))) ∧ (∃ p' cap', IsTape w' b p' cap' rest.tail (askedOn rest asked) ∧ ∀ i, onTape p' rest.tail i → onTape p rest i) ∧ Kept (fun i => i = b) w w' := by
  cases rest with
  | nil => exact (next_behind b p cap asked n hn hn2 ha w h).mono fun e w' ⟨he, h1, h2⟩ => ⟨he, ⟨p, cap, h1, fun _ hi => absurd rfl hi.1⟩, h2⟩
  | cons v r => exact next_more b p cap v r asked n hn hn2 w h
end Go.Proofs.YtklapjfljffahaaGreat.Tp
