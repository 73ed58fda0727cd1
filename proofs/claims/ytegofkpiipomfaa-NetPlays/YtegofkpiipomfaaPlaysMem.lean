/- The law NetPlays, its parts in memory: both nets new; boxes beside them; what both tell. -/
import Derived.Test.YtegofkpiipomfaaPlaysKit
import Derived.Test.YtegofkpiipomfaaPlaysArgs
namespace Go.Proofs.Ytegofkpiipomfaa
open Go.RowKit

theorem ref_new (w : World) : RefAt (fun q => q = w.heap.size) (w.alloc (.cells #[.slice none 0 0, .slice none 0 0] 30)) w.heap.size ⟨[], []⟩ := by
  refine ⟨.slice none 0 0, .slice none 0 0, ⟨by simp, by simp, fun i => (by rw [World.frozen?, heap_alloc_new]; simp), OwnR.nil _ _, World.ownsRow_nil _ _ _ _, by simp [Value.ownBlock], by simp [Value.ownBlock], fun i h => by simp [Value.ownBlock] at h⟩, fun i => ?_⟩
  simp [ofRef, Value.ownBlock]

theorem full_new (w : World) : Full (fun q => q < w.heap.size) w.heap.size (w.heap.size + 1) 0 ((w.alloc (.cells #[.slice none 0 0, .map none, .map none] 35)).alloc (.cells #[.slice none 0 0, .slice none 0 0] 30)) := by
  have h := ref_new (w.alloc (.cells #[.slice none 0 0, .map none, .map none] 35))
  have e : (w.alloc (.cells #[.slice none 0 0, .map none, .map none] 35)).heap.size = w.heap.size + 1 := World.size_alloc ..
  rw [e] at h
  refine ⟨s0, ⟨[], []⟩, ⟨_, _, (new_at w).alloc _, h, fun q h1 h2 => by omega, fun q h1 h2 => by omega, fun q h1 h2 => by omega, fun q hq => ?_⟩, sy0⟩
  have e2 : ((w.alloc (.cells #[.slice none 0 0, .map none, .map none] 35)).alloc (.cells #[.slice none 0 0, .slice none 0 0] 30)).heap.size = (w.alloc (.cells #[.slice none 0 0, .map none, .map none] 35)).heap.size + 1 := World.size_alloc ..
  omega

/-- The program's net is put aside for a zero one. -/
theorem full_zero (w W : World) (r : Nat) (hr : RefAt (fun q => q = r) W r ⟨[], []⟩) (h1 : w.heap.size ≤ r) (h2 : w.heap.size ≤ W.heap.size) : Full (fun q => q < w.heap.size) W.heap.size r 0 (W.alloc (.cells #[.slice none 0 0, .map none, .map none] 35)) := by
  have hl := hr.lt (i := r) rfl
  have e : (W.alloc (.cells #[.slice none 0 0, .map none, .map none] 35)).heap.size = W.heap.size + 1 := World.size_alloc ..
  exact ⟨s0, ⟨[], []⟩, ⟨_, _, new_at W, hr.alloc _, fun q h1 h2 => by omega, fun q h1 h2 => by omega, fun q h1 h2 => by omega, fun q hq => by omega⟩, sy0⟩

section
variable {P : Nat → Prop} {b r n : Nat} {s : NetSt} {t : RefSt} {W W' : World}

theorem peek_both (hs : Sy s t n) (i : Int) : ∃ (x : Gr) (y : Int), (∀ P b r W, Mem P b r s t W → Calls Try.prog 18 #[.pointer (some ⟨b, 0, none⟩), .int .i64 i] W fun e w' => e = .returned (ansV x y) ∧ Kept (fun q => ¬ P q) W w' ∧ Mem P b r s t w') ∧
    (∀ P b r W, Mem P b r s t W → Calls Try.prog 19 #[.pointer (some ⟨r, 0, none⟩), .int .i64 i] W fun e w' => e = .returned (ansV x y) ∧ Kept (fun q => ¬ P q) W w' ∧ Mem P b r s t w') := by
  by_cases hi : 0 ≤ i ∧ i < (s.grams.length : Int)
  · obtain ⟨j, rfl⟩ : ∃ j : Nat, i = (j : Int) := ⟨i.toNat, by omega⟩
    have hj : j < s.grams.length := by omega
    refine ⟨getG s.grams j, 0, fun P b r W hm => hm.net0 (fun S hA => peek_ok hA j hj), fun P b r W hm => ?_⟩
    refine (hm.ref0 (X := fun t' => t' = t) rfl (fun T hT => refPeek_ok hT j (by rw [hs.gr]; exact hj))).mono ?_
    rintro e w' ⟨rfl, hk, t', h1, rfl⟩
    exact ⟨by rw [hs.gr], hk, h1⟩
  · refine ⟨g0, 3, fun P b r W hm => hm.net0 (fun S hA => peek_no _ i 3 (by decide) (place_bad hA i (by omega))), fun P b r W hm => ?_⟩
    refine (hm.ref0 (X := fun t' => t' = t) rfl (fun T hT => refPeek_no hT i (by rw [hs.gr]; omega))).mono ?_
    rintro e w' ⟨rfl, hk, t', h1, rfl⟩
    exact ⟨rfl, hk, h1⟩

theorem Mem.counts (hm : Mem P b r s t W) (hs : Sy s t n) (hn : n ≤ 100000) (k i : Int) : Calls Try.prog 20 #[.pointer (some ⟨r, 0, none⟩), .int .i64 k, .int .i64 i] W fun e w' => e = .returned (.tuple #[.int .i64 (sentS s k i), .int .i64 (lostS s k i)]) ∧ Kept (fun q => ¬ P q) W w' ∧ ∃ t', Mem P b r s t' w' ∧ Sy s t' (n + 1) := by
  have h1 := hs.wl
  refine hm.ref (fun T hT => (refCounts_any hT hs.wu k i (by omega)).mono ?_)
  rintro e w' ⟨rfl, ways', hR, hP⟩
  exact ⟨by rw [hs.wy], _, hR, hs.put hP⟩

theorem Mem.len1 (hm : Mem P b r s t W) : Calls Try.prog 21 #[.pointer (some ⟨b, 0, none⟩)] W fun e w' => e = .returned (.int .i64 (s.grams.length : Int)) ∧ w' = W := by
  obtain ⟨S, T, h1, _⟩ := hm
  exact len_any h1
theorem Mem.len2 (hm : Mem P b r s t W) (hs : Sy s t n) : Calls Try.prog 22 #[.pointer (some ⟨r, 0, none⟩)] W fun e w' => e = .returned (.int .i64 (s.grams.length : Int)) ∧ w' = W := by
  obtain ⟨S, T, _, h2, _⟩ := hm
  have := refLen_any h2
  rw [hs.gr] at this
  exact this
theorem Mem.sent (hm : Mem P b r s t W) {k i : Int} (hk : In64 k) (hi : In64 i) : Calls Try.prog 23 #[.pointer (some ⟨b, 0, none⟩), .agg #[.int .i64 k, .int .i64 i]] W fun e w' => e = .returned (.int .i64 (sentS s k i)) ∧ Kept (fun _ => False) W w' := by
  obtain ⟨S, T, h1, _⟩ := hm
  exact sent_any h1 hk hi
theorem Mem.lost (hm : Mem P b r s t W) {k i : Int} (hk : In64 k) (hi : In64 i) : Calls Try.prog 24 #[.pointer (some ⟨b, 0, none⟩), .agg #[.int .i64 k, .int .i64 i]] W fun e w' => e = .returned (.int .i64 (lostS s k i)) ∧ Kept (fun _ => False) W w' := by
  obtain ⟨S, T, h1, _⟩ := hm
  exact lost_any h1 hk hi
end

/-- A box's block lies there still. -/
theorem box_still {P : Nat → Prop} {W W' : World} {o : Obj} (hk : Kept (fun q => ¬ P q) (W.alloc o) W') (hP : P W.heap.size) : W'.heap[W.heap.size]? = some o :=
  (hk.block W.heap.size (by rw [World.size_alloc]; omega) (fun h => h hP)).trans (heap_alloc_new W o)

theorem and_small4 (x : Int) (m : Nat) (hm : m < 9223372036854775808) : ∃ k : Nat, k ≤ m ∧ bits .and .i64 x (m : Int) = (k : Int) := by
  have h1 : (BitVec.ofInt 64 x).toNat &&& m ≤ m := Nat.and_le_right
  refine ⟨(BitVec.ofInt 64 x).toNat &&& m, h1, ?_⟩
  have e : (BitVec.ofInt 64 (m : Int)).toNat = m := by
    rw [BitVec.toNat_ofInt]
    omega
  show IntKind.i64.wrap ((BitVec.ofInt 64 x &&& BitVec.ofInt 64 (m : Int)).toNat : Int) = _
  rw [BitVec.toNat_and, e, IntKind.wrap_i64]
  omega
end Go.Proofs.Ytegofkpiipomfaa
