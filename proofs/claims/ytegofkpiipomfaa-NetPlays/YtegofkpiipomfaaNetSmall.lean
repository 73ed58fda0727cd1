/- The contracts of a net's small calls: pair, upTo, isFull, place, Len, Peek, Sent, Lost, isCut. -/
import Derived.Test.YtegofkpiipomfaaNetMem
namespace Go.Proofs.Ytegofkpiipomfaa
open Go.RowKit

theorem field0 (a c : Int) (w : World) : Sem.run Try.prog (Instr.field 62 (.agg #[.int .i64 a, .int .i64 c]) 0) w = .ok (.int .i64 a) w := by kernel_rfl
theorem field1 (a c : Int) (w : World) : Sem.run Try.prog (Instr.field 62 (.agg #[.int .i64 a, .int .i64 c]) 1) w = .ok (.int .i64 c) w := by kernel_rfl

def dgV (x : Gr) : Value := .agg #[.int .i64 x.src, .int .i64 x.dst, .string x.data]
def dg0 : Value := .agg #[.int .i64 0, .int .i64 0, .string ⟨#[]⟩]

theorem pair_any (x : Gr) (w : World) : Calls Try.prog 25 #[grV x] w fun e w' => e = .returned (keyV x.src x.dst) ∧ Kept (fun _ => False) w w' := by
  unfold grV keyV
  go_enter Try.func25, Try.ntmps25
  go_wp2
  (try simp only [Exit.inBlock, Exit.then])
  refine bodyPost_ret (v := .agg #[.int .i64 x.src, .int .i64 x.dst]) (by simp [results, Try.results25, go_sem]) rfl ⟨rfl, ?_⟩
  exact (((Kept.refl _ w).alloc _).alloc _)

def upToI (n m : Int) : Int := if m ≤ 9223372036854775807 - n then n + m else 9223372036854775807

theorem upTo_any (n m : Int) (h0 : 0 ≤ n) (h1 : n ≤ 9223372036854775807) (h2 : 0 ≤ m) (h3 : m ≤ 9223372036854775807) (w : World) : Calls Try.prog 37 #[.int .i64 n, .int .i64 m] w fun e w' => e = .returned (.int .i64 (upToI n m)) ∧ w' = w := by
  by_cases h : m ≤ 9223372036854775807 - n
  · have e : upToI n m = n + m := if_pos h
    rw [e]
    go_enter Try.func37, Try.ntmps37
    go_wp2
    go_ret
    exact ⟨rfl, rfl⟩
  · have e : upToI n m = n + (9223372036854775807 - n) := by rw [upToI, if_neg h]; omega
    rw [e]
    go_enter Try.func37, Try.ntmps37
    go_wp2
    go_ret
    exact ⟨rfl, rfl⟩

section
variable {S : Nat → Prop} {w : World} {b : Nat} {s : NetSt}

theorem isFull_any (h : NetAt S w b s) : Calls Try.prog 29 #[.pointer (some ⟨b, 0, none⟩)] w fun e w' => e = .returned (.bool (decide (600 ≤ s.grams.length))) ∧ w' = w := by
  obtain ⟨gv, tm, cm, h1, _⟩ := h
  obtain ⟨p, c, rfl⟩ : ∃ p c, gv = .slice p s.grams.length c := by
    rcases h1.own.cases with ⟨rfl, e⟩ | ⟨g, cap, rfl, _⟩
    · exact ⟨none, 0, by rw [e]; rfl⟩
    · exact ⟨_, _, rfl⟩
  have c0 := h1.c0
  clear h1
  generalize s.grams.length = n at *
  by_cases hn : 600 ≤ n
  · rw [decide_eq_true hn]
    go_enter Try.func29, Try.ntmps29
    go_wp2
    go_ret
    exact ⟨by first | rfl | (simp; omega), rfl⟩
  · rw [decide_eq_false hn]
    go_enter Try.func29, Try.ntmps29
    go_wp2
    go_ret
    exact ⟨by first | rfl | (simp; omega), rfl⟩

theorem slice_of_net {gv : Value} {tm cm : Option Nat} (h1 : NetIn w b gv tm cm s) : ∃ p c, gv = .slice p s.grams.length c := by
  rcases h1.own.cases with ⟨rfl, e⟩ | ⟨g, cap, rfl, _⟩
  · exact ⟨none, 0, by rw [e]; rfl⟩
  · exact ⟨_, _, rfl⟩

/-- What place answers. -/
def placeI (n : Nat) (i : Int) : Int := if i < 0 ∨ (n : Int) ≤ i then 3 else 0

theorem place_nil (i : Int) (w : World) : Calls Try.prog 31 #[.pointer none, .int .i64 i] w fun e w' => e = .returned (.int .i64 1) ∧ w' = w := by
  go_enter Try.func31, Try.ntmps31
  go_wp2
  go_ret
  exact ⟨rfl, rfl⟩

theorem place_any (h : NetAt S w b s) (i : Int) : Calls Try.prog 31 #[.pointer (some ⟨b, 0, none⟩), .int .i64 i] w fun e w' => e = .returned (.int .i64 (placeI s.grams.length i)) ∧ w' = w := by
  obtain ⟨gv, tm, cm, h1, _⟩ := h
  obtain ⟨p, c, rfl⟩ := slice_of_net h1
  have c0 := h1.c0
  clear h1
  generalize s.grams.length = n at *
  by_cases h1 : i < 0
  · have e : placeI n i = 3 := if_pos (Or.inl h1)
    rw [e]
    go_enter Try.func31, Try.ntmps31
    go_wp2
    go_ret
    exact ⟨rfl, rfl⟩
  · by_cases h2 : (n : Int) ≤ i
    · have e : placeI n i = 3 := if_pos (Or.inr h2)
      rw [e]
      go_enter Try.func31, Try.ntmps31
      go_wp2
      go_ret
      exact ⟨rfl, rfl⟩
    · have e : placeI n i = 0 := if_neg (by omega)
      rw [e]
      go_enter Try.func31, Try.ntmps31
      go_wp2
      go_ret
      exact ⟨rfl, rfl⟩

theorem len_any (h : NetAt S w b s) : Calls Try.prog 21 #[.pointer (some ⟨b, 0, none⟩)] w fun e w' => e = .returned (.int .i64 (s.grams.length : Int)) ∧ w' = w := by
  obtain ⟨gv, tm, cm, h1, _⟩ := h
  obtain ⟨p, c, rfl⟩ := slice_of_net h1
  have c0 := h1.c0
  clear h1
  generalize s.grams.length = n at *
  go_enter Try.func21, Try.ntmps21
  go_wp2
  go_ret
  exact ⟨rfl, rfl⟩

theorem len_nil (w : World) : Calls Try.prog 21 #[.pointer none] w fun e w' => e = .returned (.int .i64 0) ∧ w' = w := by
  go_enter Try.func21, Try.ntmps21
  go_wp2
  go_ret
  exact ⟨rfl, rfl⟩

/-- What is counted of a pair. -/
def sentS (s : NetSt) (k i : Int) : Int := sentOf (findT s.tals k i)
def lostS (s : NetSt) (k i : Int) : Int := lostOf (findT s.tals k i)

theorem sent_any (h : NetAt S w b s) {k i : Int} (hk : In64 k) (hi : In64 i) : Calls Try.prog 23 #[.pointer (some ⟨b, 0, none⟩), keyV k i] w fun e w' => e = .returned (.int .i64 (sentS s k i)) ∧ Kept (fun _ => False) w w' := by
  obtain ⟨gv, tm, cm, h1, _⟩ := h
  have c1 := fun o => (h1.alloc o).c1
  have hl : ∀ o, Sem.run Try.prog (Instr.lookup 32 (.map tm) (.agg #[.int .i64 k, .int .i64 i]) false) (w.alloc o) = _ := fun o => (h1.alloc o).ts.look false hk hi
  have hl' : ∀ o, Sem.run Try.prog (Instr.lookup 32 (.map tm) (.agg #[.int .i64 k, .int .i64 i]) false) (w.alloc o).drew = _ := fun o => (h1.alloc o).drew.ts.look false hk hi
  simp only [Bool.false_eq_true, if_false] at hl hl'
  clear h1
  unfold keyV sentS
  generalize sentOf (findT s.tals k i) = q at *
  generalize lostOf (findT s.tals k i) = q' at *
  have hf := field0 q q'
  go_enter Try.func23, Try.ntmps23
  go_wp2
  go_region
  all_goals go_wp2
  all_goals go_ret
  all_goals exact ⟨rfl, ((Kept.refl _ w).alloc _).drew⟩

theorem lost_any (h : NetAt S w b s) {k i : Int} (hk : In64 k) (hi : In64 i) : Calls Try.prog 24 #[.pointer (some ⟨b, 0, none⟩), keyV k i] w fun e w' => e = .returned (.int .i64 (lostS s k i)) ∧ Kept (fun _ => False) w w' := by
  obtain ⟨gv, tm, cm, h1, _⟩ := h
  have c1 := fun o => (h1.alloc o).c1
  have hl : ∀ o, Sem.run Try.prog (Instr.lookup 32 (.map tm) (.agg #[.int .i64 k, .int .i64 i]) false) (w.alloc o) = _ := fun o => (h1.alloc o).ts.look false hk hi
  have hl' : ∀ o, Sem.run Try.prog (Instr.lookup 32 (.map tm) (.agg #[.int .i64 k, .int .i64 i]) false) (w.alloc o).drew = _ := fun o => (h1.alloc o).drew.ts.look false hk hi
  simp only [Bool.false_eq_true, if_false] at hl hl'
  clear h1
  unfold keyV lostS
  generalize sentOf (findT s.tals k i) = q at *
  generalize lostOf (findT s.tals k i) = q' at *
  have hf := field1 q q'
  go_enter Try.func24, Try.ntmps24
  go_wp2
  go_region
  all_goals go_wp2
  all_goals go_ret
  all_goals exact ⟨rfl, ((Kept.refl _ w).alloc _).drew⟩

theorem sent_nil (k i : Int) (w : World) : Calls Try.prog 23 #[.pointer none, keyV k i] w fun e w' => e = .returned (.int .i64 0) ∧ Kept (fun _ => False) w w' := by
  unfold keyV
  go_enter Try.func23, Try.ntmps23
  go_wp2
  go_ret
  exact ⟨rfl, (Kept.refl _ w).alloc _⟩
theorem lost_nil (k i : Int) (w : World) : Calls Try.prog 24 #[.pointer none, keyV k i] w fun e w' => e = .returned (.int .i64 0) ∧ Kept (fun _ => False) w w' := by
  unfold keyV
  go_enter Try.func24, Try.ntmps24
  go_wp2
  go_ret
  exact ⟨rfl, (Kept.refl _ w).alloc _⟩

theorem isCut_any (h : NetAt S w b s) {k i : Int} (hk : In64 k) (hi : In64 i) : Calls Try.prog 28 #[.pointer (some ⟨b, 0, none⟩), keyV k i] w fun e w' => e = .returned (.bool (isCut s.cuts k i)) ∧ Kept (fun _ => False) w w' := by
  obtain ⟨gv, tm, cm, h1, _⟩ := h
  have c2 := fun o => (h1.alloc o).c2
  have c2' := fun o o' => ((h1.alloc o).alloc o').c2
  have hl : ∀ o, Sem.run Try.prog (Instr.lookup 33 (.map cm) (.agg #[.int .i64 k, .int .i64 i]) true) (w.alloc o).drew = _ := fun o => (h1.alloc o).drew.cs.look hk hi
  have hl' : ∀ o o', Sem.run Try.prog (Instr.lookup 33 (.map cm) (.agg #[.int .i64 k, .int .i64 i]) true) ((w.alloc o).alloc o').drew = _ := fun o o' => ((h1.alloc o).alloc o').drew.cs.look hk hi
  clear h1
  unfold keyV
  generalize isCut s.cuts k i = q at *
  go_enter Try.func28, Try.ntmps28
  go_wp2
  go_region
  all_goals go_wp2
  all_goals go_ret
  all_goals exact ⟨rfl, (((Kept.refl _ w).alloc _).alloc _).drew⟩

end
end Go.Proofs.Ytegofkpiipomfaa
