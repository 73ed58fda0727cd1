/- The contract of Clock.Tick, where at most two timers are over. -/
import Derived.Test.YtmclldidmpeahaaOver
namespace Go.Proofs.Ytmclldidmpeahaa
open Go.RowKit

theorem tick_nil (n : Int) (w : World) : Calls Try.prog 20 #[.pointer none, .int .i64 n] w fun e w' => e = .returned (.slice none 0 0) ∧ w' = w := by
  go_enter Try.func20, Try.ntmps20
  go_wp2
  all_goals go_ret
  all_goals exact ⟨rfl, rfl⟩

def dropAll (ts S : List Tm) : List Tm := S.foldl (fun l t => dropT l t.kind t.id) ts

theorem dropAll_snoc (ts S : List Tm) (t : Tm) : dropAll ts (S ++ [t]) = dropT (dropAll ts S) t.kind t.id := by simp [dropAll]

theorem dropAll_eq (S : List Tm) : ∀ ts : List Tm, dropAll ts S = ts.filter (fun x => !S.any (fun t => isOf t.kind t.id x)) := by
  induction S with
  | nil => intro ts; exact (List.filter_eq_self.2 (fun _ _ => rfl)).symm
  | cons a S ih =>
    intro ts
    show dropAll (dropT ts a.kind a.id) S = _
    rw [ih, dropT, List.filter_filter]
    refine List.filter_congr (fun x _ => ?_)
    simp [Bool.and_comm]

/-- Those that are over are struck: the others stay. -/
theorem dropAll_over {ts S : List Tm} {now : Int} (hA : Apart ts) (hp : S.Perm (ts.filter (overT now))) : dropAll ts S = ts.filter (fun t => !overT now t) := by
  rw [dropAll_eq]
  refine List.filter_congr (fun x hx => ?_)
  congr 1
  cases ho : overT now x
  · rw [List.any_eq_false]
    intro t ht e
    obtain ⟨ht1, ht2⟩ := List.mem_filter.1 (hp.mem_iff.1 ht)
    simp only [isOf, decide_eq_true_eq] at e
    have h1 := find_of_mem hA ht1 (k := x.kind) (i := x.id) e.1.symm e.2.symm
    have h2 := find_of_mem hA hx (k := x.kind) (i := x.id) rfl rfl
    rw [h1] at h2
    cases h2
    rw [ho] at ht2
    cases ht2
  · rw [List.any_eq_true]
    exact ⟨x, hp.mem_iff.2 (List.mem_filter.2 ⟨hx, ho⟩), by simp [isOf]⟩

/-- A key of a row. -/
theorem key_cells {w : World} {base n cap : Nat} {p : Option Addr} {S : List Tm} (h : w.ownsRow base 38 2 (.slice p n cap) S.length (keyCells S)) (j : Nat) (t : Tm) (hj : S[j]? = some t) :
    ∃ g, p = some ⟨g, 0, none⟩ ∧ base ≤ g ∧ w.cell? ⟨g, j * 2, none⟩ = some (.int .i64 t.kind) ∧ w.cell? ⟨g, j * 2 + 1, none⟩ = some (.int .i64 t.id) := by
  have hjl := (List.getElem?_eq_some_iff.1 hj).1
  rcases h.2 with ⟨_, h0⟩ | ⟨g, cap', cur, he, hb, hh, hn, hm, hs, ht⟩
  · omega
  · cases he
    have hk : ∀ (S : List Tm) (j : Nat) (t : Tm), S[j]? = some t → (keyCells S)[2 * j]? = some (.int .i64 t.kind) ∧ (keyCells S)[2 * j + 1]? = some (.int .i64 t.id) := by
      intro S
      induction S with
      | nil => intro j t h; simp at h
      | cons a S ih =>
        intro j t h
        have e : keyCells (a :: S) = .int .i64 a.kind :: .int .i64 a.id :: keyCells S := rfl
        rw [e]
        cases j with
        | zero => simp at h; subst h; simp
        | succ j =>
          have := ih j t (by simpa using h)
          rw [show 2 * (j + 1) = 2 * j + 1 + 1 from by omega]
          simpa using this
    obtain ⟨h1, h2⟩ := hk S j t hj
    rw [Nat.mul_comm] at h1 h2
    rw [← ht] at h1 h2
    refine ⟨g, rfl, hb, ?_, ?_⟩
    · rw [List.getElem?_take_of_lt (by omega)] at h1
      simp [World.cell?, hh]
      simpa using h1
    · rw [List.getElem?_take_of_lt (by omega)] at h2
      simp [World.cell?, hh]
      simpa using h2

theorem tick_arg (b : Nat) (n : Int) (h : n < 1 ∨ 1000000 < n) (w : World) : Calls Try.prog 20 #[.pointer (some ⟨b, 0, none⟩), .int .i64 n] w fun e w' => e = .returned (.slice none 0 0) ∧ w' = w := by
  by_cases h1 : n < 1
  · go_enter Try.func20, Try.ntmps20
    go_wp2
    go_ret
    exact ⟨rfl, rfl⟩
  · have h2 : 1000000 < n := by omega
    go_enter Try.func20, Try.ntmps20
    go_wp2
    go_ret
    exact ⟨rfl, rfl⟩

/-- What the loop of Tick has come to, behind j of its keys. -/
def Struck (w wr : World) (b mb : Nat) (now turns : Int) (ts S : List Tm) (v : Value) (j : Nat) : Prop :=
  IsClock wr b (some mb) now turns (dropAll ts (S.take j)) ∧ wr.ownsRow (w.heap.size + 1) 38 2 v S.length (keyCells S) ∧ Kept (ofClock b (some mb)) w wr

set_option maxHeartbeats 2000000 in
set_option maxRecDepth 100000 in
theorem tick_any (b mb : Nat) (now turns n x : Int) (hx : now + n = x) (ts : List Tm) (hI : Ints ts) (hl : ts.length ≤ 1000) (h1 : 1 ≤ n) (h1' : n ≤ 1000000) (hn0 : 0 ≤ now) (hn1 : x ≤ 1152921504606846976) (h2 : (ts.filter (overT x)).length ≤ 2) (w : World) (hc : IsClock w b (some mb) now turns ts) :
    Calls Try.prog 20 #[.pointer (some ⟨b, 0, none⟩), .int .i64 n] w fun e w' => ∃ v S, e = .returned v ∧ S.Perm (ts.filter (overT x)) ∧ InOrder S ∧ w'.ownsRow (w.heap.size + 1) 38 2 v S.length (keyCells S) ∧
      IsClock w' b (some mb) x turns (ts.filter (fun t => !overT x t)) ∧ Kept (ofClock b (some mb)) w w' := by
  subst hx
  have c0 := hc.c0
  have f0 := hc.f 0
  have hbl := hc.lt
  have hmbl : mb < w.heap.size := hc.ts.lt
  have hA : Apart ts := apart_of_assoc (w := w) (b := mb) hc.ts
  have hov := over_any b mb (now + n) turns ts hI hl h2 _ (hc.set0 (now + n))
  have hc0 := hc.set0 (now + n)
  have hz : (w.setCell ⟨b, 0, none⟩ (.int .i64 (now + n))).heap.size = w.heap.size := by simp
  rw [hz] at hov
  have hkc : Kept (ofClock b (some mb)) w (w.setCell ⟨b, 0, none⟩ (.int .i64 (now + n))) := (Kept.refl _ w).setCell (p := ⟨b, 0, none⟩) (Or.inr (Or.inl rfl)) _
  have Hov : Hid (Calls Try.prog 28 #[.pointer (some ⟨b, 0, none⟩)] (w.setCell ⟨b, 0, none⟩ (.int .i64 (now + n))) fun e w' => ∃ v S, e = .returned v ∧ S.Perm (ts.filter (overT (now + n))) ∧ InOrder S ∧ w'.ownsRow (w.heap.size + 1) 38 2 v S.length (keyCells S) ∧ Kept (fun _ => False) (w.setCell ⟨b, 0, none⟩ (.int .i64 (now + n))) w') := hov
  have Hc0 : Hid (IsClock (w.setCell ⟨b, 0, none⟩ (.int .i64 (now + n))) b (some mb) (now + n) turns ts) := hc0
  clear hov hc0 hc h2 hz
  go_enter Try.func20, Try.ntmps20
  go_wp2_with fail
  refine Hov.out.mono ?_
  rintro e w1 ⟨v, S, rfl, hp, hS, hrow, hk1⟩
  have hst : Struck w w1 b mb (now + n) turns ts S v 0 := ⟨Hc0.out.kept hk1 (fun _ _ => id), hrow, hkc.andThen hk1 (fun _ _ h => h.elim)⟩
  have hSI : ∀ t ∈ S, In64 t.kind ∧ In64 t.id := fun t ht => hI t (List.mem_filter.1 (hp.mem_iff.1 ht)).1
  have hSl : S.length ≤ 1000 := by rw [hp.length_eq]; exact Nat.le_trans (List.length_filter_le _ _) hl
  obtain ⟨p, cap, rfl⟩ := slice_of hrow
  clear hrow hk1 Hc0 Hov hkc
  go_wp2
  go_loopw [7, 32] (fun _ s wr => ∃ j : Nat, j ≤ S.length ∧ s = .int .i64 (j : Int) ∧ Struck w wr b mb (now + n) turns ts S (.slice p S.length cap) j) (fun _ s _ => S.length - (intOf s).toNat)
  case atStart => exact ⟨0, Nat.zero_le _, rfl, hst⟩
  case round =>
    obtain ⟨j, hj, rfl, hcl, hrow, hk⟩ := hrel
    by_cases hlt : j < S.length
    · obtain ⟨t, ht⟩ : ∃ t, S[j]? = some t := ⟨S[j], List.getElem?_eq_getElem hlt⟩
      obtain ⟨g, rfl, hg, q0, q1⟩ := key_cells hrow j t ht
      have hti := hSI t (List.mem_of_getElem? ht)
      have c2 := fun o => (hcl.grew o).c2
      have hst2 : ∀ o, ∃ w', (∀ ty, (Builtin.delete_ #[60, 38] ty #[.map (some mb), keyV t.kind t.id]).run Try.prog (wr.alloc o).drew = .ok (.tuple #[]) w') ∧ TsIn w' (some mb) (dropT (dropAll ts (S.take j)) t.kind t.id) ∧ (wr.alloc o).drew.grownBy w' (some mb) := fun o => by
        obtain ⟨w', q1, q2, q3, _⟩ := (hcl.grew o).drawn.ts.drop hti.1 hti.2 0
        exact ⟨w', fun ty => q1, q2, q3⟩
      obtain ⟨F, hF⟩ := skolem1 hst2
      have s1 := fun o => (hF o).1
      have hmb : mb < w.heap.size := hmbl
      have Hfin : Hid (∀ o, Struck w (F o) b mb (now + n) turns ts S (.slice (some ⟨g, 0, none⟩) S.length cap) (j + 1)) := fun o => by
        refine ⟨?_, ?_, (hk.alloc o).drew.grown (hF o).2.2 (fun i hi => Or.inr (Or.inr hi))⟩
        · rw [List.take_add_one, ht]
          show IsClock (F o) b (some mb) (now + n) turns (dropAll ts (S.take j ++ [t]))
          rw [dropAll_snoc]
          exact (hcl.grew o).drawn.turned (hF o).2.2 (hF o).2.1
        · exact ((hrow.alloc o).drew).kept (hF o).2.2 (Or.inr (row_ne (by omega) hrow))
      unfold keyV at s1
      clear hst2 hF hcl hrow hk
      go_wp2
      go_region
      all_goals go_wp2
      all_goals go_roundw
      case rel => exact ⟨j + 1, hlt, by go_num, Hfin _⟩
      case measure => simp [intOf]; omega
    · obtain rfl : j = S.length := by omega
      rw [List.take_length, dropAll_over hA hp] at hcl
      have Hcl : Hid (IsClock wr b (some mb) (now + n) turns (ts.filter (fun t => !overT (now + n) t))) := hcl
      clear hcl
      go_wp2
      go_ret
      exact ⟨_, S, rfl, hp, hS, hrow, Hcl, hk⟩
end Go.Proofs.Ytmclldidmpeahaa
