/- The sort of a row of sessions, of the call's own. -/
import Derived.Test.YtgaamehjdoakhaaDoorAcSort
namespace Go.Proofs.YtgaamehjdoakhaaDoor
open Go.RowKit

def rowS (l : List Sn) : List Value := l.flatMap snCells
theorem rowS_append (a b : List Sn) : rowS (a ++ b) = rowS a ++ rowS b := by simp [rowS]
theorem rowS_one (a : Sn) : rowS [a] = snCells a := by simp [rowS]
theorem rowS_length (l : List Sn) : (rowS l).length = l.length * 9 := by
  induction l with
  | nil => rfl
  | cons a r ih => rw [rowS, List.flatMap_cons, List.length_append, snCells_length]; rw [rowS] at ih; rw [ih]; simp; omega
theorem rowS_get {l : List Sn} {k : Nat} {x : Sn} (h : l[k]? = some x) (j : Nat) (hj : j < 9) : (rowS l)[k * 9 + j]? = (snCells x)[j]? := by
  induction l generalizing k with
  | nil => simp at h
  | cons a r ih =>
    have hc : rowS (a :: r) = snCells a ++ rowS r := by simp [rowS]
    cases k with
    | zero =>
      simp at h
      subst h
      rw [hc, List.getElem?_append_left (by rw [snCells_length]; omega)]
      simp
    | succ k =>
      simp at h
      rw [hc, List.getElem?_append_right (by rw [snCells_length]; omega), ← ih h, snCells_length]
      congr 1
      omega

/-- A list of sessions in memory, to be read. -/
def SessAt (W : World) (v : Value) (l : List Sn) : Prop :=
  (l = [] ∧ ∃ p cap, v = .slice p 0 cap) ∨ ∃ g cap, v = .slice (some ⟨g, 0, none⟩) l.length cap ∧ l.length ≤ cap ∧
    ∀ i x, l[i]? = some x → ∀ j u, (snCells x)[j]? = some u → W.cell? ⟨g, i * 9 + j, none⟩ = some u
theorem SessAt.slice {W : World} {v : Value} {l : List Sn} (h : SessAt W v l) : ∃ p cap, v = .slice p l.length cap := by
  rcases h with ⟨rfl, p, cap, rfl⟩ | ⟨g, cap, rfl, _⟩
  · exact ⟨p, cap, rfl⟩
  · exact ⟨_, cap, rfl⟩
theorem SessAt.kept {W W' : World} {v : Value} {l : List Sn} (h : SessAt W v l) (hk : Kept (fun _ => False) W W') : SessAt W' v l := by
  rcases h with ⟨rfl, p, cap, rfl⟩ | ⟨g, cap, rfl, h1, h2⟩
  · exact Or.inl ⟨rfl, p, cap, rfl⟩
  · refine Or.inr ⟨g, cap, rfl, h1, fun i x hi j u hu => ?_⟩
    have hc := h2 i x hi j u hu
    exact (hk.cell (lt_of_cell hc) id).trans hc
def SortedNum (l : List Sn) : Prop := l.Pairwise (fun x y => x.num ≤ y.num)

set_option maxRecDepth 100000 in
theorem len64_0 (w : World) : Calls Tryd.prog 74 #[.int .u64 0] w fun e w' => (∃ l : Int, e = .returned (.int .i64 l)) ∧ w' = w := by
  go_enter Tryd.func74, Tryd.ntmps74
  go_wp2
  go_ret
  exact ⟨⟨_, rfl⟩, rfl⟩
theorem len_0 (w : World) : Calls Tryd.prog 52 #[.int .u64 0] w fun e w' => (∃ l : Int, e = .returned (.int .i64 l)) ∧ w' = w := by
  go_enter Tryd.func52, Tryd.ntmps52
  go_wp2_with (go_at_call 74; refine (len64_0 _).mono ?_; rintro e w' ⟨⟨l, rfl⟩, rfl⟩)
  go_ret
  exact ⟨⟨_, rfl⟩, rfl⟩
theorem ins_0 (p : Option Addr) (cap : Nat) (fv : Value) (w : World) : Calls Tryd.prog 65 #[.slice p 0 cap, .int .i64 0, .int .i64 0, fv] w fun e w' => e = .returned (.tuple #[]) ∧ w' = w := by
  go_enter Tryd.func65, Tryd.ntmps65
  go_wp2
  refine wp_loop_rounds 1 ?_
  rw [rounds_succ]
  go_wp2
  go_end0
  exact ⟨rfl, rfl⟩
set_option maxHeartbeats 1000000 in
set_option maxRecDepth 100000 in
theorem pdq_0 (p : Option Addr) (cap : Nat) (fv : Value) (l : Int) (w : World) : Calls Tryd.prog 51 #[.slice p 0 cap, .int .i64 0, .int .i64 0, .int .i64 l, fv] w fun e w' => e = .returned (.tuple #[]) ∧ w' = w := by
  go_enter Tryd.func51, Tryd.ntmps51
  go_wp2
  refine wp_loop_rounds 1 ?_
  rw [rounds_succ]
  go_wp2_with (go_at_call 65; refine (ins_0 _ _ _ _).mono ?_; rintro e w' ⟨rfl, rfl⟩)
  (try simp only [Exit.inBlock, Exit.then]); refine bodyPost_ret (results_none rfl _ _ _) rfl ?_
  exact ⟨rfl, rfl⟩
theorem sort_0 (p : Option Addr) (cap : Nat) (fv : Value) (w : World) : Calls Tryd.prog 33 #[.slice p 0 cap, fv] w fun e w' => e = .returned (.tuple #[]) ∧ w' = w := by
  go_enter Tryd.func33, Tryd.ntmps33
  go_wp2_with (first
    | (go_at_call 52; refine (len_0 _).mono ?_; rintro e w' ⟨⟨l, rfl⟩, rfl⟩)
    | (go_at_call 51; refine (pdq_0 _ _ _ _ _).mono ?_; rintro e w' ⟨rfl, rfl⟩))
  go_end0
  exact ⟨rfl, rfl⟩

def sn0 : Sn := ⟨[], 0, ⟨#[]⟩, false⟩
theorem aggS (w : World) : (isAgg 58).run Tryd.prog w = .ok true w := by kernel_rfl
theorem sizeS (w : World) : (Go.sizeOf 58).run Tryd.prog w = .ok 9 w := by kernel_rfl
theorem enterS (args : Array Value) (w : World) : (callFunc 34 args).run Tryd.prog w = .ok (.enter 34 args) w := by kernel_rfl

theorem get_bang {l : List Sn} {k : Nat} (h : k < l.length) (hi : Inhabited Sn) : l.toArray[k]! = l[k] := by simp [h]

/-- 'SortFunc' over a row of the call's own. -/
theorem sort_any (base : Nat) (v : Value) (C : List Sn) (hC : C.length ≤ 1000) (w : World) (h : w.ownsRow base 58 9 v C.length (rowS C)) :
    Calls Tryd.prog 33 #[v, .func (.func 34) #[] #[]] w fun e w' => e = .returned (.tuple #[]) ∧ ∃ L, L.Perm C ∧ SortedNum L ∧ SessAt w' v L ∧ Kept (fun i => v.ownBlock = some i) w w' := by
  by_cases h0 : C = []
  · subst h0
    obtain ⟨p, cap, rfl⟩ := slice_of h
    exact (sort_0 p cap _ w).mono fun _ _ ⟨he, hw⟩ => ⟨he, [], List.Perm.refl _, List.Pairwise.nil, Or.inl ⟨rfl, p, cap, rfl⟩, by rw [hw]; exact Kept.refl _ _⟩
  · rcases h.2 with ⟨_, hz⟩ | ⟨g, cap, cur, rfl, hb, hg, h1, h2, h3, h4⟩
    · exact absurd (List.eq_nil_of_length_eq_zero hz) h0
    · have hin : Inhabited Sn := ⟨sn0⟩
      have hlt : g < w.heap.size := (Array.getElem?_eq_some_iff.1 hg).1
      have hH : Go.Sort.HoldsK snCells 9 w g 0 C.toArray := by
        intro j hj
        rw [Go.Sort.size_flatK] at hj
        have hj' : j < C.length * 9 := by simpa using hj
        have hk : j / 9 < C.length := by omega
        have hcell : w.cell? ⟨g, j, none⟩ = (rowS C)[j]? := by
          rw [cell_of_row w g j _ _ _ hg, ← h4, List.getElem?_take_of_lt hj']
          simp
        have hrow := rowS_get (l := C) (k := j / 9) (x := C[j / 9]) (by simp) (j % 9) (by omega)
        rw [show j / 9 * 9 + j % 9 = j by omega] at hrow
        refine ⟨?_, ?_⟩
        · rw [Nat.zero_add, hcell, hrow, Go.Sort.get_flatK _ _ _ _ hj, get_bang hk hin]
          rw [List.getElem?_eq_getElem (by rw [snCells_length]; omega)]
          rw [getElem!_pos _ _ (by rw [snCells_length]; omega)]
          rfl
        · rw [Nat.zero_add]
          exact frozen_of_row w g j _ _ hg
      have hcmp : Go.Proofs.CmpLays Tryd.prog 34 #[] snCells 9 cmpS g 0 C.toArray.size w := fun m os dk _ x y => order_any x y _
      have hs := Go.Proofs.AnyQ.slices_SortFunc sortSLays 9 aggS sizeS snCells snCells_length snCells_one cmpS swo_cmp 34 #[] g 0 cap C.toArray w enterS hcmp hH hlt (by simp; omega)
      have hsz : C.toArray.size = C.length := by simp
      rw [hsz] at hs
      refine hs.mono ?_
      rintro e w' ⟨rfl, d', n, os, hp, hso, rfl⟩
      obtain ⟨q1, _, q3⟩ := hp
      rw [hsz] at q1
      have hd' : d'.extract 0 C.length = d' := by rw [← q1]; simp
      have hc' : C.toArray.extract 0 C.length = C.toArray := by simp
      rw [hd', hc'] at q3
      refine ⟨rfl, d'.toList, by simpa using q3, ?_, Or.inr ⟨g, cap, by simp [q1], by simp [q1]; exact h1, ?_⟩, ?_⟩
      · refine List.pairwise_iff_getElem.2 (fun i j hi hj hij => ?_)
        have hj2 : j < C.length := by simpa [q1] using hj
        have := hso i j (Nat.zero_le _) hij hj2
        rw [lt_cmp, decide_eq_false_iff_not] at this
        rw [getElem!_pos d' j (by omega), getElem!_pos d' i (by omega)] at this
        simp only [Array.getElem_toList]
        omega
      · intro i x hi j u hu
        have hH' : Go.Sort.HoldsK snCells 9 (Go.Proofs.sortWorldK snCells 9 w g 0 n d' os) g 0 d' := Go.Proofs.holdsK_sortWorldK snCells 9 w g 0 n C.toArray d' os hlt hH (by rw [q1, hsz])
        have hil : i < d'.size := by have := (List.getElem?_eq_some_iff.1 hi).1; simpa using this
        have hx : d'[i]! = x := by
          rw [getElem!_pos d' i hil]
          have := (List.getElem?_eq_some_iff.1 hi).2
          simpa using this
        have := Go.Proofs.HoldsK.cells hH' snCells_length hil j u (by rw [hx]; exact hu)
        rw [add_none, Nat.zero_add] at this
        exact this
      · exact (sort_kept w g n d' os hin).mono (fun i _ e => by rw [e]; rfl)
end Go.Proofs.YtgaamehjdoakhaaDoor
