/- The law NetKeeps, its parts: a net beside a row of the texts that were sent; what is counted. -/
import Derived.Test.YtoejfbfecfpbeaaSendPlain
import Derived.Test.YtoejfbfecfpbeaaNextCall
import Derived.Test.YtoejfbfecfpbeaaNetOps2
import Derived.Test.YtoejfbfecfpbeaaNetOpArgs
import Derived.Deep.AppendLies
namespace Go.Proofs.Ytoejfbfecfpbeaa
open Go.RowKit

def strV (x : ByteArray) : Value := .string x

/-- A net of the law's own, beside a row of texts of its own; nothing of w has turned. -/
def Keep (w W : World) (b : Nat) (s : NetSt) (v : Value) (l : List ByteArray) : Prop :=
  ∃ S, NetAt S W b s ∧ (∀ i, S i → w.heap.size ≤ i) ∧ Kept (fun _ => False) w W ∧ W.ownsRow w.heap.size 9 1 v l.length (l.map strV) ∧ ∀ i, v.ownBlock = some i → ¬ S i

section
variable {w W W' : World} {b : Nat} {s s' : NetSt} {v : Value} {l : List ByteArray}

theorem Keep.next (h : Keep w W b s v l) (hn : ∀ S, NetAt S W b s → Next S W W' b s') : Keep w W' b s' v l := by
  obtain ⟨S, h1, h2, h3, h4, h5⟩ := h
  obtain ⟨S', k1, k2, k3⟩ := hn S h1
  have hrow : ∀ i, v.ownBlock = some i → W'.heap[i]? = W.heap[i]? := fun i hi => k3.block i (h4.lt i hi).2 (h5 i hi)
  refine ⟨S', k1, fun i hi => ?_, h3.andThen k3 (fun i hi t => ?_), ?_, fun i hi t => ?_⟩
  · rcases k2 i hi with h | h
    · exact h2 i h
    · exact Nat.le_trans h3.size h
  · have := h2 i t
    omega
  · refine ⟨h4.1, ?_⟩
    rcases h4.2 with h | ⟨g, cap, cur, rfl, hb, hg, rest⟩
    · exact Or.inl h
    · exact Or.inr ⟨g, cap, cur, rfl, hb, (hrow g rfl).trans hg, rest⟩
  · rcases k2 i t with h | h
    · exact h5 i hi h
    · have := (h4.lt i hi).2
      omega

theorem Keep.still (h : Keep w W b s v l) (hk : Kept (fun _ => False) W W') : Keep w W' b s v l := h.next (fun _ hA => hA.next.still0 hk)

theorem Keep.kept (h : Keep w W b s v l) : Kept (fun _ => False) w W := by
  obtain ⟨_, _, _, h3, _⟩ := h
  exact h3

theorem Keep.call {f : FuncId} {args : Array Value} {r : Ending} (h : Keep w W b s v l) (hc : ∀ S1, NetAt S1 W b s → Calls Try.prog f args W fun e w' => e = r ∧ Next S1 W w' b s') :
    Calls Try.prog f args W fun e w' => e = r ∧ Keep w w' b s' v l := by
  obtain ⟨S, h1, h2, h3, h4, h5⟩ := h
  refine (hc S h1).mono ?_
  rintro e w' ⟨rfl, hn⟩
  refine ⟨rfl, ?_⟩
  obtain ⟨S', k1, k2, k3⟩ := hn
  have hrow : ∀ i, v.ownBlock = some i → w'.heap[i]? = W.heap[i]? := fun i hi => k3.block i (h4.lt i hi).2 (h5 i hi)
  refine ⟨S', k1, fun i hi => ?_, h3.andThen k3 (fun i hi t => ?_), ?_, fun i hi t => ?_⟩
  · rcases k2 i hi with h | h
    · exact h2 i h
    · exact Nat.le_trans h3.size h
  · have := h2 i t
    omega
  · refine ⟨h4.1, ?_⟩
    rcases h4.2 with h | ⟨g, cap, cur, rfl, hb, hg, rest⟩
    · exact Or.inl h
    · exact Or.inr ⟨g, cap, cur, rfl, hb, (hrow g rfl).trans hg, rest⟩
  · rcases k2 i t with h | h
    · exact h5 i hi h
    · have := (h4.lt i hi).2
      omega

theorem Keep.call0 {f : FuncId} {args : Array Value} {r : Ending} (h : Keep w W b s v l) (hc : ∀ S1, NetAt S1 W b s → Calls Try.prog f args W fun e w' => e = r ∧ Kept (fun _ => False) W w') :
    Calls Try.prog f args W fun e w' => e = r ∧ Keep w w' b s v l ∧ Kept (fun _ => False) W w' := by
  obtain ⟨S, h1, _⟩ := id h
  refine (hc S h1).mono ?_
  rintro e w' ⟨rfl, hk⟩
  exact ⟨rfl, h.still hk, hk⟩

/-- One text more in the row. -/
theorem Keep.more {o : Obj} {g cap : Nat} {x : ByteArray} (h : Keep w W b s v l) (hgrow : (W.alloc o).grownBy W' v.ownBlock) (hown : W'.ownsRow w.heap.size 9 1 (.slice (some ⟨g, 0, none⟩) (l.length + 1) cap) (l.length + 1) (l.map strV ++ [.string x]))
    (hg : v.ownBlock = some g ∨ g = (W.alloc o).heap.size) : Keep w W' b s (.slice (some ⟨g, 0, none⟩) (l.length + 1) cap) (l ++ [x]) := by
  obtain ⟨S, h1, h2, h3, h4, h5⟩ := h
  have hS : ∀ i, S i → v.ownBlock ≠ some i := fun i hi e => h5 i e hi
  have h1' := h1.alloc o
  have hk : Kept (fun i => v.ownBlock = some i) (W.alloc o) W' := (Kept.refl _ _).grown hgrow (fun j hj => Or.inr hj)
  refine ⟨S, h1'.kept hk (fun i hi e => hS i hi e), h2, (h3.alloc o).grown hgrow (fun j hj => Or.inl (h4.lt j hj).1), ?_, fun i hi t => ?_⟩
  · rw [List.length_append, List.map_append]
    exact hown
  · cases hi
    rcases hg with h | h
    · exact h5 _ h t
    · have h6 : g < W.heap.size := h1.lt t
      rw [World.size_alloc] at h
      omega

theorem keep_new (w : World) : Keep w (w.alloc (.cells #[.slice none 0 0, .map none, .map none] 35)) w.heap.size s0 (.slice none 0 0) [] :=
  ⟨_, new_at w, fun _ hi => Nat.le_of_eq hi.symm, (Kept.refl _ w).alloc _, World.ownsRow_nil _ _ _ _, fun i hi => (by cases hi)⟩

theorem Keep.row (h : Keep w W b s v l) : ∃ p cap, v = .slice p l.length cap ∧ ∀ j x, l[j]? = some x → ∃ g, p = some ⟨g, 0, none⟩ ∧ l.length ≤ cap ∧ W.cell? ⟨g, j, none⟩ = some (.string x) := by
  obtain ⟨S, _, _, _, h4, _⟩ := h
  rcases h4.2 with ⟨rfl, h0⟩ | ⟨g, cap, cur, rfl, hb, hg, hle, hm, hs, ht⟩
  · have hl := List.eq_nil_of_length_eq_zero h0
    subst hl
    exact ⟨none, 0, rfl, fun j x hj => by simp at hj⟩
  · refine ⟨_, cap, rfl, fun j x hj => ⟨g, rfl, hle, ?_⟩⟩
    have hjl := (List.getElem?_eq_some_iff.1 hj).1
    have h1 : cur.toList[j]? = some (.string x) := by
      have h2 : (l.map strV)[j]? = some (.string x) := by rw [List.getElem?_map, hj]; rfl
      rw [← ht, List.getElem?_take_of_lt (by omega)] at h2
      exact h2
    simp only [World.cell?, hg]
    simpa using h1

end

/-- What the law has counted. -/
structure Kep (s : NetSt) (j came : Nat) (l : List ByteArray) : Prop where
  good : Good s
  few : s.tals.length ≤ 3 * j
  cuts : s.cuts = []
  len : l.length ≤ j
  sent : sentS s 1 2 = (l.length : Int)
  all : ∀ y ∈ s.grams, y.src = 1 ∧ y.dst = 2 ∧ y.data ∈ l
  sum : (l.length : Int) = lostS s 1 2 + (came : Int) + (s.grams.length : Int)

theorem kep0 : Kep s0 0 0 [] := ⟨good0, by decide, rfl, by decide, rfl, fun y hy => (by cases hy), rfl⟩

section
variable {s : NetSt} {j came : Nat} {l : List ByteArray}

theorem Kep.mono (h : Kep s j came l) : Kep s (j + 1) came l := ⟨h.good, by have := h.few; omega, h.cuts, by have := h.len; omega, h.sent, h.all, h.sum⟩

theorem Kep.lost0 (h : Kep s j came l) : 0 ≤ lostS s 1 2 := (h.good.lost 1 2).1

theorem Kep.send (h : Kep s j came l) (hj : j < 200) (x : ByteArray) : Kep (sendS s 1 2 x) (j + 1) came (l ++ [x]) := by
  have h1 := h.len
  have h2 := h.sum
  have h3 := h.lost0
  have hS : Small s 1 2 := ⟨by rw [h.sent]; omega, by omega⟩
  have hL : leftG s 1 2 = s.grams := by
    unfold leftG
    refine List.filter_eq_self.2 (fun y hy => ?_)
    have ht := (h.good.ok y hy).turn.1
    unfold oldG
    have : ¬ (20000 ≤ sentS s 1 2 + 1 - y.turn) := by rw [h.sent]; omega
    simp [this]
  have hsh : shutG s 1 2 = false := by
    unfold shutG isCut
    rw [h.cuts, hL]
    simp
    omega
  refine ⟨h.good.send in1 in2 x, by have := tals_send s 1 2 x; have := h.few; omega, by rw [send_cuts hS, h.cuts], by rw [List.length_append]; simp; omega, ?_, ?_, ?_⟩
  · rw [send_sent hS, if_pos ⟨rfl, rfl⟩, h.sent, List.length_append]
    simp
  · intro y hy
    rw [send_grams hS, hsh, if_neg (by simp), hL] at hy
    rcases List.mem_append.1 hy with hy | hy
    · obtain ⟨a1, a2, a3⟩ := h.all y hy
      exact ⟨a1, a2, List.mem_append_left _ a3⟩
    · rw [List.mem_singleton] at hy
      subst hy
      exact ⟨rfl, rfl, by simp⟩
  · have e1 := send_lost h.good hS x 1 2
    have e2 := send_grams hS x
    rw [if_pos ⟨rfl, rfl⟩, hL, hsh] at e1
    rw [hL, hsh] at e2
    simp at e1 e2
    rw [e1, e2, List.length_append, List.length_append]
    simp
    omega

theorem Kep.deliver (h : Kep s j came l) {t : Nat} (ht : t < s.grams.length) : Kep { s with grams := s.grams.eraseIdx t } (j + 1) (came + 1) l := by
  have hl : (s.grams.eraseIdx t).length = s.grams.length - 1 := by rw [List.length_eraseIdx, if_pos ht]
  have hsub : ∀ y ∈ s.grams.eraseIdx t, y ∈ s.grams := fun y hy => (List.eraseIdx_sublist _ _).subset hy
  refine ⟨h.good.grams (fun y hy => h.good.ok y (hsub y hy)) (by have := h.good.few; omega), by have := h.few; show s.tals.length ≤ _; omega, h.cuts, by have := h.len; omega, h.sent, fun y hy => h.all y (hsub y hy), ?_⟩
  have := h.sum
  show (l.length : Int) = lostS s 1 2 + ((came + 1 : Nat) : Int) + ((s.grams.eraseIdx t).length : Int)
  rw [hl]
  omega

theorem Kep.drop (h : Kep s j came l) (hj : j < 200) {t : Nat} (ht : t < s.grams.length) : Kep (countS { s with grams := s.grams.eraseIdx t } 1 2 0 1) (j + 1) came l := by
  have hl : (s.grams.eraseIdx t).length = s.grams.length - 1 := by rw [List.length_eraseIdx, if_pos ht]
  have hsub : ∀ y ∈ s.grams.eraseIdx t, y ∈ s.grams := fun y hy => (List.eraseIdx_sublist _ _).subset hy
  have hG := h.good.grams (l := s.grams.eraseIdx t) (fun y hy => h.good.ok y (hsub y hy)) (by have := h.good.few; omega)
  have h1 := h.len
  have h2 := h.sum
  have h3 := h.lost0
  have e1 : sentS { s with grams := s.grams.eraseIdx t } 1 2 = sentS s 1 2 := rfl
  have e2 : lostS { s with grams := s.grams.eraseIdx t } 1 2 = lostS s 1 2 := rfl
  refine ⟨hG.count 1 2 ⟨by omega, by omega⟩ ⟨by omega, by omega⟩, by have := tals_count { s with grams := s.grams.eraseIdx t } 1 2 0 1; have h5 := h.few; simp only at this; omega, h.cuts, by omega, ?_, fun y hy => h.all y (hsub y hy), ?_⟩
  · rw [sent_count, if_pos ⟨rfl, rfl⟩, e1, h.sent, upTo_small (by omega)]
    omega
  · rw [lost_count, if_pos ⟨rfl, rfl⟩, e2, upTo_small (by omega)]
    show (l.length : Int) = lostS s 1 2 + 1 + (came : Int) + ((s.grams.eraseIdx t).length : Int)
    rw [hl]
    omega

end
end Go.Proofs.Ytoejfbfecfpbeaa
