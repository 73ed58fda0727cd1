/- Two automata that hear each other: one's actions, heard by the other one. -/
import Derived.Test.YtfilfagnljpgcaaAuKit
import Derived.Test.YtfilfagnljpgcaaAuTime
import Derived.Test.YtfilfagnljpgcaaAuApp
namespace Go.Proofs.Ytfilfagnljpgcaa
open Go.RowKit

def heardF (c : Au) (a : Int) : List Int × Au := if a = 6 then doF c 6 else if a = 7 then doF c 8 else ([], c)
theorem GoodA.heard {c : Au} (h : GoodA c) (a : Int) : GoodA (heardF c a).2 := by
  unfold heardF
  split
  · exact h.do 6
  · split
    · exact h.do 8
    · exact h
theorem heard_short (c : Au) (a : Int) : (heardF c a).1.length ≤ 3 := by
  unfold heardF
  split
  · exact next_short _ _
  · split
    · exact next_short _ _
    · exact Nat.zero_le _

set_option maxHeartbeats 1000000 in
set_option maxRecDepth 100000 in
theorem heard_any (b : Nat) (c : Au) (hg : GoodA c) (a : Int) (w : World) (h : AutoIn w b c) :
    Calls Try.prog 14 #[.pointer (some ⟨b, 0, none⟩), .int .i64 a] w fun en w' => ∃ v, en = .returned v ∧ AutoIn w' b (heardF c a).2 ∧ OwnI w' w.heap.size v (heardF c a).1 ∧ Kept (fun i => i = b) w w' := by
  have H6 := hid (do_any b c hg 6 ⟨by decide, by decide⟩ w h)
  have H8 := hid (do_any b c hg 8 ⟨by decide, by decide⟩ w h)
  have H := hid h
  unfold heardF
  clear h hg
  by_cases h6 : a = 6
  · rw [if_pos h6]
    go_enter Try.func14, Try.ntmps14
    go_wp2_with (go_at_call 9; refine H6.out.mono ?_; rintro e w' ⟨v, rfl, ha, ho, hk⟩)
    go_ret
    exact ⟨v, rfl, ha, ho, hk⟩
  · rw [if_neg h6]
    by_cases h7 : a = 7
    · rw [if_pos h7]
      go_enter Try.func14, Try.ntmps14
      go_wp2_with (go_at_call 9; refine H8.out.mono ?_; rintro e w' ⟨v, rfl, ha, ho, hk⟩)
      go_ret
      exact ⟨v, rfl, ha, ho, hk⟩
    · rw [if_neg h7]
      go_enter Try.func14, Try.ntmps14
      go_wp2
      go_ret
      exact ⟨_, rfl, H.out, OwnI.nil _ _, Kept.refl _ _⟩

/-- What comes of hearing one action more. -/
def hearF (s : Au × List Int) (a : Int) : Au × List Int := ((heardF s.1 a).2, s.2 ++ (heardF s.1 a).1)
def hearL (c : Au) (x : List Int) : Au × List Int := x.foldl hearF (c, [])
theorem hear_take (c : Au) {x : List Int} {k : Nat} {a : Int} (h : x[k]? = some a) : hearL c (x.take (k + 1)) = hearF (hearL c (x.take k)) a := by
  unfold hearL
  rw [List.take_add_one, h, List.foldl_append]
  rfl
theorem hear_len : ∀ (x : List Int) (s : Au × List Int), (x.foldl hearF s).2.length ≤ s.2.length + 3 * x.length
  | [], s => by simp
  | a :: x, s => by
    have h1 := hear_len x (hearF s a)
    have h2 := heard_short s.1 a
    simp only [List.foldl_cons, List.length_cons]
    have h3 : (hearF s a).2.length = s.2.length + (heardF s.1 a).1.length := by simp [hearF]
    omega
theorem hear_short (c : Au) (x : List Int) : (hearL c x).2.length ≤ 3 * x.length := by
  have := hear_len x (c, [])
  simpa [hearL] using this

/-- Two automata of a law's own. -/
structure Duo (w W : World) (ba : Nat) (ca : Au) (bb : Nat) (cb : Au) : Prop where
  a : AutoIn W ba ca
  b : AutoIn W bb cb
  ga : GoodA ca
  gb : GoodA cb
  la : w.heap.size ≤ ba
  lb : w.heap.size ≤ bb
  ne : ba ≠ bb
  kept : Kept (fun _ => False) w W

section
variable {w W W' : World} {ba bb B : Nat} {ca cb : Au}
theorem Duo.swap (h : Duo w W ba ca bb cb) : Duo w W bb cb ba ca := ⟨h.b, h.a, h.gb, h.ga, h.lb, h.la, h.ne.symm, h.kept⟩
theorem Duo.turn (h : Duo w W ba ca bb cb) {c' : Au} (ha : AutoIn W' ba c') (hg : GoodA c') (hk : Kept (fun i => i = ba) W W') : Duo w W' ba c' bb cb :=
  ⟨ha, h.b.kept hk h.ne.symm, hg, h.gb, h.la, h.lb, h.ne, h.kept.andThen hk (fun i hi e => by have := h.la; omega)⟩
theorem Duo.still (h : Duo w W ba ca bb cb) (hk : Kept (fun _ => False) W W') : Duo w W' ba ca bb cb := ⟨h.a.kept0 hk, h.b.kept0 hk, h.ga, h.gb, h.la, h.lb, h.ne, h.kept.trans hk⟩
/-- A list's block turns. -/
theorem Duo.list (h : Duo w W ba ca bb cb) {v : Value} {l : List Int} (ho : OwnI W B v l) (hB : w.heap.size ≤ B) (hk : Kept (fun i => v.ownBlock = some i) W W') : Duo w W' ba ca bb cb :=
  ⟨h.a.kept hk (fun e => h.a.ne ho e rfl), h.b.kept hk (fun e => h.b.ne ho e rfl), h.ga, h.gb, h.la, h.lb, h.ne, h.kept.andThen hk (fun i hi e => by have := (ho.block e).2; omega)⟩

/-- A list that lay there below B. -/
def Lst (W : World) (B : Nat) (v : Value) (l : List Int) : Prop := OwnI W 0 v l ∧ ∀ i, v.ownBlock = some i → i < B
theorem Lst.of {v : Value} {l : List Int} {base : Nat} (h : OwnI W base v l) : Lst W W.heap.size v l := ⟨h.mono (Nat.zero_le _), fun i hi => by obtain ⟨⟨cur, e⟩, _⟩ := h.block hi; exact (Array.getElem?_eq_some_iff.1 e).1⟩
theorem Lst.auto {v : Value} {l : List Int} (h : Lst W B v l) {b : Nat} {c : Au} (ha : AutoIn W b c) (hk : Kept (fun i => i = b) W W') : Lst W' B v l := ⟨ha.own h.1 hk, h.2⟩
theorem Lst.still {v : Value} {l : List Int} (h : Lst W B v l) (hk : Kept (fun _ => False) W W') : Lst W' B v l := ⟨h.1.kept0 hk, h.2⟩
theorem Lst.list {v : Value} {l : List Int} (h : Lst W B v l) {u : Value} {m : List Int} (ho : OwnI W B u m) (hk : Kept (fun i => u.ownBlock = some i) W W') : Lst W' B v l :=
  ⟨h.1.kept hk (fun i hi e => by have := (ho.block e).2; have := h.2 i hi; omega), h.2⟩
theorem Lst.up {B' : Nat} {v : Value} {l : List Int} (h : Lst W B v l) (hB : B ≤ B') : Lst W B' v l := ⟨h.1, fun i hi => Nat.lt_of_lt_of_le (h.2 i hi) hB⟩

/-- While a list p is put together, behind B: the lists olds lie ahead of it. -/
structure InL (w W : World) (B ba : Nat) (ca : Au) (bb : Nat) (cb : Au) (olds : List (Value × List Int)) (vp : Value) (p : List Int) : Prop where
  duo : Duo w W ba ca bb cb
  lo : w.heap.size ≤ B
  hi : B ≤ W.heap.size
  olds : ∀ o ∈ olds, Lst W B o.1 o.2
  own : OwnI W B vp p

theorem InL.hears {olds : List (Value × List Int)} {vp : Value} {p : List Int} (h : InL w W B ba ca bb cb olds vp p) (a : Int) (hn : p.length ≤ 1000) :
    Calls Try.prog 14 #[.pointer (some ⟨ba, 0, none⟩), .int .i64 a] W fun en w2 => ∃ v v' w3, en = .returned v ∧ AppI w2 vp v v' w3 ∧ InL w w3 B ba (heardF ca a).2 bb cb olds v' (p ++ (heardF ca a).1) := by
  refine (heard_any ba ca h.duo.ga a W h.duo.a).mono ?_
  rintro en w2 ⟨v, rfl, ha, ho, hk⟩
  have hd := h.duo.turn ha (h.duo.ga.heard a) hk
  have hp := h.duo.a.own h.own hk
  have hs := heard_short ca a
  obtain ⟨v', w3, h1, h2, h3, _⟩ := append_ints (Nat.le_trans h.hi hk.size) hp ho (by omega)
  exact ⟨v, v', w3, rfl, h1, hd.list hp h.lo h3, h.lo, Nat.le_trans (Nat.le_trans h.hi hk.size) h3.size, fun o ho => ((h.olds o ho).auto h.duo.a hk).list hp h3, h2⟩
end
end Go.Proofs.Ytfilfagnljpgcaa
