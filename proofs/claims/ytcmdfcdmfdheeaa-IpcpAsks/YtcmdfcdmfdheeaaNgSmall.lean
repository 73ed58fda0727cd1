/- The contracts of the small calls of a negotiation: isNone, State, Mine, Theirs, Ups, unasked, count, nextId. -/
import Derived.Test.YtcmdfcdmfdheeaaNgMem
namespace Go.Proofs.Ytcmdfcdmfdheeaa
open Go.RowKit

theorem eqNegSome (ad : Addr) (w : World) : (binOp .eql 31 (.pointer (some ad)) (.pointer none)).run Try.prog w = .ok (.bool false) w := by kernel_rfl
theorem eqNegNone (w : World) : (binOp .eql 31 (.pointer none) (.pointer none)).run Try.prog w = .ok (.bool true) w := by kernel_rfl
theorem eqAutoNone (w : World) : (binOp .eql 71 (.pointer none) (.pointer none)).run Try.prog w = .ok (.bool true) w := by kernel_rfl

section
variable {W : World} {base b : Nat} {a : Nm} {n : Ng}
theorem NegIn.n0 (h : NegIn W base b a n) : W.cell? ⟨b, 0, none⟩ = some (.pointer (some ⟨a.am, 0, none⟩)) := h.cell 0
theorem NegIn.n1 (h : NegIn W base b a n) : W.cell? ⟨b, 1, none⟩ = some a.vr := h.cell 1
theorem NegIn.n2 (h : NegIn W base b a n) : W.cell? ⟨b, 2, none⟩ = some a.vo := h.cell 2
theorem NegIn.n3 (h : NegIn W base b a n) : W.cell? ⟨b, 3, none⟩ = some a.vp := h.cell 3
theorem NegIn.n4 (h : NegIn W base b a n) : W.cell? ⟨b, 4, none⟩ = some a.vu := h.cell 4
theorem NegIn.n5 (h : NegIn W base b a n) : W.cell? ⟨b, 5, none⟩ = some (.int .i64 n.fails) := h.cell 5
theorem NegIn.n6 (h : NegIn W base b a n) : W.cell? ⟨b, 6, none⟩ = some (.int .i64 n.wait) := h.cell 6
theorem NegIn.n7 (h : NegIn W base b a n) : W.cell? ⟨b, 7, none⟩ = some (.int .i64 n.id) := h.cell 7
theorem NegIn.n8 (h : NegIn W base b a n) : W.cell? ⟨b, 8, none⟩ = some (.int .i64 n.last) := h.cell 8
theorem NegIn.n9 (h : NegIn W base b a n) : W.cell? ⟨b, 9, none⟩ = some (.bool n.begun) := h.cell 9
theorem NegIn.n10 (h : NegIn W base b a n) : W.cell? ⟨b, 10, none⟩ = some (.int .i64 n.naks) := h.cell 10
theorem NegIn.n11 (h : NegIn W base b a n) : W.cell? ⟨b, 11, none⟩ = some (.int .i64 n.ticks) := h.cell 11
theorem NegIn.n12 (h : NegIn W base b a n) : W.cell? ⟨b, 12, none⟩ = some a.vm := h.cell 12
theorem NegIn.n13 (h : NegIn W base b a n) : W.cell? ⟨b, 13, none⟩ = some a.vt := h.cell 13
theorem NegIn.n14 (h : NegIn W base b a n) : W.cell? ⟨b, 14, none⟩ = some (.int .i64 n.ups) := h.cell 14
theorem NegIn.n15 (h : NegIn W base b a n) : W.cell? ⟨b, 15, none⟩ = some (.int .i64 n.downs) := h.cell 15
end

set_option maxRecDepth 100000 in
theorem ngNone_nil (w : World) : Calls Try.prog 27 #[.pointer none] w fun e w' => e = .returned (.bool true) ∧ w' = w := by
  have hE := eqNegNone
  go_enter Try.func27, Try.ntmps27
  go_wp2
  go_ret
  exact ⟨rfl, rfl⟩
set_option maxRecDepth 100000 in
theorem ngNone_zero (b : Nat) (w : World) (h : w.cell? ⟨b, 0, none⟩ = some (.pointer none)) : Calls Try.prog 27 #[.pointer (some ⟨b, 0, none⟩)] w fun e w' => e = .returned (.bool true) ∧ w' = w := by
  have hE := eqNegSome ⟨b, 0, none⟩
  have hE2 := eqAutoNone
  go_enter Try.func27, Try.ntmps27
  go_wp2
  go_ret
  exact ⟨rfl, rfl⟩
set_option maxRecDepth 100000 in
theorem ngNone_any {base b : Nat} {a : Nm} {n : Ng} (w : World) (h : NegIn w base b a n) : Calls Try.prog 27 #[.pointer (some ⟨b, 0, none⟩)] w fun e w' => e = .returned (.bool false) ∧ w' = w := by
  have c0 := h.n0
  have hE := eqNegSome ⟨b, 0, none⟩
  have hE2 := eqPtrSome ⟨a.am, 0, none⟩
  clear h
  go_enter Try.func27, Try.ntmps27
  go_wp2
  go_ret
  exact ⟨rfl, rfl⟩

set_option maxRecDepth 100000 in
theorem ngState_any {base b : Nat} {a : Nm} {n : Ng} (w : World) (h : NegIn w base b a n) : Calls Try.prog 19 #[.pointer (some ⟨b, 0, none⟩)] w fun e w' => e = .returned (.int .i64 n.au.st) ∧ w' = w := by
  have c0 := h.n0
  have HN := hid (ngNone_any w h)
  have HS := hid (state_any a.am n.au h.good.au w h.auto)
  clear h
  go_enter Try.func19, Try.ntmps19
  go_wp2_with (first
    | (go_at_call 27; refine HN.out.mono ?_; rintro e w' ⟨rfl, hw⟩; rw [hw]; clear hw w')
    | (go_at_call 36; refine HS.out.mono ?_; rintro e w' ⟨rfl, hw⟩; rw [hw]; clear hw w'))
  go_ret
  exact ⟨rfl, rfl⟩

def mineF (n : Ng) : List Tg := if n.au.st = 9 then n.mine else []
def theirsF (n : Ng) : List Tg := if n.au.st = 9 then n.theirs else []

set_option maxRecDepth 100000 in
theorem ngMine_any {base b : Nat} {a : Nm} {n : Ng} (w : World) (h : NegIn w base b a n) : Calls Try.prog 17 #[.pointer (some ⟨b, 0, none⟩)] w fun e w' => ∃ u, e = .returned u ∧ OwnO w' w.heap.size u (mineF n) ∧ Kept (fun _ => False) w w' := by
  have c12 := h.n12
  have HS := hid (ngState_any w h)
  have HC := hid (cloneO_any a.vm n.mine w h.mine.at (by have := h.good.mine.1; omega))
  unfold mineF
  obtain ⟨p, cap, hv⟩ := slice_of h.mine
  rw [hv] at c12 HC
  clear h hv
  by_cases h9 : n.au.st = 9
  · have h9z : (n.au.st != 9) = false := by simp [h9]
    rw [if_pos h9]
    clear h9
    go_enter Try.func17, Try.ntmps17
    go_wp2_with (first
      | (go_at_call 19; refine HS.out.mono ?_; rintro e w' ⟨rfl, hw⟩; rw [hw]; clear hw w'))
    refine HC.out.mono ?_
    rintro e w1 ⟨u, rfl, ho, hk⟩
    have HO := hid ho
    clear ho
    go_wp2
    go_ret
    exact ⟨_, rfl, HO.out, hk⟩
  · have h9z : (n.au.st != 9) = true := by simp [h9]
    rw [if_neg h9]
    clear h9 HC
    go_enter Try.func17, Try.ntmps17
    go_wp2_with (first
      | (go_at_call 19; refine HS.out.mono ?_; rintro e w' ⟨rfl, hw⟩; rw [hw]; clear hw w'))
    go_ret
    exact ⟨_, rfl, OwnO.nil _ _, Kept.refl _ _⟩
/-- A cause as a value: what came, and the answer to it. -/
def czV (c i : Int) (v : Value) (s : ByteArray) (c' i' : Int) (v' : Value) (s' : ByteArray) (mr : Option Nat) : Value := .agg #[.int .i64 c, .int .i64 i, v, .string s, .int .i64 c', .int .i64 i', v', .string s', .map mr]

theorem cells8_new (w : World) (t : TypeId) (x0 x1 x2 x3 x4 x5 x6 x7 : Value) : ∀ j u, [x0, x1, x2, x3, x4, x5, x6, x7][j]? = some u → (w.alloc (.cells #[x0, x1, x2, x3, x4, x5, x6, x7] t)).cell? ⟨w.heap.size, j, none⟩ = some u := by
  intro j u h
  rw [World.cell?_alloc_new]
  simpa using h
theorem cells9_new (w : World) (t : TypeId) (x0 x1 x2 x3 x4 x5 x6 x7 x8 : Value) : ∀ j u, [x0, x1, x2, x3, x4, x5, x6, x7, x8][j]? = some u → (w.alloc (.cells #[x0, x1, x2, x3, x4, x5, x6, x7, x8] t)).cell? ⟨w.heap.size, j, none⟩ = some u := by
  intro j u h
  rw [World.cell?_alloc_new]
  simpa using h

set_option maxRecDepth 100000 in
theorem unasked_any {base b : Nat} {a : Nm} {n : Ng} (w : World) (h : NegIn w base b a n) : Calls Try.prog 29 #[.pointer (some ⟨b, 0, none⟩)] w fun e w' => e = .returned (czV 0 n.id (.slice none 0 0) ⟨#[]⟩ 0 0 (.slice none 0 0) ⟨#[]⟩ none) ∧ Kept (fun _ => False) w w' := by
  have H := hid (h.kept0 ((Kept.refl (fun _ => False) w).alloc (.cells #[.int .i64 0, .int .i64 0, .slice none 0 0, .string ⟨#[]⟩, .int .i64 0, .int .i64 0, .slice none 0 0, .string ⟨#[]⟩, .map none] 68)))
  have c7 := H.out.n7
  have hf : ∀ j, (w.alloc (.cells #[.int .i64 0, .int .i64 0, .slice none 0 0, .string ⟨#[]⟩, .int .i64 0, .int .i64 0, .slice none 0 0, .string ⟨#[]⟩, .map none] 68)).frozen? ⟨w.heap.size, j, none⟩ = false := fun j => frozen_of_row _ w.heap.size j _ _ (heap_alloc_new w _)
  unfold czV
  clear h
  go_enter Try.func29, Try.ntmps29
  go_wp2
  refine bodyPost_ret (v := .agg #[.int .i64 0, .int .i64 n.id, .slice none 0 0, .string ⟨#[]⟩, .int .i64 0, .int .i64 0, .slice none 0 0, .string ⟨#[]⟩, .map none]) (by simp [results, Try.results29, go_sem]) rfl ⟨rfl, ?_⟩
  repeat refine Kept.setCell ?_ (Or.inl (Nat.le_refl _)) _
  exact (Kept.refl _ w).alloc _

/-- How often it came up and down. -/
def tallyF (n : Ng) (x : Int) : Ng := if x = 0 then { n with ups := min (n.ups + 1) 4611686018427387904 } else if x = 1 then { n with downs := min (n.downs + 1) 4611686018427387904 } else n

set_option maxHeartbeats 1000000 in
set_option maxRecDepth 100000 in
theorem ngCount_any {base b : Nat} {a : Nm} {n : Ng} (x : Int) (w : World) (h : NegIn w base b a n) : Calls Try.prog 59 #[.pointer (some ⟨b, 0, none⟩), .int .i64 x] w fun e w' => e = .returned (.tuple #[]) ∧ NNext w w' base b a a (tallyF n x) := by
  have g := h.good
  unfold tallyF
  by_cases h0 : x = 0
  · rw [if_pos h0]
    subst h0
    have c14 := h.n14
    have f14 := h.fz 14
    have hw : IntKind.i64.wrap (n.ups + 1) = n.ups + 1 := by rw [IntKind.wrap_i64]; have := g.ups; omega
    have HN := hid (h.set (n' := { n with ups := min (n.ups + 1) 4611686018427387904 }) 14 (.int .i64 (min (n.ups + 1) 4611686018427387904)) rfl ⟨g.au, g.fails, g.wait, g.id, g.naks, g.ticks, (by have := g.ups; simp only; omega), g.downs, g.req, g.mine, g.theirs⟩ rfl rfl rfl rfl rfl rfl)
    clear h g
    go_enter Try.func59, Try.ntmps59
    go_wp2
    go_end0
    exact ⟨rfl, HN.out⟩
  · rw [if_neg h0]
    by_cases h1 : x = 1
    · rw [if_pos h1]
      subst h1
      have c15 := h.n15
      have f15 := h.fz 15
      have hw : IntKind.i64.wrap (n.downs + 1) = n.downs + 1 := by rw [IntKind.wrap_i64]; have := g.downs; omega
      have HN := hid (h.set (n' := { n with downs := min (n.downs + 1) 4611686018427387904 }) 15 (.int .i64 (min (n.downs + 1) 4611686018427387904)) rfl ⟨g.au, g.fails, g.wait, g.id, g.naks, g.ticks, g.ups, (by have := g.downs; simp only; omega), g.req, g.mine, g.theirs⟩ rfl rfl rfl rfl rfl rfl)
      clear h g
      go_enter Try.func59, Try.ntmps59
      go_wp2
      go_end0
      exact ⟨rfl, HN.out⟩
    · rw [if_neg h1]
      have HN := hid (NNext.refl h)
      clear h g
      go_enter Try.func59, Try.ntmps59
      go_wp2
      go_end0
      exact ⟨rfl, HN.out⟩

def nextId (i : Int) : Int := (i + 1) % 256
theorem nextId_range (i : Int) : 0 ≤ nextId i ∧ nextId i ≤ 255 := by unfold nextId; omega

set_option maxHeartbeats 1000000 in
set_option maxRecDepth 100000 in
theorem nextId_any {base b : Nat} {a : Nm} {n : Ng} (w : World) (h : NegIn w base b a n) : Calls Try.prog 77 #[.pointer (some ⟨b, 0, none⟩)] w fun e w' => e = .returned (.int .i64 (nextId n.id)) ∧ NNext w w' base b a a { n with id := nextId n.id } := by
  have g := h.good
  have c7 := h.n7
  have f7 := h.fz 7
  have hw : IntKind.i64.wrap (n.id + 1) = n.id + 1 := by rw [IntKind.wrap_i64]; have := g.id; omega
  have hu : IntKind.u8.wrap (n.id + 1) = nextId n.id := by rw [IntKind.wrap_u8]; rfl
  have hr := nextId_range n.id
  have hw2 : IntKind.i64.wrap (nextId n.id) = nextId n.id := by rw [IntKind.wrap_i64]; omega
  have HN := hid (h.set (n' := { n with id := nextId n.id }) 7 (.int .i64 (nextId n.id)) rfl ⟨g.au, g.fails, g.wait, hr, g.naks, g.ticks, g.ups, g.downs, g.req, g.mine, g.theirs⟩ rfl rfl rfl rfl rfl rfl)
  have HZ := hid (ngNone_any w h)
  clear h g hr
  generalize nextId n.id = K at *
  go_enter Try.func77, Try.ntmps77
  go_wp2_with (first | (go_at_call 27; refine HZ.out.mono ?_; rintro e w' ⟨rfl, hw⟩; rw [hw]; clear hw w'))
  go_ret
  exact ⟨rfl, HN.out⟩
end Go.Proofs.Ytcmdfcdmfdheeaa
