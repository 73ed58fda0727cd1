/- The contracts of package cookie's Epoch, Make and Check: for every card, every int; service and secret have at most 2^40 bytes each, the cookie at most as many as any string. -/
import Derived.Test.YtailkoophlgnbaaDoorCkBake
import Derived.Deep.RegionHeld3
namespace Go.Proofs.YtailkoophlgnbaaDoor
open Go.RowKit

/-- The tables, a card in its own block, and nothing turned of what was there. -/
def SK (w : World) (b : Nat) (m : List UInt8) (W : World) : Prop := Tables W ∧ MacAt W b m ∧ Below w.heap.size w W
theorem SK.next {w W W' : World} {b : Nat} {m : List UInt8} (h : SK w b m W) (hb : Below W.heap.size W W') : SK w b m W' :=
  ⟨h.1.next hb, h.2.1.carry hb h.2.1.lt, h.2.2.trans (hb.mono h.2.2.size)⟩
theorem SK.below' {w W : World} {b : Nat} {m : List UInt8} (h : SK w b m W) : Below w.heap.size w W := h.2.2
theorem SK.drew {w W : World} {b : Nat} {m : List UInt8} (h : SK w b m W) : SK w b m W.drew := h.next (Below.refl _ _).drew
theorem SK.first {w : World} {m : List UInt8} (hT : Tables w) : SK w w.heap.size m (w.alloc (.cells (Lib.byteCells m).toArray 23)) :=
  ⟨hT.next ((Below.refl _ _).alloc (Nat.le_refl _) _), macAt_new w m, (Below.refl _ _).alloc (Nat.le_refl _) _⟩
theorem SK.call {w W : World} {b : Nat} {m : List UInt8} {f : Nat} {args : Array Value} {v : Value} (h : SK w b m W) (hc : ∀ W, Tables W → Calls Tryd.prog f args W fun e w' => e = .returned v ∧ Below W.heap.size W w') : Calls Tryd.prog f args W fun e w' => e = .returned v ∧ SK w b m w' :=
  (hc W h.1).mono fun _ _ ⟨he, hb⟩ => ⟨he, h.next hb⟩
theorem SK.quiet {w W : World} {b : Nat} {m : List UInt8} {f : Nat} {args : Array Value} {v : Value} (h : SK w b m W) (hc : ∀ W, Calls Tryd.prog f args W fun e w' => e = .returned v ∧ Below W.heap.size W w') : Calls Tryd.prog f args W fun e w' => e = .returned v ∧ SK w b m w' :=
  (hc W).mono fun _ _ ⟨he, hb⟩ => ⟨he, h.next hb⟩
/-- What a call answers, whatever the world, where the tables stand. -/
structure Ans (f : Nat) (args : Array Value) (v : Value) : Prop where
  out : ∀ W, Tables W → Calls Tryd.prog f args W fun e w' => e = .returned v ∧ Below W.heap.size W w'
theorem SK.ans {w W : World} {b : Nat} {m : List UInt8} {f : Nat} {args : Array Value} {v : Value} (h : SK w b m W) (hc : Ans f args v) : Calls Tryd.prog f args W fun e w' => e = .returned v ∧ SK w b m w' := h.call hc.out
theorem six {m : List UInt8} (h : m.length = 6) : ∃ x0 x1 x2 x3 x4 x5 : Value, (Lib.byteCells m).toArray = #[x0, x1, x2, x3, x4, x5] := by
  match m, h with
  | [a0, a1, a2, a3, a4, a5], _ => exact ⟨_, _, _, _, _, _, rfl⟩
theorem SK.cell {w W : World} {b : Nat} {m : List UInt8} (h : SK w b m W) {xs : Array Value} (hx : (Lib.byteCells m).toArray = xs) (j : Nat) (u : Value) (hj : xs[j]? = some u) : W.cell? ⟨b, j, none⟩ = some u := by
  have h2 := h.2.1.src j u (by rw [← hx] at hj; simpa using hj)
  rw [addr_add] at h2
  exact h2
/-- The six cells of a card. -/
structure Six (W : World) (b : Nat) (x0 x1 x2 x3 x4 x5 : Value) : Prop where
  c0 : W.cell? ⟨b, 0, none⟩ = some x0
  c1 : W.cell? ⟨b, 1, none⟩ = some x1
  c2 : W.cell? ⟨b, 2, none⟩ = some x2
  c3 : W.cell? ⟨b, 3, none⟩ = some x3
  c4 : W.cell? ⟨b, 4, none⟩ = some x4
  c5 : W.cell? ⟨b, 5, none⟩ = some x5
theorem SK.six {w W : World} {b : Nat} {m : List UInt8} {x0 x1 x2 x3 x4 x5 : Value} (h : SK w b m W) (hx : (Lib.byteCells m).toArray = #[x0, x1, x2, x3, x4, x5]) : Six W b x0 x1 x2 x3 x4 x5 :=
  ⟨h.cell hx 0 x0 rfl, h.cell hx 1 x1 rfl, h.cell hx 2 x2 rfl, h.cell hx 3 x3 rfl, h.cell hx 4 x4 rfl, h.cell hx 5 x5 rfl⟩

set_option maxHeartbeats 400000 in
theorem epoch_any (t : Int) (w : World) :
    Calls Tryd.prog 12 #[.int .i64 t] w fun e w' => e = .returned (.int .i64 (t / 64)) ∧ Below w.heap.size w w' := by
  go_enter Tryd.func12, Tryd.ntmps12
  go_wp2
  go_ret
  exact ⟨rfl, Below.refl _ _⟩

def makeF (secret m service : List UInt8) (t : Int) : List UInt8 := bakeF secret m service (t / 64)
def checkF (secret m service c : List UInt8) (t : Int) : Bool := decide (c = bakeF secret m service (t / 64)) || decide (c = bakeF secret m service (t / 64 - 1))

set_option maxHeartbeats 1000000 in
theorem make_any (secret service : ByteArray) (m : List UInt8) (hm : m.length = 6) (t : Int) (hs : secret.size ≤ 1099511627776) (hv : service.size ≤ 1099511627776) (w : World) (hT : Tables w) :
    Calls Tryd.prog 8 #[.string secret, .agg (Lib.byteCells m).toArray, .string service, .int .i64 t] w fun r w' => r = .returned (.string ⟨(makeF secret.data.toList m service.data.toList t).toArray⟩) ∧ Below w.heap.size w w' := by
  have HBK := hide (fun (W : World) (h : Tables W) => bake_any secret service m hm (t / 64) hs hv W h)
  have HS := hide (SK.first (m := m) hT)
  obtain ⟨x0, x1, x2, x3, x4, x5, hx⟩ := six hm
  have h0 : ∀ W, SK w w.heap.size m W → W.cell? ⟨w.heap.size, 0, none⟩ = some x0 := fun W h => (h.six hx).c0
  have h1 : ∀ W, SK w w.heap.size m W → W.cell? ⟨w.heap.size, 1, none⟩ = some x1 := fun W h => (h.six hx).c1
  have h2 : ∀ W, SK w w.heap.size m W → W.cell? ⟨w.heap.size, 2, none⟩ = some x2 := fun W h => (h.six hx).c2
  have h3 : ∀ W, SK w w.heap.size m W → W.cell? ⟨w.heap.size, 3, none⟩ = some x3 := fun W h => (h.six hx).c3
  have h4 : ∀ W, SK w w.heap.size m W → W.cell? ⟨w.heap.size, 4, none⟩ = some x4 := fun W h => (h.six hx).c4
  have h5 : ∀ W, SK w w.heap.size m W → W.cell? ⟨w.heap.size, 5, none⟩ = some x5 := fun W h => (h.six hx).c5
  rw [hx] at HBK HS ⊢
  unfold makeF
  generalize bakeF secret.data.toList m service.data.toList (t / 64) = D at HBK ⊢
  clear hT hx
  go_enter Tryd.func8, Tryd.ntmps8
  go_wp2
  have hS0 : SK w w.heap.size m (w.alloc (.cells #[x0, x1, x2, x3, x4, x5] 23)).drew := HS.out.drew
  go_region_held3 (SK w w.heap.size m) (assumption) (first
    | (go_at_call 12; refine (SK.quiet (by assumption) (epoch_any t)).mono ?_; rintro e w2 ⟨rfl, hb2⟩)
    | (go_at_call 17; refine (SK.call (by assumption) HBK.out).mono ?_; rintro e w3 ⟨rfl, hb3⟩))
  go_wp2
  go_ret
  exact ⟨rfl, hb3.2.2⟩

set_option maxHeartbeats 1000000 in
theorem check_any (secret service c : ByteArray) (m : List UInt8) (hm : m.length = 6) (t : Int) (ht1 : -9223372036854775808 ≤ t) (ht2 : t ≤ 9223372036854775807) (hs : secret.size ≤ 1099511627776) (hv : service.size ≤ 1099511627776) (hc : c.size ≤ maxLen) (w : World) (hT : Tables w) :
    Calls Tryd.prog 10 #[.string secret, .agg (Lib.byteCells m).toArray, .string service, .string c, .int .i64 t] w fun r w' => r = .returned (.bool (checkF secret.data.toList m service.data.toList c.data.toList t)) ∧ Below w.heap.size w w' := by
  have HB1 := hide (fun (W : World) (h : Tables W) => bake_any secret service m hm (t / 64) hs hv W h)
  have HB2 := hide (fun (W : World) (h : Tables W) => bake_any secret service m hm (t / 64 - 1) hs hv W h)
  have HE1 := hide (same_any c ⟨(bakeF secret.data.toList m service.data.toList (t / 64)).toArray⟩ hc)
  have HE2 := hide (same_any c ⟨(bakeF secret.data.toList m service.data.toList (t / 64 - 1)).toArray⟩ hc)
  have hw1 : IntKind.i64.wrap (t / 64 - 1) = t / 64 - 1 := by rw [IntKind.wrap_i64]; omega
  have HS := hide (SK.first (m := m) hT)
  obtain ⟨x0, x1, x2, x3, x4, x5, hx⟩ := six hm
  have HL := hide (fun (W : World) (h : SK w w.heap.size m W) => h.six hx)
  rw [hx] at HB1 HB2 HS ⊢
  unfold checkF
  simp only [] at HE1 HE2
  generalize bakeF secret.data.toList m service.data.toList (t / 64) = D1 at HB1 HE1 ⊢
  generalize bakeF secret.data.toList m service.data.toList (t / 64 - 1) = D2 at HB2 HE2 ⊢
  generalize decide (c.data.toList = D1) = q1 at HE1 ⊢
  generalize decide (c.data.toList = D2) = q2 at HE2 ⊢
  clear hT hx hm hs hv hc
  go_enter Tryd.func10, Tryd.ntmps10
  go_wp2_with fail
  have hS0 : SK w w.heap.size m (w.alloc (.cells #[x0, x1, x2, x3, x4, x5] 23)) := HS.out
  refine (SK.quiet hS0 (epoch_any t)).mono ?_
  rintro e w1 ⟨rfl, hS1⟩
  obtain ⟨c0, c1, c2, c3, c4, c5⟩ := HL.out _ hS1
  go_wp2_with fail
  refine (SK.call hS1 HB1.out).mono ?_
  rintro e w2 ⟨rfl, hS2⟩
  clear c0 c1 c2 c3 c4 c5
  go_wp2_with fail
  refine (SK.quiet hS2 HE1.out).mono ?_
  rintro e w3 ⟨rfl, hS3⟩
  obtain ⟨c0, c1, c2, c3, c4, c5⟩ := HL.out _ hS3
  go_wp2_with fail
  refine (SK.call hS3 HB2.out).mono ?_
  rintro e w4 ⟨rfl, hS4⟩
  clear c0 c1 c2 c3 c4 c5
  go_wp2_with fail
  refine (SK.quiet hS4 HE2.out).mono ?_
  rintro e w5 ⟨rfl, hS5⟩
  cases q1
  · go_wp2
    go_ret
    exact ⟨by simp, hS5.2.2⟩
  · go_wp2
    go_ret
    exact ⟨by simp, hS5.2.2⟩
end Go.Proofs.YtailkoophlgnbaaDoor
