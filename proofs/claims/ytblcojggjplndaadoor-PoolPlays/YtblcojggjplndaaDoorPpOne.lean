/- A nil pool; a law's own pool; the contract of alive, of the laws of chapter 16. -/
import Derived.Test.YtblcojggjplndaaDoorPpTake
import Derived.Test.YtblcojggjplndaaDoorPpNew
import Derived.Test.YtblcojggjplndaaDoorPpText
namespace Go.Proofs.YtblcojggjplndaaDoor
open Go.RowKit

/-- What turns maps alone leaves cells as they are. -/
theorem cell_ppk {base : Nat} {w w' : World} (hk : PpK base w w') {p : Addr} {v : Value} (h : w.cell? p = some v) : w'.cell? p = some v := by
  refine (hk.cell (lt_of_cell h) (fun e => ?_)).trans h
  obtain ⟨_, es, c, h2⟩ := e
  simp [World.cell?, h2] at h
theorem Four4.ppk {base : Nat} {w w' : World} {b : Nat} {x0 x1 x2 x3 : Value} (h : Four4 w b x0 x1 x2 x3) (hk : PpK base w w') : Four4 w' b x0 x1 x2 x3 := by
  refine h.kept hk (fun e => ?_)
  obtain ⟨_, es, c, h2⟩ := e
  have := h.1.1
  simp [World.cell?, h2] at this
theorem Box2.ppk {base : Nat} {w w' : World} {b : Nat} {x0 x1 : Value} (h : Box2 w b x0 x1) (hk : PpK base w w') : Box2 w' b x0 x1 := by
  refine h.kept hk (fun e => ?_)
  obtain ⟨_, es, c, h2⟩ := e
  have := h.1.1
  simp [World.cell?, h2] at this

/-- A law's own pool. -/
structure PMine (w0 w : World) (b : Nat) (x : Ad) (l : List Lt) : Prop where
  here : PpAt w w0.heap.size b x l
  ge : w0.heap.size ≤ b
  kept : Kept (fun _ => False) w0 w
section
variable {w0 w w' : World} {b : Nat} {x : Ad} {l l' : List Lt}
theorem PMine.still (h : PMine w0 w b x l) (hk : Kept (fun _ => False) w w') : PMine w0 w' b x l := by
  obtain ⟨m, k, hm⟩ := h.here
  exact ⟨⟨m, k, hm.kept0 hk⟩, h.ge, h.kept.trans hk⟩
theorem PMine.step (h : PMine w0 w b x l) (ha : PpAt w' w0.heap.size b x l') (hk : PpK w0.heap.size w w') : PMine w0 w' b x l' :=
  ⟨ha, h.ge, h.kept.andThen hk (fun _ hi e => absurd hi (Nat.not_lt.2 e.1))⟩
theorem PMine.good (h : PMine w0 w b x l) : GoodL x l := by
  obtain ⟨m, k, hm⟩ := h.here
  exact hm.good
theorem PMine.take (h : PMine w0 w b x l) {t s : Int} (ht : I64 t) (hs : I64 s) (R : Ad × Int × List Lt) (hR : takeL x l t s = R) :
    Calls Tryd.prog 11 #[.pointer (some ⟨b, 0, none⟩), keyV t s] w fun e w' => e = .returned (.tuple #[adV R.1, .int .i64 R.2.1]) ∧ PMine w0 w' b x R.2.2 ∧ PpK w0.heap.size w w' := by
  obtain ⟨m, k, hm⟩ := h.here
  rw [← hR]
  exact (take_any hm ht hs).mono fun _ _ ⟨h1, h2, h3⟩ => ⟨h1, h.step h2 h3, h3⟩
theorem PMine.give (h : PMine w0 w b x l) {t s : Int} (ht : I64 t) (hs : I64 s) (R : Int × List Lt) (hR : giveL l t s = R) :
    Calls Tryd.prog 13 #[.pointer (some ⟨b, 0, none⟩), keyV t s] w fun e w' => e = .returned (.int .i64 R.1) ∧ PMine w0 w' b x R.2 ∧ PpK w0.heap.size w w' := by
  obtain ⟨m, k, hm⟩ := h.here
  rw [← hR]
  exact (give_any hm ht hs).mono fun _ _ ⟨h1, h2, h3⟩ => ⟨h1, h.step h2 h3, h3⟩
theorem PMine.has (h : PMine w0 w b x l) {t s : Int} (ht : I64 t) (hs : I64 s) (R : Ad × Bool) (hR : hasL x l t s = R) :
    Calls Tryd.prog 15 #[.pointer (some ⟨b, 0, none⟩), keyV t s] w fun e w' => e = .returned (.tuple #[adV R.1, .bool R.2]) ∧ PMine w0 w' b x l ∧ Kept (fun _ => False) w w' := by
  obtain ⟨m, k, hm⟩ := h.here
  rw [← hR]
  exact (has_any hm ht hs).mono fun _ _ ⟨h1, h2⟩ => ⟨h1, h.still h2, h2⟩
theorem PMine.who (h : PMine w0 w b x l) (y : Ad) (R : Int × Int × Bool) (hR : whoL x l y = R) :
    Calls Tryd.prog 17 #[.pointer (some ⟨b, 0, none⟩), adV y] w fun e w' => e = .returned (.tuple #[keyV R.1 R.2.1, .bool R.2.2]) ∧ PMine w0 w' b x l ∧ Kept (fun _ => False) w w' := by
  obtain ⟨m, k, hm⟩ := h.here
  rw [← hR]
  exact (who_any hm y).mono fun _ _ ⟨h1, h2⟩ => ⟨h1, h.still h2, h2⟩
theorem PMine.free (h : PMine w0 w b x l) : Calls Tryd.prog 19 #[.pointer (some ⟨b, 0, none⟩)] w fun e w' => e = .returned (.int .i64 (nFree l : Int)) ∧ PMine w0 w' b x l ∧ Kept (fun _ => False) w w' := by
  obtain ⟨m, k, hm⟩ := h.here
  exact (free_any hm).mono fun _ _ ⟨h1, h2⟩ => ⟨h1, h.still h2, h2⟩
theorem new_mine (hk : Kept (fun _ => False) w0 w) (x : Ad) (n : Nat) (h1 : 1 ≤ n) (h2 : n ≤ 256) (h3 : numAd x + (n : Int) ≤ 4294967296) :
    Calls Tryd.prog 9 #[adV x, .int .i64 (n : Int)] w fun e w' => ∃ b, e = .returned (.tuple #[.pointer (some ⟨b, 0, none⟩), .int .i64 0]) ∧ PMine w0 w' b x (List.replicate n lt0) :=
  (new_good x n h1 h2 h3 w).mono fun _ _ ⟨b, hb, he, ⟨m, k, hm⟩, hk'⟩ => ⟨b, he, ⟨m, k, hm.blk, hm.nil1, hm.nil2, fun mb e => ⟨Nat.le_trans hk.size (hm.has mb e).1, (hm.has mb e).2⟩, fun kb e => ⟨Nat.le_trans hk.size (hm.who kb e).1, (hm.who kb e).2⟩, hm.ne, hm.good⟩, Nat.le_trans hk.size hb, hk.trans hk'⟩
end

theorem new_mine2 {w0 w : World} (hk : Kept (fun _ => False) w0 w) (x : Ad) (n : Nat) (h1 : 1 ≤ n) (h2 : n ≤ 256) (h3 : numAd x + (n : Int) ≤ 4294967296) :
    Calls Tryd.prog 9 #[adV x, .int .i64 (n : Int)] w fun e w' => ∃ b, e = .returned (.tuple #[.pointer (some ⟨b, 0, none⟩), .int .i64 0]) ∧ PMine w0 w' b x (List.replicate n lt0) ∧ Kept (fun _ => False) w w' :=
  (new_good x n h1 h2 h3 w).mono fun _ _ ⟨b, hb, he, ⟨m, k, hm⟩, hk'⟩ => ⟨b, he, ⟨⟨m, k, hm.blk, hm.nil1, hm.nil2, fun mb e => ⟨Nat.le_trans hk.size (hm.has mb e).1, (hm.has mb e).2⟩, fun kb e => ⟨Nat.le_trans hk.size (hm.who kb e).1, (hm.who kb e).2⟩, hm.ne, hm.good⟩, Nat.le_trans hk.size hb, hk.trans hk'⟩, hk'⟩

theorem itoa10 : Lib.itoa 10 = [49, 48] := by
  unfold Lib.itoa
  rw [if_neg (by decide), Lib.decDigits, dif_neg (by decide), show ((10 : Int).toNat / 10) = 1 from rfl, Lib.decDigits_one (by decide)]
  rfl
theorem itoa0 : Lib.itoa 0 = [48] := by
  unfold Lib.itoa
  rw [if_neg (by decide), Lib.decDigits_one (by decide)]
  rfl
theorem itoa1 : Lib.itoa 1 = [49] := by
  unfold Lib.itoa
  rw [if_neg (by decide), Lib.decDigits_one (by decide)]
  rfl
theorem text_alive : textA ⟨10, 0, 1, 0⟩ = ⟨#[49, 48, 46, 48, 46, 49, 46, 48]⟩ := by
  show (⟨(Lib.join [Lib.itoa 10, Lib.itoa 0, Lib.itoa 1, Lib.itoa 0] [46]).toArray⟩ : ByteArray) = _
  rw [itoa10, itoa0, itoa1]
  rfl

def xB : Ad := ⟨10, 0, 0, 254⟩
theorem i64s (n : Int) (h1 : 0 ≤ n) (h2 : n ≤ 1000) : I64 n := ⟨by omega, by omega⟩
set_option maxHeartbeats 2000000 in
set_option maxRecDepth 100000 in
theorem alive16_any (w : World) (hT : PowTab w) : Calls Tryd.prog 8 #[] w fun e w' => e = .returned (.bool true) ∧ Kept (fun _ => False) w w' := by
  have i1 := i64s 1 (by decide) (by decide)
  have i2 := i64s 2 (by decide) (by decide)
  have i3 := i64s 3 (by decide) (by decide)
  have i9 := i64s 9 (by decide) (by decide)
  have t1 : takeL xB (List.replicate 3 lt0) 1 1 = (⟨10, 0, 0, 254⟩, 0, [⟨true, 1, 1⟩, lt0, lt0]) := by kernel_rfl
  have t2 : takeL xB [⟨true, 1, 1⟩, lt0, lt0] 1 2 = (⟨10, 0, 0, 255⟩, 0, [⟨true, 1, 1⟩, ⟨true, 1, 2⟩, lt0]) := by kernel_rfl
  have t3 : takeL xB [⟨true, 1, 1⟩, ⟨true, 1, 2⟩, lt0] 1 3 = (⟨10, 0, 1, 0⟩, 0, [⟨true, 1, 1⟩, ⟨true, 1, 2⟩, ⟨true, 1, 3⟩]) := by kernel_rfl
  have t4 : giveL [⟨true, 1, 1⟩, ⟨true, 1, 2⟩, ⟨true, 1, 3⟩] 1 1 = (0, [lt0, ⟨true, 1, 2⟩, ⟨true, 1, 3⟩]) := by kernel_rfl
  have t5 : takeL xB [lt0, ⟨true, 1, 2⟩, ⟨true, 1, 3⟩] 2 9 = (⟨10, 0, 0, 254⟩, 0, [⟨true, 2, 9⟩, ⟨true, 1, 2⟩, ⟨true, 1, 3⟩]) := by kernel_rfl
  have t6 : nFree [⟨true, 2, 9⟩, ⟨true, 1, 2⟩, ⟨true, 1, 3⟩] = 0 := by kernel_rfl
  have C1 : Hid (Calls Tryd.prog 9 #[.agg #[.int .u8 10, .int .u8 0, .int .u8 0, .int .u8 254], .int .i64 3] w fun e w' => ∃ b, e = .returned (.tuple #[.pointer (some ⟨b, 0, none⟩), .int .i64 0]) ∧ PMine w w' b xB (List.replicate 3 lt0)) := new_mine (Kept.refl (fun _ => False) w) xB 3 (by decide) (by decide) (by decide)
  have C2 : Hid (∀ b W, PMine w W b xB (List.replicate 3 lt0) → Calls Tryd.prog 11 #[.pointer (some ⟨b, 0, none⟩), .agg #[.int .i64 1, .int .i64 1]] W fun e w' => e = .returned (.tuple #[.agg #[.int .u8 10, .int .u8 0, .int .u8 0, .int .u8 254], .int .i64 0]) ∧ PMine w w' b xB [⟨true, 1, 1⟩, lt0, lt0] ∧ PpK w.heap.size W w') := fun b W h => h.take i1 i1 _ t1
  have C3 : Hid (∀ b W, PMine w W b xB [⟨true, 1, 1⟩, lt0, lt0] → Calls Tryd.prog 11 #[.pointer (some ⟨b, 0, none⟩), .agg #[.int .i64 1, .int .i64 2]] W fun e w' => e = .returned (.tuple #[.agg #[.int .u8 10, .int .u8 0, .int .u8 0, .int .u8 255], .int .i64 0]) ∧ PMine w w' b xB [⟨true, 1, 1⟩, ⟨true, 1, 2⟩, lt0] ∧ PpK w.heap.size W w') := fun b W h => h.take i1 i2 _ t2
  have C4 : Hid (∀ b W, PMine w W b xB [⟨true, 1, 1⟩, ⟨true, 1, 2⟩, lt0] → Calls Tryd.prog 11 #[.pointer (some ⟨b, 0, none⟩), .agg #[.int .i64 1, .int .i64 3]] W fun e w' => e = .returned (.tuple #[.agg #[.int .u8 10, .int .u8 0, .int .u8 1, .int .u8 0], .int .i64 0]) ∧ PMine w w' b xB [⟨true, 1, 1⟩, ⟨true, 1, 2⟩, ⟨true, 1, 3⟩] ∧ PpK w.heap.size W w') := fun b W h => h.take i1 i3 _ t3
  have C5 : Hid (∀ b W, PMine w W b xB [⟨true, 1, 1⟩, ⟨true, 1, 2⟩, ⟨true, 1, 3⟩] → Calls Tryd.prog 13 #[.pointer (some ⟨b, 0, none⟩), .agg #[.int .i64 1, .int .i64 1]] W fun e w' => e = .returned (.int .i64 0) ∧ PMine w w' b xB [lt0, ⟨true, 1, 2⟩, ⟨true, 1, 3⟩] ∧ PpK w.heap.size W w') := fun b W h => h.give i1 i1 _ t4
  have C6 : Hid (∀ b W, PMine w W b xB [lt0, ⟨true, 1, 2⟩, ⟨true, 1, 3⟩] → Calls Tryd.prog 11 #[.pointer (some ⟨b, 0, none⟩), .agg #[.int .i64 2, .int .i64 9]] W fun e w' => e = .returned (.tuple #[.agg #[.int .u8 10, .int .u8 0, .int .u8 0, .int .u8 254], .int .i64 0]) ∧ PMine w w' b xB [⟨true, 2, 9⟩, ⟨true, 1, 2⟩, ⟨true, 1, 3⟩] ∧ PpK w.heap.size W w') := fun b W h => h.take i2 i9 _ t5
  have C7 : Hid (∀ W, Kept (fun _ => False) w W → Calls Tryd.prog 23 #[.agg #[.int .u8 10, .int .u8 0, .int .u8 1, .int .u8 0]] W fun e w' => e = .returned (.string ⟨#[49, 48, 46, 48, 46, 49, 46, 48]⟩) ∧ Kept (fun _ => False) W w') := fun W hk => by
    have := text_any ⟨10, 0, 1, 0⟩ W (hT.kept hk)
    rw [text_alive] at this
    exact this
  have C8 : Hid (∀ b W, PMine w W b xB [⟨true, 2, 9⟩, ⟨true, 1, 2⟩, ⟨true, 1, 3⟩] → Calls Tryd.prog 19 #[.pointer (some ⟨b, 0, none⟩)] W fun e w' => e = .returned (.int .i64 0) ∧ PMine w w' b xB [⟨true, 2, 9⟩, ⟨true, 1, 2⟩, ⟨true, 1, 3⟩] ∧ Kept (fun _ => False) W w') := fun b W h => by
    have := h.free
    rw [t6] at this
    exact this
  have q1 : ∀ W, Sem.run Tryd.prog (Op.equalIn 10000 23 (.agg #[.int .u8 10, .int .u8 0, .int .u8 1, .int .u8 0]) (.agg #[.int .u8 10, .int .u8 0, .int .u8 1, .int .u8 0])) W = .ok true W := fun W => by
    have := ad_eq ⟨10, 0, 1, 0⟩ ⟨10, 0, 1, 0⟩ W
    rw [decide_eq_true rfl] at this
    exact this
  have q2 : ∀ W, Sem.run Tryd.prog (Op.equalIn 10000 23 (.agg #[.int .u8 10, .int .u8 0, .int .u8 0, .int .u8 254]) (.agg #[.int .u8 10, .int .u8 0, .int .u8 0, .int .u8 254])) W = .ok true W := fun W => by
    have := ad_eq ⟨10, 0, 0, 254⟩ ⟨10, 0, 0, 254⟩ W
    rw [decide_eq_true rfl] at this
    exact this
  clear t1 t2 t3 t4 t5 t6 i1 i2 i3 i9 hT
  generalize xB = X0 at *
  go_enter Tryd.func8, Tryd.ntmps8
  go_wp2_with fail
  refine C1.out.mono ?_
  rintro e w1 ⟨b, rfl, h1⟩
  have H1 := hid h1
  clear h1 C1
  go_wp2_with fail
  refine (C2.out _ _ H1.out).mono ?_
  rintro e w2 ⟨rfl, h2, _⟩
  have H2 := hid h2
  clear h2 C2 H1
  go_wp2_with fail
  refine (C3.out _ _ H2.out).mono ?_
  rintro e w3 ⟨rfl, h3, _⟩
  have H3 := hid h3
  clear h3 C3 H2
  go_wp2_with fail
  refine (C4.out _ _ H3.out).mono ?_
  rintro e w4 ⟨rfl, h4, _⟩
  have H4 := hid (h4.still ((Kept.refl _ _).alloc (.cells #[.int .u8 10, .int .u8 0, .int .u8 1, .int .u8 0] 23)))
  have A4 := hid (four4_new w4 23 (.int .u8 10) (.int .u8 0) (.int .u8 1) (.int .u8 0))
  clear h4 C4 H3
  go_upto_region 7 with fail
  generalize w4.alloc (.cells #[.int .u8 10, .int .u8 0, .int .u8 1, .int .u8 0] 23) = V4 at *
  generalize w4.heap.size = ab at *
  go_wp2_with fail
  refine (C5.out _ _ H4.out).mono ?_
  rintro e w5 ⟨rfl, h5, k5⟩
  have H5 := hid h5
  have A5 := hid (A4.out.ppk k5)
  clear h5 k5 C5 H4 A4
  go_wp2_with fail
  refine (C6.out _ _ H5.out).mono ?_
  rintro e w6 ⟨rfl, h6, k6⟩
  have H6 := hid (h6.still ((Kept.refl _ _).alloc (.cells #[.int .u8 10, .int .u8 0, .int .u8 0, .int .u8 254] 23)))
  have A6 := hid ((A5.out.ppk k6).kept ((Kept.refl (fun _ => False) _).alloc (.cells #[.int .u8 10, .int .u8 0, .int .u8 0, .int .u8 254] 23)) (fun h => h))
  have B6 := hid (four4_new w6 23 (.int .u8 10) (.int .u8 0) (.int .u8 0) (.int .u8 254))
  clear h6 k6 C6 H5 A5
  go_upto_region 9 with fail
  generalize w6.alloc (.cells #[.int .u8 10, .int .u8 0, .int .u8 0, .int .u8 254] 23) = V6 at *
  generalize w6.heap.size = bb at *
  obtain ⟨⟨a0, a1, a2, a3⟩, _⟩ := A6.out
  obtain ⟨⟨b0, b1, b2, b3⟩, _⟩ := B6.out
  go_wp2_with fail
  refine (C7.out _ H6.out.kept).mono ?_
  rintro e w7 ⟨rfl, k7⟩
  have H7 := hid (H6.out.still k7)
  clear k7 a0 a1 a2 a3 b0 b1 b2 b3 C7 H6
  go_wp2_with fail
  refine (C8.out _ _ H7.out).mono ?_
  rintro e w8 ⟨rfl, h8, _⟩
  have H8 := hid h8
  clear h8 C8 H7
  go_wp2
  go_ret
  exact ⟨rfl, H8.out.kept⟩
end Go.Proofs.YtblcojggjplndaaDoor
