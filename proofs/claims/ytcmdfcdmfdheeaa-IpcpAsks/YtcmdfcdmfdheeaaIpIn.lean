/- The contracts of ipcp's number, bytesOf, isNought, option, Good: addresses as numbers and as bytes. · The contract of ipcp's rule. · Rules as rows of memory, five cells each: lists of a call's own, and 'append' of a list that is read onto one. · The contract of ipcp's Server. · The laws' alive (chapter 17). -/
import Derived.Test.YtcmdfcdmfdheeaaPlEq
import Derived.Test.YtcmdfcdmfdheeaaOpFind
import Derived.Test.YtcmdfcdmfdheeaaPlain
import Derived.Test.YtcmdfcdmfdheeaaNgFits
import Derived.Test.YtcmdfcdmfdheeaaNgMem
import Derived.Test.YtcmdfcdmfdheeaaNgPlain
import Derived.Deep.Upon
import Derived.Lib.AppendZeros
import Derived.Maps.AppendAt
import Derived.Test.YtcmdfcdmfdheeaaNgMake
import Derived.Test.YtcmdfcdmfdheeaaNmIn
import Derived.Test.YtcmdfcdmfdheeaaNgSentK
namespace Go.Proofs.Ytcmdfcdmfdheeaa
open Go.RowKit

/-- An address as four bytes. -/
def adB (x : Ad) : ByteArray := ⟨#[x.a, x.b, x.c, x.d]⟩
theorem adB_size (x : Ad) : (adB x).size = 4 := rfl
theorem adB_num (x : Ad) : (numOf (adB x).data.toList : Int) = numAd x := by
  unfold adB numAd
  simp [numOf]
  omega
theorem adB_inj {x y : Ad} (h : adB x = adB y) : x = y := by
  cases x
  cases y
  simpa [adB] using h
/-- Is it of noughts? -/
def noB (x : Ad) : Bool := decide (numAd x = numAd ad0)
theorem noB_iff {x : Ad} : noB x = true ↔ x = ad0 := by
  unfold noB
  rw [decide_eq_true_iff]
  exact ⟨fun h => numAd_inj h, fun h => by rw [h]⟩
def goodF (x y : Ad) : Bool := decide (numAd x = numAd y) && !noB x

theorem ad_conv {W : World} {g : Nat} {x : Ad} (h : W.cell? ⟨g, 0, none⟩ = some (.int .u8 (x.a.toNat : Int)) ∧ W.cell? ⟨g, 1, none⟩ = some (.int .u8 (x.b.toNat : Int)) ∧ W.cell? ⟨g, 2, none⟩ = some (.int .u8 (x.c.toNat : Int)) ∧ W.cell? ⟨g, 3, none⟩ = some (.int .u8 (x.d.toNat : Int))) :
    (convert 100 9 (.slice (some ⟨g, 0, none⟩) 4 4)).run Try.prog W = .ok (.string (adB x)) W := by
  obtain ⟨h0, h1, h2, h3⟩ := h
  have hb := run_convert_bytes_arg (P := Try.prog) W 100 5 Try.underlying100 Try.underlying5 g 0 4 4 ([x.a, x.b, x.c, x.d].map fun b => (b.toNat : Int)) rfl (fun i hi => by
    match i, hi with
    | 0, _ => exact h0
    | 1, _ => exact h1
    | 2, _ => exact h2
    | 3, _ => exact h3) 9 Try.underlying9
  have e : strOfNums ([x.a, x.b, x.c, x.d].map fun b => (b.toNat : Int)) = adB x := by
    apply ByteArray.ext
    apply Array.toList_inj.1
    rw [strOfNums_data, List.map_map]
    refine (List.map_congr_left (g := id) ?_).trans (List.map_id [x.a, x.b, x.c, x.d])
    intro x _
    simp
  rw [hb, e]

set_option maxHeartbeats 1000000 in
set_option maxRecDepth 100000 in
theorem bytesOf_any (x : Ad) (w : World) : Calls Try.prog 39 #[adV x] w fun e w' => e = .returned (.string (adB x)) ∧ Kept (fun _ => False) w w' := by
  have hO := four4_new w 24 (.int .u8 (x.a.toNat : Int)) (.int .u8 (x.b.toNat : Int)) (.int .u8 (x.c.toNat : Int)) (.int .u8 (x.d.toNat : Int))
  have hcv := ad_conv (x := x) hO.1
  have K1 := hid ((Kept.refl (fun _ => False) w).alloc (.cells #[.int .u8 (x.a.toNat : Int), .int .u8 (x.b.toNat : Int), .int .u8 (x.c.toNat : Int), .int .u8 (x.d.toNat : Int)] 24))
  clear hO
  unfold adV
  generalize adB x = B at *
  go_enter Try.func39, Try.ntmps39
  go_wp2
  go_ret
  exact ⟨rfl, K1.out⟩

theorem or_add {a b k : Nat} (hb : b < 2 ^ k) : (a * 2 ^ k) ||| b = a * 2 ^ k + b := by
  rw [Nat.mul_comm, Nat.two_pow_add_eq_or_of_lt hb]
theorem num_or64 (a b c d : Nat) (ha : a < 256) (hb : b < 256) (hc : c < 256) (hd : d < 256) :
    bits .or .i64 (bits .or .i64 (bits .or .i64 ((a : Int) * 16777216) ((b : Int) * 65536)) ((c : Int) * 256)) (d : Int) = (a : Int) * 16777216 + (b : Int) * 65536 + (c : Int) * 256 + (d : Int) := by
  have h1 : (a * 16777216) ||| (b * 65536) = a * 16777216 + b * 65536 := or_add (k := 24) (by omega)
  have h2 : (a * 16777216 + b * 65536) ||| (c * 256) = a * 16777216 + b * 65536 + c * 256 := by
    have := or_add (a := a * 256 + b) (b := c * 256) (k := 16) (by omega)
    rw [show (a * 256 + b) * 2 ^ 16 = a * 16777216 + b * 65536 by omega] at this
    exact this
  have h3 : (a * 16777216 + b * 65536 + c * 256) ||| d = a * 16777216 + b * 65536 + c * 256 + d := by
    have := or_add (a := a * 65536 + b * 256 + c) (b := d) (k := 8) (by omega)
    rw [show (a * 65536 + b * 256 + c) * 2 ^ 8 = a * 16777216 + b * 65536 + c * 256 by omega] at this
    exact this
  have e1 : (a : Int) * 16777216 = ((a * 16777216 : Nat) : Int) := by omega
  have e2 : (b : Int) * 65536 = ((b * 65536 : Nat) : Int) := by omega
  have e3 : (c : Int) * 256 = ((c * 256 : Nat) : Int) := by omega
  rw [e1, e2, e3, i64_or_nat _ _ (by omega) (by omega), h1, i64_or_nat _ _ (by omega) (by omega), h2, i64_or_nat _ _ (by omega) (by omega), h3]
  omega

set_option maxHeartbeats 1000000 in
set_option maxRecDepth 100000 in
theorem inumber_any (x : Ad) (w : World) : Calls Try.prog 38 #[adV x] w fun e w' => e = .returned (.int .i64 (numAd x)) ∧ Kept (fun _ => False) w w' := by
  have h1 := x.a.toNat_lt; have h2 := x.b.toNat_lt; have h3 := x.c.toNat_lt; have h4 := x.d.toNat_lt
  unfold adV numAd
  generalize x.a.toNat = a at *
  generalize x.b.toNat = b at *
  generalize x.c.toNat = c at *
  generalize x.d.toNat = d at *
  obtain ⟨⟨c0, c1, c2, c3⟩, _⟩ := four4_new w 24 (.int .u8 (a : Int)) (.int .u8 (b : Int)) (.int .u8 (c : Int)) (.int .u8 (d : Int))
  have K1 := hid ((Kept.refl (fun _ => False) w).alloc (.cells #[.int .u8 (a : Int), .int .u8 (b : Int), .int .u8 (c : Int), .int .u8 (d : Int)] 24))
  have wa : IntKind.i64.wrap (a : Int) = a := by rw [IntKind.wrap_i64]; omega
  have wb : IntKind.i64.wrap (b : Int) = b := by rw [IntKind.wrap_i64]; omega
  have wc : IntKind.i64.wrap (c : Int) = c := by rw [IntKind.wrap_i64]; omega
  have wd : IntKind.i64.wrap (d : Int) = d := by rw [IntKind.wrap_i64]; omega
  have m1 : IntKind.i64.wrap ((a : Int) * 16777216) = (a : Int) * 16777216 := by rw [IntKind.wrap_i64]; omega
  have m2 : IntKind.i64.wrap ((b : Int) * 65536) = (b : Int) * 65536 := by rw [IntKind.wrap_i64]; omega
  have m3 : IntKind.i64.wrap ((c : Int) * 256) = (c : Int) * 256 := by rw [IntKind.wrap_i64]; omega
  have HN := hid (num_or64 a b c d (by omega) (by omega) (by omega) (by omega))
  go_enter Try.func38, Try.ntmps38
  go_wp2
  go_ret
  exact ⟨by rw [← HN.out]; rfl, K1.out⟩

set_option maxHeartbeats 1000000 in
set_option maxRecDepth 100000 in
theorem isNought_any (x : Ad) (w : World) : Calls Try.prog 23 #[adV x] w fun e w' => e = .returned (.bool (noB x)) ∧ Kept (fun _ => False) w w' := by
  obtain ⟨⟨c0, c1, c2, c3⟩, _⟩ := four4_new w 24 (.int .u8 (x.a.toNat : Int)) (.int .u8 (x.b.toNat : Int)) (.int .u8 (x.c.toNat : Int)) (.int .u8 (x.d.toNat : Int))
  have K1 := hid ((Kept.refl (fun _ => False) w).alloc (.cells #[.int .u8 (x.a.toNat : Int), .int .u8 (x.b.toNat : Int), .int .u8 (x.c.toNat : Int), .int .u8 (x.d.toNat : Int)] 24))
  have hE := ad_eq x ad0
  rw [show decide (numAd x = numAd ad0) = noB x from rfl, show adV ad0 = .agg #[.int .u8 0, .int .u8 0, .int .u8 0, .int .u8 0] from rfl] at hE
  unfold adV at hE ⊢
  generalize noB x = B at *
  go_enter Try.func23, Try.ntmps23
  go_upto_region 1 with fail
  iterate 8 go_step
  refine wp_eql (by kernel_rfl) rfl (by rfl) (by rfl) (hE _) ?_
  go_wp2
  go_ret
  exact ⟨rfl, K1.out⟩

set_option maxHeartbeats 1000000 in
set_option maxRecDepth 100000 in
theorem good_any (x y : Ad) (w : World) : Calls Try.prog 11 #[adV x, adV y] w fun e w' => e = .returned (.bool (goodF x y)) ∧ Kept (fun _ => False) w w' := by
  have k0 := (Kept.refl (fun _ => False) w).alloc (.cells #[.int .u8 (x.a.toNat : Int), .int .u8 (x.b.toNat : Int), .int .u8 (x.c.toNat : Int), .int .u8 (x.d.toNat : Int)] 24)
  have k1 := (Kept.refl (fun _ => False) (w.alloc (.cells #[.int .u8 (x.a.toNat : Int), .int .u8 (x.b.toNat : Int), .int .u8 (x.c.toNat : Int), .int .u8 (x.d.toNat : Int)] 24))).alloc (.cells #[.int .u8 (y.a.toNat : Int), .int .u8 (y.b.toNat : Int), .int .u8 (y.c.toNat : Int), .int .u8 (y.d.toNat : Int)] 24)
  have hX := (four4_new w 24 (.int .u8 (x.a.toNat : Int)) (.int .u8 (x.b.toNat : Int)) (.int .u8 (x.c.toNat : Int)) (.int .u8 (x.d.toNat : Int))).kept k1 id
  have hY := four4_new (w.alloc (.cells #[.int .u8 (x.a.toNat : Int), .int .u8 (x.b.toNat : Int), .int .u8 (x.c.toNat : Int), .int .u8 (x.d.toNat : Int)] 24)) 24 (.int .u8 (y.a.toNat : Int)) (.int .u8 (y.b.toNat : Int)) (.int .u8 (y.c.toNat : Int)) (.int .u8 (y.d.toNat : Int))
  have hsz : (w.alloc (.cells #[.int .u8 (x.a.toNat : Int), .int .u8 (x.b.toNat : Int), .int .u8 (x.c.toNat : Int), .int .u8 (x.d.toNat : Int)] 24)).heap.size = w.heap.size + 1 := by simp
  rw [hsz] at hY
  have hE := ad_eq x y
  have HN := hid (isNought_any x)
  have KA := hid (k0.trans k1)
  unfold adV at hE HN ⊢
  obtain ⟨⟨x0, x1, x2, x3⟩, _⟩ := hX
  obtain ⟨⟨y0, y1, y2, y3⟩, _⟩ := hY
  unfold goodF
  generalize decide (numAd x = numAd y) = B at *
  generalize noB x = C at *
  clear k0 k1
  cases B with
  | false =>
    go_enter Try.func11, Try.ntmps11
    go_upto_region 1 with fail
    iterate 8 go_step
    refine wp_eql (by kernel_rfl) rfl (by rfl) (by rfl) (hE _) ?_
    clear hE
    go_wp2_with fail
    go_ret
    exact ⟨rfl, KA.out⟩
  | true =>
    go_enter Try.func11, Try.ntmps11
    go_upto_region 1 with fail
    iterate 8 go_step
    refine wp_eql (by kernel_rfl) rfl (by rfl) (by rfl) (hE _) ?_
    clear hE
    go_wp2_with fail
    refine (HN.out _).mono ?_
    rintro e w2 ⟨rfl, hk2⟩
    go_wp2
    go_ret
    exact ⟨by cases C <;> rfl, KA.out.trans hk2⟩

set_option maxHeartbeats 1000000 in
set_option maxRecDepth 100000 in
theorem option_any (k : Int) (x : Ad) (w : World) : Calls Try.prog 26 #[.int .i64 k, adV x] w fun e w' => e = .returned (.agg #[.int .i64 k, .string (adB x)]) ∧ Kept (fun _ => False) w w' := by
  have k0 := (Kept.refl (fun _ => False) w).alloc (.cells #[.int .u8 (x.a.toNat : Int), .int .u8 (x.b.toNat : Int), .int .u8 (x.c.toNat : Int), .int .u8 (x.d.toNat : Int)] 24)
  have k1 := (Kept.refl (fun _ => False) (w.alloc (.cells #[.int .u8 (x.a.toNat : Int), .int .u8 (x.b.toNat : Int), .int .u8 (x.c.toNat : Int), .int .u8 (x.d.toNat : Int)] 24))).alloc (.cells #[.int .i64 0, .string ⟨#[]⟩] 51)
  have hX := (four4_new w 24 (.int .u8 (x.a.toNat : Int)) (.int .u8 (x.b.toNat : Int)) (.int .u8 (x.c.toNat : Int)) (.int .u8 (x.d.toNat : Int))).kept k1 id
  have hO := two2_new (w.alloc (.cells #[.int .u8 (x.a.toNat : Int), .int .u8 (x.b.toNat : Int), .int .u8 (x.c.toNat : Int), .int .u8 (x.d.toNat : Int)] 24)) 51 (.int .i64 0) (.string ⟨#[]⟩)
  have hsz : (w.alloc (.cells #[.int .u8 (x.a.toNat : Int), .int .u8 (x.b.toNat : Int), .int .u8 (x.c.toNat : Int), .int .u8 (x.d.toNat : Int)] 24)).heap.size = w.heap.size + 1 := by simp
  have hf := fun j => frozen_of_row _ (w.alloc (.cells #[.int .u8 (x.a.toNat : Int), .int .u8 (x.b.toNat : Int), .int .u8 (x.c.toNat : Int), .int .u8 (x.d.toNat : Int)] 24)).heap.size j #[.int .i64 0, .string ⟨#[]⟩] 51 (heap_alloc_new (w.alloc (.cells #[.int .u8 (x.a.toNat : Int), .int .u8 (x.b.toNat : Int), .int .u8 (x.c.toNat : Int), .int .u8 (x.d.toNat : Int)] 24)) _)
  rw [hsz] at hO hf
  have HB := hid (bytesOf_any x)
  have KA := hid (k0.trans k1)
  unfold adV at HB
  unfold adV
  obtain ⟨⟨x0, x1, x2, x3⟩, _⟩ := hX
  have HO := hid hO
  have Hf := hid hf
  have Hlt := hid (lt_of_cell hO.1)
  generalize adB x = B at *
  clear k0 k1 hO hf
  go_enter Try.func26, Try.ntmps26
  go_wp2_with fail
  refine (HB.out _).mono ?_
  rintro e w2 ⟨rfl, hk2⟩
  obtain ⟨o0, o1⟩ := HO.out.kept hk2 id
  have f0 := (hk2.frozen (p := ⟨w.heap.size + 1, 0, none⟩) Hlt.out id).trans (Hf.out 0)
  have f1 := (hk2.frozen (p := ⟨w.heap.size + 1, 1, none⟩) Hlt.out id).trans (Hf.out 1)
  have KB := hid (KA.out.trans hk2)
  clear hk2
  go_wp2
  refine bodyPost_ret (v := .agg #[.int .i64 k, .string B]) (by simp [results, Try.results26, go_sem, o0, o1]) rfl ⟨rfl, ?_⟩
  exact (KB.out.setCell (Or.inl (by simp)) _).setCell (Or.inl (by simp)) _
end Go.Proofs.Ytcmdfcdmfdheeaa

namespace Go.Proofs.Ytcmdfcdmfdheeaa
open Go.RowKit

/-- The rule of the addresses from x to y. -/
def ruleA (k : Int) (x y : Ad) : Rl := ⟨k, 4, numAd x, numAd y, adB x⟩

/-- What rule stands upon: both addresses, and the block of its result. -/
structure RuK (A : World) (b c r : Nat) (x y : Ad) (W : World) : Prop where
  hx : Four4 W b (.int .u8 (x.a.toNat : Int)) (.int .u8 (x.b.toNat : Int)) (.int .u8 (x.c.toNat : Int)) (.int .u8 (x.d.toNat : Int))
  hy : Four4 W c (.int .u8 (y.a.toNat : Int)) (.int .u8 (y.b.toNat : Int)) (.int .u8 (y.c.toNat : Int)) (.int .u8 (y.d.toNat : Int))
  hr : ∃ c0 c1 c2 c3 c4, W.heap[r]? = some (.cells #[c0, c1, c2, c3, c4] 56 (0, 0))
  k : Kept (fun i => i = r) A W
theorem RuK.kept {A W W' : World} {b c r : Nat} {x y : Ad} (h : RuK A b c r x y W) (hk : Kept (fun _ => False) W W') : RuK A b c r x y W' := by
  obtain ⟨c0, c1, c2, c3, c4, hr⟩ := h.hr
  exact ⟨h.hx.kept hk id, h.hy.kept hk id, ⟨c0, c1, c2, c3, c4, (hk.block r (Array.getElem?_eq_some_iff.1 hr).1 id).trans hr⟩, h.k.trans (hk.mono (fun _ _ h => h.elim))⟩

set_option maxHeartbeats 4000000 in
set_option maxRecDepth 100000 in
theorem rule_any (k : Int) (x y : Ad) (w : World) : Calls Try.prog 24 #[.int .i64 k, adV x, adV y] w fun e w' => e = .returned (rlV (ruleA k x y)) ∧ Kept (fun _ => False) w w' := by
  have k0 := (Kept.refl (fun _ => False) w).alloc (.cells #[.int .u8 (x.a.toNat : Int), .int .u8 (x.b.toNat : Int), .int .u8 (x.c.toNat : Int), .int .u8 (x.d.toNat : Int)] 24)
  have k1 := (Kept.refl (fun _ => False) (w.alloc (.cells #[.int .u8 (x.a.toNat : Int), .int .u8 (x.b.toNat : Int), .int .u8 (x.c.toNat : Int), .int .u8 (x.d.toNat : Int)] 24))).alloc (.cells #[.int .u8 (y.a.toNat : Int), .int .u8 (y.b.toNat : Int), .int .u8 (y.c.toNat : Int), .int .u8 (y.d.toNat : Int)] 24)
  have k2 := (Kept.refl (fun _ => False) ((w.alloc (.cells #[.int .u8 (x.a.toNat : Int), .int .u8 (x.b.toNat : Int), .int .u8 (x.c.toNat : Int), .int .u8 (x.d.toNat : Int)] 24)).alloc (.cells #[.int .u8 (y.a.toNat : Int), .int .u8 (y.b.toNat : Int), .int .u8 (y.c.toNat : Int), .int .u8 (y.d.toNat : Int)] 24))).alloc (.cells #[.int .i64 0, .int .i64 0, .int .i64 0, .int .i64 0, .string ⟨#[]⟩] 56)
  have hX := ((four4_new w 24 (.int .u8 (x.a.toNat : Int)) (.int .u8 (x.b.toNat : Int)) (.int .u8 (x.c.toNat : Int)) (.int .u8 (x.d.toNat : Int))).kept k1 id).kept k2 id
  have hY := (four4_new (w.alloc (.cells #[.int .u8 (x.a.toNat : Int), .int .u8 (x.b.toNat : Int), .int .u8 (x.c.toNat : Int), .int .u8 (x.d.toNat : Int)] 24)) 24 (.int .u8 (y.a.toNat : Int)) (.int .u8 (y.b.toNat : Int)) (.int .u8 (y.c.toNat : Int)) (.int .u8 (y.d.toNat : Int))).kept k2 id
  have hR := heap_alloc_new ((w.alloc (.cells #[.int .u8 (x.a.toNat : Int), .int .u8 (x.b.toNat : Int), .int .u8 (x.c.toNat : Int), .int .u8 (x.d.toNat : Int)] 24)).alloc (.cells #[.int .u8 (y.a.toNat : Int), .int .u8 (y.b.toNat : Int), .int .u8 (y.c.toNat : Int), .int .u8 (y.d.toNat : Int)] 24)) (.cells #[.int .i64 0, .int .i64 0, .int .i64 0, .int .i64 0, .string ⟨#[]⟩] 56)
  have hs1 : (w.alloc (.cells #[.int .u8 (x.a.toNat : Int), .int .u8 (x.b.toNat : Int), .int .u8 (x.c.toNat : Int), .int .u8 (x.d.toNat : Int)] 24)).heap.size = w.heap.size + 1 := by simp
  have hs2 : ((w.alloc (.cells #[.int .u8 (x.a.toNat : Int), .int .u8 (x.b.toNat : Int), .int .u8 (x.c.toNat : Int), .int .u8 (x.d.toNat : Int)] 24)).alloc (.cells #[.int .u8 (y.a.toNat : Int), .int .u8 (y.b.toNat : Int), .int .u8 (y.c.toNat : Int), .int .u8 (y.d.toNat : Int)] 24)).heap.size = w.heap.size + 2 := by simp
  rw [hs1] at hY
  rw [hs2] at hR
  have HNx := hid (inumber_any x)
  have HNy := hid (inumber_any y)
  have HBx := hid (bytesOf_any x)
  have KA := hid ((k0.trans k1).trans k2)
  unfold adV at HNx HNy HBx ⊢
  unfold rlV ruleA
  simp only
  generalize numAd x = NX at *
  generalize numAd y = NY at *
  generalize adB x = BX at *
  generalize hA : (((w.alloc (.cells #[.int .u8 (x.a.toNat : Int), .int .u8 (x.b.toNat : Int), .int .u8 (x.c.toNat : Int), .int .u8 (x.d.toNat : Int)] 24)).alloc (.cells #[.int .u8 (y.a.toNat : Int), .int .u8 (y.b.toNat : Int), .int .u8 (y.c.toNat : Int), .int .u8 (y.d.toNat : Int)] 24)).alloc (.cells #[.int .i64 0, .int .i64 0, .int .i64 0, .int .i64 0, .string ⟨#[]⟩] 56)) = A at *
  have HA := hid hA
  have S0 : RuK A w.heap.size (w.heap.size + 1) (w.heap.size + 2) x y A.drew := (RuK.mk hX hY ⟨_, _, _, _, _, hR⟩ (Kept.refl _ A)).kept ((Kept.refl _ _).drew)
  have x0 : ∀ W, RuK A w.heap.size (w.heap.size + 1) (w.heap.size + 2) x y W → W.cell? ⟨w.heap.size, 0, none⟩ = some (.int .u8 (x.a.toNat : Int)) := fun W h => h.hx.1.1
  have x1 : ∀ W, RuK A w.heap.size (w.heap.size + 1) (w.heap.size + 2) x y W → W.cell? ⟨w.heap.size, 1, none⟩ = some (.int .u8 (x.b.toNat : Int)) := fun W h => h.hx.1.2.1
  have x2 : ∀ W, RuK A w.heap.size (w.heap.size + 1) (w.heap.size + 2) x y W → W.cell? ⟨w.heap.size, 2, none⟩ = some (.int .u8 (x.c.toNat : Int)) := fun W h => h.hx.1.2.2.1
  have x3 : ∀ W, RuK A w.heap.size (w.heap.size + 1) (w.heap.size + 2) x y W → W.cell? ⟨w.heap.size, 3, none⟩ = some (.int .u8 (x.d.toNat : Int)) := fun W h => h.hx.1.2.2.2
  have y0 : ∀ W, RuK A w.heap.size (w.heap.size + 1) (w.heap.size + 2) x y W → W.cell? ⟨w.heap.size + 1, 0, none⟩ = some (.int .u8 (y.a.toNat : Int)) := fun W h => h.hy.1.1
  have y1 : ∀ W, RuK A w.heap.size (w.heap.size + 1) (w.heap.size + 2) x y W → W.cell? ⟨w.heap.size + 1, 1, none⟩ = some (.int .u8 (y.b.toNat : Int)) := fun W h => h.hy.1.2.1
  have y2 : ∀ W, RuK A w.heap.size (w.heap.size + 1) (w.heap.size + 2) x y W → W.cell? ⟨w.heap.size + 1, 2, none⟩ = some (.int .u8 (y.c.toNat : Int)) := fun W h => h.hy.1.2.2.1
  have y3 : ∀ W, RuK A w.heap.size (w.heap.size + 1) (w.heap.size + 2) x y W → W.cell? ⟨w.heap.size + 1, 3, none⟩ = some (.int .u8 (y.d.toNat : Int)) := fun W h => h.hy.1.2.2.2
  clear k0 k1 k2 hX hY hR hs1 hs2 hA
  go_enter Try.func24, Try.ntmps24
  go_upto_region 1 with fail
  rw [HA.out]
  clear HA
  refine wp_region_held_drew (S := RuK A w.heap.size (w.heap.size + 1) (w.heap.size + 2) x y) (by kernel_rfl) (S0) (fun hSd => ?_)
  refine wpAnyH_take (i := 0) (v := ?_) rfl (by kernel_rfl) (by kernel_rfl) (by kernel_rfl) (fun _ _ _ h => h) (Or.inl ⟨by kernel_rfl, fun W hSW => by go_simp; try with_reducible rfl⟩) (by assumption) ?_
  try simp only [List.getElem_toArray]
  try simp only [List.getElem_cons_succ]
  try simp only [List.getElem_cons_zero]
  try simp only [Act.put]
  try simp only [List.setIfInBounds_toArray]
  try simp only [List.set_cons_succ]
  try simp only [List.set_cons_zero]
  refine wpAnyH_take (i := 1) (v := ?_) rfl (by kernel_rfl) (by kernel_rfl) (by kernel_rfl) (fun _ _ _ h => h) (Or.inl ⟨by kernel_rfl, fun W hSW => by go_simp; try with_reducible rfl⟩) (by assumption) ?_
  try simp only [List.getElem_toArray]
  try simp only [List.getElem_cons_succ]
  try simp only [List.getElem_cons_zero]
  try simp only [Act.put]
  try simp only [List.setIfInBounds_toArray]
  try simp only [List.set_cons_succ]
  try simp only [List.set_cons_zero]
  refine wpAnyH_take (i := 3) (v := ?_) rfl (by kernel_rfl) (by kernel_rfl) (by kernel_rfl) (fun _ _ _ h => h) (Or.inl ⟨by kernel_rfl, fun W hSW => by go_simp; try with_reducible rfl⟩) (by assumption) ?_
  try simp only [List.getElem_toArray]
  try simp only [List.getElem_cons_succ]
  try simp only [List.getElem_cons_zero]
  try simp only [Act.put]
  try simp only [List.setIfInBounds_toArray]
  try simp only [List.set_cons_succ]
  try simp only [List.set_cons_zero]
  refine wpAnyH_take (i := 5) (v := ?_) rfl (by kernel_rfl) (by kernel_rfl) (by kernel_rfl) (fun _ _ _ h => h) (Or.inl ⟨by kernel_rfl, fun W hSW => by go_simp; try with_reducible rfl⟩) (by assumption) ?_
  try simp only [List.getElem_toArray]
  try simp only [List.getElem_cons_succ]
  try simp only [List.getElem_cons_zero]
  try simp only [Act.put]
  try simp only [List.setIfInBounds_toArray]
  try simp only [List.set_cons_succ]
  try simp only [List.set_cons_zero]
  refine wpAnyH_ready (rs := [2]) (by kernel_rfl) (by simp) ?_
  refine AllReadyH.cons rfl (fun K hK => ?_) AllReadyH.nil
  go_simp
  refine (HNx.out _).mono ?_
  rintro e w2 ⟨rfl, hk2⟩
  have S2 := S0.kept hk2
  clear hk2
  refine hK.out _ _ (S2) (fun _ => ?_)
  clear hK K
  try simp only [List.getElem_toArray]
  try simp only [List.getElem_cons_succ]
  try simp only [List.getElem_cons_zero]
  try simp only [Act.put]
  try simp only [List.setIfInBounds_toArray]
  try simp only [List.set_cons_succ]
  try simp only [List.set_cons_zero]
  refine wpAnyH_ready (rs := [4]) (by kernel_rfl) (by simp) ?_
  refine AllReadyH.cons rfl (fun K hK => ?_) AllReadyH.nil
  go_simp
  refine (HNy.out _).mono ?_
  rintro e w3 ⟨rfl, hk3⟩
  have S3 := S2.kept hk3
  clear hk3
  refine hK.out _ _ (S3) (fun _ => ?_)
  clear hK K
  try simp only [List.getElem_toArray]
  try simp only [List.getElem_cons_succ]
  try simp only [List.getElem_cons_zero]
  try simp only [Act.put]
  try simp only [List.setIfInBounds_toArray]
  try simp only [List.set_cons_succ]
  try simp only [List.set_cons_zero]
  refine wpAnyH_ready (rs := [6]) (by kernel_rfl) (by simp) ?_
  refine AllReadyH.cons rfl (fun K hK => ?_) AllReadyH.nil
  go_simp
  refine (HBx.out _).mono ?_
  rintro e w4 ⟨rfl, hk4⟩
  have S4 := S3.kept hk4
  obtain ⟨c0, c1, c2, c3, c4, hr4⟩ := S4.hr
  have f0 : w4.frozen? ⟨w.heap.size + 2, 0, none⟩ = false := frozen_of_row _ _ 0 _ _ hr4
  have r0 : w4.cell? ⟨w.heap.size + 2, 0, none⟩ = some c0 := by simp [World.cell?, hr4]
  have f1 : w4.frozen? ⟨w.heap.size + 2, 1, none⟩ = false := frozen_of_row _ _ 1 _ _ hr4
  have r1 : w4.cell? ⟨w.heap.size + 2, 1, none⟩ = some c1 := by simp [World.cell?, hr4]
  have f2 : w4.frozen? ⟨w.heap.size + 2, 2, none⟩ = false := frozen_of_row _ _ 2 _ _ hr4
  have r2 : w4.cell? ⟨w.heap.size + 2, 2, none⟩ = some c2 := by simp [World.cell?, hr4]
  have f3 : w4.frozen? ⟨w.heap.size + 2, 3, none⟩ = false := frozen_of_row _ _ 3 _ _ hr4
  have r3 : w4.cell? ⟨w.heap.size + 2, 3, none⟩ = some c3 := by simp [World.cell?, hr4]
  have f4 : w4.frozen? ⟨w.heap.size + 2, 4, none⟩ = false := frozen_of_row _ _ 4 _ _ hr4
  have r4 : w4.cell? ⟨w.heap.size + 2, 4, none⟩ = some c4 := by simp [World.cell?, hr4]
  have H5 := Joins.block_setCell (Joins.block_setCell (Joins.block_setCell (Joins.block_setCell (Joins.block_setCell hr4 (i := 0) (.int .i64 k)) (i := 1) (.int .i64 4)) (i := 2) (.int .i64 NX)) (i := 3) (.int .i64 NY)) (i := 4) (.string BX)
  have K5 := (kept_cell w4 (w.heap.size + 2) 0 (.int .i64 k)).trans ((kept_cell _ (w.heap.size + 2) 1 (.int .i64 4)).trans ((kept_cell _ (w.heap.size + 2) 2 (.int .i64 NX)).trans ((kept_cell _ (w.heap.size + 2) 3 (.int .i64 NY)).trans (kept_cell _ (w.heap.size + 2) 4 (.string BX)))))
  have S5 : RuK A w.heap.size (w.heap.size + 1) (w.heap.size + 2) x y _ := ⟨S4.hx.kept K5 (by omega), S4.hy.kept K5 (by omega), ⟨_, _, _, _, _, H5⟩, S4.k.trans K5⟩
  clear hk4 K5
  refine hK.out _ _ (S4) (fun _ => ?_)
  clear hK K
  try simp only [List.getElem_toArray]
  try simp only [List.getElem_cons_succ]
  try simp only [List.getElem_cons_zero]
  try simp only [Act.put]
  try simp only [List.setIfInBounds_toArray]
  try simp only [List.set_cons_succ]
  try simp only [List.set_cons_zero]
  refine wpAnyH_take (i := 7) (v := ?_) rfl (by kernel_rfl) (by kernel_rfl) (by kernel_rfl) (fun _ _ _ h => h) (Or.inl ⟨by kernel_rfl, fun W hSW => by go_simp; try with_reducible rfl⟩) (by assumption) ?_
  try simp only [List.getElem_toArray]
  try simp only [List.getElem_cons_succ]
  try simp only [List.getElem_cons_zero]
  try simp only [Act.put]
  try simp only [List.setIfInBounds_toArray]
  try simp only [List.set_cons_succ]
  try simp only [List.set_cons_zero]
  refine wpAnyH_ready (rs := [8]) (by kernel_rfl) (by simp) ?_
  refine AllReadyH.cons rfl (fun K hK => ?_) AllReadyH.nil
  go_simp
  refine hK.out _ _ (S5) (fun _ => ?_)
  clear hK K
  try simp only [List.getElem_toArray]
  try simp only [List.getElem_cons_succ]
  try simp only [List.getElem_cons_zero]
  try simp only [Act.put]
  try simp only [List.setIfInBounds_toArray]
  try simp only [List.set_cons_succ]
  try simp only [List.set_cons_zero]
  refine wpAnyH_done (by kernel_rfl) ?_ _
  have KF := hid (KA.out.andThen S5.k (fun i hi e => by omega))
  clear x0 x1 x2 x3 y0 y1 y2 y3 S0 S2 S3 S4 S5 H5 hr4
  go_wp2
  refine bodyPost_ret (v := .agg #[.int .i64 k, .int .i64 4, .int .i64 NX, .int .i64 NY, .string BX]) (by simp [results, Try.results24, go_sem, r0, r1, r2, r3, r4]) rfl ⟨rfl, ?_⟩
  exact KF.out
end Go.Proofs.Ytcmdfcdmfdheeaa

namespace Go.Proofs.Ytcmdfcdmfdheeaa
open Go.RowKit

theorem infoRule : (Try.prog.info? 56).map (fun i => (i.zero, i.size, i.bytes)) = some (some (.agg #[.int .i64 0, .int .i64 0, .int .i64 0, .int .i64 0, .string ⟨#[]⟩]), 5, 48) := by kernel_rfl

def rowR (l : List Rl) : List Value := l.flatMap rlCells
theorem rowR_append (a b : List Rl) : rowR (a ++ b) = rowR a ++ rowR b := by simp [rowR]
theorem rowR_one (r : Rl) : rowR [r] = rlCells r := by simp [rowR]
theorem rowR_length (l : List Rl) : (rowR l).length = l.length * 5 := by
  induction l with
  | nil => rfl
  | cons a r ih => rw [rowR, List.flatMap_cons, List.length_append]; rw [rowR] at ih; rw [ih]; simp [rlCells]; omega
theorem rowR_get {l : List Rl} {k : Nat} {x : Rl} (h : l[k]? = some x) (j : Nat) (hj : j < 5) : (rowR l)[k * 5 + j]? = (rlCells x)[j]? := by
  induction l generalizing k with
  | nil => simp at h
  | cons a r ih =>
    have hc : rowR (a :: r) = rlCells a ++ rowR r := by simp [rowR]
    cases k with
    | zero =>
      simp at h
      subst h
      rw [hc, List.getElem?_append_left (by simp [rlCells]; omega)]
      simp
    | succ k =>
      simp at h
      rw [hc, List.getElem?_append_right (by simp [rlCells]; omega), ← ih h]
      simp only [rlCells, List.length_cons, List.length_nil]
      congr 1
      omega
theorem rowR_oneCell (l : List Rl) : ∀ u ∈ rowR l, u.oneCell' = true := by
  intro u hu
  obtain ⟨g, _, hg⟩ := List.mem_flatMap.1 hu
  simp [rlCells] at hg
  rcases hg with rfl | rfl | rfl | rfl | rfl <;> rfl

/-- The slice v holds the rules of l, in a row that lies at base or behind. -/
def OwnR (w : World) (base : Nat) (v : Value) (l : List Rl) : Prop := w.ownsRow base 56 5 v l.length (rowR l)
theorem OwnR.nil (w : World) (base : Nat) : OwnR w base (.slice none 0 0) [] := World.ownsRow_nil _ _ _ _
theorem OwnR.kept {w w' : World} {base : Nat} {v : Value} {l : List Rl} (h : OwnR w base v l) (hk : Kept (fun _ => False) w w') : OwnR w' base v l := by
  rcases h.2 with ⟨rfl, h0⟩ | ⟨g, cap, cur, rfl, hb, hg, h1, h2, h3, h4⟩
  · exact ⟨h.1, Or.inl ⟨rfl, h0⟩⟩
  · exact ⟨h.1, Or.inr ⟨g, cap, cur, rfl, hb, (hk.block g (Array.getElem?_eq_some_iff.1 hg).1 id).trans hg, h1, h2, h3, h4⟩⟩
theorem OwnR.mono {w : World} {base base' : Nat} {v : Value} {l : List Rl} (h : OwnR w base v l) (hb : base' ≤ base) : OwnR w base' v l := by
  rcases h.2 with ⟨rfl, h0⟩ | ⟨g, cap, cur, rfl, hb', hg, h1, h2, h3, h4⟩
  · exact ⟨h.1, Or.inl ⟨rfl, h0⟩⟩
  · exact ⟨h.1, Or.inr ⟨g, cap, cur, rfl, Nat.le_trans hb hb', hg, h1, h2, h3, h4⟩⟩
theorem OwnR.rules {w : World} {base : Nat} {v : Value} {l : List Rl} (h : OwnR w base v l) : RulesAt w v l := by
  rcases h.2 with ⟨rfl, h0⟩ | ⟨g, cap, cur, rfl, hb, hg, h1, h2, h3, h4⟩
  · exact Or.inl ⟨List.eq_nil_of_length_eq_zero h0, none, 0, rfl⟩
  · refine Or.inr ⟨g, 0, cap, rfl, h1, h2, fun j x hj i u hi => ?_⟩
    have hlt := (List.getElem?_eq_some_iff.1 hj).1
    have hi5 : i < 5 := by simpa [rlCells] using (List.getElem?_eq_some_iff.1 hi).1
    have hc : ∀ q, q < l.length * 5 → w.cell? ⟨g, q, none⟩ = (rowR l)[q]? := fun q hq => by
      rw [← h4, List.getElem?_take_of_lt hq]
      simp [World.cell?, hg]
    rw [Nat.zero_add, hc _ (by omega), rowR_get hj i hi5]
    exact hi

theorem RulesAt.row {W : World} {v : Value} {l : List Rl} (h : RulesAt W v l) (hne : l ≠ []) : ∃ g o cap, v = .slice (some ⟨g, o, none⟩) l.length cap ∧ ∀ (j : Nat) (u : Value), (rowR l)[j]? = some u → W.cell? ((⟨g, o, none⟩ : Addr).add j) = some u := by
  rcases h with ⟨rfl, _⟩ | ⟨g, o, cap, rfl, h1, h2, hc⟩
  · exact absurd rfl hne
  · refine ⟨g, o, cap, rfl, fun j u hj => ?_⟩
    have hlt := (List.getElem?_eq_some_iff.1 hj).1
    rw [rowR_length] at hlt
    have hd : j / 5 < l.length := by omega
    have hg := rowR_get (l := l) (k := j / 5) (x := l[j / 5]) (by simp) (j % 5) (by omega)
    rw [show j / 5 * 5 + j % 5 = j by omega, hj] at hg
    have := hc (j / 5) l[j / 5] (by simp) (j % 5) u hg.symm
    rw [add_none, ← this]
    congr 2
    omega

/-- What 'append' makes of two lists of rules. -/
def AppR (w : World) (v u v' : Value) (w' : World) : Prop := ∀ ty, (Builtin.append_ #[58, 58] ty #[v, u]).run Try.prog w = .ok v' w'
theorem appendR_run {w0 w : World} {v u : Value} {a b : List Rl} (hk : Kept (fun _ => False) w0 w) (hown : OwnR w w0.heap.size v a) (hu : RulesAt w u b) (hn : a.length + b.length ≤ 1000000) :
    ∃ v' w', AppR w v u v' w' ∧ OwnR w' w0.heap.size v' (a ++ b) ∧ Kept (fun _ => False) w0 w' := by
  obtain ⟨i0, hi0, hz0, hz1, hz2⟩ := info_parts infoRule
  by_cases hb : b = []
  · subst hb
    rcases hu with ⟨_, p, cap, rfl⟩ | ⟨g, o, cap, rfl, _⟩
    all_goals
      have hsrc : ∀ (q : Option Addr) (c : Nat), Src Try.prog i0.size 58 (.slice q 0 c) 0 [] w := fun q c => by
        cases q with
        | none => exact Src.ofNil w Try.underlying58 c
        | some a => exact Src.ofSlice w Try.underlying58 a 0 c [] (by simp) (fun j u hj => by simp at hj) (fun u hu => by simp at hu)
      refine ⟨v, w, fun ty => ?_, by rw [List.append_nil]; exact hown, hk⟩
      rcases hown.2 with ⟨rfl, _⟩ | ⟨g', cap', cur, rfl, _, _, h1, _⟩
      · exact run_append_nothing w _ _ _ _ i0 Try.underlying58 hi0 none 0 0 (Nat.le_refl _) _ (hsrc _ _)
      · exact run_append_nothing w _ _ _ _ i0 Try.underlying58 hi0 _ _ _ h1 _ (hsrc _ _)
  · obtain ⟨g, o, cap, rfl, hc⟩ := hu.row hb
    obtain ⟨v', w', h1, h2, h3, _, h5⟩ := run_append_own_at (P := Try.prog) w w0.heap.size 58 0 56 i0 (.agg #[.int .i64 0, .int .i64 0, .int .i64 0, .int .i64 0, .string ⟨#[]⟩]) 5 48 Try.underlying58 hi0 hz0 hz1 hz2 rfl (by decide) v a.length (rowR a) hown ⟨g, o, none⟩ b.length cap (rowR b) (rowR_length b) hc (rowR_oneCell b) (by unfold maxLen; omega) (by omega) hk.size
    refine ⟨v', w', fun ty => h1, ?_, hk.grown h3 (fun j hj => Or.inl (World.ownsRow.lt hown j hj).1)⟩
    unfold OwnR
    rw [rowR_append, List.length_append]
    exact h2
end Go.Proofs.Ytcmdfcdmfdheeaa

namespace Go.Proofs.Ytcmdfcdmfdheeaa
open Go.RowKit

/-- What a server gives. -/
def givesF (peer d e : Ad) : List Rl := ruleA 3 peer peer :: ((if noB d = true then [] else [ruleA 129 d d]) ++ (if noB e = true then [] else [ruleA 131 e e]))
def serverN (own peer d e : Ad) (cf tm fails wait : Int) : Ng := newN [⟨3, adB own⟩] [] (givesF peer d e) cf tm fails wait

theorem numOf_adB (x : Ad) : (numOf ((adB x).data.toList.take 7) : Int) = numAd x := adB_num x
theorem ruleA_fits (k : Int) (x y z : Ad) : fitsF (ruleA k x y) (adB z) = (decide (numAd x ≤ numAd z) && decide (numAd z ≤ numAd y)) := by
  unfold fitsF ruleA
  rw [numOf_adB]
  simp [adB_size]
theorem goodA {k : Int} (hk : In64 k) (x y : Ad) (h : numAd x ≤ numAd y) : In64 (ruleA k x y).type ∧ (ruleA k x y).suggest.size ≤ 253 ∧ fitsF (ruleA k x y) (ruleA k x y).suggest = true := by
  refine ⟨hk, by show (adB x).size ≤ 253; rw [adB_size]; omega, ?_⟩
  show fitsF (ruleA k x y) (adB x) = true
  rw [ruleA_fits]
  simp [h]
theorem gives_good (peer d e : Ad) : GoodR (givesF peer d e) := by
  have h3 := goodA (k := 3) ⟨by decide, by decide⟩ peer peer (Int.le_refl _)
  have h1 := goodA (k := 129) ⟨by decide, by decide⟩ d d (Int.le_refl _)
  have h2 := goodA (k := 131) ⟨by decide, by decide⟩ e e (Int.le_refl _)
  refine ⟨?_, fun r hr => ?_⟩
  · unfold givesF
    split <;> split <;> simp
  · unfold givesF at hr
    rcases List.mem_cons.1 hr with rfl | hr
    · exact h3
    · rcases List.mem_append.1 hr with hr | hr
      · split at hr
        · cases hr
        · rw [List.mem_singleton.1 hr]; exact h1
      · split at hr
        · cases hr
        · rw [List.mem_singleton.1 hr]; exact h2
theorem gives_short (peer d e : Ad) : ShortR (givesF peer d e) := fun r hr => by
  have := ((gives_good peer d e).2 r hr).2.1
  omega
theorem aloneO (x : Tg) : Alone [x] := fun j y hj => by
  cases j with
  | succ j => simp at hj
  | zero => rfl
theorem goodNilR : GoodR [] := ⟨Nat.zero_le _, fun _ h => absurd h List.not_mem_nil⟩
theorem putAd (k : Int) (h1 : 1 ≤ k ∧ k ≤ 255) (x : Ad) : (putOptsF [⟨k, adB x⟩]).2 = 0 := by
  unfold putOptsF
  rw [if_neg (by simp), if_neg]
  simp [okO, adB_size]
  exact h1
theorem fineAd (k : Int) (h : In64 k) (x : Ad) : FineO [⟨k, adB x⟩] := fine1 h (by rw [adB_size]; omega)
theorem ownR_new (W : World) (k : Int) (x y : Ad) : OwnR (W.alloc (.cells #[.int .i64 k, .int .i64 4, .int .i64 (numAd x), .int .i64 (numAd y), .string (adB x)] 56)) W.heap.size (.slice (some ⟨W.heap.size, 0, none⟩) 1 1) [ruleA k x y] :=
  ⟨rowR_length _, Or.inr ⟨W.heap.size, 1, _, rfl, Nat.le_refl _, heap_alloc_new W _, Nat.le_refl _, by decide, rfl, rfl⟩⟩

theorem MustAt.mk' {W : World} {base : Nat} {v : Value} (h : OwnI W base v []) : MustAt W v [] := ⟨h.mono (Nat.zero_le _), Nat.zero_le _⟩

/-- The boxes of the four addresses. -/
structure SvK (g : Nat) (own peer d e : Ad) (W : World) : Prop where
  o : Four4 W g (.int .u8 (own.a.toNat : Int)) (.int .u8 (own.b.toNat : Int)) (.int .u8 (own.c.toNat : Int)) (.int .u8 (own.d.toNat : Int))
  p : Four4 W (g + 1) (.int .u8 (peer.a.toNat : Int)) (.int .u8 (peer.b.toNat : Int)) (.int .u8 (peer.c.toNat : Int)) (.int .u8 (peer.d.toNat : Int))
  d : Four4 W (g + 2) (.int .u8 (d.a.toNat : Int)) (.int .u8 (d.b.toNat : Int)) (.int .u8 (d.c.toNat : Int)) (.int .u8 (d.d.toNat : Int))
  e : Four4 W (g + 3) (.int .u8 (e.a.toNat : Int)) (.int .u8 (e.b.toNat : Int)) (.int .u8 (e.c.toNat : Int)) (.int .u8 (e.d.toNat : Int))
theorem SvK.kept {g : Nat} {own peer d e : Ad} {W W' : World} (h : SvK g own peer d e W) (hk : Kept (fun _ => False) W W') : SvK g own peer d e W' := ⟨h.o.kept hk id, h.p.kept hk id, h.d.kept hk id, h.e.kept hk id⟩
theorem SvK.new (w : World) (own peer d e : Ad) : SvK w.heap.size own peer d e ((((w.alloc (.cells #[.int .u8 (own.a.toNat : Int), .int .u8 (own.b.toNat : Int), .int .u8 (own.c.toNat : Int), .int .u8 (own.d.toNat : Int)] 24)).alloc (.cells #[.int .u8 (peer.a.toNat : Int), .int .u8 (peer.b.toNat : Int), .int .u8 (peer.c.toNat : Int), .int .u8 (peer.d.toNat : Int)] 24)).alloc (.cells #[.int .u8 (d.a.toNat : Int), .int .u8 (d.b.toNat : Int), .int .u8 (d.c.toNat : Int), .int .u8 (d.d.toNat : Int)] 24)).alloc (.cells #[.int .u8 (e.a.toNat : Int), .int .u8 (e.b.toNat : Int), .int .u8 (e.c.toNat : Int), .int .u8 (e.d.toNat : Int)] 24)) := by
  have k1 := (Kept.refl (fun _ => False) (w.alloc (.cells #[.int .u8 (own.a.toNat : Int), .int .u8 (own.b.toNat : Int), .int .u8 (own.c.toNat : Int), .int .u8 (own.d.toNat : Int)] 24))).alloc (.cells #[.int .u8 (peer.a.toNat : Int), .int .u8 (peer.b.toNat : Int), .int .u8 (peer.c.toNat : Int), .int .u8 (peer.d.toNat : Int)] 24)
  have k2 := (Kept.refl (fun _ => False) ((w.alloc (.cells #[.int .u8 (own.a.toNat : Int), .int .u8 (own.b.toNat : Int), .int .u8 (own.c.toNat : Int), .int .u8 (own.d.toNat : Int)] 24)).alloc (.cells #[.int .u8 (peer.a.toNat : Int), .int .u8 (peer.b.toNat : Int), .int .u8 (peer.c.toNat : Int), .int .u8 (peer.d.toNat : Int)] 24))).alloc (.cells #[.int .u8 (d.a.toNat : Int), .int .u8 (d.b.toNat : Int), .int .u8 (d.c.toNat : Int), .int .u8 (d.d.toNat : Int)] 24)
  have k3 := (Kept.refl (fun _ => False) (((w.alloc (.cells #[.int .u8 (own.a.toNat : Int), .int .u8 (own.b.toNat : Int), .int .u8 (own.c.toNat : Int), .int .u8 (own.d.toNat : Int)] 24)).alloc (.cells #[.int .u8 (peer.a.toNat : Int), .int .u8 (peer.b.toNat : Int), .int .u8 (peer.c.toNat : Int), .int .u8 (peer.d.toNat : Int)] 24)).alloc (.cells #[.int .u8 (d.a.toNat : Int), .int .u8 (d.b.toNat : Int), .int .u8 (d.c.toNat : Int), .int .u8 (d.d.toNat : Int)] 24))).alloc (.cells #[.int .u8 (e.a.toNat : Int), .int .u8 (e.b.toNat : Int), .int .u8 (e.c.toNat : Int), .int .u8 (e.d.toNat : Int)] 24)
  have h0 := four4_new w 24 (.int .u8 (own.a.toNat : Int)) (.int .u8 (own.b.toNat : Int)) (.int .u8 (own.c.toNat : Int)) (.int .u8 (own.d.toNat : Int))
  have h1 := four4_new (w.alloc (.cells #[.int .u8 (own.a.toNat : Int), .int .u8 (own.b.toNat : Int), .int .u8 (own.c.toNat : Int), .int .u8 (own.d.toNat : Int)] 24)) 24 (.int .u8 (peer.a.toNat : Int)) (.int .u8 (peer.b.toNat : Int)) (.int .u8 (peer.c.toNat : Int)) (.int .u8 (peer.d.toNat : Int))
  have h2 := four4_new ((w.alloc (.cells #[.int .u8 (own.a.toNat : Int), .int .u8 (own.b.toNat : Int), .int .u8 (own.c.toNat : Int), .int .u8 (own.d.toNat : Int)] 24)).alloc (.cells #[.int .u8 (peer.a.toNat : Int), .int .u8 (peer.b.toNat : Int), .int .u8 (peer.c.toNat : Int), .int .u8 (peer.d.toNat : Int)] 24)) 24 (.int .u8 (d.a.toNat : Int)) (.int .u8 (d.b.toNat : Int)) (.int .u8 (d.c.toNat : Int)) (.int .u8 (d.d.toNat : Int))
  have h3 := four4_new (((w.alloc (.cells #[.int .u8 (own.a.toNat : Int), .int .u8 (own.b.toNat : Int), .int .u8 (own.c.toNat : Int), .int .u8 (own.d.toNat : Int)] 24)).alloc (.cells #[.int .u8 (peer.a.toNat : Int), .int .u8 (peer.b.toNat : Int), .int .u8 (peer.c.toNat : Int), .int .u8 (peer.d.toNat : Int)] 24)).alloc (.cells #[.int .u8 (d.a.toNat : Int), .int .u8 (d.b.toNat : Int), .int .u8 (d.c.toNat : Int), .int .u8 (d.d.toNat : Int)] 24)) 24 (.int .u8 (e.a.toNat : Int)) (.int .u8 (e.b.toNat : Int)) (.int .u8 (e.c.toNat : Int)) (.int .u8 (e.d.toNat : Int))
  have s1 : (w.alloc (.cells #[.int .u8 (own.a.toNat : Int), .int .u8 (own.b.toNat : Int), .int .u8 (own.c.toNat : Int), .int .u8 (own.d.toNat : Int)] 24)).heap.size = w.heap.size + 1 := by simp
  have s2 : ((w.alloc (.cells #[.int .u8 (own.a.toNat : Int), .int .u8 (own.b.toNat : Int), .int .u8 (own.c.toNat : Int), .int .u8 (own.d.toNat : Int)] 24)).alloc (.cells #[.int .u8 (peer.a.toNat : Int), .int .u8 (peer.b.toNat : Int), .int .u8 (peer.c.toNat : Int), .int .u8 (peer.d.toNat : Int)] 24)).heap.size = w.heap.size + 2 := by simp
  have s3 : (((w.alloc (.cells #[.int .u8 (own.a.toNat : Int), .int .u8 (own.b.toNat : Int), .int .u8 (own.c.toNat : Int), .int .u8 (own.d.toNat : Int)] 24)).alloc (.cells #[.int .u8 (peer.a.toNat : Int), .int .u8 (peer.b.toNat : Int), .int .u8 (peer.c.toNat : Int), .int .u8 (peer.d.toNat : Int)] 24)).alloc (.cells #[.int .u8 (d.a.toNat : Int), .int .u8 (d.b.toNat : Int), .int .u8 (d.c.toNat : Int), .int .u8 (d.d.toNat : Int)] 24)).heap.size = w.heap.size + 3 := by simp
  rw [s1] at h1
  rw [s2] at h2
  rw [s3] at h3
  exact ⟨((h0.kept k1 id).kept k2 id).kept k3 id, (h1.kept k2 id).kept k3 id, h2.kept k3 id, h3⟩

set_option maxHeartbeats 8000000 in
set_option maxRecDepth 100000 in
theorem server_nn (own peer d e : Ad) (hd : noB d = true) (he : noB e = true) (cf tm fails wait : Int) (hcf : 1 ≤ cf ∧ cf ≤ 20) (htm : 1 ≤ tm ∧ tm ≤ 20) (hf : 0 ≤ fails ∧ fails ≤ 20) (hw : 1 ≤ wait ∧ wait ≤ 100) (w : World) :
    Calls Try.prog 13 #[adV own, adV peer, adV d, adV e, .int .i64 cf, .int .i64 tm, .int .i64 fails, .int .i64 wait] w fun r w' => ∃ b, r = .returned (.tuple #[.pointer (some ⟨b, 0, none⟩), .int .i64 0]) ∧ ∃ a, NegIn w' w.heap.size b a (serverN own peer d e cf tm fails wait) ∧ MustAt w' a.vu [] ∧ Kept (fun _ => False) w w' := by
  have HNw := hid (fun (va vp : Value) (W : World) (ha : OptsAt W va [⟨3, adB own⟩]) (hp : RulesAt W vp (givesF peer d e)) => ngNew_must va (.slice none 0 0) vp (.slice none 0 0) [] 0 [⟨3, adB own⟩] [] (givesF peer d e) cf tm fails wait W ha (Or.inl ⟨rfl, none, 0, rfl⟩) hp (OwnI.nil _ _) (Nat.zero_le _) hcf htm hf hw (fineAd 3 ⟨by decide, by decide⟩ own) (putAd 3 ⟨by decide, by decide⟩ own) (aloneO _) goodNilR (gives_good peer d e))
  have hG : givesF peer d e = [ruleA 3 peer peer] := by unfold givesF; rw [hd, he]; rfl
  unfold serverN
  rw [hG] at HNw ⊢
  unfold setupV at HNw
  have HR3 := hid (rule_any 3 peer peer)
  have HR1 := hid (rule_any 129 d d)
  have HR2 := hid (rule_any 131 e e)
  have HN1 := hid (isNought_any d)
  have HN2 := hid (isNought_any e)
  have HO := hid (option_any 3 own)
  rw [hd] at HN1
  rw [he] at HN2
  have S0 := SvK.new w own peer d e
  have k0 := ((((Kept.refl (fun _ => False) w).alloc (.cells #[.int .u8 (own.a.toNat : Int), .int .u8 (own.b.toNat : Int), .int .u8 (own.c.toNat : Int), .int .u8 (own.d.toNat : Int)] 24)).alloc (.cells #[.int .u8 (peer.a.toNat : Int), .int .u8 (peer.b.toNat : Int), .int .u8 (peer.c.toNat : Int), .int .u8 (peer.d.toNat : Int)] 24)).alloc (.cells #[.int .u8 (d.a.toNat : Int), .int .u8 (d.b.toNat : Int), .int .u8 (d.c.toNat : Int), .int .u8 (d.d.toNat : Int)] 24)).alloc (.cells #[.int .u8 (e.a.toNat : Int), .int .u8 (e.b.toNat : Int), .int .u8 (e.c.toNat : Int), .int .u8 (e.d.toNat : Int)] 24)
  unfold rlV ruleA at HR3 HR1 HR2
  simp only at HR3 HR1 HR2
  unfold adV at HR3 HR1 HR2 HN1 HN2 HO ⊢
  generalize hAe : (((w.alloc (.cells #[.int .u8 (own.a.toNat : Int), .int .u8 (own.b.toNat : Int), .int .u8 (own.c.toNat : Int), .int .u8 (own.d.toNat : Int)] 24)).alloc (.cells #[.int .u8 (peer.a.toNat : Int), .int .u8 (peer.b.toNat : Int), .int .u8 (peer.c.toNat : Int), .int .u8 (peer.d.toNat : Int)] 24)).alloc (.cells #[.int .u8 (d.a.toNat : Int), .int .u8 (d.b.toNat : Int), .int .u8 (d.c.toNat : Int), .int .u8 (d.d.toNat : Int)] 24)).alloc (.cells #[.int .u8 (e.a.toNat : Int), .int .u8 (e.b.toNat : Int), .int .u8 (e.c.toNat : Int), .int .u8 (e.d.toNat : Int)] 24) = A at *
  have HAe := hid hAe
  have HS := hid S0
  have K0 := hid k0
  have HG := hid hG
  obtain ⟨⟨⟨o0, o1, o2, o3⟩, _⟩, ⟨⟨p0, p1, p2, p3⟩, _⟩, ⟨⟨d0, d1, d2, d3⟩, _⟩, ⟨⟨e0, e1, e2, e3⟩, _⟩⟩ := S0
  clear hAe k0 hd he hcf htm hf hw hG
  go_enter Try.func13, Try.ntmps13
  go_upto_region 1 with fail
  rw [HAe.out]
  clear HAe
  go_wp2_with fail
  refine (HR3.out _).mono ?_
  rintro r w1 ⟨rfl, hk⟩
  have K1 := hid ((Kept.refl (fun _ => False) A).trans hk)
  clear hk
  have KB1 := hid (K1.out.alloc (.cells #[.int .i64 3, .int .i64 4, .int .i64 (numAd peer), .int .i64 (numAd peer), .string (adB peer)] 56))
  have R1 := hid ((ownR_new w1 3 peer peer).mono K1.out.size)
  clear o0 o1 o2 o3 p0 p1 p2 p3 d0 d1 d2 d3 e0 e1 e2 e3
  obtain ⟨⟨⟨o0, o1, o2, o3⟩, _⟩, ⟨⟨p0, p1, p2, p3⟩, _⟩, ⟨⟨d0, d1, d2, d3⟩, _⟩, ⟨⟨e0, e1, e2, e3⟩, _⟩⟩ := HS.out.kept KB1.out
  go_wp2_with fail
  refine (HN1.out _).mono ?_
  rintro r w2 ⟨rfl, hk⟩
  have K2 := hid (KB1.out.trans hk)
  have R2 := hid (R1.out.kept hk)
  clear hk
  clear o0 o1 o2 o3 p0 p1 p2 p3 d0 d1 d2 d3 e0 e1 e2 e3
  obtain ⟨⟨⟨o0, o1, o2, o3⟩, _⟩, ⟨⟨p0, p1, p2, p3⟩, _⟩, ⟨⟨d0, d1, d2, d3⟩, _⟩, ⟨⟨e0, e1, e2, e3⟩, _⟩⟩ := HS.out.kept K2.out
  go_wp2_with fail
  refine (HN2.out _).mono ?_
  rintro r w3 ⟨rfl, hk⟩
  have K3 := hid (K2.out.trans hk)
  have R3 := hid (R2.out.kept hk)
  clear hk
  clear o0 o1 o2 o3 p0 p1 p2 p3 d0 d1 d2 d3 e0 e1 e2 e3
  obtain ⟨⟨⟨o0, o1, o2, o3⟩, _⟩, ⟨⟨p0, p1, p2, p3⟩, _⟩, ⟨⟨d0, d1, d2, d3⟩, _⟩, ⟨⟨e0, e1, e2, e3⟩, _⟩⟩ := HS.out.kept K3.out
  go_wp2_with fail
  refine (HO.out _).mono ?_
  rintro r w4 ⟨rfl, hk⟩
  have K4 := hid (K3.out.trans hk)
  have R4 := hid (R3.out.kept hk)
  clear hk
  have KA := (Kept.refl (fun _ => False) w4).alloc (.cells #[.int .i64 3, .string (adB own)] 51)
  have HNew := hid (HNw.out _ _ _ (one_opt (BoxO.new w4 ⟨3, adB own⟩) (Nat.zero_le _)).at (R4.out.kept KA).rules)
  have KF := hid ((K0.out.trans K4.out).trans KA)
  clear KA o0 o1 o2 o3 p0 p1 p2 p3 d0 d1 d2 d3 e0 e1 e2 e3
  go_wp2_with fail
  refine HNew.out.mono ?_
  rintro r wz ⟨b, rfl, a, hn, hm, hk⟩
  have HF := hid (And.intro (hn.lower KF.out.size) (And.intro (MustAt.mk' hm) (KF.out.trans hk)))
  clear hn hm hk HNew
  go_wp2
  go_ret2
  exact ⟨b, rfl, a, HF.out.1, HF.out.2.1, HF.out.2.2⟩

set_option maxHeartbeats 8000000 in
set_option maxRecDepth 100000 in
theorem server_ny (own peer d e : Ad) (hd : noB d = true) (he : noB e = false) (cf tm fails wait : Int) (hcf : 1 ≤ cf ∧ cf ≤ 20) (htm : 1 ≤ tm ∧ tm ≤ 20) (hf : 0 ≤ fails ∧ fails ≤ 20) (hw : 1 ≤ wait ∧ wait ≤ 100) (w : World) :
    Calls Try.prog 13 #[adV own, adV peer, adV d, adV e, .int .i64 cf, .int .i64 tm, .int .i64 fails, .int .i64 wait] w fun r w' => ∃ b, r = .returned (.tuple #[.pointer (some ⟨b, 0, none⟩), .int .i64 0]) ∧ ∃ a, NegIn w' w.heap.size b a (serverN own peer d e cf tm fails wait) ∧ MustAt w' a.vu [] ∧ Kept (fun _ => False) w w' := by
  have HNw := hid (fun (va vp : Value) (W : World) (ha : OptsAt W va [⟨3, adB own⟩]) (hp : RulesAt W vp (givesF peer d e)) => ngNew_must va (.slice none 0 0) vp (.slice none 0 0) [] 0 [⟨3, adB own⟩] [] (givesF peer d e) cf tm fails wait W ha (Or.inl ⟨rfl, none, 0, rfl⟩) hp (OwnI.nil _ _) (Nat.zero_le _) hcf htm hf hw (fineAd 3 ⟨by decide, by decide⟩ own) (putAd 3 ⟨by decide, by decide⟩ own) (aloneO _) goodNilR (gives_good peer d e))
  have hG : givesF peer d e = [ruleA 3 peer peer, ruleA 131 e e] := by unfold givesF; rw [hd, he]; rfl
  unfold serverN
  rw [hG] at HNw ⊢
  unfold setupV at HNw
  have HR3 := hid (rule_any 3 peer peer)
  have HR1 := hid (rule_any 129 d d)
  have HR2 := hid (rule_any 131 e e)
  have HN1 := hid (isNought_any d)
  have HN2 := hid (isNought_any e)
  have HO := hid (option_any 3 own)
  rw [hd] at HN1
  rw [he] at HN2
  have S0 := SvK.new w own peer d e
  have k0 := ((((Kept.refl (fun _ => False) w).alloc (.cells #[.int .u8 (own.a.toNat : Int), .int .u8 (own.b.toNat : Int), .int .u8 (own.c.toNat : Int), .int .u8 (own.d.toNat : Int)] 24)).alloc (.cells #[.int .u8 (peer.a.toNat : Int), .int .u8 (peer.b.toNat : Int), .int .u8 (peer.c.toNat : Int), .int .u8 (peer.d.toNat : Int)] 24)).alloc (.cells #[.int .u8 (d.a.toNat : Int), .int .u8 (d.b.toNat : Int), .int .u8 (d.c.toNat : Int), .int .u8 (d.d.toNat : Int)] 24)).alloc (.cells #[.int .u8 (e.a.toNat : Int), .int .u8 (e.b.toNat : Int), .int .u8 (e.c.toNat : Int), .int .u8 (e.d.toNat : Int)] 24)
  unfold rlV ruleA at HR3 HR1 HR2
  simp only at HR3 HR1 HR2
  unfold adV at HR3 HR1 HR2 HN1 HN2 HO ⊢
  generalize hAe : (((w.alloc (.cells #[.int .u8 (own.a.toNat : Int), .int .u8 (own.b.toNat : Int), .int .u8 (own.c.toNat : Int), .int .u8 (own.d.toNat : Int)] 24)).alloc (.cells #[.int .u8 (peer.a.toNat : Int), .int .u8 (peer.b.toNat : Int), .int .u8 (peer.c.toNat : Int), .int .u8 (peer.d.toNat : Int)] 24)).alloc (.cells #[.int .u8 (d.a.toNat : Int), .int .u8 (d.b.toNat : Int), .int .u8 (d.c.toNat : Int), .int .u8 (d.d.toNat : Int)] 24)).alloc (.cells #[.int .u8 (e.a.toNat : Int), .int .u8 (e.b.toNat : Int), .int .u8 (e.c.toNat : Int), .int .u8 (e.d.toNat : Int)] 24) = A at *
  have HAe := hid hAe
  have HS := hid S0
  have K0 := hid k0
  have HG := hid hG
  obtain ⟨⟨⟨o0, o1, o2, o3⟩, _⟩, ⟨⟨p0, p1, p2, p3⟩, _⟩, ⟨⟨d0, d1, d2, d3⟩, _⟩, ⟨⟨e0, e1, e2, e3⟩, _⟩⟩ := S0
  clear hAe k0 hd he hcf htm hf hw hG
  go_enter Try.func13, Try.ntmps13
  go_upto_region 1 with fail
  rw [HAe.out]
  clear HAe
  go_wp2_with fail
  refine (HR3.out _).mono ?_
  rintro r w1 ⟨rfl, hk⟩
  have K1 := hid ((Kept.refl (fun _ => False) A).trans hk)
  clear hk
  have KB1 := hid (K1.out.alloc (.cells #[.int .i64 3, .int .i64 4, .int .i64 (numAd peer), .int .i64 (numAd peer), .string (adB peer)] 56))
  have R1 := hid ((ownR_new w1 3 peer peer).mono K1.out.size)
  clear o0 o1 o2 o3 p0 p1 p2 p3 d0 d1 d2 d3 e0 e1 e2 e3
  obtain ⟨⟨⟨o0, o1, o2, o3⟩, _⟩, ⟨⟨p0, p1, p2, p3⟩, _⟩, ⟨⟨d0, d1, d2, d3⟩, _⟩, ⟨⟨e0, e1, e2, e3⟩, _⟩⟩ := HS.out.kept KB1.out
  go_wp2_with fail
  refine (HN1.out _).mono ?_
  rintro r w2 ⟨rfl, hk⟩
  have K2 := hid (KB1.out.trans hk)
  have R2 := hid (R1.out.kept hk)
  clear hk
  clear o0 o1 o2 o3 p0 p1 p2 p3 d0 d1 d2 d3 e0 e1 e2 e3
  obtain ⟨⟨⟨o0, o1, o2, o3⟩, _⟩, ⟨⟨p0, p1, p2, p3⟩, _⟩, ⟨⟨d0, d1, d2, d3⟩, _⟩, ⟨⟨e0, e1, e2, e3⟩, _⟩⟩ := HS.out.kept K2.out
  go_wp2_with fail
  refine (HN2.out _).mono ?_
  rintro r w3 ⟨rfl, hk⟩
  have K3 := hid (K2.out.trans hk)
  have R3 := hid (R2.out.kept hk)
  clear hk
  clear o0 o1 o2 o3 p0 p1 p2 p3 d0 d1 d2 d3 e0 e1 e2 e3
  obtain ⟨⟨⟨o0, o1, o2, o3⟩, _⟩, ⟨⟨p0, p1, p2, p3⟩, _⟩, ⟨⟨d0, d1, d2, d3⟩, _⟩, ⟨⟨e0, e1, e2, e3⟩, _⟩⟩ := HS.out.kept K3.out
  go_wp2_with fail
  refine (HR2.out _).mono ?_
  rintro r w4 ⟨rfl, hk⟩
  have K4 := hid (K3.out.trans hk)
  have R4 := hid (R3.out.kept hk)
  clear hk
  have KB4 := hid (K4.out.alloc (.cells #[.int .i64 131, .int .i64 4, .int .i64 (numAd e), .int .i64 (numAd e), .string (adB e)] 56))
  obtain ⟨v5, w5, hr5, ho5, hk5⟩ := appendR_run KB4.out (R4.out.kept ((Kept.refl (fun _ => False) w4).alloc (.cells #[.int .i64 131, .int .i64 4, .int .i64 (numAd e), .int .i64 (numAd e), .string (adB e)] 56))) (ownR_new w4 131 e e).rules (by simp)
  have K5 := hid hk5
  have R5 := hid ho5
  obtain ⟨p5x, c5x, e5x⟩ : ∃ p c, v5 = .slice p 2 c := R5.out.rules.slice
  subst e5x
  unfold AppR at hr5
  clear ho5 hk5
  clear o0 o1 o2 o3 p0 p1 p2 p3 d0 d1 d2 d3 e0 e1 e2 e3
  obtain ⟨⟨⟨o0, o1, o2, o3⟩, _⟩, ⟨⟨p0, p1, p2, p3⟩, _⟩, ⟨⟨d0, d1, d2, d3⟩, _⟩, ⟨⟨e0, e1, e2, e3⟩, _⟩⟩ := HS.out.kept K5.out
  go_wp2_with (at_builtin; refine Lib.wpList_append_run _ rfl _ _ _ _ rfl _ _ rfl rfl _ _ (hr5 _) ?_)
  clear hr5
  skip
  refine (HO.out _).mono ?_
  rintro r w6 ⟨rfl, hk⟩
  have K6 := hid (K5.out.trans hk)
  have R6 := hid (R5.out.kept hk)
  clear hk
  have KA := (Kept.refl (fun _ => False) w6).alloc (.cells #[.int .i64 3, .string (adB own)] 51)
  have HNew := hid (HNw.out _ _ _ (one_opt (BoxO.new w6 ⟨3, adB own⟩) (Nat.zero_le _)).at (R6.out.kept KA).rules)
  have KF := hid ((K0.out.trans K6.out).trans KA)
  clear KA o0 o1 o2 o3 p0 p1 p2 p3 d0 d1 d2 d3 e0 e1 e2 e3
  go_wp2_with fail
  refine HNew.out.mono ?_
  rintro r wz ⟨b, rfl, a, hn, hm, hk⟩
  have HF := hid (And.intro (hn.lower KF.out.size) (And.intro (MustAt.mk' hm) (KF.out.trans hk)))
  clear hn hm hk HNew
  go_wp2
  go_ret2
  exact ⟨b, rfl, a, HF.out.1, HF.out.2.1, HF.out.2.2⟩

set_option maxHeartbeats 8000000 in
set_option maxRecDepth 100000 in
theorem server_yn (own peer d e : Ad) (hd : noB d = false) (he : noB e = true) (cf tm fails wait : Int) (hcf : 1 ≤ cf ∧ cf ≤ 20) (htm : 1 ≤ tm ∧ tm ≤ 20) (hf : 0 ≤ fails ∧ fails ≤ 20) (hw : 1 ≤ wait ∧ wait ≤ 100) (w : World) :
    Calls Try.prog 13 #[adV own, adV peer, adV d, adV e, .int .i64 cf, .int .i64 tm, .int .i64 fails, .int .i64 wait] w fun r w' => ∃ b, r = .returned (.tuple #[.pointer (some ⟨b, 0, none⟩), .int .i64 0]) ∧ ∃ a, NegIn w' w.heap.size b a (serverN own peer d e cf tm fails wait) ∧ MustAt w' a.vu [] ∧ Kept (fun _ => False) w w' := by
  have HNw := hid (fun (va vp : Value) (W : World) (ha : OptsAt W va [⟨3, adB own⟩]) (hp : RulesAt W vp (givesF peer d e)) => ngNew_must va (.slice none 0 0) vp (.slice none 0 0) [] 0 [⟨3, adB own⟩] [] (givesF peer d e) cf tm fails wait W ha (Or.inl ⟨rfl, none, 0, rfl⟩) hp (OwnI.nil _ _) (Nat.zero_le _) hcf htm hf hw (fineAd 3 ⟨by decide, by decide⟩ own) (putAd 3 ⟨by decide, by decide⟩ own) (aloneO _) goodNilR (gives_good peer d e))
  have hG : givesF peer d e = [ruleA 3 peer peer, ruleA 129 d d] := by unfold givesF; rw [hd, he]; rfl
  unfold serverN
  rw [hG] at HNw ⊢
  unfold setupV at HNw
  have HR3 := hid (rule_any 3 peer peer)
  have HR1 := hid (rule_any 129 d d)
  have HR2 := hid (rule_any 131 e e)
  have HN1 := hid (isNought_any d)
  have HN2 := hid (isNought_any e)
  have HO := hid (option_any 3 own)
  rw [hd] at HN1
  rw [he] at HN2
  have S0 := SvK.new w own peer d e
  have k0 := ((((Kept.refl (fun _ => False) w).alloc (.cells #[.int .u8 (own.a.toNat : Int), .int .u8 (own.b.toNat : Int), .int .u8 (own.c.toNat : Int), .int .u8 (own.d.toNat : Int)] 24)).alloc (.cells #[.int .u8 (peer.a.toNat : Int), .int .u8 (peer.b.toNat : Int), .int .u8 (peer.c.toNat : Int), .int .u8 (peer.d.toNat : Int)] 24)).alloc (.cells #[.int .u8 (d.a.toNat : Int), .int .u8 (d.b.toNat : Int), .int .u8 (d.c.toNat : Int), .int .u8 (d.d.toNat : Int)] 24)).alloc (.cells #[.int .u8 (e.a.toNat : Int), .int .u8 (e.b.toNat : Int), .int .u8 (e.c.toNat : Int), .int .u8 (e.d.toNat : Int)] 24)
  unfold rlV ruleA at HR3 HR1 HR2
  simp only at HR3 HR1 HR2
  unfold adV at HR3 HR1 HR2 HN1 HN2 HO ⊢
  generalize hAe : (((w.alloc (.cells #[.int .u8 (own.a.toNat : Int), .int .u8 (own.b.toNat : Int), .int .u8 (own.c.toNat : Int), .int .u8 (own.d.toNat : Int)] 24)).alloc (.cells #[.int .u8 (peer.a.toNat : Int), .int .u8 (peer.b.toNat : Int), .int .u8 (peer.c.toNat : Int), .int .u8 (peer.d.toNat : Int)] 24)).alloc (.cells #[.int .u8 (d.a.toNat : Int), .int .u8 (d.b.toNat : Int), .int .u8 (d.c.toNat : Int), .int .u8 (d.d.toNat : Int)] 24)).alloc (.cells #[.int .u8 (e.a.toNat : Int), .int .u8 (e.b.toNat : Int), .int .u8 (e.c.toNat : Int), .int .u8 (e.d.toNat : Int)] 24) = A at *
  have HAe := hid hAe
  have HS := hid S0
  have K0 := hid k0
  have HG := hid hG
  obtain ⟨⟨⟨o0, o1, o2, o3⟩, _⟩, ⟨⟨p0, p1, p2, p3⟩, _⟩, ⟨⟨d0, d1, d2, d3⟩, _⟩, ⟨⟨e0, e1, e2, e3⟩, _⟩⟩ := S0
  clear hAe k0 hd he hcf htm hf hw hG
  go_enter Try.func13, Try.ntmps13
  go_upto_region 1 with fail
  rw [HAe.out]
  clear HAe
  go_wp2_with fail
  refine (HR3.out _).mono ?_
  rintro r w1 ⟨rfl, hk⟩
  have K1 := hid ((Kept.refl (fun _ => False) A).trans hk)
  clear hk
  have KB1 := hid (K1.out.alloc (.cells #[.int .i64 3, .int .i64 4, .int .i64 (numAd peer), .int .i64 (numAd peer), .string (adB peer)] 56))
  have R1 := hid ((ownR_new w1 3 peer peer).mono K1.out.size)
  clear o0 o1 o2 o3 p0 p1 p2 p3 d0 d1 d2 d3 e0 e1 e2 e3
  obtain ⟨⟨⟨o0, o1, o2, o3⟩, _⟩, ⟨⟨p0, p1, p2, p3⟩, _⟩, ⟨⟨d0, d1, d2, d3⟩, _⟩, ⟨⟨e0, e1, e2, e3⟩, _⟩⟩ := HS.out.kept KB1.out
  go_wp2_with fail
  refine (HN1.out _).mono ?_
  rintro r w2 ⟨rfl, hk⟩
  have K2 := hid (KB1.out.trans hk)
  have R2 := hid (R1.out.kept hk)
  clear hk
  clear o0 o1 o2 o3 p0 p1 p2 p3 d0 d1 d2 d3 e0 e1 e2 e3
  obtain ⟨⟨⟨o0, o1, o2, o3⟩, _⟩, ⟨⟨p0, p1, p2, p3⟩, _⟩, ⟨⟨d0, d1, d2, d3⟩, _⟩, ⟨⟨e0, e1, e2, e3⟩, _⟩⟩ := HS.out.kept K2.out
  go_wp2_with fail
  refine (HR1.out _).mono ?_
  rintro r w3 ⟨rfl, hk⟩
  have K3 := hid (K2.out.trans hk)
  have R3 := hid (R2.out.kept hk)
  clear hk
  have KB3 := hid (K3.out.alloc (.cells #[.int .i64 129, .int .i64 4, .int .i64 (numAd d), .int .i64 (numAd d), .string (adB d)] 56))
  obtain ⟨v4, w4, hr4, ho4, hk4⟩ := appendR_run KB3.out (R3.out.kept ((Kept.refl (fun _ => False) w3).alloc (.cells #[.int .i64 129, .int .i64 4, .int .i64 (numAd d), .int .i64 (numAd d), .string (adB d)] 56))) (ownR_new w3 129 d d).rules (by simp)
  have K4 := hid hk4
  have R4 := hid ho4
  obtain ⟨p4x, c4x, e4x⟩ : ∃ p c, v4 = .slice p 2 c := R4.out.rules.slice
  subst e4x
  unfold AppR at hr4
  clear ho4 hk4
  clear o0 o1 o2 o3 p0 p1 p2 p3 d0 d1 d2 d3 e0 e1 e2 e3
  obtain ⟨⟨⟨o0, o1, o2, o3⟩, _⟩, ⟨⟨p0, p1, p2, p3⟩, _⟩, ⟨⟨d0, d1, d2, d3⟩, _⟩, ⟨⟨e0, e1, e2, e3⟩, _⟩⟩ := HS.out.kept K4.out
  go_wp2_with (at_builtin; refine Lib.wpList_append_run _ rfl _ _ _ _ rfl _ _ rfl rfl _ _ (hr4 _) ?_)
  clear hr4
  skip
  refine (HN2.out _).mono ?_
  rintro r w5 ⟨rfl, hk⟩
  have K5 := hid (K4.out.trans hk)
  have R5 := hid (R4.out.kept hk)
  clear hk
  clear o0 o1 o2 o3 p0 p1 p2 p3 d0 d1 d2 d3 e0 e1 e2 e3
  obtain ⟨⟨⟨o0, o1, o2, o3⟩, _⟩, ⟨⟨p0, p1, p2, p3⟩, _⟩, ⟨⟨d0, d1, d2, d3⟩, _⟩, ⟨⟨e0, e1, e2, e3⟩, _⟩⟩ := HS.out.kept K5.out
  go_wp2_with fail
  refine (HO.out _).mono ?_
  rintro r w6 ⟨rfl, hk⟩
  have K6 := hid (K5.out.trans hk)
  have R6 := hid (R5.out.kept hk)
  clear hk
  have KA := (Kept.refl (fun _ => False) w6).alloc (.cells #[.int .i64 3, .string (adB own)] 51)
  have HNew := hid (HNw.out _ _ _ (one_opt (BoxO.new w6 ⟨3, adB own⟩) (Nat.zero_le _)).at (R6.out.kept KA).rules)
  have KF := hid ((K0.out.trans K6.out).trans KA)
  clear KA o0 o1 o2 o3 p0 p1 p2 p3 d0 d1 d2 d3 e0 e1 e2 e3
  go_wp2_with fail
  refine HNew.out.mono ?_
  rintro r wz ⟨b, rfl, a, hn, hm, hk⟩
  have HF := hid (And.intro (hn.lower KF.out.size) (And.intro (MustAt.mk' hm) (KF.out.trans hk)))
  clear hn hm hk HNew
  go_wp2
  go_ret2
  exact ⟨b, rfl, a, HF.out.1, HF.out.2.1, HF.out.2.2⟩

set_option maxHeartbeats 8000000 in
set_option maxRecDepth 100000 in
theorem server_yy (own peer d e : Ad) (hd : noB d = false) (he : noB e = false) (cf tm fails wait : Int) (hcf : 1 ≤ cf ∧ cf ≤ 20) (htm : 1 ≤ tm ∧ tm ≤ 20) (hf : 0 ≤ fails ∧ fails ≤ 20) (hw : 1 ≤ wait ∧ wait ≤ 100) (w : World) :
    Calls Try.prog 13 #[adV own, adV peer, adV d, adV e, .int .i64 cf, .int .i64 tm, .int .i64 fails, .int .i64 wait] w fun r w' => ∃ b, r = .returned (.tuple #[.pointer (some ⟨b, 0, none⟩), .int .i64 0]) ∧ ∃ a, NegIn w' w.heap.size b a (serverN own peer d e cf tm fails wait) ∧ MustAt w' a.vu [] ∧ Kept (fun _ => False) w w' := by
  have HNw := hid (fun (va vp : Value) (W : World) (ha : OptsAt W va [⟨3, adB own⟩]) (hp : RulesAt W vp (givesF peer d e)) => ngNew_must va (.slice none 0 0) vp (.slice none 0 0) [] 0 [⟨3, adB own⟩] [] (givesF peer d e) cf tm fails wait W ha (Or.inl ⟨rfl, none, 0, rfl⟩) hp (OwnI.nil _ _) (Nat.zero_le _) hcf htm hf hw (fineAd 3 ⟨by decide, by decide⟩ own) (putAd 3 ⟨by decide, by decide⟩ own) (aloneO _) goodNilR (gives_good peer d e))
  have hG : givesF peer d e = [ruleA 3 peer peer, ruleA 129 d d, ruleA 131 e e] := by unfold givesF; rw [hd, he]; rfl
  unfold serverN
  rw [hG] at HNw ⊢
  unfold setupV at HNw
  have HR3 := hid (rule_any 3 peer peer)
  have HR1 := hid (rule_any 129 d d)
  have HR2 := hid (rule_any 131 e e)
  have HN1 := hid (isNought_any d)
  have HN2 := hid (isNought_any e)
  have HO := hid (option_any 3 own)
  rw [hd] at HN1
  rw [he] at HN2
  have S0 := SvK.new w own peer d e
  have k0 := ((((Kept.refl (fun _ => False) w).alloc (.cells #[.int .u8 (own.a.toNat : Int), .int .u8 (own.b.toNat : Int), .int .u8 (own.c.toNat : Int), .int .u8 (own.d.toNat : Int)] 24)).alloc (.cells #[.int .u8 (peer.a.toNat : Int), .int .u8 (peer.b.toNat : Int), .int .u8 (peer.c.toNat : Int), .int .u8 (peer.d.toNat : Int)] 24)).alloc (.cells #[.int .u8 (d.a.toNat : Int), .int .u8 (d.b.toNat : Int), .int .u8 (d.c.toNat : Int), .int .u8 (d.d.toNat : Int)] 24)).alloc (.cells #[.int .u8 (e.a.toNat : Int), .int .u8 (e.b.toNat : Int), .int .u8 (e.c.toNat : Int), .int .u8 (e.d.toNat : Int)] 24)
  unfold rlV ruleA at HR3 HR1 HR2
  simp only at HR3 HR1 HR2
  unfold adV at HR3 HR1 HR2 HN1 HN2 HO ⊢
  generalize hAe : (((w.alloc (.cells #[.int .u8 (own.a.toNat : Int), .int .u8 (own.b.toNat : Int), .int .u8 (own.c.toNat : Int), .int .u8 (own.d.toNat : Int)] 24)).alloc (.cells #[.int .u8 (peer.a.toNat : Int), .int .u8 (peer.b.toNat : Int), .int .u8 (peer.c.toNat : Int), .int .u8 (peer.d.toNat : Int)] 24)).alloc (.cells #[.int .u8 (d.a.toNat : Int), .int .u8 (d.b.toNat : Int), .int .u8 (d.c.toNat : Int), .int .u8 (d.d.toNat : Int)] 24)).alloc (.cells #[.int .u8 (e.a.toNat : Int), .int .u8 (e.b.toNat : Int), .int .u8 (e.c.toNat : Int), .int .u8 (e.d.toNat : Int)] 24) = A at *
  have HAe := hid hAe
  have HS := hid S0
  have K0 := hid k0
  have HG := hid hG
  obtain ⟨⟨⟨o0, o1, o2, o3⟩, _⟩, ⟨⟨p0, p1, p2, p3⟩, _⟩, ⟨⟨d0, d1, d2, d3⟩, _⟩, ⟨⟨e0, e1, e2, e3⟩, _⟩⟩ := S0
  clear hAe k0 hd he hcf htm hf hw hG
  go_enter Try.func13, Try.ntmps13
  go_upto_region 1 with fail
  rw [HAe.out]
  clear HAe
  go_wp2_with fail
  refine (HR3.out _).mono ?_
  rintro r w1 ⟨rfl, hk⟩
  have K1 := hid ((Kept.refl (fun _ => False) A).trans hk)
  clear hk
  have KB1 := hid (K1.out.alloc (.cells #[.int .i64 3, .int .i64 4, .int .i64 (numAd peer), .int .i64 (numAd peer), .string (adB peer)] 56))
  have R1 := hid ((ownR_new w1 3 peer peer).mono K1.out.size)
  clear o0 o1 o2 o3 p0 p1 p2 p3 d0 d1 d2 d3 e0 e1 e2 e3
  obtain ⟨⟨⟨o0, o1, o2, o3⟩, _⟩, ⟨⟨p0, p1, p2, p3⟩, _⟩, ⟨⟨d0, d1, d2, d3⟩, _⟩, ⟨⟨e0, e1, e2, e3⟩, _⟩⟩ := HS.out.kept KB1.out
  go_wp2_with fail
  refine (HN1.out _).mono ?_
  rintro r w2 ⟨rfl, hk⟩
  have K2 := hid (KB1.out.trans hk)
  have R2 := hid (R1.out.kept hk)
  clear hk
  clear o0 o1 o2 o3 p0 p1 p2 p3 d0 d1 d2 d3 e0 e1 e2 e3
  obtain ⟨⟨⟨o0, o1, o2, o3⟩, _⟩, ⟨⟨p0, p1, p2, p3⟩, _⟩, ⟨⟨d0, d1, d2, d3⟩, _⟩, ⟨⟨e0, e1, e2, e3⟩, _⟩⟩ := HS.out.kept K2.out
  go_wp2_with fail
  refine (HR1.out _).mono ?_
  rintro r w3 ⟨rfl, hk⟩
  have K3 := hid (K2.out.trans hk)
  have R3 := hid (R2.out.kept hk)
  clear hk
  have KB3 := hid (K3.out.alloc (.cells #[.int .i64 129, .int .i64 4, .int .i64 (numAd d), .int .i64 (numAd d), .string (adB d)] 56))
  obtain ⟨v4, w4, hr4, ho4, hk4⟩ := appendR_run KB3.out (R3.out.kept ((Kept.refl (fun _ => False) w3).alloc (.cells #[.int .i64 129, .int .i64 4, .int .i64 (numAd d), .int .i64 (numAd d), .string (adB d)] 56))) (ownR_new w3 129 d d).rules (by simp)
  have K4 := hid hk4
  have R4 := hid ho4
  obtain ⟨p4x, c4x, e4x⟩ : ∃ p c, v4 = .slice p 2 c := R4.out.rules.slice
  subst e4x
  unfold AppR at hr4
  clear ho4 hk4
  clear o0 o1 o2 o3 p0 p1 p2 p3 d0 d1 d2 d3 e0 e1 e2 e3
  obtain ⟨⟨⟨o0, o1, o2, o3⟩, _⟩, ⟨⟨p0, p1, p2, p3⟩, _⟩, ⟨⟨d0, d1, d2, d3⟩, _⟩, ⟨⟨e0, e1, e2, e3⟩, _⟩⟩ := HS.out.kept K4.out
  go_wp2_with (at_builtin; refine Lib.wpList_append_run _ rfl _ _ _ _ rfl _ _ rfl rfl _ _ (hr4 _) ?_)
  clear hr4
  skip
  refine (HN2.out _).mono ?_
  rintro r w5 ⟨rfl, hk⟩
  have K5 := hid (K4.out.trans hk)
  have R5 := hid (R4.out.kept hk)
  clear hk
  clear o0 o1 o2 o3 p0 p1 p2 p3 d0 d1 d2 d3 e0 e1 e2 e3
  obtain ⟨⟨⟨o0, o1, o2, o3⟩, _⟩, ⟨⟨p0, p1, p2, p3⟩, _⟩, ⟨⟨d0, d1, d2, d3⟩, _⟩, ⟨⟨e0, e1, e2, e3⟩, _⟩⟩ := HS.out.kept K5.out
  go_wp2_with fail
  refine (HR2.out _).mono ?_
  rintro r w6 ⟨rfl, hk⟩
  have K6 := hid (K5.out.trans hk)
  have R6 := hid (R5.out.kept hk)
  clear hk
  have KB6 := hid (K6.out.alloc (.cells #[.int .i64 131, .int .i64 4, .int .i64 (numAd e), .int .i64 (numAd e), .string (adB e)] 56))
  obtain ⟨v7, w7, hr7, ho7, hk7⟩ := appendR_run KB6.out (R6.out.kept ((Kept.refl (fun _ => False) w6).alloc (.cells #[.int .i64 131, .int .i64 4, .int .i64 (numAd e), .int .i64 (numAd e), .string (adB e)] 56))) (ownR_new w6 131 e e).rules (by simp)
  have K7 := hid hk7
  have R7 := hid ho7
  obtain ⟨p7x, c7x, e7x⟩ : ∃ p c, v7 = .slice p 3 c := R7.out.rules.slice
  subst e7x
  unfold AppR at hr7
  clear ho7 hk7
  clear o0 o1 o2 o3 p0 p1 p2 p3 d0 d1 d2 d3 e0 e1 e2 e3
  obtain ⟨⟨⟨o0, o1, o2, o3⟩, _⟩, ⟨⟨p0, p1, p2, p3⟩, _⟩, ⟨⟨d0, d1, d2, d3⟩, _⟩, ⟨⟨e0, e1, e2, e3⟩, _⟩⟩ := HS.out.kept K7.out
  go_wp2_with (at_builtin; refine Lib.wpList_append_run _ rfl _ _ _ _ rfl _ _ rfl rfl _ _ (hr7 _) ?_)
  clear hr7
  skip
  refine (HO.out _).mono ?_
  rintro r w8 ⟨rfl, hk⟩
  have K8 := hid (K7.out.trans hk)
  have R8 := hid (R7.out.kept hk)
  clear hk
  have KA := (Kept.refl (fun _ => False) w8).alloc (.cells #[.int .i64 3, .string (adB own)] 51)
  have HNew := hid (HNw.out _ _ _ (one_opt (BoxO.new w8 ⟨3, adB own⟩) (Nat.zero_le _)).at (R8.out.kept KA).rules)
  have KF := hid ((K0.out.trans K8.out).trans KA)
  clear KA o0 o1 o2 o3 p0 p1 p2 p3 d0 d1 d2 d3 e0 e1 e2 e3
  go_wp2_with fail
  refine HNew.out.mono ?_
  rintro r wz ⟨b, rfl, a, hn, hm, hk⟩
  have HF := hid (And.intro (hn.lower KF.out.size) (And.intro (MustAt.mk' hm) (KF.out.trans hk)))
  clear hn hm hk HNew
  go_wp2
  go_ret2
  exact ⟨b, rfl, a, HF.out.1, HF.out.2.1, HF.out.2.2⟩

theorem server_any (own peer d e : Ad) (cf tm fails wait : Int) (hcf : 1 ≤ cf ∧ cf ≤ 20) (htm : 1 ≤ tm ∧ tm ≤ 20) (hf : 0 ≤ fails ∧ fails ≤ 20) (hw : 1 ≤ wait ∧ wait ≤ 100) (w : World) :
    Calls Try.prog 13 #[adV own, adV peer, adV d, adV e, .int .i64 cf, .int .i64 tm, .int .i64 fails, .int .i64 wait] w fun r w' => ∃ b, r = .returned (.tuple #[.pointer (some ⟨b, 0, none⟩), .int .i64 0]) ∧ ∃ a, NegIn w' w.heap.size b a (serverN own peer d e cf tm fails wait) ∧ MustAt w' a.vu [] ∧ Kept (fun _ => False) w w' := by
  cases hd : noB d with
  | true =>
    cases he : noB e with
    | true => exact server_nn own peer d e hd he cf tm fails wait hcf htm hf hw w
    | false => exact server_ny own peer d e hd he cf tm fails wait hcf htm hf hw w
  | false =>
    cases he : noB e with
    | true => exact server_yn own peer d e hd he cf tm fails wait hcf htm hf hw w
    | false => exact server_yy own peer d e hd he cf tm fails wait hcf htm hf hw w
end Go.Proofs.Ytcmdfcdmfdheeaa

namespace Go.Proofs.Ytcmdfcdmfdheeaa
open Go.RowKit

def aA1 : Ad := ⟨10, 0, 0, 1⟩
def aA7 : Ad := ⟨10, 0, 0, 7⟩
def optZ : Tg := ⟨3, ⟨#[0, 0, 0, 0]⟩⟩
def nS0 : Ng := serverN aA1 aA7 ad0 ad0 5 2 5 3
def nS1 : Ng := { nS0 with au := ⟨5, 2, 1, 0⟩ }
def nS2 : Ng := { nS0 with au := ⟨5, 2, 6, 4⟩, id := 1, last := 1, begun := true }
def nS3 : Ng := { nS2 with naks := 1 }
theorem stepS1 : doN nS0 2 = (nS1, []) := by kernel_rfl
theorem stepS2 : doN nS1 0 = (nS2, [⟨1, 1, [⟨3, adB aA1⟩], ⟨#[]⟩⟩]) := by kernel_rfl
theorem stepS3 : takeM [] nS2 ⟨1, 1, [optZ], ⟨#[]⟩⟩ = (nS3, [⟨3, 1, [⟨3, ⟨#[10, 0, 0, 7]⟩⟩], ⟨#[]⟩⟩]) := by kernel_rfl

set_option maxHeartbeats 8000000 in
set_option maxRecDepth 100000 in
theorem lawAlive_any (w : World) : Calls Try.prog 8 #[] w fun e w' => e = .returned (.bool true) ∧ Kept (fun _ => False) w w' := by
  have HSv := hid (server_any aA1 aA7 ad0 ad0 5 2 5 3 ⟨by decide, by decide⟩ ⟨by decide, by decide⟩ ⟨by decide, by decide⟩ ⟨by decide, by decide⟩ w)
  rw [show adV aA1 = .agg #[.int .u8 10, .int .u8 0, .int .u8 0, .int .u8 1] from rfl, show adV aA7 = .agg #[.int .u8 10, .int .u8 0, .int .u8 0, .int .u8 7] from rfl, show adV ad0 = .agg #[.int .u8 0, .int .u8 0, .int .u8 0, .int .u8 0] from rfl] at HSv
  have HG1 := hid (good_any ⟨1, 0, 0, 0⟩ ⟨1, 0, 0, 0⟩)
  have HG0 := hid (good_any ad0 ad0)
  rw [show adV ⟨1, 0, 0, 0⟩ = .agg #[.int .u8 1, .int .u8 0, .int .u8 0, .int .u8 0] from rfl, show goodF ⟨1, 0, 0, 0⟩ ⟨1, 0, 0, 0⟩ = true from by kernel_rfl] at HG1
  rw [show adV ad0 = .agg #[.int .u8 0, .int .u8 0, .int .u8 0, .int .u8 0] from rfl, show goodF ad0 ad0 = false from by kernel_rfl] at HG0
  go_enter Try.func8, Try.ntmps8
  go_wp2_with fail
  refine HSv.out.mono ?_
  rintro e w3 ⟨b, rfl, a, hn, hm, hk3⟩
  have M3 : Hid (NMine w w3 b a nS0) := ⟨hn, hk3⟩
  have T3 := hid hm
  have hE := eqNegSome ⟨b, 0, none⟩
  clear hn hk3 hm HSv
  have HD := hid (ngDo_any 2 w3 M3.out.neg)
  rw [stepS1] at HD
  go_wp2_with fail
  refine HD.out.mono ?_
  rintro e w4 ⟨vo, rfl, S4⟩
  obtain ⟨a4, p4, c4, rfl, N4⟩ := sent_zero S4
  have M4 := hid (M3.out.next N4)
  have T4 := hid (T3.out.step M3.out.neg N4)
  clear S4 N4 HD M3 T3
  have HD := hid (ngDo_any 0 w4 M4.out.neg)
  rw [stepS2] at HD
  go_wp2_with fail
  refine HD.out.mono ?_
  rintro e w5 ⟨vo, rfl, S5⟩
  obtain ⟨a5, g5, c5, u5, rfl, hc5, N5, R5, _, _, _⟩ := sent_one S5
  have M5 := hid (M4.out.next N5)
  have T5 := hid (T4.out.step M4.out.neg N5)
  clear S5 N5 HD M4 T4 R5
  have ka := (Kept.refl (fun _ => False) w5).alloc (.cells #[.int .i64 3, .string ⟨#[0, 0, 0, 0]⟩] 51)
  have B6 := BoxO.new w5 optZ
  have hm6 := M5.out.still ka
  have HTk := hid (takeM_any (ms := []) ⟨1, 1, [optZ], ⟨#[]⟩⟩ (.slice (some ⟨w5.heap.size, 0, none⟩) 1 1) _ hm6.neg ⟨(one_opt (base := 0) B6 (Nat.zero_le _)).at, Or.inr (fun i hi s => by
    have h1 : w5.heap.size = i := by simpa [Value.ownBlock] using hi
    have h2 := M5.out.neg.sn_lt i s
    omega), fine1 ⟨by decide, by decide⟩ (by decide), by decide⟩ (T5.out.kept0 ka) (gives_short _ _ _))
  rw [stepS3] at HTk
  unfold pkV at HTk
  have HM6 := hid hm6
  clear hm6 ka B6 M5 T5
  go_wp2_with fail
  refine HTk.out.mono ?_
  rintro e w7 ⟨vo, rfl, S7⟩
  obtain ⟨a7, g7, c7, u7, rfl, hc7, N7, R7, ho7, _, _⟩ := sent_one S7
  have M7 := hid (HM6.out.next N7)
  obtain ⟨p7, k7, e7⟩ := slice_of ho7
  subst e7
  obtain ⟨_, r0, r1, r2, r3⟩ := R7
  obtain ⟨h7, o7, e7, hcap, y0, y1⟩ := ho7.tags.at (j := 0) rfl
  simp only [Nat.zero_mul, Nat.add_zero] at y0 y1
  subst e7
  have hlt : (0 : Int) < (([⟨3, ⟨#[10, 0, 0, 7]⟩⟩] : List Tg).length : Int) := by decide
  clear S7 N7 HTk HM6 ho7
  go_wp2_with fail
  refine (HG1.out _).mono ?_
  rintro e w8 ⟨rfl, hk8⟩
  have M8 := hid (M7.out.still hk8)
  clear hk8
  go_wp2_with fail
  refine (HG0.out _).mono ?_
  rintro e w9 ⟨rfl, hk9⟩
  have M9 := hid (M8.out.still hk9)
  clear hk9
  go_wp2
  go_ret
  exact ⟨rfl, M9.out.kept⟩
end Go.Proofs.Ytcmdfcdmfdheeaa
