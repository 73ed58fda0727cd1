/- The contract of pool.Text: an address's four bytes in decimal digits, a dot between. -/
import Derived.Test.YtblcojggjplndaaDoorPlAd
import Derived.Test.YtblcojggjplndaaDoorItPow
import Derived.Test.YtblcojggjplndaaDoorLayJoin
import Derived.Shelf.Strings.OnBuilder
namespace Go.Proofs.YtblcojggjplndaaDoor
open Go.RowKit

theorem joinExtra : Builder.Extra Tryd.prog joinRen := {
  sizeBuilder := by kernel_rfl,
  liesBuilder := by kernel_rfl,
  t5 := by kernel_rfl,
  a5 := fun w => by kernel_rfl,
  z5 := fun w => by kernel_rfl,
  v5 := fun w => by kernel_rfl,
  infoByte := by kernel_rfl,
  cellsByte := by kernel_rfl,
  sizeByte := by kernel_rfl,
  neB5 := by decide }
/-- An address's text. -/
def textA (x : Ad) : ByteArray := ⟨(Lib.join [Lib.itoa (x.a.toNat : Int), Lib.itoa (x.b.toNat : Int), Lib.itoa (x.c.toNat : Int), Lib.itoa (x.d.toNat : Int)] [46]).toArray⟩
def byteA (x : Ad) (j : Nat) : Nat := ([x.a, x.b, x.c, x.d].getD j 0).toNat
theorem byteA_lt (x : Ad) (j : Nat) : byteA x j < 256 := UInt8.toNat_lt _
theorem index_ad (x : Ad) (j : Nat) (hj : j < 4) (W : World) : (Instr.index 23 (.agg #[.int .u8 (x.a.toNat : Int), .int .u8 (x.b.toNat : Int), .int .u8 (x.c.toNat : Int), .int .u8 (x.d.toNat : Int)]) (.int .i64 (j : Int))).run Tryd.prog W = .ok (.int .u8 (byteA x j : Int)) W := by
  rcases (show j = 0 ∨ j = 1 ∨ j = 2 ∨ j = 3 by omega) with rfl | rfl | rfl | rfl <;> kernel_rfl
/-- The four texts, the first j of which are laid. -/
def partC (x : Ad) (j : Nat) : Array Value := ((List.range 4).map fun i => Value.string (if i < j then itS (byteA x i : Int) else ⟨#[]⟩)).toArray
theorem partC_zero (x : Ad) : partC x 0 = #[.string ⟨#[]⟩, .string ⟨#[]⟩, .string ⟨#[]⟩, .string ⟨#[]⟩] := rfl
theorem partC_next (x : Ad) (j : Nat) (hj : j < 4) : (partC x j).setIfInBounds j (.string (itS (byteA x j : Int))) = partC x (j + 1) := by
  rcases (show j = 0 ∨ j = 1 ∨ j = 2 ∨ j = 3 by omega) with rfl | rfl | rfl | rfl <;> rfl
theorem dec_short (n : Nat) (h : n < 256) : (Lib.itoa (n : Int)).length ≤ 20 := by
  unfold Lib.itoa
  rw [if_neg (by omega), Lib.decDigits_length]
  rcases Nat.lt_or_ge (n : Int).toNat 10 with h1 | h1
  · rw [Lib.nDigits_small h1]; decide
  · rw [Lib.nDigits_big (by omega)]
    rcases Nat.lt_or_ge ((n : Int).toNat / 10) 10 with h2 | h2
    · rw [Lib.nDigits_small h2]; decide
    · rw [Lib.nDigits_big (by omega), Lib.nDigits_small (by omega)]; decide
theorem join4 (x : Ad) (pb : Nat) (W : World) (hb : W.heap[pb]? = some (.cells (partC x 4) 74 (0, 0))) :
    Calls Tryd.prog 30 #[.slice (some ⟨pb, 0, none⟩) 4 4, .string ⟨#[46]⟩] W fun e w' => e = .returned (.string (textA x)) ∧ Kept (fun _ => False) W w' := by
  have hlt : pb < W.heap.size := (Array.getElem?_eq_some_iff.1 hb).1
  have hb' : W.heap[pb]? = some (.cells #[.string (itS (x.a.toNat : Int)), .string (itS (x.b.toNat : Int)), .string (itS (x.c.toNat : Int)), .string (itS (x.d.toNat : Int))] 74 (0, 0)) := hb
  have h1 := dec_short x.a.toNat (UInt8.toNat_lt _); have h2 := dec_short x.b.toNat (UInt8.toNat_lt _); have h3 := dec_short x.c.toNat (UInt8.toNat_lt _); have h4 := dec_short x.d.toNat (UInt8.toNat_lt _)
  refine (Any.strings_Join joinLays joinExtra pb 0 4 [itS (x.a.toNat : Int), itS (x.b.toNat : Int), itS (x.c.toNat : Int), itS (x.d.toNat : Int)] ⟨#[46]⟩ W ?_ hlt (by simp) (by simp) ?_).mono fun e w' ⟨he, hw⟩ => ⟨he, Kept.of_below hw (fun i h5 h6 => by omega)⟩
  · intro j s hj
    rcases (show j = 0 ∨ j = 1 ∨ j = 2 ∨ j = 3 ∨ 4 ≤ j by omega) with rfl | rfl | rfl | rfl | h5
    · simp [World.cell?, hb'] ; simpa using hj
    · simp [World.cell?, hb'] ; simpa using hj
    · simp [World.cell?, hb'] ; simpa using hj
    · simp [World.cell?, hb'] ; simpa using hj
    · rw [List.getElem?_eq_none (by simpa using h5)] at hj; cases hj
  · show (Lib.join [Lib.itoa (x.a.toNat : Int), Lib.itoa (x.b.toNat : Int), Lib.itoa (x.c.toNat : Int), Lib.itoa (x.d.toNat : Int)] [46]).length ≤ 140737488355328
    rw [Lib.join_length]
    simp [Lib.lens]
    omega

set_option maxHeartbeats 2000000 in
set_option maxRecDepth 100000 in
theorem text_any (x : Ad) (w : World) (hT : PowTab w) : Calls Tryd.prog 23 #[adV x] w fun e w' => e = .returned (.string (textA x)) ∧ Kept (fun _ => False) w w' := by
  have hk0 := (Kept.refl (fun _ => False) w).alloc (.cells #[.int .u8 (x.a.toNat : Int), .int .u8 (x.b.toNat : Int), .int .u8 (x.c.toNat : Int), .int .u8 (x.d.toNat : Int)] 23)
  have hk1 := (Kept.refl (fun _ => False) (w.alloc (.cells #[.int .u8 (x.a.toNat : Int), .int .u8 (x.b.toNat : Int), .int .u8 (x.c.toNat : Int), .int .u8 (x.d.toNat : Int)] 23))).alloc (.cells #[.string ⟨#[]⟩, .string ⟨#[]⟩, .string ⟨#[]⟩, .string ⟨#[]⟩] 74)
  have H4 := hid ((four4_new w 23 (.int .u8 (x.a.toNat : Int)) (.int .u8 (x.b.toNat : Int)) (.int .u8 (x.c.toNat : Int)) (.int .u8 (x.d.toNat : Int))).kept hk1 (fun h => h))
  have HP := hid (heap_alloc_new (w.alloc (.cells #[.int .u8 (x.a.toNat : Int), .int .u8 (x.b.toNat : Int), .int .u8 (x.c.toNat : Int), .int .u8 (x.d.toNat : Int)] 23)) (.cells #[.string ⟨#[]⟩, .string ⟨#[]⟩, .string ⟨#[]⟩, .string ⟨#[]⟩] 74))
  have hsz : (w.alloc (.cells #[.int .u8 (x.a.toNat : Int), .int .u8 (x.b.toNat : Int), .int .u8 (x.c.toNat : Int), .int .u8 (x.d.toNat : Int)] 23)).heap.size = w.heap.size + 1 := by simp
  rw [hsz] at HP
  have K0 := hid (hk0.trans hk1)
  have HT := hid hT
  have HJ4 := hid (join4 x (w.heap.size + 1))
  have hix := index_ad x
  have HPN := hid (partC_next x)
  have HB := hid (byteA_lt x)
  have HZ : Hid (partC x 0 = #[.string ⟨#[]⟩, .string ⟨#[]⟩, .string ⟨#[]⟩, .string ⟨#[]⟩]) := partC_zero x
  obtain ⟨R, hR⟩ : ∃ R, R = textA x := ⟨_, rfl⟩
  rw [← hR] at HJ4 ⊢
  unfold adV
  clear hk0 hk1 hsz hT hR
  go_enter Tryd.func23, Tryd.ntmps23
  go_upto_region 2 with fail
  generalize (w.alloc (.cells #[.int .u8 (x.a.toNat : Int), .int .u8 (x.b.toNat : Int), .int .u8 (x.c.toNat : Int), .int .u8 (x.d.toNat : Int)] 23)).alloc (.cells #[.string ⟨#[]⟩, .string ⟨#[]⟩, .string ⟨#[]⟩, .string ⟨#[]⟩] 74) = W at *
  obtain ⟨⟨c0, c1, c2, c3⟩, _⟩ := H4.out
  go_wp2
  clear c0 c1 c2 c3
  go_loopw [7] (fun vi wr => ∃ j : Nat, j ≤ 4 ∧ vi = .int .i64 (j : Int) ∧ Hid (Kept (fun i => i = w.heap.size + 1) W wr ∧ wr.heap[w.heap.size + 1]? = some (.cells (partC x j) 74 (0, 0)))) (fun vi _ => 4 - (intOf vi).toNat)
  case atStart => exact ⟨0, by decide, rfl, Kept.refl _ _, by rw [HZ.out]; exact HP.out⟩
  case round =>
    obtain ⟨j, hj, rfl, HJ⟩ := hrel
    by_cases hlt : j < 4
    · have hltz : (j : Int) < 4 := by omega
      have hib := hix j hlt
      have hbl := HB.out j
      have hw : IntKind.i64.wrap (byteA x j : Int) = (byteA x j : Int) := by rw [IntKind.wrap_i64]; omega
      have hTr : PowTab wr := HT.out.keptAt K0.out HJ.out.1 (fun i e => by omega)
      have HI := hid (itoa_any (byteA x j : Int) (by omega) (by omega) wr hTr)
      have HN := hid (HPN.out j hlt)
      generalize itS (byteA x j : Int) = S at *
      generalize byteA x j = B at *
      clear hix hTr
      go_wp2_with fail
      refine HI.out.mono ?_
      rintro e w5 ⟨rfl, hk5⟩
      have hlw := (Array.getElem?_eq_some_iff.1 HJ.out.2).1
      have HB5 : Hid (w5.heap[w.heap.size + 1]? = some (.cells (partC x j) 74 (0, 0))) := (hk5.block _ hlw id).trans HJ.out.2
      have K5 : Hid (Kept (fun i => i = w.heap.size + 1) W w5) := HJ.out.1.trans (hk5.mono (fun _ _ h => h.elim))
      have hfz : ∀ i, w5.frozen? ⟨w.heap.size + 1, i, none⟩ = false := fun i => frozen_of_row _ _ i _ _ HB5.out
      have hcell : ∃ v, w5.cell? ⟨w.heap.size + 1, j, none⟩ = some v := by
        refine ⟨.string (if j < j then itS (byteA x j : Int) else ⟨#[]⟩), ?_⟩
        rw [World.cell?]
        simp only [HB5.out]
        simp [partC, hlt]
      obtain ⟨v, hv⟩ := hcell
      have hfj := hfz j
      clear hfz hk5 hlw
      go_wp2
      refine ⟨⟨j + 1, hlt, by go_num, ?_, ?_⟩, by simp [intOf]; omega⟩
      · exact K5.out.setCell (Or.inr rfl) _
      · rw [← HN.out]
        exact Joins.block_setCell HB5.out _
    · obtain rfl : j = 4 := by omega
      have HJ' := hid (HJ4.out wr HJ.out.2)
      clear hix
      go_wp2_with fail
      refine HJ'.out.mono ?_
      rintro e w6 ⟨rfl, hk6⟩
      have K6 : Hid (Kept (fun i => i = w.heap.size + 1) W w6) := HJ.out.1.trans (hk6.mono (fun _ _ h => h.elim))
      go_wp2
      go_ret
      exact ⟨rfl, K0.out.andThen K6.out (fun i hi e => by omega)⟩
end Go.Proofs.YtblcojggjplndaaDoor
