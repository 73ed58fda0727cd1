/- The document's own text of an address (tollgateref13.AddrText). -/
import Derived.Test.YtblcojggjplndaaDoorPpText
import Derived.Test.YtblcojggjplndaaDoorRefDigitsT
namespace Go.Proofs.YtblcojggjplndaaDoor
open Go.RowKit

/-- The first j numbers of a text. -/
def preA (x : Ad) (j : Nat) : List UInt8 := Lib.join (([x.a, x.b, x.c, x.d].take j).map fun b => Lib.itoa (b.toNat : Int)) [46]
def dotA (x : Ad) (j : Nat) : List UInt8 := if j = 0 then [] else preA x j ++ [46]
theorem preA_next (x : Ad) (j : Nat) (hj : j < 4) : dotA x j ++ Lib.itoa (byteA x j : Int) = preA x (j + 1) := by
  rcases (show j = 0 ∨ j = 1 ∨ j = 2 ∨ j = 3 by omega) with rfl | rfl | rfl | rfl <;> simp [dotA, preA, byteA, Lib.join, List.intercalate]
theorem preA_all (x : Ad) : textA x = ⟨(preA x 4).toArray⟩ := rfl
theorem preA_size (x : Ad) (j : Nat) (hj : j ≤ 4) : (preA x j).length ≤ 100 := by
  have h1 := dec_short x.a.toNat (UInt8.toNat_lt _); have h2 := dec_short x.b.toNat (UInt8.toNat_lt _); have h3 := dec_short x.c.toNat (UInt8.toNat_lt _); have h4 := dec_short x.d.toNat (UInt8.toNat_lt _)
  rcases (show j = 0 ∨ j = 1 ∨ j = 2 ∨ j = 3 ∨ j = 4 by omega) with rfl | rfl | rfl | rfl | rfl <;> simp [preA, Lib.join, List.intercalate] <;> omega
theorem cat_data (a b : List UInt8) : (⟨a.toArray⟩ : ByteArray) ++ ⟨b.toArray⟩ = ⟨(a ++ b).toArray⟩ := by
  apply ByteArray.ext
  apply Array.toList_inj.1
  simp

set_option maxHeartbeats 2000000 in
set_option maxRecDepth 100000 in
theorem rText_any (x : Ad) (w : World) : Calls Tryd.prog 24 #[adV x] w fun e w' => e = .returned (.string (textA x)) ∧ Kept (fun _ => False) w w' := by
  have K0 := hid ((Kept.refl (fun _ => False) w).alloc (.cells #[.int .u8 (x.a.toNat : Int), .int .u8 (x.b.toNat : Int), .int .u8 (x.c.toNat : Int), .int .u8 (x.d.toNat : Int)] 23))
  have H4 := hid (four4_new w 23 (.int .u8 (x.a.toNat : Int)) (.int .u8 (x.b.toNat : Int)) (.int .u8 (x.c.toNat : Int)) (.int .u8 (x.d.toNat : Int)))
  have HC : Hid (∀ W, Four4 W w.heap.size (.int .u8 (x.a.toNat : Int)) (.int .u8 (x.b.toNat : Int)) (.int .u8 (x.c.toNat : Int)) (.int .u8 (x.d.toNat : Int)) → ∀ j, j < 4 → W.cell? ⟨w.heap.size, j, none⟩ = some (.int .u8 (byteA x j : Int))) := fun W h j hj => by
    rcases (show j = 0 ∨ j = 1 ∨ j = 2 ∨ j = 3 by omega) with rfl | rfl | rfl | rfl
    · exact h.1.1
    · exact h.1.2.1
    · exact h.1.2.2.1
    · exact h.1.2.2.2
  have HN := hid (preA_next x)
  have HS := hid (preA_size x)
  have HB := hid (byteA_lt x)
  have HD : Hid (∀ (n : Nat) W, n < 256 → Calls Tryd.prog 31 #[.int .i64 (n : Int)] W fun e w' => e = .returned (.string ⟨(Lib.itoa (n : Int)).toArray⟩) ∧ Kept (fun _ => False) W w') := fun n W hn => (refDigits_any (n : Int) (by omega) (by omega) W).mono fun _ _ ⟨h1, h2⟩ => ⟨h1, Kept.of_below h2 (fun i h3 h4 => by omega)⟩
  have HZ := hid (dec_short)
  have HT := hid (preA_all x)
  obtain ⟨R, hR⟩ : ∃ R, R = textA x := ⟨_, rfl⟩
  have HR := hid hR
  rw [← hR]
  unfold adV
  clear hR
  go_enter Tryd.func24, Tryd.ntmps24
  go_upto_region 1 with fail
  generalize w.alloc (.cells #[.int .u8 (x.a.toNat : Int), .int .u8 (x.b.toNat : Int), .int .u8 (x.c.toNat : Int), .int .u8 (x.d.toNat : Int)] 23) = W at *
  go_wp2
  go_loopw [3, 4] (fun vs vi wr => ∃ j : Nat, j ≤ 4 ∧ vi = .int .i64 (j : Int) ∧ vs = .string ⟨(preA x j).toArray⟩ ∧ Hid (Kept (fun _ => False) W wr)) (fun _ vi _ => 4 - (intOf vi).toNat)
  case atStart => exact ⟨0, by decide, rfl, rfl, Kept.refl _ _⟩
  case round =>
    obtain ⟨j, hj, rfl, rfl, HJ⟩ := hrel
    by_cases hlt : j < 4
    · have hltz : (j : Int) < 4 := by omega
      have hcj := HC.out wr (H4.out.kept HJ.out (fun h => h)) j hlt
      have hbl := HB.out j
      have hw : IntKind.i64.wrap (byteA x j : Int) = (byteA x j : Int) := by rw [IntKind.wrap_i64]; omega
      have HI := hid (HD.out (byteA x j) wr hbl)
      have hn := HN.out j hlt
      have hs1 : (⟨(preA x j).toArray⟩ : ByteArray).size ≤ 100 := HS.out j hj
      have hs2 : (⟨(Lib.itoa (byteA x j : Int)).toArray⟩ : ByteArray).size ≤ 20 := HZ.out (byteA x j) hbl
      have HNx : Hid ((if j = 0 then (⟨(preA x j).toArray⟩ : ByteArray) else ⟨(preA x j).toArray⟩ ++ ⟨#[46]⟩) ++ ⟨(Lib.itoa (byteA x j : Int)).toArray⟩ = ⟨(preA x (j + 1)).toArray⟩) := by
        rw [← hn]
        unfold dotA
        by_cases h0 : j = 0
        · subst h0
          exact cat_data [] _
        · rw [if_neg h0, if_neg h0]
          have := cat_data (preA x j) [46]
          rw [show (⟨#[46]⟩ : ByteArray) = ⟨[(46 : UInt8)].toArray⟩ from rfl, this, cat_data]
          exact rfl
      generalize (⟨(preA x j).toArray⟩ : ByteArray) = S at *
      generalize (⟨(Lib.itoa (byteA x j : Int)).toArray⟩ : ByteArray) = T at *
      generalize byteA x j = B at *
      clear hn
      by_cases h0 : j = 0
      · have hg0 : ¬ (0 : Int) < (j : Int) := by omega
        have HNy : Hid (S ++ T = ⟨(preA x (j + 1)).toArray⟩) := by have := HNx.out; rw [if_pos h0] at this; exact this
        clear HNx h0
        go_wp2_with fail
        refine HI.out.mono ?_
        rintro e w5 ⟨rfl, hk5⟩
        have K5 := hid (HJ.out.trans hk5)
        clear hk5 hcj
        go_wp2
        exact ⟨⟨j + 1, hlt, by go_num, by rw [HNy.out], K5.out⟩, by simp [intOf]; omega⟩
      · have hg0 : (0 : Int) < (j : Int) := by omega
        have HNy : Hid (S ++ ⟨#[46]⟩ ++ T = ⟨(preA x (j + 1)).toArray⟩) := by have := HNx.out; rw [if_neg h0] at this; exact this
        clear HNx h0
        go_wp2_with fail
        refine HI.out.mono ?_
        rintro e w5 ⟨rfl, hk5⟩
        have K5 := hid (HJ.out.trans hk5)
        clear hk5 hcj
        go_wp2
        exact ⟨⟨j + 1, hlt, by go_num, by rw [HNy.out], K5.out⟩, by simp [intOf]; omega⟩
    · obtain rfl : j = 4 := by omega
      have hRR : R = ⟨(preA x 4).toArray⟩ := HR.out.trans HT.out
      subst hRR
      go_wp2
      go_ret
      exact ⟨rfl, K0.out.trans HJ.out⟩
end Go.Proofs.YtblcojggjplndaaDoor
