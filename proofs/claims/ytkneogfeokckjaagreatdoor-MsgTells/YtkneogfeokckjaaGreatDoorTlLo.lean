/- The document's own calls of chapter 19, the small ones: word, Raw, IsCtl; of Two what it comes to is a premise. · The contract of the document's own PutLoad (P1902); of Two what it comes to is a premise. (Written by gen_mgref2.py.) · The contract of the document's own GetLoad (P1902); of Num what it comes to is a premise. · Operations of a region that draws, taken one behind another in the order of a list: what is to be taken next stands in the goal. (No function named.) · The contract of the document's own GetLoad (P1902). (Written by gen_mgload.py.) · The contract of the document's own Needs (P1903): the types that must be there, in a row of the call's own. · The contract of the document's own Kind (P1903); of Num what it comes to is a premise. (Written by gen_mgref6.py.) · The contract of the document's own PutCtl (P1901); of Two, Put what they come to is a premise. (Written by gen_mgref3.py.) -/
import Derived.Test.YtkneogfeokckjaaGreatDoorMsIn
import Derived.Test.YtkneogfeokckjaaGreatDoorKept
import Derived.Test.YtkneogfeokckjaaGreatDoorTagKit
import Derived.Deep.DeepCutAuto
import Derived.Deep.CutRange
import Derived.Deep.CutBlock
import Derived.Deep.RegionHeld
import Derived.Deep.RegionHeld3
import Derived.Maps.RangeWalk
import Derived.Test.YtkneogfeokckjaaGreatDoorAvRef1
import Derived.Test.YtkneogfeokckjaaGreatDoorBbSto
namespace Go.Proofs.YtkneogfeokckjaaGreatDoor
open Go.RowKit

def TwoAt : Prop := ∀ (n : Nat) (w : World), Calls Tryz.prog 53 #[.int .i64 (n : Int)] w fun e w' => e = .returned (.string (two n)) ∧ Kept (fun _ => False) w w'
theorem wordB_true {v : Int} (h : wordB v = true) : 0 ≤ v ∧ v ≤ 65535 := by simpa [wordB] using h

set_option maxHeartbeats 1000000 in
set_option maxRecDepth 100000 in
theorem rWord_any (v : Int) (w : World) :
    Calls Tryz.prog 36 #[.int .i64 v] w fun e w' => e = .returned (.bool (wordB v)) ∧ Kept (fun _ => False) w w' := by
  by_cases h0 : 0 ≤ v
  · by_cases h1 : v ≤ 65535
    · have HB : Hid (wordB v = true) := by
        show wordB v = true
        simp [wordB, h0, h1]
      go_enter Tryz.func36, Tryz.ntmps36
      go_wp2
      go_ret
      exact ⟨by rw [HB.out]; rfl, Kept.refl _ _⟩
    · have HB : Hid (wordB v = false) := by
        show wordB v = false
        simp [wordB, h1]
      go_enter Tryz.func36, Tryz.ntmps36
      go_wp2
      go_ret
      exact ⟨by rw [HB.out]; rfl, Kept.refl _ _⟩
  · have HB : Hid (wordB v = false) := by
      show wordB v = false
      simp [wordB, h0]
    go_enter Tryz.func36, Tryz.ntmps36
    go_wp2
    go_ret
    exact ⟨by rw [HB.out]; rfl, Kept.refl _ _⟩

set_option maxHeartbeats 1000000 in
set_option maxRecDepth 100000 in
theorem rIsCtl_any (b : ByteArray) (hb : b.size ≤ 140737488351232) (w : World) :
    Calls Tryz.prog 31 #[.string b] w fun e w' => e = .returned (.bool (isCF b)) ∧ Kept (fun _ => False) w w' := by
  by_cases h0 : 0 < b.size
  · have h0z : (0 : Int) < (b.size : Int) := by omega
    have x0 := index_at b 0 h0 0 rfl
    have HB : Hid (isCF b = decide (128 ≤ byteN b 0)) := by
      show isCF b = _
      simp [isCF, h0]
    unfold byteN at HB
    generalize (b.data.toList.getD 0 0).toNat = A at *
    by_cases h1 : 128 ≤ A
    · have h1z : (128 : Int) ≤ (A : Int) := by omega
      rw [decide_eq_true h1] at HB
      go_enter Tryz.func31, Tryz.ntmps31
      go_wp2
      go_ret
      exact ⟨by rw [HB.out]; rfl, Kept.refl _ _⟩
    · have h1z : ¬ (128 : Int) ≤ (A : Int) := by omega
      rw [decide_eq_false h1] at HB
      go_enter Tryz.func31, Tryz.ntmps31
      go_wp2
      go_ret
      exact ⟨by rw [HB.out]; rfl, Kept.refl _ _⟩
  · have h0z : ¬ (0 : Int) < (b.size : Int) := by omega
    have HB : Hid (isCF b = false) := by
      show isCF b = _
      simp [isCF, h0]
    go_enter Tryz.func31, Tryz.ntmps31
    go_wp2
    go_ret
    exact ⟨by rw [HB.out]; rfl, Kept.refl _ _⟩

set_option maxHeartbeats 4000000 in
set_option maxRecDepth 100000 in
theorem rRaw_any (hT : TwoAt) (t s n r : Nat) (p : Option Addr) (k c : Nat) (x : ByteArray) (hx : x.size ≤ 1000000) (w : World) :
    Calls Tryz.prog 38 #[.agg #[.int .i64 (t : Int), .int .i64 (s : Int), .int .i64 (n : Int), .int .i64 (r : Int), .slice p k c], .string x] w fun e w' => e = .returned (.string (rawF t s n r x)) ∧ Kept (fun _ => False) w w' := by
  have C0 := CtAt.new w t s n r (.slice p k c)
  have HK0 := hid ((Kept.refl (fun _ => False) w).alloc (.cells #[.int .i64 (t : Int), .int .i64 (s : Int), .int .i64 (n : Int), .int .i64 (r : Int), .slice p k c] 24))
  have HT0 := hid (hT (x.size + 12))
  have HT1 := hid (hT t)
  have HT2 := hid (hT s)
  have HT3 := hid (hT n)
  have HT4 := hid (hT r)
  have s0 := two_size (x.size + 12)
  have s1 := two_size t
  have s2 := two_size s
  have s3 := two_size n
  have s4 := two_size r
  have HE : Hid ((⟨#[200, 2]⟩ : ByteArray) ++ two (x.size + 12) ++ two t ++ two s ++ two n ++ two r ++ x = rawF t s n r x) := by
    show _ = rawF t s n r x
    unfold rawF
    simp only [Int.toNat_natCast]
  generalize two (x.size + 12) = T0 at HT0 s0 HE
  have hR : ∃ R, R = rawF t s n r x := ⟨_, rfl⟩
  obtain ⟨R, hR⟩ := hR
  rw [← hR] at HE ⊢
  generalize two t = T1 at HT1 s1 HE
  generalize two s = T2 at HT2 s2 HE
  generalize two n = T3 at HT3 s3 HE
  generalize two r = T4 at HT4 s4 HE
  have w1 : IntKind.i64.wrap ((x.size : Int) + 12) = ((x.size + 12 : Nat) : Int) := by rw [IntKind.wrap_i64]; omega
  have o1 : ¬ (9223372036854775807 < 12 + x.size) := by omega
  clear hR
  generalize hW1 : w.alloc (.cells #[.int .i64 (t : Int), .int .i64 (s : Int), .int .i64 (n : Int), .int .i64 (r : Int), .slice p k c] 24) = W1 at C0 HK0
  have p0 : ∀ W, Kept (fun _ => False) W1 W → W.cell? ⟨w.heap.size, 0, none⟩ = some (.int .i64 (t : Int)) := fun W hk => (C0.kept hk).cells.1
  have p1 : ∀ W, Kept (fun _ => False) W1 W → W.cell? ⟨w.heap.size, 1, none⟩ = some (.int .i64 (s : Int)) := fun W hk => (C0.kept hk).cells.2.1
  have p2 : ∀ W, Kept (fun _ => False) W1 W → W.cell? ⟨w.heap.size, 2, none⟩ = some (.int .i64 (n : Int)) := fun W hk => (C0.kept hk).cells.2.2.1
  have p3 : ∀ W, Kept (fun _ => False) W1 W → W.cell? ⟨w.heap.size, 3, none⟩ = some (.int .i64 (r : Int)) := fun W hk => (C0.kept hk).cells.2.2.2.1
  have HW := hid hW1
  clear hW1 C0
  go_enter Tryz.func38, Tryz.ntmps38
  go_upto_region 1 with fail
  rw [HW.out]
  refine wp_region_held_drew (S := Kept (fun _ => False) W1) (by kernel_rfl) ((Kept.refl (fun _ => False) W1).drew) (fun hSd => ?_)
  refine wpAnyH_take (i := 0) (v := ?_) rfl (by kernel_rfl) (by kernel_rfl) (by kernel_rfl) (fun _ _ _ h => h) (Or.inl ⟨by kernel_rfl, fun W hSW => by go_simp; try with_reducible rfl⟩) (by assumption) ?_
  try simp only [List.getElem_toArray]
  try simp only [List.getElem_cons_succ]
  try simp only [List.getElem_cons_zero]
  try simp only [Act.put]
  try simp only [List.setIfInBounds_toArray]
  try simp only [List.set_cons_succ]
  try simp only [List.set_cons_zero]
  refine wpAnyH_take (i := 1) (v := ?_) rfl (by kernel_rfl) (by kernel_rfl) (by kernel_rfl) (fun _ _ _ h => h) (Or.inl ⟨by kernel_rfl, fun W hSW => by go_simp; try with_reducible rfl⟩) (by assumption) ?_
  try simp only [List.getElem_toArray]
  try simp only [List.getElem_cons_succ]
  try simp only [List.getElem_cons_zero]
  try simp only [Act.put]
  try simp only [List.setIfInBounds_toArray]
  try simp only [List.set_cons_succ]
  try simp only [List.set_cons_zero]
  refine wpAnyH_take (i := 2) (v := (.int .i64 ((x.size + 12 : Nat) : Int))) rfl (by kernel_rfl) (by kernel_rfl) (by kernel_rfl) (fun _ _ _ h => h) (Or.inl ⟨by kernel_rfl, fun W hSW => by go_simp; try with_reducible rfl⟩) (by assumption) ?_
  try simp only [List.getElem_toArray]
  try simp only [List.getElem_cons_succ]
  try simp only [List.getElem_cons_zero]
  try simp only [Act.put]
  try simp only [List.setIfInBounds_toArray]
  try simp only [List.set_cons_succ]
  try simp only [List.set_cons_zero]
  refine wpAnyH_take (i := 5) (v := ?_) rfl (by kernel_rfl) (by kernel_rfl) (by kernel_rfl) (fun _ _ _ h => h) (Or.inl ⟨by kernel_rfl, fun W hSW => by go_simp; try with_reducible rfl⟩) (by assumption) ?_
  try simp only [List.getElem_toArray]
  try simp only [List.getElem_cons_succ]
  try simp only [List.getElem_cons_zero]
  try simp only [Act.put]
  try simp only [List.setIfInBounds_toArray]
  try simp only [List.set_cons_succ]
  try simp only [List.set_cons_zero]
  refine wpAnyH_take (i := 6) (v := ?_) rfl (by kernel_rfl) (by kernel_rfl) (by kernel_rfl) (fun _ _ _ h => h) (Or.inl ⟨by kernel_rfl, fun W hSW => by go_simp; try with_reducible rfl⟩) (by assumption) ?_
  try simp only [List.getElem_toArray]
  try simp only [List.getElem_cons_succ]
  try simp only [List.getElem_cons_zero]
  try simp only [Act.put]
  try simp only [List.setIfInBounds_toArray]
  try simp only [List.set_cons_succ]
  try simp only [List.set_cons_zero]
  refine wpAnyH_take (i := 9) (v := ?_) rfl (by kernel_rfl) (by kernel_rfl) (by kernel_rfl) (fun _ _ _ h => h) (Or.inl ⟨by kernel_rfl, fun W hSW => by go_simp; try with_reducible rfl⟩) (by assumption) ?_
  try simp only [List.getElem_toArray]
  try simp only [List.getElem_cons_succ]
  try simp only [List.getElem_cons_zero]
  try simp only [Act.put]
  try simp only [List.setIfInBounds_toArray]
  try simp only [List.set_cons_succ]
  try simp only [List.set_cons_zero]
  refine wpAnyH_take (i := 10) (v := ?_) rfl (by kernel_rfl) (by kernel_rfl) (by kernel_rfl) (fun _ _ _ h => h) (Or.inl ⟨by kernel_rfl, fun W hSW => by go_simp; try with_reducible rfl⟩) (by assumption) ?_
  try simp only [List.getElem_toArray]
  try simp only [List.getElem_cons_succ]
  try simp only [List.getElem_cons_zero]
  try simp only [Act.put]
  try simp only [List.setIfInBounds_toArray]
  try simp only [List.set_cons_succ]
  try simp only [List.set_cons_zero]
  refine wpAnyH_take (i := 13) (v := ?_) rfl (by kernel_rfl) (by kernel_rfl) (by kernel_rfl) (fun _ _ _ h => h) (Or.inl ⟨by kernel_rfl, fun W hSW => by go_simp; try with_reducible rfl⟩) (by assumption) ?_
  try simp only [List.getElem_toArray]
  try simp only [List.getElem_cons_succ]
  try simp only [List.getElem_cons_zero]
  try simp only [Act.put]
  try simp only [List.setIfInBounds_toArray]
  try simp only [List.set_cons_succ]
  try simp only [List.set_cons_zero]
  refine wpAnyH_take (i := 14) (v := ?_) rfl (by kernel_rfl) (by kernel_rfl) (by kernel_rfl) (fun _ _ _ h => h) (Or.inl ⟨by kernel_rfl, fun W hSW => by go_simp; try with_reducible rfl⟩) (by assumption) ?_
  try simp only [List.getElem_toArray]
  try simp only [List.getElem_cons_succ]
  try simp only [List.getElem_cons_zero]
  try simp only [Act.put]
  try simp only [List.setIfInBounds_toArray]
  try simp only [List.set_cons_succ]
  try simp only [List.set_cons_zero]
  refine wpAnyH_take (i := 17) (v := ?_) rfl (by kernel_rfl) (by kernel_rfl) (by kernel_rfl) (fun _ _ _ h => h) (Or.inl ⟨by kernel_rfl, fun W hSW => by go_simp; try with_reducible rfl⟩) (by assumption) ?_
  try simp only [List.getElem_toArray]
  try simp only [List.getElem_cons_succ]
  try simp only [List.getElem_cons_zero]
  try simp only [Act.put]
  try simp only [List.setIfInBounds_toArray]
  try simp only [List.set_cons_succ]
  try simp only [List.set_cons_zero]
  refine wpAnyH_take (i := 18) (v := ?_) rfl (by kernel_rfl) (by kernel_rfl) (by kernel_rfl) (fun _ _ _ h => h) (Or.inl ⟨by kernel_rfl, fun W hSW => by go_simp; try with_reducible rfl⟩) (by assumption) ?_
  try simp only [List.getElem_toArray]
  try simp only [List.getElem_cons_succ]
  try simp only [List.getElem_cons_zero]
  try simp only [Act.put]
  try simp only [List.setIfInBounds_toArray]
  try simp only [List.set_cons_succ]
  try simp only [List.set_cons_zero]
  refine wpAnyH_take (i := 21) (v := ?_) rfl (by kernel_rfl) (by kernel_rfl) (by kernel_rfl) (fun _ _ _ h => h) (Or.inl ⟨by kernel_rfl, fun W hSW => by go_simp; try with_reducible rfl⟩) (by assumption) ?_
  try simp only [List.getElem_toArray]
  try simp only [List.getElem_cons_succ]
  try simp only [List.getElem_cons_zero]
  try simp only [Act.put]
  try simp only [List.setIfInBounds_toArray]
  try simp only [List.set_cons_succ]
  try simp only [List.set_cons_zero]
  refine wpAnyH_ready (rs := [3]) (by kernel_rfl) (by simp) ?_
  refine AllReadyH.cons rfl (fun K hK => ?_) AllReadyH.nil
  go_simp
  refine (HT0.out _).mono ?_
  rintro e x1 ⟨rfl, hk⟩
  have hS1 : Kept (fun _ => False) W1 x1 := (Kept.refl (fun _ => False) W1).drew.trans hk
  clear hk
  refine hK.out _ _ (hS1) (fun _ => ?_)
  clear hK K
  try simp only [List.getElem_toArray]
  try simp only [List.getElem_cons_succ]
  try simp only [List.getElem_cons_zero]
  try simp only [Act.put]
  try simp only [List.setIfInBounds_toArray]
  try simp only [List.set_cons_succ]
  try simp only [List.set_cons_zero]
  refine wpAnyH_take (i := 4) (v := ?_) rfl (by kernel_rfl) (by kernel_rfl) (by kernel_rfl) (fun _ _ _ h => h) (Or.inl ⟨by kernel_rfl, fun W hSW => by go_simp; try with_reducible rfl⟩) (by assumption) ?_
  try simp only [List.getElem_toArray]
  try simp only [List.getElem_cons_succ]
  try simp only [List.getElem_cons_zero]
  try simp only [Act.put]
  try simp only [List.setIfInBounds_toArray]
  try simp only [List.set_cons_succ]
  try simp only [List.set_cons_zero]
  refine wpAnyH_ready (rs := [7]) (by kernel_rfl) (by simp) ?_
  refine AllReadyH.cons rfl (fun K hK => ?_) AllReadyH.nil
  go_simp
  refine (HT1.out _).mono ?_
  rintro e x2 ⟨rfl, hk⟩
  have hS2 : Kept (fun _ => False) W1 x2 := hS1.trans hk
  clear hk
  refine hK.out _ _ (hS2) (fun _ => ?_)
  clear hK K
  try simp only [List.getElem_toArray]
  try simp only [List.getElem_cons_succ]
  try simp only [List.getElem_cons_zero]
  try simp only [Act.put]
  try simp only [List.setIfInBounds_toArray]
  try simp only [List.set_cons_succ]
  try simp only [List.set_cons_zero]
  refine wpAnyH_take (i := 8) (v := ?_) rfl (by kernel_rfl) (by kernel_rfl) (by kernel_rfl) (fun _ _ _ h => h) (Or.inl ⟨by kernel_rfl, fun W hSW => by go_simp; try with_reducible rfl⟩) (by assumption) ?_
  try simp only [List.getElem_toArray]
  try simp only [List.getElem_cons_succ]
  try simp only [List.getElem_cons_zero]
  try simp only [Act.put]
  try simp only [List.setIfInBounds_toArray]
  try simp only [List.set_cons_succ]
  try simp only [List.set_cons_zero]
  refine wpAnyH_ready (rs := [11]) (by kernel_rfl) (by simp) ?_
  refine AllReadyH.cons rfl (fun K hK => ?_) AllReadyH.nil
  go_simp
  refine (HT2.out _).mono ?_
  rintro e x3 ⟨rfl, hk⟩
  have hS3 : Kept (fun _ => False) W1 x3 := hS2.trans hk
  clear hk
  refine hK.out _ _ (hS3) (fun _ => ?_)
  clear hK K
  try simp only [List.getElem_toArray]
  try simp only [List.getElem_cons_succ]
  try simp only [List.getElem_cons_zero]
  try simp only [Act.put]
  try simp only [List.setIfInBounds_toArray]
  try simp only [List.set_cons_succ]
  try simp only [List.set_cons_zero]
  refine wpAnyH_take (i := 12) (v := ?_) rfl (by kernel_rfl) (by kernel_rfl) (by kernel_rfl) (fun _ _ _ h => h) (Or.inl ⟨by kernel_rfl, fun W hSW => by go_simp; try with_reducible rfl⟩) (by assumption) ?_
  try simp only [List.getElem_toArray]
  try simp only [List.getElem_cons_succ]
  try simp only [List.getElem_cons_zero]
  try simp only [Act.put]
  try simp only [List.setIfInBounds_toArray]
  try simp only [List.set_cons_succ]
  try simp only [List.set_cons_zero]
  refine wpAnyH_ready (rs := [15]) (by kernel_rfl) (by simp) ?_
  refine AllReadyH.cons rfl (fun K hK => ?_) AllReadyH.nil
  go_simp
  refine (HT3.out _).mono ?_
  rintro e x4 ⟨rfl, hk⟩
  have hS4 : Kept (fun _ => False) W1 x4 := hS3.trans hk
  clear hk
  refine hK.out _ _ (hS4) (fun _ => ?_)
  clear hK K
  try simp only [List.getElem_toArray]
  try simp only [List.getElem_cons_succ]
  try simp only [List.getElem_cons_zero]
  try simp only [Act.put]
  try simp only [List.setIfInBounds_toArray]
  try simp only [List.set_cons_succ]
  try simp only [List.set_cons_zero]
  refine wpAnyH_take (i := 16) (v := ?_) rfl (by kernel_rfl) (by kernel_rfl) (by kernel_rfl) (fun _ _ _ h => h) (Or.inl ⟨by kernel_rfl, fun W hSW => by go_simp; try with_reducible rfl⟩) (by assumption) ?_
  try simp only [List.getElem_toArray]
  try simp only [List.getElem_cons_succ]
  try simp only [List.getElem_cons_zero]
  try simp only [Act.put]
  try simp only [List.setIfInBounds_toArray]
  try simp only [List.set_cons_succ]
  try simp only [List.set_cons_zero]
  refine wpAnyH_ready (rs := [19]) (by kernel_rfl) (by simp) ?_
  refine AllReadyH.cons rfl (fun K hK => ?_) AllReadyH.nil
  go_simp
  refine (HT4.out _).mono ?_
  rintro e x5 ⟨rfl, hk⟩
  have hS5 : Kept (fun _ => False) W1 x5 := hS4.trans hk
  clear hk
  refine hK.out _ _ (hS5) (fun _ => ?_)
  clear hK K
  try simp only [List.getElem_toArray]
  try simp only [List.getElem_cons_succ]
  try simp only [List.getElem_cons_zero]
  try simp only [Act.put]
  try simp only [List.setIfInBounds_toArray]
  try simp only [List.set_cons_succ]
  try simp only [List.set_cons_zero]
  refine wpAnyH_take (i := 20) (v := ?_) rfl (by kernel_rfl) (by kernel_rfl) (by kernel_rfl) (fun _ _ _ h => h) (Or.inl ⟨by kernel_rfl, fun W hSW => by go_simp; try with_reducible rfl⟩) (by assumption) ?_
  try simp only [List.getElem_toArray]
  try simp only [List.getElem_cons_succ]
  try simp only [List.getElem_cons_zero]
  try simp only [Act.put]
  try simp only [List.setIfInBounds_toArray]
  try simp only [List.set_cons_succ]
  try simp only [List.set_cons_zero]
  refine wpAnyH_take (i := 22) (v := ?_) rfl (by kernel_rfl) (by kernel_rfl) (by kernel_rfl) (fun _ _ _ h => h) (Or.inl ⟨by kernel_rfl, fun W hSW => by go_simp; try with_reducible rfl⟩) (by assumption) ?_
  try simp only [List.getElem_toArray]
  try simp only [List.getElem_cons_succ]
  try simp only [List.getElem_cons_zero]
  try simp only [Act.put]
  try simp only [List.setIfInBounds_toArray]
  try simp only [List.set_cons_succ]
  try simp only [List.set_cons_zero]
  refine wpAnyH_take (i := 23) (v := ?_) rfl (by kernel_rfl) (by kernel_rfl) (by kernel_rfl) (fun _ _ _ h => h) (Or.inl ⟨by kernel_rfl, fun W hSW => by go_simp; try with_reducible rfl⟩) (by assumption) ?_
  try simp only [List.getElem_toArray]
  try simp only [List.getElem_cons_succ]
  try simp only [List.getElem_cons_zero]
  try simp only [Act.put]
  try simp only [List.setIfInBounds_toArray]
  try simp only [List.set_cons_succ]
  try simp only [List.set_cons_zero]
  refine wpAnyH_done (by kernel_rfl) ?_ _
  go_wp2
  go_ret
  exact ⟨by rw [← HE.out]; rfl, HK0.out.trans hS5⟩
end Go.Proofs.YtkneogfeokckjaaGreatDoor

namespace Go.Proofs.YtkneogfeokckjaaGreatDoor
open Go.RowKit

set_option maxHeartbeats 4000000 in
set_option maxRecDepth 100000 in
theorem putL_no1 (t s : Int) (q : Bool) (n r : Int) (x : ByteArray) (h0 : wordB t = false) (w : World) :
    Calls Tryz.prog 26 #[.agg #[.int .i64 t, .int .i64 s, .bool q, .int .i64 n, .int .i64 r, .string x]] w fun e w' => e = .returned (.tuple #[.string ⟨#[]⟩, .int .i64 1]) ∧ Kept (fun _ => False) w w' := by
  have L0 := hid (LdAt.new w t s q n r x)
  have K0 := hid (Kept.refl (fun _ => False) (w.alloc (.cells #[.int .i64 t, .int .i64 s, .bool q, .int .i64 n, .int .i64 r, .string x] 26)))
  have KA := hid ((Kept.refl (fun _ => False) w).alloc (.cells #[.int .i64 t, .int .i64 s, .bool q, .int .i64 n, .int .i64 r, .string x] 26))
  have HW0 := hid (fun W => rWord_any t W)
  rw [h0] at HW0
  clear h0
  obtain ⟨b0, b1, b2, b3, b4, b5⟩ := L0.out.cells
  go_enter Tryz.func26, Tryz.ntmps26
  go_wp2_with fail
  refine (HW0.out _).mono ?_
  rintro e w1 ⟨rfl, hk⟩
  have K1 := hid (K0.out.trans hk)
  clear hk b0 b1 b2 b3 b4 b5 HW0
  obtain ⟨b0, b1, b2, b3, b4, b5⟩ := (L0.out.kept K1.out).cells
  go_wp2
  go_ret2
  exact ⟨rfl, KA.out.trans K1.out⟩

set_option maxHeartbeats 4000000 in
set_option maxRecDepth 100000 in
theorem putL_no2 (t s : Int) (q : Bool) (n r : Int) (x : ByteArray) (h0 : wordB t = true) (h1 : wordB s = false) (w : World) :
    Calls Tryz.prog 26 #[.agg #[.int .i64 t, .int .i64 s, .bool q, .int .i64 n, .int .i64 r, .string x]] w fun e w' => e = .returned (.tuple #[.string ⟨#[]⟩, .int .i64 1]) ∧ Kept (fun _ => False) w w' := by
  have L0 := hid (LdAt.new w t s q n r x)
  have K0 := hid (Kept.refl (fun _ => False) (w.alloc (.cells #[.int .i64 t, .int .i64 s, .bool q, .int .i64 n, .int .i64 r, .string x] 26)))
  have KA := hid ((Kept.refl (fun _ => False) w).alloc (.cells #[.int .i64 t, .int .i64 s, .bool q, .int .i64 n, .int .i64 r, .string x] 26))
  have HW0 := hid (fun W => rWord_any t W)
  rw [h0] at HW0
  clear h0
  have HW1 := hid (fun W => rWord_any s W)
  rw [h1] at HW1
  clear h1
  obtain ⟨b0, b1, b2, b3, b4, b5⟩ := L0.out.cells
  go_enter Tryz.func26, Tryz.ntmps26
  go_wp2_with fail
  refine (HW0.out _).mono ?_
  rintro e w1 ⟨rfl, hk⟩
  have K1 := hid (K0.out.trans hk)
  clear hk b0 b1 b2 b3 b4 b5 HW0
  obtain ⟨b0, b1, b2, b3, b4, b5⟩ := (L0.out.kept K1.out).cells
  go_wp2_with fail
  refine (HW1.out _).mono ?_
  rintro e w2 ⟨rfl, hk⟩
  have K2 := hid (K1.out.trans hk)
  clear hk b0 b1 b2 b3 b4 b5 HW1
  obtain ⟨b0, b1, b2, b3, b4, b5⟩ := (L0.out.kept K2.out).cells
  go_wp2
  go_ret2
  exact ⟨rfl, KA.out.trans K2.out⟩

set_option maxHeartbeats 4000000 in
set_option maxRecDepth 100000 in
theorem putL_no3 (t s : Int) (q : Bool) (n r : Int) (x : ByteArray) (h0 : wordB t = true) (h1 : wordB s = true) (h2 : wordB n = false) (w : World) :
    Calls Tryz.prog 26 #[.agg #[.int .i64 t, .int .i64 s, .bool q, .int .i64 n, .int .i64 r, .string x]] w fun e w' => e = .returned (.tuple #[.string ⟨#[]⟩, .int .i64 1]) ∧ Kept (fun _ => False) w w' := by
  have L0 := hid (LdAt.new w t s q n r x)
  have K0 := hid (Kept.refl (fun _ => False) (w.alloc (.cells #[.int .i64 t, .int .i64 s, .bool q, .int .i64 n, .int .i64 r, .string x] 26)))
  have KA := hid ((Kept.refl (fun _ => False) w).alloc (.cells #[.int .i64 t, .int .i64 s, .bool q, .int .i64 n, .int .i64 r, .string x] 26))
  have HW0 := hid (fun W => rWord_any t W)
  rw [h0] at HW0
  clear h0
  have HW1 := hid (fun W => rWord_any s W)
  rw [h1] at HW1
  clear h1
  have HW2 := hid (fun W => rWord_any n W)
  rw [h2] at HW2
  clear h2
  obtain ⟨b0, b1, b2, b3, b4, b5⟩ := L0.out.cells
  go_enter Tryz.func26, Tryz.ntmps26
  go_wp2_with fail
  refine (HW0.out _).mono ?_
  rintro e w1 ⟨rfl, hk⟩
  have K1 := hid (K0.out.trans hk)
  clear hk b0 b1 b2 b3 b4 b5 HW0
  obtain ⟨b0, b1, b2, b3, b4, b5⟩ := (L0.out.kept K1.out).cells
  go_wp2_with fail
  refine (HW1.out _).mono ?_
  rintro e w2 ⟨rfl, hk⟩
  have K2 := hid (K1.out.trans hk)
  clear hk b0 b1 b2 b3 b4 b5 HW1
  obtain ⟨b0, b1, b2, b3, b4, b5⟩ := (L0.out.kept K2.out).cells
  go_wp2_with fail
  refine (HW2.out _).mono ?_
  rintro e w3 ⟨rfl, hk⟩
  have K3 := hid (K2.out.trans hk)
  clear hk b0 b1 b2 b3 b4 b5 HW2
  obtain ⟨b0, b1, b2, b3, b4, b5⟩ := (L0.out.kept K3.out).cells
  go_wp2
  go_ret2
  exact ⟨rfl, KA.out.trans K3.out⟩

set_option maxHeartbeats 4000000 in
set_option maxRecDepth 100000 in
theorem putL_no4 (t s : Int) (q : Bool) (n r : Int) (x : ByteArray) (h0 : wordB t = true) (h1 : wordB s = true) (h2 : wordB n = true) (h3 : wordB r = false) (w : World) :
    Calls Tryz.prog 26 #[.agg #[.int .i64 t, .int .i64 s, .bool q, .int .i64 n, .int .i64 r, .string x]] w fun e w' => e = .returned (.tuple #[.string ⟨#[]⟩, .int .i64 1]) ∧ Kept (fun _ => False) w w' := by
  have L0 := hid (LdAt.new w t s q n r x)
  have K0 := hid (Kept.refl (fun _ => False) (w.alloc (.cells #[.int .i64 t, .int .i64 s, .bool q, .int .i64 n, .int .i64 r, .string x] 26)))
  have KA := hid ((Kept.refl (fun _ => False) w).alloc (.cells #[.int .i64 t, .int .i64 s, .bool q, .int .i64 n, .int .i64 r, .string x] 26))
  have HW0 := hid (fun W => rWord_any t W)
  rw [h0] at HW0
  clear h0
  have HW1 := hid (fun W => rWord_any s W)
  rw [h1] at HW1
  clear h1
  have HW2 := hid (fun W => rWord_any n W)
  rw [h2] at HW2
  clear h2
  have HW3 := hid (fun W => rWord_any r W)
  rw [h3] at HW3
  clear h3
  obtain ⟨b0, b1, b2, b3, b4, b5⟩ := L0.out.cells
  go_enter Tryz.func26, Tryz.ntmps26
  go_wp2_with fail
  refine (HW0.out _).mono ?_
  rintro e w1 ⟨rfl, hk⟩
  have K1 := hid (K0.out.trans hk)
  clear hk b0 b1 b2 b3 b4 b5 HW0
  obtain ⟨b0, b1, b2, b3, b4, b5⟩ := (L0.out.kept K1.out).cells
  go_wp2_with fail
  refine (HW1.out _).mono ?_
  rintro e w2 ⟨rfl, hk⟩
  have K2 := hid (K1.out.trans hk)
  clear hk b0 b1 b2 b3 b4 b5 HW1
  obtain ⟨b0, b1, b2, b3, b4, b5⟩ := (L0.out.kept K2.out).cells
  go_wp2_with fail
  refine (HW2.out _).mono ?_
  rintro e w3 ⟨rfl, hk⟩
  have K3 := hid (K2.out.trans hk)
  clear hk b0 b1 b2 b3 b4 b5 HW2
  obtain ⟨b0, b1, b2, b3, b4, b5⟩ := (L0.out.kept K3.out).cells
  go_wp2_with fail
  refine (HW3.out _).mono ?_
  rintro e w4 ⟨rfl, hk⟩
  have K4 := hid (K3.out.trans hk)
  clear hk b0 b1 b2 b3 b4 b5 HW3
  obtain ⟨b0, b1, b2, b3, b4, b5⟩ := (L0.out.kept K4.out).cells
  go_wp2
  go_ret2
  exact ⟨rfl, KA.out.trans K4.out⟩

set_option maxHeartbeats 4000000 in
set_option maxRecDepth 100000 in
theorem putL_no5 (t s : Int) (n r : Int) (x : ByteArray) (h0 : wordB t = true) (h1 : wordB s = true) (h2 : wordB n = true) (h3 : wordB r = true) (h : n ≠ 0 ∨ (n = 0 ∧ r ≠ 0)) (w : World) :
    Calls Tryz.prog 26 #[.agg #[.int .i64 t, .int .i64 s, .bool false, .int .i64 n, .int .i64 r, .string x]] w fun e w' => e = .returned (.tuple #[.string ⟨#[]⟩, .int .i64 1]) ∧ Kept (fun _ => False) w w' := by
  rcases h with h | ⟨rfl, h⟩
  · have hne : (n != 0) = true := by
      rw [bne_iff_ne]
      exact h
    clear h
    have L0 := hid (LdAt.new w t s false n r x)
    have K0 := hid (Kept.refl (fun _ => False) (w.alloc (.cells #[.int .i64 t, .int .i64 s, .bool false, .int .i64 n, .int .i64 r, .string x] 26)))
    have KA := hid ((Kept.refl (fun _ => False) w).alloc (.cells #[.int .i64 t, .int .i64 s, .bool false, .int .i64 n, .int .i64 r, .string x] 26))
    have HW0 := hid (fun W => rWord_any t W)
    rw [h0] at HW0
    clear h0
    have HW1 := hid (fun W => rWord_any s W)
    rw [h1] at HW1
    clear h1
    have HW2 := hid (fun W => rWord_any n W)
    rw [h2] at HW2
    clear h2
    have HW3 := hid (fun W => rWord_any r W)
    rw [h3] at HW3
    clear h3
    obtain ⟨b0, b1, b2, b3, b4, b5⟩ := L0.out.cells
    go_enter Tryz.func26, Tryz.ntmps26
    go_wp2_with fail
    refine (HW0.out _).mono ?_
    rintro e w1 ⟨rfl, hk⟩
    have K1 := hid (K0.out.trans hk)
    clear hk b0 b1 b2 b3 b4 b5 HW0
    obtain ⟨b0, b1, b2, b3, b4, b5⟩ := (L0.out.kept K1.out).cells
    go_wp2_with fail
    refine (HW1.out _).mono ?_
    rintro e w2 ⟨rfl, hk⟩
    have K2 := hid (K1.out.trans hk)
    clear hk b0 b1 b2 b3 b4 b5 HW1
    obtain ⟨b0, b1, b2, b3, b4, b5⟩ := (L0.out.kept K2.out).cells
    go_wp2_with fail
    refine (HW2.out _).mono ?_
    rintro e w3 ⟨rfl, hk⟩
    have K3 := hid (K2.out.trans hk)
    clear hk b0 b1 b2 b3 b4 b5 HW2
    obtain ⟨b0, b1, b2, b3, b4, b5⟩ := (L0.out.kept K3.out).cells
    go_wp2_with fail
    refine (HW3.out _).mono ?_
    rintro e w4 ⟨rfl, hk⟩
    have K4 := hid (K3.out.trans hk)
    clear hk b0 b1 b2 b3 b4 b5 HW3
    obtain ⟨b0, b1, b2, b3, b4, b5⟩ := (L0.out.kept K4.out).cells
    go_wp2
    go_ret2
    exact ⟨rfl, KA.out.trans K4.out⟩
  · have hne : (r != 0) = true := by
      rw [bne_iff_ne]
      exact h
    clear h
    have L0 := hid (LdAt.new w t s false 0 r x)
    have K0 := hid (Kept.refl (fun _ => False) (w.alloc (.cells #[.int .i64 t, .int .i64 s, .bool false, .int .i64 0, .int .i64 r, .string x] 26)))
    have KA := hid ((Kept.refl (fun _ => False) w).alloc (.cells #[.int .i64 t, .int .i64 s, .bool false, .int .i64 0, .int .i64 r, .string x] 26))
    have HW0 := hid (fun W => rWord_any t W)
    rw [h0] at HW0
    clear h0
    have HW1 := hid (fun W => rWord_any s W)
    rw [h1] at HW1
    clear h1
    have HW2 := hid (fun W => rWord_any 0 W)
    rw [h2] at HW2
    clear h2
    have HW3 := hid (fun W => rWord_any r W)
    rw [h3] at HW3
    clear h3
    obtain ⟨b0, b1, b2, b3, b4, b5⟩ := L0.out.cells
    go_enter Tryz.func26, Tryz.ntmps26
    go_wp2_with fail
    refine (HW0.out _).mono ?_
    rintro e w1 ⟨rfl, hk⟩
    have K1 := hid (K0.out.trans hk)
    clear hk b0 b1 b2 b3 b4 b5 HW0
    obtain ⟨b0, b1, b2, b3, b4, b5⟩ := (L0.out.kept K1.out).cells
    go_wp2_with fail
    refine (HW1.out _).mono ?_
    rintro e w2 ⟨rfl, hk⟩
    have K2 := hid (K1.out.trans hk)
    clear hk b0 b1 b2 b3 b4 b5 HW1
    obtain ⟨b0, b1, b2, b3, b4, b5⟩ := (L0.out.kept K2.out).cells
    go_wp2_with fail
    refine (HW2.out _).mono ?_
    rintro e w3 ⟨rfl, hk⟩
    have K3 := hid (K2.out.trans hk)
    clear hk b0 b1 b2 b3 b4 b5 HW2
    obtain ⟨b0, b1, b2, b3, b4, b5⟩ := (L0.out.kept K3.out).cells
    go_wp2_with fail
    refine (HW3.out _).mono ?_
    rintro e w4 ⟨rfl, hk⟩
    have K4 := hid (K3.out.trans hk)
    clear hk b0 b1 b2 b3 b4 b5 HW3
    obtain ⟨b0, b1, b2, b3, b4, b5⟩ := (L0.out.kept K4.out).cells
    go_wp2
    go_ret2
    exact ⟨rfl, KA.out.trans K4.out⟩

set_option maxHeartbeats 4000000 in
set_option maxRecDepth 100000 in
theorem putL_plain (hT : TwoAt) (t' s' : Nat) (x : ByteArray) (hx : x.size ≤ 1460) (h0 : wordB (t' : Int) = true) (h1 : wordB (s' : Int) = true) (w : World) :
    Calls Tryz.prog 26 #[.agg #[.int .i64 (t' : Int), .int .i64 (s' : Int), .bool false, .int .i64 0, .int .i64 0, .string x]] w fun e w' => e = .returned (.tuple #[.string (⟨#[64, 2]⟩ ++ two (x.size + 8) ++ two t' ++ two s' ++ x), .int .i64 0]) ∧ Kept (fun _ => False) w w' := by
  have h2 : wordB 0 = true := by decide
  have h3 : wordB 0 = true := by decide
  have HT0 := hid (hT (x.size + 8))
  have z0 := two_size (x.size + 8)
  have HT1 := hid (hT (t'))
  have z1 := two_size (t')
  have HT2 := hid (hT (s'))
  have z2 := two_size (s')
  have HE : ∃ R, R = (⟨#[64, 2]⟩ : ByteArray) ++ two (x.size + 8) ++ two (t') ++ two (s') ++ x := ⟨_, rfl⟩
  obtain ⟨R, HE⟩ := HE
  rw [← HE]
  generalize two (x.size + 8) = T0 at HT0 z0 HE
  generalize two (t') = T1 at HT1 z1 HE
  generalize two (s') = T2 at HT2 z2 HE
  have HR := hid HE
  clear HE
  have wr : IntKind.i64.wrap ((x.size : Int) + 8) = ((x.size + 8 : Nat) : Int) := by rw [IntKind.wrap_i64]; omega
  have o1 : ¬ (9223372036854775807 < 8 + x.size) := by omega
  have hdz : ¬ (1460 : Int) < (x.size : Int) := by omega
  have L0 := hid (LdAt.new w (t' : Int) (s' : Int) false 0 0 x)
  have K0 := hid (Kept.refl (fun _ => False) (w.alloc (.cells #[.int .i64 (t' : Int), .int .i64 (s' : Int), .bool false, .int .i64 0, .int .i64 0, .string x] 26)))
  have KA := hid ((Kept.refl (fun _ => False) w).alloc (.cells #[.int .i64 (t' : Int), .int .i64 (s' : Int), .bool false, .int .i64 0, .int .i64 0, .string x] 26))
  have HW0 := hid (fun W => rWord_any (t' : Int) W)
  rw [h0] at HW0
  clear h0
  have HW1 := hid (fun W => rWord_any (s' : Int) W)
  rw [h1] at HW1
  clear h1
  have HW2 := hid (fun W => rWord_any 0 W)
  rw [h2] at HW2
  clear h2
  have HW3 := hid (fun W => rWord_any 0 W)
  rw [h3] at HW3
  clear h3
  obtain ⟨b0, b1, b2, b3, b4, b5⟩ := L0.out.cells
  go_enter Tryz.func26, Tryz.ntmps26
  go_wp2_with fail
  refine (HW0.out _).mono ?_
  rintro e w1 ⟨rfl, hk⟩
  have K1 := hid (K0.out.trans hk)
  clear hk b0 b1 b2 b3 b4 b5 HW0
  obtain ⟨b0, b1, b2, b3, b4, b5⟩ := (L0.out.kept K1.out).cells
  go_wp2_with fail
  refine (HW1.out _).mono ?_
  rintro e w2 ⟨rfl, hk⟩
  have K2 := hid (K1.out.trans hk)
  clear hk b0 b1 b2 b3 b4 b5 HW1
  obtain ⟨b0, b1, b2, b3, b4, b5⟩ := (L0.out.kept K2.out).cells
  go_wp2_with fail
  refine (HW2.out _).mono ?_
  rintro e w3 ⟨rfl, hk⟩
  have K3 := hid (K2.out.trans hk)
  clear hk b0 b1 b2 b3 b4 b5 HW2
  obtain ⟨b0, b1, b2, b3, b4, b5⟩ := (L0.out.kept K3.out).cells
  go_wp2_with fail
  refine (HW3.out _).mono ?_
  rintro e w4 ⟨rfl, hk⟩
  have K4 := hid (K3.out.trans hk)
  clear hk b0 b1 b2 b3 b4 b5 HW3
  obtain ⟨b0, b1, b2, b3, b4, b5⟩ := (L0.out.kept K4.out).cells
  clear b0 b1 b2 b3 b4 b5
  have P := hid (fun W (hk : Kept (fun _ => False) w4 W) => (L0.out.kept (K4.out.trans hk)).cells)
  have p0 : ∀ W, Kept (fun _ => False) w4 W → W.cell? ⟨w.heap.size, 0, none⟩ = some (.int .i64 (t' : Int)) := fun W hk => (P.out W hk).1
  have p1 : ∀ W, Kept (fun _ => False) w4 W → W.cell? ⟨w.heap.size, 1, none⟩ = some (.int .i64 (s' : Int)) := fun W hk => (P.out W hk).2.1
  have p2 : ∀ W, Kept (fun _ => False) w4 W → W.cell? ⟨w.heap.size, 2, none⟩ = some (.bool false) := fun W hk => (P.out W hk).2.2.1
  have p3 : ∀ W, Kept (fun _ => False) w4 W → W.cell? ⟨w.heap.size, 3, none⟩ = some (.int .i64 0) := fun W hk => (P.out W hk).2.2.2.1
  have p4 : ∀ W, Kept (fun _ => False) w4 W → W.cell? ⟨w.heap.size, 4, none⟩ = some (.int .i64 0) := fun W hk => (P.out W hk).2.2.2.2.1
  have p5 : ∀ W, Kept (fun _ => False) w4 W → W.cell? ⟨w.heap.size, 5, none⟩ = some (.string x) := fun W hk => (P.out W hk).2.2.2.2.2
  obtain ⟨b0, b1, b2, b3, b4, b5⟩ := (L0.out.kept K4.out).cells
  go_upto_region 6 with fail
  clear b0 b1 b2 b3 b4 b5 P
  refine wp_region_held_drew (S := Kept (fun _ => False) w4) (by kernel_rfl) ((Kept.refl (fun _ => False) w4).drew) (fun hSd => ?_)
  refine wpAnyH_take (i := 0) (v := ?_) rfl (by kernel_rfl) (by kernel_rfl) (by kernel_rfl) (fun _ _ _ h => h) (Or.inl ⟨by kernel_rfl, fun W hSW => by go_simp; try with_reducible rfl⟩) (by assumption) ?_
  try simp only [List.getElem_toArray]
  try simp only [List.getElem_cons_succ]
  try simp only [List.getElem_cons_zero]
  try simp only [Act.put]
  try simp only [List.setIfInBounds_toArray]
  try simp only [List.set_cons_succ]
  try simp only [List.set_cons_zero]
  refine wpAnyH_take (i := 1) (v := ?_) rfl (by kernel_rfl) (by kernel_rfl) (by kernel_rfl) (fun _ _ _ h => h) (Or.inl ⟨by kernel_rfl, fun W hSW => by go_simp; try with_reducible rfl⟩) (by assumption) ?_
  try simp only [List.getElem_toArray]
  try simp only [List.getElem_cons_succ]
  try simp only [List.getElem_cons_zero]
  try simp only [Act.put]
  try simp only [List.setIfInBounds_toArray]
  try simp only [List.set_cons_succ]
  try simp only [List.set_cons_zero]
  refine wpAnyH_take (i := 2) (v := ?_) rfl (by kernel_rfl) (by kernel_rfl) (by kernel_rfl) (fun _ _ _ h => h) (Or.inl ⟨by kernel_rfl, fun W hSW => by go_simp; try with_reducible rfl⟩) (by assumption) ?_
  try simp only [List.getElem_toArray]
  try simp only [List.getElem_cons_succ]
  try simp only [List.getElem_cons_zero]
  try simp only [Act.put]
  try simp only [List.setIfInBounds_toArray]
  try simp only [List.set_cons_succ]
  try simp only [List.set_cons_zero]
  refine wpAnyH_take (i := 3) (v := (.int .i64 ((x.size + 8 : Nat) : Int))) rfl (by kernel_rfl) (by kernel_rfl) (by kernel_rfl) (fun _ _ _ h => h) (Or.inl ⟨by kernel_rfl, fun W hSW => by go_simp; try with_reducible rfl⟩) (by assumption) ?_
  try simp only [List.getElem_toArray]
  try simp only [List.getElem_cons_succ]
  try simp only [List.getElem_cons_zero]
  try simp only [Act.put]
  try simp only [List.setIfInBounds_toArray]
  try simp only [List.set_cons_succ]
  try simp only [List.set_cons_zero]
  refine wpAnyH_take (i := 6) (v := ?_) rfl (by kernel_rfl) (by kernel_rfl) (by kernel_rfl) (fun _ _ _ h => h) (Or.inl ⟨by kernel_rfl, fun W hSW => by go_simp; try with_reducible rfl⟩) (by assumption) ?_
  try simp only [List.getElem_toArray]
  try simp only [List.getElem_cons_succ]
  try simp only [List.getElem_cons_zero]
  try simp only [Act.put]
  try simp only [List.setIfInBounds_toArray]
  try simp only [List.set_cons_succ]
  try simp only [List.set_cons_zero]
  refine wpAnyH_take (i := 7) (v := ?_) rfl (by kernel_rfl) (by kernel_rfl) (by kernel_rfl) (fun _ _ _ h => h) (Or.inl ⟨by kernel_rfl, fun W hSW => by go_simp; try with_reducible rfl⟩) (by assumption) ?_
  try simp only [List.getElem_toArray]
  try simp only [List.getElem_cons_succ]
  try simp only [List.getElem_cons_zero]
  try simp only [Act.put]
  try simp only [List.setIfInBounds_toArray]
  try simp only [List.set_cons_succ]
  try simp only [List.set_cons_zero]
  refine wpAnyH_take (i := 10) (v := ?_) rfl (by kernel_rfl) (by kernel_rfl) (by kernel_rfl) (fun _ _ _ h => h) (Or.inl ⟨by kernel_rfl, fun W hSW => by go_simp; try with_reducible rfl⟩) (by assumption) ?_
  try simp only [List.getElem_toArray]
  try simp only [List.getElem_cons_succ]
  try simp only [List.getElem_cons_zero]
  try simp only [Act.put]
  try simp only [List.setIfInBounds_toArray]
  try simp only [List.set_cons_succ]
  try simp only [List.set_cons_zero]
  refine wpAnyH_take (i := 11) (v := ?_) rfl (by kernel_rfl) (by kernel_rfl) (by kernel_rfl) (fun _ _ _ h => h) (Or.inl ⟨by kernel_rfl, fun W hSW => by go_simp; try with_reducible rfl⟩) (by assumption) ?_
  try simp only [List.getElem_toArray]
  try simp only [List.getElem_cons_succ]
  try simp only [List.getElem_cons_zero]
  try simp only [Act.put]
  try simp only [List.setIfInBounds_toArray]
  try simp only [List.set_cons_succ]
  try simp only [List.set_cons_zero]
  refine wpAnyH_take (i := 14) (v := ?_) rfl (by kernel_rfl) (by kernel_rfl) (by kernel_rfl) (fun _ _ _ h => h) (Or.inl ⟨by kernel_rfl, fun W hSW => by go_simp; try with_reducible rfl⟩) (by assumption) ?_
  try simp only [List.getElem_toArray]
  try simp only [List.getElem_cons_succ]
  try simp only [List.getElem_cons_zero]
  try simp only [Act.put]
  try simp only [List.setIfInBounds_toArray]
  try simp only [List.set_cons_succ]
  try simp only [List.set_cons_zero]
  refine wpAnyH_take (i := 15) (v := ?_) rfl (by kernel_rfl) (by kernel_rfl) (by kernel_rfl) (fun _ _ _ h => h) (Or.inl ⟨by kernel_rfl, fun W hSW => by go_simp; try with_reducible rfl⟩) (by assumption) ?_
  try simp only [List.getElem_toArray]
  try simp only [List.getElem_cons_succ]
  try simp only [List.getElem_cons_zero]
  try simp only [Act.put]
  try simp only [List.setIfInBounds_toArray]
  try simp only [List.set_cons_succ]
  try simp only [List.set_cons_zero]
  refine wpAnyH_ready (rs := [4]) (by kernel_rfl) (by simp) ?_
  refine AllReadyH.cons rfl (fun K hK => ?_) AllReadyH.nil
  go_simp
  refine (HT0.out _).mono ?_
  rintro e x0 ⟨rfl, hk⟩
  have hS0 : Kept (fun _ => False) w4 x0 := (Kept.refl (fun _ => False) w4).drew.trans hk
  clear hk
  refine hK.out _ _ (hS0) (fun _ => ?_)
  clear hK K
  try simp only [List.getElem_toArray]
  try simp only [List.getElem_cons_succ]
  try simp only [List.getElem_cons_zero]
  try simp only [Act.put]
  try simp only [List.setIfInBounds_toArray]
  try simp only [List.set_cons_succ]
  try simp only [List.set_cons_zero]
  refine wpAnyH_take (i := 5) (v := ?_) rfl (by kernel_rfl) (by kernel_rfl) (by kernel_rfl) (fun _ _ _ h => h) (Or.inl ⟨by kernel_rfl, fun W hSW => by go_simp; try with_reducible rfl⟩) (by assumption) ?_
  try simp only [List.getElem_toArray]
  try simp only [List.getElem_cons_succ]
  try simp only [List.getElem_cons_zero]
  try simp only [Act.put]
  try simp only [List.setIfInBounds_toArray]
  try simp only [List.set_cons_succ]
  try simp only [List.set_cons_zero]
  refine wpAnyH_ready (rs := [8]) (by kernel_rfl) (by simp) ?_
  refine AllReadyH.cons rfl (fun K hK => ?_) AllReadyH.nil
  go_simp
  refine (HT1.out _).mono ?_
  rintro e x1 ⟨rfl, hk⟩
  have hS1 : Kept (fun _ => False) w4 x1 := hS0.trans hk
  clear hk
  refine hK.out _ _ (hS1) (fun _ => ?_)
  clear hK K
  try simp only [List.getElem_toArray]
  try simp only [List.getElem_cons_succ]
  try simp only [List.getElem_cons_zero]
  try simp only [Act.put]
  try simp only [List.setIfInBounds_toArray]
  try simp only [List.set_cons_succ]
  try simp only [List.set_cons_zero]
  refine wpAnyH_take (i := 9) (v := ?_) rfl (by kernel_rfl) (by kernel_rfl) (by kernel_rfl) (fun _ _ _ h => h) (Or.inl ⟨by kernel_rfl, fun W hSW => by go_simp; try with_reducible rfl⟩) (by assumption) ?_
  try simp only [List.getElem_toArray]
  try simp only [List.getElem_cons_succ]
  try simp only [List.getElem_cons_zero]
  try simp only [Act.put]
  try simp only [List.setIfInBounds_toArray]
  try simp only [List.set_cons_succ]
  try simp only [List.set_cons_zero]
  refine wpAnyH_ready (rs := [12]) (by kernel_rfl) (by simp) ?_
  refine AllReadyH.cons rfl (fun K hK => ?_) AllReadyH.nil
  go_simp
  refine (HT2.out _).mono ?_
  rintro e x2 ⟨rfl, hk⟩
  have hS2 : Kept (fun _ => False) w4 x2 := hS1.trans hk
  clear hk
  refine hK.out _ _ (hS2) (fun _ => ?_)
  clear hK K
  try simp only [List.getElem_toArray]
  try simp only [List.getElem_cons_succ]
  try simp only [List.getElem_cons_zero]
  try simp only [Act.put]
  try simp only [List.setIfInBounds_toArray]
  try simp only [List.set_cons_succ]
  try simp only [List.set_cons_zero]
  refine wpAnyH_take (i := 13) (v := ?_) rfl (by kernel_rfl) (by kernel_rfl) (by kernel_rfl) (fun _ _ _ h => h) (Or.inl ⟨by kernel_rfl, fun W hSW => by go_simp; try with_reducible rfl⟩) (by assumption) ?_
  try simp only [List.getElem_toArray]
  try simp only [List.getElem_cons_succ]
  try simp only [List.getElem_cons_zero]
  try simp only [Act.put]
  try simp only [List.setIfInBounds_toArray]
  try simp only [List.set_cons_succ]
  try simp only [List.set_cons_zero]
  refine wpAnyH_take (i := 16) (v := ?_) rfl (by kernel_rfl) (by kernel_rfl) (by kernel_rfl) (fun _ _ _ h => h) (Or.inl ⟨by kernel_rfl, fun W hSW => by go_simp; try with_reducible rfl⟩) (by assumption) ?_
  try simp only [List.getElem_toArray]
  try simp only [List.getElem_cons_succ]
  try simp only [List.getElem_cons_zero]
  try simp only [Act.put]
  try simp only [List.setIfInBounds_toArray]
  try simp only [List.set_cons_succ]
  try simp only [List.set_cons_zero]
  refine wpAnyH_take (i := 17) (v := ?_) rfl (by kernel_rfl) (by kernel_rfl) (by kernel_rfl) (fun _ _ _ h => h) (Or.inl ⟨by kernel_rfl, fun W hSW => by go_simp; try with_reducible rfl⟩) (by assumption) ?_
  try simp only [List.getElem_toArray]
  try simp only [List.getElem_cons_succ]
  try simp only [List.getElem_cons_zero]
  try simp only [Act.put]
  try simp only [List.setIfInBounds_toArray]
  try simp only [List.set_cons_succ]
  try simp only [List.set_cons_zero]
  refine wpAnyH_take (i := 18) (v := ?_) rfl (by kernel_rfl) (by kernel_rfl) (by kernel_rfl) (fun _ _ _ h => h) (Or.inl ⟨by kernel_rfl, fun W hSW => by go_simp; try with_reducible rfl⟩) (by assumption) ?_
  try simp only [List.getElem_toArray]
  try simp only [List.getElem_cons_succ]
  try simp only [List.getElem_cons_zero]
  try simp only [Act.put]
  try simp only [List.setIfInBounds_toArray]
  try simp only [List.set_cons_succ]
  try simp only [List.set_cons_zero]
  refine wpAnyH_done (by kernel_rfl) ?_ _
  go_wp2
  go_ret2
  exact ⟨by rw [HR.out]; rfl, (KA.out.trans K4.out).trans hS2⟩

set_option maxHeartbeats 4000000 in
set_option maxRecDepth 100000 in
theorem putL_seq (hT : TwoAt) (t' s' n' r' : Nat) (x : ByteArray) (hx : x.size ≤ 1460) (h0 : wordB (t' : Int) = true) (h1 : wordB (s' : Int) = true) (h2 : wordB (n' : Int) = true) (h3 : wordB (r' : Int) = true) (w : World) :
    Calls Tryz.prog 26 #[.agg #[.int .i64 (t' : Int), .int .i64 (s' : Int), .bool true, .int .i64 (n' : Int), .int .i64 (r' : Int), .string x]] w fun e w' => e = .returned (.tuple #[.string (⟨#[72, 2]⟩ ++ two (x.size + 12) ++ two t' ++ two s' ++ two n' ++ two r' ++ x), .int .i64 0]) ∧ Kept (fun _ => False) w w' := by
  have HT0 := hid (hT (x.size + 12))
  have z0 := two_size (x.size + 12)
  have HT1 := hid (hT (t'))
  have z1 := two_size (t')
  have HT2 := hid (hT (s'))
  have z2 := two_size (s')
  have HT3 := hid (hT (n'))
  have z3 := two_size (n')
  have HT4 := hid (hT (r'))
  have z4 := two_size (r')
  have HE : ∃ R, R = (⟨#[72, 2]⟩ : ByteArray) ++ two (x.size + 12) ++ two (t') ++ two (s') ++ two (n') ++ two (r') ++ x := ⟨_, rfl⟩
  obtain ⟨R, HE⟩ := HE
  rw [← HE]
  generalize two (x.size + 12) = T0 at HT0 z0 HE
  generalize two (t') = T1 at HT1 z1 HE
  generalize two (s') = T2 at HT2 z2 HE
  generalize two (n') = T3 at HT3 z3 HE
  generalize two (r') = T4 at HT4 z4 HE
  have HR := hid HE
  clear HE
  have wr : IntKind.i64.wrap ((x.size : Int) + 12) = ((x.size + 12 : Nat) : Int) := by rw [IntKind.wrap_i64]; omega
  have o1 : ¬ (9223372036854775807 < 12 + x.size) := by omega
  have hdz : ¬ (1460 : Int) < (x.size : Int) := by omega
  have L0 := hid (LdAt.new w (t' : Int) (s' : Int) true (n' : Int) (r' : Int) x)
  have K0 := hid (Kept.refl (fun _ => False) (w.alloc (.cells #[.int .i64 (t' : Int), .int .i64 (s' : Int), .bool true, .int .i64 (n' : Int), .int .i64 (r' : Int), .string x] 26)))
  have KA := hid ((Kept.refl (fun _ => False) w).alloc (.cells #[.int .i64 (t' : Int), .int .i64 (s' : Int), .bool true, .int .i64 (n' : Int), .int .i64 (r' : Int), .string x] 26))
  have HW0 := hid (fun W => rWord_any (t' : Int) W)
  rw [h0] at HW0
  clear h0
  have HW1 := hid (fun W => rWord_any (s' : Int) W)
  rw [h1] at HW1
  clear h1
  have HW2 := hid (fun W => rWord_any (n' : Int) W)
  rw [h2] at HW2
  clear h2
  have HW3 := hid (fun W => rWord_any (r' : Int) W)
  rw [h3] at HW3
  clear h3
  obtain ⟨b0, b1, b2, b3, b4, b5⟩ := L0.out.cells
  go_enter Tryz.func26, Tryz.ntmps26
  go_wp2_with fail
  refine (HW0.out _).mono ?_
  rintro e w1 ⟨rfl, hk⟩
  have K1 := hid (K0.out.trans hk)
  clear hk b0 b1 b2 b3 b4 b5 HW0
  obtain ⟨b0, b1, b2, b3, b4, b5⟩ := (L0.out.kept K1.out).cells
  go_wp2_with fail
  refine (HW1.out _).mono ?_
  rintro e w2 ⟨rfl, hk⟩
  have K2 := hid (K1.out.trans hk)
  clear hk b0 b1 b2 b3 b4 b5 HW1
  obtain ⟨b0, b1, b2, b3, b4, b5⟩ := (L0.out.kept K2.out).cells
  go_wp2_with fail
  refine (HW2.out _).mono ?_
  rintro e w3 ⟨rfl, hk⟩
  have K3 := hid (K2.out.trans hk)
  clear hk b0 b1 b2 b3 b4 b5 HW2
  obtain ⟨b0, b1, b2, b3, b4, b5⟩ := (L0.out.kept K3.out).cells
  go_wp2_with fail
  refine (HW3.out _).mono ?_
  rintro e w4 ⟨rfl, hk⟩
  have K4 := hid (K3.out.trans hk)
  clear hk b0 b1 b2 b3 b4 b5 HW3
  obtain ⟨b0, b1, b2, b3, b4, b5⟩ := (L0.out.kept K4.out).cells
  clear b0 b1 b2 b3 b4 b5
  have P := hid (fun W (hk : Kept (fun _ => False) w4 W) => (L0.out.kept (K4.out.trans hk)).cells)
  have p0 : ∀ W, Kept (fun _ => False) w4 W → W.cell? ⟨w.heap.size, 0, none⟩ = some (.int .i64 (t' : Int)) := fun W hk => (P.out W hk).1
  have p1 : ∀ W, Kept (fun _ => False) w4 W → W.cell? ⟨w.heap.size, 1, none⟩ = some (.int .i64 (s' : Int)) := fun W hk => (P.out W hk).2.1
  have p2 : ∀ W, Kept (fun _ => False) w4 W → W.cell? ⟨w.heap.size, 2, none⟩ = some (.bool true) := fun W hk => (P.out W hk).2.2.1
  have p3 : ∀ W, Kept (fun _ => False) w4 W → W.cell? ⟨w.heap.size, 3, none⟩ = some (.int .i64 (n' : Int)) := fun W hk => (P.out W hk).2.2.2.1
  have p4 : ∀ W, Kept (fun _ => False) w4 W → W.cell? ⟨w.heap.size, 4, none⟩ = some (.int .i64 (r' : Int)) := fun W hk => (P.out W hk).2.2.2.2.1
  have p5 : ∀ W, Kept (fun _ => False) w4 W → W.cell? ⟨w.heap.size, 5, none⟩ = some (.string x) := fun W hk => (P.out W hk).2.2.2.2.2
  obtain ⟨b0, b1, b2, b3, b4, b5⟩ := (L0.out.kept K4.out).cells
  go_upto_region 7 with fail
  clear b0 b1 b2 b3 b4 b5 P
  refine wp_region_held_drew (S := Kept (fun _ => False) w4) (by kernel_rfl) ((Kept.refl (fun _ => False) w4).drew) (fun hSd => ?_)
  refine wpAnyH_take (i := 0) (v := ?_) rfl (by kernel_rfl) (by kernel_rfl) (by kernel_rfl) (fun _ _ _ h => h) (Or.inl ⟨by kernel_rfl, fun W hSW => by go_simp; try with_reducible rfl⟩) (by assumption) ?_
  try simp only [List.getElem_toArray]
  try simp only [List.getElem_cons_succ]
  try simp only [List.getElem_cons_zero]
  try simp only [Act.put]
  try simp only [List.setIfInBounds_toArray]
  try simp only [List.set_cons_succ]
  try simp only [List.set_cons_zero]
  refine wpAnyH_take (i := 1) (v := ?_) rfl (by kernel_rfl) (by kernel_rfl) (by kernel_rfl) (fun _ _ _ h => h) (Or.inl ⟨by kernel_rfl, fun W hSW => by go_simp; try with_reducible rfl⟩) (by assumption) ?_
  try simp only [List.getElem_toArray]
  try simp only [List.getElem_cons_succ]
  try simp only [List.getElem_cons_zero]
  try simp only [Act.put]
  try simp only [List.setIfInBounds_toArray]
  try simp only [List.set_cons_succ]
  try simp only [List.set_cons_zero]
  refine wpAnyH_take (i := 2) (v := ?_) rfl (by kernel_rfl) (by kernel_rfl) (by kernel_rfl) (fun _ _ _ h => h) (Or.inl ⟨by kernel_rfl, fun W hSW => by go_simp; try with_reducible rfl⟩) (by assumption) ?_
  try simp only [List.getElem_toArray]
  try simp only [List.getElem_cons_succ]
  try simp only [List.getElem_cons_zero]
  try simp only [Act.put]
  try simp only [List.setIfInBounds_toArray]
  try simp only [List.set_cons_succ]
  try simp only [List.set_cons_zero]
  refine wpAnyH_take (i := 3) (v := (.int .i64 ((x.size + 12 : Nat) : Int))) rfl (by kernel_rfl) (by kernel_rfl) (by kernel_rfl) (fun _ _ _ h => h) (Or.inl ⟨by kernel_rfl, fun W hSW => by go_simp; try with_reducible rfl⟩) (by assumption) ?_
  try simp only [List.getElem_toArray]
  try simp only [List.getElem_cons_succ]
  try simp only [List.getElem_cons_zero]
  try simp only [Act.put]
  try simp only [List.setIfInBounds_toArray]
  try simp only [List.set_cons_succ]
  try simp only [List.set_cons_zero]
  refine wpAnyH_take (i := 6) (v := ?_) rfl (by kernel_rfl) (by kernel_rfl) (by kernel_rfl) (fun _ _ _ h => h) (Or.inl ⟨by kernel_rfl, fun W hSW => by go_simp; try with_reducible rfl⟩) (by assumption) ?_
  try simp only [List.getElem_toArray]
  try simp only [List.getElem_cons_succ]
  try simp only [List.getElem_cons_zero]
  try simp only [Act.put]
  try simp only [List.setIfInBounds_toArray]
  try simp only [List.set_cons_succ]
  try simp only [List.set_cons_zero]
  refine wpAnyH_take (i := 7) (v := ?_) rfl (by kernel_rfl) (by kernel_rfl) (by kernel_rfl) (fun _ _ _ h => h) (Or.inl ⟨by kernel_rfl, fun W hSW => by go_simp; try with_reducible rfl⟩) (by assumption) ?_
  try simp only [List.getElem_toArray]
  try simp only [List.getElem_cons_succ]
  try simp only [List.getElem_cons_zero]
  try simp only [Act.put]
  try simp only [List.setIfInBounds_toArray]
  try simp only [List.set_cons_succ]
  try simp only [List.set_cons_zero]
  refine wpAnyH_take (i := 10) (v := ?_) rfl (by kernel_rfl) (by kernel_rfl) (by kernel_rfl) (fun _ _ _ h => h) (Or.inl ⟨by kernel_rfl, fun W hSW => by go_simp; try with_reducible rfl⟩) (by assumption) ?_
  try simp only [List.getElem_toArray]
  try simp only [List.getElem_cons_succ]
  try simp only [List.getElem_cons_zero]
  try simp only [Act.put]
  try simp only [List.setIfInBounds_toArray]
  try simp only [List.set_cons_succ]
  try simp only [List.set_cons_zero]
  refine wpAnyH_take (i := 11) (v := ?_) rfl (by kernel_rfl) (by kernel_rfl) (by kernel_rfl) (fun _ _ _ h => h) (Or.inl ⟨by kernel_rfl, fun W hSW => by go_simp; try with_reducible rfl⟩) (by assumption) ?_
  try simp only [List.getElem_toArray]
  try simp only [List.getElem_cons_succ]
  try simp only [List.getElem_cons_zero]
  try simp only [Act.put]
  try simp only [List.setIfInBounds_toArray]
  try simp only [List.set_cons_succ]
  try simp only [List.set_cons_zero]
  refine wpAnyH_take (i := 14) (v := ?_) rfl (by kernel_rfl) (by kernel_rfl) (by kernel_rfl) (fun _ _ _ h => h) (Or.inl ⟨by kernel_rfl, fun W hSW => by go_simp; try with_reducible rfl⟩) (by assumption) ?_
  try simp only [List.getElem_toArray]
  try simp only [List.getElem_cons_succ]
  try simp only [List.getElem_cons_zero]
  try simp only [Act.put]
  try simp only [List.setIfInBounds_toArray]
  try simp only [List.set_cons_succ]
  try simp only [List.set_cons_zero]
  refine wpAnyH_take (i := 15) (v := ?_) rfl (by kernel_rfl) (by kernel_rfl) (by kernel_rfl) (fun _ _ _ h => h) (Or.inl ⟨by kernel_rfl, fun W hSW => by go_simp; try with_reducible rfl⟩) (by assumption) ?_
  try simp only [List.getElem_toArray]
  try simp only [List.getElem_cons_succ]
  try simp only [List.getElem_cons_zero]
  try simp only [Act.put]
  try simp only [List.setIfInBounds_toArray]
  try simp only [List.set_cons_succ]
  try simp only [List.set_cons_zero]
  refine wpAnyH_take (i := 18) (v := ?_) rfl (by kernel_rfl) (by kernel_rfl) (by kernel_rfl) (fun _ _ _ h => h) (Or.inl ⟨by kernel_rfl, fun W hSW => by go_simp; try with_reducible rfl⟩) (by assumption) ?_
  try simp only [List.getElem_toArray]
  try simp only [List.getElem_cons_succ]
  try simp only [List.getElem_cons_zero]
  try simp only [Act.put]
  try simp only [List.setIfInBounds_toArray]
  try simp only [List.set_cons_succ]
  try simp only [List.set_cons_zero]
  refine wpAnyH_take (i := 19) (v := ?_) rfl (by kernel_rfl) (by kernel_rfl) (by kernel_rfl) (fun _ _ _ h => h) (Or.inl ⟨by kernel_rfl, fun W hSW => by go_simp; try with_reducible rfl⟩) (by assumption) ?_
  try simp only [List.getElem_toArray]
  try simp only [List.getElem_cons_succ]
  try simp only [List.getElem_cons_zero]
  try simp only [Act.put]
  try simp only [List.setIfInBounds_toArray]
  try simp only [List.set_cons_succ]
  try simp only [List.set_cons_zero]
  refine wpAnyH_take (i := 22) (v := ?_) rfl (by kernel_rfl) (by kernel_rfl) (by kernel_rfl) (fun _ _ _ h => h) (Or.inl ⟨by kernel_rfl, fun W hSW => by go_simp; try with_reducible rfl⟩) (by assumption) ?_
  try simp only [List.getElem_toArray]
  try simp only [List.getElem_cons_succ]
  try simp only [List.getElem_cons_zero]
  try simp only [Act.put]
  try simp only [List.setIfInBounds_toArray]
  try simp only [List.set_cons_succ]
  try simp only [List.set_cons_zero]
  refine wpAnyH_take (i := 23) (v := ?_) rfl (by kernel_rfl) (by kernel_rfl) (by kernel_rfl) (fun _ _ _ h => h) (Or.inl ⟨by kernel_rfl, fun W hSW => by go_simp; try with_reducible rfl⟩) (by assumption) ?_
  try simp only [List.getElem_toArray]
  try simp only [List.getElem_cons_succ]
  try simp only [List.getElem_cons_zero]
  try simp only [Act.put]
  try simp only [List.setIfInBounds_toArray]
  try simp only [List.set_cons_succ]
  try simp only [List.set_cons_zero]
  refine wpAnyH_ready (rs := [4]) (by kernel_rfl) (by simp) ?_
  refine AllReadyH.cons rfl (fun K hK => ?_) AllReadyH.nil
  go_simp
  refine (HT0.out _).mono ?_
  rintro e x0 ⟨rfl, hk⟩
  have hS0 : Kept (fun _ => False) w4 x0 := (Kept.refl (fun _ => False) w4).drew.trans hk
  clear hk
  refine hK.out _ _ (hS0) (fun _ => ?_)
  clear hK K
  try simp only [List.getElem_toArray]
  try simp only [List.getElem_cons_succ]
  try simp only [List.getElem_cons_zero]
  try simp only [Act.put]
  try simp only [List.setIfInBounds_toArray]
  try simp only [List.set_cons_succ]
  try simp only [List.set_cons_zero]
  refine wpAnyH_take (i := 5) (v := ?_) rfl (by kernel_rfl) (by kernel_rfl) (by kernel_rfl) (fun _ _ _ h => h) (Or.inl ⟨by kernel_rfl, fun W hSW => by go_simp; try with_reducible rfl⟩) (by assumption) ?_
  try simp only [List.getElem_toArray]
  try simp only [List.getElem_cons_succ]
  try simp only [List.getElem_cons_zero]
  try simp only [Act.put]
  try simp only [List.setIfInBounds_toArray]
  try simp only [List.set_cons_succ]
  try simp only [List.set_cons_zero]
  refine wpAnyH_ready (rs := [8]) (by kernel_rfl) (by simp) ?_
  refine AllReadyH.cons rfl (fun K hK => ?_) AllReadyH.nil
  go_simp
  refine (HT1.out _).mono ?_
  rintro e x1 ⟨rfl, hk⟩
  have hS1 : Kept (fun _ => False) w4 x1 := hS0.trans hk
  clear hk
  refine hK.out _ _ (hS1) (fun _ => ?_)
  clear hK K
  try simp only [List.getElem_toArray]
  try simp only [List.getElem_cons_succ]
  try simp only [List.getElem_cons_zero]
  try simp only [Act.put]
  try simp only [List.setIfInBounds_toArray]
  try simp only [List.set_cons_succ]
  try simp only [List.set_cons_zero]
  refine wpAnyH_take (i := 9) (v := ?_) rfl (by kernel_rfl) (by kernel_rfl) (by kernel_rfl) (fun _ _ _ h => h) (Or.inl ⟨by kernel_rfl, fun W hSW => by go_simp; try with_reducible rfl⟩) (by assumption) ?_
  try simp only [List.getElem_toArray]
  try simp only [List.getElem_cons_succ]
  try simp only [List.getElem_cons_zero]
  try simp only [Act.put]
  try simp only [List.setIfInBounds_toArray]
  try simp only [List.set_cons_succ]
  try simp only [List.set_cons_zero]
  refine wpAnyH_ready (rs := [12]) (by kernel_rfl) (by simp) ?_
  refine AllReadyH.cons rfl (fun K hK => ?_) AllReadyH.nil
  go_simp
  refine (HT2.out _).mono ?_
  rintro e x2 ⟨rfl, hk⟩
  have hS2 : Kept (fun _ => False) w4 x2 := hS1.trans hk
  clear hk
  refine hK.out _ _ (hS2) (fun _ => ?_)
  clear hK K
  try simp only [List.getElem_toArray]
  try simp only [List.getElem_cons_succ]
  try simp only [List.getElem_cons_zero]
  try simp only [Act.put]
  try simp only [List.setIfInBounds_toArray]
  try simp only [List.set_cons_succ]
  try simp only [List.set_cons_zero]
  refine wpAnyH_take (i := 13) (v := ?_) rfl (by kernel_rfl) (by kernel_rfl) (by kernel_rfl) (fun _ _ _ h => h) (Or.inl ⟨by kernel_rfl, fun W hSW => by go_simp; try with_reducible rfl⟩) (by assumption) ?_
  try simp only [List.getElem_toArray]
  try simp only [List.getElem_cons_succ]
  try simp only [List.getElem_cons_zero]
  try simp only [Act.put]
  try simp only [List.setIfInBounds_toArray]
  try simp only [List.set_cons_succ]
  try simp only [List.set_cons_zero]
  refine wpAnyH_ready (rs := [16]) (by kernel_rfl) (by simp) ?_
  refine AllReadyH.cons rfl (fun K hK => ?_) AllReadyH.nil
  go_simp
  refine (HT3.out _).mono ?_
  rintro e x3 ⟨rfl, hk⟩
  have hS3 : Kept (fun _ => False) w4 x3 := hS2.trans hk
  clear hk
  refine hK.out _ _ (hS3) (fun _ => ?_)
  clear hK K
  try simp only [List.getElem_toArray]
  try simp only [List.getElem_cons_succ]
  try simp only [List.getElem_cons_zero]
  try simp only [Act.put]
  try simp only [List.setIfInBounds_toArray]
  try simp only [List.set_cons_succ]
  try simp only [List.set_cons_zero]
  refine wpAnyH_take (i := 17) (v := ?_) rfl (by kernel_rfl) (by kernel_rfl) (by kernel_rfl) (fun _ _ _ h => h) (Or.inl ⟨by kernel_rfl, fun W hSW => by go_simp; try with_reducible rfl⟩) (by assumption) ?_
  try simp only [List.getElem_toArray]
  try simp only [List.getElem_cons_succ]
  try simp only [List.getElem_cons_zero]
  try simp only [Act.put]
  try simp only [List.setIfInBounds_toArray]
  try simp only [List.set_cons_succ]
  try simp only [List.set_cons_zero]
  refine wpAnyH_ready (rs := [20]) (by kernel_rfl) (by simp) ?_
  refine AllReadyH.cons rfl (fun K hK => ?_) AllReadyH.nil
  go_simp
  refine (HT4.out _).mono ?_
  rintro e x4 ⟨rfl, hk⟩
  have hS4 : Kept (fun _ => False) w4 x4 := hS3.trans hk
  clear hk
  refine hK.out _ _ (hS4) (fun _ => ?_)
  clear hK K
  try simp only [List.getElem_toArray]
  try simp only [List.getElem_cons_succ]
  try simp only [List.getElem_cons_zero]
  try simp only [Act.put]
  try simp only [List.setIfInBounds_toArray]
  try simp only [List.set_cons_succ]
  try simp only [List.set_cons_zero]
  refine wpAnyH_take (i := 21) (v := ?_) rfl (by kernel_rfl) (by kernel_rfl) (by kernel_rfl) (fun _ _ _ h => h) (Or.inl ⟨by kernel_rfl, fun W hSW => by go_simp; try with_reducible rfl⟩) (by assumption) ?_
  try simp only [List.getElem_toArray]
  try simp only [List.getElem_cons_succ]
  try simp only [List.getElem_cons_zero]
  try simp only [Act.put]
  try simp only [List.setIfInBounds_toArray]
  try simp only [List.set_cons_succ]
  try simp only [List.set_cons_zero]
  refine wpAnyH_take (i := 24) (v := ?_) rfl (by kernel_rfl) (by kernel_rfl) (by kernel_rfl) (fun _ _ _ h => h) (Or.inl ⟨by kernel_rfl, fun W hSW => by go_simp; try with_reducible rfl⟩) (by assumption) ?_
  try simp only [List.getElem_toArray]
  try simp only [List.getElem_cons_succ]
  try simp only [List.getElem_cons_zero]
  try simp only [Act.put]
  try simp only [List.setIfInBounds_toArray]
  try simp only [List.set_cons_succ]
  try simp only [List.set_cons_zero]
  refine wpAnyH_take (i := 25) (v := ?_) rfl (by kernel_rfl) (by kernel_rfl) (by kernel_rfl) (fun _ _ _ h => h) (Or.inl ⟨by kernel_rfl, fun W hSW => by go_simp; try with_reducible rfl⟩) (by assumption) ?_
  try simp only [List.getElem_toArray]
  try simp only [List.getElem_cons_succ]
  try simp only [List.getElem_cons_zero]
  try simp only [Act.put]
  try simp only [List.setIfInBounds_toArray]
  try simp only [List.set_cons_succ]
  try simp only [List.set_cons_zero]
  refine wpAnyH_take (i := 26) (v := ?_) rfl (by kernel_rfl) (by kernel_rfl) (by kernel_rfl) (fun _ _ _ h => h) (Or.inl ⟨by kernel_rfl, fun W hSW => by go_simp; try with_reducible rfl⟩) (by assumption) ?_
  try simp only [List.getElem_toArray]
  try simp only [List.getElem_cons_succ]
  try simp only [List.getElem_cons_zero]
  try simp only [Act.put]
  try simp only [List.setIfInBounds_toArray]
  try simp only [List.set_cons_succ]
  try simp only [List.set_cons_zero]
  refine wpAnyH_done (by kernel_rfl) ?_ _
  go_wp2
  go_ret2
  exact ⟨by rw [HR.out]; rfl, (KA.out.trans K4.out).trans hS4⟩

set_option maxHeartbeats 4000000 in
set_option maxRecDepth 100000 in
theorem putL_long (t s : Int) (q : Bool) (n r : Int) (x : ByteArray) (h0 : wordB t = true) (h1 : wordB s = true) (h2 : wordB n = true) (h3 : wordB r = true) (h : q = true ∨ (q = false ∧ n = 0 ∧ r = 0)) (hx : 1460 < x.size) (hx2 : x.size ≤ 140737488351232) (w : World) :
    Calls Tryz.prog 26 #[.agg #[.int .i64 t, .int .i64 s, .bool q, .int .i64 n, .int .i64 r, .string x]] w fun e w' => e = .returned (.tuple #[.string ⟨#[]⟩, .int .i64 2]) ∧ Kept (fun _ => False) w w' := by
  have hdz : (1460 : Int) < (x.size : Int) := by omega
  rcases h with rfl | ⟨rfl, rfl, rfl⟩
  · have L0 := hid (LdAt.new w t s true n r x)
    have K0 := hid (Kept.refl (fun _ => False) (w.alloc (.cells #[.int .i64 t, .int .i64 s, .bool true, .int .i64 n, .int .i64 r, .string x] 26)))
    have KA := hid ((Kept.refl (fun _ => False) w).alloc (.cells #[.int .i64 t, .int .i64 s, .bool true, .int .i64 n, .int .i64 r, .string x] 26))
    have HW0 := hid (fun W => rWord_any t W)
    rw [h0] at HW0
    clear h0
    have HW1 := hid (fun W => rWord_any s W)
    rw [h1] at HW1
    clear h1
    have HW2 := hid (fun W => rWord_any n W)
    rw [h2] at HW2
    clear h2
    have HW3 := hid (fun W => rWord_any r W)
    rw [h3] at HW3
    clear h3
    obtain ⟨b0, b1, b2, b3, b4, b5⟩ := L0.out.cells
    go_enter Tryz.func26, Tryz.ntmps26
    go_wp2_with fail
    refine (HW0.out _).mono ?_
    rintro e w1 ⟨rfl, hk⟩
    have K1 := hid (K0.out.trans hk)
    clear hk b0 b1 b2 b3 b4 b5 HW0
    obtain ⟨b0, b1, b2, b3, b4, b5⟩ := (L0.out.kept K1.out).cells
    go_wp2_with fail
    refine (HW1.out _).mono ?_
    rintro e w2 ⟨rfl, hk⟩
    have K2 := hid (K1.out.trans hk)
    clear hk b0 b1 b2 b3 b4 b5 HW1
    obtain ⟨b0, b1, b2, b3, b4, b5⟩ := (L0.out.kept K2.out).cells
    go_wp2_with fail
    refine (HW2.out _).mono ?_
    rintro e w3 ⟨rfl, hk⟩
    have K3 := hid (K2.out.trans hk)
    clear hk b0 b1 b2 b3 b4 b5 HW2
    obtain ⟨b0, b1, b2, b3, b4, b5⟩ := (L0.out.kept K3.out).cells
    go_wp2_with fail
    refine (HW3.out _).mono ?_
    rintro e w4 ⟨rfl, hk⟩
    have K4 := hid (K3.out.trans hk)
    clear hk b0 b1 b2 b3 b4 b5 HW3
    obtain ⟨b0, b1, b2, b3, b4, b5⟩ := (L0.out.kept K4.out).cells
    go_wp2
    go_ret2
    exact ⟨rfl, KA.out.trans K4.out⟩
  · have L0 := hid (LdAt.new w t s false 0 0 x)
    have K0 := hid (Kept.refl (fun _ => False) (w.alloc (.cells #[.int .i64 t, .int .i64 s, .bool false, .int .i64 0, .int .i64 0, .string x] 26)))
    have KA := hid ((Kept.refl (fun _ => False) w).alloc (.cells #[.int .i64 t, .int .i64 s, .bool false, .int .i64 0, .int .i64 0, .string x] 26))
    have HW0 := hid (fun W => rWord_any t W)
    rw [h0] at HW0
    clear h0
    have HW1 := hid (fun W => rWord_any s W)
    rw [h1] at HW1
    clear h1
    have HW2 := hid (fun W => rWord_any 0 W)
    rw [h2] at HW2
    clear h2
    have HW3 := hid (fun W => rWord_any 0 W)
    rw [h3] at HW3
    clear h3
    obtain ⟨b0, b1, b2, b3, b4, b5⟩ := L0.out.cells
    go_enter Tryz.func26, Tryz.ntmps26
    go_wp2_with fail
    refine (HW0.out _).mono ?_
    rintro e w1 ⟨rfl, hk⟩
    have K1 := hid (K0.out.trans hk)
    clear hk b0 b1 b2 b3 b4 b5 HW0
    obtain ⟨b0, b1, b2, b3, b4, b5⟩ := (L0.out.kept K1.out).cells
    go_wp2_with fail
    refine (HW1.out _).mono ?_
    rintro e w2 ⟨rfl, hk⟩
    have K2 := hid (K1.out.trans hk)
    clear hk b0 b1 b2 b3 b4 b5 HW1
    obtain ⟨b0, b1, b2, b3, b4, b5⟩ := (L0.out.kept K2.out).cells
    go_wp2_with fail
    refine (HW2.out _).mono ?_
    rintro e w3 ⟨rfl, hk⟩
    have K3 := hid (K2.out.trans hk)
    clear hk b0 b1 b2 b3 b4 b5 HW2
    obtain ⟨b0, b1, b2, b3, b4, b5⟩ := (L0.out.kept K3.out).cells
    go_wp2_with fail
    refine (HW3.out _).mono ?_
    rintro e w4 ⟨rfl, hk⟩
    have K4 := hid (K3.out.trans hk)
    clear hk b0 b1 b2 b3 b4 b5 HW3
    obtain ⟨b0, b1, b2, b3, b4, b5⟩ := (L0.out.kept K4.out).cells
    go_wp2
    go_ret2
    exact ⟨rfl, KA.out.trans K4.out⟩

theorem rPutLoad_any (hT : TwoAt) (l : Ld) (hx : l.data.size ≤ 140737488351232) (w : World) :
    Calls Tryz.prog 26 #[.agg #[.int .i64 l.tunnel, .int .i64 l.session, .bool l.seq, .int .i64 l.ns, .int .i64 l.nr, .string l.data]] w fun e w' => e = .returned (.tuple #[.string (putLF l).1, .int .i64 (putLF l).2]) ∧ Kept (fun _ => False) w w' := by
  obtain ⟨t, s, q, n, r, x⟩ := l
  simp only at hx ⊢
  cases h0 : wordB t with
  | false =>
    rw [show putLF ⟨t, s, q, n, r, x⟩ = (⟨#[]⟩, 1) from by simp [putLF, wordsB, h0]]
    exact putL_no1 t s q n r x h0 w
  | true =>
  cases h1 : wordB s with
  | false =>
    rw [show putLF ⟨t, s, q, n, r, x⟩ = (⟨#[]⟩, 1) from by simp [putLF, wordsB, h1]]
    exact putL_no2 t s q n r x h0 h1 w
  | true =>
  cases h2 : wordB n with
  | false =>
    rw [show putLF ⟨t, s, q, n, r, x⟩ = (⟨#[]⟩, 1) from by simp [putLF, wordsB, h2]]
    exact putL_no3 t s q n r x h0 h1 h2 w
  | true =>
  cases h3 : wordB r with
  | false =>
    rw [show putLF ⟨t, s, q, n, r, x⟩ = (⟨#[]⟩, 1) from by simp [putLF, wordsB, h3]]
    exact putL_no4 t s q n r x h0 h1 h2 h3 w
  | true =>
  obtain ⟨t, rfl, _⟩ : ∃ k : Nat, t = (k : Int) ∧ True := ⟨t.toNat, by have := wordB_true h0; omega, trivial⟩
  obtain ⟨s, rfl, _⟩ : ∃ k : Nat, s = (k : Int) ∧ True := ⟨s.toNat, by have := wordB_true h1; omega, trivial⟩
  obtain ⟨n, rfl, _⟩ : ∃ k : Nat, n = (k : Int) ∧ True := ⟨n.toNat, by have := wordB_true h2; omega, trivial⟩
  obtain ⟨r, rfl, _⟩ : ∃ k : Nat, r = (k : Int) ∧ True := ⟨r.toNat, by have := wordB_true h3; omega, trivial⟩
  by_cases hx2 : 1460 < x.size
  · cases q with
    | true =>
      rw [show putLF ⟨t, s, true, n, r, x⟩ = (⟨#[]⟩, 2) from by simp [putLF, wordsB, h0, h1, h2, h3, hx2]]
      exact putL_long _ _ _ _ _ x h0 h1 h2 h3 (Or.inl rfl) hx2 hx w
    | false =>
      by_cases hz : n = 0 ∧ r = 0
      · obtain ⟨rfl, rfl⟩ := hz
        rw [show putLF ⟨t, s, false, ((0 : Nat) : Int), ((0 : Nat) : Int), x⟩ = (⟨#[]⟩, 2) from by simp [putLF, wordsB, h0, h1, hx2, show wordB 0 = true from by decide]]
        exact putL_long _ _ _ _ _ x h0 h1 h2 h3 (Or.inr ⟨rfl, rfl, rfl⟩) hx2 hx w
      · rw [show putLF ⟨t, s, false, n, r, x⟩ = (⟨#[]⟩, 1) from by unfold putLF; rw [if_neg (by simp only [reduceCtorEq, false_or]; omega)]]
        exact putL_no5 _ _ _ _ x h0 h1 h2 h3 (by omega) w
  · cases q with
    | true =>
      rw [show putLF ⟨t, s, true, n, r, x⟩ = (⟨#[72, 2]⟩ ++ two (x.size + 12) ++ two t ++ two s ++ two n ++ two r ++ x, 0) from by simp [putLF, wordsB, h0, h1, h2, h3, hx2]]
      exact putL_seq hT t s n r x (by omega) h0 h1 h2 h3 w
    | false =>
      by_cases hz : n = 0 ∧ r = 0
      · obtain ⟨rfl, rfl⟩ := hz
        rw [show putLF ⟨t, s, false, ((0 : Nat) : Int), ((0 : Nat) : Int), x⟩ = (⟨#[64, 2]⟩ ++ two (x.size + 8) ++ two t ++ two s ++ x, 0) from by simp [putLF, wordsB, h0, h1, hx2, show wordB 0 = true from by decide]]
        exact putL_plain hT t s x (by omega) h0 h1 w
      · rw [show putLF ⟨t, s, false, n, r, x⟩ = (⟨#[]⟩, 1) from by unfold putLF; rw [if_neg (by simp only [reduceCtorEq, false_or]; omega)]]
        exact putL_no5 _ _ _ _ x h0 h1 h2 h3 (by omega) w

end Go.Proofs.YtkneogfeokckjaaGreatDoor

namespace Go.Proofs.YtkneogfeokckjaaGreatDoor
open Go.RowKit

def NumAt : Prop := ∀ (s : ByteArray) (_ : s.size ≤ 140737488351232) (k : Nat) (_ : k + 2 ≤ s.size) (w : World), Calls Tryz.prog 42 #[.string s, .int .i64 (k : Int)] w fun e w' => e = .returned (.int .i64 (numAt s k : Int)) ∧ Kept (fun _ => False) w w'
set_option maxHeartbeats 4000000 in
set_option maxRecDepth 100000 in
theorem getL_short (b : ByteArray) (h : b.size < 8) (w : World) :
    Calls Tryz.prog 28 #[.string b] w fun e w' => e = .returned (.tuple #[.agg #[.int .i64 0, .int .i64 0, .bool false, .int .i64 0, .int .i64 0, .string ⟨#[]⟩], .int .i64 5]) ∧ Kept (fun _ => False) w w' := by
  have hz : (b.size : Int) < 8 := by omega
  obtain ⟨c0, c1, c2, c3, c4, c5⟩ := (LdAt.new w 0 0 false 0 0 ⟨#[]⟩).cells
  go_enter Tryz.func28, Tryz.ntmps28
  go_wp2
  exact bodyPost_ret (v := .tuple #[.agg #[.int .i64 0, .int .i64 0, .bool false, .int .i64 0, .int .i64 0, .string ⟨#[]⟩], .int .i64 5]) (by simp [results, Tryz.results28, go_sem, c0, c1, c2, c3, c4, c5]) rfl ⟨rfl, (Kept.refl _ w).alloc _⟩

set_option maxHeartbeats 4000000 in
set_option maxRecDepth 100000 in
theorem getL_form1 (b : ByteArray) (hs : b.size ≤ 140737488351232) (h8 : 8 ≤ b.size) (h : byteN b 0 ≠ 64 ∧ byteN b 0 ≠ 72) (w : World) :
    Calls Tryz.prog 28 #[.string b] w fun e w' => e = .returned (.tuple #[.agg #[.int .i64 0, .int .i64 0, .bool false, .int .i64 0, .int .i64 0, .string ⟨#[]⟩], .int .i64 4]) ∧ Kept (fun _ => False) w w' := by
  have hz : ¬ (b.size : Int) < 8 := by omega
  have x0 := index_at b 0 (by omega) 0 rfl
  have x1 := index_at b 1 (by omega) 1 rfl
  unfold byteN at *
  generalize (b.data.toList.getD 0 0).toNat = A at *
  generalize (b.data.toList.getD 1 0).toNat = B at *
  have h1 : ((A : Int) != 64) = true := by
    rw [bne_iff_ne]
    omega
  have h2 : ((A : Int) != 72) = true := by
    rw [bne_iff_ne]
    omega
  clear h
  obtain ⟨c0, c1, c2, c3, c4, c5⟩ := (LdAt.new w 0 0 false 0 0 ⟨#[]⟩).cells
  go_enter Tryz.func28, Tryz.ntmps28
  go_wp2
  exact bodyPost_ret (v := .tuple #[.agg #[.int .i64 0, .int .i64 0, .bool false, .int .i64 0, .int .i64 0, .string ⟨#[]⟩], .int .i64 4]) (by simp [results, Tryz.results28, go_sem, c0, c1, c2, c3, c4, c5]) rfl ⟨rfl, (Kept.refl _ w).alloc _⟩

set_option maxHeartbeats 4000000 in
set_option maxRecDepth 100000 in
theorem getL_form2 (b : ByteArray) (hs : b.size ≤ 140737488351232) (h8 : 8 ≤ b.size) (h0 : byteN b 0 = 64) (h : byteN b 1 ≠ 2) (w : World) :
    Calls Tryz.prog 28 #[.string b] w fun e w' => e = .returned (.tuple #[.agg #[.int .i64 0, .int .i64 0, .bool false, .int .i64 0, .int .i64 0, .string ⟨#[]⟩], .int .i64 4]) ∧ Kept (fun _ => False) w w' := by
  have hz : ¬ (b.size : Int) < 8 := by omega
  have x0 := index_at b 0 (by omega) 0 rfl
  have x1 := index_at b 1 (by omega) 1 rfl
  unfold byteN at *
  generalize (b.data.toList.getD 0 0).toNat = A at *
  generalize (b.data.toList.getD 1 0).toNat = B at *
  subst h0
  have h1 : ((B : Int) != 2) = true := by
    rw [bne_iff_ne]
    omega
  clear h
  obtain ⟨c0, c1, c2, c3, c4, c5⟩ := (LdAt.new w 0 0 false 0 0 ⟨#[]⟩).cells
  go_enter Tryz.func28, Tryz.ntmps28
  go_wp2
  exact bodyPost_ret (v := .tuple #[.agg #[.int .i64 0, .int .i64 0, .bool false, .int .i64 0, .int .i64 0, .string ⟨#[]⟩], .int .i64 4]) (by simp [results, Tryz.results28, go_sem, c0, c1, c2, c3, c4, c5]) rfl ⟨rfl, (Kept.refl _ w).alloc _⟩

set_option maxHeartbeats 4000000 in
set_option maxRecDepth 100000 in
theorem getL_form3 (b : ByteArray) (hs : b.size ≤ 140737488351232) (h8 : 8 ≤ b.size) (h0 : byteN b 0 = 72) (h : byteN b 1 ≠ 2) (w : World) :
    Calls Tryz.prog 28 #[.string b] w fun e w' => e = .returned (.tuple #[.agg #[.int .i64 0, .int .i64 0, .bool false, .int .i64 0, .int .i64 0, .string ⟨#[]⟩], .int .i64 4]) ∧ Kept (fun _ => False) w w' := by
  have hz : ¬ (b.size : Int) < 8 := by omega
  have x0 := index_at b 0 (by omega) 0 rfl
  have x1 := index_at b 1 (by omega) 1 rfl
  unfold byteN at *
  generalize (b.data.toList.getD 0 0).toNat = A at *
  generalize (b.data.toList.getD 1 0).toNat = B at *
  subst h0
  have h1 : ((B : Int) != 2) = true := by
    rw [bne_iff_ne]
    omega
  clear h
  obtain ⟨c0, c1, c2, c3, c4, c5⟩ := (LdAt.new w 0 0 false 0 0 ⟨#[]⟩).cells
  go_enter Tryz.func28, Tryz.ntmps28
  go_wp2
  exact bodyPost_ret (v := .tuple #[.agg #[.int .i64 0, .int .i64 0, .bool false, .int .i64 0, .int .i64 0, .string ⟨#[]⟩], .int .i64 4]) (by simp [results, Tryz.results28, go_sem, c0, c1, c2, c3, c4, c5]) rfl ⟨rfl, (Kept.refl _ w).alloc _⟩

end Go.Proofs.YtkneogfeokckjaaGreatDoor

namespace Go.Proofs.YtkneogfeokckjaaGreatDoor

/-- What is left of the region, with what shall be taken next: (i, none) its guard shuts it out, (i, some none) it is taken, (i, some (some v)) it is taken and yields v. -/
structure Tks (l : List (Nat × Option (Option Value))) (P : Program) (md : Region.Mode) (ops : Array Oper) (Q : Exit → Act → World → Prop) (S : World → Prop) (fuel : Nat) (listed : Array Bool) (a : Act) (w : World) : Prop where
  out : wpAnyH P md ops Q S fuel listed a w
section
variable {l : List (Nat × Option (Option Value))} {P : Program} {md : Region.Mode} {ops : Array Oper} {Q : Exit → Act → World → Prop} {S : World → Prop} {fuel : Nat} {listed : Array Bool} {a : Act} {w : World}
theorem tkE (h : wpAnyH P md ops Q S fuel listed a w) : Tks [] P md ops Q S fuel listed a w := ⟨h⟩
theorem tkT {i : Nat} {oi : Oper} {v : Value} (hi : ops[i]? = some oi) (hs : Region.noSelect ops = true) (hf : Region.free md ops listed i = true) (hr : (Region.ready md ops listed).contains i = true)
    (hQ : ∀ c a w, Q (.panic c) (a.put oi.dst v) w → Q (.panic c) a w) (hy : YieldsIf P ops S oi v a) (hS : S w) (h : Tks l P md ops Q S fuel (listed.setIfInBounds i true) (a.put oi.dst v) w) : Tks ((i, some none) :: l) P md ops Q S (fuel + 1) listed a w :=
  ⟨wpAnyH_take hi hs hf hr hQ hy hS h.out⟩
theorem tkV {i : Nat} {oi : Oper} {v : Value} (hi : ops[i]? = some oi) (hs : Region.noSelect ops = true) (hf : Region.free md ops listed i = true) (hr : (Region.ready md ops listed).contains i = true)
    (hQ : ∀ c a w, Q (.panic c) (a.put oi.dst v) w → Q (.panic c) a w) (hy : YieldsIf P ops S oi v a) (hS : S w) (h : Tks l P md ops Q S fuel (listed.setIfInBounds i true) (a.put oi.dst v) w) : Tks ((i, some (some v)) :: l) P md ops Q S (fuel + 1) listed a w :=
  ⟨wpAnyH_take hi hs hf hr hQ hy hS h.out⟩
theorem tkS {i : Nat} {oi : Oper} {v : Value} (hi : ops[i]? = some oi) (hs : Region.noSelect ops = true) (hf : Region.free md ops listed i = true) (hr : (Region.ready md ops listed).contains i = true)
    (hQ : ∀ c a w, Q (.panic c) (a.put oi.dst v) w → Q (.panic c) a w) (hy : YieldsIf P ops S oi v a) (hS : S w) (h : Tks l P md ops Q S fuel (listed.setIfInBounds i true) (a.put oi.dst v) w) : Tks ((i, none) :: l) P md ops Q S (fuel + 1) listed a w :=
  ⟨wpAnyH_take hi hs hf hr hQ hy hS h.out⟩
end
/-- The cells of a block of fourteen, wherever it lies as it does. -/
theorem cells14 {C : World → Prop} {X : Nat} {t : TypeId} {c0 c1 c2 c3 c4 c5 c6 c7 c8 c9 c10 c11 c12 c13 : Value} (h : ∀ W, C W → W.heap[X]? = some (Obj.cells #[c0, c1, c2, c3, c4, c5, c6, c7, c8, c9, c10, c11, c12, c13] t (0, 0))) :
    (∀ W, C W → W.cell? ⟨X, 0, none⟩ = some c0) ∧ (∀ W, C W → W.cell? ⟨X, 1, none⟩ = some c1) ∧ (∀ W, C W → W.cell? ⟨X, 2, none⟩ = some c2) ∧ (∀ W, C W → W.cell? ⟨X, 3, none⟩ = some c3) ∧ (∀ W, C W → W.cell? ⟨X, 4, none⟩ = some c4) ∧ (∀ W, C W → W.cell? ⟨X, 5, none⟩ = some c5) ∧ (∀ W, C W → W.cell? ⟨X, 6, none⟩ = some c6) ∧
    (∀ W, C W → W.cell? ⟨X, 7, none⟩ = some c7) ∧ (∀ W, C W → W.cell? ⟨X, 8, none⟩ = some c8) ∧ (∀ W, C W → W.cell? ⟨X, 9, none⟩ = some c9) ∧ (∀ W, C W → W.cell? ⟨X, 10, none⟩ = some c10) ∧ (∀ W, C W → W.cell? ⟨X, 11, none⟩ = some c11) ∧ (∀ W, C W → W.cell? ⟨X, 12, none⟩ = some c12) ∧ (∀ W, C W → W.cell? ⟨X, 13, none⟩ = some c13) := by
  refine ⟨?_, ?_, ?_, ?_, ?_, ?_, ?_, ?_, ?_, ?_, ?_, ?_, ?_, ?_⟩ <;> exact fun W hW => by simp [World.cell?, h W hW]
end Go.Proofs.YtkneogfeokckjaaGreatDoor

namespace Go.Proofs.YtkneogfeokckjaaGreatDoor
open Go.RowKit

theorem infoLd : (Tryz.prog.info? 26).map (fun i => (i.zero, i.size, i.bytes)) = some (some (.agg #[.int .i64 0, .int .i64 0, .bool false, .int .i64 0, .int .i64 0, .string ⟨#[]⟩]), 6, 56) := by kernel_rfl
theorem store_ld {W : World} {b : Nat} {t s : Int} {q : Bool} {n r : Int} {x : ByteArray} (h : LdAt W b t s q n r x) (t' s' : Int) (q' : Bool) (n' r' : Int) (x' : ByteArray) : ∃ W', (Instr.storeAt 26 (.pointer (some ⟨b, 0, none⟩)) (.agg #[.int .i64 t', .int .i64 s', .bool q', .int .i64 n', .int .i64 r', .string x'])).run Tryz.prog W = .ok () W' ∧ LdAt W' b t' s' q' n' r' x' ∧ Kept (fun i => i = b) W W' := by
  obtain ⟨i0, hi, hz0, hz1, hz2⟩ := info_parts infoLd
  have hs := storeB (P := Tryz.prog) (w := W) (g := b) (o := 0) (ty := 26) [.int .i64 t', .int .i64 s', .bool q', .int .i64 n', .int .i64 r', .string x'] h (by simp) (by
    intro u hu
    simp only [List.mem_cons, List.not_mem_nil, or_false] at hu
    rcases hu with rfl | rfl | rfl | rfl | rfl | rfl <;> rfl) (by rw [hi]; simp [hz1])
  refine ⟨_, hs, ?_, ?_⟩
  · exact setRow_block h _
  · exact (setRow_kept W b _ (n := 0) (cap := 0)).mono (fun i _ e => by simpa [Value.ownBlock, eq_comm] using e)
theorem LdAt.set34 {W : World} {b : Nat} {t s : Int} {q : Bool} {n r : Int} {x : ByteArray} (h : LdAt W b t s q n r x) (n' r' : Int) : LdAt ((W.setCell ⟨b, 3, none⟩ (.int .i64 n')).setCell ⟨b, 4, none⟩ (.int .i64 r')) b t s q n' r' x := by
  have hlt := h.lt
  have hv : W.heap[b] = .cells #[.int .i64 t, .int .i64 s, .bool q, .int .i64 n, .int .i64 r, .string x] 26 (0, 0) := (Array.getElem?_eq_some_iff.1 h).2
  unfold LdAt World.setCell
  rw [Array.getElem?_eq_getElem (by simpa using hlt), Array.getElem_modify, Array.getElem_modify]
  simp [hv]
theorem LdAt.set5 {W : World} {b : Nat} {t s : Int} {q : Bool} {n r : Int} {x : ByteArray} (h : LdAt W b t s q n r x) (x' : ByteArray) : LdAt (W.setCell ⟨b, 5, none⟩ (.string x')) b t s q n r x' := by
  have hlt := h.lt
  have hv : W.heap[b] = .cells #[.int .i64 t, .int .i64 s, .bool q, .int .i64 n, .int .i64 r, .string x] 26 (0, 0) := (Array.getElem?_eq_some_iff.1 h).2
  unfold LdAt World.setCell
  rw [Array.getElem?_eq_getElem (by simpa using hlt), Array.getElem_modify]
  simp [hv]
theorem LdAt.far {W : World} {b g : Nat} {t s : Int} {q : Bool} {n r : Int} {x : ByteArray} (h : LdAt W b t s q n r x) (hne : b ≠ g) (i : Nat) (u : Value) : LdAt (W.setCell ⟨g, i, none⟩ u) b t s q n r x := (Below.heap_setCell _ _ _ _ hne).trans h

set_option maxHeartbeats 8000000 in
set_option maxRecDepth 100000 in
theorem rGetL_long8 (b : ByteArray) (hb : b.size ≤ 140737488351232) (h8 : 8 ≤ b.size) (h0 : byteN b 0 = 64) (h1 : byteN b 1 = 2) (h2 : b.size < numAt b 2) (w : World) :
    Calls Tryz.prog 28 #[.string b] w fun e w' => e = .returned (.tuple #[.agg #[.int .i64 0, .int .i64 0, .bool false, .int .i64 0, .int .i64 0, .string ⟨#[]⟩], .int .i64 5]) ∧ Kept (fun _ => False) w w' := by
  have hz : ¬ (b.size : Int) < 8 := by omega
  have HW := hid (fun W => refNumA b hb 2 (by omega) W)
  have HW4 := hid (fun W => refNumA b hb 4 (by omega) W)
  have HW6 := hid (fun W => refNumA b hb 6 (by omega) W)
  have x0 := index_at b 0 (by omega) 0 rfl
  have x1 := index_at b 1 (by omega) 1 rfl
  unfold byteN at *
  rw [h0] at x0
  rw [h1] at x1
  clear h0 h1
  have HB := hid (LdAt.new w 0 0 false 0 0 ⟨#[]⟩)
  have HK := hid ((Kept.refl (fun _ => False) w).alloc (.cells #[.int .i64 0, .int .i64 0, .bool false, .int .i64 0, .int .i64 0, .string ⟨#[]⟩] 26))
  generalize numAt b 2 = N at *
  have e2 : (b.size : Int) < (N : Int) := by omega
  clear h2 h8
  generalize numAt b 4 = N4 at *
  generalize numAt b 6 = N6 at *
  go_enter Tryz.func28, Tryz.ntmps28
  go_upto_region 1 with fail
  generalize w.alloc (.cells #[.int .i64 0, .int .i64 0, .bool false, .int .i64 0, .int .i64 0, .string ⟨#[]⟩] 26) = W0 at *
  go_wp2_with fail
  refine (HW.out _).mono ?_
  rintro e w1 ⟨rfl, hk1⟩
  have HK1 := hid (HK.out.trans hk1)
  have HB1 := hid (HB.out.kept hk1)
  clear hk1 HK HB HW
  go_upto_region 6 with fail
  go_cut [6] from 27 to 34 (fun v wx => ∃ bx, v = .pointer (some ⟨bx, 0, none⟩) ∧ LdAt wx bx (N4 : Int) (N6 : Int) false 0 0 ⟨#[]⟩ ∧ w1.heap.size ≤ bx ∧ Kept (fun _ => False) w1 wx)
  case first =>
    refine wp_region_held_drew (S := Kept (fun _ => False) w1) (by kernel_rfl) ((Kept.refl _ w1).drew) (fun hSd => ?_)
    refine Tks.out (l := [(0, some none), (2, some none), (4, some none), (5, some none), (6, some none)]) ?_
    iterate 5
     refine tkT (v := ?_) rfl (by kernel_rfl) (by kernel_rfl) (by kernel_rfl) (fun _ _ _ h => h) (Or.inl ⟨by kernel_rfl, fun W hSW => by go_simp; try with_reducible rfl⟩) (by assumption) ?_
     try simp only [List.getElem_toArray, List.getElem_cons_succ, List.getElem_cons_zero]
     try go_frame
    refine tkE ?_
    refine wpAnyH_ready (rs := [1, 8]) (by kernel_rfl) (by simp) ?_
    refine AllReadyH.cons rfl (fun K hK => ?_) (AllReadyH.cons rfl (fun K hK => ?_) AllReadyH.nil)
    · skip
      go_simp
      refine (HW4.out _).mono ?_
      rintro e v1 ⟨rfl, hk⟩
      have kv1 : Kept (fun _ => False) w1 v1 := hSd.trans hk
      clear hk
      refine hK.out _ _ (kv1) (fun _ => ?_)
      clear hK K
      try simp only [List.getElem_toArray, List.getElem_cons_succ, List.getElem_cons_zero]
      try go_frame
      refine wpAnyH_ready (rs := [3, 8]) (by kernel_rfl) (by simp) ?_
      refine AllReadyH.cons rfl (fun K hK => ?_) (AllReadyH.cons rfl (fun K hK => ?_) AllReadyH.nil)
      · skip
        go_simp
        refine (HW6.out _).mono ?_
        rintro e v2 ⟨rfl, hk⟩
        have kv2 : Kept (fun _ => False) w1 v2 := kv1.trans hk
        clear hk
        refine hK.out _ _ (kv2) (fun _ => ?_)
        clear hK K
        try simp only [List.getElem_toArray, List.getElem_cons_succ, List.getElem_cons_zero]
        try go_frame
        refine wpAnyH_take (i := 7) (v := ?_) rfl (by kernel_rfl) (by kernel_rfl) (by kernel_rfl) (fun _ _ _ h => h) (Or.inl ⟨by kernel_rfl, fun W hSW => by go_simp; try with_reducible rfl⟩) (by assumption) ?_
        try simp only [List.getElem_toArray, List.getElem_cons_succ, List.getElem_cons_zero]
        try go_frame
        refine wpAnyH_ready (rs := [8]) (by kernel_rfl) (by simp) ?_
        refine AllReadyH.cons rfl (fun K hK => ?_) AllReadyH.nil
        go_simp
        have kv3 : Kept (fun _ => False) w1 (World.alloc v2 (.cells #[.int .i64 0, .int .i64 0, .bool false, .int .i64 0, .int .i64 0, .string ⟨#[]⟩] 26)) := kv2.alloc _
        have bv3 : LdAt (World.alloc v2 (.cells #[.int .i64 0, .int .i64 0, .bool false, .int .i64 0, .int .i64 0, .string ⟨#[]⟩] 26)) v2.heap.size 0 0 false 0 0 ⟨#[]⟩ := LdAt.new v2 0 0 false 0 0 ⟨#[]⟩
        have lv3 : w1.heap.size ≤ v2.heap.size := kv2.size
        refine hK.out _ _ (kv3) (fun _ => ?_)
        clear hK K
        try simp only [List.getElem_toArray, List.getElem_cons_succ, List.getElem_cons_zero]
        try go_frame
        generalize World.alloc v2 (.cells #[.int .i64 0, .int .i64 0, .bool false, .int .i64 0, .int .i64 0, .string ⟨#[]⟩] 26) = v3 at *
        obtain ⟨wz, hrun, hld, hkz⟩ := store_ld bv3 (N4 : Int) (N6 : Int) false 0 0 ⟨#[]⟩
        have hSz : Kept (fun _ => False) w1 wz := kv3.andThen hkz (fun i hi e => by have := lv3; omega)
        refine wpAnyH_ready (rs := [9]) (by kernel_rfl) (by simp) ?_
        refine AllReadyH.cons rfl (fun K hK => ?_) AllReadyH.nil
        refine stepB_store rfl (.tmp 6) (.tmp 34) 26 rfl _ _ rfl rfl hrun ?_
        refine hK.out _ _ (hSz) (fun _ => ?_)
        clear hK K
        try simp only [List.getElem_toArray, List.getElem_cons_succ, List.getElem_cons_zero]
        try go_frame
        refine wpAnyH_done (by kernel_rfl) ?_ _
        clear hrun hkz
        go_wp2
        go_meet
        exact ⟨_, rfl, hld, lv3, hSz⟩
      · skip
        go_simp
        have kv4 : Kept (fun _ => False) w1 (World.alloc v1 (.cells #[.int .i64 0, .int .i64 0, .bool false, .int .i64 0, .int .i64 0, .string ⟨#[]⟩] 26)) := kv1.alloc _
        have bv4 : LdAt (World.alloc v1 (.cells #[.int .i64 0, .int .i64 0, .bool false, .int .i64 0, .int .i64 0, .string ⟨#[]⟩] 26)) v1.heap.size 0 0 false 0 0 ⟨#[]⟩ := LdAt.new v1 0 0 false 0 0 ⟨#[]⟩
        have lv4 : w1.heap.size ≤ v1.heap.size := kv1.size
        refine hK.out _ _ (kv4) (fun _ => ?_)
        clear hK K
        try simp only [List.getElem_toArray, List.getElem_cons_succ, List.getElem_cons_zero]
        try go_frame
        generalize World.alloc v1 (.cells #[.int .i64 0, .int .i64 0, .bool false, .int .i64 0, .int .i64 0, .string ⟨#[]⟩] 26) = v4 at *
        generalize v1.heap.size = g1 at *
        refine wpAnyH_ready (rs := [3]) (by kernel_rfl) (by simp) ?_
        refine AllReadyH.cons rfl (fun K hK => ?_) AllReadyH.nil
        go_simp
        refine (HW6.out _).mono ?_
        rintro e v5 ⟨rfl, hk⟩
        have kv5 : Kept (fun _ => False) w1 v5 := kv4.trans hk
        have bv5 := bv4.kept hk
        clear hk
        refine hK.out _ _ (kv5) (fun _ => ?_)
        clear hK K
        try simp only [List.getElem_toArray, List.getElem_cons_succ, List.getElem_cons_zero]
        try go_frame
        refine wpAnyH_take (i := 7) (v := ?_) rfl (by kernel_rfl) (by kernel_rfl) (by kernel_rfl) (fun _ _ _ h => h) (Or.inl ⟨by kernel_rfl, fun W hSW => by go_simp; try with_reducible rfl⟩) (by assumption) ?_
        try simp only [List.getElem_toArray, List.getElem_cons_succ, List.getElem_cons_zero]
        try go_frame
        obtain ⟨wz, hrun, hld, hkz⟩ := store_ld bv5 (N4 : Int) (N6 : Int) false 0 0 ⟨#[]⟩
        have hSz : Kept (fun _ => False) w1 wz := kv5.andThen hkz (fun i hi e => by have := lv4; omega)
        refine wpAnyH_ready (rs := [9]) (by kernel_rfl) (by simp) ?_
        refine AllReadyH.cons rfl (fun K hK => ?_) AllReadyH.nil
        refine stepB_store rfl (.tmp 6) (.tmp 34) 26 rfl _ _ rfl rfl hrun ?_
        refine hK.out _ _ (hSz) (fun _ => ?_)
        clear hK K
        try simp only [List.getElem_toArray, List.getElem_cons_succ, List.getElem_cons_zero]
        try go_frame
        refine wpAnyH_done (by kernel_rfl) ?_ _
        clear hrun hkz
        go_wp2
        go_meet
        exact ⟨_, rfl, hld, lv4, hSz⟩
    · skip
      go_simp
      have kv6 : Kept (fun _ => False) w1 (World.alloc w1 (.cells #[.int .i64 0, .int .i64 0, .bool false, .int .i64 0, .int .i64 0, .string ⟨#[]⟩] 26)).drew := ((Kept.refl (fun _ => False) w1).alloc _).drew
      have bv6 : LdAt (World.alloc w1 (.cells #[.int .i64 0, .int .i64 0, .bool false, .int .i64 0, .int .i64 0, .string ⟨#[]⟩] 26)).drew w1.heap.size 0 0 false 0 0 ⟨#[]⟩ := (LdAt.new w1 0 0 false 0 0 ⟨#[]⟩).kept (Kept.refl _ _).drew
      have lv6 : w1.heap.size ≤ w1.heap.size := Nat.le_refl _
      refine hK.out _ _ (kv6) (fun _ => ?_)
      clear hK K
      try simp only [List.getElem_toArray, List.getElem_cons_succ, List.getElem_cons_zero]
      try go_frame
      generalize (World.alloc w1 (.cells #[.int .i64 0, .int .i64 0, .bool false, .int .i64 0, .int .i64 0, .string ⟨#[]⟩] 26)).drew = v6 at *
      refine wpAnyH_ready (rs := [1]) (by kernel_rfl) (by simp) ?_
      refine AllReadyH.cons rfl (fun K hK => ?_) AllReadyH.nil
      go_simp
      refine (HW4.out _).mono ?_
      rintro e v7 ⟨rfl, hk⟩
      have kv7 : Kept (fun _ => False) w1 v7 := kv6.trans hk
      have bv7 := bv6.kept hk
      clear hk
      refine hK.out _ _ (kv7) (fun _ => ?_)
      clear hK K
      try simp only [List.getElem_toArray, List.getElem_cons_succ, List.getElem_cons_zero]
      try go_frame
      refine wpAnyH_ready (rs := [3]) (by kernel_rfl) (by simp) ?_
      refine AllReadyH.cons rfl (fun K hK => ?_) AllReadyH.nil
      go_simp
      refine (HW6.out _).mono ?_
      rintro e v8 ⟨rfl, hk⟩
      have kv8 : Kept (fun _ => False) w1 v8 := kv7.trans hk
      have bv8 := bv7.kept hk
      clear hk
      refine hK.out _ _ (kv8) (fun _ => ?_)
      clear hK K
      try simp only [List.getElem_toArray, List.getElem_cons_succ, List.getElem_cons_zero]
      try go_frame
      refine wpAnyH_take (i := 7) (v := ?_) rfl (by kernel_rfl) (by kernel_rfl) (by kernel_rfl) (fun _ _ _ h => h) (Or.inl ⟨by kernel_rfl, fun W hSW => by go_simp; try with_reducible rfl⟩) (by assumption) ?_
      try simp only [List.getElem_toArray, List.getElem_cons_succ, List.getElem_cons_zero]
      try go_frame
      obtain ⟨wz, hrun, hld, hkz⟩ := store_ld bv8 (N4 : Int) (N6 : Int) false 0 0 ⟨#[]⟩
      have hSz : Kept (fun _ => False) w1 wz := kv8.andThen hkz (fun i hi e => by have := lv6; omega)
      refine wpAnyH_ready (rs := [9]) (by kernel_rfl) (by simp) ?_
      refine AllReadyH.cons rfl (fun K hK => ?_) AllReadyH.nil
      refine stepB_store rfl (.tmp 6) (.tmp 34) 26 rfl _ _ rfl rfl hrun ?_
      refine hK.out _ _ (hSz) (fun _ => ?_)
      clear hK K
      try simp only [List.getElem_toArray, List.getElem_cons_succ, List.getElem_cons_zero]
      try go_frame
      refine wpAnyH_done (by kernel_rfl) ?_ _
      clear hrun hkz
      go_wp2
      go_meet
      exact ⟨_, rfl, hld, lv6, hSz⟩
  obtain ⟨bx, rfl, hld, hbx, hkx⟩ := hcut
  have HL := hid hld
  have HKx := hid (HK1.out.trans hkx)
  have HBx := hid (HB1.out.kept hkx)
  have HGb := hid (Nat.le_trans HK1.out.size hbx)
  have HNe := hid (show w.heap.size ≠ bx from by have := HB1.out.lt; omega)
  clear hld hkx hbx HB1 HK1 HW4 HW6
  obtain ⟨y0, y1, y2, y3, y4, y5⟩ := HL.out.cells
  obtain ⟨z0, z1, z2, z3, z4, z5⟩ := (HBx.out).cells
  have f0 := (HBx.out).soft 0
  have f1 := (HBx.out).soft 1
  have f2 := (HBx.out).soft 2
  have f3 := (HBx.out).soft 3
  have f4 := (HBx.out).soft 4
  have f5 := (HBx.out).soft 5
  go_wp2
  refine bodyPost_ret (v := .tuple #[.agg #[.int .i64 0, .int .i64 0, .bool false, .int .i64 0, .int .i64 0, .string ⟨#[]⟩], .int .i64 5]) (by simp [results, Tryz.results28, go_sem, z0, z1, z2, z3, z4, z5]) rfl ⟨rfl, ?_⟩
  exact ((((((HKx.out).setCell (Or.inl (Nat.le_refl _)) _).setCell (Or.inl (Nat.le_refl _)) _).setCell (Or.inl (Nat.le_refl _)) _).setCell (Or.inl (Nat.le_refl _)) _).setCell (Or.inl (Nat.le_refl _)) _).setCell (Or.inl (Nat.le_refl _)) _

set_option maxHeartbeats 8000000 in
set_option maxRecDepth 100000 in
theorem rGetL_less8 (b : ByteArray) (hb : b.size ≤ 140737488351232) (h8 : 8 ≤ b.size) (h0 : byteN b 0 = 64) (h1 : byteN b 1 = 2) (h2 : ¬ b.size < numAt b 2) (h3 : numAt b 2 < 8) (w : World) :
    Calls Tryz.prog 28 #[.string b] w fun e w' => e = .returned (.tuple #[.agg #[.int .i64 0, .int .i64 0, .bool false, .int .i64 0, .int .i64 0, .string ⟨#[]⟩], .int .i64 4]) ∧ Kept (fun _ => False) w w' := by
  have hz : ¬ (b.size : Int) < 8 := by omega
  have HW := hid (fun W => refNumA b hb 2 (by omega) W)
  have HW4 := hid (fun W => refNumA b hb 4 (by omega) W)
  have HW6 := hid (fun W => refNumA b hb 6 (by omega) W)
  have x0 := index_at b 0 (by omega) 0 rfl
  have x1 := index_at b 1 (by omega) 1 rfl
  unfold byteN at *
  rw [h0] at x0
  rw [h1] at x1
  clear h0 h1
  have HB := hid (LdAt.new w 0 0 false 0 0 ⟨#[]⟩)
  have HK := hid ((Kept.refl (fun _ => False) w).alloc (.cells #[.int .i64 0, .int .i64 0, .bool false, .int .i64 0, .int .i64 0, .string ⟨#[]⟩] 26))
  generalize numAt b 2 = N at *
  have e2 : ¬ (b.size : Int) < (N : Int) := by omega
  have e3 : (N : Int) < 8 := by omega
  clear h2 h3 h8
  generalize numAt b 4 = N4 at *
  generalize numAt b 6 = N6 at *
  go_enter Tryz.func28, Tryz.ntmps28
  go_upto_region 1 with fail
  generalize w.alloc (.cells #[.int .i64 0, .int .i64 0, .bool false, .int .i64 0, .int .i64 0, .string ⟨#[]⟩] 26) = W0 at *
  go_wp2_with fail
  refine (HW.out _).mono ?_
  rintro e w1 ⟨rfl, hk1⟩
  have HK1 := hid (HK.out.trans hk1)
  have HB1 := hid (HB.out.kept hk1)
  clear hk1 HK HB HW
  go_upto_region 6 with fail
  go_cut [6] from 27 to 34 (fun v wx => ∃ bx, v = .pointer (some ⟨bx, 0, none⟩) ∧ LdAt wx bx (N4 : Int) (N6 : Int) false 0 0 ⟨#[]⟩ ∧ w1.heap.size ≤ bx ∧ Kept (fun _ => False) w1 wx)
  case first =>
    refine wp_region_held_drew (S := Kept (fun _ => False) w1) (by kernel_rfl) ((Kept.refl _ w1).drew) (fun hSd => ?_)
    refine Tks.out (l := [(0, some none), (2, some none), (4, some none), (5, some none), (6, some none)]) ?_
    iterate 5
     refine tkT (v := ?_) rfl (by kernel_rfl) (by kernel_rfl) (by kernel_rfl) (fun _ _ _ h => h) (Or.inl ⟨by kernel_rfl, fun W hSW => by go_simp; try with_reducible rfl⟩) (by assumption) ?_
     try simp only [List.getElem_toArray, List.getElem_cons_succ, List.getElem_cons_zero]
     try go_frame
    refine tkE ?_
    refine wpAnyH_ready (rs := [1, 8]) (by kernel_rfl) (by simp) ?_
    refine AllReadyH.cons rfl (fun K hK => ?_) (AllReadyH.cons rfl (fun K hK => ?_) AllReadyH.nil)
    · skip
      go_simp
      refine (HW4.out _).mono ?_
      rintro e v1 ⟨rfl, hk⟩
      have kv1 : Kept (fun _ => False) w1 v1 := hSd.trans hk
      clear hk
      refine hK.out _ _ (kv1) (fun _ => ?_)
      clear hK K
      try simp only [List.getElem_toArray, List.getElem_cons_succ, List.getElem_cons_zero]
      try go_frame
      refine wpAnyH_ready (rs := [3, 8]) (by kernel_rfl) (by simp) ?_
      refine AllReadyH.cons rfl (fun K hK => ?_) (AllReadyH.cons rfl (fun K hK => ?_) AllReadyH.nil)
      · skip
        go_simp
        refine (HW6.out _).mono ?_
        rintro e v2 ⟨rfl, hk⟩
        have kv2 : Kept (fun _ => False) w1 v2 := kv1.trans hk
        clear hk
        refine hK.out _ _ (kv2) (fun _ => ?_)
        clear hK K
        try simp only [List.getElem_toArray, List.getElem_cons_succ, List.getElem_cons_zero]
        try go_frame
        refine wpAnyH_take (i := 7) (v := ?_) rfl (by kernel_rfl) (by kernel_rfl) (by kernel_rfl) (fun _ _ _ h => h) (Or.inl ⟨by kernel_rfl, fun W hSW => by go_simp; try with_reducible rfl⟩) (by assumption) ?_
        try simp only [List.getElem_toArray, List.getElem_cons_succ, List.getElem_cons_zero]
        try go_frame
        refine wpAnyH_ready (rs := [8]) (by kernel_rfl) (by simp) ?_
        refine AllReadyH.cons rfl (fun K hK => ?_) AllReadyH.nil
        go_simp
        have kv3 : Kept (fun _ => False) w1 (World.alloc v2 (.cells #[.int .i64 0, .int .i64 0, .bool false, .int .i64 0, .int .i64 0, .string ⟨#[]⟩] 26)) := kv2.alloc _
        have bv3 : LdAt (World.alloc v2 (.cells #[.int .i64 0, .int .i64 0, .bool false, .int .i64 0, .int .i64 0, .string ⟨#[]⟩] 26)) v2.heap.size 0 0 false 0 0 ⟨#[]⟩ := LdAt.new v2 0 0 false 0 0 ⟨#[]⟩
        have lv3 : w1.heap.size ≤ v2.heap.size := kv2.size
        refine hK.out _ _ (kv3) (fun _ => ?_)
        clear hK K
        try simp only [List.getElem_toArray, List.getElem_cons_succ, List.getElem_cons_zero]
        try go_frame
        generalize World.alloc v2 (.cells #[.int .i64 0, .int .i64 0, .bool false, .int .i64 0, .int .i64 0, .string ⟨#[]⟩] 26) = v3 at *
        obtain ⟨wz, hrun, hld, hkz⟩ := store_ld bv3 (N4 : Int) (N6 : Int) false 0 0 ⟨#[]⟩
        have hSz : Kept (fun _ => False) w1 wz := kv3.andThen hkz (fun i hi e => by have := lv3; omega)
        refine wpAnyH_ready (rs := [9]) (by kernel_rfl) (by simp) ?_
        refine AllReadyH.cons rfl (fun K hK => ?_) AllReadyH.nil
        refine stepB_store rfl (.tmp 6) (.tmp 34) 26 rfl _ _ rfl rfl hrun ?_
        refine hK.out _ _ (hSz) (fun _ => ?_)
        clear hK K
        try simp only [List.getElem_toArray, List.getElem_cons_succ, List.getElem_cons_zero]
        try go_frame
        refine wpAnyH_done (by kernel_rfl) ?_ _
        clear hrun hkz
        go_wp2
        go_meet
        exact ⟨_, rfl, hld, lv3, hSz⟩
      · skip
        go_simp
        have kv4 : Kept (fun _ => False) w1 (World.alloc v1 (.cells #[.int .i64 0, .int .i64 0, .bool false, .int .i64 0, .int .i64 0, .string ⟨#[]⟩] 26)) := kv1.alloc _
        have bv4 : LdAt (World.alloc v1 (.cells #[.int .i64 0, .int .i64 0, .bool false, .int .i64 0, .int .i64 0, .string ⟨#[]⟩] 26)) v1.heap.size 0 0 false 0 0 ⟨#[]⟩ := LdAt.new v1 0 0 false 0 0 ⟨#[]⟩
        have lv4 : w1.heap.size ≤ v1.heap.size := kv1.size
        refine hK.out _ _ (kv4) (fun _ => ?_)
        clear hK K
        try simp only [List.getElem_toArray, List.getElem_cons_succ, List.getElem_cons_zero]
        try go_frame
        generalize World.alloc v1 (.cells #[.int .i64 0, .int .i64 0, .bool false, .int .i64 0, .int .i64 0, .string ⟨#[]⟩] 26) = v4 at *
        generalize v1.heap.size = g1 at *
        refine wpAnyH_ready (rs := [3]) (by kernel_rfl) (by simp) ?_
        refine AllReadyH.cons rfl (fun K hK => ?_) AllReadyH.nil
        go_simp
        refine (HW6.out _).mono ?_
        rintro e v5 ⟨rfl, hk⟩
        have kv5 : Kept (fun _ => False) w1 v5 := kv4.trans hk
        have bv5 := bv4.kept hk
        clear hk
        refine hK.out _ _ (kv5) (fun _ => ?_)
        clear hK K
        try simp only [List.getElem_toArray, List.getElem_cons_succ, List.getElem_cons_zero]
        try go_frame
        refine wpAnyH_take (i := 7) (v := ?_) rfl (by kernel_rfl) (by kernel_rfl) (by kernel_rfl) (fun _ _ _ h => h) (Or.inl ⟨by kernel_rfl, fun W hSW => by go_simp; try with_reducible rfl⟩) (by assumption) ?_
        try simp only [List.getElem_toArray, List.getElem_cons_succ, List.getElem_cons_zero]
        try go_frame
        obtain ⟨wz, hrun, hld, hkz⟩ := store_ld bv5 (N4 : Int) (N6 : Int) false 0 0 ⟨#[]⟩
        have hSz : Kept (fun _ => False) w1 wz := kv5.andThen hkz (fun i hi e => by have := lv4; omega)
        refine wpAnyH_ready (rs := [9]) (by kernel_rfl) (by simp) ?_
        refine AllReadyH.cons rfl (fun K hK => ?_) AllReadyH.nil
        refine stepB_store rfl (.tmp 6) (.tmp 34) 26 rfl _ _ rfl rfl hrun ?_
        refine hK.out _ _ (hSz) (fun _ => ?_)
        clear hK K
        try simp only [List.getElem_toArray, List.getElem_cons_succ, List.getElem_cons_zero]
        try go_frame
        refine wpAnyH_done (by kernel_rfl) ?_ _
        clear hrun hkz
        go_wp2
        go_meet
        exact ⟨_, rfl, hld, lv4, hSz⟩
    · skip
      go_simp
      have kv6 : Kept (fun _ => False) w1 (World.alloc w1 (.cells #[.int .i64 0, .int .i64 0, .bool false, .int .i64 0, .int .i64 0, .string ⟨#[]⟩] 26)).drew := ((Kept.refl (fun _ => False) w1).alloc _).drew
      have bv6 : LdAt (World.alloc w1 (.cells #[.int .i64 0, .int .i64 0, .bool false, .int .i64 0, .int .i64 0, .string ⟨#[]⟩] 26)).drew w1.heap.size 0 0 false 0 0 ⟨#[]⟩ := (LdAt.new w1 0 0 false 0 0 ⟨#[]⟩).kept (Kept.refl _ _).drew
      have lv6 : w1.heap.size ≤ w1.heap.size := Nat.le_refl _
      refine hK.out _ _ (kv6) (fun _ => ?_)
      clear hK K
      try simp only [List.getElem_toArray, List.getElem_cons_succ, List.getElem_cons_zero]
      try go_frame
      generalize (World.alloc w1 (.cells #[.int .i64 0, .int .i64 0, .bool false, .int .i64 0, .int .i64 0, .string ⟨#[]⟩] 26)).drew = v6 at *
      refine wpAnyH_ready (rs := [1]) (by kernel_rfl) (by simp) ?_
      refine AllReadyH.cons rfl (fun K hK => ?_) AllReadyH.nil
      go_simp
      refine (HW4.out _).mono ?_
      rintro e v7 ⟨rfl, hk⟩
      have kv7 : Kept (fun _ => False) w1 v7 := kv6.trans hk
      have bv7 := bv6.kept hk
      clear hk
      refine hK.out _ _ (kv7) (fun _ => ?_)
      clear hK K
      try simp only [List.getElem_toArray, List.getElem_cons_succ, List.getElem_cons_zero]
      try go_frame
      refine wpAnyH_ready (rs := [3]) (by kernel_rfl) (by simp) ?_
      refine AllReadyH.cons rfl (fun K hK => ?_) AllReadyH.nil
      go_simp
      refine (HW6.out _).mono ?_
      rintro e v8 ⟨rfl, hk⟩
      have kv8 : Kept (fun _ => False) w1 v8 := kv7.trans hk
      have bv8 := bv7.kept hk
      clear hk
      refine hK.out _ _ (kv8) (fun _ => ?_)
      clear hK K
      try simp only [List.getElem_toArray, List.getElem_cons_succ, List.getElem_cons_zero]
      try go_frame
      refine wpAnyH_take (i := 7) (v := ?_) rfl (by kernel_rfl) (by kernel_rfl) (by kernel_rfl) (fun _ _ _ h => h) (Or.inl ⟨by kernel_rfl, fun W hSW => by go_simp; try with_reducible rfl⟩) (by assumption) ?_
      try simp only [List.getElem_toArray, List.getElem_cons_succ, List.getElem_cons_zero]
      try go_frame
      obtain ⟨wz, hrun, hld, hkz⟩ := store_ld bv8 (N4 : Int) (N6 : Int) false 0 0 ⟨#[]⟩
      have hSz : Kept (fun _ => False) w1 wz := kv8.andThen hkz (fun i hi e => by have := lv6; omega)
      refine wpAnyH_ready (rs := [9]) (by kernel_rfl) (by simp) ?_
      refine AllReadyH.cons rfl (fun K hK => ?_) AllReadyH.nil
      refine stepB_store rfl (.tmp 6) (.tmp 34) 26 rfl _ _ rfl rfl hrun ?_
      refine hK.out _ _ (hSz) (fun _ => ?_)
      clear hK K
      try simp only [List.getElem_toArray, List.getElem_cons_succ, List.getElem_cons_zero]
      try go_frame
      refine wpAnyH_done (by kernel_rfl) ?_ _
      clear hrun hkz
      go_wp2
      go_meet
      exact ⟨_, rfl, hld, lv6, hSz⟩
  obtain ⟨bx, rfl, hld, hbx, hkx⟩ := hcut
  have HL := hid hld
  have HKx := hid (HK1.out.trans hkx)
  have HBx := hid (HB1.out.kept hkx)
  have HGb := hid (Nat.le_trans HK1.out.size hbx)
  have HNe := hid (show w.heap.size ≠ bx from by have := HB1.out.lt; omega)
  clear hld hkx hbx HB1 HK1 HW4 HW6
  obtain ⟨y0, y1, y2, y3, y4, y5⟩ := HL.out.cells
  obtain ⟨z0, z1, z2, z3, z4, z5⟩ := (HBx.out).cells
  have f0 := (HBx.out).soft 0
  have f1 := (HBx.out).soft 1
  have f2 := (HBx.out).soft 2
  have f3 := (HBx.out).soft 3
  have f4 := (HBx.out).soft 4
  have f5 := (HBx.out).soft 5
  go_wp2
  refine bodyPost_ret (v := .tuple #[.agg #[.int .i64 0, .int .i64 0, .bool false, .int .i64 0, .int .i64 0, .string ⟨#[]⟩], .int .i64 4]) (by simp [results, Tryz.results28, go_sem, z0, z1, z2, z3, z4, z5]) rfl ⟨rfl, ?_⟩
  exact ((((((HKx.out).setCell (Or.inl (Nat.le_refl _)) _).setCell (Or.inl (Nat.le_refl _)) _).setCell (Or.inl (Nat.le_refl _)) _).setCell (Or.inl (Nat.le_refl _)) _).setCell (Or.inl (Nat.le_refl _)) _).setCell (Or.inl (Nat.le_refl _)) _

set_option maxHeartbeats 8000000 in
set_option maxRecDepth 100000 in
theorem rGetL_big8 (b : ByteArray) (hb : b.size ≤ 140737488351232) (h8 : 8 ≤ b.size) (h0 : byteN b 0 = 64) (h1 : byteN b 1 = 2) (h2 : ¬ b.size < numAt b 2) (h3 : ¬ numAt b 2 < 8) (h4 : 1460 < numAt b 2 - 8) (w : World) :
    Calls Tryz.prog 28 #[.string b] w fun e w' => e = .returned (.tuple #[.agg #[.int .i64 0, .int .i64 0, .bool false, .int .i64 0, .int .i64 0, .string ⟨#[]⟩], .int .i64 2]) ∧ Kept (fun _ => False) w w' := by
  have hz : ¬ (b.size : Int) < 8 := by omega
  have HW := hid (fun W => refNumA b hb 2 (by omega) W)
  have HW4 := hid (fun W => refNumA b hb 4 (by omega) W)
  have HW6 := hid (fun W => refNumA b hb 6 (by omega) W)
  have x0 := index_at b 0 (by omega) 0 rfl
  have x1 := index_at b 1 (by omega) 1 rfl
  unfold byteN at *
  rw [h0] at x0
  rw [h1] at x1
  clear h0 h1
  have HB := hid (LdAt.new w 0 0 false 0 0 ⟨#[]⟩)
  have HK := hid ((Kept.refl (fun _ => False) w).alloc (.cells #[.int .i64 0, .int .i64 0, .bool false, .int .i64 0, .int .i64 0, .string ⟨#[]⟩] 26))
  generalize numAt b 2 = N at *
  have e2 : ¬ (b.size : Int) < (N : Int) := by omega
  have e3 : ¬ (N : Int) < 8 := by omega
  have e4 : IntKind.i64.wrap ((N : Int) - 8) = (N : Int) - 8 := by rw [IntKind.wrap_i64]; omega
  have e5 : (1460 : Int) < (N : Int) - 8 := by omega
  clear h2 h3 h4 h8
  generalize numAt b 4 = N4 at *
  generalize numAt b 6 = N6 at *
  go_enter Tryz.func28, Tryz.ntmps28
  go_upto_region 1 with fail
  generalize w.alloc (.cells #[.int .i64 0, .int .i64 0, .bool false, .int .i64 0, .int .i64 0, .string ⟨#[]⟩] 26) = W0 at *
  go_wp2_with fail
  refine (HW.out _).mono ?_
  rintro e w1 ⟨rfl, hk1⟩
  have HK1 := hid (HK.out.trans hk1)
  have HB1 := hid (HB.out.kept hk1)
  clear hk1 HK HB HW
  go_upto_region 6 with fail
  go_cut [6] from 27 to 34 (fun v wx => ∃ bx, v = .pointer (some ⟨bx, 0, none⟩) ∧ LdAt wx bx (N4 : Int) (N6 : Int) false 0 0 ⟨#[]⟩ ∧ w1.heap.size ≤ bx ∧ Kept (fun _ => False) w1 wx)
  case first =>
    refine wp_region_held_drew (S := Kept (fun _ => False) w1) (by kernel_rfl) ((Kept.refl _ w1).drew) (fun hSd => ?_)
    refine Tks.out (l := [(0, some none), (2, some none), (4, some none), (5, some none), (6, some none)]) ?_
    iterate 5
     refine tkT (v := ?_) rfl (by kernel_rfl) (by kernel_rfl) (by kernel_rfl) (fun _ _ _ h => h) (Or.inl ⟨by kernel_rfl, fun W hSW => by go_simp; try with_reducible rfl⟩) (by assumption) ?_
     try simp only [List.getElem_toArray, List.getElem_cons_succ, List.getElem_cons_zero]
     try go_frame
    refine tkE ?_
    refine wpAnyH_ready (rs := [1, 8]) (by kernel_rfl) (by simp) ?_
    refine AllReadyH.cons rfl (fun K hK => ?_) (AllReadyH.cons rfl (fun K hK => ?_) AllReadyH.nil)
    · skip
      go_simp
      refine (HW4.out _).mono ?_
      rintro e v1 ⟨rfl, hk⟩
      have kv1 : Kept (fun _ => False) w1 v1 := hSd.trans hk
      clear hk
      refine hK.out _ _ (kv1) (fun _ => ?_)
      clear hK K
      try simp only [List.getElem_toArray, List.getElem_cons_succ, List.getElem_cons_zero]
      try go_frame
      refine wpAnyH_ready (rs := [3, 8]) (by kernel_rfl) (by simp) ?_
      refine AllReadyH.cons rfl (fun K hK => ?_) (AllReadyH.cons rfl (fun K hK => ?_) AllReadyH.nil)
      · skip
        go_simp
        refine (HW6.out _).mono ?_
        rintro e v2 ⟨rfl, hk⟩
        have kv2 : Kept (fun _ => False) w1 v2 := kv1.trans hk
        clear hk
        refine hK.out _ _ (kv2) (fun _ => ?_)
        clear hK K
        try simp only [List.getElem_toArray, List.getElem_cons_succ, List.getElem_cons_zero]
        try go_frame
        refine wpAnyH_take (i := 7) (v := ?_) rfl (by kernel_rfl) (by kernel_rfl) (by kernel_rfl) (fun _ _ _ h => h) (Or.inl ⟨by kernel_rfl, fun W hSW => by go_simp; try with_reducible rfl⟩) (by assumption) ?_
        try simp only [List.getElem_toArray, List.getElem_cons_succ, List.getElem_cons_zero]
        try go_frame
        refine wpAnyH_ready (rs := [8]) (by kernel_rfl) (by simp) ?_
        refine AllReadyH.cons rfl (fun K hK => ?_) AllReadyH.nil
        go_simp
        have kv3 : Kept (fun _ => False) w1 (World.alloc v2 (.cells #[.int .i64 0, .int .i64 0, .bool false, .int .i64 0, .int .i64 0, .string ⟨#[]⟩] 26)) := kv2.alloc _
        have bv3 : LdAt (World.alloc v2 (.cells #[.int .i64 0, .int .i64 0, .bool false, .int .i64 0, .int .i64 0, .string ⟨#[]⟩] 26)) v2.heap.size 0 0 false 0 0 ⟨#[]⟩ := LdAt.new v2 0 0 false 0 0 ⟨#[]⟩
        have lv3 : w1.heap.size ≤ v2.heap.size := kv2.size
        refine hK.out _ _ (kv3) (fun _ => ?_)
        clear hK K
        try simp only [List.getElem_toArray, List.getElem_cons_succ, List.getElem_cons_zero]
        try go_frame
        generalize World.alloc v2 (.cells #[.int .i64 0, .int .i64 0, .bool false, .int .i64 0, .int .i64 0, .string ⟨#[]⟩] 26) = v3 at *
        obtain ⟨wz, hrun, hld, hkz⟩ := store_ld bv3 (N4 : Int) (N6 : Int) false 0 0 ⟨#[]⟩
        have hSz : Kept (fun _ => False) w1 wz := kv3.andThen hkz (fun i hi e => by have := lv3; omega)
        refine wpAnyH_ready (rs := [9]) (by kernel_rfl) (by simp) ?_
        refine AllReadyH.cons rfl (fun K hK => ?_) AllReadyH.nil
        refine stepB_store rfl (.tmp 6) (.tmp 34) 26 rfl _ _ rfl rfl hrun ?_
        refine hK.out _ _ (hSz) (fun _ => ?_)
        clear hK K
        try simp only [List.getElem_toArray, List.getElem_cons_succ, List.getElem_cons_zero]
        try go_frame
        refine wpAnyH_done (by kernel_rfl) ?_ _
        clear hrun hkz
        go_wp2
        go_meet
        exact ⟨_, rfl, hld, lv3, hSz⟩
      · skip
        go_simp
        have kv4 : Kept (fun _ => False) w1 (World.alloc v1 (.cells #[.int .i64 0, .int .i64 0, .bool false, .int .i64 0, .int .i64 0, .string ⟨#[]⟩] 26)) := kv1.alloc _
        have bv4 : LdAt (World.alloc v1 (.cells #[.int .i64 0, .int .i64 0, .bool false, .int .i64 0, .int .i64 0, .string ⟨#[]⟩] 26)) v1.heap.size 0 0 false 0 0 ⟨#[]⟩ := LdAt.new v1 0 0 false 0 0 ⟨#[]⟩
        have lv4 : w1.heap.size ≤ v1.heap.size := kv1.size
        refine hK.out _ _ (kv4) (fun _ => ?_)
        clear hK K
        try simp only [List.getElem_toArray, List.getElem_cons_succ, List.getElem_cons_zero]
        try go_frame
        generalize World.alloc v1 (.cells #[.int .i64 0, .int .i64 0, .bool false, .int .i64 0, .int .i64 0, .string ⟨#[]⟩] 26) = v4 at *
        generalize v1.heap.size = g1 at *
        refine wpAnyH_ready (rs := [3]) (by kernel_rfl) (by simp) ?_
        refine AllReadyH.cons rfl (fun K hK => ?_) AllReadyH.nil
        go_simp
        refine (HW6.out _).mono ?_
        rintro e v5 ⟨rfl, hk⟩
        have kv5 : Kept (fun _ => False) w1 v5 := kv4.trans hk
        have bv5 := bv4.kept hk
        clear hk
        refine hK.out _ _ (kv5) (fun _ => ?_)
        clear hK K
        try simp only [List.getElem_toArray, List.getElem_cons_succ, List.getElem_cons_zero]
        try go_frame
        refine wpAnyH_take (i := 7) (v := ?_) rfl (by kernel_rfl) (by kernel_rfl) (by kernel_rfl) (fun _ _ _ h => h) (Or.inl ⟨by kernel_rfl, fun W hSW => by go_simp; try with_reducible rfl⟩) (by assumption) ?_
        try simp only [List.getElem_toArray, List.getElem_cons_succ, List.getElem_cons_zero]
        try go_frame
        obtain ⟨wz, hrun, hld, hkz⟩ := store_ld bv5 (N4 : Int) (N6 : Int) false 0 0 ⟨#[]⟩
        have hSz : Kept (fun _ => False) w1 wz := kv5.andThen hkz (fun i hi e => by have := lv4; omega)
        refine wpAnyH_ready (rs := [9]) (by kernel_rfl) (by simp) ?_
        refine AllReadyH.cons rfl (fun K hK => ?_) AllReadyH.nil
        refine stepB_store rfl (.tmp 6) (.tmp 34) 26 rfl _ _ rfl rfl hrun ?_
        refine hK.out _ _ (hSz) (fun _ => ?_)
        clear hK K
        try simp only [List.getElem_toArray, List.getElem_cons_succ, List.getElem_cons_zero]
        try go_frame
        refine wpAnyH_done (by kernel_rfl) ?_ _
        clear hrun hkz
        go_wp2
        go_meet
        exact ⟨_, rfl, hld, lv4, hSz⟩
    · skip
      go_simp
      have kv6 : Kept (fun _ => False) w1 (World.alloc w1 (.cells #[.int .i64 0, .int .i64 0, .bool false, .int .i64 0, .int .i64 0, .string ⟨#[]⟩] 26)).drew := ((Kept.refl (fun _ => False) w1).alloc _).drew
      have bv6 : LdAt (World.alloc w1 (.cells #[.int .i64 0, .int .i64 0, .bool false, .int .i64 0, .int .i64 0, .string ⟨#[]⟩] 26)).drew w1.heap.size 0 0 false 0 0 ⟨#[]⟩ := (LdAt.new w1 0 0 false 0 0 ⟨#[]⟩).kept (Kept.refl _ _).drew
      have lv6 : w1.heap.size ≤ w1.heap.size := Nat.le_refl _
      refine hK.out _ _ (kv6) (fun _ => ?_)
      clear hK K
      try simp only [List.getElem_toArray, List.getElem_cons_succ, List.getElem_cons_zero]
      try go_frame
      generalize (World.alloc w1 (.cells #[.int .i64 0, .int .i64 0, .bool false, .int .i64 0, .int .i64 0, .string ⟨#[]⟩] 26)).drew = v6 at *
      refine wpAnyH_ready (rs := [1]) (by kernel_rfl) (by simp) ?_
      refine AllReadyH.cons rfl (fun K hK => ?_) AllReadyH.nil
      go_simp
      refine (HW4.out _).mono ?_
      rintro e v7 ⟨rfl, hk⟩
      have kv7 : Kept (fun _ => False) w1 v7 := kv6.trans hk
      have bv7 := bv6.kept hk
      clear hk
      refine hK.out _ _ (kv7) (fun _ => ?_)
      clear hK K
      try simp only [List.getElem_toArray, List.getElem_cons_succ, List.getElem_cons_zero]
      try go_frame
      refine wpAnyH_ready (rs := [3]) (by kernel_rfl) (by simp) ?_
      refine AllReadyH.cons rfl (fun K hK => ?_) AllReadyH.nil
      go_simp
      refine (HW6.out _).mono ?_
      rintro e v8 ⟨rfl, hk⟩
      have kv8 : Kept (fun _ => False) w1 v8 := kv7.trans hk
      have bv8 := bv7.kept hk
      clear hk
      refine hK.out _ _ (kv8) (fun _ => ?_)
      clear hK K
      try simp only [List.getElem_toArray, List.getElem_cons_succ, List.getElem_cons_zero]
      try go_frame
      refine wpAnyH_take (i := 7) (v := ?_) rfl (by kernel_rfl) (by kernel_rfl) (by kernel_rfl) (fun _ _ _ h => h) (Or.inl ⟨by kernel_rfl, fun W hSW => by go_simp; try with_reducible rfl⟩) (by assumption) ?_
      try simp only [List.getElem_toArray, List.getElem_cons_succ, List.getElem_cons_zero]
      try go_frame
      obtain ⟨wz, hrun, hld, hkz⟩ := store_ld bv8 (N4 : Int) (N6 : Int) false 0 0 ⟨#[]⟩
      have hSz : Kept (fun _ => False) w1 wz := kv8.andThen hkz (fun i hi e => by have := lv6; omega)
      refine wpAnyH_ready (rs := [9]) (by kernel_rfl) (by simp) ?_
      refine AllReadyH.cons rfl (fun K hK => ?_) AllReadyH.nil
      refine stepB_store rfl (.tmp 6) (.tmp 34) 26 rfl _ _ rfl rfl hrun ?_
      refine hK.out _ _ (hSz) (fun _ => ?_)
      clear hK K
      try simp only [List.getElem_toArray, List.getElem_cons_succ, List.getElem_cons_zero]
      try go_frame
      refine wpAnyH_done (by kernel_rfl) ?_ _
      clear hrun hkz
      go_wp2
      go_meet
      exact ⟨_, rfl, hld, lv6, hSz⟩
  obtain ⟨bx, rfl, hld, hbx, hkx⟩ := hcut
  have HL := hid hld
  have HKx := hid (HK1.out.trans hkx)
  have HBx := hid (HB1.out.kept hkx)
  have HGb := hid (Nat.le_trans HK1.out.size hbx)
  have HNe := hid (show w.heap.size ≠ bx from by have := HB1.out.lt; omega)
  clear hld hkx hbx HB1 HK1 HW4 HW6
  obtain ⟨y0, y1, y2, y3, y4, y5⟩ := HL.out.cells
  obtain ⟨z0, z1, z2, z3, z4, z5⟩ := (HBx.out).cells
  have f0 := (HBx.out).soft 0
  have f1 := (HBx.out).soft 1
  have f2 := (HBx.out).soft 2
  have f3 := (HBx.out).soft 3
  have f4 := (HBx.out).soft 4
  have f5 := (HBx.out).soft 5
  go_wp2
  refine bodyPost_ret (v := .tuple #[.agg #[.int .i64 0, .int .i64 0, .bool false, .int .i64 0, .int .i64 0, .string ⟨#[]⟩], .int .i64 2]) (by simp [results, Tryz.results28, go_sem, z0, z1, z2, z3, z4, z5]) rfl ⟨rfl, ?_⟩
  exact ((((((HKx.out).setCell (Or.inl (Nat.le_refl _)) _).setCell (Or.inl (Nat.le_refl _)) _).setCell (Or.inl (Nat.le_refl _)) _).setCell (Or.inl (Nat.le_refl _)) _).setCell (Or.inl (Nat.le_refl _)) _).setCell (Or.inl (Nat.le_refl _)) _

set_option maxHeartbeats 8000000 in
set_option maxRecDepth 100000 in
theorem rGetL_ok8 (b : ByteArray) (hb : b.size ≤ 140737488351232) (h8 : 8 ≤ b.size) (h0 : byteN b 0 = 64) (h1 : byteN b 1 = 2) (h2 : ¬ b.size < numAt b 2) (h3 : ¬ numAt b 2 < 8) (h4 : ¬ 1460 < numAt b 2 - 8) (w : World) :
    Calls Tryz.prog 28 #[.string b] w fun e w' => e = .returned (.tuple #[.agg #[.int .i64 (numAt b 4 : Int), .int .i64 (numAt b 6 : Int), .bool false, .int .i64 0, .int .i64 0, .string (b.extract 8 (numAt b 2))], .int .i64 0]) ∧ Kept (fun _ => False) w w' := by
  have hz : ¬ (b.size : Int) < 8 := by omega
  have HW := hid (fun W => refNumA b hb 2 (by omega) W)
  have HW4 := hid (fun W => refNumA b hb 4 (by omega) W)
  have HW6 := hid (fun W => refNumA b hb 6 (by omega) W)
  have x0 := index_at b 0 (by omega) 0 rfl
  have x1 := index_at b 1 (by omega) 1 rfl
  unfold byteN at *
  rw [h0] at x0
  rw [h1] at x1
  clear h0 h1
  have HB := hid (LdAt.new w 0 0 false 0 0 ⟨#[]⟩)
  have HK := hid ((Kept.refl (fun _ => False) w).alloc (.cells #[.int .i64 0, .int .i64 0, .bool false, .int .i64 0, .int .i64 0, .string ⟨#[]⟩] 26))
  have j1 := mid_at b 8 (numAt b 2) (by omega) (by omega) 8 (numAt b 2 : Int) rfl rfl
  generalize b.extract 8 (numAt b 2) = X at *
  generalize numAt b 2 = N at *
  have e2 : ¬ (b.size : Int) < (N : Int) := by omega
  have e3 : ¬ (N : Int) < 8 := by omega
  have e4 : IntKind.i64.wrap ((N : Int) - 8) = (N : Int) - 8 := by rw [IntKind.wrap_i64]; omega
  have e5 : ¬ (1460 : Int) < (N : Int) - 8 := by omega
  clear h2 h3 h4 h8
  generalize numAt b 4 = N4 at *
  generalize numAt b 6 = N6 at *
  go_enter Tryz.func28, Tryz.ntmps28
  go_upto_region 1 with fail
  generalize w.alloc (.cells #[.int .i64 0, .int .i64 0, .bool false, .int .i64 0, .int .i64 0, .string ⟨#[]⟩] 26) = W0 at *
  go_wp2_with fail
  refine (HW.out _).mono ?_
  rintro e w1 ⟨rfl, hk1⟩
  have HK1 := hid (HK.out.trans hk1)
  have HB1 := hid (HB.out.kept hk1)
  clear hk1 HK HB HW
  go_upto_region 6 with fail
  go_cut [6] from 27 to 34 (fun v wx => ∃ bx, v = .pointer (some ⟨bx, 0, none⟩) ∧ LdAt wx bx (N4 : Int) (N6 : Int) false 0 0 ⟨#[]⟩ ∧ w1.heap.size ≤ bx ∧ Kept (fun _ => False) w1 wx)
  case first =>
    refine wp_region_held_drew (S := Kept (fun _ => False) w1) (by kernel_rfl) ((Kept.refl _ w1).drew) (fun hSd => ?_)
    refine Tks.out (l := [(0, some none), (2, some none), (4, some none), (5, some none), (6, some none)]) ?_
    iterate 5
     refine tkT (v := ?_) rfl (by kernel_rfl) (by kernel_rfl) (by kernel_rfl) (fun _ _ _ h => h) (Or.inl ⟨by kernel_rfl, fun W hSW => by go_simp; try with_reducible rfl⟩) (by assumption) ?_
     try simp only [List.getElem_toArray, List.getElem_cons_succ, List.getElem_cons_zero]
     try go_frame
    refine tkE ?_
    refine wpAnyH_ready (rs := [1, 8]) (by kernel_rfl) (by simp) ?_
    refine AllReadyH.cons rfl (fun K hK => ?_) (AllReadyH.cons rfl (fun K hK => ?_) AllReadyH.nil)
    · skip
      go_simp
      refine (HW4.out _).mono ?_
      rintro e v1 ⟨rfl, hk⟩
      have kv1 : Kept (fun _ => False) w1 v1 := hSd.trans hk
      clear hk
      refine hK.out _ _ (kv1) (fun _ => ?_)
      clear hK K
      try simp only [List.getElem_toArray, List.getElem_cons_succ, List.getElem_cons_zero]
      try go_frame
      refine wpAnyH_ready (rs := [3, 8]) (by kernel_rfl) (by simp) ?_
      refine AllReadyH.cons rfl (fun K hK => ?_) (AllReadyH.cons rfl (fun K hK => ?_) AllReadyH.nil)
      · skip
        go_simp
        refine (HW6.out _).mono ?_
        rintro e v2 ⟨rfl, hk⟩
        have kv2 : Kept (fun _ => False) w1 v2 := kv1.trans hk
        clear hk
        refine hK.out _ _ (kv2) (fun _ => ?_)
        clear hK K
        try simp only [List.getElem_toArray, List.getElem_cons_succ, List.getElem_cons_zero]
        try go_frame
        refine wpAnyH_take (i := 7) (v := ?_) rfl (by kernel_rfl) (by kernel_rfl) (by kernel_rfl) (fun _ _ _ h => h) (Or.inl ⟨by kernel_rfl, fun W hSW => by go_simp; try with_reducible rfl⟩) (by assumption) ?_
        try simp only [List.getElem_toArray, List.getElem_cons_succ, List.getElem_cons_zero]
        try go_frame
        refine wpAnyH_ready (rs := [8]) (by kernel_rfl) (by simp) ?_
        refine AllReadyH.cons rfl (fun K hK => ?_) AllReadyH.nil
        go_simp
        have kv3 : Kept (fun _ => False) w1 (World.alloc v2 (.cells #[.int .i64 0, .int .i64 0, .bool false, .int .i64 0, .int .i64 0, .string ⟨#[]⟩] 26)) := kv2.alloc _
        have bv3 : LdAt (World.alloc v2 (.cells #[.int .i64 0, .int .i64 0, .bool false, .int .i64 0, .int .i64 0, .string ⟨#[]⟩] 26)) v2.heap.size 0 0 false 0 0 ⟨#[]⟩ := LdAt.new v2 0 0 false 0 0 ⟨#[]⟩
        have lv3 : w1.heap.size ≤ v2.heap.size := kv2.size
        refine hK.out _ _ (kv3) (fun _ => ?_)
        clear hK K
        try simp only [List.getElem_toArray, List.getElem_cons_succ, List.getElem_cons_zero]
        try go_frame
        generalize World.alloc v2 (.cells #[.int .i64 0, .int .i64 0, .bool false, .int .i64 0, .int .i64 0, .string ⟨#[]⟩] 26) = v3 at *
        obtain ⟨wz, hrun, hld, hkz⟩ := store_ld bv3 (N4 : Int) (N6 : Int) false 0 0 ⟨#[]⟩
        have hSz : Kept (fun _ => False) w1 wz := kv3.andThen hkz (fun i hi e => by have := lv3; omega)
        refine wpAnyH_ready (rs := [9]) (by kernel_rfl) (by simp) ?_
        refine AllReadyH.cons rfl (fun K hK => ?_) AllReadyH.nil
        refine stepB_store rfl (.tmp 6) (.tmp 34) 26 rfl _ _ rfl rfl hrun ?_
        refine hK.out _ _ (hSz) (fun _ => ?_)
        clear hK K
        try simp only [List.getElem_toArray, List.getElem_cons_succ, List.getElem_cons_zero]
        try go_frame
        refine wpAnyH_done (by kernel_rfl) ?_ _
        clear hrun hkz
        go_wp2
        go_meet
        exact ⟨_, rfl, hld, lv3, hSz⟩
      · skip
        go_simp
        have kv4 : Kept (fun _ => False) w1 (World.alloc v1 (.cells #[.int .i64 0, .int .i64 0, .bool false, .int .i64 0, .int .i64 0, .string ⟨#[]⟩] 26)) := kv1.alloc _
        have bv4 : LdAt (World.alloc v1 (.cells #[.int .i64 0, .int .i64 0, .bool false, .int .i64 0, .int .i64 0, .string ⟨#[]⟩] 26)) v1.heap.size 0 0 false 0 0 ⟨#[]⟩ := LdAt.new v1 0 0 false 0 0 ⟨#[]⟩
        have lv4 : w1.heap.size ≤ v1.heap.size := kv1.size
        refine hK.out _ _ (kv4) (fun _ => ?_)
        clear hK K
        try simp only [List.getElem_toArray, List.getElem_cons_succ, List.getElem_cons_zero]
        try go_frame
        generalize World.alloc v1 (.cells #[.int .i64 0, .int .i64 0, .bool false, .int .i64 0, .int .i64 0, .string ⟨#[]⟩] 26) = v4 at *
        generalize v1.heap.size = g1 at *
        refine wpAnyH_ready (rs := [3]) (by kernel_rfl) (by simp) ?_
        refine AllReadyH.cons rfl (fun K hK => ?_) AllReadyH.nil
        go_simp
        refine (HW6.out _).mono ?_
        rintro e v5 ⟨rfl, hk⟩
        have kv5 : Kept (fun _ => False) w1 v5 := kv4.trans hk
        have bv5 := bv4.kept hk
        clear hk
        refine hK.out _ _ (kv5) (fun _ => ?_)
        clear hK K
        try simp only [List.getElem_toArray, List.getElem_cons_succ, List.getElem_cons_zero]
        try go_frame
        refine wpAnyH_take (i := 7) (v := ?_) rfl (by kernel_rfl) (by kernel_rfl) (by kernel_rfl) (fun _ _ _ h => h) (Or.inl ⟨by kernel_rfl, fun W hSW => by go_simp; try with_reducible rfl⟩) (by assumption) ?_
        try simp only [List.getElem_toArray, List.getElem_cons_succ, List.getElem_cons_zero]
        try go_frame
        obtain ⟨wz, hrun, hld, hkz⟩ := store_ld bv5 (N4 : Int) (N6 : Int) false 0 0 ⟨#[]⟩
        have hSz : Kept (fun _ => False) w1 wz := kv5.andThen hkz (fun i hi e => by have := lv4; omega)
        refine wpAnyH_ready (rs := [9]) (by kernel_rfl) (by simp) ?_
        refine AllReadyH.cons rfl (fun K hK => ?_) AllReadyH.nil
        refine stepB_store rfl (.tmp 6) (.tmp 34) 26 rfl _ _ rfl rfl hrun ?_
        refine hK.out _ _ (hSz) (fun _ => ?_)
        clear hK K
        try simp only [List.getElem_toArray, List.getElem_cons_succ, List.getElem_cons_zero]
        try go_frame
        refine wpAnyH_done (by kernel_rfl) ?_ _
        clear hrun hkz
        go_wp2
        go_meet
        exact ⟨_, rfl, hld, lv4, hSz⟩
    · skip
      go_simp
      have kv6 : Kept (fun _ => False) w1 (World.alloc w1 (.cells #[.int .i64 0, .int .i64 0, .bool false, .int .i64 0, .int .i64 0, .string ⟨#[]⟩] 26)).drew := ((Kept.refl (fun _ => False) w1).alloc _).drew
      have bv6 : LdAt (World.alloc w1 (.cells #[.int .i64 0, .int .i64 0, .bool false, .int .i64 0, .int .i64 0, .string ⟨#[]⟩] 26)).drew w1.heap.size 0 0 false 0 0 ⟨#[]⟩ := (LdAt.new w1 0 0 false 0 0 ⟨#[]⟩).kept (Kept.refl _ _).drew
      have lv6 : w1.heap.size ≤ w1.heap.size := Nat.le_refl _
      refine hK.out _ _ (kv6) (fun _ => ?_)
      clear hK K
      try simp only [List.getElem_toArray, List.getElem_cons_succ, List.getElem_cons_zero]
      try go_frame
      generalize (World.alloc w1 (.cells #[.int .i64 0, .int .i64 0, .bool false, .int .i64 0, .int .i64 0, .string ⟨#[]⟩] 26)).drew = v6 at *
      refine wpAnyH_ready (rs := [1]) (by kernel_rfl) (by simp) ?_
      refine AllReadyH.cons rfl (fun K hK => ?_) AllReadyH.nil
      go_simp
      refine (HW4.out _).mono ?_
      rintro e v7 ⟨rfl, hk⟩
      have kv7 : Kept (fun _ => False) w1 v7 := kv6.trans hk
      have bv7 := bv6.kept hk
      clear hk
      refine hK.out _ _ (kv7) (fun _ => ?_)
      clear hK K
      try simp only [List.getElem_toArray, List.getElem_cons_succ, List.getElem_cons_zero]
      try go_frame
      refine wpAnyH_ready (rs := [3]) (by kernel_rfl) (by simp) ?_
      refine AllReadyH.cons rfl (fun K hK => ?_) AllReadyH.nil
      go_simp
      refine (HW6.out _).mono ?_
      rintro e v8 ⟨rfl, hk⟩
      have kv8 : Kept (fun _ => False) w1 v8 := kv7.trans hk
      have bv8 := bv7.kept hk
      clear hk
      refine hK.out _ _ (kv8) (fun _ => ?_)
      clear hK K
      try simp only [List.getElem_toArray, List.getElem_cons_succ, List.getElem_cons_zero]
      try go_frame
      refine wpAnyH_take (i := 7) (v := ?_) rfl (by kernel_rfl) (by kernel_rfl) (by kernel_rfl) (fun _ _ _ h => h) (Or.inl ⟨by kernel_rfl, fun W hSW => by go_simp; try with_reducible rfl⟩) (by assumption) ?_
      try simp only [List.getElem_toArray, List.getElem_cons_succ, List.getElem_cons_zero]
      try go_frame
      obtain ⟨wz, hrun, hld, hkz⟩ := store_ld bv8 (N4 : Int) (N6 : Int) false 0 0 ⟨#[]⟩
      have hSz : Kept (fun _ => False) w1 wz := kv8.andThen hkz (fun i hi e => by have := lv6; omega)
      refine wpAnyH_ready (rs := [9]) (by kernel_rfl) (by simp) ?_
      refine AllReadyH.cons rfl (fun K hK => ?_) AllReadyH.nil
      refine stepB_store rfl (.tmp 6) (.tmp 34) 26 rfl _ _ rfl rfl hrun ?_
      refine hK.out _ _ (hSz) (fun _ => ?_)
      clear hK K
      try simp only [List.getElem_toArray, List.getElem_cons_succ, List.getElem_cons_zero]
      try go_frame
      refine wpAnyH_done (by kernel_rfl) ?_ _
      clear hrun hkz
      go_wp2
      go_meet
      exact ⟨_, rfl, hld, lv6, hSz⟩
  obtain ⟨bx, rfl, hld, hbx, hkx⟩ := hcut
  have HL := hid hld
  have HKx := hid (HK1.out.trans hkx)
  have HBx := hid (HB1.out.kept hkx)
  have HGb := hid (Nat.le_trans HK1.out.size hbx)
  have HNe := hid (show w.heap.size ≠ bx from by have := HB1.out.lt; omega)
  clear hld hkx hbx HB1 HK1 HW4 HW6
  obtain ⟨y0, y1, y2, y3, y4, y5⟩ := HL.out.cells
  have k5 := (HL.out).soft 5
  go_upto_region 18 with fail
  have HL10 := hid (LdAt.set5 HL.out X)
  have HB10 := hid ((HBx.out).far HNe.out 5 (.string X))
  have HK10 := hid ((HKx.out).setCell (p := ⟨bx, 5, none⟩) (Or.inl HGb.out) (.string X))
  generalize World.setCell _ ⟨bx, 5, none⟩ (.string X) = W10 at *
  clear y0 y1 y2 y3 y4 y5 k5
  obtain ⟨y0, y1, y2, y3, y4, y5⟩ := HL10.out.cells
  obtain ⟨z0, z1, z2, z3, z4, z5⟩ := (HB10.out).cells
  have f0 := (HB10.out).soft 0
  have f1 := (HB10.out).soft 1
  have f2 := (HB10.out).soft 2
  have f3 := (HB10.out).soft 3
  have f4 := (HB10.out).soft 4
  have f5 := (HB10.out).soft 5
  go_wp2
  refine bodyPost_ret (v := .tuple #[.agg #[.int .i64 (N4 : Int), .int .i64 (N6 : Int), .bool false, .int .i64 0, .int .i64 0, .string X], .int .i64 0]) (by simp [results, Tryz.results28, go_sem, z0, z1, z2, z3, z4, z5]) rfl ⟨rfl, ?_⟩
  exact ((((((HK10.out).setCell (Or.inl (Nat.le_refl _)) _).setCell (Or.inl (Nat.le_refl _)) _).setCell (Or.inl (Nat.le_refl _)) _).setCell (Or.inl (Nat.le_refl _)) _).setCell (Or.inl (Nat.le_refl _)) _).setCell (Or.inl (Nat.le_refl _)) _

set_option maxHeartbeats 8000000 in
set_option maxRecDepth 100000 in
theorem rGetL_long12 (b : ByteArray) (hb : b.size ≤ 140737488351232) (h8 : 8 ≤ b.size) (h0 : byteN b 0 = 72) (h1 : byteN b 1 = 2) (h2 : b.size < numAt b 2) (w : World) :
    Calls Tryz.prog 28 #[.string b] w fun e w' => e = .returned (.tuple #[.agg #[.int .i64 0, .int .i64 0, .bool false, .int .i64 0, .int .i64 0, .string ⟨#[]⟩], .int .i64 5]) ∧ Kept (fun _ => False) w w' := by
  have hz : ¬ (b.size : Int) < 8 := by omega
  have HW := hid (fun W => refNumA b hb 2 (by omega) W)
  have HW4 := hid (fun W => refNumA b hb 4 (by omega) W)
  have HW6 := hid (fun W => refNumA b hb 6 (by omega) W)
  have x0 := index_at b 0 (by omega) 0 rfl
  have x1 := index_at b 1 (by omega) 1 rfl
  unfold byteN at *
  rw [h0] at x0
  rw [h1] at x1
  clear h0 h1
  have HB := hid (LdAt.new w 0 0 false 0 0 ⟨#[]⟩)
  have HK := hid ((Kept.refl (fun _ => False) w).alloc (.cells #[.int .i64 0, .int .i64 0, .bool false, .int .i64 0, .int .i64 0, .string ⟨#[]⟩] 26))
  generalize numAt b 2 = N at *
  have e2 : (b.size : Int) < (N : Int) := by omega
  clear h2 h8
  generalize numAt b 4 = N4 at *
  generalize numAt b 6 = N6 at *
  go_enter Tryz.func28, Tryz.ntmps28
  go_upto_region 1 with fail
  generalize w.alloc (.cells #[.int .i64 0, .int .i64 0, .bool false, .int .i64 0, .int .i64 0, .string ⟨#[]⟩] 26) = W0 at *
  go_wp2_with fail
  refine (HW.out _).mono ?_
  rintro e w1 ⟨rfl, hk1⟩
  have HK1 := hid (HK.out.trans hk1)
  have HB1 := hid (HB.out.kept hk1)
  clear hk1 HK HB HW
  go_upto_region 6 with fail
  go_cut [6] from 27 to 34 (fun v wx => ∃ bx, v = .pointer (some ⟨bx, 0, none⟩) ∧ LdAt wx bx (N4 : Int) (N6 : Int) true 0 0 ⟨#[]⟩ ∧ w1.heap.size ≤ bx ∧ Kept (fun _ => False) w1 wx)
  case first =>
    refine wp_region_held_drew (S := Kept (fun _ => False) w1) (by kernel_rfl) ((Kept.refl _ w1).drew) (fun hSd => ?_)
    refine Tks.out (l := [(0, some none), (2, some none), (4, some none), (5, some none), (6, some none)]) ?_
    iterate 5
     refine tkT (v := ?_) rfl (by kernel_rfl) (by kernel_rfl) (by kernel_rfl) (fun _ _ _ h => h) (Or.inl ⟨by kernel_rfl, fun W hSW => by go_simp; try with_reducible rfl⟩) (by assumption) ?_
     try simp only [List.getElem_toArray, List.getElem_cons_succ, List.getElem_cons_zero]
     try go_frame
    refine tkE ?_
    refine wpAnyH_ready (rs := [1, 8]) (by kernel_rfl) (by simp) ?_
    refine AllReadyH.cons rfl (fun K hK => ?_) (AllReadyH.cons rfl (fun K hK => ?_) AllReadyH.nil)
    · skip
      go_simp
      refine (HW4.out _).mono ?_
      rintro e v1 ⟨rfl, hk⟩
      have kv1 : Kept (fun _ => False) w1 v1 := hSd.trans hk
      clear hk
      refine hK.out _ _ (kv1) (fun _ => ?_)
      clear hK K
      try simp only [List.getElem_toArray, List.getElem_cons_succ, List.getElem_cons_zero]
      try go_frame
      refine wpAnyH_ready (rs := [3, 8]) (by kernel_rfl) (by simp) ?_
      refine AllReadyH.cons rfl (fun K hK => ?_) (AllReadyH.cons rfl (fun K hK => ?_) AllReadyH.nil)
      · skip
        go_simp
        refine (HW6.out _).mono ?_
        rintro e v2 ⟨rfl, hk⟩
        have kv2 : Kept (fun _ => False) w1 v2 := kv1.trans hk
        clear hk
        refine hK.out _ _ (kv2) (fun _ => ?_)
        clear hK K
        try simp only [List.getElem_toArray, List.getElem_cons_succ, List.getElem_cons_zero]
        try go_frame
        refine wpAnyH_take (i := 7) (v := ?_) rfl (by kernel_rfl) (by kernel_rfl) (by kernel_rfl) (fun _ _ _ h => h) (Or.inl ⟨by kernel_rfl, fun W hSW => by go_simp; try with_reducible rfl⟩) (by assumption) ?_
        try simp only [List.getElem_toArray, List.getElem_cons_succ, List.getElem_cons_zero]
        try go_frame
        refine wpAnyH_ready (rs := [8]) (by kernel_rfl) (by simp) ?_
        refine AllReadyH.cons rfl (fun K hK => ?_) AllReadyH.nil
        go_simp
        have kv3 : Kept (fun _ => False) w1 (World.alloc v2 (.cells #[.int .i64 0, .int .i64 0, .bool false, .int .i64 0, .int .i64 0, .string ⟨#[]⟩] 26)) := kv2.alloc _
        have bv3 : LdAt (World.alloc v2 (.cells #[.int .i64 0, .int .i64 0, .bool false, .int .i64 0, .int .i64 0, .string ⟨#[]⟩] 26)) v2.heap.size 0 0 false 0 0 ⟨#[]⟩ := LdAt.new v2 0 0 false 0 0 ⟨#[]⟩
        have lv3 : w1.heap.size ≤ v2.heap.size := kv2.size
        refine hK.out _ _ (kv3) (fun _ => ?_)
        clear hK K
        try simp only [List.getElem_toArray, List.getElem_cons_succ, List.getElem_cons_zero]
        try go_frame
        generalize World.alloc v2 (.cells #[.int .i64 0, .int .i64 0, .bool false, .int .i64 0, .int .i64 0, .string ⟨#[]⟩] 26) = v3 at *
        obtain ⟨wz, hrun, hld, hkz⟩ := store_ld bv3 (N4 : Int) (N6 : Int) true 0 0 ⟨#[]⟩
        have hSz : Kept (fun _ => False) w1 wz := kv3.andThen hkz (fun i hi e => by have := lv3; omega)
        refine wpAnyH_ready (rs := [9]) (by kernel_rfl) (by simp) ?_
        refine AllReadyH.cons rfl (fun K hK => ?_) AllReadyH.nil
        refine stepB_store rfl (.tmp 6) (.tmp 34) 26 rfl _ _ rfl rfl hrun ?_
        refine hK.out _ _ (hSz) (fun _ => ?_)
        clear hK K
        try simp only [List.getElem_toArray, List.getElem_cons_succ, List.getElem_cons_zero]
        try go_frame
        refine wpAnyH_done (by kernel_rfl) ?_ _
        clear hrun hkz
        go_wp2
        go_meet
        exact ⟨_, rfl, hld, lv3, hSz⟩
      · skip
        go_simp
        have kv4 : Kept (fun _ => False) w1 (World.alloc v1 (.cells #[.int .i64 0, .int .i64 0, .bool false, .int .i64 0, .int .i64 0, .string ⟨#[]⟩] 26)) := kv1.alloc _
        have bv4 : LdAt (World.alloc v1 (.cells #[.int .i64 0, .int .i64 0, .bool false, .int .i64 0, .int .i64 0, .string ⟨#[]⟩] 26)) v1.heap.size 0 0 false 0 0 ⟨#[]⟩ := LdAt.new v1 0 0 false 0 0 ⟨#[]⟩
        have lv4 : w1.heap.size ≤ v1.heap.size := kv1.size
        refine hK.out _ _ (kv4) (fun _ => ?_)
        clear hK K
        try simp only [List.getElem_toArray, List.getElem_cons_succ, List.getElem_cons_zero]
        try go_frame
        generalize World.alloc v1 (.cells #[.int .i64 0, .int .i64 0, .bool false, .int .i64 0, .int .i64 0, .string ⟨#[]⟩] 26) = v4 at *
        generalize v1.heap.size = g1 at *
        refine wpAnyH_ready (rs := [3]) (by kernel_rfl) (by simp) ?_
        refine AllReadyH.cons rfl (fun K hK => ?_) AllReadyH.nil
        go_simp
        refine (HW6.out _).mono ?_
        rintro e v5 ⟨rfl, hk⟩
        have kv5 : Kept (fun _ => False) w1 v5 := kv4.trans hk
        have bv5 := bv4.kept hk
        clear hk
        refine hK.out _ _ (kv5) (fun _ => ?_)
        clear hK K
        try simp only [List.getElem_toArray, List.getElem_cons_succ, List.getElem_cons_zero]
        try go_frame
        refine wpAnyH_take (i := 7) (v := ?_) rfl (by kernel_rfl) (by kernel_rfl) (by kernel_rfl) (fun _ _ _ h => h) (Or.inl ⟨by kernel_rfl, fun W hSW => by go_simp; try with_reducible rfl⟩) (by assumption) ?_
        try simp only [List.getElem_toArray, List.getElem_cons_succ, List.getElem_cons_zero]
        try go_frame
        obtain ⟨wz, hrun, hld, hkz⟩ := store_ld bv5 (N4 : Int) (N6 : Int) true 0 0 ⟨#[]⟩
        have hSz : Kept (fun _ => False) w1 wz := kv5.andThen hkz (fun i hi e => by have := lv4; omega)
        refine wpAnyH_ready (rs := [9]) (by kernel_rfl) (by simp) ?_
        refine AllReadyH.cons rfl (fun K hK => ?_) AllReadyH.nil
        refine stepB_store rfl (.tmp 6) (.tmp 34) 26 rfl _ _ rfl rfl hrun ?_
        refine hK.out _ _ (hSz) (fun _ => ?_)
        clear hK K
        try simp only [List.getElem_toArray, List.getElem_cons_succ, List.getElem_cons_zero]
        try go_frame
        refine wpAnyH_done (by kernel_rfl) ?_ _
        clear hrun hkz
        go_wp2
        go_meet
        exact ⟨_, rfl, hld, lv4, hSz⟩
    · skip
      go_simp
      have kv6 : Kept (fun _ => False) w1 (World.alloc w1 (.cells #[.int .i64 0, .int .i64 0, .bool false, .int .i64 0, .int .i64 0, .string ⟨#[]⟩] 26)).drew := ((Kept.refl (fun _ => False) w1).alloc _).drew
      have bv6 : LdAt (World.alloc w1 (.cells #[.int .i64 0, .int .i64 0, .bool false, .int .i64 0, .int .i64 0, .string ⟨#[]⟩] 26)).drew w1.heap.size 0 0 false 0 0 ⟨#[]⟩ := (LdAt.new w1 0 0 false 0 0 ⟨#[]⟩).kept (Kept.refl _ _).drew
      have lv6 : w1.heap.size ≤ w1.heap.size := Nat.le_refl _
      refine hK.out _ _ (kv6) (fun _ => ?_)
      clear hK K
      try simp only [List.getElem_toArray, List.getElem_cons_succ, List.getElem_cons_zero]
      try go_frame
      generalize (World.alloc w1 (.cells #[.int .i64 0, .int .i64 0, .bool false, .int .i64 0, .int .i64 0, .string ⟨#[]⟩] 26)).drew = v6 at *
      refine wpAnyH_ready (rs := [1]) (by kernel_rfl) (by simp) ?_
      refine AllReadyH.cons rfl (fun K hK => ?_) AllReadyH.nil
      go_simp
      refine (HW4.out _).mono ?_
      rintro e v7 ⟨rfl, hk⟩
      have kv7 : Kept (fun _ => False) w1 v7 := kv6.trans hk
      have bv7 := bv6.kept hk
      clear hk
      refine hK.out _ _ (kv7) (fun _ => ?_)
      clear hK K
      try simp only [List.getElem_toArray, List.getElem_cons_succ, List.getElem_cons_zero]
      try go_frame
      refine wpAnyH_ready (rs := [3]) (by kernel_rfl) (by simp) ?_
      refine AllReadyH.cons rfl (fun K hK => ?_) AllReadyH.nil
      go_simp
      refine (HW6.out _).mono ?_
      rintro e v8 ⟨rfl, hk⟩
      have kv8 : Kept (fun _ => False) w1 v8 := kv7.trans hk
      have bv8 := bv7.kept hk
      clear hk
      refine hK.out _ _ (kv8) (fun _ => ?_)
      clear hK K
      try simp only [List.getElem_toArray, List.getElem_cons_succ, List.getElem_cons_zero]
      try go_frame
      refine wpAnyH_take (i := 7) (v := ?_) rfl (by kernel_rfl) (by kernel_rfl) (by kernel_rfl) (fun _ _ _ h => h) (Or.inl ⟨by kernel_rfl, fun W hSW => by go_simp; try with_reducible rfl⟩) (by assumption) ?_
      try simp only [List.getElem_toArray, List.getElem_cons_succ, List.getElem_cons_zero]
      try go_frame
      obtain ⟨wz, hrun, hld, hkz⟩ := store_ld bv8 (N4 : Int) (N6 : Int) true 0 0 ⟨#[]⟩
      have hSz : Kept (fun _ => False) w1 wz := kv8.andThen hkz (fun i hi e => by have := lv6; omega)
      refine wpAnyH_ready (rs := [9]) (by kernel_rfl) (by simp) ?_
      refine AllReadyH.cons rfl (fun K hK => ?_) AllReadyH.nil
      refine stepB_store rfl (.tmp 6) (.tmp 34) 26 rfl _ _ rfl rfl hrun ?_
      refine hK.out _ _ (hSz) (fun _ => ?_)
      clear hK K
      try simp only [List.getElem_toArray, List.getElem_cons_succ, List.getElem_cons_zero]
      try go_frame
      refine wpAnyH_done (by kernel_rfl) ?_ _
      clear hrun hkz
      go_wp2
      go_meet
      exact ⟨_, rfl, hld, lv6, hSz⟩
  obtain ⟨bx, rfl, hld, hbx, hkx⟩ := hcut
  have HL := hid hld
  have HKx := hid (HK1.out.trans hkx)
  have HBx := hid (HB1.out.kept hkx)
  have HGb := hid (Nat.le_trans HK1.out.size hbx)
  have HNe := hid (show w.heap.size ≠ bx from by have := HB1.out.lt; omega)
  clear hld hkx hbx HB1 HK1 HW4 HW6
  obtain ⟨y0, y1, y2, y3, y4, y5⟩ := HL.out.cells
  obtain ⟨z0, z1, z2, z3, z4, z5⟩ := (HBx.out).cells
  have f0 := (HBx.out).soft 0
  have f1 := (HBx.out).soft 1
  have f2 := (HBx.out).soft 2
  have f3 := (HBx.out).soft 3
  have f4 := (HBx.out).soft 4
  have f5 := (HBx.out).soft 5
  go_wp2
  refine bodyPost_ret (v := .tuple #[.agg #[.int .i64 0, .int .i64 0, .bool false, .int .i64 0, .int .i64 0, .string ⟨#[]⟩], .int .i64 5]) (by simp [results, Tryz.results28, go_sem, z0, z1, z2, z3, z4, z5]) rfl ⟨rfl, ?_⟩
  exact ((((((HKx.out).setCell (Or.inl (Nat.le_refl _)) _).setCell (Or.inl (Nat.le_refl _)) _).setCell (Or.inl (Nat.le_refl _)) _).setCell (Or.inl (Nat.le_refl _)) _).setCell (Or.inl (Nat.le_refl _)) _).setCell (Or.inl (Nat.le_refl _)) _

set_option maxHeartbeats 8000000 in
set_option maxRecDepth 100000 in
theorem rGetL_less12 (b : ByteArray) (hb : b.size ≤ 140737488351232) (h8 : 8 ≤ b.size) (h0 : byteN b 0 = 72) (h1 : byteN b 1 = 2) (h2 : ¬ b.size < numAt b 2) (h3 : numAt b 2 < 12) (w : World) :
    Calls Tryz.prog 28 #[.string b] w fun e w' => e = .returned (.tuple #[.agg #[.int .i64 0, .int .i64 0, .bool false, .int .i64 0, .int .i64 0, .string ⟨#[]⟩], .int .i64 4]) ∧ Kept (fun _ => False) w w' := by
  have hz : ¬ (b.size : Int) < 8 := by omega
  have HW := hid (fun W => refNumA b hb 2 (by omega) W)
  have HW4 := hid (fun W => refNumA b hb 4 (by omega) W)
  have HW6 := hid (fun W => refNumA b hb 6 (by omega) W)
  have x0 := index_at b 0 (by omega) 0 rfl
  have x1 := index_at b 1 (by omega) 1 rfl
  unfold byteN at *
  rw [h0] at x0
  rw [h1] at x1
  clear h0 h1
  have HB := hid (LdAt.new w 0 0 false 0 0 ⟨#[]⟩)
  have HK := hid ((Kept.refl (fun _ => False) w).alloc (.cells #[.int .i64 0, .int .i64 0, .bool false, .int .i64 0, .int .i64 0, .string ⟨#[]⟩] 26))
  generalize numAt b 2 = N at *
  have e2 : ¬ (b.size : Int) < (N : Int) := by omega
  have e3 : (N : Int) < 12 := by omega
  clear h2 h3 h8
  generalize numAt b 4 = N4 at *
  generalize numAt b 6 = N6 at *
  go_enter Tryz.func28, Tryz.ntmps28
  go_upto_region 1 with fail
  generalize w.alloc (.cells #[.int .i64 0, .int .i64 0, .bool false, .int .i64 0, .int .i64 0, .string ⟨#[]⟩] 26) = W0 at *
  go_wp2_with fail
  refine (HW.out _).mono ?_
  rintro e w1 ⟨rfl, hk1⟩
  have HK1 := hid (HK.out.trans hk1)
  have HB1 := hid (HB.out.kept hk1)
  clear hk1 HK HB HW
  go_upto_region 6 with fail
  go_cut [6] from 27 to 34 (fun v wx => ∃ bx, v = .pointer (some ⟨bx, 0, none⟩) ∧ LdAt wx bx (N4 : Int) (N6 : Int) true 0 0 ⟨#[]⟩ ∧ w1.heap.size ≤ bx ∧ Kept (fun _ => False) w1 wx)
  case first =>
    refine wp_region_held_drew (S := Kept (fun _ => False) w1) (by kernel_rfl) ((Kept.refl _ w1).drew) (fun hSd => ?_)
    refine Tks.out (l := [(0, some none), (2, some none), (4, some none), (5, some none), (6, some none)]) ?_
    iterate 5
     refine tkT (v := ?_) rfl (by kernel_rfl) (by kernel_rfl) (by kernel_rfl) (fun _ _ _ h => h) (Or.inl ⟨by kernel_rfl, fun W hSW => by go_simp; try with_reducible rfl⟩) (by assumption) ?_
     try simp only [List.getElem_toArray, List.getElem_cons_succ, List.getElem_cons_zero]
     try go_frame
    refine tkE ?_
    refine wpAnyH_ready (rs := [1, 8]) (by kernel_rfl) (by simp) ?_
    refine AllReadyH.cons rfl (fun K hK => ?_) (AllReadyH.cons rfl (fun K hK => ?_) AllReadyH.nil)
    · skip
      go_simp
      refine (HW4.out _).mono ?_
      rintro e v1 ⟨rfl, hk⟩
      have kv1 : Kept (fun _ => False) w1 v1 := hSd.trans hk
      clear hk
      refine hK.out _ _ (kv1) (fun _ => ?_)
      clear hK K
      try simp only [List.getElem_toArray, List.getElem_cons_succ, List.getElem_cons_zero]
      try go_frame
      refine wpAnyH_ready (rs := [3, 8]) (by kernel_rfl) (by simp) ?_
      refine AllReadyH.cons rfl (fun K hK => ?_) (AllReadyH.cons rfl (fun K hK => ?_) AllReadyH.nil)
      · skip
        go_simp
        refine (HW6.out _).mono ?_
        rintro e v2 ⟨rfl, hk⟩
        have kv2 : Kept (fun _ => False) w1 v2 := kv1.trans hk
        clear hk
        refine hK.out _ _ (kv2) (fun _ => ?_)
        clear hK K
        try simp only [List.getElem_toArray, List.getElem_cons_succ, List.getElem_cons_zero]
        try go_frame
        refine wpAnyH_take (i := 7) (v := ?_) rfl (by kernel_rfl) (by kernel_rfl) (by kernel_rfl) (fun _ _ _ h => h) (Or.inl ⟨by kernel_rfl, fun W hSW => by go_simp; try with_reducible rfl⟩) (by assumption) ?_
        try simp only [List.getElem_toArray, List.getElem_cons_succ, List.getElem_cons_zero]
        try go_frame
        refine wpAnyH_ready (rs := [8]) (by kernel_rfl) (by simp) ?_
        refine AllReadyH.cons rfl (fun K hK => ?_) AllReadyH.nil
        go_simp
        have kv3 : Kept (fun _ => False) w1 (World.alloc v2 (.cells #[.int .i64 0, .int .i64 0, .bool false, .int .i64 0, .int .i64 0, .string ⟨#[]⟩] 26)) := kv2.alloc _
        have bv3 : LdAt (World.alloc v2 (.cells #[.int .i64 0, .int .i64 0, .bool false, .int .i64 0, .int .i64 0, .string ⟨#[]⟩] 26)) v2.heap.size 0 0 false 0 0 ⟨#[]⟩ := LdAt.new v2 0 0 false 0 0 ⟨#[]⟩
        have lv3 : w1.heap.size ≤ v2.heap.size := kv2.size
        refine hK.out _ _ (kv3) (fun _ => ?_)
        clear hK K
        try simp only [List.getElem_toArray, List.getElem_cons_succ, List.getElem_cons_zero]
        try go_frame
        generalize World.alloc v2 (.cells #[.int .i64 0, .int .i64 0, .bool false, .int .i64 0, .int .i64 0, .string ⟨#[]⟩] 26) = v3 at *
        obtain ⟨wz, hrun, hld, hkz⟩ := store_ld bv3 (N4 : Int) (N6 : Int) true 0 0 ⟨#[]⟩
        have hSz : Kept (fun _ => False) w1 wz := kv3.andThen hkz (fun i hi e => by have := lv3; omega)
        refine wpAnyH_ready (rs := [9]) (by kernel_rfl) (by simp) ?_
        refine AllReadyH.cons rfl (fun K hK => ?_) AllReadyH.nil
        refine stepB_store rfl (.tmp 6) (.tmp 34) 26 rfl _ _ rfl rfl hrun ?_
        refine hK.out _ _ (hSz) (fun _ => ?_)
        clear hK K
        try simp only [List.getElem_toArray, List.getElem_cons_succ, List.getElem_cons_zero]
        try go_frame
        refine wpAnyH_done (by kernel_rfl) ?_ _
        clear hrun hkz
        go_wp2
        go_meet
        exact ⟨_, rfl, hld, lv3, hSz⟩
      · skip
        go_simp
        have kv4 : Kept (fun _ => False) w1 (World.alloc v1 (.cells #[.int .i64 0, .int .i64 0, .bool false, .int .i64 0, .int .i64 0, .string ⟨#[]⟩] 26)) := kv1.alloc _
        have bv4 : LdAt (World.alloc v1 (.cells #[.int .i64 0, .int .i64 0, .bool false, .int .i64 0, .int .i64 0, .string ⟨#[]⟩] 26)) v1.heap.size 0 0 false 0 0 ⟨#[]⟩ := LdAt.new v1 0 0 false 0 0 ⟨#[]⟩
        have lv4 : w1.heap.size ≤ v1.heap.size := kv1.size
        refine hK.out _ _ (kv4) (fun _ => ?_)
        clear hK K
        try simp only [List.getElem_toArray, List.getElem_cons_succ, List.getElem_cons_zero]
        try go_frame
        generalize World.alloc v1 (.cells #[.int .i64 0, .int .i64 0, .bool false, .int .i64 0, .int .i64 0, .string ⟨#[]⟩] 26) = v4 at *
        generalize v1.heap.size = g1 at *
        refine wpAnyH_ready (rs := [3]) (by kernel_rfl) (by simp) ?_
        refine AllReadyH.cons rfl (fun K hK => ?_) AllReadyH.nil
        go_simp
        refine (HW6.out _).mono ?_
        rintro e v5 ⟨rfl, hk⟩
        have kv5 : Kept (fun _ => False) w1 v5 := kv4.trans hk
        have bv5 := bv4.kept hk
        clear hk
        refine hK.out _ _ (kv5) (fun _ => ?_)
        clear hK K
        try simp only [List.getElem_toArray, List.getElem_cons_succ, List.getElem_cons_zero]
        try go_frame
        refine wpAnyH_take (i := 7) (v := ?_) rfl (by kernel_rfl) (by kernel_rfl) (by kernel_rfl) (fun _ _ _ h => h) (Or.inl ⟨by kernel_rfl, fun W hSW => by go_simp; try with_reducible rfl⟩) (by assumption) ?_
        try simp only [List.getElem_toArray, List.getElem_cons_succ, List.getElem_cons_zero]
        try go_frame
        obtain ⟨wz, hrun, hld, hkz⟩ := store_ld bv5 (N4 : Int) (N6 : Int) true 0 0 ⟨#[]⟩
        have hSz : Kept (fun _ => False) w1 wz := kv5.andThen hkz (fun i hi e => by have := lv4; omega)
        refine wpAnyH_ready (rs := [9]) (by kernel_rfl) (by simp) ?_
        refine AllReadyH.cons rfl (fun K hK => ?_) AllReadyH.nil
        refine stepB_store rfl (.tmp 6) (.tmp 34) 26 rfl _ _ rfl rfl hrun ?_
        refine hK.out _ _ (hSz) (fun _ => ?_)
        clear hK K
        try simp only [List.getElem_toArray, List.getElem_cons_succ, List.getElem_cons_zero]
        try go_frame
        refine wpAnyH_done (by kernel_rfl) ?_ _
        clear hrun hkz
        go_wp2
        go_meet
        exact ⟨_, rfl, hld, lv4, hSz⟩
    · skip
      go_simp
      have kv6 : Kept (fun _ => False) w1 (World.alloc w1 (.cells #[.int .i64 0, .int .i64 0, .bool false, .int .i64 0, .int .i64 0, .string ⟨#[]⟩] 26)).drew := ((Kept.refl (fun _ => False) w1).alloc _).drew
      have bv6 : LdAt (World.alloc w1 (.cells #[.int .i64 0, .int .i64 0, .bool false, .int .i64 0, .int .i64 0, .string ⟨#[]⟩] 26)).drew w1.heap.size 0 0 false 0 0 ⟨#[]⟩ := (LdAt.new w1 0 0 false 0 0 ⟨#[]⟩).kept (Kept.refl _ _).drew
      have lv6 : w1.heap.size ≤ w1.heap.size := Nat.le_refl _
      refine hK.out _ _ (kv6) (fun _ => ?_)
      clear hK K
      try simp only [List.getElem_toArray, List.getElem_cons_succ, List.getElem_cons_zero]
      try go_frame
      generalize (World.alloc w1 (.cells #[.int .i64 0, .int .i64 0, .bool false, .int .i64 0, .int .i64 0, .string ⟨#[]⟩] 26)).drew = v6 at *
      refine wpAnyH_ready (rs := [1]) (by kernel_rfl) (by simp) ?_
      refine AllReadyH.cons rfl (fun K hK => ?_) AllReadyH.nil
      go_simp
      refine (HW4.out _).mono ?_
      rintro e v7 ⟨rfl, hk⟩
      have kv7 : Kept (fun _ => False) w1 v7 := kv6.trans hk
      have bv7 := bv6.kept hk
      clear hk
      refine hK.out _ _ (kv7) (fun _ => ?_)
      clear hK K
      try simp only [List.getElem_toArray, List.getElem_cons_succ, List.getElem_cons_zero]
      try go_frame
      refine wpAnyH_ready (rs := [3]) (by kernel_rfl) (by simp) ?_
      refine AllReadyH.cons rfl (fun K hK => ?_) AllReadyH.nil
      go_simp
      refine (HW6.out _).mono ?_
      rintro e v8 ⟨rfl, hk⟩
      have kv8 : Kept (fun _ => False) w1 v8 := kv7.trans hk
      have bv8 := bv7.kept hk
      clear hk
      refine hK.out _ _ (kv8) (fun _ => ?_)
      clear hK K
      try simp only [List.getElem_toArray, List.getElem_cons_succ, List.getElem_cons_zero]
      try go_frame
      refine wpAnyH_take (i := 7) (v := ?_) rfl (by kernel_rfl) (by kernel_rfl) (by kernel_rfl) (fun _ _ _ h => h) (Or.inl ⟨by kernel_rfl, fun W hSW => by go_simp; try with_reducible rfl⟩) (by assumption) ?_
      try simp only [List.getElem_toArray, List.getElem_cons_succ, List.getElem_cons_zero]
      try go_frame
      obtain ⟨wz, hrun, hld, hkz⟩ := store_ld bv8 (N4 : Int) (N6 : Int) true 0 0 ⟨#[]⟩
      have hSz : Kept (fun _ => False) w1 wz := kv8.andThen hkz (fun i hi e => by have := lv6; omega)
      refine wpAnyH_ready (rs := [9]) (by kernel_rfl) (by simp) ?_
      refine AllReadyH.cons rfl (fun K hK => ?_) AllReadyH.nil
      refine stepB_store rfl (.tmp 6) (.tmp 34) 26 rfl _ _ rfl rfl hrun ?_
      refine hK.out _ _ (hSz) (fun _ => ?_)
      clear hK K
      try simp only [List.getElem_toArray, List.getElem_cons_succ, List.getElem_cons_zero]
      try go_frame
      refine wpAnyH_done (by kernel_rfl) ?_ _
      clear hrun hkz
      go_wp2
      go_meet
      exact ⟨_, rfl, hld, lv6, hSz⟩
  obtain ⟨bx, rfl, hld, hbx, hkx⟩ := hcut
  have HL := hid hld
  have HKx := hid (HK1.out.trans hkx)
  have HBx := hid (HB1.out.kept hkx)
  have HGb := hid (Nat.le_trans HK1.out.size hbx)
  have HNe := hid (show w.heap.size ≠ bx from by have := HB1.out.lt; omega)
  clear hld hkx hbx HB1 HK1 HW4 HW6
  obtain ⟨y0, y1, y2, y3, y4, y5⟩ := HL.out.cells
  obtain ⟨z0, z1, z2, z3, z4, z5⟩ := (HBx.out).cells
  have f0 := (HBx.out).soft 0
  have f1 := (HBx.out).soft 1
  have f2 := (HBx.out).soft 2
  have f3 := (HBx.out).soft 3
  have f4 := (HBx.out).soft 4
  have f5 := (HBx.out).soft 5
  go_wp2
  refine bodyPost_ret (v := .tuple #[.agg #[.int .i64 0, .int .i64 0, .bool false, .int .i64 0, .int .i64 0, .string ⟨#[]⟩], .int .i64 4]) (by simp [results, Tryz.results28, go_sem, z0, z1, z2, z3, z4, z5]) rfl ⟨rfl, ?_⟩
  exact ((((((HKx.out).setCell (Or.inl (Nat.le_refl _)) _).setCell (Or.inl (Nat.le_refl _)) _).setCell (Or.inl (Nat.le_refl _)) _).setCell (Or.inl (Nat.le_refl _)) _).setCell (Or.inl (Nat.le_refl _)) _).setCell (Or.inl (Nat.le_refl _)) _

set_option maxHeartbeats 8000000 in
set_option maxRecDepth 100000 in
theorem rGetL_big12 (b : ByteArray) (hb : b.size ≤ 140737488351232) (h8 : 8 ≤ b.size) (h0 : byteN b 0 = 72) (h1 : byteN b 1 = 2) (h2 : ¬ b.size < numAt b 2) (h3 : ¬ numAt b 2 < 12) (h4 : 1460 < numAt b 2 - 12) (w : World) :
    Calls Tryz.prog 28 #[.string b] w fun e w' => e = .returned (.tuple #[.agg #[.int .i64 0, .int .i64 0, .bool false, .int .i64 0, .int .i64 0, .string ⟨#[]⟩], .int .i64 2]) ∧ Kept (fun _ => False) w w' := by
  have hz : ¬ (b.size : Int) < 8 := by omega
  have HW := hid (fun W => refNumA b hb 2 (by omega) W)
  have HW4 := hid (fun W => refNumA b hb 4 (by omega) W)
  have HW6 := hid (fun W => refNumA b hb 6 (by omega) W)
  have x0 := index_at b 0 (by omega) 0 rfl
  have x1 := index_at b 1 (by omega) 1 rfl
  unfold byteN at *
  rw [h0] at x0
  rw [h1] at x1
  clear h0 h1
  have HB := hid (LdAt.new w 0 0 false 0 0 ⟨#[]⟩)
  have HK := hid ((Kept.refl (fun _ => False) w).alloc (.cells #[.int .i64 0, .int .i64 0, .bool false, .int .i64 0, .int .i64 0, .string ⟨#[]⟩] 26))
  generalize numAt b 2 = N at *
  have e2 : ¬ (b.size : Int) < (N : Int) := by omega
  have e3 : ¬ (N : Int) < 12 := by omega
  have e4 : IntKind.i64.wrap ((N : Int) - 12) = (N : Int) - 12 := by rw [IntKind.wrap_i64]; omega
  have e5 : (1460 : Int) < (N : Int) - 12 := by omega
  clear h2 h3 h4 h8
  generalize numAt b 4 = N4 at *
  generalize numAt b 6 = N6 at *
  go_enter Tryz.func28, Tryz.ntmps28
  go_upto_region 1 with fail
  generalize w.alloc (.cells #[.int .i64 0, .int .i64 0, .bool false, .int .i64 0, .int .i64 0, .string ⟨#[]⟩] 26) = W0 at *
  go_wp2_with fail
  refine (HW.out _).mono ?_
  rintro e w1 ⟨rfl, hk1⟩
  have HK1 := hid (HK.out.trans hk1)
  have HB1 := hid (HB.out.kept hk1)
  clear hk1 HK HB HW
  go_upto_region 6 with fail
  go_cut [6] from 27 to 34 (fun v wx => ∃ bx, v = .pointer (some ⟨bx, 0, none⟩) ∧ LdAt wx bx (N4 : Int) (N6 : Int) true 0 0 ⟨#[]⟩ ∧ w1.heap.size ≤ bx ∧ Kept (fun _ => False) w1 wx)
  case first =>
    refine wp_region_held_drew (S := Kept (fun _ => False) w1) (by kernel_rfl) ((Kept.refl _ w1).drew) (fun hSd => ?_)
    refine Tks.out (l := [(0, some none), (2, some none), (4, some none), (5, some none), (6, some none)]) ?_
    iterate 5
     refine tkT (v := ?_) rfl (by kernel_rfl) (by kernel_rfl) (by kernel_rfl) (fun _ _ _ h => h) (Or.inl ⟨by kernel_rfl, fun W hSW => by go_simp; try with_reducible rfl⟩) (by assumption) ?_
     try simp only [List.getElem_toArray, List.getElem_cons_succ, List.getElem_cons_zero]
     try go_frame
    refine tkE ?_
    refine wpAnyH_ready (rs := [1, 8]) (by kernel_rfl) (by simp) ?_
    refine AllReadyH.cons rfl (fun K hK => ?_) (AllReadyH.cons rfl (fun K hK => ?_) AllReadyH.nil)
    · skip
      go_simp
      refine (HW4.out _).mono ?_
      rintro e v1 ⟨rfl, hk⟩
      have kv1 : Kept (fun _ => False) w1 v1 := hSd.trans hk
      clear hk
      refine hK.out _ _ (kv1) (fun _ => ?_)
      clear hK K
      try simp only [List.getElem_toArray, List.getElem_cons_succ, List.getElem_cons_zero]
      try go_frame
      refine wpAnyH_ready (rs := [3, 8]) (by kernel_rfl) (by simp) ?_
      refine AllReadyH.cons rfl (fun K hK => ?_) (AllReadyH.cons rfl (fun K hK => ?_) AllReadyH.nil)
      · skip
        go_simp
        refine (HW6.out _).mono ?_
        rintro e v2 ⟨rfl, hk⟩
        have kv2 : Kept (fun _ => False) w1 v2 := kv1.trans hk
        clear hk
        refine hK.out _ _ (kv2) (fun _ => ?_)
        clear hK K
        try simp only [List.getElem_toArray, List.getElem_cons_succ, List.getElem_cons_zero]
        try go_frame
        refine wpAnyH_take (i := 7) (v := ?_) rfl (by kernel_rfl) (by kernel_rfl) (by kernel_rfl) (fun _ _ _ h => h) (Or.inl ⟨by kernel_rfl, fun W hSW => by go_simp; try with_reducible rfl⟩) (by assumption) ?_
        try simp only [List.getElem_toArray, List.getElem_cons_succ, List.getElem_cons_zero]
        try go_frame
        refine wpAnyH_ready (rs := [8]) (by kernel_rfl) (by simp) ?_
        refine AllReadyH.cons rfl (fun K hK => ?_) AllReadyH.nil
        go_simp
        have kv3 : Kept (fun _ => False) w1 (World.alloc v2 (.cells #[.int .i64 0, .int .i64 0, .bool false, .int .i64 0, .int .i64 0, .string ⟨#[]⟩] 26)) := kv2.alloc _
        have bv3 : LdAt (World.alloc v2 (.cells #[.int .i64 0, .int .i64 0, .bool false, .int .i64 0, .int .i64 0, .string ⟨#[]⟩] 26)) v2.heap.size 0 0 false 0 0 ⟨#[]⟩ := LdAt.new v2 0 0 false 0 0 ⟨#[]⟩
        have lv3 : w1.heap.size ≤ v2.heap.size := kv2.size
        refine hK.out _ _ (kv3) (fun _ => ?_)
        clear hK K
        try simp only [List.getElem_toArray, List.getElem_cons_succ, List.getElem_cons_zero]
        try go_frame
        generalize World.alloc v2 (.cells #[.int .i64 0, .int .i64 0, .bool false, .int .i64 0, .int .i64 0, .string ⟨#[]⟩] 26) = v3 at *
        obtain ⟨wz, hrun, hld, hkz⟩ := store_ld bv3 (N4 : Int) (N6 : Int) true 0 0 ⟨#[]⟩
        have hSz : Kept (fun _ => False) w1 wz := kv3.andThen hkz (fun i hi e => by have := lv3; omega)
        refine wpAnyH_ready (rs := [9]) (by kernel_rfl) (by simp) ?_
        refine AllReadyH.cons rfl (fun K hK => ?_) AllReadyH.nil
        refine stepB_store rfl (.tmp 6) (.tmp 34) 26 rfl _ _ rfl rfl hrun ?_
        refine hK.out _ _ (hSz) (fun _ => ?_)
        clear hK K
        try simp only [List.getElem_toArray, List.getElem_cons_succ, List.getElem_cons_zero]
        try go_frame
        refine wpAnyH_done (by kernel_rfl) ?_ _
        clear hrun hkz
        go_wp2
        go_meet
        exact ⟨_, rfl, hld, lv3, hSz⟩
      · skip
        go_simp
        have kv4 : Kept (fun _ => False) w1 (World.alloc v1 (.cells #[.int .i64 0, .int .i64 0, .bool false, .int .i64 0, .int .i64 0, .string ⟨#[]⟩] 26)) := kv1.alloc _
        have bv4 : LdAt (World.alloc v1 (.cells #[.int .i64 0, .int .i64 0, .bool false, .int .i64 0, .int .i64 0, .string ⟨#[]⟩] 26)) v1.heap.size 0 0 false 0 0 ⟨#[]⟩ := LdAt.new v1 0 0 false 0 0 ⟨#[]⟩
        have lv4 : w1.heap.size ≤ v1.heap.size := kv1.size
        refine hK.out _ _ (kv4) (fun _ => ?_)
        clear hK K
        try simp only [List.getElem_toArray, List.getElem_cons_succ, List.getElem_cons_zero]
        try go_frame
        generalize World.alloc v1 (.cells #[.int .i64 0, .int .i64 0, .bool false, .int .i64 0, .int .i64 0, .string ⟨#[]⟩] 26) = v4 at *
        generalize v1.heap.size = g1 at *
        refine wpAnyH_ready (rs := [3]) (by kernel_rfl) (by simp) ?_
        refine AllReadyH.cons rfl (fun K hK => ?_) AllReadyH.nil
        go_simp
        refine (HW6.out _).mono ?_
        rintro e v5 ⟨rfl, hk⟩
        have kv5 : Kept (fun _ => False) w1 v5 := kv4.trans hk
        have bv5 := bv4.kept hk
        clear hk
        refine hK.out _ _ (kv5) (fun _ => ?_)
        clear hK K
        try simp only [List.getElem_toArray, List.getElem_cons_succ, List.getElem_cons_zero]
        try go_frame
        refine wpAnyH_take (i := 7) (v := ?_) rfl (by kernel_rfl) (by kernel_rfl) (by kernel_rfl) (fun _ _ _ h => h) (Or.inl ⟨by kernel_rfl, fun W hSW => by go_simp; try with_reducible rfl⟩) (by assumption) ?_
        try simp only [List.getElem_toArray, List.getElem_cons_succ, List.getElem_cons_zero]
        try go_frame
        obtain ⟨wz, hrun, hld, hkz⟩ := store_ld bv5 (N4 : Int) (N6 : Int) true 0 0 ⟨#[]⟩
        have hSz : Kept (fun _ => False) w1 wz := kv5.andThen hkz (fun i hi e => by have := lv4; omega)
        refine wpAnyH_ready (rs := [9]) (by kernel_rfl) (by simp) ?_
        refine AllReadyH.cons rfl (fun K hK => ?_) AllReadyH.nil
        refine stepB_store rfl (.tmp 6) (.tmp 34) 26 rfl _ _ rfl rfl hrun ?_
        refine hK.out _ _ (hSz) (fun _ => ?_)
        clear hK K
        try simp only [List.getElem_toArray, List.getElem_cons_succ, List.getElem_cons_zero]
        try go_frame
        refine wpAnyH_done (by kernel_rfl) ?_ _
        clear hrun hkz
        go_wp2
        go_meet
        exact ⟨_, rfl, hld, lv4, hSz⟩
    · skip
      go_simp
      have kv6 : Kept (fun _ => False) w1 (World.alloc w1 (.cells #[.int .i64 0, .int .i64 0, .bool false, .int .i64 0, .int .i64 0, .string ⟨#[]⟩] 26)).drew := ((Kept.refl (fun _ => False) w1).alloc _).drew
      have bv6 : LdAt (World.alloc w1 (.cells #[.int .i64 0, .int .i64 0, .bool false, .int .i64 0, .int .i64 0, .string ⟨#[]⟩] 26)).drew w1.heap.size 0 0 false 0 0 ⟨#[]⟩ := (LdAt.new w1 0 0 false 0 0 ⟨#[]⟩).kept (Kept.refl _ _).drew
      have lv6 : w1.heap.size ≤ w1.heap.size := Nat.le_refl _
      refine hK.out _ _ (kv6) (fun _ => ?_)
      clear hK K
      try simp only [List.getElem_toArray, List.getElem_cons_succ, List.getElem_cons_zero]
      try go_frame
      generalize (World.alloc w1 (.cells #[.int .i64 0, .int .i64 0, .bool false, .int .i64 0, .int .i64 0, .string ⟨#[]⟩] 26)).drew = v6 at *
      refine wpAnyH_ready (rs := [1]) (by kernel_rfl) (by simp) ?_
      refine AllReadyH.cons rfl (fun K hK => ?_) AllReadyH.nil
      go_simp
      refine (HW4.out _).mono ?_
      rintro e v7 ⟨rfl, hk⟩
      have kv7 : Kept (fun _ => False) w1 v7 := kv6.trans hk
      have bv7 := bv6.kept hk
      clear hk
      refine hK.out _ _ (kv7) (fun _ => ?_)
      clear hK K
      try simp only [List.getElem_toArray, List.getElem_cons_succ, List.getElem_cons_zero]
      try go_frame
      refine wpAnyH_ready (rs := [3]) (by kernel_rfl) (by simp) ?_
      refine AllReadyH.cons rfl (fun K hK => ?_) AllReadyH.nil
      go_simp
      refine (HW6.out _).mono ?_
      rintro e v8 ⟨rfl, hk⟩
      have kv8 : Kept (fun _ => False) w1 v8 := kv7.trans hk
      have bv8 := bv7.kept hk
      clear hk
      refine hK.out _ _ (kv8) (fun _ => ?_)
      clear hK K
      try simp only [List.getElem_toArray, List.getElem_cons_succ, List.getElem_cons_zero]
      try go_frame
      refine wpAnyH_take (i := 7) (v := ?_) rfl (by kernel_rfl) (by kernel_rfl) (by kernel_rfl) (fun _ _ _ h => h) (Or.inl ⟨by kernel_rfl, fun W hSW => by go_simp; try with_reducible rfl⟩) (by assumption) ?_
      try simp only [List.getElem_toArray, List.getElem_cons_succ, List.getElem_cons_zero]
      try go_frame
      obtain ⟨wz, hrun, hld, hkz⟩ := store_ld bv8 (N4 : Int) (N6 : Int) true 0 0 ⟨#[]⟩
      have hSz : Kept (fun _ => False) w1 wz := kv8.andThen hkz (fun i hi e => by have := lv6; omega)
      refine wpAnyH_ready (rs := [9]) (by kernel_rfl) (by simp) ?_
      refine AllReadyH.cons rfl (fun K hK => ?_) AllReadyH.nil
      refine stepB_store rfl (.tmp 6) (.tmp 34) 26 rfl _ _ rfl rfl hrun ?_
      refine hK.out _ _ (hSz) (fun _ => ?_)
      clear hK K
      try simp only [List.getElem_toArray, List.getElem_cons_succ, List.getElem_cons_zero]
      try go_frame
      refine wpAnyH_done (by kernel_rfl) ?_ _
      clear hrun hkz
      go_wp2
      go_meet
      exact ⟨_, rfl, hld, lv6, hSz⟩
  obtain ⟨bx, rfl, hld, hbx, hkx⟩ := hcut
  have HL := hid hld
  have HKx := hid (HK1.out.trans hkx)
  have HBx := hid (HB1.out.kept hkx)
  have HGb := hid (Nat.le_trans HK1.out.size hbx)
  have HNe := hid (show w.heap.size ≠ bx from by have := HB1.out.lt; omega)
  clear hld hkx hbx HB1 HK1 HW4 HW6
  obtain ⟨y0, y1, y2, y3, y4, y5⟩ := HL.out.cells
  obtain ⟨z0, z1, z2, z3, z4, z5⟩ := (HBx.out).cells
  have f0 := (HBx.out).soft 0
  have f1 := (HBx.out).soft 1
  have f2 := (HBx.out).soft 2
  have f3 := (HBx.out).soft 3
  have f4 := (HBx.out).soft 4
  have f5 := (HBx.out).soft 5
  go_wp2
  refine bodyPost_ret (v := .tuple #[.agg #[.int .i64 0, .int .i64 0, .bool false, .int .i64 0, .int .i64 0, .string ⟨#[]⟩], .int .i64 2]) (by simp [results, Tryz.results28, go_sem, z0, z1, z2, z3, z4, z5]) rfl ⟨rfl, ?_⟩
  exact ((((((HKx.out).setCell (Or.inl (Nat.le_refl _)) _).setCell (Or.inl (Nat.le_refl _)) _).setCell (Or.inl (Nat.le_refl _)) _).setCell (Or.inl (Nat.le_refl _)) _).setCell (Or.inl (Nat.le_refl _)) _).setCell (Or.inl (Nat.le_refl _)) _

set_option maxHeartbeats 8000000 in
set_option maxRecDepth 100000 in
theorem rGetL_ok12 (b : ByteArray) (hb : b.size ≤ 140737488351232) (h8 : 8 ≤ b.size) (h0 : byteN b 0 = 72) (h1 : byteN b 1 = 2) (h2 : ¬ b.size < numAt b 2) (h3 : ¬ numAt b 2 < 12) (h4 : ¬ 1460 < numAt b 2 - 12) (w : World) :
    Calls Tryz.prog 28 #[.string b] w fun e w' => e = .returned (.tuple #[.agg #[.int .i64 (numAt b 4 : Int), .int .i64 (numAt b 6 : Int), .bool true, .int .i64 (numAt b 8 : Int), .int .i64 (numAt b 10 : Int), .string (b.extract 12 (numAt b 2))], .int .i64 0]) ∧ Kept (fun _ => False) w w' := by
  have hz : ¬ (b.size : Int) < 8 := by omega
  have HW := hid (fun W => refNumA b hb 2 (by omega) W)
  have HW4 := hid (fun W => refNumA b hb 4 (by omega) W)
  have HW6 := hid (fun W => refNumA b hb 6 (by omega) W)
  have x0 := index_at b 0 (by omega) 0 rfl
  have x1 := index_at b 1 (by omega) 1 rfl
  unfold byteN at *
  rw [h0] at x0
  rw [h1] at x1
  clear h0 h1
  have HB := hid (LdAt.new w 0 0 false 0 0 ⟨#[]⟩)
  have HK := hid ((Kept.refl (fun _ => False) w).alloc (.cells #[.int .i64 0, .int .i64 0, .bool false, .int .i64 0, .int .i64 0, .string ⟨#[]⟩] 26))
  have j1 := mid_at b 12 (numAt b 2) (by omega) (by omega) 12 (numAt b 2 : Int) rfl rfl
  generalize b.extract 12 (numAt b 2) = X at *
  have HW8 := hid (fun W => refNumA b hb 8 (by omega) W)
  have HW10 := hid (fun W => refNumA b hb 10 (by omega) W)
  generalize numAt b 8 = N8 at *
  generalize numAt b 10 = N10 at *
  generalize numAt b 2 = N at *
  have e2 : ¬ (b.size : Int) < (N : Int) := by omega
  have e3 : ¬ (N : Int) < 12 := by omega
  have e4 : IntKind.i64.wrap ((N : Int) - 12) = (N : Int) - 12 := by rw [IntKind.wrap_i64]; omega
  have e5 : ¬ (1460 : Int) < (N : Int) - 12 := by omega
  clear h2 h3 h4 h8
  generalize numAt b 4 = N4 at *
  generalize numAt b 6 = N6 at *
  go_enter Tryz.func28, Tryz.ntmps28
  go_upto_region 1 with fail
  generalize w.alloc (.cells #[.int .i64 0, .int .i64 0, .bool false, .int .i64 0, .int .i64 0, .string ⟨#[]⟩] 26) = W0 at *
  go_wp2_with fail
  refine (HW.out _).mono ?_
  rintro e w1 ⟨rfl, hk1⟩
  have HK1 := hid (HK.out.trans hk1)
  have HB1 := hid (HB.out.kept hk1)
  clear hk1 HK HB HW
  go_upto_region 6 with fail
  go_cut [6] from 27 to 34 (fun v wx => ∃ bx, v = .pointer (some ⟨bx, 0, none⟩) ∧ LdAt wx bx (N4 : Int) (N6 : Int) true 0 0 ⟨#[]⟩ ∧ w1.heap.size ≤ bx ∧ Kept (fun _ => False) w1 wx)
  case first =>
    refine wp_region_held_drew (S := Kept (fun _ => False) w1) (by kernel_rfl) ((Kept.refl _ w1).drew) (fun hSd => ?_)
    refine Tks.out (l := [(0, some none), (2, some none), (4, some none), (5, some none), (6, some none)]) ?_
    iterate 5
     refine tkT (v := ?_) rfl (by kernel_rfl) (by kernel_rfl) (by kernel_rfl) (fun _ _ _ h => h) (Or.inl ⟨by kernel_rfl, fun W hSW => by go_simp; try with_reducible rfl⟩) (by assumption) ?_
     try simp only [List.getElem_toArray, List.getElem_cons_succ, List.getElem_cons_zero]
     try go_frame
    refine tkE ?_
    refine wpAnyH_ready (rs := [1, 8]) (by kernel_rfl) (by simp) ?_
    refine AllReadyH.cons rfl (fun K hK => ?_) (AllReadyH.cons rfl (fun K hK => ?_) AllReadyH.nil)
    · skip
      go_simp
      refine (HW4.out _).mono ?_
      rintro e v1 ⟨rfl, hk⟩
      have kv1 : Kept (fun _ => False) w1 v1 := hSd.trans hk
      clear hk
      refine hK.out _ _ (kv1) (fun _ => ?_)
      clear hK K
      try simp only [List.getElem_toArray, List.getElem_cons_succ, List.getElem_cons_zero]
      try go_frame
      refine wpAnyH_ready (rs := [3, 8]) (by kernel_rfl) (by simp) ?_
      refine AllReadyH.cons rfl (fun K hK => ?_) (AllReadyH.cons rfl (fun K hK => ?_) AllReadyH.nil)
      · skip
        go_simp
        refine (HW6.out _).mono ?_
        rintro e v2 ⟨rfl, hk⟩
        have kv2 : Kept (fun _ => False) w1 v2 := kv1.trans hk
        clear hk
        refine hK.out _ _ (kv2) (fun _ => ?_)
        clear hK K
        try simp only [List.getElem_toArray, List.getElem_cons_succ, List.getElem_cons_zero]
        try go_frame
        refine wpAnyH_take (i := 7) (v := ?_) rfl (by kernel_rfl) (by kernel_rfl) (by kernel_rfl) (fun _ _ _ h => h) (Or.inl ⟨by kernel_rfl, fun W hSW => by go_simp; try with_reducible rfl⟩) (by assumption) ?_
        try simp only [List.getElem_toArray, List.getElem_cons_succ, List.getElem_cons_zero]
        try go_frame
        refine wpAnyH_ready (rs := [8]) (by kernel_rfl) (by simp) ?_
        refine AllReadyH.cons rfl (fun K hK => ?_) AllReadyH.nil
        go_simp
        have kv3 : Kept (fun _ => False) w1 (World.alloc v2 (.cells #[.int .i64 0, .int .i64 0, .bool false, .int .i64 0, .int .i64 0, .string ⟨#[]⟩] 26)) := kv2.alloc _
        have bv3 : LdAt (World.alloc v2 (.cells #[.int .i64 0, .int .i64 0, .bool false, .int .i64 0, .int .i64 0, .string ⟨#[]⟩] 26)) v2.heap.size 0 0 false 0 0 ⟨#[]⟩ := LdAt.new v2 0 0 false 0 0 ⟨#[]⟩
        have lv3 : w1.heap.size ≤ v2.heap.size := kv2.size
        refine hK.out _ _ (kv3) (fun _ => ?_)
        clear hK K
        try simp only [List.getElem_toArray, List.getElem_cons_succ, List.getElem_cons_zero]
        try go_frame
        generalize World.alloc v2 (.cells #[.int .i64 0, .int .i64 0, .bool false, .int .i64 0, .int .i64 0, .string ⟨#[]⟩] 26) = v3 at *
        obtain ⟨wz, hrun, hld, hkz⟩ := store_ld bv3 (N4 : Int) (N6 : Int) true 0 0 ⟨#[]⟩
        have hSz : Kept (fun _ => False) w1 wz := kv3.andThen hkz (fun i hi e => by have := lv3; omega)
        refine wpAnyH_ready (rs := [9]) (by kernel_rfl) (by simp) ?_
        refine AllReadyH.cons rfl (fun K hK => ?_) AllReadyH.nil
        refine stepB_store rfl (.tmp 6) (.tmp 34) 26 rfl _ _ rfl rfl hrun ?_
        refine hK.out _ _ (hSz) (fun _ => ?_)
        clear hK K
        try simp only [List.getElem_toArray, List.getElem_cons_succ, List.getElem_cons_zero]
        try go_frame
        refine wpAnyH_done (by kernel_rfl) ?_ _
        clear hrun hkz
        go_wp2
        go_meet
        exact ⟨_, rfl, hld, lv3, hSz⟩
      · skip
        go_simp
        have kv4 : Kept (fun _ => False) w1 (World.alloc v1 (.cells #[.int .i64 0, .int .i64 0, .bool false, .int .i64 0, .int .i64 0, .string ⟨#[]⟩] 26)) := kv1.alloc _
        have bv4 : LdAt (World.alloc v1 (.cells #[.int .i64 0, .int .i64 0, .bool false, .int .i64 0, .int .i64 0, .string ⟨#[]⟩] 26)) v1.heap.size 0 0 false 0 0 ⟨#[]⟩ := LdAt.new v1 0 0 false 0 0 ⟨#[]⟩
        have lv4 : w1.heap.size ≤ v1.heap.size := kv1.size
        refine hK.out _ _ (kv4) (fun _ => ?_)
        clear hK K
        try simp only [List.getElem_toArray, List.getElem_cons_succ, List.getElem_cons_zero]
        try go_frame
        generalize World.alloc v1 (.cells #[.int .i64 0, .int .i64 0, .bool false, .int .i64 0, .int .i64 0, .string ⟨#[]⟩] 26) = v4 at *
        generalize v1.heap.size = g1 at *
        refine wpAnyH_ready (rs := [3]) (by kernel_rfl) (by simp) ?_
        refine AllReadyH.cons rfl (fun K hK => ?_) AllReadyH.nil
        go_simp
        refine (HW6.out _).mono ?_
        rintro e v5 ⟨rfl, hk⟩
        have kv5 : Kept (fun _ => False) w1 v5 := kv4.trans hk
        have bv5 := bv4.kept hk
        clear hk
        refine hK.out _ _ (kv5) (fun _ => ?_)
        clear hK K
        try simp only [List.getElem_toArray, List.getElem_cons_succ, List.getElem_cons_zero]
        try go_frame
        refine wpAnyH_take (i := 7) (v := ?_) rfl (by kernel_rfl) (by kernel_rfl) (by kernel_rfl) (fun _ _ _ h => h) (Or.inl ⟨by kernel_rfl, fun W hSW => by go_simp; try with_reducible rfl⟩) (by assumption) ?_
        try simp only [List.getElem_toArray, List.getElem_cons_succ, List.getElem_cons_zero]
        try go_frame
        obtain ⟨wz, hrun, hld, hkz⟩ := store_ld bv5 (N4 : Int) (N6 : Int) true 0 0 ⟨#[]⟩
        have hSz : Kept (fun _ => False) w1 wz := kv5.andThen hkz (fun i hi e => by have := lv4; omega)
        refine wpAnyH_ready (rs := [9]) (by kernel_rfl) (by simp) ?_
        refine AllReadyH.cons rfl (fun K hK => ?_) AllReadyH.nil
        refine stepB_store rfl (.tmp 6) (.tmp 34) 26 rfl _ _ rfl rfl hrun ?_
        refine hK.out _ _ (hSz) (fun _ => ?_)
        clear hK K
        try simp only [List.getElem_toArray, List.getElem_cons_succ, List.getElem_cons_zero]
        try go_frame
        refine wpAnyH_done (by kernel_rfl) ?_ _
        clear hrun hkz
        go_wp2
        go_meet
        exact ⟨_, rfl, hld, lv4, hSz⟩
    · skip
      go_simp
      have kv6 : Kept (fun _ => False) w1 (World.alloc w1 (.cells #[.int .i64 0, .int .i64 0, .bool false, .int .i64 0, .int .i64 0, .string ⟨#[]⟩] 26)).drew := ((Kept.refl (fun _ => False) w1).alloc _).drew
      have bv6 : LdAt (World.alloc w1 (.cells #[.int .i64 0, .int .i64 0, .bool false, .int .i64 0, .int .i64 0, .string ⟨#[]⟩] 26)).drew w1.heap.size 0 0 false 0 0 ⟨#[]⟩ := (LdAt.new w1 0 0 false 0 0 ⟨#[]⟩).kept (Kept.refl _ _).drew
      have lv6 : w1.heap.size ≤ w1.heap.size := Nat.le_refl _
      refine hK.out _ _ (kv6) (fun _ => ?_)
      clear hK K
      try simp only [List.getElem_toArray, List.getElem_cons_succ, List.getElem_cons_zero]
      try go_frame
      generalize (World.alloc w1 (.cells #[.int .i64 0, .int .i64 0, .bool false, .int .i64 0, .int .i64 0, .string ⟨#[]⟩] 26)).drew = v6 at *
      refine wpAnyH_ready (rs := [1]) (by kernel_rfl) (by simp) ?_
      refine AllReadyH.cons rfl (fun K hK => ?_) AllReadyH.nil
      go_simp
      refine (HW4.out _).mono ?_
      rintro e v7 ⟨rfl, hk⟩
      have kv7 : Kept (fun _ => False) w1 v7 := kv6.trans hk
      have bv7 := bv6.kept hk
      clear hk
      refine hK.out _ _ (kv7) (fun _ => ?_)
      clear hK K
      try simp only [List.getElem_toArray, List.getElem_cons_succ, List.getElem_cons_zero]
      try go_frame
      refine wpAnyH_ready (rs := [3]) (by kernel_rfl) (by simp) ?_
      refine AllReadyH.cons rfl (fun K hK => ?_) AllReadyH.nil
      go_simp
      refine (HW6.out _).mono ?_
      rintro e v8 ⟨rfl, hk⟩
      have kv8 : Kept (fun _ => False) w1 v8 := kv7.trans hk
      have bv8 := bv7.kept hk
      clear hk
      refine hK.out _ _ (kv8) (fun _ => ?_)
      clear hK K
      try simp only [List.getElem_toArray, List.getElem_cons_succ, List.getElem_cons_zero]
      try go_frame
      refine wpAnyH_take (i := 7) (v := ?_) rfl (by kernel_rfl) (by kernel_rfl) (by kernel_rfl) (fun _ _ _ h => h) (Or.inl ⟨by kernel_rfl, fun W hSW => by go_simp; try with_reducible rfl⟩) (by assumption) ?_
      try simp only [List.getElem_toArray, List.getElem_cons_succ, List.getElem_cons_zero]
      try go_frame
      obtain ⟨wz, hrun, hld, hkz⟩ := store_ld bv8 (N4 : Int) (N6 : Int) true 0 0 ⟨#[]⟩
      have hSz : Kept (fun _ => False) w1 wz := kv8.andThen hkz (fun i hi e => by have := lv6; omega)
      refine wpAnyH_ready (rs := [9]) (by kernel_rfl) (by simp) ?_
      refine AllReadyH.cons rfl (fun K hK => ?_) AllReadyH.nil
      refine stepB_store rfl (.tmp 6) (.tmp 34) 26 rfl _ _ rfl rfl hrun ?_
      refine hK.out _ _ (hSz) (fun _ => ?_)
      clear hK K
      try simp only [List.getElem_toArray, List.getElem_cons_succ, List.getElem_cons_zero]
      try go_frame
      refine wpAnyH_done (by kernel_rfl) ?_ _
      clear hrun hkz
      go_wp2
      go_meet
      exact ⟨_, rfl, hld, lv6, hSz⟩
  obtain ⟨bx, rfl, hld, hbx, hkx⟩ := hcut
  have HL := hid hld
  have HKx := hid (HK1.out.trans hkx)
  have HBx := hid (HB1.out.kept hkx)
  have HGb := hid (Nat.le_trans HK1.out.size hbx)
  have HNe := hid (show w.heap.size ≠ bx from by have := HB1.out.lt; omega)
  clear hld hkx hbx HB1 HK1 HW4 HW6
  obtain ⟨y0, y1, y2, y3, y4, y5⟩ := HL.out.cells
  go_wp2_with fail
  refine (HW8.out _).mono ?_
  rintro e w7 ⟨rfl, hk7⟩
  have HK7 := hid (HKx.out.trans hk7)
  have HB7 := hid (HBx.out.kept hk7)
  have HL7 := hid (HL.out.kept hk7)
  clear hk7 HKx HBx HL HW8 y0 y1 y2 y3 y4 y5
  go_wp2_with fail
  refine (HW10.out _).mono ?_
  rintro e w8 ⟨rfl, hk8⟩
  have HK8 := hid (HK7.out.trans hk8)
  have HB8 := hid (HB7.out.kept hk8)
  have HL8 := hid (HL7.out.kept hk8)
  clear hk8 HK7 HB7 HL7 HW10
  obtain ⟨y0, y1, y2, y3, y4, y5⟩ := HL8.out.cells
  have k3 := HL8.out.soft 3
  have k4 := HL8.out.soft 4
  go_upto_region 17 with fail
  have HL9 := hid (LdAt.set34 HL8.out (N8 : Int) (N10 : Int))
  have HB9 := hid ((HB8.out.far HNe.out 3 (.int .i64 (N8 : Int))).far HNe.out 4 (.int .i64 (N10 : Int)))
  have HK9 := hid ((HK8.out.setCell (p := ⟨bx, 3, none⟩) (Or.inl HGb.out) (.int .i64 (N8 : Int))).setCell (p := ⟨bx, 4, none⟩) (Or.inl HGb.out) (.int .i64 (N10 : Int)))
  generalize (w8.setCell ⟨bx, 3, none⟩ (.int .i64 (N8 : Int))).setCell ⟨bx, 4, none⟩ (.int .i64 (N10 : Int)) = W9 at *
  clear HL8 HB8 HK8 y0 y1 y2 y3 y4 y5 k3 k4
  obtain ⟨y0, y1, y2, y3, y4, y5⟩ := HL9.out.cells
  have k5 := (HL9.out).soft 5
  go_upto_region 18 with fail
  have HL10 := hid (LdAt.set5 HL9.out X)
  have HB10 := hid ((HB9.out).far HNe.out 5 (.string X))
  have HK10 := hid ((HK9.out).setCell (p := ⟨bx, 5, none⟩) (Or.inl HGb.out) (.string X))
  generalize World.setCell W9 ⟨bx, 5, none⟩ (.string X) = W10 at *
  clear y0 y1 y2 y3 y4 y5 k5
  obtain ⟨y0, y1, y2, y3, y4, y5⟩ := HL10.out.cells
  obtain ⟨z0, z1, z2, z3, z4, z5⟩ := (HB10.out).cells
  have f0 := (HB10.out).soft 0
  have f1 := (HB10.out).soft 1
  have f2 := (HB10.out).soft 2
  have f3 := (HB10.out).soft 3
  have f4 := (HB10.out).soft 4
  have f5 := (HB10.out).soft 5
  go_wp2
  refine bodyPost_ret (v := .tuple #[.agg #[.int .i64 (N4 : Int), .int .i64 (N6 : Int), .bool true, .int .i64 (N8 : Int), .int .i64 (N10 : Int), .string X], .int .i64 0]) (by simp [results, Tryz.results28, go_sem, z0, z1, z2, z3, z4, z5]) rfl ⟨rfl, ?_⟩
  exact ((((((HK10.out).setCell (Or.inl (Nat.le_refl _)) _).setCell (Or.inl (Nat.le_refl _)) _).setCell (Or.inl (Nat.le_refl _)) _).setCell (Or.inl (Nat.le_refl _)) _).setCell (Or.inl (Nat.le_refl _)) _).setCell (Or.inl (Nat.le_refl _)) _

theorem rGetLoad_any (b : ByteArray) (hb : b.size ≤ 140737488351232) (w : World) :
    Calls Tryz.prog 28 #[.string b] w fun e w' => e = .returned (.tuple #[ldV (getLF b).1, .int .i64 (getLF b).2]) ∧ Kept (fun _ => False) w w' := by
  unfold getLF
  by_cases h8 : b.size < 8
  · rw [if_pos h8, ldV0]
    exact getL_short b h8 w
  rw [if_neg h8]
  by_cases hf : (byteN b 0 ≠ 64 ∧ byteN b 0 ≠ 72) ∨ byteN b 1 ≠ 2
  · rw [if_pos hf, ldV0]
    by_cases h64 : byteN b 0 = 64
    · exact getL_form2 b hb (by omega) h64 (by omega) w
    · by_cases h72 : byteN b 0 = 72
      · exact getL_form3 b hb (by omega) h72 (by omega) w
      · exact getL_form1 b hb (by omega) ⟨h64, h72⟩ w
  rw [if_neg hf]
  have h1 : byteN b 1 = 2 := by omega
  by_cases h72 : byteN b 0 = 72
  · have hh : headL b = 12 := by unfold headL; rw [if_pos h72]
    rw [hh]
    by_cases h2 : b.size < numAt b 2
    · rw [if_pos h2, ldV0]
      exact rGetL_long12 b hb (by omega) h72 h1 h2 w
    rw [if_neg h2]
    by_cases h3 : numAt b 2 < 12
    · rw [if_pos h3, ldV0]
      exact rGetL_less12 b hb (by omega) h72 h1 h2 h3 w
    rw [if_neg h3]
    by_cases h4 : 1460 < numAt b 2 - 12
    · rw [if_pos h4, ldV0]
      exact rGetL_big12 b hb (by omega) h72 h1 h2 h3 h4 w
    · rw [if_neg h4]
      unfold ldV
      dsimp only
      rw [if_pos h72, if_pos h72, decide_eq_true h72]
      exact rGetL_ok12 b hb (by omega) h72 h1 h2 h3 h4 w
  · have h64 : byteN b 0 = 64 := by omega
    have hh : headL b = 8 := by unfold headL; rw [if_neg h72]
    rw [hh]
    by_cases h2 : b.size < numAt b 2
    · rw [if_pos h2, ldV0]
      exact rGetL_long8 b hb (by omega) h64 h1 h2 w
    rw [if_neg h2]
    by_cases h3 : numAt b 2 < 8
    · rw [if_pos h3, ldV0]
      exact rGetL_less8 b hb (by omega) h64 h1 h2 h3 w
    rw [if_neg h3]
    by_cases h4 : 1460 < numAt b 2 - 8
    · rw [if_pos h4, ldV0]
      exact rGetL_big8 b hb (by omega) h64 h1 h2 h3 h4 w
    · rw [if_neg h4]
      unfold ldV
      dsimp only
      rw [if_neg h72, if_neg h72, decide_eq_false h72]
      exact rGetL_ok8 b hb (by omega) h64 h1 h2 h3 h4 w
end Go.Proofs.YtkneogfeokckjaaGreatDoor

namespace Go.Proofs.YtkneogfeokckjaaGreatDoor
open Go.RowKit

set_option maxHeartbeats 4000000 in
set_option maxRecDepth 100000 in
theorem rNeeds_any (k : Int) (w : World) :
    Calls Tryz.prog 19 #[.int .i64 k] w fun e w' => ∃ v, e = .returned v ∧ OwnN w' w.heap.size v (needsF k) ∧ Kept (fun _ => False) w w' := by
  by_cases h1 : k = 1
  · subst h1
    have H := hid (ownN_new w [2, 3, 7, 9] (by decide))
    rw [show needsF 1 = [2, 3, 7, 9] from by decide]
    go_enter Tryz.func19, Tryz.ntmps19
    go_wp2
    go_ret
    exact ⟨_, rfl, H.out, (Kept.refl _ w).alloc _⟩
  by_cases h2 : k = 2
  · subst h2
    have H := hid (ownN_new w [2, 3, 7, 9] (by decide))
    rw [show needsF 2 = [2, 3, 7, 9] from by decide]
    go_enter Tryz.func19, Tryz.ntmps19
    go_wp2
    go_ret
    exact ⟨_, rfl, H.out, (Kept.refl _ w).alloc _⟩
  by_cases h4 : k = 4
  · subst h4
    have H := hid (ownN_new w [9, 1] (by decide))
    rw [show needsF 4 = [9, 1] from by decide]
    go_enter Tryz.func19, Tryz.ntmps19
    go_wp2
    go_ret
    exact ⟨_, rfl, H.out, (Kept.refl _ w).alloc _⟩
  by_cases h10 : k = 10
  · subst h10
    have H := hid (ownN_new w [14, 15] (by decide))
    rw [show needsF 10 = [14, 15] from by decide]
    go_enter Tryz.func19, Tryz.ntmps19
    go_wp2
    go_ret
    exact ⟨_, rfl, H.out, (Kept.refl _ w).alloc _⟩
  by_cases h7 : k = 7
  · subst h7
    have H := hid (ownN_new w [14, 15] (by decide))
    rw [show needsF 7 = [14, 15] from by decide]
    go_enter Tryz.func19, Tryz.ntmps19
    go_wp2
    go_ret
    exact ⟨_, rfl, H.out, (Kept.refl _ w).alloc _⟩
  by_cases h11 : k = 11
  · subst h11
    have H := hid (ownN_new w [14] (by decide))
    rw [show needsF 11 = [14] from by decide]
    go_enter Tryz.func19, Tryz.ntmps19
    go_wp2
    go_ret
    exact ⟨_, rfl, H.out, (Kept.refl _ w).alloc _⟩
  by_cases h8 : k = 8
  · subst h8
    have H := hid (ownN_new w [14] (by decide))
    rw [show needsF 8 = [14] from by decide]
    go_enter Tryz.func19, Tryz.ntmps19
    go_wp2
    go_ret
    exact ⟨_, rfl, H.out, (Kept.refl _ w).alloc _⟩
  by_cases h12 : k = 12
  · subst h12
    have H := hid (ownN_new w [24, 19] (by decide))
    rw [show needsF 12 = [24, 19] from by decide]
    go_enter Tryz.func19, Tryz.ntmps19
    go_wp2
    go_ret
    exact ⟨_, rfl, H.out, (Kept.refl _ w).alloc _⟩
  by_cases h9 : k = 9
  · subst h9
    have H := hid (ownN_new w [24, 19] (by decide))
    rw [show needsF 9 = [24, 19] from by decide]
    go_enter Tryz.func19, Tryz.ntmps19
    go_wp2
    go_ret
    exact ⟨_, rfl, H.out, (Kept.refl _ w).alloc _⟩
  by_cases h14 : k = 14
  · subst h14
    have H := hid (ownN_new w [1, 14] (by decide))
    rw [show needsF 14 = [1, 14] from by decide]
    go_enter Tryz.func19, Tryz.ntmps19
    go_wp2
    go_ret
    exact ⟨_, rfl, H.out, (Kept.refl _ w).alloc _⟩
  by_cases h15 : k = 15
  · subst h15
    have H := hid (ownN_new w [34] (by decide))
    rw [show needsF 15 = [34] from by decide]
    go_enter Tryz.func19, Tryz.ntmps19
    go_wp2
    go_ret
    exact ⟨_, rfl, H.out, (Kept.refl _ w).alloc _⟩
  by_cases h16 : k = 16
  · subst h16
    have H := hid (ownN_new w [35] (by decide))
    rw [show needsF 16 = [35] from by decide]
    go_enter Tryz.func19, Tryz.ntmps19
    go_wp2
    go_ret
    exact ⟨_, rfl, H.out, (Kept.refl _ w).alloc _⟩
  have e : needsF k = [] := by simp [needsF, h1, h2, h4, h10, h7, h11, h8, h12, h9, h14, h15, h16]
  rw [e]
  clear e
  go_enter Tryz.func19, Tryz.ntmps19
  go_wp2
  go_ret
  exact ⟨_, rfl, OwnN.nil _ _, Kept.refl _ w⟩
end Go.Proofs.YtkneogfeokckjaaGreatDoor

namespace Go.Proofs.YtkneogfeokckjaaGreatDoor
open Go.RowKit

set_option maxHeartbeats 4000000 in
set_option maxRecDepth 100000 in
theorem rKind_none (t s n r : Int) (p : Option Addr) (c : Nat) (w : World) :
    Calls Tryz.prog 13 #[.agg #[.int .i64 t, .int .i64 s, .int .i64 n, .int .i64 r, .slice p 0 c]] w fun e w' => e = .returned (.int .i64 (-2)) ∧ Kept (fun _ => False) w w' := by
  obtain ⟨b0, b1, b2, b3, b4⟩ := (CtAt.new w t s n r (.slice p 0 c)).cells
  go_enter Tryz.func13, Tryz.ntmps13
  go_wp2
  go_ret
  exact ⟨rfl, (Kept.refl _ w).alloc _⟩

set_option maxHeartbeats 4000000 in
set_option maxRecDepth 100000 in
theorem rKind_v (t s n r : Int) (g o len c : Nat) (m q : Bool) (V T : Int) (x : ByteArray) (hl : 0 < len) (_hc : len ≤ c) (w : World) (x0 : w.cell? ⟨g, o, none⟩ = some (.bool m)) (x1 : w.cell? ⟨g, o + 1, none⟩ = some (.bool q)) (x2 : w.cell? ⟨g, o + 2, none⟩ = some (.int .i64 V)) (x3 : w.cell? ⟨g, o + 3, none⟩ = some (.int .i64 T)) (x4 : w.cell? ⟨g, o + 4, none⟩ = some (.string x)) (h : V ≠ 0) :
    Calls Tryz.prog 13 #[.agg #[.int .i64 t, .int .i64 s, .int .i64 n, .int .i64 r, .slice (some ⟨g, o, none⟩) len c]] w fun e w' => e = .returned (.int .i64 (-1)) ∧ Kept (fun _ => False) w w' := by
  have K0 := (Kept.refl (fun _ => False) w).alloc (.cells #[.int .i64 t, .int .i64 s, .int .i64 n, .int .i64 r, .slice (some ⟨g, o, none⟩) len c] 24)
  obtain ⟨b0, b1, b2, b3, b4⟩ := (CtAt.new w t s n r (.slice (some ⟨g, o, none⟩) len c)).cells
  have y0 := (K0.cell (lt_of_cell x0) id).trans x0
  have y1 := (K0.cell (lt_of_cell x1) id).trans x1
  have y2 := (K0.cell (lt_of_cell x2) id).trans x2
  have y3 := (K0.cell (lt_of_cell x3) id).trans x3
  have y4 := (K0.cell (lt_of_cell x4) id).trans x4
  have hlz : (0 : Int) < (len : Int) := by omega
  have hl0 : ¬ (len : Int) = 0 := by omega
  have hv : (V != 0) = true := by
    rw [bne_iff_ne]
    omega
  clear h
  have HK := hid K0
  clear x0 x1 x2 x3 x4 K0
  go_enter Tryz.func13, Tryz.ntmps13
  go_wp2
  go_ret
  exact ⟨rfl, HK.out.alloc _⟩

set_option maxHeartbeats 4000000 in
set_option maxRecDepth 100000 in
theorem rKind_t (t s n r : Int) (g o len c : Nat) (m q : Bool) (V T : Int) (x : ByteArray) (hl : 0 < len) (_hc : len ≤ c) (w : World) (x0 : w.cell? ⟨g, o, none⟩ = some (.bool m)) (x1 : w.cell? ⟨g, o + 1, none⟩ = some (.bool q)) (x2 : w.cell? ⟨g, o + 2, none⟩ = some (.int .i64 V)) (x3 : w.cell? ⟨g, o + 3, none⟩ = some (.int .i64 T)) (x4 : w.cell? ⟨g, o + 4, none⟩ = some (.string x)) (hV : V = 0) (h : T ≠ 0) :
    Calls Tryz.prog 13 #[.agg #[.int .i64 t, .int .i64 s, .int .i64 n, .int .i64 r, .slice (some ⟨g, o, none⟩) len c]] w fun e w' => e = .returned (.int .i64 (-1)) ∧ Kept (fun _ => False) w w' := by
  have K0 := (Kept.refl (fun _ => False) w).alloc (.cells #[.int .i64 t, .int .i64 s, .int .i64 n, .int .i64 r, .slice (some ⟨g, o, none⟩) len c] 24)
  obtain ⟨b0, b1, b2, b3, b4⟩ := (CtAt.new w t s n r (.slice (some ⟨g, o, none⟩) len c)).cells
  have y0 := (K0.cell (lt_of_cell x0) id).trans x0
  have y1 := (K0.cell (lt_of_cell x1) id).trans x1
  have y2 := (K0.cell (lt_of_cell x2) id).trans x2
  have y3 := (K0.cell (lt_of_cell x3) id).trans x3
  have y4 := (K0.cell (lt_of_cell x4) id).trans x4
  have hlz : (0 : Int) < (len : Int) := by omega
  have hl0 : ¬ (len : Int) = 0 := by omega
  subst hV
  have hv : (T != 0) = true := by
    rw [bne_iff_ne]
    omega
  clear h
  have HK := hid K0
  clear x0 x1 x2 x3 x4 K0
  go_enter Tryz.func13, Tryz.ntmps13
  go_wp2
  go_ret
  exact ⟨rfl, HK.out.alloc _⟩

set_option maxHeartbeats 4000000 in
set_option maxRecDepth 100000 in
theorem rKind_h (t s n r : Int) (g o len c : Nat) (m q : Bool) (V T : Int) (x : ByteArray) (hl : 0 < len) (_hc : len ≤ c) (w : World) (x0 : w.cell? ⟨g, o, none⟩ = some (.bool m)) (x1 : w.cell? ⟨g, o + 1, none⟩ = some (.bool q)) (x2 : w.cell? ⟨g, o + 2, none⟩ = some (.int .i64 V)) (x3 : w.cell? ⟨g, o + 3, none⟩ = some (.int .i64 T)) (x4 : w.cell? ⟨g, o + 4, none⟩ = some (.string x)) (hV : V = 0) (hT : T = 0) (hq : q = true) :
    Calls Tryz.prog 13 #[.agg #[.int .i64 t, .int .i64 s, .int .i64 n, .int .i64 r, .slice (some ⟨g, o, none⟩) len c]] w fun e w' => e = .returned (.int .i64 (-1)) ∧ Kept (fun _ => False) w w' := by
  have K0 := (Kept.refl (fun _ => False) w).alloc (.cells #[.int .i64 t, .int .i64 s, .int .i64 n, .int .i64 r, .slice (some ⟨g, o, none⟩) len c] 24)
  obtain ⟨b0, b1, b2, b3, b4⟩ := (CtAt.new w t s n r (.slice (some ⟨g, o, none⟩) len c)).cells
  have y0 := (K0.cell (lt_of_cell x0) id).trans x0
  have y1 := (K0.cell (lt_of_cell x1) id).trans x1
  have y2 := (K0.cell (lt_of_cell x2) id).trans x2
  have y3 := (K0.cell (lt_of_cell x3) id).trans x3
  have y4 := (K0.cell (lt_of_cell x4) id).trans x4
  have hlz : (0 : Int) < (len : Int) := by omega
  have hl0 : ¬ (len : Int) = 0 := by omega
  subst hV hT hq
  have HK := hid K0
  clear x0 x1 x2 x3 x4 K0
  go_enter Tryz.func13, Tryz.ntmps13
  go_wp2
  go_ret
  exact ⟨rfl, HK.out.alloc _⟩

set_option maxHeartbeats 4000000 in
set_option maxRecDepth 100000 in
theorem rKind_s (t s n r : Int) (g o len c : Nat) (m q : Bool) (V T : Int) (x : ByteArray) (hl : 0 < len) (_hc : len ≤ c) (w : World) (x0 : w.cell? ⟨g, o, none⟩ = some (.bool m)) (x1 : w.cell? ⟨g, o + 1, none⟩ = some (.bool q)) (x2 : w.cell? ⟨g, o + 2, none⟩ = some (.int .i64 V)) (x3 : w.cell? ⟨g, o + 3, none⟩ = some (.int .i64 T)) (x4 : w.cell? ⟨g, o + 4, none⟩ = some (.string x)) (hV : V = 0) (hT : T = 0) (hq : q = false) (h : x.size ≠ 2) :
    Calls Tryz.prog 13 #[.agg #[.int .i64 t, .int .i64 s, .int .i64 n, .int .i64 r, .slice (some ⟨g, o, none⟩) len c]] w fun e w' => e = .returned (.int .i64 (-1)) ∧ Kept (fun _ => False) w w' := by
  have K0 := (Kept.refl (fun _ => False) w).alloc (.cells #[.int .i64 t, .int .i64 s, .int .i64 n, .int .i64 r, .slice (some ⟨g, o, none⟩) len c] 24)
  obtain ⟨b0, b1, b2, b3, b4⟩ := (CtAt.new w t s n r (.slice (some ⟨g, o, none⟩) len c)).cells
  have y0 := (K0.cell (lt_of_cell x0) id).trans x0
  have y1 := (K0.cell (lt_of_cell x1) id).trans x1
  have y2 := (K0.cell (lt_of_cell x2) id).trans x2
  have y3 := (K0.cell (lt_of_cell x3) id).trans x3
  have y4 := (K0.cell (lt_of_cell x4) id).trans x4
  have hlz : (0 : Int) < (len : Int) := by omega
  have hl0 : ¬ (len : Int) = 0 := by omega
  subst hV hT hq
  have hv : ((x.size : Int) != 2) = true := by
    rw [bne_iff_ne]
    omega
  clear h
  have HK := hid K0
  clear x0 x1 x2 x3 x4 K0
  go_enter Tryz.func13, Tryz.ntmps13
  go_wp2
  go_ret
  exact ⟨rfl, HK.out.alloc _⟩

set_option maxHeartbeats 4000000 in
set_option maxRecDepth 100000 in
theorem rKind_ok (t s n r : Int) (g o len c : Nat) (m q : Bool) (V T : Int) (x : ByteArray) (hl : 0 < len) (_hc : len ≤ c) (w : World) (x0 : w.cell? ⟨g, o, none⟩ = some (.bool m)) (x1 : w.cell? ⟨g, o + 1, none⟩ = some (.bool q)) (x2 : w.cell? ⟨g, o + 2, none⟩ = some (.int .i64 V)) (x3 : w.cell? ⟨g, o + 3, none⟩ = some (.int .i64 T)) (x4 : w.cell? ⟨g, o + 4, none⟩ = some (.string x)) (hN : NumAt) (hV : V = 0) (hT : T = 0) (hq : q = false) (h : x.size = 2) :
    Calls Tryz.prog 13 #[.agg #[.int .i64 t, .int .i64 s, .int .i64 n, .int .i64 r, .slice (some ⟨g, o, none⟩) len c]] w fun e w' => e = .returned (.int .i64 (numAt x 0 : Int)) ∧ Kept (fun _ => False) w w' := by
  have K0 := (Kept.refl (fun _ => False) w).alloc (.cells #[.int .i64 t, .int .i64 s, .int .i64 n, .int .i64 r, .slice (some ⟨g, o, none⟩) len c] 24)
  obtain ⟨b0, b1, b2, b3, b4⟩ := (CtAt.new w t s n r (.slice (some ⟨g, o, none⟩) len c)).cells
  have y0 := (K0.cell (lt_of_cell x0) id).trans x0
  have y1 := (K0.cell (lt_of_cell x1) id).trans x1
  have y2 := (K0.cell (lt_of_cell x2) id).trans x2
  have y3 := (K0.cell (lt_of_cell x3) id).trans x3
  have y4 := (K0.cell (lt_of_cell x4) id).trans x4
  have hlz : (0 : Int) < (len : Int) := by omega
  have hl0 : ¬ (len : Int) = 0 := by omega
  subst hV hT hq
  have hz : ((x.size : Int) != 2) = false := by
    simp [h]
  have HN := hid (fun W => hN x (by omega) 0 (by omega) W)
  clear h
  have HK := hid K0
  clear x0 x1 x2 x3 x4 K0
  go_enter Tryz.func13, Tryz.ntmps13
  go_wp2_with fail
  refine (HN.out _).mono ?_
  rintro e w1 ⟨rfl, hk⟩
  have HK1 := hid ((HK.out.alloc _).trans hk)
  clear hk
  go_wp2
  go_ret
  exact ⟨rfl, HK1.out⟩

/-- Of a list whose first value lies there. -/
theorem rKind_some (hN : NumAt) (t s n r : Int) (g o len c : Nat) (x : Av) (l : List Av) (hl : 0 < len) (hc : len ≤ c) (w : World) (x0 : w.cell? ⟨g, o, none⟩ = some (.bool x.must)) (x1 : w.cell? ⟨g, o + 1, none⟩ = some (.bool x.hidden)) (x2 : w.cell? ⟨g, o + 2, none⟩ = some (.int .i64 x.vendor)) (x3 : w.cell? ⟨g, o + 3, none⟩ = some (.int .i64 x.type)) (x4 : w.cell? ⟨g, o + 4, none⟩ = some (.string x.value)) :
    Calls Tryz.prog 13 #[.agg #[.int .i64 t, .int .i64 s, .int .i64 n, .int .i64 r, .slice (some ⟨g, o, none⟩) len c]] w fun e w' => e = .returned (.int .i64 (kindF (x :: l))) ∧ Kept (fun _ => False) w w' := by
  rw [show kindF (x :: l) = (if x.vendor = 0 ∧ x.type = 0 ∧ x.hidden = false ∧ x.value.size = 2 then (numAt x.value 0 : Int) else -1) from rfl]
  by_cases hV : x.vendor = 0
  · by_cases hT : x.type = 0
    · cases hq : x.hidden with
      | true =>
        rw [if_neg (by simp)]
        exact rKind_h t s n r g o len c x.must x.hidden x.vendor x.type x.value hl hc w x0 x1 x2 x3 x4 hV hT hq
      | false =>
        by_cases hs : x.value.size = 2
        · rw [if_pos ⟨hV, hT, rfl, hs⟩]
          exact rKind_ok t s n r g o len c x.must x.hidden x.vendor x.type x.value hl hc w x0 x1 x2 x3 x4 hN hV hT hq hs
        · rw [if_neg (fun h => hs h.2.2.2)]
          exact rKind_s t s n r g o len c x.must x.hidden x.vendor x.type x.value hl hc w x0 x1 x2 x3 x4 hV hT hq hs
    · rw [if_neg (fun h => hT h.2.1)]
      exact rKind_t t s n r g o len c x.must x.hidden x.vendor x.type x.value hl hc w x0 x1 x2 x3 x4 hV hT
  · rw [if_neg (fun h => hV h.1)]
    exact rKind_v t s n r g o len c x.must x.hidden x.vendor x.type x.value hl hc w x0 x1 x2 x3 x4 hV
end Go.Proofs.YtkneogfeokckjaaGreatDoor

namespace Go.Proofs.YtkneogfeokckjaaGreatDoor
open Go.RowKit

set_option maxHeartbeats 4000000 in
set_option maxRecDepth 100000 in
theorem putC_no1 (t s n r : Int) (p : Option Addr) (k c : Nat) (x : ByteArray) (h0 : wordB t = false) (w : World) :
    Calls Tryz.prog 8 #[.agg #[.int .i64 t, .int .i64 s, .int .i64 n, .int .i64 r, .slice p k c], .string x] w fun e w' => e = .returned (.tuple #[.string ⟨#[]⟩, .int .i64 1]) ∧ Kept (fun _ => False) w w' := by
  have L0 := hid (CtAt.new w t s n r (.slice p k c))
  have K0 := hid (Kept.refl (fun _ => False) (w.alloc (.cells #[.int .i64 t, .int .i64 s, .int .i64 n, .int .i64 r, .slice p k c] 24)))
  have KA := hid ((Kept.refl (fun _ => False) w).alloc (.cells #[.int .i64 t, .int .i64 s, .int .i64 n, .int .i64 r, .slice p k c] 24))
  have HW0 := hid (fun W => rWord_any t W)
  rw [h0] at HW0
  clear h0
  obtain ⟨b0, b1, b2, b3, b4⟩ := L0.out.cells
  go_enter Tryz.func8, Tryz.ntmps8
  go_wp2_with fail
  refine (HW0.out _).mono ?_
  rintro e w1 ⟨rfl, hk⟩
  have K1 := hid (K0.out.trans hk)
  clear hk b0 b1 b2 b3 b4 HW0
  obtain ⟨b0, b1, b2, b3, b4⟩ := (L0.out.kept K1.out).cells
  go_wp2
  go_ret2
  exact ⟨rfl, KA.out.trans K1.out⟩

set_option maxHeartbeats 4000000 in
set_option maxRecDepth 100000 in
theorem putC_no2 (t s n r : Int) (p : Option Addr) (k c : Nat) (x : ByteArray) (h0 : wordB t = true) (h1 : wordB s = false) (w : World) :
    Calls Tryz.prog 8 #[.agg #[.int .i64 t, .int .i64 s, .int .i64 n, .int .i64 r, .slice p k c], .string x] w fun e w' => e = .returned (.tuple #[.string ⟨#[]⟩, .int .i64 1]) ∧ Kept (fun _ => False) w w' := by
  have L0 := hid (CtAt.new w t s n r (.slice p k c))
  have K0 := hid (Kept.refl (fun _ => False) (w.alloc (.cells #[.int .i64 t, .int .i64 s, .int .i64 n, .int .i64 r, .slice p k c] 24)))
  have KA := hid ((Kept.refl (fun _ => False) w).alloc (.cells #[.int .i64 t, .int .i64 s, .int .i64 n, .int .i64 r, .slice p k c] 24))
  have HW0 := hid (fun W => rWord_any t W)
  rw [h0] at HW0
  clear h0
  have HW1 := hid (fun W => rWord_any s W)
  rw [h1] at HW1
  clear h1
  obtain ⟨b0, b1, b2, b3, b4⟩ := L0.out.cells
  go_enter Tryz.func8, Tryz.ntmps8
  go_wp2_with fail
  refine (HW0.out _).mono ?_
  rintro e w1 ⟨rfl, hk⟩
  have K1 := hid (K0.out.trans hk)
  clear hk b0 b1 b2 b3 b4 HW0
  obtain ⟨b0, b1, b2, b3, b4⟩ := (L0.out.kept K1.out).cells
  go_wp2_with fail
  refine (HW1.out _).mono ?_
  rintro e w2 ⟨rfl, hk⟩
  have K2 := hid (K1.out.trans hk)
  clear hk b0 b1 b2 b3 b4 HW1
  obtain ⟨b0, b1, b2, b3, b4⟩ := (L0.out.kept K2.out).cells
  go_wp2
  go_ret2
  exact ⟨rfl, KA.out.trans K2.out⟩

set_option maxHeartbeats 4000000 in
set_option maxRecDepth 100000 in
theorem putC_no3 (t s n r : Int) (p : Option Addr) (k c : Nat) (x : ByteArray) (h0 : wordB t = true) (h1 : wordB s = true) (h2 : wordB n = false) (w : World) :
    Calls Tryz.prog 8 #[.agg #[.int .i64 t, .int .i64 s, .int .i64 n, .int .i64 r, .slice p k c], .string x] w fun e w' => e = .returned (.tuple #[.string ⟨#[]⟩, .int .i64 1]) ∧ Kept (fun _ => False) w w' := by
  have L0 := hid (CtAt.new w t s n r (.slice p k c))
  have K0 := hid (Kept.refl (fun _ => False) (w.alloc (.cells #[.int .i64 t, .int .i64 s, .int .i64 n, .int .i64 r, .slice p k c] 24)))
  have KA := hid ((Kept.refl (fun _ => False) w).alloc (.cells #[.int .i64 t, .int .i64 s, .int .i64 n, .int .i64 r, .slice p k c] 24))
  have HW0 := hid (fun W => rWord_any t W)
  rw [h0] at HW0
  clear h0
  have HW1 := hid (fun W => rWord_any s W)
  rw [h1] at HW1
  clear h1
  have HW2 := hid (fun W => rWord_any n W)
  rw [h2] at HW2
  clear h2
  obtain ⟨b0, b1, b2, b3, b4⟩ := L0.out.cells
  go_enter Tryz.func8, Tryz.ntmps8
  go_wp2_with fail
  refine (HW0.out _).mono ?_
  rintro e w1 ⟨rfl, hk⟩
  have K1 := hid (K0.out.trans hk)
  clear hk b0 b1 b2 b3 b4 HW0
  obtain ⟨b0, b1, b2, b3, b4⟩ := (L0.out.kept K1.out).cells
  go_wp2_with fail
  refine (HW1.out _).mono ?_
  rintro e w2 ⟨rfl, hk⟩
  have K2 := hid (K1.out.trans hk)
  clear hk b0 b1 b2 b3 b4 HW1
  obtain ⟨b0, b1, b2, b3, b4⟩ := (L0.out.kept K2.out).cells
  go_wp2_with fail
  refine (HW2.out _).mono ?_
  rintro e w3 ⟨rfl, hk⟩
  have K3 := hid (K2.out.trans hk)
  clear hk b0 b1 b2 b3 b4 HW2
  obtain ⟨b0, b1, b2, b3, b4⟩ := (L0.out.kept K3.out).cells
  go_wp2
  go_ret2
  exact ⟨rfl, KA.out.trans K3.out⟩

set_option maxHeartbeats 4000000 in
set_option maxRecDepth 100000 in
theorem putC_no4 (t s n r : Int) (p : Option Addr) (k c : Nat) (x : ByteArray) (h0 : wordB t = true) (h1 : wordB s = true) (h2 : wordB n = true) (h3 : wordB r = false) (w : World) :
    Calls Tryz.prog 8 #[.agg #[.int .i64 t, .int .i64 s, .int .i64 n, .int .i64 r, .slice p k c], .string x] w fun e w' => e = .returned (.tuple #[.string ⟨#[]⟩, .int .i64 1]) ∧ Kept (fun _ => False) w w' := by
  have L0 := hid (CtAt.new w t s n r (.slice p k c))
  have K0 := hid (Kept.refl (fun _ => False) (w.alloc (.cells #[.int .i64 t, .int .i64 s, .int .i64 n, .int .i64 r, .slice p k c] 24)))
  have KA := hid ((Kept.refl (fun _ => False) w).alloc (.cells #[.int .i64 t, .int .i64 s, .int .i64 n, .int .i64 r, .slice p k c] 24))
  have HW0 := hid (fun W => rWord_any t W)
  rw [h0] at HW0
  clear h0
  have HW1 := hid (fun W => rWord_any s W)
  rw [h1] at HW1
  clear h1
  have HW2 := hid (fun W => rWord_any n W)
  rw [h2] at HW2
  clear h2
  have HW3 := hid (fun W => rWord_any r W)
  rw [h3] at HW3
  clear h3
  obtain ⟨b0, b1, b2, b3, b4⟩ := L0.out.cells
  go_enter Tryz.func8, Tryz.ntmps8
  go_wp2_with fail
  refine (HW0.out _).mono ?_
  rintro e w1 ⟨rfl, hk⟩
  have K1 := hid (K0.out.trans hk)
  clear hk b0 b1 b2 b3 b4 HW0
  obtain ⟨b0, b1, b2, b3, b4⟩ := (L0.out.kept K1.out).cells
  go_wp2_with fail
  refine (HW1.out _).mono ?_
  rintro e w2 ⟨rfl, hk⟩
  have K2 := hid (K1.out.trans hk)
  clear hk b0 b1 b2 b3 b4 HW1
  obtain ⟨b0, b1, b2, b3, b4⟩ := (L0.out.kept K2.out).cells
  go_wp2_with fail
  refine (HW2.out _).mono ?_
  rintro e w3 ⟨rfl, hk⟩
  have K3 := hid (K2.out.trans hk)
  clear hk b0 b1 b2 b3 b4 HW2
  obtain ⟨b0, b1, b2, b3, b4⟩ := (L0.out.kept K3.out).cells
  go_wp2_with fail
  refine (HW3.out _).mono ?_
  rintro e w4 ⟨rfl, hk⟩
  have K4 := hid (K3.out.trans hk)
  clear hk b0 b1 b2 b3 b4 HW3
  obtain ⟨b0, b1, b2, b3, b4⟩ := (L0.out.kept K4.out).cells
  go_wp2
  go_ret2
  exact ⟨rfl, KA.out.trans K4.out⟩

set_option maxHeartbeats 4000000 in
set_option maxRecDepth 100000 in
theorem putC_err (t s n r : Int) (p : Option Addr) (k c : Nat) (x : ByteArray) (h0 : wordB t = true) (h1 : wordB s = true) (h2 : wordB n = true) (h3 : wordB r = true) (w : World) (PV : ByteArray) (E : Int) (hP : ∀ W, Kept (fun _ => False) w W → Calls Tryz.prog 37 #[.slice p k c, .string x] W fun e w' => e = .returned (.tuple #[.string PV, .int .i64 E]) ∧ Kept (fun _ => False) W w') (hE : E ≠ 0) :
    Calls Tryz.prog 8 #[.agg #[.int .i64 t, .int .i64 s, .int .i64 n, .int .i64 r, .slice p k c], .string x] w fun e w' => e = .returned (.tuple #[.string ⟨#[]⟩, .int .i64 E]) ∧ Kept (fun _ => False) w w' := by
  have HP := hid hP
  clear hP
  have hne : (E != 0) = true := by
    rw [bne_iff_ne]
    exact hE
  clear hE
  have L0 := hid (CtAt.new w t s n r (.slice p k c))
  have K0 := hid (Kept.refl (fun _ => False) (w.alloc (.cells #[.int .i64 t, .int .i64 s, .int .i64 n, .int .i64 r, .slice p k c] 24)))
  have KA := hid ((Kept.refl (fun _ => False) w).alloc (.cells #[.int .i64 t, .int .i64 s, .int .i64 n, .int .i64 r, .slice p k c] 24))
  have HW0 := hid (fun W => rWord_any t W)
  rw [h0] at HW0
  clear h0
  have HW1 := hid (fun W => rWord_any s W)
  rw [h1] at HW1
  clear h1
  have HW2 := hid (fun W => rWord_any n W)
  rw [h2] at HW2
  clear h2
  have HW3 := hid (fun W => rWord_any r W)
  rw [h3] at HW3
  clear h3
  obtain ⟨b0, b1, b2, b3, b4⟩ := L0.out.cells
  go_enter Tryz.func8, Tryz.ntmps8
  go_wp2_with fail
  refine (HW0.out _).mono ?_
  rintro e w1 ⟨rfl, hk⟩
  have K1 := hid (K0.out.trans hk)
  clear hk b0 b1 b2 b3 b4 HW0
  obtain ⟨b0, b1, b2, b3, b4⟩ := (L0.out.kept K1.out).cells
  go_wp2_with fail
  refine (HW1.out _).mono ?_
  rintro e w2 ⟨rfl, hk⟩
  have K2 := hid (K1.out.trans hk)
  clear hk b0 b1 b2 b3 b4 HW1
  obtain ⟨b0, b1, b2, b3, b4⟩ := (L0.out.kept K2.out).cells
  go_wp2_with fail
  refine (HW2.out _).mono ?_
  rintro e w3 ⟨rfl, hk⟩
  have K3 := hid (K2.out.trans hk)
  clear hk b0 b1 b2 b3 b4 HW2
  obtain ⟨b0, b1, b2, b3, b4⟩ := (L0.out.kept K3.out).cells
  go_wp2_with fail
  refine (HW3.out _).mono ?_
  rintro e w4 ⟨rfl, hk⟩
  have K4 := hid (K3.out.trans hk)
  clear hk b0 b1 b2 b3 b4 HW3
  obtain ⟨b0, b1, b2, b3, b4⟩ := (L0.out.kept K4.out).cells
  go_wp2_with fail
  refine (HP.out _ (KA.out.trans K4.out)).mono ?_
  rintro e w5 ⟨rfl, hk⟩
  have K5 := hid (K4.out.trans hk)
  clear hk b0 b1 b2 b3 b4 HP
  obtain ⟨b0, b1, b2, b3, b4⟩ := (L0.out.kept K5.out).cells
  go_wp2
  go_ret2
  exact ⟨rfl, KA.out.trans K5.out⟩

set_option maxHeartbeats 4000000 in
set_option maxRecDepth 100000 in
theorem putC_ok (t s n r : Nat) (p : Option Addr) (k c : Nat) (x : ByteArray) (h0 : wordB (t : Int) = true) (h1 : wordB (s : Int) = true) (h2 : wordB (n : Int) = true) (h3 : wordB (r : Int) = true) (w : World) (PV : ByteArray) (E : Int) (hP : ∀ W, Kept (fun _ => False) w W → Calls Tryz.prog 37 #[.slice p k c, .string x] W fun e w' => e = .returned (.tuple #[.string PV, .int .i64 E]) ∧ Kept (fun _ => False) W w') (hT : TwoAt) (hE : E = 0) (hV : PV.size ≤ 1000000) :
    Calls Tryz.prog 8 #[.agg #[.int .i64 (t : Int), .int .i64 (s : Int), .int .i64 (n : Int), .int .i64 (r : Int), .slice p k c], .string x] w fun e w' => e = .returned (.tuple #[.string (rawF t s n r PV), .int .i64 0]) ∧ Kept (fun _ => False) w w' := by
  subst hE
  have HP := hid hP
  have HR := hid (rRaw_any hT t s n r p k c PV hV)
  clear hP
  generalize rawF t s n r PV = RV at HR ⊢
  have L0 := hid (CtAt.new w t s n r (.slice p k c))
  have K0 := hid (Kept.refl (fun _ => False) (w.alloc (.cells #[.int .i64 (t : Int), .int .i64 (s : Int), .int .i64 (n : Int), .int .i64 (r : Int), .slice p k c] 24)))
  have KA := hid ((Kept.refl (fun _ => False) w).alloc (.cells #[.int .i64 (t : Int), .int .i64 (s : Int), .int .i64 (n : Int), .int .i64 (r : Int), .slice p k c] 24))
  have HW0 := hid (fun W => rWord_any (t : Int) W)
  rw [h0] at HW0
  clear h0
  have HW1 := hid (fun W => rWord_any (s : Int) W)
  rw [h1] at HW1
  clear h1
  have HW2 := hid (fun W => rWord_any (n : Int) W)
  rw [h2] at HW2
  clear h2
  have HW3 := hid (fun W => rWord_any (r : Int) W)
  rw [h3] at HW3
  clear h3
  obtain ⟨b0, b1, b2, b3, b4⟩ := L0.out.cells
  go_enter Tryz.func8, Tryz.ntmps8
  go_wp2_with fail
  refine (HW0.out _).mono ?_
  rintro e w1 ⟨rfl, hk⟩
  have K1 := hid (K0.out.trans hk)
  clear hk b0 b1 b2 b3 b4 HW0
  obtain ⟨b0, b1, b2, b3, b4⟩ := (L0.out.kept K1.out).cells
  go_wp2_with fail
  refine (HW1.out _).mono ?_
  rintro e w2 ⟨rfl, hk⟩
  have K2 := hid (K1.out.trans hk)
  clear hk b0 b1 b2 b3 b4 HW1
  obtain ⟨b0, b1, b2, b3, b4⟩ := (L0.out.kept K2.out).cells
  go_wp2_with fail
  refine (HW2.out _).mono ?_
  rintro e w3 ⟨rfl, hk⟩
  have K3 := hid (K2.out.trans hk)
  clear hk b0 b1 b2 b3 b4 HW2
  obtain ⟨b0, b1, b2, b3, b4⟩ := (L0.out.kept K3.out).cells
  go_wp2_with fail
  refine (HW3.out _).mono ?_
  rintro e w4 ⟨rfl, hk⟩
  have K4 := hid (K3.out.trans hk)
  clear hk b0 b1 b2 b3 b4 HW3
  obtain ⟨b0, b1, b2, b3, b4⟩ := (L0.out.kept K4.out).cells
  go_wp2_with fail
  refine (HP.out _ (KA.out.trans K4.out)).mono ?_
  rintro e w5 ⟨rfl, hk⟩
  have K5 := hid (K4.out.trans hk)
  clear hk b0 b1 b2 b3 b4 HP
  obtain ⟨b0, b1, b2, b3, b4⟩ := (L0.out.kept K5.out).cells
  go_wp2_with fail
  refine (HR.out _).mono ?_
  rintro e w6 ⟨rfl, hk⟩
  have K6 := hid (K5.out.trans hk)
  clear hk
  go_wp2
  go_ret2
  exact ⟨rfl, KA.out.trans K6.out⟩

theorem rPutCtl_any (hT : TwoAt) (t s n r : Int) (p : Option Addr) (k c : Nat) (x : ByteArray) (w : World) (PV : ByteArray) (E : Int) (hP : ∀ W, Kept (fun _ => False) w W → Calls Tryz.prog 37 #[.slice p k c, .string x] W fun e w' => e = .returned (.tuple #[.string PV, .int .i64 E]) ∧ Kept (fun _ => False) W w') (hV : PV.size ≤ 1000000) :
    Calls Tryz.prog 8 #[.agg #[.int .i64 t, .int .i64 s, .int .i64 n, .int .i64 r, .slice p k c], .string x] w fun e w' => e = .returned (.tuple #[.string (if wordsB t s n r = true then if E = 0 then rawF t s n r PV else ⟨#[]⟩ else ⟨#[]⟩), .int .i64 (if wordsB t s n r = true then E else 1)]) ∧ Kept (fun _ => False) w w' := by
  cases h0 : wordB t with
  | false =>
    rw [show wordsB t s n r = false from by simp [wordsB, h0]]
    exact putC_no1 t s n r p k c x h0 w
  | true =>
  cases h1 : wordB s with
  | false =>
    rw [show wordsB t s n r = false from by simp [wordsB, h1]]
    exact putC_no2 t s n r p k c x h0 h1 w
  | true =>
  cases h2 : wordB n with
  | false =>
    rw [show wordsB t s n r = false from by simp [wordsB, h2]]
    exact putC_no3 t s n r p k c x h0 h1 h2 w
  | true =>
  cases h3 : wordB r with
  | false =>
    rw [show wordsB t s n r = false from by simp [wordsB, h3]]
    exact putC_no4 t s n r p k c x h0 h1 h2 h3 w
  | true =>
  rw [show wordsB t s n r = true from by simp [wordsB, h0, h1, h2, h3], if_pos rfl, if_pos rfl]
  by_cases hE : E = 0
  · rw [if_pos hE]
    obtain ⟨t, rfl, _⟩ : ∃ k : Nat, t = (k : Int) ∧ True := ⟨t.toNat, by have := wordB_true h0; omega, trivial⟩
    obtain ⟨s, rfl, _⟩ : ∃ k : Nat, s = (k : Int) ∧ True := ⟨s.toNat, by have := wordB_true h1; omega, trivial⟩
    obtain ⟨n, rfl, _⟩ : ∃ k : Nat, n = (k : Int) ∧ True := ⟨n.toNat, by have := wordB_true h2; omega, trivial⟩
    obtain ⟨r, rfl, _⟩ : ∃ k : Nat, r = (k : Int) ∧ True := ⟨r.toNat, by have := wordB_true h3; omega, trivial⟩
    rw [hE]
    exact putC_ok t s n r p k c x h0 h1 h2 h3 w PV E hP hT hE hV
  · rw [if_neg hE]
    exact putC_err t s n r p k c x h0 h1 h2 h3 w PV E hP hE

end Go.Proofs.YtkneogfeokckjaaGreatDoor
