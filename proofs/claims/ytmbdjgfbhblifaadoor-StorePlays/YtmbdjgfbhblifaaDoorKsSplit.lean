/- The contract of store.Split: the name ahead of the last sign '@' and the realm behind it; two names are the same by Go's comparison just if they are. -/
import Derived.Test.YtmbdjgfbhblifaaDoorStPlain
import Derived.Test.YtmbdjgfbhblifaaDoorTagKit
import Derived.Test.YtmbdjgfbhblifaaDoorClone
import Derived.Test.YtmbdjgfbhblifaaDoorKept
import Derived.Shelf.Strings.LastIndex
import Derived.Deep.RegionWith
import Derived.Deep.RegionHeld3
import Derived.DeepKeys
import Derived.Deep.DeepCutAuto
namespace Go.Proofs.YtmbdjgfbhblifaaDoor
open Go.RowKit Go.Shelf

def lixRen : Ren := ⟨fun | 149 => 28 | 222 => 38 | n => n, fun n => n, fun n => n⟩
theorem lixLays : Lays.n149 Tryd.prog lixRen := {
  mixed := by kernel_rfl, f149 := by kernel_rfl, f222 := by kernel_rfl,
  t3 := by kernel_rfl, a3 := fun w => by kernel_rfl, z3 := fun w => by kernel_rfl, v3 := fun w => by kernel_rfl,
  t4 := by kernel_rfl, a4 := fun w => by kernel_rfl, z4 := fun w => by kernel_rfl, v4 := fun w => by kernel_rfl,
  t5 := by kernel_rfl, a5 := fun w => by kernel_rfl, z5 := fun w => by kernel_rfl, v5 := fun w => by kernel_rfl,
  t9 := by kernel_rfl, a9 := fun w => by kernel_rfl, z9 := fun w => by kernel_rfl, v9 := fun w => by kernel_rfl }
theorem lix_any (s : ByteArray) (hs : s.size ≤ 140737488355328) (w : World) :
    Calls Tryd.prog 28 #[.string s, .int .u8 64] w fun e w' => e = .returned (.int .i64 (Lib.lastIndexByte s 64)) ∧ w' = w := Any.strings_LastIndexByte lixLays s 64 (by omega) w

theorem getD_bang (s : ByteArray) (k : Nat) : s.data.toList.getD k 0 = s.data[k]! := by
  rw [List.getD_eq_getElem?_getD, Array.getElem!_eq_getD, Array.getD_eq_getD_getElem?]
  simp
  rfl
theorem splitN_lix (s : ByteArray) (k : Nat) (hk : k ≤ s.size) :
    (Lib.lastIdx s 64 k = -1 ∧ splitN s k = (s, ⟨#[]⟩)) ∨ ∃ i : Nat, i < s.size ∧ Lib.lastIdx s 64 k = i ∧ splitN s k = (s.extract 0 i, s.extract (i + 1) s.size) := by
  induction k with
  | zero => exact Or.inl ⟨rfl, rfl⟩
  | succ k ih =>
    unfold splitN Lib.lastIdx
    rw [getD_bang]
    by_cases hq : s.data[k]! = 64
    · rw [if_pos hq, if_pos (by rw [hq]; rfl)]
      exact Or.inr ⟨k, by omega, rfl, rfl⟩
    · rw [if_neg hq, if_neg (fun e => hq (UInt8.toNat_inj.1 (by show _ = 64; omega)))]
      exact ih (by omega)

set_option maxHeartbeats 1000000 in
set_option maxRecDepth 100000 in
theorem split_any (s : ByteArray) (hs : s.size ≤ 140737488355328) (w : World) :
    Calls Tryd.prog 18 #[.string s] w fun e w' => e = .returned (.agg #[.string (splitF s).1, .string (splitF s).2]) ∧ Kept (fun _ => False) w w' := by
  have HL := hid (fun W => lix_any s hs W)
  have HC : Hid (∀ (x : ByteArray) (W : World), x.size ≤ 140737488355328 → Calls Tryd.prog 20 #[.string x] W fun e w' => e = .returned (.string x) ∧ Kept (fun _ => False) W w') := fun x W hx => (clone_any x W (by omega)).mono fun _ _ ⟨h1, h2⟩ => ⟨h1, Kept.of_below h2 (fun i h3 h4 => by omega)⟩
  have H0 : Hid ((w.alloc (.cells #[.string ⟨#[]⟩, .string ⟨#[]⟩] 47)).heap[w.heap.size]? = some (.cells #[.string ⟨#[]⟩, .string ⟨#[]⟩] 47 (0, 0))) := heap_alloc_new w _
  have K0 := hid ((Kept.refl (fun _ => False) w).alloc (.cells #[.string ⟨#[]⟩, .string ⟨#[]⟩] 47))
  have hlt : Hid (w.heap.size < (w.alloc (.cells #[.string ⟨#[]⟩, .string ⟨#[]⟩] 47)).heap.size) := (Array.getElem?_eq_some_iff.1 H0.out).1
  have hN : s.size ≤ 140737488355328 := hs
  unfold Lib.lastIndexByte at HL
  have hsp := splitN_lix s s.size (Nat.le_refl _)
  have e0 : splitF s = splitN s s.size := rfl
  rw [e0]
  generalize Lib.lastIdx s 64 s.size = X at *
  generalize splitN s s.size = Y at *
  clear e0 hs
  rcases hsp with ⟨rfl, rfl⟩ | ⟨i, hi, rfl, rfl⟩
  · go_enter Tryd.func18, Tryd.ntmps18
    go_upto_region 1 with fail
    generalize w.alloc (.cells #[.string ⟨#[]⟩, .string ⟨#[]⟩] 47) = W at *
    go_wp2_with fail
    refine (HL.out _).mono ?_
    rintro e w1 ⟨rfl, hw⟩
    rw [hw]
    clear hw
    go_wp2_with fail
    refine (HC.out _ _ hN).mono ?_
    rintro e w2 ⟨rfl, hk⟩
    have HK := hid hk
    have o0 : w2.cell? ⟨w.heap.size, 0, none⟩ = some (.string ⟨#[]⟩) := by simp [World.cell?, hk.block _ hlt.out id, H0.out]
    have o1 : w2.cell? ⟨w.heap.size, 1, none⟩ = some (.string ⟨#[]⟩) := by simp [World.cell?, hk.block _ hlt.out id, H0.out]
    have f0 : w2.frozen? ⟨w.heap.size, 0, none⟩ = false := by simp [World.frozen?, hk.block _ hlt.out id, H0.out]
    have f1 : w2.frozen? ⟨w.heap.size, 1, none⟩ = false := by simp [World.frozen?, hk.block _ hlt.out id, H0.out]
    clear hk
    go_wp2
    refine bodyPost_ret (v := .agg #[.string s, .string ⟨#[]⟩]) (by simp [results, Tryd.results18, go_sem, o0, o1]) rfl ⟨rfl, ?_⟩
    exact ((K0.out.trans HK.out).setCell (Or.inl (Nat.le_refl _)) _).setCell (Or.inl (Nat.le_refl _)) _
  · have y1 := first_at s i (by omega) (i : Int) rfl
    have y2 := last_at s (i + 1) (by omega) ((i : Int) + 1) (by omega)
    have hw1 : IntKind.i64.wrap ((i : Int) + 1) = (i : Int) + 1 := by rw [IntKind.wrap_i64]; omega
    have hz : ¬ (i : Int) < 0 := by omega
    have hP : (s.extract 0 i).size ≤ 140737488355328 := by simp only [ByteArray.size_extract]; omega
    have hQ : (s.extract (i + 1) s.size).size ≤ 140737488355328 := by simp only [ByteArray.size_extract]; omega
    generalize s.extract 0 i = P at *
    generalize s.extract (i + 1) s.size = Q at *
    clear hN
    go_enter Tryd.func18, Tryd.ntmps18
    go_upto_region 1 with fail
    generalize w.alloc (.cells #[.string ⟨#[]⟩, .string ⟨#[]⟩] 47) = W at *
    have G0 : Hid (∀ W', Kept (fun _ => False) W W' → W'.cell? ⟨w.heap.size, 0, none⟩ = some (.string ⟨#[]⟩) ∧ W'.cell? ⟨w.heap.size, 1, none⟩ = some (.string ⟨#[]⟩) ∧ W'.frozen? ⟨w.heap.size, 0, none⟩ = false ∧ W'.frozen? ⟨w.heap.size, 1, none⟩ = false) := fun W' hk =>
      ⟨by simp [World.cell?, hk.block _ hlt.out id, H0.out], by simp [World.cell?, hk.block _ hlt.out id, H0.out], by simp [World.frozen?, hk.block _ hlt.out id, H0.out], by simp [World.frozen?, hk.block _ hlt.out id, H0.out]⟩
    go_wp2_with fail
    refine (HL.out _).mono ?_
    rintro e w1 ⟨rfl, hw⟩
    rw [hw]
    clear hw
    go_wp2_with fail
    refine wp_region_held_drew (S := Kept (fun i => i = w.heap.size) W) (by kernel_rfl) ((Kept.refl _ W).drew) (fun hSd => ?_)
    refine wpAnyH_take (i := 0) (v := ?_) rfl (by kernel_rfl) (by kernel_rfl) (by kernel_rfl) (fun _ _ _ h => h) (Or.inl ⟨by kernel_rfl, fun W hSW => by go_simp; try with_reducible rfl⟩) (by assumption) ?_
    try simp only [List.getElem_toArray]
    try simp only [List.getElem_cons_succ]
    try simp only [List.getElem_cons_zero]
    try simp only [Act.put]
    try simp only [List.setIfInBounds_toArray]
    try simp only [List.set_cons_succ]
    try simp only [List.set_cons_zero]
    refine wpAnyH_take (i := 1) (v := ?_) rfl (by kernel_rfl) (by kernel_rfl) (by kernel_rfl) (fun _ _ _ h => h) (Or.inl ⟨by kernel_rfl, fun W hSW => by go_simp; try with_reducible rfl⟩) (by assumption) ?_
    try simp only [List.getElem_toArray]
    try simp only [List.getElem_cons_succ]
    try simp only [List.getElem_cons_zero]
    try simp only [Act.put]
    try simp only [List.setIfInBounds_toArray]
    try simp only [List.set_cons_succ]
    try simp only [List.set_cons_zero]
    refine wpAnyH_take (i := 2) (v := ?_) rfl (by kernel_rfl) (by kernel_rfl) (by kernel_rfl) (fun _ _ _ h => h) (Or.inl ⟨by kernel_rfl, fun W hSW => by go_simp; try with_reducible rfl⟩) (by assumption) ?_
    try simp only [List.getElem_toArray]
    try simp only [List.getElem_cons_succ]
    try simp only [List.getElem_cons_zero]
    try simp only [Act.put]
    try simp only [List.setIfInBounds_toArray]
    try simp only [List.set_cons_succ]
    try simp only [List.set_cons_zero]
    refine wpAnyH_take (i := 4) (v := ?_) rfl (by kernel_rfl) (by kernel_rfl) (by kernel_rfl) (fun _ _ _ h => h) (Or.inl ⟨by kernel_rfl, fun W hSW => by go_simp; try with_reducible rfl⟩) (by assumption) ?_
    try simp only [List.getElem_toArray]
    try simp only [List.getElem_cons_succ]
    try simp only [List.getElem_cons_zero]
    try simp only [Act.put]
    try simp only [List.setIfInBounds_toArray]
    try simp only [List.set_cons_succ]
    try simp only [List.set_cons_zero]
    refine wpAnyH_take (i := 5) (v := ?_) rfl (by kernel_rfl) (by kernel_rfl) (by kernel_rfl) (fun _ _ _ h => h) (Or.inl ⟨by kernel_rfl, fun W hSW => by go_simp; try with_reducible rfl⟩) (by assumption) ?_
    try simp only [List.getElem_toArray]
    try simp only [List.getElem_cons_succ]
    try simp only [List.getElem_cons_zero]
    try simp only [Act.put]
    try simp only [List.setIfInBounds_toArray]
    try simp only [List.set_cons_succ]
    try simp only [List.set_cons_zero]
    refine wpAnyH_take (i := 6) (v := ?_) rfl (by kernel_rfl) (by kernel_rfl) (by kernel_rfl) (fun _ _ _ h => h) (Or.inl ⟨by kernel_rfl, fun W hSW => by go_simp; try with_reducible rfl⟩) (by assumption) ?_
    try simp only [List.getElem_toArray]
    try simp only [List.getElem_cons_succ]
    try simp only [List.getElem_cons_zero]
    try simp only [Act.put]
    try simp only [List.setIfInBounds_toArray]
    try simp only [List.set_cons_succ]
    try simp only [List.set_cons_zero]
    refine wpAnyH_take (i := 7) (v := ?_) rfl (by kernel_rfl) (by kernel_rfl) (by kernel_rfl) (fun _ _ _ h => h) (Or.inl ⟨by kernel_rfl, fun W hSW => by go_simp; try with_reducible rfl⟩) (by assumption) ?_
    try simp only [List.getElem_toArray]
    try simp only [List.getElem_cons_succ]
    try simp only [List.getElem_cons_zero]
    try simp only [Act.put]
    try simp only [List.setIfInBounds_toArray]
    try simp only [List.set_cons_succ]
    try simp only [List.set_cons_zero]
    refine wpAnyH_ready (rs := [3]) (by kernel_rfl) (by simp) ?_
    refine AllReadyH.cons rfl (fun K hK => ?_) AllReadyH.nil
    go_simp
    refine (HC.out _ _ hP).mono ?_
    rintro e wa ⟨rfl, ha⟩
    have hA : Kept (fun i => i = w.heap.size) W wa := (Kept.refl _ W).drew.trans (ha.mono (fun _ _ h => h.elim))
    have hA0 : Kept (fun _ => False) W wa := (Kept.refl _ W).drew.trans ha
    refine hK.out _ _ (hA) (fun _ => ?_)
    clear hK K
    try simp only [List.getElem_toArray]
    try simp only [List.getElem_cons_succ]
    try simp only [List.getElem_cons_zero]
    try simp only [Act.put]
    try simp only [List.setIfInBounds_toArray]
    try simp only [List.set_cons_succ]
    try simp only [List.set_cons_zero]
    refine wpAnyH_ready (rs := [8]) (by kernel_rfl) (by simp) ?_
    refine AllReadyH.cons rfl (fun K hK => ?_) AllReadyH.nil
    go_simp
    refine (HC.out _ _ hQ).mono ?_
    rintro e wb ⟨rfl, hb⟩
    have hB0 : Kept (fun _ => False) W wb := hA0.trans hb
    have hB : Kept (fun i => i = w.heap.size) W wb := hB0.mono (fun _ _ h => h.elim)
    obtain ⟨o0, o1, f0, f1⟩ := G0.out wb hB0
    have hE : Kept (fun i => i = w.heap.size) W ((wb.setCell ⟨w.heap.size, 0, none⟩ (.string P)).setCell ⟨w.heap.size, 1, none⟩ (.string Q)) := (hB.setCell (p := ⟨w.heap.size, 0, none⟩) (Or.inr rfl) _).setCell (p := ⟨w.heap.size, 1, none⟩) (Or.inr rfl) _
    refine hK.out _ _ (hB) (fun _ => ?_)
    clear hK K
    try simp only [List.getElem_toArray]
    try simp only [List.getElem_cons_succ]
    try simp only [List.getElem_cons_zero]
    try simp only [Act.put]
    try simp only [List.setIfInBounds_toArray]
    try simp only [List.set_cons_succ]
    try simp only [List.set_cons_zero]
    refine wpAnyH_take (i := 9) (v := ?_) rfl (by kernel_rfl) (by kernel_rfl) (by kernel_rfl) (fun _ _ _ h => h) (Or.inl ⟨by kernel_rfl, fun W hSW => by go_simp; try with_reducible rfl⟩) (by assumption) ?_
    try simp only [List.getElem_toArray]
    try simp only [List.getElem_cons_succ]
    try simp only [List.getElem_cons_zero]
    try simp only [Act.put]
    try simp only [List.setIfInBounds_toArray]
    try simp only [List.set_cons_succ]
    try simp only [List.set_cons_zero]
    refine wpAnyH_ready (rs := [10]) (by kernel_rfl) (by simp) ?_
    refine AllReadyH.cons rfl (fun K hK => ?_) AllReadyH.nil
    go_simp
    refine hK.out _ _ (hE) (fun _ => ?_)
    clear hK K
    try simp only [List.getElem_toArray]
    try simp only [List.getElem_cons_succ]
    try simp only [List.getElem_cons_zero]
    try simp only [Act.put]
    try simp only [List.setIfInBounds_toArray]
    try simp only [List.set_cons_succ]
    try simp only [List.set_cons_zero]
    refine wpAnyH_done (by kernel_rfl) ?_ _
    go_wp2
    refine bodyPost_ret (v := .agg #[.string P, .string Q]) (by simp [results, Tryd.results18, go_sem, o0, o1]) rfl ⟨rfl, ?_⟩
    exact K0.out.andThen hE (fun i hi e => by omega)
end Go.Proofs.YtmbdjgfbhblifaaDoor
