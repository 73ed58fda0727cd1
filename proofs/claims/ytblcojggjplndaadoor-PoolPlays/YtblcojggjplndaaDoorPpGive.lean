/- The contract of the program's pool's Give. -/
import Derived.Test.YtblcojggjplndaaDoorPpSmall
namespace Go.Proofs.YtblcojggjplndaaDoor
open Go.RowKit

theorem has_del {W : World} {mb : Nat} {x : Ad} {l : List Lt} (h : Assoc W Tryd.prog 34 mb (rowP (hasR x) 0 l)) {i : Nat} {e : Lt} (hi : l[i]? = some e) (he : e.is = true) (ht : I64 e.t) (hs : I64 e.s) (ty : TypeId) :
    ∃ w', (Builtin.delete_ #[56, 34] ty #[.map (some mb), keyV e.t e.s]).run Tryd.prog W = .ok (.tuple #[]) w' ∧ Assoc w' Tryd.prog 34 mb (rowP (hasR x) 0 (l.set i lt0)) ∧ Kept (fun i => i = mb) W w' := by
  obtain ⟨kl, hkl⟩ := key_reads ht hs
  obtain ⟨w', h1, h2, h3⟩ := h.drop (ty := ty) keyKey Tryd.underlying56 hkl (Or.inr ⟨_, rowP_off (f := hasR x) (k := 0) hi he (y := lt0) rfl⟩)
  exact ⟨w', h1, h2, keptM h3⟩
theorem who_del {W : World} {kb : Nat} {x : Ad} {l : List Lt} (h : Assoc W Tryd.prog 23 kb (rowP (whoR x) 0 l)) {i : Nat} {e : Lt} (hi : l[i]? = some e) (he : e.is = true) (ty : TypeId) :
    ∃ w', (Builtin.delete_ #[57, 23] ty #[.map (some kb), adV (addAd x (i : Int))]).run Tryd.prog W = .ok (.tuple #[]) w' ∧ Assoc w' Tryd.prog 23 kb (rowP (whoR x) 0 (l.set i lt0)) ∧ Kept (fun i => i = kb) W w' := by
  obtain ⟨kl, hkl⟩ := ad_reads (addAd x (i : Int))
  have hp := rowP_off (f := whoR x) (k := 0) hi he (y := lt0) rfl
  rw [Nat.zero_add] at hp
  obtain ⟨w', h1, h2, h3⟩ := h.drop (ty := ty) keyAddr Tryd.underlying57 hkl (Or.inr ⟨_, hp⟩)
  exact ⟨w', h1, h2, keptM h3⟩
/-- Both maps have turned to another list. -/
theorem PpIn.renew {w w1 : World} {base b mb kb : Nat} {x : Ad} {l l' : List Lt} (h : PpIn w base b (some mb) (some kb) x l) (hk : Kept (fun i => i = mb ∨ i = kb) w w1) (hn : l'.length = l.length) (hg : GoodL x l')
    (h1 : Assoc w1 Tryd.prog 34 mb (rowP (hasR x) 0 l')) (h2 : Assoc w1 Tryd.prog 23 kb (rowP (whoR x) 0 l')) : PpIn w1 base b (some mb) (some kb) x l' := by
  refine ⟨?_, fun e => (by cases e), fun e => (by cases e), fun mb' e => ?_, fun kb' e => ?_, h.ne, hg⟩
  · rw [hn]
    exact (hk.block b h.lt (fun e => by rcases e with e | e; exact h.neM rfl e; exact h.neK rfl e)).trans h.blk
  · cases e
    exact ⟨(h.has _ rfl).1, h1⟩
  · cases e
    exact ⟨(h.who _ rfl).1, h2⟩

section
variable {w : World} {base b : Nat} {m k : Option Nat} {x : Ad} {l : List Lt}
set_option maxHeartbeats 2000000 in
set_option maxRecDepth 100000 in
theorem give_any (h : PpIn w base b m k x l) {t s : Int} (ht : I64 t) (hs : I64 s) :
    Calls Tryd.prog 13 #[.pointer (some ⟨b, 0, none⟩), keyV t s] w fun e w' => e = .returned (.int .i64 (giveL l t s).1) ∧ PpAt w' base b x (giveL l t s).2 ∧ PpK base w w' := by
  have hk0 := (Kept.refl (fun _ => False) w).alloc (.cells #[.int .i64 t, .int .i64 s] 34)
  have H2 := hid (box2_new w 34 (.int .i64 t) (.int .i64 s))
  have HI := hid (h.kept0 hk0)
  have H0 := hid h
  have K0 := hid hk0
  have HH : Hid (∀ W, Kept (fun _ => False) w W → _) := hid (fun W hk => has_any (h.kept0 hk) ht hs)
  clear h hk0
  cases hf : findL l t s with
  | none =>
    have e1 : giveL l t s = (3, l) := by unfold giveL; rw [hf]
    have e2 : hasL x l t s = (ad0, false) := by unfold hasL; rw [hf]
    rw [e1]
    rw [e2] at HH
    unfold keyV adV ad0 at *
    clear hf e1 e2
    go_enter Tryd.func13, Tryd.ntmps13
    go_upto_region 1 with fail
    generalize w.alloc (.cells #[.int .i64 t, .int .i64 s] 34) = W at *
    obtain ⟨⟨c0, c1⟩, _⟩ := H2.out
    go_wp2_with fail
    refine (HH.out _ K0.out).mono ?_
    rintro e w1 ⟨rfl, hk1⟩
    have K1 := hid (K0.out.trans hk1)
    clear hk1 c0 c1
    go_wp2
    go_ret
    exact ⟨rfl, ⟨m, k, H0.out.kept0 (K1.out.alloc _)⟩, PpK.none (K1.out.alloc _)⟩
  | some i =>
    have e1 : giveL l t s = (0, l.set i lt0) := by unfold giveL; rw [hf]
    have e2 : hasL x l t s = (addAd x (i : Int), true) := by unfold hasL; rw [hf]
    rw [e1]
    rw [e2] at HH
    obtain ⟨e, hi, he, rfl, rfl⟩ := findL_hit hf
    obtain ⟨mb, kb, rfl, rfl⟩ := H0.out.some1 (fun e0 => by rw [e0] at hi; cases hi)
    obtain ⟨y, hy⟩ : ∃ y, addAd x (i : Int) = y := ⟨_, rfl⟩
    have HY := hid hy
    rw [hy] at HH
    have HD1 : Hid (∀ W, Kept (fun _ => False) w W → _) := hid (fun W hk => has_del ((H0.out.kept0 hk).has mb rfl).2 hi he ht hs 0)
    have HD2 : Hid (∀ W, Assoc W Tryd.prog 23 kb (rowP (whoR x) 0 l) → _) := hid (fun W hA => who_del hA hi he 0)
    rw [hy] at HD2
    have HG := hid (H0.out.good.off i)
    clear hf e1 e2 hy hi he
    obtain ⟨q, t, s⟩ := e
    unfold keyV adV at *
    simp only at *
    go_enter Tryd.func13, Tryd.ntmps13
    go_upto_region 1 with fail
    generalize w.alloc (.cells #[.int .i64 t, .int .i64 s] 34) = W at *
    obtain ⟨⟨c0, c1⟩, _⟩ := H2.out
    go_wp2_with fail
    refine (HH.out _ K0.out).mono ?_
    rintro e w1 ⟨rfl, hk1⟩
    have K1 := hid (K0.out.trans (hk1.alloc (.cells #[.int .u8 (y.a.toNat : Int), .int .u8 (y.b.toNat : Int), .int .u8 (y.c.toNat : Int), .int .u8 (y.d.toNat : Int)] 23)))
    have B2 := hid (H2.out.kept (hk1.alloc (.cells #[.int .u8 (y.a.toNat : Int), .int .u8 (y.b.toNat : Int), .int .u8 (y.c.toNat : Int), .int .u8 (y.d.toNat : Int)] 23)) (fun h => h))
    have B4 := hid (four4_new w1 23 (.int .u8 (y.a.toNat : Int)) (.int .u8 (y.b.toNat : Int)) (.int .u8 (y.c.toNat : Int)) (.int .u8 (y.d.toNat : Int)))
    clear hk1 c0 c1 HH
    go_upto_region 4 with fail
    generalize w1.alloc (.cells #[.int .u8 (y.a.toNat : Int), .int .u8 (y.b.toNat : Int), .int .u8 (y.c.toNat : Int), .int .u8 (y.d.toNat : Int)] 23) = X at *
    generalize w1.heap.size = ab at *
    have IX := hid (H0.out.kept0 K1.out)
    obtain ⟨F1, hF1, hA1, hKF1⟩ := HD1.out X.drew K1.out.drew
    have hS1 : Kept (fun i => i = mb) X F1 := (Kept.refl _ X).drew.trans hKF1
    have HA1 := hid hA1
    have hbm := IX.out.neM rfl
    have hwm : w.heap.size ≠ mb := fun e => by
      obtain ⟨es, c, h2⟩ := (IX.out.has mb rfl).2.isMap
      have h1 : X.cell? ⟨w.heap.size, 0, none⟩ = _ := B2.out.1.1
      rw [e] at h1
      simp [World.cell?, h2] at h1
    have ham : ab ≠ mb := fun e => by
      obtain ⟨es, c, h2⟩ := (IX.out.has mb rfl).2.isMap
      have h1 : X.cell? ⟨ab, 0, none⟩ = _ := B4.out.1.1
      rw [e] at h1
      simp [World.cell?, h2] at h1
    have hak : ab ≠ kb := fun e => by
      obtain ⟨es, c, h2⟩ := (IX.out.who kb rfl).2.isMap
      have h1 : X.cell? ⟨ab, 0, none⟩ = _ := B4.out.1.1
      rw [e] at h1
      simp [World.cell?, h2] at h1
    have s5 : ∀ Y, Kept (fun i => i = mb) X Y → Y.cell? ⟨b, 5, none⟩ = some (.map (some mb)) := fun Y hk => (hk.cell (p := ⟨b, 5, none⟩) IX.out.lt hbm).trans IX.out.c5
    have s0 : ∀ Y, Kept (fun i => i = mb) X Y → Y.cell? ⟨w.heap.size, 0, none⟩ = some (.int .i64 t) := fun Y hk => (B2.out.kept hk hwm).1.1
    have s1 : ∀ Y, Kept (fun i => i = mb) X Y → Y.cell? ⟨w.heap.size, 1, none⟩ = some (.int .i64 s) := fun Y hk => (B2.out.kept hk hwm).1.2
    refine wp_region_held_drew (S := Kept (fun i => i = mb) X) (by kernel_rfl) ((Kept.refl _ X).drew) (fun hSd => ?_)
    refine wpAnyH_take (i := 0) (v := ?_) rfl (by kernel_rfl) (by kernel_rfl) (by kernel_rfl) (fun _ _ _ h => h) (Or.inl ⟨by kernel_rfl, fun W hSW => by go_simp; try with_reducible rfl⟩) (by assumption) ?_
    try simp only [List.getElem_toArray]
    try simp only [List.getElem_cons_succ]
    try simp only [List.getElem_cons_zero]
    try simp only [Act.put]
    try simp only [List.setIfInBounds_toArray]
    try simp only [List.set_cons_succ]
    try simp only [List.set_cons_zero]
    refine wpAnyH_take (i := 1) (v := ?_) rfl (by kernel_rfl) (by kernel_rfl) (by kernel_rfl) (fun _ _ _ h => h) (Or.inl ⟨by kernel_rfl, fun W hSW => by go_simp; try with_reducible rfl⟩) (by assumption) ?_
    try simp only [List.getElem_toArray]
    try simp only [List.getElem_cons_succ]
    try simp only [List.getElem_cons_zero]
    try simp only [Act.put]
    try simp only [List.setIfInBounds_toArray]
    try simp only [List.set_cons_succ]
    try simp only [List.set_cons_zero]
    refine wpAnyH_take (i := 2) (v := ?_) rfl (by kernel_rfl) (by kernel_rfl) (by kernel_rfl) (fun _ _ _ h => h) (Or.inl ⟨by kernel_rfl, fun W hSW => by go_simp; try with_reducible rfl⟩) (by assumption) ?_
    try simp only [List.getElem_toArray]
    try simp only [List.getElem_cons_succ]
    try simp only [List.getElem_cons_zero]
    try simp only [Act.put]
    try simp only [List.setIfInBounds_toArray]
    try simp only [List.set_cons_succ]
    try simp only [List.set_cons_zero]
    refine wpAnyH_take (i := 3) (v := ?_) rfl (by kernel_rfl) (by kernel_rfl) (by kernel_rfl) (fun _ _ _ h => h) (Or.inl ⟨by kernel_rfl, fun W hSW => by go_simp; try with_reducible rfl⟩) (by assumption) ?_
    try simp only [List.getElem_toArray]
    try simp only [List.getElem_cons_succ]
    try simp only [List.getElem_cons_zero]
    try simp only [Act.put]
    try simp only [List.setIfInBounds_toArray]
    try simp only [List.set_cons_succ]
    try simp only [List.set_cons_zero]
    refine wpAnyH_take (i := 4) (v := ?_) rfl (by kernel_rfl) (by kernel_rfl) (by kernel_rfl) (fun _ _ _ h => h) (Or.inl ⟨by kernel_rfl, fun W hSW => by go_simp; try with_reducible rfl⟩) (by assumption) ?_
    try simp only [List.getElem_toArray]
    try simp only [List.getElem_cons_succ]
    try simp only [List.getElem_cons_zero]
    try simp only [Act.put]
    try simp only [List.setIfInBounds_toArray]
    try simp only [List.set_cons_succ]
    try simp only [List.set_cons_zero]
    refine wpAnyH_ready (rs := [5]) (by kernel_rfl) (by simp) ?_
    refine AllReadyH.cons rfl (fun K hK => ?_) AllReadyH.nil
    go_simp
    refine hK.out _ _ (hS1) (fun _ => ?_)
    clear hK K
    try simp only [List.getElem_toArray]
    try simp only [List.getElem_cons_succ]
    try simp only [List.getElem_cons_zero]
    try simp only [Act.put]
    try simp only [List.setIfInBounds_toArray]
    try simp only [List.set_cons_succ]
    try simp only [List.set_cons_zero]
    refine wpAnyH_done (by kernel_rfl) ?_ _
    go_upto_region 5 with fail
    clear s5 s0 s1 hF1
    have hWh : Hid (Assoc F1 Tryd.prog 23 kb (rowP (whoR x) 0 l)) := (IX.out.who kb rfl).2.same (hS1.block kb (IX.out.who kb rfl).2.lt (fun e => IX.out.ne mb kb rfl rfl e.symm))
    obtain ⟨F2, hF2, hA2, hKF2⟩ := HD2.out F1.drew (hWh.out.same rfl)
    have hS2 : Kept (fun i => i = kb) F1 F2 := (Kept.refl _ F1).drew.trans hKF2
    have C6 : Hid (F1.cell? ⟨b, 6, none⟩ = some (.map (some kb))) := (hS1.cell (p := ⟨b, 6, none⟩) IX.out.lt hbm).trans IX.out.c6
    have B5 := hid (B4.out.kept hS1 ham)
    have hbk := IX.out.neK rfl
    have s6 : ∀ Y, Kept (fun i => i = kb) F1 Y → Y.cell? ⟨b, 6, none⟩ = some (.map (some kb)) := fun Y hk => (hk.cell (p := ⟨b, 6, none⟩) (lt_of_cell C6.out) hbk).trans C6.out
    have y0 : ∀ Y, Kept (fun i => i = kb) F1 Y → Y.cell? ⟨ab, 0, none⟩ = some (.int .u8 (y.a.toNat : Int)) := fun V hk => (B5.out.kept hk hak).1.1
    have y1 : ∀ Y, Kept (fun i => i = kb) F1 Y → Y.cell? ⟨ab, 1, none⟩ = some (.int .u8 (y.b.toNat : Int)) := fun V hk => (B5.out.kept hk hak).1.2.1
    have y2 : ∀ Y, Kept (fun i => i = kb) F1 Y → Y.cell? ⟨ab, 2, none⟩ = some (.int .u8 (y.c.toNat : Int)) := fun V hk => (B5.out.kept hk hak).1.2.2.1
    have y3 : ∀ Y, Kept (fun i => i = kb) F1 Y → Y.cell? ⟨ab, 3, none⟩ = some (.int .u8 (y.d.toNat : Int)) := fun V hk => (B5.out.kept hk hak).1.2.2.2
    refine wp_region_held_drew (S := Kept (fun i => i = kb) F1) (by kernel_rfl) ((Kept.refl _ F1).drew) (fun hSd => ?_)
    refine wpAnyH_take (i := 0) (v := ?_) rfl (by kernel_rfl) (by kernel_rfl) (by kernel_rfl) (fun _ _ _ h => h) (Or.inl ⟨by kernel_rfl, fun W hSW => by go_simp; try with_reducible rfl⟩) (by assumption) ?_
    try simp only [List.getElem_toArray]
    try simp only [List.getElem_cons_succ]
    try simp only [List.getElem_cons_zero]
    try simp only [Act.put]
    try simp only [List.setIfInBounds_toArray]
    try simp only [List.set_cons_succ]
    try simp only [List.set_cons_zero]
    refine wpAnyH_take (i := 1) (v := ?_) rfl (by kernel_rfl) (by kernel_rfl) (by kernel_rfl) (fun _ _ _ h => h) (Or.inl ⟨by kernel_rfl, fun W hSW => by go_simp; try with_reducible rfl⟩) (by assumption) ?_
    try simp only [List.getElem_toArray]
    try simp only [List.getElem_cons_succ]
    try simp only [List.getElem_cons_zero]
    try simp only [Act.put]
    try simp only [List.setIfInBounds_toArray]
    try simp only [List.set_cons_succ]
    try simp only [List.set_cons_zero]
    refine wpAnyH_take (i := 2) (v := ?_) rfl (by kernel_rfl) (by kernel_rfl) (by kernel_rfl) (fun _ _ _ h => h) (Or.inl ⟨by kernel_rfl, fun W hSW => by go_simp; try with_reducible rfl⟩) (by assumption) ?_
    try simp only [List.getElem_toArray]
    try simp only [List.getElem_cons_succ]
    try simp only [List.getElem_cons_zero]
    try simp only [Act.put]
    try simp only [List.setIfInBounds_toArray]
    try simp only [List.set_cons_succ]
    try simp only [List.set_cons_zero]
    refine wpAnyH_take (i := 3) (v := ?_) rfl (by kernel_rfl) (by kernel_rfl) (by kernel_rfl) (fun _ _ _ h => h) (Or.inl ⟨by kernel_rfl, fun W hSW => by go_simp; try with_reducible rfl⟩) (by assumption) ?_
    try simp only [List.getElem_toArray]
    try simp only [List.getElem_cons_succ]
    try simp only [List.getElem_cons_zero]
    try simp only [Act.put]
    try simp only [List.setIfInBounds_toArray]
    try simp only [List.set_cons_succ]
    try simp only [List.set_cons_zero]
    refine wpAnyH_take (i := 4) (v := ?_) rfl (by kernel_rfl) (by kernel_rfl) (by kernel_rfl) (fun _ _ _ h => h) (Or.inl ⟨by kernel_rfl, fun W hSW => by go_simp; try with_reducible rfl⟩) (by assumption) ?_
    try simp only [List.getElem_toArray]
    try simp only [List.getElem_cons_succ]
    try simp only [List.getElem_cons_zero]
    try simp only [Act.put]
    try simp only [List.setIfInBounds_toArray]
    try simp only [List.set_cons_succ]
    try simp only [List.set_cons_zero]
    refine wpAnyH_ready (rs := [5]) (by kernel_rfl) (by simp) ?_
    refine AllReadyH.cons rfl (fun K hK => ?_) AllReadyH.nil
    go_simp
    refine hK.out _ _ (hS2) (fun _ => ?_)
    clear hK K
    try simp only [List.getElem_toArray]
    try simp only [List.getElem_cons_succ]
    try simp only [List.getElem_cons_zero]
    try simp only [Act.put]
    try simp only [List.setIfInBounds_toArray]
    try simp only [List.set_cons_succ]
    try simp only [List.set_cons_zero]
    refine wpAnyH_done (by kernel_rfl) ?_ _
    go_wp2
    go_ret
    have hk2 : Kept (fun i => i = mb ∨ i = kb) X F2 := (hS1.mono (fun _ _ e => Or.inl e)).trans (hS2.mono (fun _ _ e => Or.inr e))
    have hA1' : Assoc F2 Tryd.prog 34 mb (rowP (hasR x) 0 (l.set i lt0)) := HA1.out.same (hS2.block mb HA1.out.lt (IX.out.ne mb kb rfl rfl))
    exact ⟨rfl, ⟨some mb, some kb, IX.out.renew hk2 (List.length_set ..) HG.out hA1' hA2⟩, PpK.trans (PpK.none K1.out) (IX.out.turned hk2)⟩
end
end Go.Proofs.YtblcojggjplndaaDoor
