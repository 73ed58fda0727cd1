/- The contract of the program's pool's Take. -/
import Derived.Test.YtblcojggjplndaaDoorPpGive
import Derived.Test.YtblcojggjplndaaDoorPpAdd
namespace Go.Proofs.YtblcojggjplndaaDoor
open Go.RowKit

theorem rowP_le {α : Type} {f : Nat → Lt → α} {k : Nat} {l : List Lt} : (rowP f k l).length ≤ l.length := by
  have := rowP_length (f := f) (k := k) (l := l)
  omega
theorem has_entry {W : World} {mb : Nat} {x : Ad} {l : List Lt} (h : Assoc W Tryd.prog 34 mb (rowP (hasR x) 0 l)) (hg : GoodL x l) {t s : Int} (ht : I64 t) (hs : I64 s) (hf : findL l t s = none) {i : Nat} {e : Lt} (hi : l[i]? = some e) (he : e.is = false) :
    ∃ w1 st, (Instr.mapEntry 56 (.map (some mb)) (keyV t s)).run Tryd.prog W = .ok (.tuple #[adV ad0, st]) w1 ∧ Kept (fun i => i = mb) W w1 ∧
      ∀ w2 : World, w2.heap[mb]? = w1.heap[mb]? → ∃ w3, (Instr.entryStore 56 (.map (some mb)) st (adV (addAd x (i : Int)))).run Tryd.prog w2 = .ok () w3 ∧ Assoc w3 Tryd.prog 34 mb (rowP (hasR x) 0 (l.set i ⟨true, t, s⟩)) ∧ Kept (fun i => i = mb) w2 w3 := by
  obtain ⟨kl, hkl⟩ := key_reads ht hs
  have hno : ∀ p ∈ rowP (hasR x) 0 l, p.1 ≠ keyV t s := fun p hp e1 => by
    obtain ⟨j, e', h1, h2, rfl⟩ := rowP_mem.1 hp
    obtain ⟨h3, h4⟩ := keyV_inj e1
    exact findL_miss hf h1 h2 ⟨h3, h4⟩
  have hroom : (rowP (hasR x) 0 l).length < maxLen := by
    have h1 := hg.few.1
    have h2 := rowP_le (f := hasR x) (k := 0) (l := l)
    unfold maxLen
    omega
  obtain ⟨w1, st, h1, h2, h3⟩ := h.entry keyKey Tryd.underlying56 zeroAd hroom hkl hno (adV (addAd x (i : Int)))
  refine ⟨w1, st, h1, keptM h2, fun w2 hw => ?_⟩
  obtain ⟨w3, h4, h5, h6⟩ := h3 w2 hw
  have hp := rowP_on (f := hasR x) (k := 0) hi he (y := ⟨true, t, s⟩) rfl
  rw [Nat.zero_add] at hp
  exact ⟨w3, h4, h5.perm hp.symm, keptM h6⟩
theorem who_entry {W : World} {kb : Nat} {x : Ad} {l : List Lt} (h : Assoc W Tryd.prog 23 kb (rowP (whoR x) 0 l)) (hg : GoodL x l) (t s : Int) {i : Nat} {e : Lt} (hi : l[i]? = some e) (he : e.is = false) :
    ∃ w1 st, (Instr.mapEntry 57 (.map (some kb)) (adV (addAd x (i : Int)))).run Tryd.prog W = .ok (.tuple #[keyV 0 0, st]) w1 ∧ Kept (fun i => i = kb) W w1 ∧
      ∀ w2 : World, w2.heap[kb]? = w1.heap[kb]? → ∃ w3, (Instr.entryStore 57 (.map (some kb)) st (keyV t s)).run Tryd.prog w2 = .ok () w3 ∧ Assoc w3 Tryd.prog 23 kb (rowP (whoR x) 0 (l.set i ⟨true, t, s⟩)) ∧ Kept (fun i => i = kb) w2 w3 := by
  obtain ⟨kl, hkl⟩ := ad_reads (addAd x (i : Int))
  have hno : ∀ p ∈ rowP (whoR x) 0 l, p.1 ≠ adV (addAd x (i : Int)) := fun p hp e1 => by
    obtain ⟨j, e', h1, h2, rfl⟩ := rowP_mem.1 hp
    have h3 := adV_inj e1
    rw [Nat.zero_add] at h3
    have := addAd_inj hg.room (List.getElem?_eq_some_iff.1 h1).1 (List.getElem?_eq_some_iff.1 hi).1 h3
    subst this
    rw [hi] at h1
    cases h1
    rw [he] at h2
    cases h2
  have hroom : (rowP (whoR x) 0 l).length < maxLen := by
    have h1 := hg.few.1
    have h2 := rowP_le (f := whoR x) (k := 0) (l := l)
    unfold maxLen
    omega
  obtain ⟨w1, st, h1, h2, h3⟩ := h.entry keyAddr Tryd.underlying57 zeroKey hroom hkl hno (keyV t s)
  refine ⟨w1, st, h1, keptM h2, fun w2 hw => ?_⟩
  obtain ⟨w3, h4, h5, h6⟩ := h3 w2 hw
  have hp := rowP_on (f := whoR x) (k := 0) hi he (y := ⟨true, t, s⟩) rfl
  rw [Nat.zero_add] at hp
  exact ⟨w3, h4, h5.perm hp.symm, keptM h6⟩
/-- Who has an address of the pool. -/
theorem whoL_at {x : Ad} {l : List Lt} (hg : GoodL x l) {j : Nat} {e : Lt} (hj : l[j]? = some e) : whoL x l (addAd x (j : Int)) = if e.is = true then (e.t, e.s, true) else (0, 0, false) := by
  by_cases he : e.is = true
  · rw [if_pos he]
    unfold whoL
    rw [atL_at hg.room hj he]
    simp only [hj]
  · rw [if_neg he]
    have : atL x (addAd x (j : Int)) l = none := by
      cases ha : atL x (addAd x (j : Int)) l with
      | none => rfl
      | some i =>
        obtain ⟨e', h1, h2, h3⟩ := atL_hit ha
        have := addAd_inj hg.room (List.getElem?_eq_some_iff.1 hj).1 (List.getElem?_eq_some_iff.1 h1).1 h3
        subst this
        rw [hj] at h1
        cases h1
        exact absurd h2 he
    unfold whoL
    rw [this]

section
variable {w : World} {base b : Nat} {m k : Option Nat} {x : Ad} {l : List Lt}
set_option maxHeartbeats 4000000 in
set_option maxRecDepth 100000 in
theorem take_any (h : PpIn w base b m k x l) {t s : Int} (ht : I64 t) (hs : I64 s) :
    Calls Tryd.prog 11 #[.pointer (some ⟨b, 0, none⟩), keyV t s] w fun e w' => e = .returned (.tuple #[adV (takeL x l t s).1, .int .i64 (takeL x l t s).2.1]) ∧ PpAt w' base b x (takeL x l t s).2.2 ∧ PpK base w w' := by
  have hl : ∀ W, Kept (fun _ => False) w W → _ := fun W hk => (h.kept0 hk).hasAt ht hs
  have hk0 := (Kept.refl (fun _ => False) w).alloc (.cells #[.int .i64 t, .int .i64 s] 34)
  have hk1 := (Kept.refl (fun _ => False) (w.alloc (.cells #[.int .i64 t, .int .i64 s] 34))).alloc (.cells #[.int .u8 0, .int .u8 0, .int .u8 0, .int .u8 0] 23)
  have H2 := hid ((box2_new w 34 (.int .i64 t) (.int .i64 s)).kept hk1 (fun h => h))
  have H4 := hid (four4_new (w.alloc (.cells #[.int .i64 t, .int .i64 s] 34)) 23 (.int .u8 0) (.int .u8 0) (.int .u8 0) (.int .u8 0))
  have hsz : (w.alloc (.cells #[.int .i64 t, .int .i64 s] 34)).heap.size = w.heap.size + 1 := by simp
  rw [hsz] at H4
  have K0 := hid (hk0.trans hk1)
  have HI := hid h
  have HL := hid hl
  have HAdd : Hid (∀ n W, Calls Tryd.prog 21 #[adV x, .int .i64 n] W fun e w' => e = .returned (adV (addAd x n)) ∧ Kept (fun _ => False) W w') := add_any x
  clear h hk0 hk1 hsz hl
  obtain ⟨R, hR⟩ : ∃ R, R = takeL x l t s := ⟨_, rfl⟩
  have HR := hid hR
  rw [← hR]
  clear hR
  obtain ⟨Q, hQ⟩ : ∃ Q, Q = hasL x l t s := ⟨_, rfl⟩
  have HQ := hid hQ
  rw [← hQ] at HL
  clear hQ
  obtain ⟨y, f⟩ := Q
  unfold keyV adV at HL HAdd ⊢
  simp only at HL
  go_enter Tryd.func11, Tryd.ntmps11
  go_upto_region 1 with fail
  generalize (w.alloc (.cells #[.int .i64 t, .int .i64 s] 34)).alloc (.cells #[.int .u8 0, .int .u8 0, .int .u8 0, .int .u8 0] 23) = W at *
  go_upto_region 3 with fail
  have q5 : ∀ X, Kept (fun _ => False) W X → X.cell? ⟨b, 5, none⟩ = some (.map m) := fun X hk => (HI.out.kept0 (K0.out.trans hk)).c5
  have q0 : ∀ X, Kept (fun _ => False) W X → X.cell? ⟨w.heap.size, 0, none⟩ = some (.int .i64 t) := fun X hk => (H2.out.kept hk (fun h => h)).1.1
  have q1 : ∀ X, Kept (fun _ => False) W X → X.cell? ⟨w.heap.size, 1, none⟩ = some (.int .i64 s) := fun X hk => (H2.out.kept hk (fun h => h)).1.2
  have ql : ∀ X, Kept (fun _ => False) W X → _ := fun X hk => HL.out X (K0.out.trans hk)
  refine wp_region_held_drew (S := Kept (fun _ => False) W) (by kernel_rfl) ((Kept.refl _ W).drew) (fun hSd => ?_)
  refine wpAnyH_take (i := 0) (v := ?_) rfl (by kernel_rfl) (by kernel_rfl) (by kernel_rfl) (fun _ _ _ h => h) (Or.inl ⟨by kernel_rfl, fun W hSW => by go_simp; try with_reducible rfl⟩) (by assumption) ?_
  try simp only [List.getElem_toArray]
  try simp only [List.getElem_cons_succ]
  try simp only [List.getElem_cons_zero]
  try simp only [Act.put]
  try simp only [List.setIfInBounds_toArray]
  try simp only [List.set_cons_succ]
  try simp only [List.set_cons_zero]
  refine wpAnyH_take (i := 1) (v := ?_) rfl (by kernel_rfl) (by kernel_rfl) (by kernel_rfl) (fun _ _ _ h => h) (Or.inl ⟨by kernel_rfl, fun W hSW => by go_simp; try with_reducible rfl⟩) (by assumption) ?_
  try simp only [List.getElem_toArray]
  try simp only [List.getElem_cons_succ]
  try simp only [List.getElem_cons_zero]
  try simp only [Act.put]
  try simp only [List.setIfInBounds_toArray]
  try simp only [List.set_cons_succ]
  try simp only [List.set_cons_zero]
  refine wpAnyH_take (i := 2) (v := ?_) rfl (by kernel_rfl) (by kernel_rfl) (by kernel_rfl) (fun _ _ _ h => h) (Or.inl ⟨by kernel_rfl, fun W hSW => by go_simp; try with_reducible rfl⟩) (by assumption) ?_
  try simp only [List.getElem_toArray]
  try simp only [List.getElem_cons_succ]
  try simp only [List.getElem_cons_zero]
  try simp only [Act.put]
  try simp only [List.setIfInBounds_toArray]
  try simp only [List.set_cons_succ]
  try simp only [List.set_cons_zero]
  refine wpAnyH_take (i := 3) (v := ?_) rfl (by kernel_rfl) (by kernel_rfl) (by kernel_rfl) (fun _ _ _ h => h) (Or.inl ⟨by kernel_rfl, fun W hSW => by go_simp; try with_reducible rfl⟩) (by assumption) ?_
  try simp only [List.getElem_toArray]
  try simp only [List.getElem_cons_succ]
  try simp only [List.getElem_cons_zero]
  try simp only [Act.put]
  try simp only [List.setIfInBounds_toArray]
  try simp only [List.set_cons_succ]
  try simp only [List.set_cons_zero]
  refine wpAnyH_take (i := 4) (v := ?_) rfl (by kernel_rfl) (by kernel_rfl) (by kernel_rfl) (fun _ _ _ h => h) (Or.inl ⟨by kernel_rfl, fun W hSW => by go_simp; try with_reducible rfl⟩) (by assumption) ?_
  try simp only [List.getElem_toArray]
  try simp only [List.getElem_cons_succ]
  try simp only [List.getElem_cons_zero]
  try simp only [Act.put]
  try simp only [List.setIfInBounds_toArray]
  try simp only [List.set_cons_succ]
  try simp only [List.set_cons_zero]
  refine wpAnyH_take (i := 5) (v := ?_) rfl (by kernel_rfl) (by kernel_rfl) (by kernel_rfl) (fun _ _ _ h => h) (Or.inl ⟨by kernel_rfl, fun W hSW => by go_simp; try with_reducible rfl⟩) (by assumption) ?_
  try simp only [List.getElem_toArray]
  try simp only [List.getElem_cons_succ]
  try simp only [List.getElem_cons_zero]
  try simp only [Act.put]
  try simp only [List.setIfInBounds_toArray]
  try simp only [List.set_cons_succ]
  try simp only [List.set_cons_zero]
  refine wpAnyH_take (i := 6) (v := ?_) rfl (by kernel_rfl) (by kernel_rfl) (by kernel_rfl) (fun _ _ _ h => h) (Or.inl ⟨by kernel_rfl, fun W hSW => by go_simp; try with_reducible rfl⟩) (by assumption) ?_
  try simp only [List.getElem_toArray]
  try simp only [List.getElem_cons_succ]
  try simp only [List.getElem_cons_zero]
  try simp only [Act.put]
  try simp only [List.setIfInBounds_toArray]
  try simp only [List.set_cons_succ]
  try simp only [List.set_cons_zero]
  refine wpAnyH_take (i := 7) (v := ?_) rfl (by kernel_rfl) (by kernel_rfl) (by kernel_rfl) (fun _ _ _ h => h) (Or.inl ⟨by kernel_rfl, fun W hSW => by go_simp; try with_reducible rfl⟩) (by assumption) ?_
  try simp only [List.getElem_toArray]
  try simp only [List.getElem_cons_succ]
  try simp only [List.getElem_cons_zero]
  try simp only [Act.put]
  try simp only [List.setIfInBounds_toArray]
  try simp only [List.set_cons_succ]
  try simp only [List.set_cons_zero]
  refine wpAnyH_take (i := 8) (v := ?_) rfl (by kernel_rfl) (by kernel_rfl) (by kernel_rfl) (fun _ _ _ h => h) (Or.inl ⟨by kernel_rfl, fun W hSW => by go_simp; try with_reducible rfl⟩) (by assumption) ?_
  try simp only [List.getElem_toArray]
  try simp only [List.getElem_cons_succ]
  try simp only [List.getElem_cons_zero]
  try simp only [Act.put]
  try simp only [List.setIfInBounds_toArray]
  try simp only [List.set_cons_succ]
  try simp only [List.set_cons_zero]
  refine wpAnyH_ready (rs := [9]) (by kernel_rfl) (by simp) ?_
  refine AllReadyH.cons rfl (fun K hK => ?_) AllReadyH.nil
  go_simp
  have K9 := hid ((Kept.refl (fun _ => False) W).drew.alloc (.cells #[.int .u8 0, .int .u8 0, .int .u8 0, .int .u8 0] 23))
  refine hK.out _ _ (K9.out) (fun _ => ?_)
  clear hK K
  try simp only [List.getElem_toArray]
  try simp only [List.getElem_cons_succ]
  try simp only [List.getElem_cons_zero]
  try simp only [Act.put]
  try simp only [List.setIfInBounds_toArray]
  try simp only [List.set_cons_succ]
  try simp only [List.set_cons_zero]
  refine wpAnyH_ready (rs := [10]) (by kernel_rfl) (by simp) ?_
  refine AllReadyH.cons rfl (fun K hK => ?_) AllReadyH.nil
  go_simp
  have K10 := hid (((Kept.refl (fun _ => False) W).alloc (.cells #[.int .u8 (y.a.toNat : Int), .int .u8 (y.b.toNat : Int), .int .u8 (y.c.toNat : Int), .int .u8 (y.d.toNat : Int)] 23)).drew)
  have B10 := hid (four4_new W 23 (.int .u8 (y.a.toNat : Int)) (.int .u8 (y.b.toNat : Int)) (.int .u8 (y.c.toNat : Int)) (.int .u8 (y.d.toNat : Int)))
  have B11 := hid (B10.out.kept (Kept.refl (fun _ => False) _).drew (fun h => h))
  refine hK.out _ _ (K10.out) (fun _ => ?_)
  clear hK K
  try simp only [List.getElem_toArray]
  try simp only [List.getElem_cons_succ]
  try simp only [List.getElem_cons_zero]
  try simp only [Act.put]
  try simp only [List.setIfInBounds_toArray]
  try simp only [List.set_cons_succ]
  try simp only [List.set_cons_zero]
  refine wpAnyH_take (i := 11) (v := ?_) rfl (by kernel_rfl) (by kernel_rfl) (by kernel_rfl) (fun _ _ _ h => h) (Or.inl ⟨by kernel_rfl, fun W hSW => by go_simp; try with_reducible rfl⟩) (by assumption) ?_
  try simp only [List.getElem_toArray]
  try simp only [List.getElem_cons_succ]
  try simp only [List.getElem_cons_zero]
  try simp only [Act.put]
  try simp only [List.setIfInBounds_toArray]
  try simp only [List.set_cons_succ]
  try simp only [List.set_cons_zero]
  refine wpAnyH_done (by kernel_rfl) ?_ _
  have HF := hid (H4.out.kept K10.out (fun h => h))
  have HT := hid (H2.out.kept K10.out (fun h => h))
  have KF := hid (K0.out.trans K10.out)
  clear q5 q0 q1 ql K9 K10 B10 H4 H2 HL K0
  generalize (W.alloc (.cells #[.int .u8 (y.a.toNat : Int), .int .u8 (y.b.toNat : Int), .int .u8 (y.c.toNat : Int), .int .u8 (y.d.toNat : Int)] 23)).drew = X at *
  generalize W.heap.size = yb at *
  have IX := hid (HI.out.kept0 KF.out)
  cases f with
  | true =>
    obtain ⟨i, hi⟩ : ∃ i, findL l t s = some i := by
      have := HQ.out
      unfold hasL at this
      cases hf : findL l t s with
      | none => rw [hf] at this; cases this
      | some i => exact ⟨i, rfl⟩
    have hRR : Hid (R = (y, 0, l)) := by
      have h1 := HQ.out
      unfold hasL at h1
      rw [hi] at h1
      rw [HR.out]
      unfold takeL
      rw [hi]
      exact Prod.ext (Prod.mk.inj h1).1.symm rfl
    clear hi HR HQ HAdd
    obtain ⟨⟨c0, c1, c2, c3⟩, _⟩ := B11.out
    obtain ⟨⟨o0, o1, o2, o3⟩, g⟩ := HF.out
    have f0 := g 0
    have f1 := g 1
    have f2 := g 2
    have f3 := g 3
    go_wp2
    have K := ((((KF.out.setCell (p := ⟨w.heap.size + 1, 0, none⟩) (Or.inl (Nat.le_succ _)) (.int .u8 (y.a.toNat : Int))).setCell (p := ⟨w.heap.size + 1, 1, none⟩) (Or.inl (Nat.le_succ _)) (.int .u8 (y.b.toNat : Int))).setCell (p := ⟨w.heap.size + 1, 2, none⟩) (Or.inl (Nat.le_succ _)) (.int .u8 (y.c.toNat : Int))).setCell (p := ⟨w.heap.size + 1, 3, none⟩) (Or.inl (Nat.le_succ _)) (.int .u8 (y.d.toNat : Int)))
    refine bodyPost_ret (v := .tuple #[.agg #[.int .u8 (y.a.toNat : Int), .int .u8 (y.b.toNat : Int), .int .u8 (y.c.toNat : Int), .int .u8 (y.d.toNat : Int)], .int .i64 0]) (by simp [results, Tryd.results11, go_sem, o0, o1, o2, o3]) rfl ⟨by rw [hRR.out], ?_⟩
    rw [hRR.out]
    exact ⟨⟨m, k, HI.out.kept0 K⟩, PpK.none K⟩
  | false =>
    have hfn : Hid (findL l t s = none) := by
      have := HQ.out
      unfold hasL at this
      cases hf : findL l t s with
      | none => exact rfl
      | some i => rw [hf] at this; cases this
    have hRR : Hid (R = match freeL l with | none => (ad0, 10, l) | some i => (addAd x (i : Int), 0, l.set i ⟨true, t, s⟩)) := by
      rw [HR.out]
      unfold takeL
      rw [hfn.out]
      exact rfl
    clear HR HQ B11
    have c4 := IX.out.c4
    have hlen := IX.out.good.few.1
    go_upto_region 6 with fail
    go_wp2
    clear c4
    go_loopw [30] (fun vi wr => ∃ j : Nat, j ≤ l.length ∧ vi = .int .i64 (j : Int) ∧ Hid (Kept (fun _ => False) X wr ∧ freeL (l.take j) = none)) (fun vi _ => l.length - (intOf vi).toNat)
    case atStart => exact ⟨0, Nat.zero_le _, rfl, Kept.refl _ _, by simp [freeL]⟩
    case round =>
      obtain ⟨j, hj, rfl, HJ⟩ := hrel
      have IJ := hid (IX.out.kept0 HJ.out.1)
      by_cases hlt : j < l.length
      · have hltz : (j : Int) < (l.length : Int) := by omega
        obtain ⟨e, he⟩ : ∃ e, l[j]? = some e := ⟨l[j], by simp [hlt]⟩
        have hwl := hid (whoL_at IX.out.good he)
        have HE := hid he
        have HA := hid (HAdd.out (j : Int))
        have d0 := IJ.out.c0
        have d1 := IJ.out.c1
        have d2 := IJ.out.c2
        have d3 := IJ.out.c3
        obtain ⟨z, hz⟩ : ∃ z, addAd x (j : Int) = z := ⟨_, rfl⟩
        have HZ := hid hz
        rw [hz] at HA hwl
        clear he hz
        go_upto_region 9 with fail
        go_wp2_with fail
        refine (HA.out _).mono ?_
        rintro e' w5 ⟨rfl, hk5⟩
        have K5 := hid (HJ.out.1.trans (hk5.alloc (.cells #[.int .u8 (z.a.toNat : Int), .int .u8 (z.b.toNat : Int), .int .u8 (z.c.toNat : Int), .int .u8 (z.d.toNat : Int)] 23)))
        have B5 := hid (four4_new w5 23 (.int .u8 (z.a.toNat : Int)) (.int .u8 (z.b.toNat : Int)) (.int .u8 (z.c.toNat : Int)) (.int .u8 (z.d.toNat : Int)))
        clear hk5 d0 d1 d2 d3 HA HAdd
        go_upto_region 10 with fail
        generalize w5.alloc (.cells #[.int .u8 (z.a.toNat : Int), .int .u8 (z.b.toNat : Int), .int .u8 (z.c.toNat : Int), .int .u8 (z.d.toNat : Int)] 23) = V at *
        generalize w5.heap.size = zb at *
        have IV := hid (IX.out.kept0 K5.out)
        have HLk : Hid (∀ U, Kept (fun _ => False) V U → _) := hid (fun U hk => (IV.out.kept0 hk).whoAt z)
        obtain ⟨T, hT⟩ : ∃ T, whoL x l z = T := ⟨_, rfl⟩
        have HT' := hid hT
        rw [hT] at HLk
        clear hT
        obtain ⟨t', s', f'⟩ := T
        unfold keyV adV at HLk
        simp only at HLk
        have q6 : ∀ U, Kept (fun _ => False) V U → U.cell? ⟨b, 6, none⟩ = some (.map k) := fun U hk => (IV.out.kept0 hk).c6
        have y0 : ∀ U, Kept (fun _ => False) V U → U.cell? ⟨zb, 0, none⟩ = some (.int .u8 (z.a.toNat : Int)) := fun U hk => (B5.out.kept hk (fun h => h)).1.1
        have y1 : ∀ U, Kept (fun _ => False) V U → U.cell? ⟨zb, 1, none⟩ = some (.int .u8 (z.b.toNat : Int)) := fun U hk => (B5.out.kept hk (fun h => h)).1.2.1
        have y2 : ∀ U, Kept (fun _ => False) V U → U.cell? ⟨zb, 2, none⟩ = some (.int .u8 (z.c.toNat : Int)) := fun U hk => (B5.out.kept hk (fun h => h)).1.2.2.1
        have y3 : ∀ U, Kept (fun _ => False) V U → U.cell? ⟨zb, 3, none⟩ = some (.int .u8 (z.d.toNat : Int)) := fun U hk => (B5.out.kept hk (fun h => h)).1.2.2.2
        have ql := HLk.out
        refine wp_region_held_drew (S := Kept (fun _ => False) V) (by kernel_rfl) ((Kept.refl _ V).drew) (fun hSd => ?_)
        refine wpAnyH_take (i := 0) (v := ?_) rfl (by kernel_rfl) (by kernel_rfl) (by kernel_rfl) (fun _ _ _ h => h) (Or.inl ⟨by kernel_rfl, fun W hSW => by go_simp; try with_reducible rfl⟩) (by assumption) ?_
        try simp only [List.getElem_toArray]
        try simp only [List.getElem_cons_succ]
        try simp only [List.getElem_cons_zero]
        try simp only [Act.put]
        try simp only [List.setIfInBounds_toArray]
        try simp only [List.set_cons_succ]
        try simp only [List.set_cons_zero]
        refine wpAnyH_take (i := 1) (v := ?_) rfl (by kernel_rfl) (by kernel_rfl) (by kernel_rfl) (fun _ _ _ h => h) (Or.inl ⟨by kernel_rfl, fun W hSW => by go_simp; try with_reducible rfl⟩) (by assumption) ?_
        try simp only [List.getElem_toArray]
        try simp only [List.getElem_cons_succ]
        try simp only [List.getElem_cons_zero]
        try simp only [Act.put]
        try simp only [List.setIfInBounds_toArray]
        try simp only [List.set_cons_succ]
        try simp only [List.set_cons_zero]
        refine wpAnyH_take (i := 2) (v := ?_) rfl (by kernel_rfl) (by kernel_rfl) (by kernel_rfl) (fun _ _ _ h => h) (Or.inl ⟨by kernel_rfl, fun W hSW => by go_simp; try with_reducible rfl⟩) (by assumption) ?_
        try simp only [List.getElem_toArray]
        try simp only [List.getElem_cons_succ]
        try simp only [List.getElem_cons_zero]
        try simp only [Act.put]
        try simp only [List.setIfInBounds_toArray]
        try simp only [List.set_cons_succ]
        try simp only [List.set_cons_zero]
        refine wpAnyH_take (i := 3) (v := ?_) rfl (by kernel_rfl) (by kernel_rfl) (by kernel_rfl) (fun _ _ _ h => h) (Or.inl ⟨by kernel_rfl, fun W hSW => by go_simp; try with_reducible rfl⟩) (by assumption) ?_
        try simp only [List.getElem_toArray]
        try simp only [List.getElem_cons_succ]
        try simp only [List.getElem_cons_zero]
        try simp only [Act.put]
        try simp only [List.setIfInBounds_toArray]
        try simp only [List.set_cons_succ]
        try simp only [List.set_cons_zero]
        refine wpAnyH_take (i := 4) (v := ?_) rfl (by kernel_rfl) (by kernel_rfl) (by kernel_rfl) (fun _ _ _ h => h) (Or.inl ⟨by kernel_rfl, fun W hSW => by go_simp; try with_reducible rfl⟩) (by assumption) ?_
        try simp only [List.getElem_toArray]
        try simp only [List.getElem_cons_succ]
        try simp only [List.getElem_cons_zero]
        try simp only [Act.put]
        try simp only [List.setIfInBounds_toArray]
        try simp only [List.set_cons_succ]
        try simp only [List.set_cons_zero]
        refine wpAnyH_take (i := 5) (v := ?_) rfl (by kernel_rfl) (by kernel_rfl) (by kernel_rfl) (fun _ _ _ h => h) (Or.inl ⟨by kernel_rfl, fun W hSW => by go_simp; try with_reducible rfl⟩) (by assumption) ?_
        try simp only [List.getElem_toArray]
        try simp only [List.getElem_cons_succ]
        try simp only [List.getElem_cons_zero]
        try simp only [Act.put]
        try simp only [List.setIfInBounds_toArray]
        try simp only [List.set_cons_succ]
        try simp only [List.set_cons_zero]
        refine wpAnyH_take (i := 6) (v := ?_) rfl (by kernel_rfl) (by kernel_rfl) (by kernel_rfl) (fun _ _ _ h => h) (Or.inl ⟨by kernel_rfl, fun W hSW => by go_simp; try with_reducible rfl⟩) (by assumption) ?_
        try simp only [List.getElem_toArray]
        try simp only [List.getElem_cons_succ]
        try simp only [List.getElem_cons_zero]
        try simp only [Act.put]
        try simp only [List.setIfInBounds_toArray]
        try simp only [List.set_cons_succ]
        try simp only [List.set_cons_zero]
        refine wpAnyH_take (i := 7) (v := ?_) rfl (by kernel_rfl) (by kernel_rfl) (by kernel_rfl) (fun _ _ _ h => h) (Or.inl ⟨by kernel_rfl, fun W hSW => by go_simp; try with_reducible rfl⟩) (by assumption) ?_
        try simp only [List.getElem_toArray]
        try simp only [List.getElem_cons_succ]
        try simp only [List.getElem_cons_zero]
        try simp only [Act.put]
        try simp only [List.setIfInBounds_toArray]
        try simp only [List.set_cons_succ]
        try simp only [List.set_cons_zero]
        refine wpAnyH_take (i := 8) (v := ?_) rfl (by kernel_rfl) (by kernel_rfl) (by kernel_rfl) (fun _ _ _ h => h) (Or.inl ⟨by kernel_rfl, fun W hSW => by go_simp; try with_reducible rfl⟩) (by assumption) ?_
        try simp only [List.getElem_toArray]
        try simp only [List.getElem_cons_succ]
        try simp only [List.getElem_cons_zero]
        try simp only [Act.put]
        try simp only [List.setIfInBounds_toArray]
        try simp only [List.set_cons_succ]
        try simp only [List.set_cons_zero]
        refine wpAnyH_ready (rs := [9]) (by kernel_rfl) (by simp) ?_
        refine AllReadyH.cons rfl (fun K hK => ?_) AllReadyH.nil
        go_simp
        have K9 := hid ((Kept.refl (fun _ => False) V).drew.alloc (.cells #[.int .i64 0, .int .i64 0] 34))
        refine hK.out _ _ (K9.out) (fun _ => ?_)
        clear hK K
        try simp only [List.getElem_toArray]
        try simp only [List.getElem_cons_succ]
        try simp only [List.getElem_cons_zero]
        try simp only [Act.put]
        try simp only [List.setIfInBounds_toArray]
        try simp only [List.set_cons_succ]
        try simp only [List.set_cons_zero]
        refine wpAnyH_ready (rs := [10]) (by kernel_rfl) (by simp) ?_
        refine AllReadyH.cons rfl (fun K hK => ?_) AllReadyH.nil
        go_simp
        have K10 := hid (((Kept.refl (fun _ => False) V).alloc (.cells #[.int .i64 t', .int .i64 s'] 34)).drew)
        refine hK.out _ _ (K10.out) (fun _ => ?_)
        clear hK K
        try simp only [List.getElem_toArray]
        try simp only [List.getElem_cons_succ]
        try simp only [List.getElem_cons_zero]
        try simp only [Act.put]
        try simp only [List.setIfInBounds_toArray]
        try simp only [List.set_cons_succ]
        try simp only [List.set_cons_zero]
        refine wpAnyH_take (i := 11) (v := ?_) rfl (by kernel_rfl) (by kernel_rfl) (by kernel_rfl) (fun _ _ _ h => h) (Or.inl ⟨by kernel_rfl, fun W hSW => by go_simp; try with_reducible rfl⟩) (by assumption) ?_
        try simp only [List.getElem_toArray]
        try simp only [List.getElem_cons_succ]
        try simp only [List.getElem_cons_zero]
        try simp only [Act.put]
        try simp only [List.setIfInBounds_toArray]
        try simp only [List.set_cons_succ]
        try simp only [List.set_cons_zero]
        refine wpAnyH_done (by kernel_rfl) ?_ _
        have B6 := hid (B5.out.kept K10.out (fun h => h))
        have K6 := hid (K5.out.trans K10.out)
        clear q6 y0 y1 y2 y3 ql K9 K10 B5 K5 HLk IV
        generalize (V.alloc (.cells #[.int .i64 t', .int .i64 s'] 34)).drew = U at *
        cases f' with
        | true =>
          have hne : Hid (freeL (l.take (j + 1)) = none) := by
            refine idx_go HJ.out.2 HE.out ?_
            have h1 := hwl.out
            rw [HT'.out] at h1
            cases he : e.is with
            | true => rfl
            | false => rw [if_neg (by rw [he]; decide)] at h1; cases h1
          go_wp2
          exact ⟨⟨j + 1, hlt, by go_num, K6.out, hne.out⟩, by simp [intOf]; omega⟩
        | false =>
          have hef : Hid (e.is = false) := by
            have h1 := hwl.out
            rw [HT'.out] at h1
            cases he : e.is with
            | false => exact rfl
            | true => rw [if_pos he] at h1; cases h1
          have hfr : Hid (freeL l = some j) := idx_at HJ.out.2 HE.out (by show (!e.is) = true; rw [hef.out]; rfl)
          have hR2 : Hid (R = (z, 0, l.set j ⟨true, t, s⟩)) := by
            rw [hRR.out, hfr.out, ← HZ.out]
            exact rfl
          obtain ⟨mb, kb, rfl, rfl⟩ := IX.out.some1 (fun e0 => by have := HE.out; rw [e0] at this; cases this)
          have IU := hid (IX.out.kept0 K6.out)
          obtain ⟨G1, st, hG1, hKG1, hnext⟩ := has_entry ((IU.out.has mb rfl).2.same (w' := U.drew) rfl) IX.out.good ht hs hfn.out HE.out hef.out
          obtain ⟨G2, hG2, hAG2, hKG2⟩ := hnext G1 rfl
          have hWG2 : Assoc G2 Tryd.prog 23 kb (rowP (whoR x) 0 l) := by
            have hne := IU.out.ne mb kb rfl rfl
            have h1 := (IU.out.who kb rfl).2
            have hk : Kept (fun i => i = mb) U G2 := ((Kept.refl _ U).drew.trans hKG1).trans hKG2
            exact h1.same (hk.block kb h1.lt (fun e => hne e.symm))
          obtain ⟨G3, st2, hG3, hKG3, hnext2⟩ := who_entry hWG2 IX.out.good t s HE.out hef.out
          obtain ⟨G4, hG4, hAG4, hKG4⟩ := hnext2 G3 rfl
          rw [HZ.out] at hG2 hG3
          clear hnext hnext2
          have hm1 : Kept (fun i => i = mb ∨ i = kb) U G1 := (Kept.refl _ U).drew.trans (hKG1.mono (fun _ _ e => Or.inl e))
          have hm2 : Kept (fun i => i = mb ∨ i = kb) U G2 := hm1.trans (hKG2.mono (fun _ _ e => Or.inl e))
          have hm3 : Kept (fun i => i = mb ∨ i = kb) U G3 := hm2.trans (hKG3.mono (fun _ _ e => Or.inr e))
          have hm4 : Kept (fun i => i = mb ∨ i = kb) U G4 := hm3.trans (hKG4.mono (fun _ _ e => Or.inr e))
          have hAG2' : Hid (Assoc G4 Tryd.prog 34 mb (rowP (hasR x) 0 (l.set j ⟨true, t, s⟩))) := by
            have hne := IU.out.ne mb kb rfl rfl
            have hk : Kept (fun i => i = kb) G2 G4 := hKG3.trans hKG4
            exact hAG2.same (hk.block mb hAG2.lt hne)
          have HA4 := hid hAG4
          have M1 := hid hm1
          have M2 := hid hm2
          have M3 := hid hm3
          have M4 := hid hm4
          have hnot : ∀ {g : Nat} {v : Value}, U.cell? ⟨g, 0, none⟩ = some v → ¬ (g = mb ∨ g = kb) := fun {g v} hc e => by
            rcases e with rfl | rfl
            · obtain ⟨es, c, h2⟩ := (IU.out.has _ rfl).2.isMap
              simp [World.cell?, h2] at hc
            · obtain ⟨es, c, h2⟩ := (IU.out.who _ rfl).2.isMap
              simp [World.cell?, h2] at hc
          have HKk := hid (HT.out.kept K6.out (fun h => h))
          have HOo := hid (HF.out.kept K6.out (fun h => h))
          have nb := hnot IU.out.c0
          have nk := hnot HKk.out.1.1
          have nz := hnot B6.out.1.1
          have no := hnot HOo.out.1.1
          have s5 : ∀ Y, Kept (fun i => i = mb ∨ i = kb) U Y → Y.cell? ⟨b, 5, none⟩ = some (.map (some mb)) := fun Y hk => (hk.cell (p := ⟨b, 5, none⟩) IU.out.lt nb).trans IU.out.c5
          have s6 : ∀ Y, Kept (fun i => i = mb ∨ i = kb) U Y → Y.cell? ⟨b, 6, none⟩ = some (.map (some kb)) := fun Y hk => (hk.cell (p := ⟨b, 6, none⟩) IU.out.lt nb).trans IU.out.c6
          have k0 : ∀ Y, Kept (fun i => i = mb ∨ i = kb) U Y → Y.cell? ⟨w.heap.size, 0, none⟩ = some (.int .i64 t) := fun Y hk => (HKk.out.kept hk nk).1.1
          have k1 : ∀ Y, Kept (fun i => i = mb ∨ i = kb) U Y → Y.cell? ⟨w.heap.size, 1, none⟩ = some (.int .i64 s) := fun Y hk => (HKk.out.kept hk nk).1.2
          have y0 : ∀ Y, Kept (fun i => i = mb ∨ i = kb) U Y → Y.cell? ⟨zb, 0, none⟩ = some (.int .u8 (z.a.toNat : Int)) := fun Y hk => (B6.out.kept hk nz).1.1
          have y1 : ∀ Y, Kept (fun i => i = mb ∨ i = kb) U Y → Y.cell? ⟨zb, 1, none⟩ = some (.int .u8 (z.b.toNat : Int)) := fun Y hk => (B6.out.kept hk nz).1.2.1
          have y2 : ∀ Y, Kept (fun i => i = mb ∨ i = kb) U Y → Y.cell? ⟨zb, 2, none⟩ = some (.int .u8 (z.c.toNat : Int)) := fun Y hk => (B6.out.kept hk nz).1.2.2.1
          have y3 : ∀ Y, Kept (fun i => i = mb ∨ i = kb) U Y → Y.cell? ⟨zb, 3, none⟩ = some (.int .u8 (z.d.toNat : Int)) := fun Y hk => (B6.out.kept hk nz).1.2.2.2
          clear nb nk nz hnot hm1 hm2 hm3 hm4 hAG2 hAG4 hWG2 hKG1 hKG2 hKG3 hKG4
          unfold keyV at hG1 hG3 hG4
          unfold adV at hG1 hG2 hG3
          unfold ad0 at hG1
          go_upto_region 12 with fail
          refine wp_region_held_drew (S := Kept (fun i => i = mb ∨ i = kb) U) (by kernel_rfl) ((Kept.refl _ U).drew) (fun hSd => ?_)
          refine wpAnyH_take (i := 0) (v := ?_) rfl (by kernel_rfl) (by kernel_rfl) (by kernel_rfl) (fun _ _ _ h => h) (Or.inl ⟨by kernel_rfl, fun W hSW => by go_simp; try with_reducible rfl⟩) (by assumption) ?_
          try simp only [List.getElem_toArray]
          try simp only [List.getElem_cons_succ]
          try simp only [List.getElem_cons_zero]
          try simp only [Act.put]
          try simp only [List.setIfInBounds_toArray]
          try simp only [List.set_cons_succ]
          try simp only [List.set_cons_zero]
          refine wpAnyH_take (i := 1) (v := ?_) rfl (by kernel_rfl) (by kernel_rfl) (by kernel_rfl) (fun _ _ _ h => h) (Or.inl ⟨by kernel_rfl, fun W hSW => by go_simp; try with_reducible rfl⟩) (by assumption) ?_
          try simp only [List.getElem_toArray]
          try simp only [List.getElem_cons_succ]
          try simp only [List.getElem_cons_zero]
          try simp only [Act.put]
          try simp only [List.setIfInBounds_toArray]
          try simp only [List.set_cons_succ]
          try simp only [List.set_cons_zero]
          refine wpAnyH_take (i := 2) (v := ?_) rfl (by kernel_rfl) (by kernel_rfl) (by kernel_rfl) (fun _ _ _ h => h) (Or.inl ⟨by kernel_rfl, fun W hSW => by go_simp; try with_reducible rfl⟩) (by assumption) ?_
          try simp only [List.getElem_toArray]
          try simp only [List.getElem_cons_succ]
          try simp only [List.getElem_cons_zero]
          try simp only [Act.put]
          try simp only [List.setIfInBounds_toArray]
          try simp only [List.set_cons_succ]
          try simp only [List.set_cons_zero]
          refine wpAnyH_take (i := 3) (v := ?_) rfl (by kernel_rfl) (by kernel_rfl) (by kernel_rfl) (fun _ _ _ h => h) (Or.inl ⟨by kernel_rfl, fun W hSW => by go_simp; try with_reducible rfl⟩) (by assumption) ?_
          try simp only [List.getElem_toArray]
          try simp only [List.getElem_cons_succ]
          try simp only [List.getElem_cons_zero]
          try simp only [Act.put]
          try simp only [List.setIfInBounds_toArray]
          try simp only [List.set_cons_succ]
          try simp only [List.set_cons_zero]
          refine wpAnyH_take (i := 4) (v := ?_) rfl (by kernel_rfl) (by kernel_rfl) (by kernel_rfl) (fun _ _ _ h => h) (Or.inl ⟨by kernel_rfl, fun W hSW => by go_simp; try with_reducible rfl⟩) (by assumption) ?_
          try simp only [List.getElem_toArray]
          try simp only [List.getElem_cons_succ]
          try simp only [List.getElem_cons_zero]
          try simp only [Act.put]
          try simp only [List.setIfInBounds_toArray]
          try simp only [List.set_cons_succ]
          try simp only [List.set_cons_zero]
          refine wpAnyH_take (i := 5) (v := ?_) rfl (by kernel_rfl) (by kernel_rfl) (by kernel_rfl) (fun _ _ _ h => h) (Or.inl ⟨by kernel_rfl, fun W hSW => by go_simp; try with_reducible rfl⟩) (by assumption) ?_
          try simp only [List.getElem_toArray]
          try simp only [List.getElem_cons_succ]
          try simp only [List.getElem_cons_zero]
          try simp only [Act.put]
          try simp only [List.setIfInBounds_toArray]
          try simp only [List.set_cons_succ]
          try simp only [List.set_cons_zero]
          refine wpAnyH_take (i := 6) (v := ?_) rfl (by kernel_rfl) (by kernel_rfl) (by kernel_rfl) (fun _ _ _ h => h) (Or.inl ⟨by kernel_rfl, fun W hSW => by go_simp; try with_reducible rfl⟩) (by assumption) ?_
          try simp only [List.getElem_toArray]
          try simp only [List.getElem_cons_succ]
          try simp only [List.getElem_cons_zero]
          try simp only [Act.put]
          try simp only [List.setIfInBounds_toArray]
          try simp only [List.set_cons_succ]
          try simp only [List.set_cons_zero]
          refine wpAnyH_take (i := 7) (v := ?_) rfl (by kernel_rfl) (by kernel_rfl) (by kernel_rfl) (fun _ _ _ h => h) (Or.inl ⟨by kernel_rfl, fun W hSW => by go_simp; try with_reducible rfl⟩) (by assumption) ?_
          try simp only [List.getElem_toArray]
          try simp only [List.getElem_cons_succ]
          try simp only [List.getElem_cons_zero]
          try simp only [Act.put]
          try simp only [List.setIfInBounds_toArray]
          try simp only [List.set_cons_succ]
          try simp only [List.set_cons_zero]
          refine wpAnyH_take (i := 8) (v := ?_) rfl (by kernel_rfl) (by kernel_rfl) (by kernel_rfl) (fun _ _ _ h => h) (Or.inl ⟨by kernel_rfl, fun W hSW => by go_simp; try with_reducible rfl⟩) (by assumption) ?_
          try simp only [List.getElem_toArray]
          try simp only [List.getElem_cons_succ]
          try simp only [List.getElem_cons_zero]
          try simp only [Act.put]
          try simp only [List.setIfInBounds_toArray]
          try simp only [List.set_cons_succ]
          try simp only [List.set_cons_zero]
          refine wpAnyH_take (i := 9) (v := ?_) rfl (by kernel_rfl) (by kernel_rfl) (by kernel_rfl) (fun _ _ _ h => h) (Or.inl ⟨by kernel_rfl, fun W hSW => by go_simp; try with_reducible rfl⟩) (by assumption) ?_
          try simp only [List.getElem_toArray]
          try simp only [List.getElem_cons_succ]
          try simp only [List.getElem_cons_zero]
          try simp only [Act.put]
          try simp only [List.setIfInBounds_toArray]
          try simp only [List.set_cons_succ]
          try simp only [List.set_cons_zero]
          refine wpAnyH_take (i := 10) (v := ?_) rfl (by kernel_rfl) (by kernel_rfl) (by kernel_rfl) (fun _ _ _ h => h) (Or.inl ⟨by kernel_rfl, fun W hSW => by go_simp; try with_reducible rfl⟩) (by assumption) ?_
          try simp only [List.getElem_toArray]
          try simp only [List.getElem_cons_succ]
          try simp only [List.getElem_cons_zero]
          try simp only [Act.put]
          try simp only [List.setIfInBounds_toArray]
          try simp only [List.set_cons_succ]
          try simp only [List.set_cons_zero]
          refine wpAnyH_take (i := 11) (v := ?_) rfl (by kernel_rfl) (by kernel_rfl) (by kernel_rfl) (fun _ _ _ h => h) (Or.inl ⟨by kernel_rfl, fun W hSW => by go_simp; try with_reducible rfl⟩) (by assumption) ?_
          try simp only [List.getElem_toArray]
          try simp only [List.getElem_cons_succ]
          try simp only [List.getElem_cons_zero]
          try simp only [Act.put]
          try simp only [List.setIfInBounds_toArray]
          try simp only [List.set_cons_succ]
          try simp only [List.set_cons_zero]
          refine wpAnyH_ready (rs := [12]) (by kernel_rfl) (by simp) ?_
          refine AllReadyH.cons rfl (fun K hK => ?_) AllReadyH.nil
          go_simp
          refine hK.out _ _ (M1.out) (fun _ => ?_)
          clear hK K
          try simp only [List.getElem_toArray]
          try simp only [List.getElem_cons_succ]
          try simp only [List.getElem_cons_zero]
          try simp only [Act.put]
          try simp only [List.setIfInBounds_toArray]
          try simp only [List.set_cons_succ]
          try simp only [List.set_cons_zero]
          refine wpAnyH_take (i := 13) (v := ?_) rfl (by kernel_rfl) (by kernel_rfl) (by kernel_rfl) (fun _ _ _ h => h) (Or.inl ⟨by kernel_rfl, fun W hSW => by go_simp; try with_reducible rfl⟩) (by assumption) ?_
          try simp only [List.getElem_toArray]
          try simp only [List.getElem_cons_succ]
          try simp only [List.getElem_cons_zero]
          try simp only [Act.put]
          try simp only [List.setIfInBounds_toArray]
          try simp only [List.set_cons_succ]
          try simp only [List.set_cons_zero]
          refine wpAnyH_ready (rs := [14]) (by kernel_rfl) (by simp) ?_
          refine AllReadyH.cons rfl (fun K hK => ?_) AllReadyH.nil
          go_simp
          refine hK.out _ _ (M2.out) (fun _ => ?_)
          clear hK K
          try simp only [List.getElem_toArray]
          try simp only [List.getElem_cons_succ]
          try simp only [List.getElem_cons_zero]
          try simp only [Act.put]
          try simp only [List.setIfInBounds_toArray]
          try simp only [List.set_cons_succ]
          try simp only [List.set_cons_zero]
          refine wpAnyH_ready (rs := [15]) (by kernel_rfl) (by simp) ?_
          refine AllReadyH.cons rfl (fun K hK => ?_) AllReadyH.nil
          go_simp
          refine hK.out _ _ (M3.out) (fun _ => ?_)
          clear hK K
          try simp only [List.getElem_toArray]
          try simp only [List.getElem_cons_succ]
          try simp only [List.getElem_cons_zero]
          try simp only [Act.put]
          try simp only [List.setIfInBounds_toArray]
          try simp only [List.set_cons_succ]
          try simp only [List.set_cons_zero]
          refine wpAnyH_take (i := 16) (v := ?_) rfl (by kernel_rfl) (by kernel_rfl) (by kernel_rfl) (fun _ _ _ h => h) (Or.inl ⟨by kernel_rfl, fun W hSW => by go_simp; try with_reducible rfl⟩) (by assumption) ?_
          try simp only [List.getElem_toArray]
          try simp only [List.getElem_cons_succ]
          try simp only [List.getElem_cons_zero]
          try simp only [Act.put]
          try simp only [List.setIfInBounds_toArray]
          try simp only [List.set_cons_succ]
          try simp only [List.set_cons_zero]
          refine wpAnyH_ready (rs := [17]) (by kernel_rfl) (by simp) ?_
          refine AllReadyH.cons rfl (fun K hK => ?_) AllReadyH.nil
          go_simp
          refine hK.out _ _ (M4.out) (fun _ => ?_)
          clear hK K
          try simp only [List.getElem_toArray]
          try simp only [List.getElem_cons_succ]
          try simp only [List.getElem_cons_zero]
          try simp only [Act.put]
          try simp only [List.setIfInBounds_toArray]
          try simp only [List.set_cons_succ]
          try simp only [List.set_cons_zero]
          refine wpAnyH_done (by kernel_rfl) ?_ _
          have g0 := y0 G4 M4.out
          have g1 := y1 G4 M4.out
          have g2 := y2 G4 M4.out
          have g3 := y3 G4 M4.out
          obtain ⟨⟨o0, o1, o2, o3⟩, g⟩ := HOo.out.kept M4.out no
          have f0 := g 0
          have f1 := g 1
          have f2 := g 2
          have f3 := g 3
          clear s5 s6 k0 k1 y0 y1 y2 y3 hG1 hG2 hG3 hG4
          go_wp2
          have I4 := IU.out.renew M4.out (l' := l.set j ⟨true, t, s⟩) (List.length_set ..) (IX.out.good.on ht hs hfn.out j) hAG2'.out HA4.out
          have KK : PpK base w G4 := PpK.trans (PpK.none (KF.out.trans K6.out)) (IU.out.turned M4.out)
          have K := (((((Kept.refl (fun i => i = w.heap.size + 1) G4).setCell (p := ⟨w.heap.size + 1, 0, none⟩) (Or.inr rfl) (.int .u8 (z.a.toNat : Int))).setCell (p := ⟨w.heap.size + 1, 1, none⟩) (Or.inr rfl) (.int .u8 (z.b.toNat : Int))).setCell (p := ⟨w.heap.size + 1, 2, none⟩) (Or.inr rfl) (.int .u8 (z.c.toNat : Int))).setCell (p := ⟨w.heap.size + 1, 3, none⟩) (Or.inr rfl) (.int .u8 (z.d.toNat : Int)))
          refine bodyPost_ret (v := .tuple #[.agg #[.int .u8 (z.a.toNat : Int), .int .u8 (z.b.toNat : Int), .int .u8 (z.c.toNat : Int), .int .u8 (z.d.toNat : Int)], .int .i64 0]) (by simp [results, Tryd.results11, go_sem, o0, o1, o2, o3]) rfl ⟨by rw [hR2.out], ?_⟩
          rw [hR2.out]
          have hlt0 := HI.out.lt
          refine ⟨⟨some mb, some kb, I4.kept K (by omega) (fun mb' e => ?_) (fun kb' e => ?_)⟩, Kept.andThen KK K (fun i hi e => by omega)⟩
          · cases e
            have := ((HI.out.has mb rfl).2).lt
            omega
          · cases e
            have := ((HI.out.who kb rfl).2).lt
            omega
      · obtain rfl : j = l.length := by omega
        have hltz : ¬ (l.length : Int) < (l.length : Int) := by omega
        have hR2 : Hid (R = (ad0, 10, l)) := by
          have := HJ.out.2
          rw [List.take_length] at this
          rw [hRR.out, this]
          exact rfl
        obtain ⟨⟨o0, o1, o2, o3⟩, g⟩ := HF.out.kept HJ.out.1 (fun h => h)
        have f0 := g 0
        have f1 := g 1
        have f2 := g 2
        have f3 := g 3
        clear HAdd
        go_wp2
        have K := (((((KF.out.trans HJ.out.1).setCell (p := ⟨w.heap.size + 1, 0, none⟩) (Or.inl (Nat.le_succ _)) (.int .u8 0)).setCell (p := ⟨w.heap.size + 1, 1, none⟩) (Or.inl (Nat.le_succ _)) (.int .u8 0)).setCell (p := ⟨w.heap.size + 1, 2, none⟩) (Or.inl (Nat.le_succ _)) (.int .u8 0)).setCell (p := ⟨w.heap.size + 1, 3, none⟩) (Or.inl (Nat.le_succ _)) (.int .u8 0))
        refine bodyPost_ret (v := .tuple #[.agg #[.int .u8 0, .int .u8 0, .int .u8 0, .int .u8 0], .int .i64 10]) (by simp [results, Tryd.results11, go_sem, o0, o1, o2, o3]) rfl ⟨by rw [hR2.out]; rfl, ?_⟩
        rw [hR2.out]
        exact ⟨⟨m, k, HI.out.kept0 K⟩, PpK.none K⟩
end
end Go.Proofs.YtblcojggjplndaaDoor
