/- The contract of the program's store's Set. (Written by gen_ksset.py.) -/
import Derived.Test.YtmbdjgfbhblifaaDoorKsJudge
namespace Go.Proofs.YtmbdjgfbhblifaaDoor
open Go.RowKit

section
variable {w w' : World} {base b : Nat} {m : Option Nat} {limit calm : Int} {A : Ab}
theorem BoxR.set0 {rb : Nat} {e : En} (h : BoxR w rb e) (x : ByteArray) : BoxR (w.setCell ⟨rb, 0, none⟩ (.string x)) rb { e with secret := x } := by
  have := Joins.block_setCell (g := rb) (i := 0) (show w.heap[rb]? = _ from h) (.string x)
  simpa [BoxR] using this
theorem KsIn.kept {S : Nat → Prop} (h : KsIn w base b m limit calm A) (hk : Kept S w w') (h1 : ¬ S b) (h2 : ∀ mb, m = some mb → ¬ S mb) : KsIn w' base b m limit calm A :=
  ⟨(hk.block b h.lt h1).trans h.blk, h.nil, fun mb e => ⟨(h.sec mb e).1, (h.sec mb e).2.same (hk.block mb (h.sec mb e).2.lt (h2 mb e))⟩⟩
theorem KsIn.make (h : KsIn w base b none limit calm A) (hb : base ≤ w.heap.size) : KsIn ((w.alloc (.map #[] 0)).setCell ⟨b, 2, none⟩ (.map (some w.heap.size))) base b (some w.heap.size) limit calm A := by
  have hlt := h.lt
  have hb0 : (w.alloc (.map #[] 0)).heap[b]? = some (.cells #[.int .i64 limit, .int .i64 calm, .map none] 33 (0, 0)) := (Below.heap_alloc w _ b hlt).trans h.blk
  have hs := Joins.block_setCell (g := b) (i := 2) hb0 (.map (some w.heap.size))
  refine ⟨by simpa using hs, fun e => (by cases e), fun mb e => ?_⟩
  cases e
  refine ⟨hb, ?_⟩
  rw [h.nil rfl]
  exact (SecIs.made w).same (Below.heap_setCell _ _ _ _ (by show w.heap.size ≠ b; omega))
theorem delA_none {q : Two2} (h : A.look q = none) : delA A q = A := by
  unfold delA
  rw [h]
  have : updA A.look q none = A.look := by
    funext p
    unfold updA
    by_cases e : p = q
    · rw [if_pos e, e, h]
    · rw [if_neg e]
  rw [this]
  rfl
theorem setA_full {s x : ByteArray} (h1 : ¬ (60 < s.size ∨ 60 < x.size)) (h2 : A.look (splitF s) = none) (h3 : 100 ≤ A.n) : setA A s x = (10, A) := by
  unfold setA
  rw [if_neg h1, h2]
  simp only
  rw [if_pos h3]
theorem setA_del {s x : ByteArray} (h1 : ¬ (60 < s.size ∨ 60 < x.size)) (h2 : (A.look (splitF s)).isSome = true ∨ A.n < 100) (h3 : x.size = 0) : setA A s x = (0, delA A (splitF s)) := by
  unfold setA
  rw [if_neg h1]
  cases hl : A.look (splitF s) with
  | none =>
    rw [hl] at h2
    have h4 : ¬ 100 ≤ A.n := by
      rcases h2 with h2 | h2
      · cases h2
      · omega
    simp only
    rw [if_neg h4, if_pos h3, delA_none hl]
  | some e =>
    simp only
    rw [if_pos h3]
    unfold delA
    rw [hl]
    rfl
theorem setA_put {s x : ByteArray} (h1 : ¬ (60 < s.size ∨ 60 < x.size)) (h2 : (A.look (splitF s)).isSome = true ∨ A.n < 100) (h3 : x.size ≠ 0) : setA A s x = (0, putA A (splitF s) { (A.look (splitF s)).getD en0 with secret := x }) := by
  unfold setA putA
  rw [if_neg h1]
  cases hl : A.look (splitF s) with
  | none =>
    rw [hl] at h2
    have h4 : ¬ 100 ≤ A.n := by
      rcases h2 with h2 | h2
      · cases h2
      · omega
    simp only
    rw [if_neg h4, if_neg h3]
    rfl
  | some e =>
    simp only
    rw [if_neg h3]
    rfl

set_option maxHeartbeats 4000000 in
set_option maxRecDepth 100000 in
theorem set_any (h : KsIn w base b m limit calm A) (hb : base ≤ w.heap.size) (hA : FewA A) (s x : ByteArray) (hs : s.size ≤ 1000000) (hx : x.size ≤ 1000000) :
    Calls Tryd.prog 8 #[.pointer (some ⟨b, 0, none⟩), .string s, .string x] w fun e w' => e = .returned (.int .i64 (setA A s x).1) ∧ KsAt w' base b limit calm (setA A s x).2 ∧ KsK base b w w' := by
  by_cases q : 60 < s.size ∨ 60 < x.size
  · have hR : setA A s x = (2, A) := by unfold setA; rw [if_pos q]
    rw [hR]
    have HI := hid h
    clear h hR
    by_cases q1 : 60 < s.size
    · have z1 : (60 : Int) < (s.size : Int) := by omega
      clear q
      go_enter Tryd.func8, Tryd.ntmps8
      go_wp2
      go_ret
      exact ⟨rfl, ⟨_, HI.out⟩, KsK.none (Kept.refl _ w)⟩
    · have z1 : ¬ (60 : Int) < (s.size : Int) := by omega
      have z2 : (60 : Int) < (x.size : Int) := by omega
      clear q
      go_enter Tryd.func8, Tryd.ntmps8
      go_wp2
      go_ret
      exact ⟨rfl, ⟨_, HI.out⟩, KsK.none (Kept.refl _ w)⟩
  · have z1 : ¬ (60 : Int) < (s.size : Int) := by omega
    have z2 : ¬ (60 : Int) < (x.size : Int) := by omega
    have hq := hid (fitS hs)
    have HS := hid (fun W => split_any s (by omega) W)
    have HC : Hid (∀ (x : ByteArray) (W : World), x.size ≤ 1000000 → Calls Tryd.prog 20 #[.string x] W fun e w' => e = .returned (.string x) ∧ Kept (fun _ => False) W w') := fun x W hx => (clone_any x W (by omega)).mono fun _ _ ⟨h1, h2⟩ => ⟨h1, Kept.of_below h2 (fun i h3 h4 => by omega)⟩
    have HQ := hid q
    have HN : Hid (A.n < 1000000) := by
      have := hA.1
      show A.n < 1000000
      omega
    generalize hRR : setA A s x = R
    have HRR := hid hRR
    clear hRR
    obtain ⟨Q, hQ⟩ : ∃ Q, splitF s = Q := ⟨_, rfl⟩
    have HSP := hid hQ
    rw [hQ] at HS hq
    have HI := hid h
    have HBs := hid hb
    clear h hA hQ hs q hb
    have hl2 : Hid (∀ W, Kept (fun _ => False) w W → (Instr.lookup 31 (.map m) (.agg #[.string Q.1, .string Q.2]) true).run Tryd.prog W = .ok (lookV2 (A.look Q)) W) := fun W hk => (HI.out.kept0 hk).look2 hq.out
    obtain ⟨E, hE⟩ : ∃ E, (A.look Q).getD en0 = E := ⟨_, rfl⟩
    obtain ⟨f, hf⟩ : ∃ f, (A.look Q).isSome = f := ⟨_, rfl⟩
    unfold lookV2 recV at hl2
    rw [hE, hf] at hl2
    have HE := hid hE
    have HFd := hid hf
    clear hE hf
    go_enter Tryd.func8, Tryd.ntmps8
    go_wp2_with fail
    refine (HS.out _).mono ?_
    rintro e w1 ⟨rfl, hk1⟩
    have K1 := hid hk1
    clear hk1
    go_upto_region 6 with fail
    have KW : Hid (Kept (fun _ => False) w (w1.alloc (.cells #[.string Q.1, .string Q.2] 47))) := K1.out.alloc _
    have BW : Hid (BoxW (w1.alloc (.cells #[.string Q.1, .string Q.2] 47)) w1.heap.size Q) := heap_alloc_new w1 _
    clear K1
    generalize w1.alloc (.cells #[.string Q.1, .string Q.2] 47) = W at *
    generalize w1.heap.size = wb at *
    have q2 : ∀ X, Kept (fun _ => False) W X → X.cell? ⟨b, 2, none⟩ = some (.map m) := fun X hk => (HI.out.kept0 (KW.out.trans hk)).c2
    have q3 : ∀ X, Kept (fun _ => False) W X → X.cell? ⟨wb, 0, none⟩ = some (.string Q.1) := fun X hk => (BW.out.kept hk id).c0
    have q4 : ∀ X, Kept (fun _ => False) W X → X.cell? ⟨wb, 1, none⟩ = some (.string Q.2) := fun X hk => (BW.out.kept hk id).c1
    have q5 : ∀ X, Kept (fun _ => False) W X → (Instr.lookup 31 (.map m) (.agg #[.string Q.1, .string Q.2]) true).run Tryd.prog X = .ok (.tuple #[.agg #[.string E.secret, .int .i64 E.wrong, .int .i64 E.last], .bool f]) X := fun X hk => hl2.out X (KW.out.trans hk)
    refine wp_region_held_drew (S := Kept (fun _ => False) W) (by kernel_rfl) ((Kept.refl _ W).drew) (fun hSd => ?_)
    refine wpAnyH_take (i := 0) (v := ?_) rfl (by kernel_rfl) (by kernel_rfl) (by kernel_rfl) (fun _ _ _ h => h) (Or.inl ⟨by kernel_rfl, fun W hSW => by go_simp; try with_reducible rfl⟩) (by assumption) ?_
    try simp only [List.getElem_toArray]
    try simp only [List.getElem_cons_succ]
    try simp only [List.getElem_cons_zero]
    try simp only [Act.put]
    try simp only [List.setIfInBounds_toArray]
    try simp only [List.set_cons_succ]
    try simp only [List.set_cons_zero]
    refine wpAnyH_take (i := 1) (v := ?_) rfl (by kernel_rfl) (by kernel_rfl) (by kernel_rfl) (fun _ _ _ h => h) (Or.inl ⟨by kernel_rfl, fun W hSW => by go_simp; try with_reducible rfl⟩) (by assumption) ?_
    try simp only [List.getElem_toArray]
    try simp only [List.getElem_cons_succ]
    try simp only [List.getElem_cons_zero]
    try simp only [Act.put]
    try simp only [List.setIfInBounds_toArray]
    try simp only [List.set_cons_succ]
    try simp only [List.set_cons_zero]
    refine wpAnyH_take (i := 2) (v := ?_) rfl (by kernel_rfl) (by kernel_rfl) (by kernel_rfl) (fun _ _ _ h => h) (Or.inl ⟨by kernel_rfl, fun W hSW => by go_simp; try with_reducible rfl⟩) (by assumption) ?_
    try simp only [List.getElem_toArray]
    try simp only [List.getElem_cons_succ]
    try simp only [List.getElem_cons_zero]
    try simp only [Act.put]
    try simp only [List.setIfInBounds_toArray]
    try simp only [List.set_cons_succ]
    try simp only [List.set_cons_zero]
    refine wpAnyH_take (i := 3) (v := ?_) rfl (by kernel_rfl) (by kernel_rfl) (by kernel_rfl) (fun _ _ _ h => h) (Or.inl ⟨by kernel_rfl, fun W hSW => by go_simp; try with_reducible rfl⟩) (by assumption) ?_
    try simp only [List.getElem_toArray]
    try simp only [List.getElem_cons_succ]
    try simp only [List.getElem_cons_zero]
    try simp only [Act.put]
    try simp only [List.setIfInBounds_toArray]
    try simp only [List.set_cons_succ]
    try simp only [List.set_cons_zero]
    refine wpAnyH_take (i := 4) (v := ?_) rfl (by kernel_rfl) (by kernel_rfl) (by kernel_rfl) (fun _ _ _ h => h) (Or.inl ⟨by kernel_rfl, fun W hSW => by go_simp; try with_reducible rfl⟩) (by assumption) ?_
    try simp only [List.getElem_toArray]
    try simp only [List.getElem_cons_succ]
    try simp only [List.getElem_cons_zero]
    try simp only [Act.put]
    try simp only [List.setIfInBounds_toArray]
    try simp only [List.set_cons_succ]
    try simp only [List.set_cons_zero]
    refine wpAnyH_take (i := 5) (v := ?_) rfl (by kernel_rfl) (by kernel_rfl) (by kernel_rfl) (fun _ _ _ h => h) (Or.inl ⟨by kernel_rfl, fun W hSW => by go_simp; try with_reducible rfl⟩) (by assumption) ?_
    try simp only [List.getElem_toArray]
    try simp only [List.getElem_cons_succ]
    try simp only [List.getElem_cons_zero]
    try simp only [Act.put]
    try simp only [List.setIfInBounds_toArray]
    try simp only [List.set_cons_succ]
    try simp only [List.set_cons_zero]
    refine wpAnyH_take (i := 6) (v := ?_) rfl (by kernel_rfl) (by kernel_rfl) (by kernel_rfl) (fun _ _ _ h => h) (Or.inl ⟨by kernel_rfl, fun W hSW => by go_simp; try with_reducible rfl⟩) (by assumption) ?_
    try simp only [List.getElem_toArray]
    try simp only [List.getElem_cons_succ]
    try simp only [List.getElem_cons_zero]
    try simp only [Act.put]
    try simp only [List.setIfInBounds_toArray]
    try simp only [List.set_cons_succ]
    try simp only [List.set_cons_zero]
    refine wpAnyH_take (i := 7) (v := ?_) rfl (by kernel_rfl) (by kernel_rfl) (by kernel_rfl) (fun _ _ _ h => h) (Or.inl ⟨by kernel_rfl, fun W hSW => by go_simp; try with_reducible rfl⟩) (by assumption) ?_
    try simp only [List.getElem_toArray]
    try simp only [List.getElem_cons_succ]
    try simp only [List.getElem_cons_zero]
    try simp only [Act.put]
    try simp only [List.setIfInBounds_toArray]
    try simp only [List.set_cons_succ]
    try simp only [List.set_cons_zero]
    refine wpAnyH_take (i := 8) (v := ?_) rfl (by kernel_rfl) (by kernel_rfl) (by kernel_rfl) (fun _ _ _ h => h) (Or.inl ⟨by kernel_rfl, fun W hSW => by go_simp; try with_reducible rfl⟩) (by assumption) ?_
    try simp only [List.getElem_toArray]
    try simp only [List.getElem_cons_succ]
    try simp only [List.getElem_cons_zero]
    try simp only [Act.put]
    try simp only [List.setIfInBounds_toArray]
    try simp only [List.set_cons_succ]
    try simp only [List.set_cons_zero]
    refine wpAnyH_ready (rs := [9]) (by kernel_rfl) (by simp) ?_
    refine AllReadyH.cons rfl (fun K hK => ?_) AllReadyH.nil
    go_simp
    have K9 := hid ((Kept.refl (fun _ => False) W).drew.alloc (.cells #[.string ⟨#[]⟩, .int .i64 0, .int .i64 0] 54))
    refine hK.out _ _ (K9.out) (fun _ => ?_)
    clear hK K
    try simp only [List.getElem_toArray]
    try simp only [List.getElem_cons_succ]
    try simp only [List.getElem_cons_zero]
    try simp only [Act.put]
    try simp only [List.setIfInBounds_toArray]
    try simp only [List.set_cons_succ]
    try simp only [List.set_cons_zero]
    refine wpAnyH_ready (rs := [10]) (by kernel_rfl) (by simp) ?_
    refine AllReadyH.cons rfl (fun K hK => ?_) AllReadyH.nil
    go_simp
    have K10 := hid (((Kept.refl (fun _ => False) W).alloc (.cells #[.string E.secret, .int .i64 E.wrong, .int .i64 E.last] 54)).drew)
    have B10 : Hid (BoxR (W.alloc (.cells #[.string E.secret, .int .i64 E.wrong, .int .i64 E.last] 54)).drew W.heap.size E) := heap_alloc_new W _
    refine hK.out _ _ (K10.out) (fun _ => ?_)
    clear hK K
    try simp only [List.getElem_toArray]
    try simp only [List.getElem_cons_succ]
    try simp only [List.getElem_cons_zero]
    try simp only [Act.put]
    try simp only [List.setIfInBounds_toArray]
    try simp only [List.set_cons_succ]
    try simp only [List.set_cons_zero]
    refine wpAnyH_take (i := 11) (v := ?_) rfl (by kernel_rfl) (by kernel_rfl) (by kernel_rfl) (fun _ _ _ h => h) (Or.inl ⟨by kernel_rfl, fun W hSW => by go_simp; try with_reducible rfl⟩) (by assumption) ?_
    try simp only [List.getElem_toArray]
    try simp only [List.getElem_cons_succ]
    try simp only [List.getElem_cons_zero]
    try simp only [Act.put]
    try simp only [List.setIfInBounds_toArray]
    try simp only [List.set_cons_succ]
    try simp only [List.set_cons_zero]
    refine wpAnyH_done (by kernel_rfl) ?_ _
    go_upto_region 7 with fail
    have HRB : Hid (w.heap.size ≤ W.heap.size) := KW.out.size
    have KX := hid (KW.out.trans K10.out)
    have BX := hid (BW.out.kept K10.out id)
    clear q2 q3 q4 q5 KW BW K9 K10 hl2
    generalize (W.alloc (.cells #[.string E.secret, .int .i64 E.wrong, .int .i64 E.last] 54)).drew = X at *
    generalize W.heap.size = rb at *
    have IX := hid (HI.out.kept0 KX.out)
    have c2 := IX.out.c2
    have hlen := fun ty => IX.out.len ty
    have HFull : Hid (f = false ∧ 100 ≤ A.n ∨ (f = true ∨ A.n < 100)) := by
      show f = false ∧ 100 ≤ A.n ∨ (f = true ∨ A.n < 100)
      cases f
      · rcases Nat.lt_or_ge A.n 100 with h1 | h1
        · exact Or.inr (Or.inr h1)
        · exact Or.inl ⟨rfl, h1⟩
      · exact Or.inr (Or.inl rfl)
    rcases HFull.out with ⟨hf, hn⟩ | hnf
    · have hz : (100 : Int) ≤ (A.n : Int) := by omega
      subst hf
      have hn0 : A.look (splitF s) = none := by
        rw [HSP.out]
        cases hl : A.look Q with
        | none => rfl
        | some e => have := HFd.out; rw [hl] at this; cases this
      obtain rfl : ((10 : Int), A) = R := (setA_full HQ.out hn0 hn).symm.trans HRR.out
      clear hn HFd
      go_wp2
      go_ret
      exact ⟨rfl, ⟨_, IX.out⟩, KsK.none KX.out⟩
    · have hnf' : (A.look (splitF s)).isSome = true ∨ A.n < 100 := by rw [HSP.out, HFd.out]; exact hnf
      have HNF := hid hnf'
      have hfz : Hid (f = false → ¬ (100 : Int) ≤ (A.n : Int)) := fun e => by
        rcases hnf with e1 | e1
        · rw [e] at e1; cases e1
        · omega
      clear hnf hnf'
      have HSE : Hid (x.size = 0 ∨ x.size ≠ 0) := Classical.em _
      rcases HSE.out with he | he
      · have HR0 : Hid (((0 : Int), delA A Q) = R) := by
          have := setA_del HQ.out HNF.out he
          rw [HSP.out] at this
          exact this.symm.trans HRR.out
        obtain rfl := HR0.out
        have hem : x = ⟨#[]⟩ := by
          apply ByteArray.ext
          exact Array.eq_empty_of_size_eq_zero he
        subst hem
        have hem0 : (⟨#[]⟩ : ByteArray).toList = [] := by rw [ByteArray.toList_eq]
        clear HR0 HRR he HSE
        cases f with
        | true =>
          obtain ⟨e0, he0⟩ := Option.isSome_iff_exists.1 HFd.out
          obtain ⟨mb, rfl⟩ := IX.out.found he0
          clear he0
          obtain ⟨F, hF1, hF2, hF3⟩ := (IX.out.kept0 (Kept.refl _ X).drew).del (w := X.drew) hq.out 0
          unfold whoV at hF1
          have hSF : Kept (fun i => i = mb) X F := (Kept.refl _ X).drew.trans hF3
          have Hfin : Hid (KsAt F base b limit calm (delA A Q) ∧ KsK base b w F) := ⟨⟨_, hF2⟩, KsK.trans (w := X.drew) (KsK.none KX.out.drew) ((IX.out.kept0 (Kept.refl _ X).drew).turned hF3)⟩
          clear hF2 hF3
          have hbm : b ≠ mb := fun e => by
            obtain ⟨es, c, h2⟩ := (IX.out.sec _ rfl).2.isMap
            have h1 := IX.out.blk
            rw [e, h2] at h1
            cases h1
          have hwm : wb ≠ mb := fun e => by
            obtain ⟨es, c, h2⟩ := (IX.out.sec _ rfl).2.isMap
            have h1 : X.heap[wb]? = _ := BX.out
            rw [e, h2] at h1
            cases h1
          have s2 : ∀ Y, Kept (fun i => i = mb) X Y → Y.cell? ⟨b, 2, none⟩ = some (.map (some mb)) := fun Y hk => (hk.cell (p := ⟨b, 2, none⟩) IX.out.lt hbm).trans IX.out.c2
          have s3 : ∀ Y, Kept (fun i => i = mb) X Y → Y.cell? ⟨wb, 0, none⟩ = some (.string Q.1) := fun Y hk => (BX.out.kept hk hwm).c0
          have s4 : ∀ Y, Kept (fun i => i = mb) X Y → Y.cell? ⟨wb, 1, none⟩ = some (.string Q.2) := fun Y hk => (BX.out.kept hk hwm).c1
          clear hbm hwm
          go_upto_region 10 with fail
          refine wp_region_held_drew (S := Kept (fun i => i = mb) X) (by kernel_rfl) ((Kept.refl _ X).drew) (fun hSd => ?_)
          refine wpAnyH_take (i := 0) (v := ?_) rfl (by kernel_rfl) (by kernel_rfl) (by kernel_rfl) (fun _ _ _ h => h) (Or.inl ⟨by kernel_rfl, fun W hSW => by go_simp; try with_reducible rfl⟩) (by assumption) ?_
          try simp only [List.getElem_toArray]
          try simp only [List.getElem_cons_succ]
          try simp only [List.getElem_cons_zero]
          try simp only [Act.put]
          try simp only [List.setIfInBounds_toArray]
          try simp only [List.set_cons_succ]
          try simp only [List.set_cons_zero]
          refine wpAnyH_take (i := 1) (v := ?_) rfl (by kernel_rfl) (by kernel_rfl) (by kernel_rfl) (fun _ _ _ h => h) (Or.inl ⟨by kernel_rfl, fun W hSW => by go_simp; try with_reducible rfl⟩) (by assumption) ?_
          try simp only [List.getElem_toArray]
          try simp only [List.getElem_cons_succ]
          try simp only [List.getElem_cons_zero]
          try simp only [Act.put]
          try simp only [List.setIfInBounds_toArray]
          try simp only [List.set_cons_succ]
          try simp only [List.set_cons_zero]
          refine wpAnyH_take (i := 2) (v := ?_) rfl (by kernel_rfl) (by kernel_rfl) (by kernel_rfl) (fun _ _ _ h => h) (Or.inl ⟨by kernel_rfl, fun W hSW => by go_simp; try with_reducible rfl⟩) (by assumption) ?_
          try simp only [List.getElem_toArray]
          try simp only [List.getElem_cons_succ]
          try simp only [List.getElem_cons_zero]
          try simp only [Act.put]
          try simp only [List.setIfInBounds_toArray]
          try simp only [List.set_cons_succ]
          try simp only [List.set_cons_zero]
          refine wpAnyH_take (i := 3) (v := ?_) rfl (by kernel_rfl) (by kernel_rfl) (by kernel_rfl) (fun _ _ _ h => h) (Or.inl ⟨by kernel_rfl, fun W hSW => by go_simp; try with_reducible rfl⟩) (by assumption) ?_
          try simp only [List.getElem_toArray]
          try simp only [List.getElem_cons_succ]
          try simp only [List.getElem_cons_zero]
          try simp only [Act.put]
          try simp only [List.setIfInBounds_toArray]
          try simp only [List.set_cons_succ]
          try simp only [List.set_cons_zero]
          refine wpAnyH_take (i := 4) (v := ?_) rfl (by kernel_rfl) (by kernel_rfl) (by kernel_rfl) (fun _ _ _ h => h) (Or.inl ⟨by kernel_rfl, fun W hSW => by go_simp; try with_reducible rfl⟩) (by assumption) ?_
          try simp only [List.getElem_toArray]
          try simp only [List.getElem_cons_succ]
          try simp only [List.getElem_cons_zero]
          try simp only [Act.put]
          try simp only [List.setIfInBounds_toArray]
          try simp only [List.set_cons_succ]
          try simp only [List.set_cons_zero]
          refine wpAnyH_ready (rs := [5]) (by kernel_rfl) (by simp) ?_
          refine AllReadyH.cons rfl (fun K hK => ?_) AllReadyH.nil
          go_simp
          refine hK.out _ _ (hSF) (fun _ => ?_)
          clear hK K
          try simp only [List.getElem_toArray]
          try simp only [List.getElem_cons_succ]
          try simp only [List.getElem_cons_zero]
          try simp only [Act.put]
          try simp only [List.setIfInBounds_toArray]
          try simp only [List.set_cons_succ]
          try simp only [List.set_cons_zero]
          refine wpAnyH_done (by kernel_rfl) ?_ _
          clear s2 s3 s4 hF1
          go_wp2
          go_ret
          exact ⟨rfl, Hfin.out⟩
        | false =>
          have hz := hfz.out rfl
          cases m with
          | none =>
            have hF1 := nil_del X.drew hq.out 0
            unfold whoV at hF1
            have hno : A.look Q = none := by rw [IX.out.nil rfl]; rfl
            have Hfin : Hid (KsAt X.drew base b limit calm (delA A Q) ∧ KsK base b w X.drew) := by
              rw [delA_none hno]
              exact ⟨⟨_, IX.out.kept0 (Kept.refl _ X).drew⟩, KsK.none KX.out.drew⟩
            have s2 : ∀ Y, Kept (fun _ => False) X Y → Y.cell? ⟨b, 2, none⟩ = some (.map none) := fun Y hk => (IX.out.kept0 hk).c2
            have s3 : ∀ Y, Kept (fun _ => False) X Y → Y.cell? ⟨wb, 0, none⟩ = some (.string Q.1) := fun Y hk => (BX.out.kept hk id).c0
            have s4 : ∀ Y, Kept (fun _ => False) X Y → Y.cell? ⟨wb, 1, none⟩ = some (.string Q.2) := fun Y hk => (BX.out.kept hk id).c1
            clear hno
            go_upto_region 10 with fail
            refine wp_region_held_drew (S := Kept (fun _ => False) X) (by kernel_rfl) ((Kept.refl _ X).drew) (fun hSd => ?_)
            refine wpAnyH_take (i := 0) (v := ?_) rfl (by kernel_rfl) (by kernel_rfl) (by kernel_rfl) (fun _ _ _ h => h) (Or.inl ⟨by kernel_rfl, fun W hSW => by go_simp; try with_reducible rfl⟩) (by assumption) ?_
            try simp only [List.getElem_toArray]
            try simp only [List.getElem_cons_succ]
            try simp only [List.getElem_cons_zero]
            try simp only [Act.put]
            try simp only [List.setIfInBounds_toArray]
            try simp only [List.set_cons_succ]
            try simp only [List.set_cons_zero]
            refine wpAnyH_take (i := 1) (v := ?_) rfl (by kernel_rfl) (by kernel_rfl) (by kernel_rfl) (fun _ _ _ h => h) (Or.inl ⟨by kernel_rfl, fun W hSW => by go_simp; try with_reducible rfl⟩) (by assumption) ?_
            try simp only [List.getElem_toArray]
            try simp only [List.getElem_cons_succ]
            try simp only [List.getElem_cons_zero]
            try simp only [Act.put]
            try simp only [List.setIfInBounds_toArray]
            try simp only [List.set_cons_succ]
            try simp only [List.set_cons_zero]
            refine wpAnyH_take (i := 2) (v := ?_) rfl (by kernel_rfl) (by kernel_rfl) (by kernel_rfl) (fun _ _ _ h => h) (Or.inl ⟨by kernel_rfl, fun W hSW => by go_simp; try with_reducible rfl⟩) (by assumption) ?_
            try simp only [List.getElem_toArray]
            try simp only [List.getElem_cons_succ]
            try simp only [List.getElem_cons_zero]
            try simp only [Act.put]
            try simp only [List.setIfInBounds_toArray]
            try simp only [List.set_cons_succ]
            try simp only [List.set_cons_zero]
            refine wpAnyH_take (i := 3) (v := ?_) rfl (by kernel_rfl) (by kernel_rfl) (by kernel_rfl) (fun _ _ _ h => h) (Or.inl ⟨by kernel_rfl, fun W hSW => by go_simp; try with_reducible rfl⟩) (by assumption) ?_
            try simp only [List.getElem_toArray]
            try simp only [List.getElem_cons_succ]
            try simp only [List.getElem_cons_zero]
            try simp only [Act.put]
            try simp only [List.setIfInBounds_toArray]
            try simp only [List.set_cons_succ]
            try simp only [List.set_cons_zero]
            refine wpAnyH_take (i := 4) (v := ?_) rfl (by kernel_rfl) (by kernel_rfl) (by kernel_rfl) (fun _ _ _ h => h) (Or.inl ⟨by kernel_rfl, fun W hSW => by go_simp; try with_reducible rfl⟩) (by assumption) ?_
            try simp only [List.getElem_toArray]
            try simp only [List.getElem_cons_succ]
            try simp only [List.getElem_cons_zero]
            try simp only [Act.put]
            try simp only [List.setIfInBounds_toArray]
            try simp only [List.set_cons_succ]
            try simp only [List.set_cons_zero]
            refine wpAnyH_ready (rs := [5]) (by kernel_rfl) (by simp) ?_
            refine AllReadyH.cons rfl (fun K hK => ?_) AllReadyH.nil
            go_simp
            refine hK.out _ _ (((Kept.refl _ X).drew)) (fun _ => ?_)
            clear hK K
            try simp only [List.getElem_toArray]
            try simp only [List.getElem_cons_succ]
            try simp only [List.getElem_cons_zero]
            try simp only [Act.put]
            try simp only [List.setIfInBounds_toArray]
            try simp only [List.set_cons_succ]
            try simp only [List.set_cons_zero]
            refine wpAnyH_done (by kernel_rfl) ?_ _
            clear s2 s3 s4 hF1
            go_wp2
            go_ret
            exact ⟨rfl, Hfin.out⟩
          | some mb =>
            obtain ⟨F, hF1, hF2, hF3⟩ := (IX.out.kept0 (Kept.refl _ X).drew).del (w := X.drew) hq.out 0
            unfold whoV at hF1
            have hSF : Kept (fun i => i = mb) X F := (Kept.refl _ X).drew.trans hF3
            have Hfin : Hid (KsAt F base b limit calm (delA A Q) ∧ KsK base b w F) := ⟨⟨_, hF2⟩, KsK.trans (w := X.drew) (KsK.none KX.out.drew) ((IX.out.kept0 (Kept.refl _ X).drew).turned hF3)⟩
            clear hF2 hF3
            have hbm : b ≠ mb := fun e => by
              obtain ⟨es, c, h2⟩ := (IX.out.sec _ rfl).2.isMap
              have h1 := IX.out.blk
              rw [e, h2] at h1
              cases h1
            have hwm : wb ≠ mb := fun e => by
              obtain ⟨es, c, h2⟩ := (IX.out.sec _ rfl).2.isMap
              have h1 : X.heap[wb]? = _ := BX.out
              rw [e, h2] at h1
              cases h1
            have s2 : ∀ Y, Kept (fun i => i = mb) X Y → Y.cell? ⟨b, 2, none⟩ = some (.map (some mb)) := fun Y hk => (hk.cell (p := ⟨b, 2, none⟩) IX.out.lt hbm).trans IX.out.c2
            have s3 : ∀ Y, Kept (fun i => i = mb) X Y → Y.cell? ⟨wb, 0, none⟩ = some (.string Q.1) := fun Y hk => (BX.out.kept hk hwm).c0
            have s4 : ∀ Y, Kept (fun i => i = mb) X Y → Y.cell? ⟨wb, 1, none⟩ = some (.string Q.2) := fun Y hk => (BX.out.kept hk hwm).c1
            clear hbm hwm
            go_upto_region 10 with fail
            refine wp_region_held_drew (S := Kept (fun i => i = mb) X) (by kernel_rfl) ((Kept.refl _ X).drew) (fun hSd => ?_)
            refine wpAnyH_take (i := 0) (v := ?_) rfl (by kernel_rfl) (by kernel_rfl) (by kernel_rfl) (fun _ _ _ h => h) (Or.inl ⟨by kernel_rfl, fun W hSW => by go_simp; try with_reducible rfl⟩) (by assumption) ?_
            try simp only [List.getElem_toArray]
            try simp only [List.getElem_cons_succ]
            try simp only [List.getElem_cons_zero]
            try simp only [Act.put]
            try simp only [List.setIfInBounds_toArray]
            try simp only [List.set_cons_succ]
            try simp only [List.set_cons_zero]
            refine wpAnyH_take (i := 1) (v := ?_) rfl (by kernel_rfl) (by kernel_rfl) (by kernel_rfl) (fun _ _ _ h => h) (Or.inl ⟨by kernel_rfl, fun W hSW => by go_simp; try with_reducible rfl⟩) (by assumption) ?_
            try simp only [List.getElem_toArray]
            try simp only [List.getElem_cons_succ]
            try simp only [List.getElem_cons_zero]
            try simp only [Act.put]
            try simp only [List.setIfInBounds_toArray]
            try simp only [List.set_cons_succ]
            try simp only [List.set_cons_zero]
            refine wpAnyH_take (i := 2) (v := ?_) rfl (by kernel_rfl) (by kernel_rfl) (by kernel_rfl) (fun _ _ _ h => h) (Or.inl ⟨by kernel_rfl, fun W hSW => by go_simp; try with_reducible rfl⟩) (by assumption) ?_
            try simp only [List.getElem_toArray]
            try simp only [List.getElem_cons_succ]
            try simp only [List.getElem_cons_zero]
            try simp only [Act.put]
            try simp only [List.setIfInBounds_toArray]
            try simp only [List.set_cons_succ]
            try simp only [List.set_cons_zero]
            refine wpAnyH_take (i := 3) (v := ?_) rfl (by kernel_rfl) (by kernel_rfl) (by kernel_rfl) (fun _ _ _ h => h) (Or.inl ⟨by kernel_rfl, fun W hSW => by go_simp; try with_reducible rfl⟩) (by assumption) ?_
            try simp only [List.getElem_toArray]
            try simp only [List.getElem_cons_succ]
            try simp only [List.getElem_cons_zero]
            try simp only [Act.put]
            try simp only [List.setIfInBounds_toArray]
            try simp only [List.set_cons_succ]
            try simp only [List.set_cons_zero]
            refine wpAnyH_take (i := 4) (v := ?_) rfl (by kernel_rfl) (by kernel_rfl) (by kernel_rfl) (fun _ _ _ h => h) (Or.inl ⟨by kernel_rfl, fun W hSW => by go_simp; try with_reducible rfl⟩) (by assumption) ?_
            try simp only [List.getElem_toArray]
            try simp only [List.getElem_cons_succ]
            try simp only [List.getElem_cons_zero]
            try simp only [Act.put]
            try simp only [List.setIfInBounds_toArray]
            try simp only [List.set_cons_succ]
            try simp only [List.set_cons_zero]
            refine wpAnyH_ready (rs := [5]) (by kernel_rfl) (by simp) ?_
            refine AllReadyH.cons rfl (fun K hK => ?_) AllReadyH.nil
            go_simp
            refine hK.out _ _ (hSF) (fun _ => ?_)
            clear hK K
            try simp only [List.getElem_toArray]
            try simp only [List.getElem_cons_succ]
            try simp only [List.getElem_cons_zero]
            try simp only [Act.put]
            try simp only [List.setIfInBounds_toArray]
            try simp only [List.set_cons_succ]
            try simp only [List.set_cons_zero]
            refine wpAnyH_done (by kernel_rfl) ?_ _
            clear s2 s3 s4 hF1
            go_wp2
            go_ret
            exact ⟨rfl, Hfin.out⟩
      · have HR0 : Hid (((0 : Int), putA A Q { E with secret := x }) = R) := by
          have := setA_put HQ.out HNF.out he
          rw [HSP.out, HE.out] at this
          exact this.symm.trans HRR.out
        obtain rfl := HR0.out
        have hne : ¬ x.toList = [] := fun e => by
          apply he
          rw [ByteArray.toList_eq] at e
          have := congrArg List.length e
          simpa using this
        have hne' : x.toList.isEmpty = false := by rw [List.isEmpty_eq_false_iff]; exact hne
        clear HR0 HRR he HSE
        cases f with
        | true =>
          obtain ⟨e0, he0⟩ := Option.isSome_iff_exists.1 HFd.out
          obtain ⟨mb, rfl⟩ := IX.out.found he0
          clear he0
          have g1 := eq_mapSome mb X
          have KKY := hid (KsK.none (base := base) (b := b) KX.out)
          have BR := hid B10.out
          have BWX := hid BX.out
          have IY := hid IX.out
          generalize hY : X = Y at *
          go_upto_region 14 with fail
          clear g1 c2 hlen
          have HW2 := hid (HC.out x Y (by omega))
          go_wp2_with fail
          refine HW2.out.mono ?_
          rintro e X2 ⟨rfl, hk2⟩
          have B2 := hid (BR.out.kept hk2 id)
          have C2 := hid (BWX.out.kept hk2 id)
          have I2 := hid (IY.out.kept0 hk2)
          have KK2 := hid (KKY.out.trans (KsK.none hk2))
          have n0 := B2.out.c0
          have f0 := B2.out.fz 0
          clear hk2
          have B3 : Hid (BoxR (X2.setCell ⟨rb, 0, none⟩ (.string x)) rb { E with secret := x }) := B2.out.set0 x
          have k3 : Kept (fun i => i = rb) X2 (X2.setCell ⟨rb, 0, none⟩ (.string x)) := (Kept.refl (fun i => i = rb) X2).setCell (p := ⟨rb, 0, none⟩) (Or.inr rfl) _
          have hrb : rb ≠ b := fun e => by
            have h1 : X2.heap[rb]? = _ := B2.out
            rw [e, I2.out.blk] at h1
            simp at h1
          have hrm : rb ≠ mb := fun e => by
            obtain ⟨es, c, h2⟩ := (I2.out.sec _ rfl).2.isMap
            have h1 : X2.heap[rb]? = _ := B2.out
            rw [e, h2] at h1
            cases h1
          have hrw : wb ≠ rb := fun e => by
            have h1 : X2.heap[wb]? = _ := C2.out
            have h2 : X2.heap[rb]? = _ := B2.out
            rw [e, h2] at h1
            simp at h1
          have I3 := hid (I2.out.kept k3 (fun e => hrb e.symm) (fun mb' e e2 => by cases e; exact hrm e2.symm))
          have C3 := hid (C2.out.kept k3 hrw)
          have KK3 : Hid (KsK base b w (X2.setCell ⟨rb, 0, none⟩ (.string x))) := KK2.out.setCell (p := ⟨rb, 0, none⟩) (Or.inl HRB.out) _
          clear k3 hrb hrw
          go_upto_region 15 with fail
          generalize X2.setCell ⟨rb, 0, none⟩ (.string x) = X3 at *
          clear n0 f0 HW2 B2 C2 I2 KK2
          obtain ⟨F, hF1, hF2, hF3⟩ := (I3.out.kept0 (Kept.refl _ X3).drew).put (w := X3.drew) hq.out HN.out { E with secret := x }
          unfold whoV recV at hF1
          simp only at hF1
          have hSF : Kept (fun i => i = mb) X3 F := (Kept.refl _ X3).drew.trans hF3
          have Hfin : Hid (KsAt F base b limit calm (putA A Q { E with secret := x }) ∧ KsK base b w F) := ⟨⟨_, hF2⟩, KsK.trans (w := X3.drew) (KK3.out.trans (KsK.none (Kept.refl _ X3).drew)) ((I3.out.kept0 (Kept.refl _ X3).drew).turned hF3)⟩
          clear hF2 hF3
          have hbm : b ≠ mb := fun e => by
            obtain ⟨es, c, h2⟩ := (I3.out.sec _ rfl).2.isMap
            have h1 := I3.out.blk
            rw [e, h2] at h1
            cases h1
          have hwm : wb ≠ mb := fun e => by
            obtain ⟨es, c, h2⟩ := (I3.out.sec _ rfl).2.isMap
            have h1 : X3.heap[wb]? = _ := C3.out
            rw [e, h2] at h1
            cases h1
          have s2 : ∀ X, Kept (fun i => i = mb) X3 X → X.cell? ⟨b, 2, none⟩ = some (.map (some mb)) := fun X hk => (hk.cell (p := ⟨b, 2, none⟩) I3.out.lt hbm).trans I3.out.c2
          have s3 : ∀ X, Kept (fun i => i = mb) X3 X → X.cell? ⟨wb, 0, none⟩ = some (.string Q.1) := fun X hk => (C3.out.kept hk hwm).c0
          have s4 : ∀ X, Kept (fun i => i = mb) X3 X → X.cell? ⟨wb, 1, none⟩ = some (.string Q.2) := fun X hk => (C3.out.kept hk hwm).c1
          have s5 : ∀ X, Kept (fun i => i = mb) X3 X → X.cell? ⟨rb, 0, none⟩ = some (.string x) := fun X hk => (B3.out.kept hk hrm).c0
          have s6 : ∀ X, Kept (fun i => i = mb) X3 X → X.cell? ⟨rb, 1, none⟩ = some (.int .i64 E.wrong) := fun X hk => (B3.out.kept hk hrm).c1
          have s7 : ∀ X, Kept (fun i => i = mb) X3 X → X.cell? ⟨rb, 2, none⟩ = some (.int .i64 E.last) := fun X hk => (B3.out.kept hk hrm).c2
          clear hbm hwm hrm
          refine wp_region_held_drew (S := Kept (fun i => i = mb) X3) (by kernel_rfl) ((Kept.refl _ X3).drew) (fun hSd => ?_)
          refine wpAnyH_take (i := 0) (v := ?_) rfl (by kernel_rfl) (by kernel_rfl) (by kernel_rfl) (fun _ _ _ h => h) (Or.inl ⟨by kernel_rfl, fun W hSW => by go_simp; try with_reducible rfl⟩) (by assumption) ?_
          try simp only [List.getElem_toArray]
          try simp only [List.getElem_cons_succ]
          try simp only [List.getElem_cons_zero]
          try simp only [Act.put]
          try simp only [List.setIfInBounds_toArray]
          try simp only [List.set_cons_succ]
          try simp only [List.set_cons_zero]
          refine wpAnyH_take (i := 1) (v := ?_) rfl (by kernel_rfl) (by kernel_rfl) (by kernel_rfl) (fun _ _ _ h => h) (Or.inl ⟨by kernel_rfl, fun W hSW => by go_simp; try with_reducible rfl⟩) (by assumption) ?_
          try simp only [List.getElem_toArray]
          try simp only [List.getElem_cons_succ]
          try simp only [List.getElem_cons_zero]
          try simp only [Act.put]
          try simp only [List.setIfInBounds_toArray]
          try simp only [List.set_cons_succ]
          try simp only [List.set_cons_zero]
          refine wpAnyH_take (i := 2) (v := ?_) rfl (by kernel_rfl) (by kernel_rfl) (by kernel_rfl) (fun _ _ _ h => h) (Or.inl ⟨by kernel_rfl, fun W hSW => by go_simp; try with_reducible rfl⟩) (by assumption) ?_
          try simp only [List.getElem_toArray]
          try simp only [List.getElem_cons_succ]
          try simp only [List.getElem_cons_zero]
          try simp only [Act.put]
          try simp only [List.setIfInBounds_toArray]
          try simp only [List.set_cons_succ]
          try simp only [List.set_cons_zero]
          refine wpAnyH_take (i := 3) (v := ?_) rfl (by kernel_rfl) (by kernel_rfl) (by kernel_rfl) (fun _ _ _ h => h) (Or.inl ⟨by kernel_rfl, fun W hSW => by go_simp; try with_reducible rfl⟩) (by assumption) ?_
          try simp only [List.getElem_toArray]
          try simp only [List.getElem_cons_succ]
          try simp only [List.getElem_cons_zero]
          try simp only [Act.put]
          try simp only [List.setIfInBounds_toArray]
          try simp only [List.set_cons_succ]
          try simp only [List.set_cons_zero]
          refine wpAnyH_take (i := 4) (v := ?_) rfl (by kernel_rfl) (by kernel_rfl) (by kernel_rfl) (fun _ _ _ h => h) (Or.inl ⟨by kernel_rfl, fun W hSW => by go_simp; try with_reducible rfl⟩) (by assumption) ?_
          try simp only [List.getElem_toArray]
          try simp only [List.getElem_cons_succ]
          try simp only [List.getElem_cons_zero]
          try simp only [Act.put]
          try simp only [List.setIfInBounds_toArray]
          try simp only [List.set_cons_succ]
          try simp only [List.set_cons_zero]
          refine wpAnyH_take (i := 5) (v := ?_) rfl (by kernel_rfl) (by kernel_rfl) (by kernel_rfl) (fun _ _ _ h => h) (Or.inl ⟨by kernel_rfl, fun W hSW => by go_simp; try with_reducible rfl⟩) (by assumption) ?_
          try simp only [List.getElem_toArray]
          try simp only [List.getElem_cons_succ]
          try simp only [List.getElem_cons_zero]
          try simp only [Act.put]
          try simp only [List.setIfInBounds_toArray]
          try simp only [List.set_cons_succ]
          try simp only [List.set_cons_zero]
          refine wpAnyH_ready (rs := [6]) (by kernel_rfl) (by simp) ?_
          refine AllReadyH.cons rfl (fun K hK => ?_) AllReadyH.nil
          go_simp
          refine hK.out _ _ (hSF) (fun _ => ?_)
          clear hK K
          try simp only [List.getElem_toArray]
          try simp only [List.getElem_cons_succ]
          try simp only [List.getElem_cons_zero]
          try simp only [Act.put]
          try simp only [List.setIfInBounds_toArray]
          try simp only [List.set_cons_succ]
          try simp only [List.set_cons_zero]
          refine wpAnyH_done (by kernel_rfl) ?_ _
          clear s2 s3 s4 s5 s6 s7 hF1
          go_wp2
          go_ret
          exact ⟨rfl, Hfin.out⟩
        | false =>
          have hz := hfz.out rfl
          cases m with
          | none =>
            have g1 := eq_mapNil X
            have hfz2 := IX.out.fz 2
            have IY := hid (IX.out.make (Nat.le_trans HBs.out KX.out.size))
            have KKY : Hid (KsK base b w ((X.alloc (.map #[] 0)).setCell ⟨b, 2, none⟩ (.map (some X.heap.size)))) := ((KsK.none (base := base) (b := b) KX.out).alloc _).setCell (p := ⟨b, 2, none⟩) (Or.inr (Or.inl rfl)) _
            have hkb : Kept (fun i => i = b) X ((X.alloc (.map #[] 0)).setCell ⟨b, 2, none⟩ (.map (some X.heap.size))) := ((Kept.refl (fun i => i = b) X).alloc _).setCell (p := ⟨b, 2, none⟩) (Or.inr rfl) _
            have BR := hid (B10.out.kept hkb (fun e => by
              have h1 : X.heap[rb]? = _ := B10.out
              rw [e, IX.out.blk] at h1
              simp at h1))
            have BWX := hid (BX.out.kept hkb (fun e => by
              have h1 : X.heap[wb]? = _ := BX.out
              rw [e, IX.out.blk] at h1
              simp at h1))
            have c2' : (X.alloc (.map #[] 0)).cell? ⟨b, 2, none⟩ = some (.map none) := (Kept.cell ((Kept.refl (fun _ => False) X).alloc (.map #[] 0)) (p := ⟨b, 2, none⟩) IX.out.lt id).trans IX.out.c2
            have fz' : (X.alloc (.map #[] 0)).frozen? ⟨b, 2, none⟩ = false := (Kept.frozen ((Kept.refl (fun _ => False) X).alloc (.map #[] 0)) (p := ⟨b, 2, none⟩) IX.out.lt id).trans (IX.out.fz 2)
            have hmm := @run_makeMap Tryd.prog
            clear hkb
            go_upto_region 14 with fail
            clear g1 c2 hlen c2' fz' hfz2 hmm
            generalize (X.alloc (.map #[] 0)).setCell ⟨b, 2, none⟩ (.map (some X.heap.size)) = Y at *
            generalize X.heap.size = mb at *
            have HW2 := hid (HC.out x Y (by omega))
            go_wp2_with fail
            refine HW2.out.mono ?_
            rintro e X2 ⟨rfl, hk2⟩
            have B2 := hid (BR.out.kept hk2 id)
            have C2 := hid (BWX.out.kept hk2 id)
            have I2 := hid (IY.out.kept0 hk2)
            have KK2 := hid (KKY.out.trans (KsK.none hk2))
            have n0 := B2.out.c0
            have f0 := B2.out.fz 0
            clear hk2
            have B3 : Hid (BoxR (X2.setCell ⟨rb, 0, none⟩ (.string x)) rb { E with secret := x }) := B2.out.set0 x
            have k3 : Kept (fun i => i = rb) X2 (X2.setCell ⟨rb, 0, none⟩ (.string x)) := (Kept.refl (fun i => i = rb) X2).setCell (p := ⟨rb, 0, none⟩) (Or.inr rfl) _
            have hrb : rb ≠ b := fun e => by
              have h1 : X2.heap[rb]? = _ := B2.out
              rw [e, I2.out.blk] at h1
              simp at h1
            have hrm : rb ≠ mb := fun e => by
              obtain ⟨es, c, h2⟩ := (I2.out.sec _ rfl).2.isMap
              have h1 : X2.heap[rb]? = _ := B2.out
              rw [e, h2] at h1
              cases h1
            have hrw : wb ≠ rb := fun e => by
              have h1 : X2.heap[wb]? = _ := C2.out
              have h2 : X2.heap[rb]? = _ := B2.out
              rw [e, h2] at h1
              simp at h1
            have I3 := hid (I2.out.kept k3 (fun e => hrb e.symm) (fun mb' e e2 => by cases e; exact hrm e2.symm))
            have C3 := hid (C2.out.kept k3 hrw)
            have KK3 : Hid (KsK base b w (X2.setCell ⟨rb, 0, none⟩ (.string x))) := KK2.out.setCell (p := ⟨rb, 0, none⟩) (Or.inl HRB.out) _
            clear k3 hrb hrw
            go_upto_region 15 with fail
            generalize X2.setCell ⟨rb, 0, none⟩ (.string x) = X3 at *
            clear n0 f0 HW2 B2 C2 I2 KK2
            obtain ⟨F, hF1, hF2, hF3⟩ := (I3.out.kept0 (Kept.refl _ X3).drew).put (w := X3.drew) hq.out HN.out { E with secret := x }
            unfold whoV recV at hF1
            simp only at hF1
            have hSF : Kept (fun i => i = mb) X3 F := (Kept.refl _ X3).drew.trans hF3
            have Hfin : Hid (KsAt F base b limit calm (putA A Q { E with secret := x }) ∧ KsK base b w F) := ⟨⟨_, hF2⟩, KsK.trans (w := X3.drew) (KK3.out.trans (KsK.none (Kept.refl _ X3).drew)) ((I3.out.kept0 (Kept.refl _ X3).drew).turned hF3)⟩
            clear hF2 hF3
            have hbm : b ≠ mb := fun e => by
              obtain ⟨es, c, h2⟩ := (I3.out.sec _ rfl).2.isMap
              have h1 := I3.out.blk
              rw [e, h2] at h1
              cases h1
            have hwm : wb ≠ mb := fun e => by
              obtain ⟨es, c, h2⟩ := (I3.out.sec _ rfl).2.isMap
              have h1 : X3.heap[wb]? = _ := C3.out
              rw [e, h2] at h1
              cases h1
            have s2 : ∀ X, Kept (fun i => i = mb) X3 X → X.cell? ⟨b, 2, none⟩ = some (.map (some mb)) := fun X hk => (hk.cell (p := ⟨b, 2, none⟩) I3.out.lt hbm).trans I3.out.c2
            have s3 : ∀ X, Kept (fun i => i = mb) X3 X → X.cell? ⟨wb, 0, none⟩ = some (.string Q.1) := fun X hk => (C3.out.kept hk hwm).c0
            have s4 : ∀ X, Kept (fun i => i = mb) X3 X → X.cell? ⟨wb, 1, none⟩ = some (.string Q.2) := fun X hk => (C3.out.kept hk hwm).c1
            have s5 : ∀ X, Kept (fun i => i = mb) X3 X → X.cell? ⟨rb, 0, none⟩ = some (.string x) := fun X hk => (B3.out.kept hk hrm).c0
            have s6 : ∀ X, Kept (fun i => i = mb) X3 X → X.cell? ⟨rb, 1, none⟩ = some (.int .i64 E.wrong) := fun X hk => (B3.out.kept hk hrm).c1
            have s7 : ∀ X, Kept (fun i => i = mb) X3 X → X.cell? ⟨rb, 2, none⟩ = some (.int .i64 E.last) := fun X hk => (B3.out.kept hk hrm).c2
            clear hbm hwm hrm
            refine wp_region_held_drew (S := Kept (fun i => i = mb) X3) (by kernel_rfl) ((Kept.refl _ X3).drew) (fun hSd => ?_)
            refine wpAnyH_take (i := 0) (v := ?_) rfl (by kernel_rfl) (by kernel_rfl) (by kernel_rfl) (fun _ _ _ h => h) (Or.inl ⟨by kernel_rfl, fun W hSW => by go_simp; try with_reducible rfl⟩) (by assumption) ?_
            try simp only [List.getElem_toArray]
            try simp only [List.getElem_cons_succ]
            try simp only [List.getElem_cons_zero]
            try simp only [Act.put]
            try simp only [List.setIfInBounds_toArray]
            try simp only [List.set_cons_succ]
            try simp only [List.set_cons_zero]
            refine wpAnyH_take (i := 1) (v := ?_) rfl (by kernel_rfl) (by kernel_rfl) (by kernel_rfl) (fun _ _ _ h => h) (Or.inl ⟨by kernel_rfl, fun W hSW => by go_simp; try with_reducible rfl⟩) (by assumption) ?_
            try simp only [List.getElem_toArray]
            try simp only [List.getElem_cons_succ]
            try simp only [List.getElem_cons_zero]
            try simp only [Act.put]
            try simp only [List.setIfInBounds_toArray]
            try simp only [List.set_cons_succ]
            try simp only [List.set_cons_zero]
            refine wpAnyH_take (i := 2) (v := ?_) rfl (by kernel_rfl) (by kernel_rfl) (by kernel_rfl) (fun _ _ _ h => h) (Or.inl ⟨by kernel_rfl, fun W hSW => by go_simp; try with_reducible rfl⟩) (by assumption) ?_
            try simp only [List.getElem_toArray]
            try simp only [List.getElem_cons_succ]
            try simp only [List.getElem_cons_zero]
            try simp only [Act.put]
            try simp only [List.setIfInBounds_toArray]
            try simp only [List.set_cons_succ]
            try simp only [List.set_cons_zero]
            refine wpAnyH_take (i := 3) (v := ?_) rfl (by kernel_rfl) (by kernel_rfl) (by kernel_rfl) (fun _ _ _ h => h) (Or.inl ⟨by kernel_rfl, fun W hSW => by go_simp; try with_reducible rfl⟩) (by assumption) ?_
            try simp only [List.getElem_toArray]
            try simp only [List.getElem_cons_succ]
            try simp only [List.getElem_cons_zero]
            try simp only [Act.put]
            try simp only [List.setIfInBounds_toArray]
            try simp only [List.set_cons_succ]
            try simp only [List.set_cons_zero]
            refine wpAnyH_take (i := 4) (v := ?_) rfl (by kernel_rfl) (by kernel_rfl) (by kernel_rfl) (fun _ _ _ h => h) (Or.inl ⟨by kernel_rfl, fun W hSW => by go_simp; try with_reducible rfl⟩) (by assumption) ?_
            try simp only [List.getElem_toArray]
            try simp only [List.getElem_cons_succ]
            try simp only [List.getElem_cons_zero]
            try simp only [Act.put]
            try simp only [List.setIfInBounds_toArray]
            try simp only [List.set_cons_succ]
            try simp only [List.set_cons_zero]
            refine wpAnyH_take (i := 5) (v := ?_) rfl (by kernel_rfl) (by kernel_rfl) (by kernel_rfl) (fun _ _ _ h => h) (Or.inl ⟨by kernel_rfl, fun W hSW => by go_simp; try with_reducible rfl⟩) (by assumption) ?_
            try simp only [List.getElem_toArray]
            try simp only [List.getElem_cons_succ]
            try simp only [List.getElem_cons_zero]
            try simp only [Act.put]
            try simp only [List.setIfInBounds_toArray]
            try simp only [List.set_cons_succ]
            try simp only [List.set_cons_zero]
            refine wpAnyH_ready (rs := [6]) (by kernel_rfl) (by simp) ?_
            refine AllReadyH.cons rfl (fun K hK => ?_) AllReadyH.nil
            go_simp
            refine hK.out _ _ (hSF) (fun _ => ?_)
            clear hK K
            try simp only [List.getElem_toArray]
            try simp only [List.getElem_cons_succ]
            try simp only [List.getElem_cons_zero]
            try simp only [Act.put]
            try simp only [List.setIfInBounds_toArray]
            try simp only [List.set_cons_succ]
            try simp only [List.set_cons_zero]
            refine wpAnyH_done (by kernel_rfl) ?_ _
            clear s2 s3 s4 s5 s6 s7 hF1
            go_wp2
            go_ret
            exact ⟨rfl, Hfin.out⟩
          | some mb =>
            have g1 := eq_mapSome mb X
            have KKY := hid (KsK.none (base := base) (b := b) KX.out)
            have BR := hid B10.out
            have BWX := hid BX.out
            have IY := hid IX.out
            generalize hY : X = Y at *
            go_upto_region 14 with fail
            clear g1 c2 hlen
            have HW2 := hid (HC.out x Y (by omega))
            go_wp2_with fail
            refine HW2.out.mono ?_
            rintro e X2 ⟨rfl, hk2⟩
            have B2 := hid (BR.out.kept hk2 id)
            have C2 := hid (BWX.out.kept hk2 id)
            have I2 := hid (IY.out.kept0 hk2)
            have KK2 := hid (KKY.out.trans (KsK.none hk2))
            have n0 := B2.out.c0
            have f0 := B2.out.fz 0
            clear hk2
            have B3 : Hid (BoxR (X2.setCell ⟨rb, 0, none⟩ (.string x)) rb { E with secret := x }) := B2.out.set0 x
            have k3 : Kept (fun i => i = rb) X2 (X2.setCell ⟨rb, 0, none⟩ (.string x)) := (Kept.refl (fun i => i = rb) X2).setCell (p := ⟨rb, 0, none⟩) (Or.inr rfl) _
            have hrb : rb ≠ b := fun e => by
              have h1 : X2.heap[rb]? = _ := B2.out
              rw [e, I2.out.blk] at h1
              simp at h1
            have hrm : rb ≠ mb := fun e => by
              obtain ⟨es, c, h2⟩ := (I2.out.sec _ rfl).2.isMap
              have h1 : X2.heap[rb]? = _ := B2.out
              rw [e, h2] at h1
              cases h1
            have hrw : wb ≠ rb := fun e => by
              have h1 : X2.heap[wb]? = _ := C2.out
              have h2 : X2.heap[rb]? = _ := B2.out
              rw [e, h2] at h1
              simp at h1
            have I3 := hid (I2.out.kept k3 (fun e => hrb e.symm) (fun mb' e e2 => by cases e; exact hrm e2.symm))
            have C3 := hid (C2.out.kept k3 hrw)
            have KK3 : Hid (KsK base b w (X2.setCell ⟨rb, 0, none⟩ (.string x))) := KK2.out.setCell (p := ⟨rb, 0, none⟩) (Or.inl HRB.out) _
            clear k3 hrb hrw
            go_upto_region 15 with fail
            generalize X2.setCell ⟨rb, 0, none⟩ (.string x) = X3 at *
            clear n0 f0 HW2 B2 C2 I2 KK2
            obtain ⟨F, hF1, hF2, hF3⟩ := (I3.out.kept0 (Kept.refl _ X3).drew).put (w := X3.drew) hq.out HN.out { E with secret := x }
            unfold whoV recV at hF1
            simp only at hF1
            have hSF : Kept (fun i => i = mb) X3 F := (Kept.refl _ X3).drew.trans hF3
            have Hfin : Hid (KsAt F base b limit calm (putA A Q { E with secret := x }) ∧ KsK base b w F) := ⟨⟨_, hF2⟩, KsK.trans (w := X3.drew) (KK3.out.trans (KsK.none (Kept.refl _ X3).drew)) ((I3.out.kept0 (Kept.refl _ X3).drew).turned hF3)⟩
            clear hF2 hF3
            have hbm : b ≠ mb := fun e => by
              obtain ⟨es, c, h2⟩ := (I3.out.sec _ rfl).2.isMap
              have h1 := I3.out.blk
              rw [e, h2] at h1
              cases h1
            have hwm : wb ≠ mb := fun e => by
              obtain ⟨es, c, h2⟩ := (I3.out.sec _ rfl).2.isMap
              have h1 : X3.heap[wb]? = _ := C3.out
              rw [e, h2] at h1
              cases h1
            have s2 : ∀ X, Kept (fun i => i = mb) X3 X → X.cell? ⟨b, 2, none⟩ = some (.map (some mb)) := fun X hk => (hk.cell (p := ⟨b, 2, none⟩) I3.out.lt hbm).trans I3.out.c2
            have s3 : ∀ X, Kept (fun i => i = mb) X3 X → X.cell? ⟨wb, 0, none⟩ = some (.string Q.1) := fun X hk => (C3.out.kept hk hwm).c0
            have s4 : ∀ X, Kept (fun i => i = mb) X3 X → X.cell? ⟨wb, 1, none⟩ = some (.string Q.2) := fun X hk => (C3.out.kept hk hwm).c1
            have s5 : ∀ X, Kept (fun i => i = mb) X3 X → X.cell? ⟨rb, 0, none⟩ = some (.string x) := fun X hk => (B3.out.kept hk hrm).c0
            have s6 : ∀ X, Kept (fun i => i = mb) X3 X → X.cell? ⟨rb, 1, none⟩ = some (.int .i64 E.wrong) := fun X hk => (B3.out.kept hk hrm).c1
            have s7 : ∀ X, Kept (fun i => i = mb) X3 X → X.cell? ⟨rb, 2, none⟩ = some (.int .i64 E.last) := fun X hk => (B3.out.kept hk hrm).c2
            clear hbm hwm hrm
            refine wp_region_held_drew (S := Kept (fun i => i = mb) X3) (by kernel_rfl) ((Kept.refl _ X3).drew) (fun hSd => ?_)
            refine wpAnyH_take (i := 0) (v := ?_) rfl (by kernel_rfl) (by kernel_rfl) (by kernel_rfl) (fun _ _ _ h => h) (Or.inl ⟨by kernel_rfl, fun W hSW => by go_simp; try with_reducible rfl⟩) (by assumption) ?_
            try simp only [List.getElem_toArray]
            try simp only [List.getElem_cons_succ]
            try simp only [List.getElem_cons_zero]
            try simp only [Act.put]
            try simp only [List.setIfInBounds_toArray]
            try simp only [List.set_cons_succ]
            try simp only [List.set_cons_zero]
            refine wpAnyH_take (i := 1) (v := ?_) rfl (by kernel_rfl) (by kernel_rfl) (by kernel_rfl) (fun _ _ _ h => h) (Or.inl ⟨by kernel_rfl, fun W hSW => by go_simp; try with_reducible rfl⟩) (by assumption) ?_
            try simp only [List.getElem_toArray]
            try simp only [List.getElem_cons_succ]
            try simp only [List.getElem_cons_zero]
            try simp only [Act.put]
            try simp only [List.setIfInBounds_toArray]
            try simp only [List.set_cons_succ]
            try simp only [List.set_cons_zero]
            refine wpAnyH_take (i := 2) (v := ?_) rfl (by kernel_rfl) (by kernel_rfl) (by kernel_rfl) (fun _ _ _ h => h) (Or.inl ⟨by kernel_rfl, fun W hSW => by go_simp; try with_reducible rfl⟩) (by assumption) ?_
            try simp only [List.getElem_toArray]
            try simp only [List.getElem_cons_succ]
            try simp only [List.getElem_cons_zero]
            try simp only [Act.put]
            try simp only [List.setIfInBounds_toArray]
            try simp only [List.set_cons_succ]
            try simp only [List.set_cons_zero]
            refine wpAnyH_take (i := 3) (v := ?_) rfl (by kernel_rfl) (by kernel_rfl) (by kernel_rfl) (fun _ _ _ h => h) (Or.inl ⟨by kernel_rfl, fun W hSW => by go_simp; try with_reducible rfl⟩) (by assumption) ?_
            try simp only [List.getElem_toArray]
            try simp only [List.getElem_cons_succ]
            try simp only [List.getElem_cons_zero]
            try simp only [Act.put]
            try simp only [List.setIfInBounds_toArray]
            try simp only [List.set_cons_succ]
            try simp only [List.set_cons_zero]
            refine wpAnyH_take (i := 4) (v := ?_) rfl (by kernel_rfl) (by kernel_rfl) (by kernel_rfl) (fun _ _ _ h => h) (Or.inl ⟨by kernel_rfl, fun W hSW => by go_simp; try with_reducible rfl⟩) (by assumption) ?_
            try simp only [List.getElem_toArray]
            try simp only [List.getElem_cons_succ]
            try simp only [List.getElem_cons_zero]
            try simp only [Act.put]
            try simp only [List.setIfInBounds_toArray]
            try simp only [List.set_cons_succ]
            try simp only [List.set_cons_zero]
            refine wpAnyH_take (i := 5) (v := ?_) rfl (by kernel_rfl) (by kernel_rfl) (by kernel_rfl) (fun _ _ _ h => h) (Or.inl ⟨by kernel_rfl, fun W hSW => by go_simp; try with_reducible rfl⟩) (by assumption) ?_
            try simp only [List.getElem_toArray]
            try simp only [List.getElem_cons_succ]
            try simp only [List.getElem_cons_zero]
            try simp only [Act.put]
            try simp only [List.setIfInBounds_toArray]
            try simp only [List.set_cons_succ]
            try simp only [List.set_cons_zero]
            refine wpAnyH_ready (rs := [6]) (by kernel_rfl) (by simp) ?_
            refine AllReadyH.cons rfl (fun K hK => ?_) AllReadyH.nil
            go_simp
            refine hK.out _ _ (hSF) (fun _ => ?_)
            clear hK K
            try simp only [List.getElem_toArray]
            try simp only [List.getElem_cons_succ]
            try simp only [List.getElem_cons_zero]
            try simp only [Act.put]
            try simp only [List.setIfInBounds_toArray]
            try simp only [List.set_cons_succ]
            try simp only [List.set_cons_zero]
            refine wpAnyH_done (by kernel_rfl) ?_ _
            clear s2 s3 s4 s5 s6 s7 hF1
            go_wp2
            go_ret
            exact ⟨rfl, Hfin.out⟩
end
end Go.Proofs.YtmbdjgfbhblifaaDoor
