/- The contract of the program's store's Pap: a try by a secret. -/
import Derived.Test.YtmbdjgfbhblifaaDoorKsSmall
namespace Go.Proofs.YtmbdjgfbhblifaaDoor
open Go.RowKit

/-- A name's box; a record's box. -/
def BoxW (w : World) (b : Nat) (q : Two2) : Prop := w.heap[b]? = some (.cells #[.string q.1, .string q.2] 47 (0, 0))
def BoxR (w : World) (b : Nat) (e : En) : Prop := w.heap[b]? = some (.cells #[.string e.secret, .int .i64 e.wrong, .int .i64 e.last] 54 (0, 0))
section
variable {w w' : World} {b : Nat} {q : Two2} {e : En}
theorem BoxW.lt (h : BoxW w b q) : b < w.heap.size := (Array.getElem?_eq_some_iff.1 h).1
theorem BoxR.lt (h : BoxR w b e) : b < w.heap.size := (Array.getElem?_eq_some_iff.1 h).1
theorem BoxW.kept {S : Nat → Prop} (h : BoxW w b q) (hk : Kept S w w') (hS : ¬ S b) : BoxW w' b q := (hk.block b h.lt hS).trans h
theorem BoxR.kept {S : Nat → Prop} (h : BoxR w b e) (hk : Kept S w w') (hS : ¬ S b) : BoxR w' b e := (hk.block b h.lt hS).trans h
theorem BoxW.c0 (h : BoxW w b q) : w.cell? ⟨b, 0, none⟩ = some (.string q.1) := by simp [World.cell?, show w.heap[b]? = _ from h]
theorem BoxW.c1 (h : BoxW w b q) : w.cell? ⟨b, 1, none⟩ = some (.string q.2) := by simp [World.cell?, show w.heap[b]? = _ from h]
theorem BoxR.c0 (h : BoxR w b e) : w.cell? ⟨b, 0, none⟩ = some (.string e.secret) := by simp [World.cell?, show w.heap[b]? = _ from h]
theorem BoxR.c1 (h : BoxR w b e) : w.cell? ⟨b, 1, none⟩ = some (.int .i64 e.wrong) := by simp [World.cell?, show w.heap[b]? = _ from h]
theorem BoxR.c2 (h : BoxR w b e) : w.cell? ⟨b, 2, none⟩ = some (.int .i64 e.last) := by simp [World.cell?, show w.heap[b]? = _ from h]
theorem BoxW.fz (h : BoxW w b q) (i : Nat) : w.frozen? ⟨b, i, none⟩ = false := by simp [World.frozen?, show w.heap[b]? = _ from h]
theorem BoxR.fz (h : BoxR w b e) (i : Nat) : w.frozen? ⟨b, i, none⟩ = false := by simp [World.frozen?, show w.heap[b]? = _ from h]
end

/-- What the store's closure answers. -/
def Asks (g : Nat) (cap : List Value) (good : ByteArray → Bool) (w : World) : Prop :=
  ∀ W (x : ByteArray), x.size ≤ 1000000 → Kept (fun _ => False) w W → Calls Tryd.prog g ((Value.string x :: cap).toArray) W fun e w' => e = .returned (.bool (good x)) ∧ Kept (fun _ => False) W w'

section
variable {w : World} {base b : Nat} {m : Option Nat} {limit calm : Int} {A : Ab}
set_option maxHeartbeats 4000000 in
set_option maxRecDepth 100000 in
theorem judge_pap (h : KsIn w base b m limit calm A) (hc : 0 ≤ calm ∧ calm ≤ 1000000) (hA : FewA A) (s : ByteArray) (hs : s.size ≤ 1000000) (time : Int) (ht : In64 time) (bx : Nat) (good : ByteArray → Bool)
    (hR : Asks 23 [.pointer (some ⟨bx, 0, none⟩)] good w) :
    Calls Tryd.prog 22 #[.pointer (some ⟨b, 0, none⟩), .string s, .int .i64 time, .func (.func 23) #[] #[.pointer (some ⟨bx, 0, none⟩)]] w fun e w' => e = .returned (.int .i64 (tryP limit calm A s good time).1) ∧ KsAt w' base b limit calm (tryP limit calm A s good time).2 ∧ KsK base b w w' := by
  have hq := hid (fitS hs)
  have HS := hid (fun W => split_any s (by omega) W)
  obtain ⟨Q, hQ⟩ : ∃ Q, Q = splitF s := ⟨_, rfl⟩
  unfold tryP
  rw [← hQ] at HS hq ⊢
  have HI := hid h
  have HF := hid hA
  have HR := hid hR
  have HC := hid hc
  have HT := hid ht
  clear h hA hR hQ hs hc ht
  have hl2 : Hid (∀ W, Kept (fun _ => False) w W → (Instr.lookup 31 (.map m) (.agg #[.string Q.1, .string Q.2]) true).run Tryd.prog W = .ok (lookV2 (A.look Q)) W) := fun W hk => (HI.out.kept0 hk).look2 hq.out
  cases hL : A.look Q with
  | none =>
    simp only
    rw [hL] at hl2
    unfold lookV2 recV en0 at hl2
    simp only [Option.getD_none, Option.isSome_none] at hl2
    go_enter Tryd.func22, Tryd.ntmps22
    go_wp2_with fail
    refine (HS.out _).mono ?_
    rintro e w1 ⟨rfl, hk1⟩
    have K1 := hid hk1
    clear hk1 hL
    go_upto_region 4 with fail
    have KW : Hid (Kept (fun _ => False) w (w1.alloc (.cells #[.string Q.1, .string Q.2] 47))) := K1.out.alloc _
    have BW : Hid (BoxW (w1.alloc (.cells #[.string Q.1, .string Q.2] 47)) w1.heap.size Q) := heap_alloc_new w1 _
    clear K1
    generalize w1.alloc (.cells #[.string Q.1, .string Q.2] 47) = W at *
    generalize w1.heap.size = wb at *
    have q2 : ∀ X, Kept (fun _ => False) W X → X.cell? ⟨b, 2, none⟩ = some (.map m) := fun X hk => (HI.out.kept0 (KW.out.trans hk)).c2
    have q3 : ∀ X, Kept (fun _ => False) W X → X.cell? ⟨wb, 0, none⟩ = some (.string Q.1) := fun X hk => (BW.out.kept hk id).c0
    have q4 : ∀ X, Kept (fun _ => False) W X → X.cell? ⟨wb, 1, none⟩ = some (.string Q.2) := fun X hk => (BW.out.kept hk id).c1
    have q5 : ∀ X, Kept (fun _ => False) W X → (Instr.lookup 31 (.map m) (.agg #[.string Q.1, .string Q.2]) true).run Tryd.prog X = .ok (.tuple #[.agg #[.string ⟨#[]⟩, .int .i64 0, .int .i64 0], .bool false]) X := fun X hk => hl2.out X (KW.out.trans hk)
    refine wp_region_held_drew (S := Kept (fun _ => False) W) (by kernel_rfl) ((Kept.refl _ W).drew) (fun hSd => ?_)
    refine wpAnyH_take (i := 0) (v := ?_) rfl (by kernel_rfl) (by kernel_rfl) (by kernel_rfl) (fun _ _ _ h => h) (Or.inl ⟨by kernel_rfl, fun W hSW => by go_simp; try with_reducible rfl⟩) (by assumption) ?_
    try simp only [List.getElem_toArray]
    try simp only [List.getElem_cons_succ]
    try simp only [List.getElem_cons_zero]
    try simp only [Act.put]
    try simp only [List.setIfInBounds_toArray]
    try simp only [List.set_cons_succ]
    try simp only [List.set_cons_zero]
    refine wpAnyH_take (i := 1) (v := ?_) rfl (by kernel_rfl) (by kernel_rfl) (by kernel_rfl) (fun _ _ _ h => h) (Or.inl ⟨by kernel_rfl, fun W hSW => by go_simp; try with_reducible rfl⟩) (by assumption) ?_
    try simp only [List.getElem_toArray]
    try simp only [List.getElem_cons_succ]
    try simp only [List.getElem_cons_zero]
    try simp only [Act.put]
    try simp only [List.setIfInBounds_toArray]
    try simp only [List.set_cons_succ]
    try simp only [List.set_cons_zero]
    refine wpAnyH_take (i := 2) (v := ?_) rfl (by kernel_rfl) (by kernel_rfl) (by kernel_rfl) (fun _ _ _ h => h) (Or.inl ⟨by kernel_rfl, fun W hSW => by go_simp; try with_reducible rfl⟩) (by assumption) ?_
    try simp only [List.getElem_toArray]
    try simp only [List.getElem_cons_succ]
    try simp only [List.getElem_cons_zero]
    try simp only [Act.put]
    try simp only [List.setIfInBounds_toArray]
    try simp only [List.set_cons_succ]
    try simp only [List.set_cons_zero]
    refine wpAnyH_take (i := 3) (v := ?_) rfl (by kernel_rfl) (by kernel_rfl) (by kernel_rfl) (fun _ _ _ h => h) (Or.inl ⟨by kernel_rfl, fun W hSW => by go_simp; try with_reducible rfl⟩) (by assumption) ?_
    try simp only [List.getElem_toArray]
    try simp only [List.getElem_cons_succ]
    try simp only [List.getElem_cons_zero]
    try simp only [Act.put]
    try simp only [List.setIfInBounds_toArray]
    try simp only [List.set_cons_succ]
    try simp only [List.set_cons_zero]
    refine wpAnyH_take (i := 4) (v := ?_) rfl (by kernel_rfl) (by kernel_rfl) (by kernel_rfl) (fun _ _ _ h => h) (Or.inl ⟨by kernel_rfl, fun W hSW => by go_simp; try with_reducible rfl⟩) (by assumption) ?_
    try simp only [List.getElem_toArray]
    try simp only [List.getElem_cons_succ]
    try simp only [List.getElem_cons_zero]
    try simp only [Act.put]
    try simp only [List.setIfInBounds_toArray]
    try simp only [List.set_cons_succ]
    try simp only [List.set_cons_zero]
    refine wpAnyH_take (i := 5) (v := ?_) rfl (by kernel_rfl) (by kernel_rfl) (by kernel_rfl) (fun _ _ _ h => h) (Or.inl ⟨by kernel_rfl, fun W hSW => by go_simp; try with_reducible rfl⟩) (by assumption) ?_
    try simp only [List.getElem_toArray]
    try simp only [List.getElem_cons_succ]
    try simp only [List.getElem_cons_zero]
    try simp only [Act.put]
    try simp only [List.setIfInBounds_toArray]
    try simp only [List.set_cons_succ]
    try simp only [List.set_cons_zero]
    refine wpAnyH_take (i := 6) (v := ?_) rfl (by kernel_rfl) (by kernel_rfl) (by kernel_rfl) (fun _ _ _ h => h) (Or.inl ⟨by kernel_rfl, fun W hSW => by go_simp; try with_reducible rfl⟩) (by assumption) ?_
    try simp only [List.getElem_toArray]
    try simp only [List.getElem_cons_succ]
    try simp only [List.getElem_cons_zero]
    try simp only [Act.put]
    try simp only [List.setIfInBounds_toArray]
    try simp only [List.set_cons_succ]
    try simp only [List.set_cons_zero]
    refine wpAnyH_take (i := 7) (v := ?_) rfl (by kernel_rfl) (by kernel_rfl) (by kernel_rfl) (fun _ _ _ h => h) (Or.inl ⟨by kernel_rfl, fun W hSW => by go_simp; try with_reducible rfl⟩) (by assumption) ?_
    try simp only [List.getElem_toArray]
    try simp only [List.getElem_cons_succ]
    try simp only [List.getElem_cons_zero]
    try simp only [Act.put]
    try simp only [List.setIfInBounds_toArray]
    try simp only [List.set_cons_succ]
    try simp only [List.set_cons_zero]
    refine wpAnyH_take (i := 8) (v := ?_) rfl (by kernel_rfl) (by kernel_rfl) (by kernel_rfl) (fun _ _ _ h => h) (Or.inl ⟨by kernel_rfl, fun W hSW => by go_simp; try with_reducible rfl⟩) (by assumption) ?_
    try simp only [List.getElem_toArray]
    try simp only [List.getElem_cons_succ]
    try simp only [List.getElem_cons_zero]
    try simp only [Act.put]
    try simp only [List.setIfInBounds_toArray]
    try simp only [List.set_cons_succ]
    try simp only [List.set_cons_zero]
    refine wpAnyH_ready (rs := [9]) (by kernel_rfl) (by simp) ?_
    refine AllReadyH.cons rfl (fun K hK => ?_) AllReadyH.nil
    go_simp
    have K9 := hid ((Kept.refl (fun _ => False) W).drew.alloc (.cells #[.string ⟨#[]⟩, .int .i64 0, .int .i64 0] 54))
    refine hK.out _ _ (K9.out) (fun _ => ?_)
    clear hK K
    try simp only [List.getElem_toArray]
    try simp only [List.getElem_cons_succ]
    try simp only [List.getElem_cons_zero]
    try simp only [Act.put]
    try simp only [List.setIfInBounds_toArray]
    try simp only [List.set_cons_succ]
    try simp only [List.set_cons_zero]
    refine wpAnyH_ready (rs := [10]) (by kernel_rfl) (by simp) ?_
    refine AllReadyH.cons rfl (fun K hK => ?_) AllReadyH.nil
    go_simp
    refine hK.out _ _ (K9.out) (fun _ => ?_)
    clear hK K
    try simp only [List.getElem_toArray]
    try simp only [List.getElem_cons_succ]
    try simp only [List.getElem_cons_zero]
    try simp only [Act.put]
    try simp only [List.setIfInBounds_toArray]
    try simp only [List.set_cons_succ]
    try simp only [List.set_cons_zero]
    refine wpAnyH_take (i := 11) (v := ?_) rfl (by kernel_rfl) (by kernel_rfl) (by kernel_rfl) (fun _ _ _ h => h) (Or.inl ⟨by kernel_rfl, fun W hSW => by go_simp; try with_reducible rfl⟩) (by assumption) ?_
    try simp only [List.getElem_toArray]
    try simp only [List.getElem_cons_succ]
    try simp only [List.getElem_cons_zero]
    try simp only [Act.put]
    try simp only [List.setIfInBounds_toArray]
    try simp only [List.set_cons_succ]
    try simp only [List.set_cons_zero]
    refine wpAnyH_done (by kernel_rfl) ?_ _
    go_wp2
    go_ret
    exact ⟨rfl, ⟨m, HI.out.kept0 (KW.out.trans K9.out)⟩, KsK.none (KW.out.trans K9.out)⟩
  | some k =>
    simp only
    rw [hL] at hl2
    unfold lookV2 recV at hl2
    simp only [Option.getD_some, Option.isSome_some] at hl2
    obtain ⟨mb, rfl⟩ := HI.out.found hL
    obtain ⟨hk1, hk2, hk3, hk4⟩ := HF.out.2 Q k hL
    have hn : A.n < 1000000 := by have := HF.out.1; omega
    have HN := hid hn
    have HB := hid (And.intro hk1 (And.intro (And.intro hk2 hk3) hk4))
    have HM : Hid (∃ es c, w.heap[mb]? = some (.map es c)) := (HI.out.sec mb rfl).2.isMap
    have hbm : b ≠ mb := fun e => by
      obtain ⟨es, c, h1⟩ := HM.out
      have h2 := HI.out.blk
      rw [e, h1] at h2
      cases h2
    have HBM := hid hbm
    clear hk1 hk2 hk3 hk4 hn hbm hL
    obtain ⟨sh, hsh⟩ : ∃ sh, shutE limit calm k time = sh := ⟨_, rfl⟩
    obtain ⟨gd, hgd⟩ : ∃ gd, good k.secret = gd := ⟨_, rfl⟩
    rw [hsh, hgd]
    generalize hRR : (if sh = true then ((20 : Int), A) else if gd = true then (0, putA A Q ⟨k.secret, 0, 0⟩) else (30, putA A Q (moreE k time))) = R
    have HRR := hid hRR
    have HSH := hid hsh
    have HGD := hid hgd
    clear hRR hsh hgd
    go_enter Tryd.func22, Tryd.ntmps22
    go_wp2_with fail
    refine (HS.out _).mono ?_
    rintro e w1 ⟨rfl, hk1⟩
    have K1 := hid hk1
    clear hk1
    go_upto_region 4 with fail
    have KW : Hid (Kept (fun _ => False) w (w1.alloc (.cells #[.string Q.1, .string Q.2] 47))) := K1.out.alloc _
    have BW : Hid (BoxW (w1.alloc (.cells #[.string Q.1, .string Q.2] 47)) w1.heap.size Q) := heap_alloc_new w1 _
    have HWB : Hid (w.heap.size ≤ w1.heap.size) := K1.out.size
    clear K1
    generalize w1.alloc (.cells #[.string Q.1, .string Q.2] 47) = W at *
    generalize w1.heap.size = wb at *
    have q2 : ∀ X, Kept (fun _ => False) W X → X.cell? ⟨b, 2, none⟩ = some (.map (some mb)) := fun X hk => (HI.out.kept0 (KW.out.trans hk)).c2
    have q3 : ∀ X, Kept (fun _ => False) W X → X.cell? ⟨wb, 0, none⟩ = some (.string Q.1) := fun X hk => (BW.out.kept hk id).c0
    have q4 : ∀ X, Kept (fun _ => False) W X → X.cell? ⟨wb, 1, none⟩ = some (.string Q.2) := fun X hk => (BW.out.kept hk id).c1
    have q5 : ∀ X, Kept (fun _ => False) W X → (Instr.lookup 31 (.map (some mb)) (.agg #[.string Q.1, .string Q.2]) true).run Tryd.prog X = .ok (.tuple #[.agg #[.string k.secret, .int .i64 k.wrong, .int .i64 k.last], .bool true]) X := fun X hk => hl2.out X (KW.out.trans hk)
    refine wp_region_held_drew (S := Kept (fun _ => False) W) (by kernel_rfl) ((Kept.refl _ W).drew) (fun hSd => ?_)
    refine wpAnyH_take (i := 0) (v := ?_) rfl (by kernel_rfl) (by kernel_rfl) (by kernel_rfl) (fun _ _ _ h => h) (Or.inl ⟨by kernel_rfl, fun W hSW => by go_simp; try with_reducible rfl⟩) (by assumption) ?_
    try simp only [List.getElem_toArray]
    try simp only [List.getElem_cons_succ]
    try simp only [List.getElem_cons_zero]
    try simp only [Act.put]
    try simp only [List.setIfInBounds_toArray]
    try simp only [List.set_cons_succ]
    try simp only [List.set_cons_zero]
    refine wpAnyH_take (i := 1) (v := ?_) rfl (by kernel_rfl) (by kernel_rfl) (by kernel_rfl) (fun _ _ _ h => h) (Or.inl ⟨by kernel_rfl, fun W hSW => by go_simp; try with_reducible rfl⟩) (by assumption) ?_
    try simp only [List.getElem_toArray]
    try simp only [List.getElem_cons_succ]
    try simp only [List.getElem_cons_zero]
    try simp only [Act.put]
    try simp only [List.setIfInBounds_toArray]
    try simp only [List.set_cons_succ]
    try simp only [List.set_cons_zero]
    refine wpAnyH_take (i := 2) (v := ?_) rfl (by kernel_rfl) (by kernel_rfl) (by kernel_rfl) (fun _ _ _ h => h) (Or.inl ⟨by kernel_rfl, fun W hSW => by go_simp; try with_reducible rfl⟩) (by assumption) ?_
    try simp only [List.getElem_toArray]
    try simp only [List.getElem_cons_succ]
    try simp only [List.getElem_cons_zero]
    try simp only [Act.put]
    try simp only [List.setIfInBounds_toArray]
    try simp only [List.set_cons_succ]
    try simp only [List.set_cons_zero]
    refine wpAnyH_take (i := 3) (v := ?_) rfl (by kernel_rfl) (by kernel_rfl) (by kernel_rfl) (fun _ _ _ h => h) (Or.inl ⟨by kernel_rfl, fun W hSW => by go_simp; try with_reducible rfl⟩) (by assumption) ?_
    try simp only [List.getElem_toArray]
    try simp only [List.getElem_cons_succ]
    try simp only [List.getElem_cons_zero]
    try simp only [Act.put]
    try simp only [List.setIfInBounds_toArray]
    try simp only [List.set_cons_succ]
    try simp only [List.set_cons_zero]
    refine wpAnyH_take (i := 4) (v := ?_) rfl (by kernel_rfl) (by kernel_rfl) (by kernel_rfl) (fun _ _ _ h => h) (Or.inl ⟨by kernel_rfl, fun W hSW => by go_simp; try with_reducible rfl⟩) (by assumption) ?_
    try simp only [List.getElem_toArray]
    try simp only [List.getElem_cons_succ]
    try simp only [List.getElem_cons_zero]
    try simp only [Act.put]
    try simp only [List.setIfInBounds_toArray]
    try simp only [List.set_cons_succ]
    try simp only [List.set_cons_zero]
    refine wpAnyH_take (i := 5) (v := ?_) rfl (by kernel_rfl) (by kernel_rfl) (by kernel_rfl) (fun _ _ _ h => h) (Or.inl ⟨by kernel_rfl, fun W hSW => by go_simp; try with_reducible rfl⟩) (by assumption) ?_
    try simp only [List.getElem_toArray]
    try simp only [List.getElem_cons_succ]
    try simp only [List.getElem_cons_zero]
    try simp only [Act.put]
    try simp only [List.setIfInBounds_toArray]
    try simp only [List.set_cons_succ]
    try simp only [List.set_cons_zero]
    refine wpAnyH_take (i := 6) (v := ?_) rfl (by kernel_rfl) (by kernel_rfl) (by kernel_rfl) (fun _ _ _ h => h) (Or.inl ⟨by kernel_rfl, fun W hSW => by go_simp; try with_reducible rfl⟩) (by assumption) ?_
    try simp only [List.getElem_toArray]
    try simp only [List.getElem_cons_succ]
    try simp only [List.getElem_cons_zero]
    try simp only [Act.put]
    try simp only [List.setIfInBounds_toArray]
    try simp only [List.set_cons_succ]
    try simp only [List.set_cons_zero]
    refine wpAnyH_take (i := 7) (v := ?_) rfl (by kernel_rfl) (by kernel_rfl) (by kernel_rfl) (fun _ _ _ h => h) (Or.inl ⟨by kernel_rfl, fun W hSW => by go_simp; try with_reducible rfl⟩) (by assumption) ?_
    try simp only [List.getElem_toArray]
    try simp only [List.getElem_cons_succ]
    try simp only [List.getElem_cons_zero]
    try simp only [Act.put]
    try simp only [List.setIfInBounds_toArray]
    try simp only [List.set_cons_succ]
    try simp only [List.set_cons_zero]
    refine wpAnyH_take (i := 8) (v := ?_) rfl (by kernel_rfl) (by kernel_rfl) (by kernel_rfl) (fun _ _ _ h => h) (Or.inl ⟨by kernel_rfl, fun W hSW => by go_simp; try with_reducible rfl⟩) (by assumption) ?_
    try simp only [List.getElem_toArray]
    try simp only [List.getElem_cons_succ]
    try simp only [List.getElem_cons_zero]
    try simp only [Act.put]
    try simp only [List.setIfInBounds_toArray]
    try simp only [List.set_cons_succ]
    try simp only [List.set_cons_zero]
    refine wpAnyH_ready (rs := [9]) (by kernel_rfl) (by simp) ?_
    refine AllReadyH.cons rfl (fun K hK => ?_) AllReadyH.nil
    go_simp
    have K9 := hid ((Kept.refl (fun _ => False) W).drew.alloc (.cells #[.string ⟨#[]⟩, .int .i64 0, .int .i64 0] 54))
    refine hK.out _ _ (K9.out) (fun _ => ?_)
    clear hK K
    try simp only [List.getElem_toArray]
    try simp only [List.getElem_cons_succ]
    try simp only [List.getElem_cons_zero]
    try simp only [Act.put]
    try simp only [List.setIfInBounds_toArray]
    try simp only [List.set_cons_succ]
    try simp only [List.set_cons_zero]
    refine wpAnyH_ready (rs := [10]) (by kernel_rfl) (by simp) ?_
    refine AllReadyH.cons rfl (fun K hK => ?_) AllReadyH.nil
    go_simp
    have K10 := hid (((Kept.refl (fun _ => False) W).alloc (.cells #[.string k.secret, .int .i64 k.wrong, .int .i64 k.last] 54)).drew)
    have B10 : Hid (BoxR (W.alloc (.cells #[.string k.secret, .int .i64 k.wrong, .int .i64 k.last] 54)).drew W.heap.size k) := heap_alloc_new W _
    refine hK.out _ _ (K10.out) (fun _ => ?_)
    clear hK K
    try simp only [List.getElem_toArray]
    try simp only [List.getElem_cons_succ]
    try simp only [List.getElem_cons_zero]
    try simp only [Act.put]
    try simp only [List.setIfInBounds_toArray]
    try simp only [List.set_cons_succ]
    try simp only [List.set_cons_zero]
    refine wpAnyH_take (i := 11) (v := ?_) rfl (by kernel_rfl) (by kernel_rfl) (by kernel_rfl) (fun _ _ _ h => h) (Or.inl ⟨by kernel_rfl, fun W hSW => by go_simp; try with_reducible rfl⟩) (by assumption) ?_
    try simp only [List.getElem_toArray]
    try simp only [List.getElem_cons_succ]
    try simp only [List.getElem_cons_zero]
    try simp only [Act.put]
    try simp only [List.setIfInBounds_toArray]
    try simp only [List.set_cons_succ]
    try simp only [List.set_cons_zero]
    refine wpAnyH_done (by kernel_rfl) ?_ _
    go_upto_region 7 with fail
    have KX := hid (KW.out.trans K10.out)
    have BX := hid (BW.out.kept K10.out id)
    clear q2 q3 q4 q5 KW BW K9 K10 hl2
    generalize (W.alloc (.cells #[.string k.secret, .int .i64 k.wrong, .int .i64 k.last] 54)).drew = X at *
    generalize W.heap.size = rb at *
    have r0 := B10.out.c0
    have r1 := B10.out.c1
    have r2 := B10.out.c2
    have HSh := hid (isShut_any (HI.out.kept0 KX.out) HC.out k HB.out.2.2 time HT.out)
    unfold recV at HSh
    rw [HSH.out] at HSh
    go_wp2_with fail
    refine HSh.out.mono ?_
    rintro e w2 ⟨rfl, hk2⟩
    have K2 := hid (KX.out.trans hk2)
    have B2 := hid (B10.out.kept hk2 id)
    have C2 := hid (BX.out.kept hk2 id)
    clear hk2 HSh KX B10 BX r0 r1 r2
    cases sh with
    | true =>
      obtain rfl : ((20 : Int), A) = R := HRR.out
      go_wp2
      go_ret
      exact ⟨rfl, ⟨_, HI.out.kept0 K2.out⟩, KsK.none K2.out⟩
    | false =>
      have r0 := B2.out.c0
      have HQ := hid (HR.out w2 k.secret HB.out.1 K2.out)
      rw [HGD.out] at HQ
      go_wp2_with fail
      refine HQ.out.mono ?_
      rintro e w3 ⟨rfl, hk3⟩
      have K3 := hid (K2.out.trans hk3)
      have B3 := hid (B2.out.kept hk3 id)
      have C3 := hid (C2.out.kept hk3 id)
      clear hk3 K2 B2 C2 HQ HR r0
      have hbw : wb ≠ mb := fun e => by
        obtain ⟨es, c, h1⟩ := HM.out
        have := (Array.getElem?_eq_some_iff.1 h1).1
        have := HWB.out
        omega
      have hbr : rb ≠ mb := fun e => by
        have h1 := ((HI.out.kept0 K3.out).sec mb rfl).2.isMap
        obtain ⟨es, c, h1⟩ := h1
        have h2 : w3.heap[rb]? = _ := B3.out
        rw [e, h1] at h2
        cases h2
      have s2 : ∀ X, Kept (fun i => i = mb) w3 X → X.cell? ⟨b, 2, none⟩ = some (.map (some mb)) := fun X hk => (hk.cell (p := ⟨b, 2, none⟩) (HI.out.kept0 K3.out).lt HBM.out).trans (HI.out.kept0 K3.out).c2
      have s3 : ∀ X, Kept (fun i => i = mb) w3 X → X.cell? ⟨wb, 0, none⟩ = some (.string Q.1) := fun X hk => (C3.out.kept hk hbw).c0
      have s4 : ∀ X, Kept (fun i => i = mb) w3 X → X.cell? ⟨wb, 1, none⟩ = some (.string Q.2) := fun X hk => (C3.out.kept hk hbw).c1
      have s5 : ∀ X, Kept (fun i => i = mb) w3 X → X.cell? ⟨rb, 0, none⟩ = some (.string k.secret) := fun X hk => (B3.out.kept hk hbr).c0
      have s6 : ∀ X, Kept (fun i => i = mb) w3 X → X.cell? ⟨rb, 1, none⟩ = some (.int .i64 k.wrong) := fun X hk => (B3.out.kept hk hbr).c1
      have s7 : ∀ X, Kept (fun i => i = mb) w3 X → X.cell? ⟨rb, 2, none⟩ = some (.int .i64 k.last) := fun X hk => (B3.out.kept hk hbr).c2
      clear hbw hbr
      cases gd with
      | true =>
        obtain rfl : ((0 : Int), putA A Q ⟨k.secret, 0, 0⟩) = R := HRR.out
        obtain ⟨F, hF1, hF2, hF3⟩ := (HI.out.kept0 (K3.out.drew)).put (w := w3.drew) hq.out HN.out ⟨k.secret, 0, 0⟩
        unfold whoV recV at hF1
        have hSF : Kept (fun i => i = mb) w3 F := (Kept.refl _ w3).drew.trans hF3
        have Hfin : Hid (KsAt F base b limit calm (putA A Q ⟨k.secret, 0, 0⟩) ∧ KsK base b w F) := ⟨⟨_, hF2⟩, (KsK.none K3.out.drew).trans ((HI.out.kept0 (K3.out.drew)).turned hF3)⟩
        clear hF2 hF3
        go_wp2_with fail
        refine wp_region_held_drew (S := Kept (fun i => i = mb) w3) (by kernel_rfl) ((Kept.refl _ w3).drew) (fun hSd => ?_)
        refine wpAnyH_take (i := 0) (v := ?_) rfl (by kernel_rfl) (by kernel_rfl) (by kernel_rfl) (fun _ _ _ h => h) (Or.inl ⟨by kernel_rfl, fun W hSW => by go_simp; try with_reducible rfl⟩) (by assumption) ?_
        try simp only [List.getElem_toArray]
        try simp only [List.getElem_cons_succ]
        try simp only [List.getElem_cons_zero]
        try simp only [Act.put]
        try simp only [List.setIfInBounds_toArray]
        try simp only [List.set_cons_succ]
        try simp only [List.set_cons_zero]
        refine wpAnyH_take (i := 1) (v := ?_) rfl (by kernel_rfl) (by kernel_rfl) (by kernel_rfl) (fun _ _ _ h => h) (Or.inl ⟨by kernel_rfl, fun W hSW => by go_simp; try with_reducible rfl⟩) (by assumption) ?_
        try simp only [List.getElem_toArray]
        try simp only [List.getElem_cons_succ]
        try simp only [List.getElem_cons_zero]
        try simp only [Act.put]
        try simp only [List.setIfInBounds_toArray]
        try simp only [List.set_cons_succ]
        try simp only [List.set_cons_zero]
        refine wpAnyH_take (i := 2) (v := ?_) rfl (by kernel_rfl) (by kernel_rfl) (by kernel_rfl) (fun _ _ _ h => h) (Or.inl ⟨by kernel_rfl, fun W hSW => by go_simp; try with_reducible rfl⟩) (by assumption) ?_
        try simp only [List.getElem_toArray]
        try simp only [List.getElem_cons_succ]
        try simp only [List.getElem_cons_zero]
        try simp only [Act.put]
        try simp only [List.setIfInBounds_toArray]
        try simp only [List.set_cons_succ]
        try simp only [List.set_cons_zero]
        refine wpAnyH_take (i := 3) (v := ?_) rfl (by kernel_rfl) (by kernel_rfl) (by kernel_rfl) (fun _ _ _ h => h) (Or.inl ⟨by kernel_rfl, fun W hSW => by go_simp; try with_reducible rfl⟩) (by assumption) ?_
        try simp only [List.getElem_toArray]
        try simp only [List.getElem_cons_succ]
        try simp only [List.getElem_cons_zero]
        try simp only [Act.put]
        try simp only [List.setIfInBounds_toArray]
        try simp only [List.set_cons_succ]
        try simp only [List.set_cons_zero]
        refine wpAnyH_take (i := 4) (v := ?_) rfl (by kernel_rfl) (by kernel_rfl) (by kernel_rfl) (fun _ _ _ h => h) (Or.inl ⟨by kernel_rfl, fun W hSW => by go_simp; try with_reducible rfl⟩) (by assumption) ?_
        try simp only [List.getElem_toArray]
        try simp only [List.getElem_cons_succ]
        try simp only [List.getElem_cons_zero]
        try simp only [Act.put]
        try simp only [List.setIfInBounds_toArray]
        try simp only [List.set_cons_succ]
        try simp only [List.set_cons_zero]
        refine wpAnyH_take (i := 5) (v := ?_) rfl (by kernel_rfl) (by kernel_rfl) (by kernel_rfl) (fun _ _ _ h => h) (Or.inl ⟨by kernel_rfl, fun W hSW => by go_simp; try with_reducible rfl⟩) (by assumption) ?_
        try simp only [List.getElem_toArray]
        try simp only [List.getElem_cons_succ]
        try simp only [List.getElem_cons_zero]
        try simp only [Act.put]
        try simp only [List.setIfInBounds_toArray]
        try simp only [List.set_cons_succ]
        try simp only [List.set_cons_zero]
        refine wpAnyH_take (i := 6) (v := ?_) rfl (by kernel_rfl) (by kernel_rfl) (by kernel_rfl) (fun _ _ _ h => h) (Or.inl ⟨by kernel_rfl, fun W hSW => by go_simp; try with_reducible rfl⟩) (by assumption) ?_
        try simp only [List.getElem_toArray]
        try simp only [List.getElem_cons_succ]
        try simp only [List.getElem_cons_zero]
        try simp only [Act.put]
        try simp only [List.setIfInBounds_toArray]
        try simp only [List.set_cons_succ]
        try simp only [List.set_cons_zero]
        refine wpAnyH_take (i := 7) (v := ?_) rfl (by kernel_rfl) (by kernel_rfl) (by kernel_rfl) (fun _ _ _ h => h) (Or.inl ⟨by kernel_rfl, fun W hSW => by go_simp; try with_reducible rfl⟩) (by assumption) ?_
        try simp only [List.getElem_toArray]
        try simp only [List.getElem_cons_succ]
        try simp only [List.getElem_cons_zero]
        try simp only [Act.put]
        try simp only [List.setIfInBounds_toArray]
        try simp only [List.set_cons_succ]
        try simp only [List.set_cons_zero]
        refine wpAnyH_ready (rs := [8]) (by kernel_rfl) (by simp) ?_
        refine AllReadyH.cons rfl (fun K hK => ?_) AllReadyH.nil
        go_simp
        refine hK.out _ _ (hSF) (fun _ => ?_)
        clear hK K
        try simp only [List.getElem_toArray]
        try simp only [List.getElem_cons_succ]
        try simp only [List.getElem_cons_zero]
        try simp only [Act.put]
        try simp only [List.setIfInBounds_toArray]
        try simp only [List.set_cons_succ]
        try simp only [List.set_cons_zero]
        refine wpAnyH_done (by kernel_rfl) ?_ _
        clear s2 s3 s4 s5 s6 s7 hF1
        go_wp2
        go_ret
        exact ⟨rfl, Hfin.out⟩
      | false =>
        obtain rfl : ((30 : Int), putA A Q (moreE k time)) = R := HRR.out
        have HW := hid (fun W => wrongAt_any k HB.out.2.1 time W)
        unfold recV at HW
        go_wp2_with fail
        refine wp_region_held_drew (S := Kept (fun i => i = mb) w3) (by kernel_rfl) ((Kept.refl _ w3).drew) (fun hSd => ?_)
        refine wpAnyH_take (i := 0) (v := ?_) rfl (by kernel_rfl) (by kernel_rfl) (by kernel_rfl) (fun _ _ _ h => h) (Or.inl ⟨by kernel_rfl, fun W hSW => by go_simp; try with_reducible rfl⟩) (by assumption) ?_
        try simp only [List.getElem_toArray]
        try simp only [List.getElem_cons_succ]
        try simp only [List.getElem_cons_zero]
        try simp only [Act.put]
        try simp only [List.setIfInBounds_toArray]
        try simp only [List.set_cons_succ]
        try simp only [List.set_cons_zero]
        refine wpAnyH_take (i := 1) (v := ?_) rfl (by kernel_rfl) (by kernel_rfl) (by kernel_rfl) (fun _ _ _ h => h) (Or.inl ⟨by kernel_rfl, fun W hSW => by go_simp; try with_reducible rfl⟩) (by assumption) ?_
        try simp only [List.getElem_toArray]
        try simp only [List.getElem_cons_succ]
        try simp only [List.getElem_cons_zero]
        try simp only [Act.put]
        try simp only [List.setIfInBounds_toArray]
        try simp only [List.set_cons_succ]
        try simp only [List.set_cons_zero]
        refine wpAnyH_take (i := 2) (v := ?_) rfl (by kernel_rfl) (by kernel_rfl) (by kernel_rfl) (fun _ _ _ h => h) (Or.inl ⟨by kernel_rfl, fun W hSW => by go_simp; try with_reducible rfl⟩) (by assumption) ?_
        try simp only [List.getElem_toArray]
        try simp only [List.getElem_cons_succ]
        try simp only [List.getElem_cons_zero]
        try simp only [Act.put]
        try simp only [List.setIfInBounds_toArray]
        try simp only [List.set_cons_succ]
        try simp only [List.set_cons_zero]
        refine wpAnyH_take (i := 3) (v := ?_) rfl (by kernel_rfl) (by kernel_rfl) (by kernel_rfl) (fun _ _ _ h => h) (Or.inl ⟨by kernel_rfl, fun W hSW => by go_simp; try with_reducible rfl⟩) (by assumption) ?_
        try simp only [List.getElem_toArray]
        try simp only [List.getElem_cons_succ]
        try simp only [List.getElem_cons_zero]
        try simp only [Act.put]
        try simp only [List.setIfInBounds_toArray]
        try simp only [List.set_cons_succ]
        try simp only [List.set_cons_zero]
        refine wpAnyH_take (i := 4) (v := ?_) rfl (by kernel_rfl) (by kernel_rfl) (by kernel_rfl) (fun _ _ _ h => h) (Or.inl ⟨by kernel_rfl, fun W hSW => by go_simp; try with_reducible rfl⟩) (by assumption) ?_
        try simp only [List.getElem_toArray]
        try simp only [List.getElem_cons_succ]
        try simp only [List.getElem_cons_zero]
        try simp only [Act.put]
        try simp only [List.setIfInBounds_toArray]
        try simp only [List.set_cons_succ]
        try simp only [List.set_cons_zero]
        refine wpAnyH_take (i := 5) (v := ?_) rfl (by kernel_rfl) (by kernel_rfl) (by kernel_rfl) (fun _ _ _ h => h) (Or.inl ⟨by kernel_rfl, fun W hSW => by go_simp; try with_reducible rfl⟩) (by assumption) ?_
        try simp only [List.getElem_toArray]
        try simp only [List.getElem_cons_succ]
        try simp only [List.getElem_cons_zero]
        try simp only [Act.put]
        try simp only [List.setIfInBounds_toArray]
        try simp only [List.set_cons_succ]
        try simp only [List.set_cons_zero]
        refine wpAnyH_take (i := 6) (v := ?_) rfl (by kernel_rfl) (by kernel_rfl) (by kernel_rfl) (fun _ _ _ h => h) (Or.inl ⟨by kernel_rfl, fun W hSW => by go_simp; try with_reducible rfl⟩) (by assumption) ?_
        try simp only [List.getElem_toArray]
        try simp only [List.getElem_cons_succ]
        try simp only [List.getElem_cons_zero]
        try simp only [Act.put]
        try simp only [List.setIfInBounds_toArray]
        try simp only [List.set_cons_succ]
        try simp only [List.set_cons_zero]
        refine wpAnyH_ready (rs := [7]) (by kernel_rfl) (by simp) ?_
        refine AllReadyH.cons rfl (fun K hK => ?_) AllReadyH.nil
        go_simp
        refine (HW.out _).mono ?_
        rintro e w4 ⟨rfl, hk4⟩
        have K4 : Hid (Kept (fun _ => False) w w4) := K3.out.drew.trans hk4
        have hS4 : Kept (fun i => i = mb) w3 w4 := (Kept.refl _ w3).drew.trans (hk4.mono (fun _ _ h => h.elim))
        obtain ⟨F, hF1, hF2, hF3⟩ := (HI.out.kept0 K4.out).put (w := w4) hq.out HN.out (moreE k time)
        unfold whoV recV at hF1
        have hSF : Kept (fun i => i = mb) w3 F := hS4.trans hF3
        have Hfin : Hid (KsAt F base b limit calm (putA A Q (moreE k time)) ∧ KsK base b w F) := ⟨⟨_, hF2⟩, (KsK.none K4.out).trans ((HI.out.kept0 K4.out).turned hF3)⟩
        clear hF2 hF3 hk4
        refine hK.out _ _ (hS4) (fun _ => ?_)
        clear hK K
        try simp only [List.getElem_toArray]
        try simp only [List.getElem_cons_succ]
        try simp only [List.getElem_cons_zero]
        try simp only [Act.put]
        try simp only [List.setIfInBounds_toArray]
        try simp only [List.set_cons_succ]
        try simp only [List.set_cons_zero]
        refine wpAnyH_ready (rs := [8]) (by kernel_rfl) (by simp) ?_
        refine AllReadyH.cons rfl (fun K hK => ?_) AllReadyH.nil
        go_simp
        refine hK.out _ _ (hSF) (fun _ => ?_)
        clear hK K
        try simp only [List.getElem_toArray]
        try simp only [List.getElem_cons_succ]
        try simp only [List.getElem_cons_zero]
        try simp only [Act.put]
        try simp only [List.setIfInBounds_toArray]
        try simp only [List.set_cons_succ]
        try simp only [List.set_cons_zero]
        refine wpAnyH_done (by kernel_rfl) ?_ _
        clear s2 s3 s4 s5 s6 s7 hF1
        go_wp2
        go_ret
        exact ⟨rfl, Hfin.out⟩
end
end Go.Proofs.YtmbdjgfbhblifaaDoor
