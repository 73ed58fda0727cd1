/- The contracts of a client's calls: NewClient, answer, hear, Take, Done; where digest's two tables hold what the program's text lays. -/
import Derived.Test.YtndpfcanfcbldaaDoorCaMem
import Derived.Test.YtndpfcanfcbldaaDoorCaK
import Derived.Deep.DeepCutAuto
import Derived.Deep.RegionHeld3
import Derived.BigQuiet
namespace Go.Proofs.YtndpfcanfcbldaaDoor
open Go.RowKit

theorem LcIn.nePk {w : World} {b g : Nat} {c : Cr} {co i : Int} {v : Value} {d : ByteArray} (h : LcIn w b c) (hp : PkAt w g co i v d) : g ≠ b := fun e => by
  unfold PkAt at hp
  unfold LcIn at h
  rw [e, h] at hp
  simp at hp

/-- What NewClient answers. -/
def LNewIs (n s : ByteArray) (w : World) (e : Ending) (w' : World) : Prop :=
  ((60 < n.size ∨ 60 < s.size) ∧ e = .returned (.tuple #[.pointer none, .int .i64 2]) ∨
   (n.size ≤ 60 ∧ s.size ≤ 60) ∧ e = .returned (.tuple #[.pointer (some ⟨w.heap.size, 0, none⟩), .int .i64 0]) ∧ LcIn w' w.heap.size (newCr n s)) ∧ Kept (fun _ => False) w w'

set_option maxHeartbeats 1000000 in
set_option maxRecDepth 100000 in
theorem lcNew_any (n s : ByteArray) (hn : n.size ≤ 140737488351232) (hs : s.size ≤ 140737488351232) (w : World) : Calls Tryd.prog 13 #[.string n, .string s] w (LNewIs n s w) := by
  have L1 := hid (caLong_any n hn)
  have L2 := hid (caLong_any s hs)
  by_cases h1 : 60 < n.size
  · rw [show longB n = true by simp [longB, h1]] at L1
    have H := hid h1
    clear h1
    go_enter Tryd.func13, Tryd.ntmps13
    go_wp2_with fail
    refine (L1.out _).mono ?_
    rintro e w1 ⟨rfl, hw⟩
    rw [hw]
    clear hw w1
    go_wp2
    go_ret2
    exact ⟨Or.inl ⟨Or.inl H.out, rfl⟩, Kept.refl _ _⟩
  · rw [show longB n = false by simp [longB]; omega] at L1
    by_cases h2 : 60 < s.size
    · rw [show longB s = true by simp [longB, h2]] at L2
      have H := hid h2
      clear h1 h2
      go_enter Tryd.func13, Tryd.ntmps13
      go_wp2_with fail
      refine (L1.out _).mono ?_
      rintro e w1 ⟨rfl, hw⟩
      rw [hw]
      clear hw w1
      go_wp2_with fail
      refine (L2.out _).mono ?_
      rintro e w1 ⟨rfl, hw⟩
      rw [hw]
      clear hw w1
      go_wp2
      go_ret2
      exact ⟨Or.inl ⟨Or.inr H.out, rfl⟩, Kept.refl _ _⟩
    · rw [show longB s = false by simp [longB]; omega] at L2
      have H12 := hid (And.intro (Nat.le_of_not_lt h1) (Nat.le_of_not_lt h2))
      clear h1 h2
      go_enter Tryd.func13, Tryd.ntmps13
      go_wp2_with fail
      refine (L1.out _).mono ?_
      rintro e w1 ⟨rfl, hw⟩
      rw [hw]
      clear hw w1
      go_wp2_with fail
      refine (L2.out _).mono ?_
      rintro e w1 ⟨rfl, hw⟩
      rw [hw]
      clear hw w1
      go_wp2
      go_ret2
      exact ⟨Or.inr ⟨H12.out, rfl, heap_alloc_new w _⟩, (Kept.refl _ w).alloc _⟩

set_option maxHeartbeats 2000000 in
set_option maxRecDepth 100000 in
/-- A Challenge is answered. -/
theorem lcAnswer_any (b : Nat) (c : Cr) (hn : c.name.size ≤ 60) (hs : c.secret.size ≤ 60) (id : Int) (p : Option Addr) (n cap : Nat) (s : ByteArray) (hd : s.size ≤ 140737488351232) (w : World) (hT : TabB b w) (h : LcIn w b c) :
    Calls Tryd.prog 31 #[.pointer (some ⟨b, 0, none⟩), .agg #[.int .i64 1, .int .i64 id, .slice p n cap, .string s]] w fun e w' => ∃ v, e = .returned v ∧ LcIn w' b (takeCr chapK c 1 id s).2 ∧ OwnQ w' w.heap.size v (takeCr chapK c 1 id s).1 ∧ Kept (fun i => i = b) w w' := by
  have hk := (Kept.refl (fun _ => False) w).alloc (.cells #[.int .i64 1, .int .i64 id, .slice p n cap, .string s] 40)
  have H1 := hid (h.kept0 hk)
  have K1 := hid (caNone (b := b) hk)
  have X1 := hid (PkAt.new w 1 id (.slice p n cap) s)
  have hne : Hid (w.heap.size ≠ b) := fun e => by have := h.lt; omega
  have HT := hid hT
  clear h hk hT
  have HG := hid (getVal_any s hd)
  have hgs := (getValF_size s).1
  unfold takeCr
  rw [if_pos (by rfl)]
  by_cases e2 : (getValF s).2.2 = 0
  · rw [if_pos e2]
    generalize getValF s = R at *
    obtain ⟨x, y, E⟩ := R
    simp only at HG e2 hgs
    subst e2
    have HC := hid (fun W hTW => chapK_any id c.secret x hs hgs W hTW)
    have hR := chapK_size id c.secret x
    simp only
    generalize chapK id c.secret x = RR at *
    have HL := hid (caLay_any RR c.name (by omega) hn)
    generalize layF RR ++ c.name = D at *
    clear hR hn hs hgs hd
    go_enter Tryd.func31, Tryd.ntmps31
    go_upto_region 1 with fail
    generalize w.alloc (.cells #[.int .i64 1, .int .i64 id, .slice p n cap, .string s] 40) = W at *
    obtain ⟨d0, d1, d2, d3⟩ := X1.out.cells
    go_wp2_with fail
    refine (HG.out _).mono ?_
    rintro e w2 ⟨rfl, hk2⟩
    have H2 := hid (H1.out.kept0 hk2)
    have K2 := hid (K1.out.trans (caNone hk2))
    have X2 := hid (X1.out.kept hk2 (fun h => h))
    clear hk2 d0 d1 d2 d3 HG H1 K1 X1
    obtain ⟨d0, d1, d2, d3⟩ := X2.out.cells
    have q3 := H2.out.c3
    have q4 := H2.out.c4
    have f3 := H2.out.fz 3
    have f4 := H2.out.fz 4
    go_wp2
    go_region
    all_goals
      have H4 : Hid (LcIn ((w2.setCell ⟨b, 3, none⟩ (.bool true)).setCell ⟨b, 4, none⟩ (.int .i64 id)).drew b { c with answered := true, id := id }) := ((H2.out.set3 true).set4 id).drew
      have kk := (caOwn (caOwn (Kept.refl (fun i => i = b) w2) 3 (.bool true)) 4 (.int .i64 id)).drew
      have K4 := hid (K2.out.trans kk)
      have X4 := hid (X2.out.kept kk hne.out)
      clear kk d0 d1 d2 d3 q3 q4 f3 f4 X2 H2
      go_upto_region 5 with fail
      generalize ((w2.setCell ⟨b, 3, none⟩ (.bool true)).setCell ⟨b, 4, none⟩ (.int .i64 id)).drew = W4 at *
      have g1 : ∀ W, Kept (fun _ => False) W4 W → W.cell? ⟨w.heap.size, 1, none⟩ = some (.int .i64 id) := fun W hk => (X4.out.kept hk (fun h => h)).cells.2.1
      have r1 : ∀ W, Kept (fun _ => False) W4 W → W.cell? ⟨b, 1, none⟩ = some (.string c.name) := fun W hk => (H4.out.kept0 hk).c1
      have r2 : ∀ W, Kept (fun _ => False) W4 W → W.cell? ⟨b, 2, none⟩ = some (.string c.secret) := fun W hk => (H4.out.kept0 hk).c2
      refine wp_region_held_drew (S := Kept (fun _ => False) W4) (by kernel_rfl) ((Kept.refl _ W4).drew) (fun hSd => ?_)
      refine wpAnyH_take (i := 0) (v := ?_) rfl (by kernel_rfl) (by kernel_rfl) (by kernel_rfl) (fun _ _ _ h => h) (Or.inl ⟨by kernel_rfl, fun W hSW => by go_simp; try with_reducible rfl⟩) (by assumption) ?_
      try simp only [List.getElem_toArray]
      try simp only [List.getElem_cons_succ]
      try simp only [List.getElem_cons_zero]
      try simp only [Act.put]
      try simp only [List.setIfInBounds_toArray]
      try simp only [List.set_cons_succ]
      try simp only [List.set_cons_zero]
      refine wpAnyH_take (i := 1) (v := ?_) rfl (by kernel_rfl) (by kernel_rfl) (by kernel_rfl) (fun _ _ _ h => h) (Or.inl ⟨by kernel_rfl, fun W hSW => by go_simp; try with_reducible rfl⟩) (by assumption) ?_
      try simp only [List.getElem_toArray]
      try simp only [List.getElem_cons_succ]
      try simp only [List.getElem_cons_zero]
      try simp only [Act.put]
      try simp only [List.setIfInBounds_toArray]
      try simp only [List.set_cons_succ]
      try simp only [List.set_cons_zero]
      refine wpAnyH_take (i := 2) (v := ?_) rfl (by kernel_rfl) (by kernel_rfl) (by kernel_rfl) (fun _ _ _ h => h) (Or.inl ⟨by kernel_rfl, fun W hSW => by go_simp; try with_reducible rfl⟩) (by assumption) ?_
      try simp only [List.getElem_toArray]
      try simp only [List.getElem_cons_succ]
      try simp only [List.getElem_cons_zero]
      try simp only [Act.put]
      try simp only [List.setIfInBounds_toArray]
      try simp only [List.set_cons_succ]
      try simp only [List.set_cons_zero]
      refine wpAnyH_take (i := 3) (v := ?_) rfl (by kernel_rfl) (by kernel_rfl) (by kernel_rfl) (fun _ _ _ h => h) (Or.inl ⟨by kernel_rfl, fun W hSW => by go_simp; try with_reducible rfl⟩) (by assumption) ?_
      try simp only [List.getElem_toArray]
      try simp only [List.getElem_cons_succ]
      try simp only [List.getElem_cons_zero]
      try simp only [Act.put]
      try simp only [List.setIfInBounds_toArray]
      try simp only [List.set_cons_succ]
      try simp only [List.set_cons_zero]
      refine wpAnyH_take (i := 4) (v := ?_) rfl (by kernel_rfl) (by kernel_rfl) (by kernel_rfl) (fun _ _ _ h => h) (Or.inl ⟨by kernel_rfl, fun W hSW => by go_simp; try with_reducible rfl⟩) (by assumption) ?_
      try simp only [List.getElem_toArray]
      try simp only [List.getElem_cons_succ]
      try simp only [List.getElem_cons_zero]
      try simp only [Act.put]
      try simp only [List.setIfInBounds_toArray]
      try simp only [List.set_cons_succ]
      try simp only [List.set_cons_zero]
      refine wpAnyH_take (i := 5) (v := ?_) rfl (by kernel_rfl) (by kernel_rfl) (by kernel_rfl) (fun _ _ _ h => h) (Or.inl ⟨by kernel_rfl, fun W hSW => by go_simp; try with_reducible rfl⟩) (by assumption) ?_
      try simp only [List.getElem_toArray]
      try simp only [List.getElem_cons_succ]
      try simp only [List.getElem_cons_zero]
      try simp only [Act.put]
      try simp only [List.setIfInBounds_toArray]
      try simp only [List.set_cons_succ]
      try simp only [List.set_cons_zero]
      refine wpAnyH_take (i := 6) (v := ?_) rfl (by kernel_rfl) (by kernel_rfl) (by kernel_rfl) (fun _ _ _ h => h) (Or.inl ⟨by kernel_rfl, fun W hSW => by go_simp; try with_reducible rfl⟩) (by assumption) ?_
      try simp only [List.getElem_toArray]
      try simp only [List.getElem_cons_succ]
      try simp only [List.getElem_cons_zero]
      try simp only [Act.put]
      try simp only [List.setIfInBounds_toArray]
      try simp only [List.set_cons_succ]
      try simp only [List.set_cons_zero]
      refine wpAnyH_ready (rs := [7]) (by kernel_rfl) (by simp) ?_
      refine AllReadyH.cons rfl (fun K hK => ?_) AllReadyH.nil
      go_simp
      refine (HC.out _ (HT.out _ (K4.out.trans (caNone hSd)))).mono ?_
      rintro e w5 ⟨rfl, hk5⟩
      have hS5 : Kept (fun _ => False) W4 w5 := hSd.trans hk5
      clear hk5
      refine hK.out _ _ (hS5) (fun _ => ?_)
      clear hK K
      try simp only [List.getElem_toArray]
      try simp only [List.getElem_cons_succ]
      try simp only [List.getElem_cons_zero]
      try simp only [Act.put]
      try simp only [List.setIfInBounds_toArray]
      try simp only [List.set_cons_succ]
      try simp only [List.set_cons_zero]
      refine wpAnyH_take (i := 8) (v := ?_) rfl (by kernel_rfl) (by kernel_rfl) (by kernel_rfl) (fun _ _ _ h => h) (Or.inl ⟨by kernel_rfl, fun W hSW => by go_simp; try with_reducible rfl⟩) (by assumption) ?_
      try simp only [List.getElem_toArray]
      try simp only [List.getElem_cons_succ]
      try simp only [List.getElem_cons_zero]
      try simp only [Act.put]
      try simp only [List.setIfInBounds_toArray]
      try simp only [List.set_cons_succ]
      try simp only [List.set_cons_zero]
      refine wpAnyH_done (by kernel_rfl) ?_ _
      go_upto_region 6 with fail
      refine wp_region_held_drew (S := Kept (fun _ => False) W4) (by kernel_rfl) (hS5.drew) (fun hSd => ?_)
      refine wpAnyH_take (i := 0) (v := ?_) rfl (by kernel_rfl) (by kernel_rfl) (by kernel_rfl) (fun _ _ _ h => h) (Or.inl ⟨by kernel_rfl, fun W hSW => by go_simp; try with_reducible rfl⟩) (by assumption) ?_
      try simp only [List.getElem_toArray]
      try simp only [List.getElem_cons_succ]
      try simp only [List.getElem_cons_zero]
      try simp only [Act.put]
      try simp only [List.setIfInBounds_toArray]
      try simp only [List.set_cons_succ]
      try simp only [List.set_cons_zero]
      refine wpAnyH_take (i := 1) (v := ?_) rfl (by kernel_rfl) (by kernel_rfl) (by kernel_rfl) (fun _ _ _ h => h) (Or.inl ⟨by kernel_rfl, fun W hSW => by go_simp; try with_reducible rfl⟩) (by assumption) ?_
      try simp only [List.getElem_toArray]
      try simp only [List.getElem_cons_succ]
      try simp only [List.getElem_cons_zero]
      try simp only [Act.put]
      try simp only [List.setIfInBounds_toArray]
      try simp only [List.set_cons_succ]
      try simp only [List.set_cons_zero]
      refine wpAnyH_take (i := 2) (v := ?_) rfl (by kernel_rfl) (by kernel_rfl) (by kernel_rfl) (fun _ _ _ h => h) (Or.inl ⟨by kernel_rfl, fun W hSW => by go_simp; try with_reducible rfl⟩) (by assumption) ?_
      try simp only [List.getElem_toArray]
      try simp only [List.getElem_cons_succ]
      try simp only [List.getElem_cons_zero]
      try simp only [Act.put]
      try simp only [List.setIfInBounds_toArray]
      try simp only [List.set_cons_succ]
      try simp only [List.set_cons_zero]
      refine wpAnyH_take (i := 3) (v := ?_) rfl (by kernel_rfl) (by kernel_rfl) (by kernel_rfl) (fun _ _ _ h => h) (Or.inl ⟨by kernel_rfl, fun W hSW => by go_simp; try with_reducible rfl⟩) (by assumption) ?_
      try simp only [List.getElem_toArray]
      try simp only [List.getElem_cons_succ]
      try simp only [List.getElem_cons_zero]
      try simp only [Act.put]
      try simp only [List.setIfInBounds_toArray]
      try simp only [List.set_cons_succ]
      try simp only [List.set_cons_zero]
      refine wpAnyH_take (i := 4) (v := ?_) rfl (by kernel_rfl) (by kernel_rfl) (by kernel_rfl) (fun _ _ _ h => h) (Or.inl ⟨by kernel_rfl, fun W hSW => by go_simp; try with_reducible rfl⟩) (by assumption) ?_
      try simp only [List.getElem_toArray]
      try simp only [List.getElem_cons_succ]
      try simp only [List.getElem_cons_zero]
      try simp only [Act.put]
      try simp only [List.setIfInBounds_toArray]
      try simp only [List.set_cons_succ]
      try simp only [List.set_cons_zero]
      refine wpAnyH_take (i := 5) (v := ?_) rfl (by kernel_rfl) (by kernel_rfl) (by kernel_rfl) (fun _ _ _ h => h) (Or.inl ⟨by kernel_rfl, fun W hSW => by go_simp; try with_reducible rfl⟩) (by assumption) ?_
      try simp only [List.getElem_toArray]
      try simp only [List.getElem_cons_succ]
      try simp only [List.getElem_cons_zero]
      try simp only [Act.put]
      try simp only [List.setIfInBounds_toArray]
      try simp only [List.set_cons_succ]
      try simp only [List.set_cons_zero]
      refine wpAnyH_take (i := 6) (v := ?_) rfl (by kernel_rfl) (by kernel_rfl) (by kernel_rfl) (fun _ _ _ h => h) (Or.inl ⟨by kernel_rfl, fun W hSW => by go_simp; try with_reducible rfl⟩) (by assumption) ?_
      try simp only [List.getElem_toArray]
      try simp only [List.getElem_cons_succ]
      try simp only [List.getElem_cons_zero]
      try simp only [Act.put]
      try simp only [List.setIfInBounds_toArray]
      try simp only [List.set_cons_succ]
      try simp only [List.set_cons_zero]
      refine wpAnyH_ready (rs := [7]) (by kernel_rfl) (by simp) ?_
      refine AllReadyH.cons rfl (fun K hK => ?_) AllReadyH.nil
      go_simp
      refine (HL.out _).mono ?_
      rintro e w6 ⟨rfl, hk6⟩
      have hS6 : Kept (fun _ => False) W4 w6 := (hS5.drew).trans hk6
      clear hk6
      refine hK.out _ _ (hS6) (fun _ => ?_)
      clear hK K
      try simp only [List.getElem_toArray]
      try simp only [List.getElem_cons_succ]
      try simp only [List.getElem_cons_zero]
      try simp only [Act.put]
      try simp only [List.setIfInBounds_toArray]
      try simp only [List.set_cons_succ]
      try simp only [List.set_cons_zero]
      refine wpAnyH_take (i := 8) (v := ?_) rfl (by kernel_rfl) (by kernel_rfl) (by kernel_rfl) (fun _ _ _ h => h) (Or.inl ⟨by kernel_rfl, fun W hSW => by go_simp; try with_reducible rfl⟩) (by assumption) ?_
      try simp only [List.getElem_toArray]
      try simp only [List.getElem_cons_succ]
      try simp only [List.getElem_cons_zero]
      try simp only [Act.put]
      try simp only [List.setIfInBounds_toArray]
      try simp only [List.set_cons_succ]
      try simp only [List.set_cons_zero]
      refine wpAnyH_ready (rs := [9]) (by kernel_rfl) (by simp) ?_
      refine AllReadyH.cons rfl (fun K hK => ?_) AllReadyH.nil
      go_simp
      have hS7 : Kept (fun _ => False) W4 (World.alloc w6 (.cells #[.int .i64 2, .int .i64 id, .slice none 0 0, .string D] 40)) := hS6.alloc _
      refine hK.out _ _ (hS7) (fun _ => ?_)
      clear hK K
      try simp only [List.getElem_toArray]
      try simp only [List.getElem_cons_succ]
      try simp only [List.getElem_cons_zero]
      try simp only [Act.put]
      try simp only [List.setIfInBounds_toArray]
      try simp only [List.set_cons_succ]
      try simp only [List.set_cons_zero]
      refine wpAnyH_take (i := 10) (v := ?_) rfl (by kernel_rfl) (by kernel_rfl) (by kernel_rfl) (fun _ _ _ h => h) (Or.inl ⟨by kernel_rfl, fun W hSW => by go_simp; try with_reducible rfl⟩) (by assumption) ?_
      try simp only [List.getElem_toArray]
      try simp only [List.getElem_cons_succ]
      try simp only [List.getElem_cons_zero]
      try simp only [Act.put]
      try simp only [List.setIfInBounds_toArray]
      try simp only [List.set_cons_succ]
      try simp only [List.set_cons_zero]
      refine wpAnyH_done (by kernel_rfl) ?_ _
      have H6 := hid (H4.out.kept0 hS7)
      have K6 := hid (K4.out.trans (caNone hS7))
      have hz := K4.out.size
      have hz6 := hS6.size
      clear g1 r1 r2 hS5 hSd hS7
      go_wp2
      go_ret
      exact ⟨_, rfl, H6.out, (OwnQ.new w6 ⟨2, id, D⟩).mono (by omega), K6.out⟩
  · rw [if_neg e2]
    have e2' : ((getValF s).2.2 != 0) = true := by simpa using e2
    generalize getValF s = R at *
    obtain ⟨x, y, E⟩ := R
    simp only at HG e2'
    clear e2
    go_enter Tryd.func31, Tryd.ntmps31
    go_upto_region 1 with fail
    generalize w.alloc (.cells #[.int .i64 1, .int .i64 id, .slice p n cap, .string s] 40) = W at *
    obtain ⟨d0, d1, d2, d3⟩ := X1.out.cells
    go_wp2_with fail
    refine (HG.out _).mono ?_
    rintro e w2 ⟨rfl, hk2⟩
    have H2 := hid (H1.out.kept0 hk2)
    have K2 := hid (K1.out.trans (caNone hk2))
    clear hk2 d0 d1 d2 d3 HG H1 K1 X1
    go_wp2
    go_ret
    exact ⟨_, rfl, H2.out, OwnQ.nil _ _, K2.out⟩

/-- What hear leaves. -/
def hearCr (c : Cr) (code id : Int) : Cr := if c.answered = true ∧ id = c.id then { c with done := true, good := code == 3 } else c

set_option maxHeartbeats 2000000 in
set_option maxRecDepth 100000 in
theorem lcHear_any (b : Nat) (c : Cr) (code id : Int) (p : Option Addr) (n cap : Nat) (s : ByteArray) (w : World) (h : LcIn w b c) :
    Calls Tryd.prog 32 #[.pointer (some ⟨b, 0, none⟩), .agg #[.int .i64 code, .int .i64 id, .slice p n cap, .string s]] w fun e w' => e = .returned undef ∧ LcIn w' b (hearCr c code id) ∧ Kept (fun i => i = b) w w' := by
  have hk := (Kept.refl (fun _ => False) w).alloc (.cells #[.int .i64 code, .int .i64 id, .slice p n cap, .string s] 40)
  have H1 := hid (h.kept0 hk)
  have K1 := hid (caNone (b := b) hk)
  have X1 := hid (PkAt.new w code id (.slice p n cap) s)
  clear h hk
  unfold hearCr
  by_cases ha : c.answered = true
  · by_cases ei : id = c.id
    · rw [if_pos ⟨ha, ei⟩]
      obtain ⟨q, hq⟩ : ∃ q, (code == 3) = q := ⟨_, rfl⟩
      rw [hq]
      have ei' : (id != c.id) = false := by simp [ei]
      have HR : Hid (LcIn ((w.alloc (.cells #[.int .i64 code, .int .i64 id, .slice p n cap, .string s] 40)).setCell ⟨b, 5, none⟩ (.bool true) |>.setCell ⟨b, 6, none⟩ (.bool q)) b { c with done := true, good := q }) := (H1.out.set5 true).set6 q
      have K4 := hid (caOwn (caOwn K1.out 5 (.bool true)) 6 (.bool q))
      clear ei
      go_enter Tryd.func32, Tryd.ntmps32
      go_upto_region 1 with fail
      generalize w.alloc (.cells #[.int .i64 code, .int .i64 id, .slice p n cap, .string s] 40) = W at *
      obtain ⟨d0, d1, d2, d3⟩ := X1.out.cells
      have q3 := H1.out.c3
      have q4 := H1.out.c4
      have q5 := H1.out.c5
      have q6 := H1.out.c6
      have f5 := H1.out.fz 5
      have f6 := H1.out.fz 6
      rw [ha] at q3
      go_wp2
      go_quiet (fail)
      go_wp2
      go_region
      all_goals
        go_wp2
        go_end0
        exact ⟨rfl, HR.out, (K4.out.drewN _).drew⟩
    · rw [if_neg (fun h => ei h.2)]
      have ei' : (id != c.id) = true := by simpa using ei
      clear ei
      go_enter Tryd.func32, Tryd.ntmps32
      go_upto_region 1 with fail
      generalize w.alloc (.cells #[.int .i64 code, .int .i64 id, .slice p n cap, .string s] 40) = W at *
      obtain ⟨d0, d1, d2, d3⟩ := X1.out.cells
      have q3 := H1.out.c3
      have q4 := H1.out.c4
      rw [ha] at q3
      go_wp2
      go_quiet (fail)
      go_wp2
      (try simp only [Exit.inBlock, Exit.then]); refine bodyPost_ret (results_none rfl _ _ _) rfl ?_
      exact ⟨rfl, H1.out, K1.out.drewN _⟩
  · rw [if_neg (fun h => ha h.1)]
    have ha' : c.answered = false := by simpa using ha
    go_enter Tryd.func32, Tryd.ntmps32
    go_upto_region 1 with fail
    generalize w.alloc (.cells #[.int .i64 code, .int .i64 id, .slice p n cap, .string s] 40) = W at *
    obtain ⟨d0, d1, d2, d3⟩ := X1.out.cells
    have q3 := H1.out.c3
    have q4 := H1.out.c4
    rw [ha'] at q3
    clear ha
    go_wp2
    go_quiet (fail)
    go_wp2
    (try simp only [Exit.inBlock, Exit.then]); refine bodyPost_ret (results_none rfl _ _ _) rfl ?_
    exact ⟨rfl, H1.out, K1.out.drewN _⟩

set_option maxHeartbeats 2000000 in
set_option maxRecDepth 100000 in
theorem lcTake_any (b : Nat) (c : Cr) (hn : c.name.size ≤ 60) (hs : c.secret.size ≤ 60) (code id : Int) (p : Option Addr) (n cap : Nat) (s : ByteArray) (hd : s.size ≤ 140737488351232) (w : World) (hT : TabB b w) (h : LcIn w b c) :
    Calls Tryd.prog 15 #[.pointer (some ⟨b, 0, none⟩), pkV code id (.slice p n cap) s] w fun e w' => ∃ v, e = .returned v ∧ LcIn w' b (takeCr chapK c code id s).2 ∧ OwnQ w' w.heap.size v (takeCr chapK c code id s).1 ∧ Kept (fun i => i = b) w w' := by
  unfold pkV
  have hk := (Kept.refl (fun _ => False) w).alloc (.cells #[.int .i64 code, .int .i64 id, .slice p n cap, .string s] 40)
  have H1 := hid (h.kept0 hk)
  have K1 := hid (caNone (b := b) hk)
  have X1 := hid (PkAt.new w code id (.slice p n cap) s)
  have HT := hid (hT.next (caNone hk))
  clear h hk hT
  by_cases e1 : code = 1
  · subst e1
    have HA := hid (lcAnswer_any b c hn hs id p n cap s hd _ HT.out H1.out)
    generalize takeCr chapK c 1 id s = R at *
    clear hn hs hd
    go_enter Tryd.func15, Tryd.ntmps15
    go_upto_region 1 with fail
    generalize w.alloc (.cells #[.int .i64 1, .int .i64 id, .slice p n cap, .string s] 40) = W at *
    obtain ⟨d0, d1, d2, d3⟩ := X1.out.cells
    have q0 := H1.out.c0
    go_wp2_with fail
    refine HA.out.mono ?_
    rintro e w2 ⟨v, rfl, hc, ho, hk2⟩
    have HC := hid hc
    have HO := hid ho
    have K2 := hid (K1.out.trans hk2)
    have hz := K1.out.size
    clear hc ho hk2
    go_wp2
    go_ret
    exact ⟨v, rfl, HC.out, HO.out.mono hz, K2.out⟩
  · have e1' : (code == 1) = false := by simpa using e1
    unfold takeCr
    rw [if_neg e1]
    have HH := hid (lcHear_any b c code id p n cap s _ H1.out)
    by_cases e34 : code = 3 ∨ code = 4
    · have hR : Hid ((if (code = 3 ∨ code = 4) ∧ c.answered = true ∧ id = c.id then (([] : List Pq), ({ c with done := true, good := code == 3 } : Cr)) else ([], c)) = ([], hearCr c code id)) := by
        unfold hearCr
        by_cases hq : c.answered = true ∧ id = c.id
        · rw [if_pos ⟨e34, hq⟩, if_pos hq]
          try rfl
        · rw [if_neg (fun h => hq h.2), if_neg hq]
          try rfl
      rw [hR.out]
      clear hR
      generalize hearCr c code id = R at *
      have hq : (code == 3) = true ∨ ((code == 3) = false ∧ (code == 4) = true) := by
        rcases e34 with e | e
        · exact Or.inl (by simp [e])
        · exact Or.inr ⟨by simp [e], by simp [e]⟩
      clear e1 e34 hn hs hd
      rcases hq with hq | ⟨hq, hq4⟩
      all_goals
        go_enter Tryd.func15, Tryd.ntmps15
        go_upto_region 1 with fail
        generalize w.alloc (.cells #[.int .i64 code, .int .i64 id, .slice p n cap, .string s] 40) = W at *
        obtain ⟨d0, d1, d2, d3⟩ := X1.out.cells
        have q0 := H1.out.c0
        go_wp2_with fail
        refine HH.out.mono ?_
        rintro e w2 ⟨rfl, hc, hk2⟩
        have HC := hid hc
        have K2 := hid (K1.out.trans hk2)
        clear hc hk2
        go_wp2
        go_ret
        exact ⟨_, rfl, HC.out, OwnQ.nil _ _, K2.out⟩
    · rw [if_neg (fun h => e34 h.1)]
      have hq3 : (code == 3) = false := by rw [beq_eq_false_iff_ne]; exact fun h => e34 (Or.inl h)
      have hq4 : (code == 4) = false := by rw [beq_eq_false_iff_ne]; exact fun h => e34 (Or.inr h)
      clear e1 e34 hn hs hd
      go_enter Tryd.func15, Tryd.ntmps15
      go_upto_region 1 with fail
      generalize w.alloc (.cells #[.int .i64 code, .int .i64 id, .slice p n cap, .string s] 40) = W at *
      obtain ⟨d0, d1, d2, d3⟩ := X1.out.cells
      have q0 := H1.out.c0
      go_wp2
      go_ret
      exact ⟨_, rfl, H1.out, OwnQ.nil _ _, K1.out⟩

set_option maxHeartbeats 1000000 in
set_option maxRecDepth 100000 in
theorem lcDone_any (b : Nat) (c : Cr) (w : World) (h : LcIn w b c) : Calls Tryd.prog 22 #[.pointer (some ⟨b, 0, none⟩)] w fun e w' => e = .returned (.tuple #[.bool c.done, .bool c.good]) ∧ Kept (fun _ => False) w w' := by
  have c5 := h.c5
  have c6 := h.c6
  clear h
  go_enter Tryd.func22, Tryd.ntmps22
  go_wp2
  go_region
  all_goals
    go_wp2
    go_ret2
    exact ⟨rfl, (Kept.refl _ _).drew⟩
end Go.Proofs.YtndpfcanfcbldaaDoor
