/- The contracts of a server's calls: is, isResponse, ask, verdict, NewServer, Start, Tick, Judge, Again, Done. -/
import Derived.Test.YtndpfcanfcbldaaDoorCaMem
import Derived.Deep.DeepCutAuto
import Derived.Deep.RegionHeld3
import Derived.BigQuiet
namespace Go.Proofs.YtndpfcanfcbldaaDoor
open Go.RowKit


set_option maxRecDepth 100000 in
theorem psIs_any (b : Nat) (c : Ps) (k : Int) (w : World) (h : PsIn w b c) : Calls Tryd.prog 33 #[.pointer (some ⟨b, 0, none⟩), .int .i64 k] w fun e w' => e = .returned (.bool (c.st == k)) ∧ w' = w := by
  have c5 := h.c5
  clear h
  go_enter Tryd.func33, Tryd.ntmps33
  go_wp2
  go_ret
  exact ⟨rfl, rfl⟩

set_option maxHeartbeats 1000000 in
set_option maxRecDepth 100000 in
theorem psResp_any (b : Nat) (c : Ps) (code id : Int) (p : Option Addr) (n cap : Nat) (s : ByteArray) (w : World) (h : PsIn w b c) :
    Calls Tryd.prog 34 #[.pointer (some ⟨b, 0, none⟩), .agg #[.int .i64 code, .int .i64 id, .slice p n cap, .string s]] w fun e w' => e = .returned (.bool (code == 2 && id == c.id)) ∧ Kept (fun _ => False) w w' := by
  have hk := (Kept.refl (fun _ => False) w).alloc (.cells #[.int .i64 code, .int .i64 id, .slice p n cap, .string s] 40)
  have c4 := (h.kept0 hk).c4
  have K1 := hid hk
  obtain ⟨d0, d1, d2, d3⟩ := (PkAt.new w code id (.slice p n cap) s).cells
  clear h hk
  by_cases e1 : code = 2
  · have e1' : (code == 2) = true := by simp [e1]
    rw [e1', Bool.true_and]
    clear e1
    go_enter Tryd.func34, Tryd.ntmps34
    go_upto_region 1 with fail
    generalize w.alloc (.cells #[.int .i64 code, .int .i64 id, .slice p n cap, .string s] 40) = W at *
    go_quiet (fail)
    go_wp2
    go_ret
    exact ⟨rfl, K1.out.drewN _⟩
  · have e1' : (code == 2) = false := by simpa using e1
    rw [e1', Bool.false_and]
    clear e1
    go_enter Tryd.func34, Tryd.ntmps34
    go_upto_region 1 with fail
    generalize w.alloc (.cells #[.int .i64 code, .int .i64 id, .slice p n cap, .string s] 40) = W at *
    go_quiet (fail)
    go_wp2
    go_ret
    exact ⟨rfl, K1.out.drewN _⟩

set_option maxHeartbeats 1000000 in
set_option maxRecDepth 100000 in
theorem psAsk_any {b : Nat} {c : Ps} {w : World} (h : PsIn w b c) (hn : c.name.size ≤ 60) (hv : c.value.size ≤ 60) : Calls Tryd.prog 30 #[.pointer (some ⟨b, 0, none⟩)] w fun e w' => ∃ v, e = .returned v ∧ PsIn w' b { c with ticks := 0 } ∧ OwnQ w' w.heap.size v [⟨1, c.id, layF c.value ++ c.name⟩] ∧ Kept (fun i => i = b) w w' := by
  have c7 := h.c7
  have f7 := h.fz 7
  have H2 := hid (h.set7 0)
  have K2 := hid (caOwn (Kept.refl (fun i => i = b) w) 7 (.int .i64 0))
  have HL := hid (caLay_any c.value c.name hv hn)
  generalize hD : layF c.value ++ c.name = D at *
  clear h hn hv
  go_enter Tryd.func30, Tryd.ntmps30
  go_upto_region 2 with fail
  generalize hW : w.setCell ⟨b, 7, none⟩ (.int .i64 0) = W at *
  clear hW f7 c7 hD
  have g4 : ∀ W', Kept (fun _ => False) W W' → W'.cell? ⟨b, 4, none⟩ = some (.int .i64 c.id) := fun W' hk => (H2.out.kept0 hk).c4
  have g3 : ∀ W', Kept (fun _ => False) W W' → W'.cell? ⟨b, 3, none⟩ = some (.string c.value) := fun W' hk => (H2.out.kept0 hk).c3
  have g0 : ∀ W', Kept (fun _ => False) W W' → W'.cell? ⟨b, 0, none⟩ = some (.string c.name) := fun W' hk => (H2.out.kept0 hk).c0
  refine wp_region_held_drew (S := Kept (fun _ => False) W) (by kernel_rfl) ((Kept.refl _ W).drew) (fun hSd => ?_)
  refine wpAnyH_take (i := 0) (v := ?_) rfl (by kernel_rfl) (by kernel_rfl) (by kernel_rfl) (fun _ _ _ h => h) (Or.inl ⟨by kernel_rfl, fun W hSW => by go_simp; try with_reducible rfl⟩) (by assumption) ?_
  try simp only [List.getElem_toArray]
  try simp only [List.getElem_cons_succ]
  try simp only [List.getElem_cons_zero]
  try simp only [Act.put]
  try simp only [List.setIfInBounds_toArray]
  try simp only [List.set_cons_succ]
  try simp only [List.set_cons_zero]
  refine wpAnyH_take (i := 1) (v := ?_) rfl (by kernel_rfl) (by kernel_rfl) (by kernel_rfl) (fun _ _ _ h => h) (Or.inl ⟨by kernel_rfl, fun W hSW => by go_simp; try with_reducible rfl⟩) (by assumption) ?_
  try simp only [List.getElem_toArray]
  try simp only [List.getElem_cons_succ]
  try simp only [List.getElem_cons_zero]
  try simp only [Act.put]
  try simp only [List.setIfInBounds_toArray]
  try simp only [List.set_cons_succ]
  try simp only [List.set_cons_zero]
  refine wpAnyH_take (i := 2) (v := ?_) rfl (by kernel_rfl) (by kernel_rfl) (by kernel_rfl) (fun _ _ _ h => h) (Or.inl ⟨by kernel_rfl, fun W hSW => by go_simp; try with_reducible rfl⟩) (by assumption) ?_
  try simp only [List.getElem_toArray]
  try simp only [List.getElem_cons_succ]
  try simp only [List.getElem_cons_zero]
  try simp only [Act.put]
  try simp only [List.setIfInBounds_toArray]
  try simp only [List.set_cons_succ]
  try simp only [List.set_cons_zero]
  refine wpAnyH_take (i := 3) (v := ?_) rfl (by kernel_rfl) (by kernel_rfl) (by kernel_rfl) (fun _ _ _ h => h) (Or.inl ⟨by kernel_rfl, fun W hSW => by go_simp; try with_reducible rfl⟩) (by assumption) ?_
  try simp only [List.getElem_toArray]
  try simp only [List.getElem_cons_succ]
  try simp only [List.getElem_cons_zero]
  try simp only [Act.put]
  try simp only [List.setIfInBounds_toArray]
  try simp only [List.set_cons_succ]
  try simp only [List.set_cons_zero]
  refine wpAnyH_take (i := 4) (v := ?_) rfl (by kernel_rfl) (by kernel_rfl) (by kernel_rfl) (fun _ _ _ h => h) (Or.inl ⟨by kernel_rfl, fun W hSW => by go_simp; try with_reducible rfl⟩) (by assumption) ?_
  try simp only [List.getElem_toArray]
  try simp only [List.getElem_cons_succ]
  try simp only [List.getElem_cons_zero]
  try simp only [Act.put]
  try simp only [List.setIfInBounds_toArray]
  try simp only [List.set_cons_succ]
  try simp only [List.set_cons_zero]
  refine wpAnyH_take (i := 5) (v := ?_) rfl (by kernel_rfl) (by kernel_rfl) (by kernel_rfl) (fun _ _ _ h => h) (Or.inl ⟨by kernel_rfl, fun W hSW => by go_simp; try with_reducible rfl⟩) (by assumption) ?_
  try simp only [List.getElem_toArray]
  try simp only [List.getElem_cons_succ]
  try simp only [List.getElem_cons_zero]
  try simp only [Act.put]
  try simp only [List.setIfInBounds_toArray]
  try simp only [List.set_cons_succ]
  try simp only [List.set_cons_zero]
  refine wpAnyH_take (i := 6) (v := ?_) rfl (by kernel_rfl) (by kernel_rfl) (by kernel_rfl) (fun _ _ _ h => h) (Or.inl ⟨by kernel_rfl, fun W hSW => by go_simp; try with_reducible rfl⟩) (by assumption) ?_
  try simp only [List.getElem_toArray]
  try simp only [List.getElem_cons_succ]
  try simp only [List.getElem_cons_zero]
  try simp only [Act.put]
  try simp only [List.setIfInBounds_toArray]
  try simp only [List.set_cons_succ]
  try simp only [List.set_cons_zero]
  refine wpAnyH_take (i := 7) (v := ?_) rfl (by kernel_rfl) (by kernel_rfl) (by kernel_rfl) (fun _ _ _ h => h) (Or.inl ⟨by kernel_rfl, fun W hSW => by go_simp; try with_reducible rfl⟩) (by assumption) ?_
  try simp only [List.getElem_toArray]
  try simp only [List.getElem_cons_succ]
  try simp only [List.getElem_cons_zero]
  try simp only [Act.put]
  try simp only [List.setIfInBounds_toArray]
  try simp only [List.set_cons_succ]
  try simp only [List.set_cons_zero]
  refine wpAnyH_take (i := 8) (v := ?_) rfl (by kernel_rfl) (by kernel_rfl) (by kernel_rfl) (fun _ _ _ h => h) (Or.inl ⟨by kernel_rfl, fun W hSW => by go_simp; try with_reducible rfl⟩) (by assumption) ?_
  try simp only [List.getElem_toArray]
  try simp only [List.getElem_cons_succ]
  try simp only [List.getElem_cons_zero]
  try simp only [Act.put]
  try simp only [List.setIfInBounds_toArray]
  try simp only [List.set_cons_succ]
  try simp only [List.set_cons_zero]
  refine wpAnyH_take (i := 9) (v := ?_) rfl (by kernel_rfl) (by kernel_rfl) (by kernel_rfl) (fun _ _ _ h => h) (Or.inl ⟨by kernel_rfl, fun W hSW => by go_simp; try with_reducible rfl⟩) (by assumption) ?_
  try simp only [List.getElem_toArray]
  try simp only [List.getElem_cons_succ]
  try simp only [List.getElem_cons_zero]
  try simp only [Act.put]
  try simp only [List.setIfInBounds_toArray]
  try simp only [List.set_cons_succ]
  try simp only [List.set_cons_zero]
  refine wpAnyH_take (i := 10) (v := ?_) rfl (by kernel_rfl) (by kernel_rfl) (by kernel_rfl) (fun _ _ _ h => h) (Or.inl ⟨by kernel_rfl, fun W hSW => by go_simp; try with_reducible rfl⟩) (by assumption) ?_
  try simp only [List.getElem_toArray]
  try simp only [List.getElem_cons_succ]
  try simp only [List.getElem_cons_zero]
  try simp only [Act.put]
  try simp only [List.setIfInBounds_toArray]
  try simp only [List.set_cons_succ]
  try simp only [List.set_cons_zero]
  refine wpAnyH_take (i := 11) (v := ?_) rfl (by kernel_rfl) (by kernel_rfl) (by kernel_rfl) (fun _ _ _ h => h) (Or.inl ⟨by kernel_rfl, fun W hSW => by go_simp; try with_reducible rfl⟩) (by assumption) ?_
  try simp only [List.getElem_toArray]
  try simp only [List.getElem_cons_succ]
  try simp only [List.getElem_cons_zero]
  try simp only [Act.put]
  try simp only [List.setIfInBounds_toArray]
  try simp only [List.set_cons_succ]
  try simp only [List.set_cons_zero]
  refine wpAnyH_ready (rs := [12]) (by kernel_rfl) (by simp) ?_
  refine AllReadyH.cons rfl (fun K hK => ?_) AllReadyH.nil
  go_simp
  refine (HL.out _).mono ?_
  rintro e w5 ⟨rfl, hk5⟩
  have hS5 : Kept (fun _ => False) W w5 := hSd.trans hk5
  clear hk5
  refine hK.out _ _ (hS5) (fun _ => ?_)
  clear hK K
  try simp only [List.getElem_toArray]
  try simp only [List.getElem_cons_succ]
  try simp only [List.getElem_cons_zero]
  try simp only [Act.put]
  try simp only [List.setIfInBounds_toArray]
  try simp only [List.set_cons_succ]
  try simp only [List.set_cons_zero]
  refine wpAnyH_take (i := 13) (v := ?_) rfl (by kernel_rfl) (by kernel_rfl) (by kernel_rfl) (fun _ _ _ h => h) (Or.inl ⟨by kernel_rfl, fun W hSW => by go_simp; try with_reducible rfl⟩) (by assumption) ?_
  try simp only [List.getElem_toArray]
  try simp only [List.getElem_cons_succ]
  try simp only [List.getElem_cons_zero]
  try simp only [Act.put]
  try simp only [List.setIfInBounds_toArray]
  try simp only [List.set_cons_succ]
  try simp only [List.set_cons_zero]
  refine wpAnyH_ready (rs := [14]) (by kernel_rfl) (by simp) ?_
  refine AllReadyH.cons rfl (fun K hK => ?_) AllReadyH.nil
  go_simp
  have hS6 : Kept (fun _ => False) W (World.alloc w5 (.cells #[.int .i64 1, .int .i64 c.id, .slice none 0 0, .string D] 40)) := hS5.alloc _
  refine hK.out _ _ (hS6) (fun _ => ?_)
  clear hK K
  try simp only [List.getElem_toArray]
  try simp only [List.getElem_cons_succ]
  try simp only [List.getElem_cons_zero]
  try simp only [Act.put]
  try simp only [List.setIfInBounds_toArray]
  try simp only [List.set_cons_succ]
  try simp only [List.set_cons_zero]
  refine wpAnyH_take (i := 15) (v := ?_) rfl (by kernel_rfl) (by kernel_rfl) (by kernel_rfl) (fun _ _ _ h => h) (Or.inl ⟨by kernel_rfl, fun W hSW => by go_simp; try with_reducible rfl⟩) (by assumption) ?_
  try simp only [List.getElem_toArray]
  try simp only [List.getElem_cons_succ]
  try simp only [List.getElem_cons_zero]
  try simp only [Act.put]
  try simp only [List.setIfInBounds_toArray]
  try simp only [List.set_cons_succ]
  try simp only [List.set_cons_zero]
  refine wpAnyH_done (by kernel_rfl) ?_ _
  clear g4 g3 g0
  go_wp2
  go_ret
  refine ⟨_, rfl, H2.out.kept0 hS6, ?_, K2.out.trans (caNone hS6)⟩
  have hsz := K2.out.size
  have hsz2 := hS5.size
  exact (OwnQ.new w5 ⟨1, c.id, D⟩).mono (by omega)

set_option maxHeartbeats 1000000 in
set_option maxRecDepth 100000 in
theorem psSay_any (b : Nat) (c : Ps) (w : World) (h : PsIn w b c) : Calls Tryd.prog 39 #[.pointer (some ⟨b, 0, none⟩)] w fun e w' => ∃ v, e = .returned v ∧ OwnQ w' w.heap.size v (sayP c) ∧ Kept (fun _ => False) w w' := by
  have c5 := h.c5
  have c4 := h.c4
  unfold sayP
  clear h
  by_cases e1 : c.st = 4
  · rw [if_pos e1]
    have e1' : (c.st == 4) = true := by simp [e1]
    clear e1
    go_enter Tryd.func39, Tryd.ntmps39
    go_wp2
    go_ret
    exact ⟨_, rfl, OwnQ.new w ⟨3, c.id, ⟨#[]⟩⟩, (Kept.refl _ w).alloc _⟩
  · rw [if_neg e1]
    have e1' : (c.st == 4) = false := by simpa using e1
    clear e1
    go_enter Tryd.func39, Tryd.ntmps39
    go_wp2
    go_ret
    exact ⟨_, rfl, OwnQ.new w ⟨4, c.id, ⟨#[]⟩⟩, (Kept.refl _ w).alloc _⟩

/-- What NewServer answers. -/
def PNewIs (n : ByteArray) (retry wait : Int) (w : World) (e : Ending) (w' : World) : Prop :=
  ((60 < n.size ∧ e = .returned (.tuple #[.pointer none, .int .i64 2])) ∨
   (n.size ≤ 60 ∧ ¬ (0 ≤ retry ∧ retry ≤ 10 ∧ 1 ≤ wait ∧ wait ≤ 100) ∧ e = .returned (.tuple #[.pointer none, .int .i64 1])) ∨
   (n.size ≤ 60 ∧ (0 ≤ retry ∧ retry ≤ 10 ∧ 1 ≤ wait ∧ wait ≤ 100) ∧ e = .returned (.tuple #[.pointer (some ⟨w.heap.size, 0, none⟩), .int .i64 0]) ∧ PsIn w' w.heap.size (newP n retry wait))) ∧ Kept (fun _ => False) w w'

set_option maxHeartbeats 1000000 in
set_option maxRecDepth 100000 in
theorem psNew_any (n : ByteArray) (hn : n.size ≤ 140737488351232) (retry wait : Int) (w : World) :
    Calls Tryd.prog 12 #[.string n, .int .i64 retry, .int .i64 wait] w (PNewIs n retry wait w) := by
  have HL := hid (caLong_any n hn)
  by_cases h1 : 60 < n.size
  · rw [show longB n = true by simp [longB, h1]] at HL
    go_enter Tryd.func12, Tryd.ntmps12
    go_wp2_with fail
    refine (HL.out _).mono ?_
    rintro e w1 ⟨rfl, hw⟩
    rw [hw]
    clear hw w1
    go_wp2
    go_ret2
    exact ⟨Or.inl ⟨h1, rfl⟩, Kept.refl _ _⟩
  · rw [show longB n = false by simp [longB]; omega] at HL
    have H1 := hid (Nat.le_of_not_lt h1)
    clear h1
    by_cases q1 : retry < 0
    · go_enter Tryd.func12, Tryd.ntmps12
      go_wp2_with fail
      refine (HL.out _).mono ?_
      rintro e w1 ⟨rfl, hw⟩
      rw [hw]
      clear hw w1
      go_wp2
      go_ret2
      exact ⟨Or.inr (Or.inl ⟨H1.out, by omega, rfl⟩), Kept.refl _ _⟩
    · by_cases q2 : 10 < retry
      · go_enter Tryd.func12, Tryd.ntmps12
        go_wp2_with fail
        refine (HL.out _).mono ?_
        rintro e w1 ⟨rfl, hw⟩
        rw [hw]
        clear hw w1
        go_wp2
        go_ret2
        exact ⟨Or.inr (Or.inl ⟨H1.out, by omega, rfl⟩), Kept.refl _ _⟩
      · by_cases q3 : wait < 1
        · go_enter Tryd.func12, Tryd.ntmps12
          go_wp2_with fail
          refine (HL.out _).mono ?_
          rintro e w1 ⟨rfl, hw⟩
          rw [hw]
          clear hw w1
          go_wp2
          go_ret2
          exact ⟨Or.inr (Or.inl ⟨H1.out, by omega, rfl⟩), Kept.refl _ _⟩
        · by_cases q4 : 100 < wait
          · go_enter Tryd.func12, Tryd.ntmps12
            go_wp2_with fail
            refine (HL.out _).mono ?_
            rintro e w1 ⟨rfl, hw⟩
            rw [hw]
            clear hw w1
            go_wp2
            go_ret2
            exact ⟨Or.inr (Or.inl ⟨H1.out, by omega, rfl⟩), Kept.refl _ _⟩
          · go_enter Tryd.func12, Tryd.ntmps12
            go_wp2_with fail
            refine (HL.out _).mono ?_
            rintro e w1 ⟨rfl, hw⟩
            rw [hw]
            clear hw w1
            go_wp2
            go_ret2
            exact ⟨Or.inr (Or.inr ⟨H1.out, by omega, rfl, heap_alloc_new w _⟩), (Kept.refl _ w).alloc _⟩

set_option maxHeartbeats 1000000 in
set_option maxRecDepth 100000 in
theorem psStart_any (b : Nat) (c : Ps) (hn : c.name.size ≤ 60) (hi : 0 ≤ c.id ∧ c.id ≤ 255) (v : ByteArray) (hv : v.size ≤ 140737488351232) (w : World) (h : PsIn w b c) : Calls Tryd.prog 14 #[.pointer (some ⟨b, 0, none⟩), .string v] w fun e w' => ∃ u, e = .returned u ∧ PsIn w' b (startP c v).2 ∧ OwnQ w' w.heap.size u (startP c v).1 ∧ Kept (fun i => i = b) w w' := by
  unfold startP
  have H := hid h
  have c2 := h.c2
  have L1 := hid (caSize_any (v.size : Int))
  by_cases h0 : c.wait = 0
  · rw [if_pos (Or.inl h0)]
    have h0' : (c.wait == 0) = true := by simp [h0]
    clear h h0
    go_enter Tryd.func14, Tryd.ntmps14
    go_wp2
    go_ret
    exact ⟨_, rfl, H.out, OwnQ.nil _ _, Kept.refl _ _⟩
  · have h0' : (c.wait == 0) = false := by simpa using h0
    by_cases h1 : v.size < 1 ∨ 60 < v.size
    · rw [if_pos (Or.inr h1)]
      rw [sizeB_no (by omega)] at L1
      clear h h0 h1
      go_enter Tryd.func14, Tryd.ntmps14
      go_wp2_with fail
      refine (L1.out _).mono ?_
      rintro e w1 ⟨rfl, hw⟩
      rw [hw]
      clear hw w1
      go_wp2
      go_ret
      exact ⟨_, rfl, H.out, OwnQ.nil _ _, Kept.refl _ _⟩
    · rw [if_neg (by omega)]
      rw [sizeB_yes (by omega) (by omega)] at L1
      have hv60 : v.size ≤ 60 := by omega
      have HC := hid (clone_any v · (by omega))
      have hw1 : IntKind.i64.wrap (c.id + 1) = c.id + 1 := by rw [IntKind.wrap_i64]; omega
      have hw2 : IntKind.u8.wrap (c.id + 1) = (c.id + 1) % 256 := rfl
      have hw3 : IntKind.i64.wrap ((c.id + 1) % 256) = (c.id + 1) % 256 := by rw [IntKind.wrap_i64]; omega
      generalize hX : (c.id + 1) % 256 = X at *
      have c5 := h.c5
      have f5 := h.fz 5
      have H1 := hid (h.set5 1)
      have K1 := hid (caOwn (Kept.refl (fun i => i = b) w) 5 (.int .i64 1))
      have HV := hid (And.intro hn hv60)
      clear h h0 h1 hi hv hX hn hv60
      go_enter Tryd.func14, Tryd.ntmps14
      go_wp2_with fail
      refine (L1.out _).mono ?_
      rintro e w1 ⟨rfl, hw⟩
      rw [hw]
      clear hw w1
      go_wp2_with fail
      refine (HC.out _).mono ?_
      rintro e w2 ⟨rfl, hk2⟩
      have H2 := hid (H1.out.kept0 (kept_of hk2))
      have K2 := hid (K1.out.trans (caNone (kept_of hk2)))
      clear hk2 HC c5 f5 H1 K1
      have q3 := H2.out.c3
      have f3 := H2.out.fz 3
      have H3 := hid (H2.out.set3 v)
      have q4 := H3.out.c4
      have f4 := H3.out.fz 4
      have H4 := hid (H3.out.set4 X)
      have q6 := H4.out.c6
      have f6 := H4.out.fz 6
      have H5 := hid (H4.out.set6 0)
      have K5 := hid (caOwn (caOwn (caOwn K2.out 3 (.string v)) 4 (.int .i64 X)) 6 (.int .i64 0))
      have HA := hid (psAsk_any H5.out HV.out.1 HV.out.2)
      simp only at q3 q4 q6
      go_wp2_with fail
      refine HA.out.mono ?_
      rintro e w' ⟨u, rfl, hc, ho, hk⟩
      have HC := hid hc
      have HO := hid ho
      have HK := hid (K5.out.trans hk)
      have hs := K5.out.size
      clear hc ho hk HA
      go_wp2
      go_ret
      exact ⟨u, rfl, HC.out, HO.out.mono hs, HK.out⟩

set_option maxHeartbeats 2000000 in
set_option maxRecDepth 100000 in
theorem psTick_any (b : Nat) (c : Ps) (hg : GoodP c) (w : World) (h : PsIn w b c) : Calls Tryd.prog 24 #[.pointer (some ⟨b, 0, none⟩)] w fun e w' => ∃ v, e = .returned v ∧ PsIn w' b (tickP c).2 ∧ OwnQ w' w.heap.size v (tickP c).1 ∧ Kept (fun i => i = b) w w' := by
  have HA := hid (psIs_any b c 1 w h)
  unfold tickP
  by_cases hs : c.st = 1
  · rw [if_pos hs]
    rw [show (c.st == 1) = true by simp [hs]] at HA
    have c7 := h.c7
    have f7 := h.fz 7
    have h1 := h.set7 (c.ticks + 1)
    have H1 := hid h1
    have hw7 : IntKind.i64.wrap (c.ticks + 1) = c.ticks + 1 := by have := hg.ticks; have := hg.wait; rw [IntKind.wrap_i64]; omega
    have hw6 : IntKind.i64.wrap (c.again + 1) = c.again + 1 := by have := hg.again; have := hg.retry; rw [IntKind.wrap_i64]; omega
    have K1 := hid (caOwn (Kept.refl (fun i => i = b) w) 7 (.int .i64 (c.ticks + 1)))
    have G := hid (And.intro hg.name (hg.early hs).2.2)
    clear h h1 hg
    by_cases h1 : c.ticks + 1 < c.wait
    · rw [if_pos h1]
      go_enter Tryd.func24, Tryd.ntmps24
      go_wp2_with (go_at_call 33; refine HA.out.mono ?_; rintro e w' ⟨rfl, hw⟩; rw [hw]; clear hw w')
      generalize hW : w.setCell ⟨b, 7, none⟩ (.int .i64 (c.ticks + 1)) = W at *
      have c7 := H1.out.c7
      have c2 := H1.out.c2
      simp only at c7 c2
      go_region
      all_goals
        go_wp2
        go_ret
        exact ⟨_, rfl, H1.out.drew, OwnQ.nil _ _, K1.out.drew⟩
    · rw [if_neg h1]
      by_cases h2 : c.again = c.retry
      · rw [if_pos h2]
        have hd : (c.again == c.retry) = true := by simp [h2]
        clear h2
        go_enter Tryd.func24, Tryd.ntmps24
        go_wp2_with (go_at_call 33; refine HA.out.mono ?_; rintro e w' ⟨rfl, hw⟩; rw [hw]; clear hw w')
        generalize hW : w.setCell ⟨b, 7, none⟩ (.int .i64 (c.ticks + 1)) = W at *
        have c7 := H1.out.c7
        have c2 := H1.out.c2
        have c6 := H1.out.c6
        have c1 := H1.out.c1
        have c5 := H1.out.c5
        have f5 := H1.out.fz 5
        simp only at c7 c2 c6 c1 c5
        go_region
        all_goals
          go_wp2
          go_region
          all_goals
            go_wp2
            go_ret
            exact ⟨_, rfl, H1.out.drew.drew.set5 3, OwnQ.nil _ _, caOwn K1.out.drew.drew 5 _⟩
      · rw [if_neg h2]
        have hd : (c.again == c.retry) = false := by simpa using h2
        clear h2
        go_enter Tryd.func24, Tryd.ntmps24
        go_wp2_with (go_at_call 33; refine HA.out.mono ?_; rintro e w' ⟨rfl, hw⟩; rw [hw]; clear hw w')
        generalize hW : w.setCell ⟨b, 7, none⟩ (.int .i64 (c.ticks + 1)) = W at *
        have c7 := H1.out.c7
        have c2 := H1.out.c2
        have c6 := H1.out.c6
        have c1 := H1.out.c1
        have f6 := H1.out.fz 6
        simp only at c7 c2 c6 c1
        have H2 := hid (H1.out.drew.drew.set6 (c.again + 1))
        have K2 := hid (caOwn K1.out.drew.drew 6 (.int .i64 (c.again + 1)))
        have HK := hid (psAsk_any H2.out G.out.1 G.out.2)
        go_region
        all_goals
          go_wp2
          go_region
          all_goals
            go_wp2_with fail
            refine HK.out.mono ?_
            rintro e w' ⟨v, rfl, hc, ho, hk⟩
            have HC := hid hc
            have HO := hid ho
            have HK' := hid (K2.out.trans hk)
            have hs := K2.out.size
            clear hc ho hk
            go_wp2
            go_ret
            exact ⟨v, rfl, HC.out, HO.out.mono hs, HK'.out⟩
  · rw [if_neg hs]
    rw [show (c.st == 1) = false by simpa using hs] at HA
    have H := hid h
    clear h hg hs
    go_enter Tryd.func24, Tryd.ntmps24
    go_wp2_with (go_at_call 33; refine HA.out.mono ?_; rintro e w' ⟨rfl, hw⟩; rw [hw]; clear hw w')
    go_ret
    exact ⟨_, rfl, H.out, OwnQ.nil _ _, Kept.refl _ _⟩

set_option maxHeartbeats 1000000 in
set_option maxRecDepth 100000 in
theorem psJudge_any (b : Nat) (c : Ps) (good : Bool) (w : World) (h : PsIn w b c) : Calls Tryd.prog 20 #[.pointer (some ⟨b, 0, none⟩), .bool good] w fun e w' => ∃ v, e = .returned v ∧ PsIn w' b (judgeP c good).2 ∧ OwnQ w' w.heap.size v (judgeP c good).1 ∧ Kept (fun i => i = b) w w' := by
  have HA := hid (psIs_any b c 2 w h)
  unfold judgeP
  by_cases hs : c.st = 2
  · rw [if_pos hs]
    rw [show (c.st == 2) = true by simp [hs]] at HA
    have c5 := h.c5
    have f5 := h.fz 5
    have h1 := h.set5 5
    have K1 := hid (caOwn (Kept.refl (fun i => i = b) w) 5 (.int .i64 5))
    cases good with
    | false =>
      have HS := hid (psSay_any b _ _ h1)
      have H1 := hid h1
      clear h h1 hs
      go_enter Tryd.func20, Tryd.ntmps20
      go_wp2_with fail
      refine HA.out.mono ?_
      rintro e w' ⟨rfl, hw⟩
      rw [hw]
      clear hw w'
      go_wp2_with fail
      refine HS.out.mono ?_
      rintro e w' ⟨v, rfl, ho, hk⟩
      have HO := hid ho
      have HC := hid (H1.out.kept0 hk)
      have HK := hid (K1.out.trans (caNone hk))
      have hs := K1.out.size
      clear ho hk
      go_wp2
      go_ret
      exact ⟨v, rfl, HC.out, HO.out.mono hs, HK.out⟩
    | true =>
      have q5 := h1.c5
      have g5 := h1.fz 5
      have h2 := h1.set5 4
      have K2 := hid (caOwn K1.out 5 (.int .i64 4))
      have HS := hid (psSay_any b _ _ h2)
      have H1 := hid h2
      clear h h1 h2 hs
      go_enter Tryd.func20, Tryd.ntmps20
      go_wp2_with fail
      refine HA.out.mono ?_
      rintro e w' ⟨rfl, hw⟩
      rw [hw]
      clear hw w'
      go_wp2_with fail
      refine HS.out.mono ?_
      rintro e w' ⟨v, rfl, ho, hk⟩
      have HO := hid ho
      have HC := hid (H1.out.kept0 hk)
      have HK := hid (K2.out.trans (caNone hk))
      have hs := K2.out.size
      clear ho hk
      go_wp2
      go_ret
      exact ⟨v, rfl, HC.out, HO.out.mono hs, HK.out⟩
  · rw [if_neg hs]
    rw [show (c.st == 2) = false by simpa using hs] at HA
    have H := hid h
    clear h hs
    go_enter Tryd.func20, Tryd.ntmps20
    go_wp2_with fail
    refine HA.out.mono ?_
    rintro e w' ⟨rfl, hw⟩
    rw [hw]
    clear hw w'
    go_wp2
    go_ret
    exact ⟨_, rfl, H.out, OwnQ.nil _ _, Kept.refl _ _⟩

set_option maxHeartbeats 1000000 in
set_option maxRecDepth 100000 in
theorem psDone_any (b : Nat) (c : Ps) (w : World) (h : PsIn w b c) : Calls Tryd.prog 17 #[.pointer (some ⟨b, 0, none⟩)] w fun e w' => e = .returned (.tuple #[.bool (doneP c), .bool (c.st == 4)]) ∧ w' = w := by
  have A3 := hid (psIs_any b c 3 w h)
  have A4 := hid (psIs_any b c 4 w h)
  have A5 := hid (psIs_any b c 5 w h)
  clear h
  unfold doneP
  generalize (c.st == 3) = q3 at *
  generalize (c.st == 4) = q4 at *
  generalize (c.st == 5) = q5 at *
  cases q3 with
  | true =>
    go_enter Tryd.func17, Tryd.ntmps17
    go_wp2_with fail
    refine A3.out.mono ?_
    rintro e w' ⟨rfl, hw⟩
    rw [hw]
    clear hw w'
    go_wp2_with fail
    refine A4.out.mono ?_
    rintro e w' ⟨rfl, hw⟩
    rw [hw]
    clear hw w'
    go_wp2
    go_ret2
    exact ⟨rfl, rfl⟩
  | false =>
    cases q4 with
    | true =>
      go_enter Tryd.func17, Tryd.ntmps17
      go_wp2_with fail
      refine A3.out.mono ?_
      rintro e w' ⟨rfl, hw⟩
      rw [hw]
      clear hw w'
      go_wp2_with fail
      refine A4.out.mono ?_
      rintro e w' ⟨rfl, hw⟩
      rw [hw]
      clear hw w'
      go_wp2_with fail
      refine A4.out.mono ?_
      rintro e w' ⟨rfl, hw⟩
      rw [hw]
      clear hw w'
      go_wp2
      go_ret2
      exact ⟨rfl, rfl⟩
    | false =>
      go_enter Tryd.func17, Tryd.ntmps17
      go_wp2_with fail
      refine A3.out.mono ?_
      rintro e w' ⟨rfl, hw⟩
      rw [hw]
      clear hw w'
      go_wp2_with fail
      refine A4.out.mono ?_
      rintro e w' ⟨rfl, hw⟩
      rw [hw]
      clear hw w'
      go_wp2_with fail
      refine A5.out.mono ?_
      rintro e w' ⟨rfl, hw⟩
      rw [hw]
      clear hw w'
      go_wp2_with fail
      refine A4.out.mono ?_
      rintro e w' ⟨rfl, hw⟩
      rw [hw]
      clear hw w'
      go_wp2
      go_ret2
      exact ⟨rfl, rfl⟩
end Go.Proofs.YtndpfcanfcbldaaDoor
