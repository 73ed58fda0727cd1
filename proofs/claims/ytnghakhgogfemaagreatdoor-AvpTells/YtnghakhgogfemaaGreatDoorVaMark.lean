/- The contracts of the book's markAvps and SameAvps (at two lists that are alike). -/
import Derived.Test.YtnghakhgogfemaaGreatDoorVaRow
import Derived.Test.YtnghakhgogfemaaGreatDoorBbName
import Derived.Deep.QuietTactic
import Derived.BigQuiet
import Derived.Deep.RegionHeld3
namespace Go.Proofs.YtnghakhgogfemaaGreatDoor.BAvps
open Go.RowKit

/-- '==' of two structs or arrays, in a region that draws. -/
theorem execOp_eqlB {P : Program} {f : Operand → Value} {o : Oper} {t t' : TypeId} {x y : Nat} {A A' : Array Value} {B : Bool} {W : World} (hm : P.eqGuardType P.depth t = false) (ho : o.op = Op.binOp .eql t (.tmp x) (.tmp y) t') (hx : f (.tmp x) = .agg A) (hy : f (.tmp y) = .agg A') (h : (Op.equalIn 10000 t (.agg A) (.agg A')).run P W = .ok B W) : Sem.run P (execOp f o) W = .ok (Next.value (.bool B)) W := by
  unfold execOp
  simp only [ho, hx, hy, binOp]
  simp [go_sem, hm, Op.equal, Op.maxDepth, h]
theorem nameF_size (i k : Nat) : (nameF i k).size = 6 := rfl
theorem markG (i k : Nat) : GoodA ⟨false, false, 0, -1 - ((i % 100000 : Nat) : Int), nameF i k⟩ := ⟨⟨by show (-9223372036854775808 : Int) ≤ 0; decide, by show (0 : Int) ≤ 9223372036854775807; decide⟩, by show -9223372036854775808 ≤ -1 - ((i % 100000 : Nat) : Int) ∧ -1 - ((i % 100000 : Nat) : Int) ≤ 9223372036854775807; omega, by show (nameF i k).size ≤ maxLen; rw [nameF_size]; unfold maxLen; omega⟩
def markT (i k : Nat) : El := ⟨_, markG i k⟩
theorem markT_cells (i k : Nat) (hi : i ≤ 1000) : elCells (markT i k) = [.bool false, .bool false, .int .i64 0, .int .i64 (-1 - (i : Int)), .string (nameF i k)] := by
  have e : i % 100000 = i := Nat.mod_eq_of_lt (by omega)
  show [Value.bool false, .bool false, .int .i64 0, .int .i64 (-1 - ((i % 100000 : Nat) : Int)), .string (nameF i k)] = _
  rw [e]
def marksT (i a n : Nat) : List El := (List.range n).map fun j => markT i (a + j)
theorem marksT_length (i a n : Nat) : (marksT i a n).length = n := by simp [marksT]
theorem marksT_snoc (i a n : Nat) : marksT i a (n + 1) = marksT i a n ++ [markT i (a + n)] := by simp [marksT, List.range_succ]
theorem marksT_append (i a n m : Nat) : marksT i a (n + m) = marksT i a n ++ marksT i (a + n) m := by
  induction m with
  | zero => simp [marksT]
  | succ m ih => rw [← Nat.add_assoc, marksT_snoc, ih, marksT_snoc, List.append_assoc, Nat.add_assoc]
theorem marksT_get {i a n j : Nat} (h : j < n) : (marksT i a n)[j]? = some (markT i (a + j)) := by simp [marksT, h]


set_option maxHeartbeats 2000000 in
set_option maxRecDepth 100000 in
theorem markAvps_any (i a n : Nat) (hi : i ≤ 1000) (ha : a ≤ 10000) (hn : n ≤ 10000) (w : World) :
    Calls Tryz.prog 145 #[.int .i64 (i : Int), .int .i64 (a : Int), .int .i64 (n : Int)] w fun e w' => ∃ v, e = .returned v ∧ OwnB w' w.heap.size v (marksT i a n) ∧ Kept (fun _ => False) w w' := by
  go_enter Tryz.func145, Tryz.ntmps145
  go_wp2
  go_loopw [7, 8] (fun v7 vk wr => ∃ j : Nat, j ≤ n ∧ vk = .int .i64 ((a : Int) + (j : Int)) ∧ Hid (OwnB wr w.heap.size v7 (marksT i a j) ∧ Kept (fun _ => False) w wr)) (fun _ vk _ => (a + n) - (intOf vk).toNat)
  case atStart => exact ⟨0, Nat.zero_le _, by simp, OwnB.nil _ _, Kept.refl _ _⟩
  case round =>
    obtain ⟨j, hj, rfl, HI⟩ := hrel
    by_cases hlt : j < n
    · have hltz : (a : Int) + (j : Int) < (a : Int) + (n : Int) := by omega
      obtain ⟨p7, c7, h7⟩ := slice_of HI.out.1
      subst h7
      have HN := hid (name_any i (a + j) (by omega) (by omega))
      rw [show ((a + j : Nat) : Int) = (a : Int) + (j : Int) by omega] at HN
      go_wp2_with fail
      refine (HN.out _).mono ?_
      rintro e w1 ⟨rfl, hk1⟩
      have H1 := hid (HI.out.1.kept hk1)
      have K1 := hid (HI.out.2.trans hk1)
      clear hk1 HI HN
      obtain ⟨v', w2, happ, hown', hk'⟩ := pushB (markT i (a + j)) K1.out.size H1.out (by rw [marksT_length]; omega)
      have R : Hid (OwnB w2 w.heap.size v' (marksT i a (j + 1)) ∧ Kept (fun _ => False) w w2) := by
        refine ⟨?_, K1.out.andThen hk' (fun k hk e => by have := (H1.out.block e).2; omega)⟩
        rw [marksT_snoc]
        exact hown'
      rw [markT_cells i (a + j) hi] at happ
      clear hown' hk' H1 K1
      go_wp2_with (at_builtin; refine Lib.wpList_append_run _ rfl _ _ _ _ rfl _ _ rfl rfl _ _ (happ _) ?_)
      exact ⟨⟨j + 1, hlt, by go_num, R.out⟩, by simp [intOf]; omega⟩
    · obtain rfl : j = n := by omega
      have hltz : ¬ (a : Int) + (j : Int) < (a : Int) + (j : Int) := by omega
      go_wp2
      go_ret
      exact ⟨_, rfl, HI.out.1, HI.out.2⟩

set_option maxHeartbeats 4000000 in
set_option maxRecDepth 100000 in
theorem sameAvps_eq (v u : Value) (l : List El) (w : World) (hv : RdB w v l) (hu : RdB w u l) (hl : l.length ≤ 1000000) :
    Calls Tryz.prog 15 #[v, u] w fun e w' => e = .returned (.bool true) ∧ Kept (fun _ => False) w w' := by
  obtain ⟨b1, hv⟩ := hv
  obtain ⟨b2, hu⟩ := hu
  obtain ⟨p, cap, hp⟩ := slice_of hv
  subst hp
  obtain ⟨q, cbp, hq⟩ := slice_of hu
  subst hq
  have HV := hid (fun W (hk : Kept (fun _ => False) w W) => hv.kept hk)
  have HU := hid (fun W (hk : Kept (fun _ => False) w W) => hu.kept hk)
  clear hv hu
  go_enter Tryz.func15, Tryz.ntmps15
  go_wp2
  go_loopw [5] (fun vi wr => ∃ j : Nat, j ≤ l.length ∧ vi = .int .i64 (j : Int) ∧ Hid (Kept (fun _ => False) w wr)) (fun vi _ => l.length - (intOf vi).toNat)
  case atStart => exact ⟨0, Nat.zero_le _, rfl, Kept.refl _ _⟩
  case round =>
    obtain ⟨j, hj, rfl, HI⟩ := hrel
    by_cases hlt : j < l.length
    · have hltz : (j : Int) < (l.length : Int) := by omega
      obtain ⟨x, hx⟩ : ∃ x, l[j]? = some x := ⟨l[j], by simp [hlt]⟩
      obtain ⟨g, rfl, _, hcap, _⟩ := (HV.out _ HI.out).at hx
      obtain ⟨g2, rfl, _, hcbp, _⟩ := (HU.out _ HI.out).at hx
      have d1 : ∀ U, Kept (fun _ => False) wr U → U.rangeAt g (j * 5) (elCells x) := fun U hk => by
        obtain ⟨g', e', _, _, q⟩ := (HV.out _ (HI.out.trans hk)).at hx
        simp only [Option.some.injEq, Addr.mk.injEq, and_true] at e'
        subst e'
        exact q
      have d2 : ∀ U, Kept (fun _ => False) wr U → U.rangeAt g2 (j * 5) (elCells x) := fun U hk => by
        obtain ⟨g', e', _, _, q⟩ := (HU.out _ (HI.out.trans hk)).at hx
        simp only [Option.some.injEq, Addr.mk.injEq, and_true] at e'
        subst e'
        exact q
      have hsz := sizeB x
      have heq : ∀ W, Sem.run Tryz.prog (Op.equalIn 10000 59 (.agg (elCells x).toArray) (.agg (elCells x).toArray)) W = .ok true W := av_self x.2
      generalize elCells x = cs at *
      clear hx
      go_wp2
      refine wp_region_held_drew (S := Kept (fun _ => False) wr) (by kernel_rfl) ((Kept.refl _ wr).drew) (fun hSd => ?_)
      refine wpAnyH_take (i := 0) (v := ?_) rfl (by kernel_rfl) (by kernel_rfl) (by kernel_rfl) (fun _ _ _ h => h) (Or.inl ⟨by kernel_rfl, fun W hSW => by go_simp; try with_reducible rfl⟩) (by assumption) ?_
      try simp only [List.getElem_toArray]
      try simp only [List.getElem_cons_succ]
      try simp only [List.getElem_cons_zero]
      try simp only [Act.put]
      try simp only [List.setIfInBounds_toArray]
      try simp only [List.set_cons_succ]
      try simp only [List.set_cons_zero]
      refine wpAnyH_take (i := 1) (v := ?_) rfl (by kernel_rfl) (by kernel_rfl) (by kernel_rfl) (fun _ _ _ h => h) (Or.inl ⟨by kernel_rfl, fun W hSW => by go_simp; try with_reducible rfl⟩) (by assumption) ?_
      try simp only [List.getElem_toArray]
      try simp only [List.getElem_cons_succ]
      try simp only [List.getElem_cons_zero]
      try simp only [Act.put]
      try simp only [List.setIfInBounds_toArray]
      try simp only [List.set_cons_succ]
      try simp only [List.set_cons_zero]
      refine wpAnyH_take (i := 2) (v := ?_) rfl (by kernel_rfl) (by kernel_rfl) (by kernel_rfl) (fun _ _ _ h => h) (Or.inl ⟨by kernel_rfl, fun W hSW => by go_simp; try with_reducible rfl⟩) (by assumption) ?_
      try simp only [List.getElem_toArray]
      try simp only [List.getElem_cons_succ]
      try simp only [List.getElem_cons_zero]
      try simp only [Act.put]
      try simp only [List.setIfInBounds_toArray]
      try simp only [List.set_cons_succ]
      try simp only [List.set_cons_zero]
      refine wpAnyH_take (i := 3) (v := .agg cs.toArray) rfl (by kernel_rfl) (by kernel_rfl) (by kernel_rfl) (fun _ _ _ h => h) (yieldsIf_load_mid (by kernel_rfl) 59 (.tmp 19) rfl g (j * 5) rfl cs _ d1 Tryz.underlying59 rfl hsz) (by assumption) ?_
      try simp only [List.getElem_toArray]
      try simp only [List.getElem_cons_succ]
      try simp only [List.getElem_cons_zero]
      try simp only [Act.put]
      try simp only [List.setIfInBounds_toArray]
      try simp only [List.set_cons_succ]
      try simp only [List.set_cons_zero]
      refine wpAnyH_take (i := 4) (v := ?_) rfl (by kernel_rfl) (by kernel_rfl) (by kernel_rfl) (fun _ _ _ h => h) (Or.inl ⟨by kernel_rfl, fun W hSW => by go_simp; try with_reducible rfl⟩) (by assumption) ?_
      try simp only [List.getElem_toArray]
      try simp only [List.getElem_cons_succ]
      try simp only [List.getElem_cons_zero]
      try simp only [Act.put]
      try simp only [List.setIfInBounds_toArray]
      try simp only [List.set_cons_succ]
      try simp only [List.set_cons_zero]
      refine wpAnyH_take (i := 5) (v := ?_) rfl (by kernel_rfl) (by kernel_rfl) (by kernel_rfl) (fun _ _ _ h => h) (Or.inl ⟨by kernel_rfl, fun W hSW => by go_simp; try with_reducible rfl⟩) (by assumption) ?_
      try simp only [List.getElem_toArray]
      try simp only [List.getElem_cons_succ]
      try simp only [List.getElem_cons_zero]
      try simp only [Act.put]
      try simp only [List.setIfInBounds_toArray]
      try simp only [List.set_cons_succ]
      try simp only [List.set_cons_zero]
      refine wpAnyH_take (i := 6) (v := ?_) rfl (by kernel_rfl) (by kernel_rfl) (by kernel_rfl) (fun _ _ _ h => h) (Or.inl ⟨by kernel_rfl, fun W hSW => by go_simp; try with_reducible rfl⟩) (by assumption) ?_
      try simp only [List.getElem_toArray]
      try simp only [List.getElem_cons_succ]
      try simp only [List.getElem_cons_zero]
      try simp only [Act.put]
      try simp only [List.setIfInBounds_toArray]
      try simp only [List.set_cons_succ]
      try simp only [List.set_cons_zero]
      refine wpAnyH_take (i := 7) (v := .agg cs.toArray) rfl (by kernel_rfl) (by kernel_rfl) (by kernel_rfl) (fun _ _ _ h => h) (yieldsIf_load_mid (by kernel_rfl) 59 (.tmp 23) rfl g2 (j * 5) rfl cs _ d2 Tryz.underlying59 rfl hsz) (by assumption) ?_
      try simp only [List.getElem_toArray]
      try simp only [List.getElem_cons_succ]
      try simp only [List.getElem_cons_zero]
      try simp only [Act.put]
      try simp only [List.setIfInBounds_toArray]
      try simp only [List.set_cons_succ]
      try simp only [List.set_cons_zero]
      refine wpAnyH_take (i := 8) (v := .bool true) rfl (by kernel_rfl) (by kernel_rfl) (by kernel_rfl) (fun _ _ _ h => h) (Or.inl ⟨by kernel_rfl, fun W _ => execOp_eqlB Tryz.eqGuardType59 rfl rfl rfl (heq W)⟩) (by assumption) ?_
      try simp only [List.getElem_toArray]
      try simp only [List.getElem_cons_succ]
      try simp only [List.getElem_cons_zero]
      try simp only [Act.put]
      try simp only [List.setIfInBounds_toArray]
      try simp only [List.set_cons_succ]
      try simp only [List.set_cons_zero]
      refine wpAnyH_take (i := 9) (v := ?_) rfl (by kernel_rfl) (by kernel_rfl) (by kernel_rfl) (fun _ _ _ h => h) (Or.inl ⟨by kernel_rfl, fun W hSW => by go_simp; try with_reducible rfl⟩) (by assumption) ?_
      try simp only [List.getElem_toArray]
      try simp only [List.getElem_cons_succ]
      try simp only [List.getElem_cons_zero]
      try simp only [Act.put]
      try simp only [List.setIfInBounds_toArray]
      try simp only [List.set_cons_succ]
      try simp only [List.set_cons_zero]
      refine wpAnyH_done (by kernel_rfl) ?_ _
      go_wp2
      exact ⟨⟨j + 1, hlt, by go_num, HI.out.drew⟩, by simp [intOf]; omega⟩
    · obtain rfl : j = l.length := by omega
      have hltz : ¬ (l.length : Int) < (l.length : Int) := by omega
      go_wp2
      go_ret
      exact ⟨rfl, HI.out⟩
end Go.Proofs.YtnghakhgogfemaaGreatDoor.BAvps
