/- The contracts of the document's own conf, number, Value, Find and SameOptions (tollgateref9). · '!=' of two structs or arrays in a region that draws (no function named). · The contracts of ipcp's Address, and of the document's own Address and Good. · The contracts of the laws' Light and alive. -/
import Derived.Test.YtcmdfcdmfdheeaaOpRow
import Derived.Test.YtcmdfcdmfdheeaaPlEq
import Derived.Test.YtcmdfcdmfdheeaaIpIn
namespace Go.Proofs.Ytcmdfcdmfdheeaa
open Go.RowKit

set_option maxHeartbeats 2000000 in
set_option maxRecDepth 100000 in
theorem rFind_any (v : Value) (l : List Tg) (kind : Int) (w : World) (hv : TagsAt w v l) (hl : l.length ≤ 1000000) :
    Calls Try.prog 22 #[v, .int .i64 kind] w fun e w' => e = .returned (.tuple #[.string (findOB l kind), .bool (findO l kind).isSome]) ∧ Kept (fun _ => False) w w' := by
  obtain ⟨p, cap, rfl⟩ := hv.slice
  have Hat : Hid (∀ (j : Nat) (x : Tg), l[j]? = some x → ∀ W, Kept (fun _ => False) w W → ∃ g o, p = some ⟨g, o, none⟩ ∧ l.length ≤ cap ∧ W.cell? ⟨g, o + j * 2, none⟩ = some (.int .i64 x.type) ∧ W.cell? ⟨g, o + j * 2 + 1, none⟩ = some (.string x.value)) :=
    fun j x hj W hW => (hv.kept0 hW).at hj
  clear hv
  go_enter Try.func22, Try.ntmps22
  go_wp2
  go_loopw [6] (fun vi wr => ∃ j : Nat, j ≤ l.length ∧ vi = .int .i64 (j : Int) ∧ Hid ((l.take j).find? (fun t => t.type == kind) = none ∧ Kept (fun _ => False) w wr)) (fun vi _ => l.length - (intOf vi).toNat)
  case atStart => exact ⟨0, Nat.zero_le _, rfl, rfl, Kept.refl _ _⟩
  case round =>
    obtain ⟨j, hj, rfl, HI⟩ := hrel
    by_cases hlt : j < l.length
    · have hltz : (j : Int) < (l.length : Int) := by omega
      obtain ⟨x, hx⟩ : ∃ x, l[j]? = some x := ⟨l[j], by simp [hlt]⟩
      obtain ⟨g, o, rfl, hcap, c0, c1⟩ := Hat.out j x hx wr HI.out.2
      have HK := hid HI.out.2
      cases hty : (x.type == kind) with
      | true =>
        have hF := find_hit HI.out.1 hx hty
        have HF : Hid (findOB l kind = x.value ∧ (findO l kind).isSome = true) := by
          show _ ∧ _
          unfold findOB findO
          rw [hF]
          exact ⟨rfl, rfl⟩
        clear hF hx HI
        generalize x.type = T at *
        generalize x.value = V at *
        go_wp2
        go_ret2
        exact ⟨by rw [HF.out.1, HF.out.2]; rfl, HK.out⟩
      | false =>
        have HF := hid (find_on HI.out.1 hx hty)
        clear hx HI
        generalize x.type = T at *
        generalize x.value = V at *
        go_wp2
        exact ⟨⟨j + 1, hlt, by go_num, HF.out, HK.out⟩, by simp [intOf]; omega⟩
    · obtain rfl : j = l.length := by omega
      obtain ⟨hF, hk⟩ := HI.out
      rw [List.take_length] at hF
      have HF : Hid (findOB l kind = ⟨#[]⟩ ∧ (findO l kind).isSome = false) := by
        show _ ∧ _
        unfold findOB findO
        rw [hF]
        exact ⟨rfl, rfl⟩
      clear hF HI hlt
      go_wp2
      go_ret2
      exact ⟨by rw [HF.out.1, HF.out.2]; rfl, hk⟩

end Go.Proofs.Ytcmdfcdmfdheeaa

namespace Go.Proofs.Ytcmdfcdmfdheeaa
open Go.RowKit

theorem execOp_neq {P : Program} {f : Operand → Value} {o : Oper} {t t' : TypeId} {x y : Nat} {A A' : Array Value} {B : Bool} {W : World} (hm : P.eqGuardType P.depth t = false) (ho : o.op = Op.binOp .neq t (.tmp x) (.tmp y) t') (hx : f (.tmp x) = .agg A) (hy : f (.tmp y) = .agg A') (h : (Op.equalIn 10000 t (.agg A) (.agg A')).run P W = .ok B W) : Sem.run P (execOp f o) W = .ok (Next.value (.bool (!B))) W := by
  unfold execOp
  simp only [ho, hx, hy, binOp]
  simp [go_sem, hm, Op.equal, Op.maxDepth, h]
end Go.Proofs.Ytcmdfcdmfdheeaa

namespace Go.Proofs.Ytcmdfcdmfdheeaa
open Go.RowKit

/-- Four bytes as an address. -/
def adOf (s : ByteArray) : Ad := ⟨s.data.toList.getD 0 0, s.data.toList.getD 1 0, s.data.toList.getD 2 0, s.data.toList.getD 3 0⟩
theorem adOf_adB (x : Ad) : adOf (adB x) = x := rfl
def adrF (l : List Tg) (k : Int) : Ad × Bool := if (findOB l k).size = 4 then (adOf (findOB l k), true) else (ad0, false)

set_option maxHeartbeats 4000000 in
set_option maxRecDepth 100000 in
theorem iaddress_any (v : Value) (l : List Tg) (kind : Int) (w : World) (hv : TagsAt w v l) (hl : l.length ≤ 1000000) (hsz : ∀ x ∈ l, x.value.size ≤ 140737488351232) :
    Calls Try.prog 9 #[v, .int .i64 kind] w fun e w' => e = .returned (.tuple #[adV (adrF l kind).1, .bool (adrF l kind).2]) ∧ Kept (fun _ => False) w w' := by
  obtain ⟨p, cap, rfl⟩ := hv.slice
  have k0 := (Kept.refl (fun _ => False) w).alloc (.cells #[.int .u8 0, .int .u8 0, .int .u8 0, .int .u8 0] 24)
  have HO := hid (four4_new w 24 (.int .u8 0) (.int .u8 0) (.int .u8 0) (.int .u8 0))
  have HF := hid (findOpt_any (.slice p l.length cap) l kind _ (hv.kept0 k0) hl hsz)
  have HK0 := hid k0
  clear k0
  unfold adrF adV
  by_cases h4 : (findOB l kind).size = 4
  · rw [if_pos h4]
    have hsome : (findO l kind).isSome = true := by
      cases hq : findO l kind with
      | some b => rfl
      | none => unfold findOB at h4; rw [hq] at h4; cases h4
    rw [hsome] at HF
    have i0 := index_at (findOB l kind) 0 (by omega) 0 rfl
    have i1 := index_at (findOB l kind) 1 (by omega) 1 rfl
    have i2 := index_at (findOB l kind) 2 (by omega) 2 rfl
    have i3 := index_at (findOB l kind) 3 (by omega) 3 rfl
    unfold adOf
    simp only
    generalize hS : findOB l kind = S at *
    have h4z : ((S.size : Int) != 4) = false := by rw [h4]; rfl
    obtain ⟨b0, hb0⟩ : ∃ b0, b0 = S.data.toList.getD 0 0 := ⟨_, rfl⟩
    obtain ⟨b1, hb1⟩ : ∃ b1, b1 = S.data.toList.getD 1 0 := ⟨_, rfl⟩
    obtain ⟨b2, hb2⟩ : ∃ b2, b2 = S.data.toList.getD 2 0 := ⟨_, rfl⟩
    obtain ⟨b3, hb3⟩ : ∃ b3, b3 = S.data.toList.getD 3 0 := ⟨_, rfl⟩
    rw [← hb0] at i0 ⊢
    rw [← hb1] at i1 ⊢
    rw [← hb2] at i2 ⊢
    rw [← hb3] at i3 ⊢
    clear hsome hb0 hb1 hb2 hb3 hS h4 hv hsz
    go_enter Try.func9, Try.ntmps9
    go_wp2_with fail
    refine HF.out.mono ?_
    rintro e w1 ⟨rfl, hk1⟩
    obtain ⟨⟨o0, o1, o2, o3⟩, of⟩ := HO.out.kept hk1 id
    have f0 := of 0
    have f1 := of 1
    have f2 := of 2
    have f3 := of 3
    have KF := hid (HK0.out.trans hk1)
    clear hk1 of
    go_wp2_with fail
    go_upto_region 4 with fail
    refine wp_region_held_drew (S := (fun _ => True)) (by kernel_rfl) (trivial) (fun hSd => ?_)
    refine wpAnyH_take (i := 0) (v := ?_) rfl (by kernel_rfl) (by kernel_rfl) (by kernel_rfl) (fun _ _ _ h => h) (Or.inl ⟨by kernel_rfl, fun W hSW => by go_simp; try with_reducible rfl⟩) (by assumption) ?_
    try simp only [List.getElem_toArray]
    try simp only [List.getElem_cons_succ]
    try simp only [List.getElem_cons_zero]
    try simp only [Act.put]
    try simp only [List.setIfInBounds_toArray]
    try simp only [List.set_cons_succ]
    try simp only [List.set_cons_zero]
    refine wpAnyH_take (i := 1) (v := ?_) rfl (by kernel_rfl) (by kernel_rfl) (by kernel_rfl) (fun _ _ _ h => h) (Or.inl ⟨by kernel_rfl, fun W hSW => by go_simp; try with_reducible rfl⟩) (by assumption) ?_
    try simp only [List.getElem_toArray]
    try simp only [List.getElem_cons_succ]
    try simp only [List.getElem_cons_zero]
    try simp only [Act.put]
    try simp only [List.setIfInBounds_toArray]
    try simp only [List.set_cons_succ]
    try simp only [List.set_cons_zero]
    refine wpAnyH_take (i := 2) (v := ?_) rfl (by kernel_rfl) (by kernel_rfl) (by kernel_rfl) (fun _ _ _ h => h) (Or.inl ⟨by kernel_rfl, fun W hSW => by go_simp; try with_reducible rfl⟩) (by assumption) ?_
    try simp only [List.getElem_toArray]
    try simp only [List.getElem_cons_succ]
    try simp only [List.getElem_cons_zero]
    try simp only [Act.put]
    try simp only [List.setIfInBounds_toArray]
    try simp only [List.set_cons_succ]
    try simp only [List.set_cons_zero]
    refine wpAnyH_take (i := 3) (v := ?_) rfl (by kernel_rfl) (by kernel_rfl) (by kernel_rfl) (fun _ _ _ h => h) (Or.inl ⟨by kernel_rfl, fun W hSW => by go_simp; try with_reducible rfl⟩) (by assumption) ?_
    try simp only [List.getElem_toArray]
    try simp only [List.getElem_cons_succ]
    try simp only [List.getElem_cons_zero]
    try simp only [Act.put]
    try simp only [List.setIfInBounds_toArray]
    try simp only [List.set_cons_succ]
    try simp only [List.set_cons_zero]
    refine wpAnyH_take (i := 4) (v := ?_) rfl (by kernel_rfl) (by kernel_rfl) (by kernel_rfl) (fun _ _ _ h => h) (Or.inl ⟨by kernel_rfl, fun W hSW => by go_simp; try with_reducible rfl⟩) (by assumption) ?_
    try simp only [List.getElem_toArray]
    try simp only [List.getElem_cons_succ]
    try simp only [List.getElem_cons_zero]
    try simp only [Act.put]
    try simp only [List.setIfInBounds_toArray]
    try simp only [List.set_cons_succ]
    try simp only [List.set_cons_zero]
    refine wpAnyH_take (i := 5) (v := ?_) rfl (by kernel_rfl) (by kernel_rfl) (by kernel_rfl) (fun _ _ _ h => h) (Or.inl ⟨by kernel_rfl, fun W hSW => by go_simp; try with_reducible rfl⟩) (by assumption) ?_
    try simp only [List.getElem_toArray]
    try simp only [List.getElem_cons_succ]
    try simp only [List.getElem_cons_zero]
    try simp only [Act.put]
    try simp only [List.setIfInBounds_toArray]
    try simp only [List.set_cons_succ]
    try simp only [List.set_cons_zero]
    refine wpAnyH_take (i := 6) (v := ?_) rfl (by kernel_rfl) (by kernel_rfl) (by kernel_rfl) (fun _ _ _ h => h) (Or.inl ⟨by kernel_rfl, fun W hSW => by go_simp; try with_reducible rfl⟩) (by assumption) ?_
    try simp only [List.getElem_toArray]
    try simp only [List.getElem_cons_succ]
    try simp only [List.getElem_cons_zero]
    try simp only [Act.put]
    try simp only [List.setIfInBounds_toArray]
    try simp only [List.set_cons_succ]
    try simp only [List.set_cons_zero]
    refine wpAnyH_take (i := 7) (v := ?_) rfl (by kernel_rfl) (by kernel_rfl) (by kernel_rfl) (fun _ _ _ h => h) (Or.inl ⟨by kernel_rfl, fun W hSW => by go_simp; try with_reducible rfl⟩) (by assumption) ?_
    try simp only [List.getElem_toArray]
    try simp only [List.getElem_cons_succ]
    try simp only [List.getElem_cons_zero]
    try simp only [Act.put]
    try simp only [List.setIfInBounds_toArray]
    try simp only [List.set_cons_succ]
    try simp only [List.set_cons_zero]
    refine wpAnyH_take (i := 8) (v := ?_) rfl (by kernel_rfl) (by kernel_rfl) (by kernel_rfl) (fun _ _ _ h => h) (Or.inl ⟨by kernel_rfl, fun W hSW => by go_simp; try with_reducible rfl⟩) (by assumption) ?_
    try simp only [List.getElem_toArray]
    try simp only [List.getElem_cons_succ]
    try simp only [List.getElem_cons_zero]
    try simp only [Act.put]
    try simp only [List.setIfInBounds_toArray]
    try simp only [List.set_cons_succ]
    try simp only [List.set_cons_zero]
    refine wpAnyH_ready (rs := [9]) (by kernel_rfl) (by simp) ?_
    refine AllReadyH.cons rfl (fun K hK => ?_) AllReadyH.nil
    go_simp
    refine hK.out _ _ (trivial) (fun _ => ?_)
    clear hK K
    try simp only [List.getElem_toArray]
    try simp only [List.getElem_cons_succ]
    try simp only [List.getElem_cons_zero]
    try simp only [Act.put]
    try simp only [List.setIfInBounds_toArray]
    try simp only [List.set_cons_succ]
    try simp only [List.set_cons_zero]
    refine wpAnyH_take (i := 10) (v := ?_) rfl (by kernel_rfl) (by kernel_rfl) (by kernel_rfl) (fun _ _ _ h => h) (Or.inl ⟨by kernel_rfl, fun W hSW => by go_simp; try with_reducible rfl⟩) (by assumption) ?_
    try simp only [List.getElem_toArray]
    try simp only [List.getElem_cons_succ]
    try simp only [List.getElem_cons_zero]
    try simp only [Act.put]
    try simp only [List.setIfInBounds_toArray]
    try simp only [List.set_cons_succ]
    try simp only [List.set_cons_zero]
    refine wpAnyH_done (by kernel_rfl) ?_ _
    go_wp2
    refine bodyPost_ret (v := .tuple #[.agg #[.int .u8 (b0.toNat : Int), .int .u8 (b1.toNat : Int), .int .u8 (b2.toNat : Int), .int .u8 (b3.toNat : Int)], .bool true]) (by simp [results, Try.results9, go_sem, o0, o1, o2, o3]) rfl ⟨rfl, ?_⟩
    exact (((((KF.out.drew).setCell (Or.inl (Nat.le_refl _)) _).setCell (Or.inl (Nat.le_refl _)) _).setCell (Or.inl (Nat.le_refl _)) _).setCell (Or.inl (Nat.le_refl _)) _)
  · rw [if_neg h4]
    generalize findOB l kind = S at *
    have h4z : ((S.size : Int) != 4) = true := by simp; omega
    clear h4 hv hsz
    generalize (findO l kind).isSome = Q at *
    go_enter Try.func9, Try.ntmps9
    go_wp2_with fail
    refine HF.out.mono ?_
    rintro e w1 ⟨rfl, hk1⟩
    obtain ⟨⟨o0, o1, o2, o3⟩, of⟩ := HO.out.kept hk1 id
    have f0 := of 0
    have f1 := of 1
    have f2 := of 2
    have f3 := of 3
    have KF := hid (HK0.out.trans hk1)
    clear hk1 of
    go_wp2_with fail
    refine bodyPost_ret (v := .tuple #[.agg #[.int .u8 0, .int .u8 0, .int .u8 0, .int .u8 0], .bool false]) (by simp [results, Try.results9, go_sem, o0, o1, o2, o3]) rfl ⟨rfl, ?_⟩
    exact ((((KF.out.setCell (Or.inl (Nat.le_refl _)) _).setCell (Or.inl (Nat.le_refl _)) _).setCell (Or.inl (Nat.le_refl _)) _).setCell (Or.inl (Nat.le_refl _)) _)

set_option maxHeartbeats 4000000 in
set_option maxRecDepth 100000 in
theorem raddress_any (v : Value) (l : List Tg) (kind : Int) (w : World) (hv : TagsAt w v l) (hl : l.length ≤ 1000000) :
    Calls Try.prog 10 #[v, .int .i64 kind] w fun e w' => e = .returned (.tuple #[adV (adrF l kind).1, .bool (adrF l kind).2]) ∧ Kept (fun _ => False) w w' := by
  obtain ⟨p, cap, rfl⟩ := hv.slice
  have k0 := (Kept.refl (fun _ => False) w).alloc (.cells #[.int .u8 0, .int .u8 0, .int .u8 0, .int .u8 0] 24)
  have HO := hid (four4_new w 24 (.int .u8 0) (.int .u8 0) (.int .u8 0) (.int .u8 0))
  have HF := hid (rFind_any (.slice p l.length cap) l kind _ (hv.kept0 k0) hl)
  have HK0 := hid k0
  clear k0
  unfold adrF adV
  by_cases h4 : (findOB l kind).size = 4
  · rw [if_pos h4]
    have hsome : (findO l kind).isSome = true := by
      cases hq : findO l kind with
      | some b => rfl
      | none => unfold findOB at h4; rw [hq] at h4; cases h4
    rw [hsome] at HF
    have i0 := index_at (findOB l kind) 0 (by omega) 0 rfl
    have i1 := index_at (findOB l kind) 1 (by omega) 1 rfl
    have i2 := index_at (findOB l kind) 2 (by omega) 2 rfl
    have i3 := index_at (findOB l kind) 3 (by omega) 3 rfl
    unfold adOf
    simp only
    generalize hS : findOB l kind = S at *
    have h4z : ((S.size : Int) != 4) = false := by rw [h4]; rfl
    obtain ⟨b0, hb0⟩ : ∃ b0, b0 = S.data.toList.getD 0 0 := ⟨_, rfl⟩
    obtain ⟨b1, hb1⟩ : ∃ b1, b1 = S.data.toList.getD 1 0 := ⟨_, rfl⟩
    obtain ⟨b2, hb2⟩ : ∃ b2, b2 = S.data.toList.getD 2 0 := ⟨_, rfl⟩
    obtain ⟨b3, hb3⟩ : ∃ b3, b3 = S.data.toList.getD 3 0 := ⟨_, rfl⟩
    rw [← hb0] at i0 ⊢
    rw [← hb1] at i1 ⊢
    rw [← hb2] at i2 ⊢
    rw [← hb3] at i3 ⊢
    clear hsome hb0 hb1 hb2 hb3 hS h4 hv
    go_enter Try.func10, Try.ntmps10
    go_wp2_with fail
    refine HF.out.mono ?_
    rintro e w1 ⟨rfl, hk1⟩
    obtain ⟨⟨o0, o1, o2, o3⟩, of⟩ := HO.out.kept hk1 id
    have f0 := of 0
    have f1 := of 1
    have f2 := of 2
    have f3 := of 3
    have KF := hid (HK0.out.trans hk1)
    clear hk1 of
    go_wp2_with fail
    go_upto_region 4 with fail
    refine wp_region_held_drew (S := (fun _ => True)) (by kernel_rfl) (trivial) (fun hSd => ?_)
    refine wpAnyH_take (i := 0) (v := ?_) rfl (by kernel_rfl) (by kernel_rfl) (by kernel_rfl) (fun _ _ _ h => h) (Or.inl ⟨by kernel_rfl, fun W hSW => by go_simp; try with_reducible rfl⟩) (by assumption) ?_
    try simp only [List.getElem_toArray]
    try simp only [List.getElem_cons_succ]
    try simp only [List.getElem_cons_zero]
    try simp only [Act.put]
    try simp only [List.setIfInBounds_toArray]
    try simp only [List.set_cons_succ]
    try simp only [List.set_cons_zero]
    refine wpAnyH_take (i := 1) (v := ?_) rfl (by kernel_rfl) (by kernel_rfl) (by kernel_rfl) (fun _ _ _ h => h) (Or.inl ⟨by kernel_rfl, fun W hSW => by go_simp; try with_reducible rfl⟩) (by assumption) ?_
    try simp only [List.getElem_toArray]
    try simp only [List.getElem_cons_succ]
    try simp only [List.getElem_cons_zero]
    try simp only [Act.put]
    try simp only [List.setIfInBounds_toArray]
    try simp only [List.set_cons_succ]
    try simp only [List.set_cons_zero]
    refine wpAnyH_take (i := 2) (v := ?_) rfl (by kernel_rfl) (by kernel_rfl) (by kernel_rfl) (fun _ _ _ h => h) (Or.inl ⟨by kernel_rfl, fun W hSW => by go_simp; try with_reducible rfl⟩) (by assumption) ?_
    try simp only [List.getElem_toArray]
    try simp only [List.getElem_cons_succ]
    try simp only [List.getElem_cons_zero]
    try simp only [Act.put]
    try simp only [List.setIfInBounds_toArray]
    try simp only [List.set_cons_succ]
    try simp only [List.set_cons_zero]
    refine wpAnyH_take (i := 3) (v := ?_) rfl (by kernel_rfl) (by kernel_rfl) (by kernel_rfl) (fun _ _ _ h => h) (Or.inl ⟨by kernel_rfl, fun W hSW => by go_simp; try with_reducible rfl⟩) (by assumption) ?_
    try simp only [List.getElem_toArray]
    try simp only [List.getElem_cons_succ]
    try simp only [List.getElem_cons_zero]
    try simp only [Act.put]
    try simp only [List.setIfInBounds_toArray]
    try simp only [List.set_cons_succ]
    try simp only [List.set_cons_zero]
    refine wpAnyH_take (i := 4) (v := ?_) rfl (by kernel_rfl) (by kernel_rfl) (by kernel_rfl) (fun _ _ _ h => h) (Or.inl ⟨by kernel_rfl, fun W hSW => by go_simp; try with_reducible rfl⟩) (by assumption) ?_
    try simp only [List.getElem_toArray]
    try simp only [List.getElem_cons_succ]
    try simp only [List.getElem_cons_zero]
    try simp only [Act.put]
    try simp only [List.setIfInBounds_toArray]
    try simp only [List.set_cons_succ]
    try simp only [List.set_cons_zero]
    refine wpAnyH_take (i := 5) (v := ?_) rfl (by kernel_rfl) (by kernel_rfl) (by kernel_rfl) (fun _ _ _ h => h) (Or.inl ⟨by kernel_rfl, fun W hSW => by go_simp; try with_reducible rfl⟩) (by assumption) ?_
    try simp only [List.getElem_toArray]
    try simp only [List.getElem_cons_succ]
    try simp only [List.getElem_cons_zero]
    try simp only [Act.put]
    try simp only [List.setIfInBounds_toArray]
    try simp only [List.set_cons_succ]
    try simp only [List.set_cons_zero]
    refine wpAnyH_take (i := 6) (v := ?_) rfl (by kernel_rfl) (by kernel_rfl) (by kernel_rfl) (fun _ _ _ h => h) (Or.inl ⟨by kernel_rfl, fun W hSW => by go_simp; try with_reducible rfl⟩) (by assumption) ?_
    try simp only [List.getElem_toArray]
    try simp only [List.getElem_cons_succ]
    try simp only [List.getElem_cons_zero]
    try simp only [Act.put]
    try simp only [List.setIfInBounds_toArray]
    try simp only [List.set_cons_succ]
    try simp only [List.set_cons_zero]
    refine wpAnyH_take (i := 7) (v := ?_) rfl (by kernel_rfl) (by kernel_rfl) (by kernel_rfl) (fun _ _ _ h => h) (Or.inl ⟨by kernel_rfl, fun W hSW => by go_simp; try with_reducible rfl⟩) (by assumption) ?_
    try simp only [List.getElem_toArray]
    try simp only [List.getElem_cons_succ]
    try simp only [List.getElem_cons_zero]
    try simp only [Act.put]
    try simp only [List.setIfInBounds_toArray]
    try simp only [List.set_cons_succ]
    try simp only [List.set_cons_zero]
    refine wpAnyH_take (i := 8) (v := ?_) rfl (by kernel_rfl) (by kernel_rfl) (by kernel_rfl) (fun _ _ _ h => h) (Or.inl ⟨by kernel_rfl, fun W hSW => by go_simp; try with_reducible rfl⟩) (by assumption) ?_
    try simp only [List.getElem_toArray]
    try simp only [List.getElem_cons_succ]
    try simp only [List.getElem_cons_zero]
    try simp only [Act.put]
    try simp only [List.setIfInBounds_toArray]
    try simp only [List.set_cons_succ]
    try simp only [List.set_cons_zero]
    refine wpAnyH_ready (rs := [9]) (by kernel_rfl) (by simp) ?_
    refine AllReadyH.cons rfl (fun K hK => ?_) AllReadyH.nil
    go_simp
    refine hK.out _ _ (trivial) (fun _ => ?_)
    clear hK K
    try simp only [List.getElem_toArray]
    try simp only [List.getElem_cons_succ]
    try simp only [List.getElem_cons_zero]
    try simp only [Act.put]
    try simp only [List.setIfInBounds_toArray]
    try simp only [List.set_cons_succ]
    try simp only [List.set_cons_zero]
    refine wpAnyH_take (i := 10) (v := ?_) rfl (by kernel_rfl) (by kernel_rfl) (by kernel_rfl) (fun _ _ _ h => h) (Or.inl ⟨by kernel_rfl, fun W hSW => by go_simp; try with_reducible rfl⟩) (by assumption) ?_
    try simp only [List.getElem_toArray]
    try simp only [List.getElem_cons_succ]
    try simp only [List.getElem_cons_zero]
    try simp only [Act.put]
    try simp only [List.setIfInBounds_toArray]
    try simp only [List.set_cons_succ]
    try simp only [List.set_cons_zero]
    refine wpAnyH_done (by kernel_rfl) ?_ _
    go_wp2
    refine bodyPost_ret (v := .tuple #[.agg #[.int .u8 (b0.toNat : Int), .int .u8 (b1.toNat : Int), .int .u8 (b2.toNat : Int), .int .u8 (b3.toNat : Int)], .bool true]) (by simp [results, Try.results10, go_sem, o0, o1, o2, o3]) rfl ⟨rfl, ?_⟩
    exact (((((KF.out.drew).setCell (Or.inl (Nat.le_refl _)) _).setCell (Or.inl (Nat.le_refl _)) _).setCell (Or.inl (Nat.le_refl _)) _).setCell (Or.inl (Nat.le_refl _)) _)
  · rw [if_neg h4]
    generalize findOB l kind = S at *
    have h4z : ((S.size : Int) != 4) = true := by simp; omega
    clear h4 hv
    generalize (findO l kind).isSome = Q at *
    cases Q with
    | false =>
      go_enter Try.func10, Try.ntmps10
      go_wp2_with fail
      refine HF.out.mono ?_
      rintro e w1 ⟨rfl, hk1⟩
      obtain ⟨⟨o0, o1, o2, o3⟩, of⟩ := HO.out.kept hk1 id
      have f0 := of 0
      have f1 := of 1
      have f2 := of 2
      have f3 := of 3
      have KF := hid (HK0.out.trans hk1)
      clear hk1 of
      go_wp2_with fail
      refine bodyPost_ret (v := .tuple #[.agg #[.int .u8 0, .int .u8 0, .int .u8 0, .int .u8 0], .bool false]) (by simp [results, Try.results10, go_sem, o0, o1, o2, o3]) rfl ⟨rfl, ?_⟩
      exact ((((KF.out.setCell (Or.inl (Nat.le_refl _)) _).setCell (Or.inl (Nat.le_refl _)) _).setCell (Or.inl (Nat.le_refl _)) _).setCell (Or.inl (Nat.le_refl _)) _)
    | true =>
      go_enter Try.func10, Try.ntmps10
      go_wp2_with fail
      refine HF.out.mono ?_
      rintro e w1 ⟨rfl, hk1⟩
      obtain ⟨⟨o0, o1, o2, o3⟩, of⟩ := HO.out.kept hk1 id
      have f0 := of 0
      have f1 := of 1
      have f2 := of 2
      have f3 := of 3
      have KF := hid (HK0.out.trans hk1)
      clear hk1 of
      go_wp2_with fail
      refine bodyPost_ret (v := .tuple #[.agg #[.int .u8 0, .int .u8 0, .int .u8 0, .int .u8 0], .bool false]) (by simp [results, Try.results10, go_sem, o0, o1, o2, o3]) rfl ⟨rfl, ?_⟩
      exact ((((KF.out.setCell (Or.inl (Nat.le_refl _)) _).setCell (Or.inl (Nat.le_refl _)) _).setCell (Or.inl (Nat.le_refl _)) _).setCell (Or.inl (Nat.le_refl _)) _)
theorem wp_neq {P : Program} {o : Oper} {a : Act} {t t' : TypeId} {x y : Nat} {A A' : Array Value} {B : Bool} {w : World} {K : Act → World → Prop} {Q : Exit → Act → World → Prop} (hm : P.eqGuardType P.depth t = false) (ho : o.op = Op.binOp .neq t (.tmp x) (.tmp y) t') (hx : a.eval (.tmp x) = .agg A) (hy : a.eval (.tmp y) = .agg A') (h : (Op.equalIn 10000 t (.agg A) (.agg A')).run P w = .ok B w) (hk : K (a.put o.dst (.bool (!B))) w) : Oper.wp P o a w K Q := by
  unfold Oper.wp
  rw [execOp_neq (f := a.eval) hm ho hx hy h]
  exact hk
theorem wpList_neq_wanted {P : Program} {ops : Array Oper} {rest : List Oper} {o : Oper} {a : Act} {t t' : TypeId} {x y : Nat} {A A' : Array Value} {B : Bool} {w : World} {Q : Exit → Act → World → Prop} (hw : Region.wanted o (yielded ops a.tmps) = true) (hm : P.eqGuardType P.depth t = false) (ho : o.op = Op.binOp .neq t (.tmp x) (.tmp y) t') (hx : a.eval (.tmp x) = .agg A) (hy : a.eval (.tmp y) = .agg A') (h : (Op.equalIn 10000 t (.agg A) (.agg A')).run P w = .ok B w) (hk : wpList P ops Q rest (a.put o.dst (.bool (!B))) w) : wpList P ops Q (o :: rest) a w := by
  unfold wpList
  rw [if_pos hw]
  exact .inl (wp_neq hm ho hx hy h hk)

set_option maxHeartbeats 1000000 in
set_option maxRecDepth 100000 in
theorem rgood_any (x y : Ad) (w : World) : Calls Try.prog 12 #[adV x, adV y] w fun e w' => e = .returned (.bool (goodF x y)) ∧ Kept (fun _ => False) w w' := by
  have k0 := (Kept.refl (fun _ => False) w).alloc (.cells #[.int .u8 (x.a.toNat : Int), .int .u8 (x.b.toNat : Int), .int .u8 (x.c.toNat : Int), .int .u8 (x.d.toNat : Int)] 24)
  have k1 := (Kept.refl (fun _ => False) (w.alloc (.cells #[.int .u8 (x.a.toNat : Int), .int .u8 (x.b.toNat : Int), .int .u8 (x.c.toNat : Int), .int .u8 (x.d.toNat : Int)] 24))).alloc (.cells #[.int .u8 (y.a.toNat : Int), .int .u8 (y.b.toNat : Int), .int .u8 (y.c.toNat : Int), .int .u8 (y.d.toNat : Int)] 24)
  have hX := (four4_new w 24 (.int .u8 (x.a.toNat : Int)) (.int .u8 (x.b.toNat : Int)) (.int .u8 (x.c.toNat : Int)) (.int .u8 (x.d.toNat : Int))).kept k1 id
  have hY := four4_new (w.alloc (.cells #[.int .u8 (x.a.toNat : Int), .int .u8 (x.b.toNat : Int), .int .u8 (x.c.toNat : Int), .int .u8 (x.d.toNat : Int)] 24)) 24 (.int .u8 (y.a.toNat : Int)) (.int .u8 (y.b.toNat : Int)) (.int .u8 (y.c.toNat : Int)) (.int .u8 (y.d.toNat : Int))
  have hsz : (w.alloc (.cells #[.int .u8 (x.a.toNat : Int), .int .u8 (x.b.toNat : Int), .int .u8 (x.c.toNat : Int), .int .u8 (x.d.toNat : Int)] 24)).heap.size = w.heap.size + 1 := by simp
  rw [hsz] at hY
  have hE := ad_eq x y
  have hN := ad_eq x ad0
  rw [show decide (numAd x = numAd ad0) = noB x from rfl, show adV ad0 = .agg #[.int .u8 0, .int .u8 0, .int .u8 0, .int .u8 0] from rfl] at hN
  have KA := hid (k0.trans k1)
  unfold adV at hE hN ⊢
  obtain ⟨⟨x0, x1, x2, x3⟩, _⟩ := hX
  obtain ⟨⟨y0, y1, y2, y3⟩, _⟩ := hY
  unfold goodF
  generalize decide (numAd x = numAd y) = B at *
  generalize noB x = C at *
  clear k0 k1
  cases B with
  | false =>
    go_enter Try.func12, Try.ntmps12
    go_upto_region 1 with fail
    iterate 8 go_step
    refine wp_eql (by kernel_rfl) rfl (by rfl) (by rfl) (hE _) ?_
    clear hE hN
    go_wp2_with fail
    go_ret
    exact ⟨rfl, KA.out⟩
  | true =>
    go_enter Try.func12, Try.ntmps12
    go_upto_region 1 with fail
    iterate 8 go_step
    refine wp_eql (by kernel_rfl) rfl (by rfl) (by rfl) (hE _) ?_
    clear hE
    have HN := hid hN
    clear hN
    iterate 8 go_step
    refine wpList_neq_wanted (by kernel_rfl) (by kernel_rfl) rfl (by rfl) (by rfl) (HN.out _) ?_
    go_wp2
    go_ret
    exact ⟨by cases C <;> rfl, KA.out⟩
end Go.Proofs.Ytcmdfcdmfdheeaa

namespace Go.Proofs.Ytcmdfcdmfdheeaa
open Go.RowKit

/-- Few and short options. -/
def lightO (l : List Tg) : Bool := (l.take 60).all (fun t => decide (t.value.size ≤ 400)) && decide (l.length ≤ 50)
theorem lightO_true {l : List Tg} (h : lightO l = true) : l.length ≤ 50 ∧ ∀ x ∈ l, x.value.size ≤ 400 := by
  simp only [lightO, Bool.and_eq_true, decide_eq_true_eq] at h
  obtain ⟨h1, h2⟩ := h
  rw [List.take_of_length_le (by omega), List.all_eq_true] at h1
  exact ⟨h2, fun x hx => by simpa using h1 x hx⟩

set_option maxHeartbeats 2000000 in
set_option maxRecDepth 100000 in
theorem lightO_any (v : Value) (l : List Tg) (w : World) (hv : TagsAt w v l) (hl : l.length ≤ maxLen) (hsz : ∀ x ∈ l, x.value.size ≤ 140737488351232) :
    Calls Try.prog 7 #[v] w fun e w' => e = .returned (.bool (lightO l)) ∧ Kept (fun _ => False) w w' := by
  unfold maxLen at hl
  obtain ⟨p, cap, rfl⟩ := hv.slice
  have Hat : Hid (∀ (j : Nat) (x : Tg), l[j]? = some x → ∀ W, Kept (fun _ => False) w W → ∃ g o, p = some ⟨g, o, none⟩ ∧ l.length ≤ cap ∧ W.cell? ⟨g, o + j * 2, none⟩ = some (.int .i64 x.type) ∧ W.cell? ⟨g, o + j * 2 + 1, none⟩ = some (.string x.value)) :=
    fun j x hj W hW => (hv.kept0 hW).at hj
  have Hsz := hid hsz
  have hlz : (l.length : Int) ≤ 9223372036854775807 := by omega
  clear hv hsz
  go_enter Try.func7, Try.ntmps7
  go_wp2
  go_loopw [3] (fun vi wr => ∃ j : Nat, j ≤ l.length ∧ j ≤ 60 ∧ vi = .int .i64 (j : Int) ∧ Hid ((l.take j).all (fun t => decide (t.value.size ≤ 400)) = true ∧ wr = w)) (fun vi _ => 60 - (intOf vi).toNat)
  case atStart => exact ⟨0, Nat.zero_le _, Nat.zero_le _, rfl, rfl, rfl⟩
  case round =>
    obtain ⟨j, hj, hj6, rfl, HI⟩ := hrel
    obtain rfl : wr = w := HI.out.2
    have HA := hid HI.out.1
    clear HI
    by_cases hlt : j < l.length
    · have hltz : (j : Int) < (l.length : Int) := by omega
      by_cases h5 : j < 60
      · have h5z : (j : Int) < 60 := by omega
        obtain ⟨x, hx⟩ : ∃ x, l[j]? = some x := ⟨l[j], by simp [hlt]⟩
        obtain ⟨g, o, rfl, hcap, c0, c1⟩ := Hat.out j x hx wr (Kept.refl _ _)
        have hxs := Hsz.out x (List.mem_of_getElem? hx)
        by_cases h4 : 400 < x.value.size
        · have h4z : (400 : Int) < (x.value.size : Int) := by omega
          have e : lightO l = false := by
            unfold lightO
            have : (l.take 60).all (fun t => decide (t.value.size ≤ 400)) = false := by
              rw [List.all_eq_false]
              refine ⟨x, List.mem_of_getElem? (i := j) ?_, by simp; omega⟩
              rw [List.getElem?_take_of_lt h5]
              exact hx
            rw [this]
            rfl
          have HF := hid e
          clear hx e
          go_wp2
          go_ret
          exact ⟨by rw [HF.out]; rfl, Kept.refl _ _⟩
        · have h4z : ¬ (400 : Int) < (x.value.size : Int) := by omega
          have R : Hid ((l.take (j + 1)).all (fun t => decide (t.value.size ≤ 400)) = true) := by
            show _ = _
            rw [take_next hx, List.all_append, HA.out]
            simp
            omega
          clear hx
          go_wp2
          exact ⟨⟨j + 1, hlt, by omega, by go_num, R.out, by first | rfl | trivial⟩, by simp [intOf]; omega⟩
      · have h5z : ¬ (j : Int) < 60 := by omega
        have e : lightO l = false := by
          unfold lightO
          rw [show decide (l.length ≤ 50) = false from by rw [decide_eq_false_iff_not]; omega, Bool.and_false]
        have HF := hid e
        have h4z : ¬ (l.length : Int) ≤ 50 := by omega
        clear e
        go_wp2
        go_ret
        exact ⟨by rw [HF.out]; rfl, Kept.refl _ _⟩
    · obtain rfl : j = l.length := by omega
      have hltz : ¬ (l.length : Int) < (l.length : Int) := by omega
      have hV := HA.out
      rw [List.take_length] at hV
      have e : lightO l = decide ((l.length : Int) ≤ 50) := by
        unfold lightO
        rw [List.take_of_length_le hj6, hV, Bool.true_and, decide_eq_decide]
        omega
      have HF := hid e
      clear e hV hlt
      by_cases h4 : (l.length : Int) ≤ 50
      · go_wp2
        go_ret
        exact ⟨by rw [HF.out]; simp [h4], Kept.refl _ _⟩
      · have H4 : Hid (decide ((l.length : Int) ≤ 50) = false) := decide_eq_false h4
        go_wp2
        go_ret
        exact ⟨by rw [HF.out, H4.out]; rfl, Kept.refl _ _⟩

end Go.Proofs.Ytcmdfcdmfdheeaa
