/- The contracts of the document's own conf, number, Value, Find and SameOptions (tollgateref9). · '!=' of two structs or arrays in a region that draws (no function named). · The contracts of ipcp's Address, and of the document's own Address and Good. · What a server of an address acks, as plain data. -/
import Derived.Test.YtcmdfcdmfdheeaaOpRow
import Derived.Test.YtcmdfcdmfdheeaaPlEq
import Derived.Test.YtcmdfcdmfdheeaaIpIn
import Derived.Test.YtcmdfcdmfdheeaaNmIn
namespace Go.Proofs.Ytcmdfcdmfdheeaa
open Go.RowKit

set_option maxHeartbeats 2000000 in
set_option maxRecDepth 100000 in
theorem rFind_any (v : Value) (l : List Tg) (kind : Int) (w : World) (hv : TagsAt w v l) (hl : l.length ≤ 1000000) :
    Calls Try.prog 22 #[v, .int .i64 kind] w fun e w' => e = .returned (.tuple #[.string (findOB l kind), .bool (findO l kind).isSome]) ∧ Kept (fun _ => False) w w' := by
  obtain ⟨p, cap, rfl⟩ := hv.slice
  have Hat : Hid (∀ (j : Nat) (x : Tg), l[j]? = some x → ∀ W, Kept (fun _ => False) w W → ∃ g o, p = some ⟨g, o, none⟩ ∧ l.length ≤ cap ∧ W.cell? ⟨g, o + j * 2, none⟩ = some (.int .i64 x.type) ∧ W.cell? ⟨g, o + j * 2 + 1, none⟩ = some (.string x.value)) :=
    fun j x hj W hW => (hv.kept0 hW).at hj
  clear hv
  go_enter Try.func22, Try.ntmps22
  go_wp2
  go_loopw [6] (fun vi wr => ∃ j : Nat, j ≤ l.length ∧ vi = .int .i64 (j : Int) ∧ Hid ((l.take j).find? (fun t => t.type == kind) = none ∧ Kept (fun _ => False) w wr)) (fun vi _ => l.length - (intOf vi).toNat)
  case atStart => exact ⟨0, Nat.zero_le _, rfl, rfl, Kept.refl _ _⟩
  case round =>
    obtain ⟨j, hj, rfl, HI⟩ := hrel
    by_cases hlt : j < l.length
    · have hltz : (j : Int) < (l.length : Int) := by omega
      obtain ⟨x, hx⟩ : ∃ x, l[j]? = some x := ⟨l[j], by simp [hlt]⟩
      obtain ⟨g, o, rfl, hcap, c0, c1⟩ := Hat.out j x hx wr HI.out.2
      have HK := hid HI.out.2
      cases hty : (x.type == kind) with
      | true =>
        have hF := find_hit HI.out.1 hx hty
        have HF : Hid (findOB l kind = x.value ∧ (findO l kind).isSome = true) := by
          show _ ∧ _
          unfold findOB findO
          rw [hF]
          exact ⟨rfl, rfl⟩
        clear hF hx HI
        generalize x.type = T at *
        generalize x.value = V at *
        go_wp2
        go_ret2
        exact ⟨by rw [HF.out.1, HF.out.2]; rfl, HK.out⟩
      | false =>
        have HF := hid (find_on HI.out.1 hx hty)
        clear hx HI
        generalize x.type = T at *
        generalize x.value = V at *
        go_wp2
        exact ⟨⟨j + 1, hlt, by go_num, HF.out, HK.out⟩, by simp [intOf]; omega⟩
    · obtain rfl : j = l.length := by omega
      obtain ⟨hF, hk⟩ := HI.out
      rw [List.take_length] at hF
      have HF : Hid (findOB l kind = ⟨#[]⟩ ∧ (findO l kind).isSome = false) := by
        show _ ∧ _
        unfold findOB findO
        rw [hF]
        exact ⟨rfl, rfl⟩
      clear hF HI hlt
      go_wp2
      go_ret2
      exact ⟨by rw [HF.out.1, HF.out.2]; rfl, hk⟩

end Go.Proofs.Ytcmdfcdmfdheeaa

namespace Go.Proofs.Ytcmdfcdmfdheeaa
open Go.RowKit

theorem execOp_neq {P : Program} {f : Operand → Value} {o : Oper} {t t' : TypeId} {x y : Nat} {A A' : Array Value} {B : Bool} {W : World} (hm : P.eqGuardType P.depth t = false) (ho : o.op = Op.binOp .neq t (.tmp x) (.tmp y) t') (hx : f (.tmp x) = .agg A) (hy : f (.tmp y) = .agg A') (h : (Op.equalIn 10000 t (.agg A) (.agg A')).run P W = .ok B W) : Sem.run P (execOp f o) W = .ok (Next.value (.bool (!B))) W := by
  unfold execOp
  simp only [ho, hx, hy, binOp]
  simp [go_sem, hm, Op.equal, Op.maxDepth, h]
end Go.Proofs.Ytcmdfcdmfdheeaa

namespace Go.Proofs.Ytcmdfcdmfdheeaa
open Go.RowKit

/-- Four bytes as an address. -/
def adOf (s : ByteArray) : Ad := ⟨s.data.toList.getD 0 0, s.data.toList.getD 1 0, s.data.toList.getD 2 0, s.data.toList.getD 3 0⟩
theorem adOf_adB (x : Ad) : adOf (adB x) = x := rfl
def adrF (l : List Tg) (k : Int) : Ad × Bool := if (findOB l k).size = 4 then (adOf (findOB l k), true) else (ad0, false)

set_option maxHeartbeats 4000000 in
set_option maxRecDepth 100000 in
theorem iaddress_any (v : Value) (l : List Tg) (kind : Int) (w : World) (hv : TagsAt w v l) (hl : l.length ≤ 1000000) (hsz : ∀ x ∈ l, x.value.size ≤ 140737488351232) :
    Calls Try.prog 9 #[v, .int .i64 kind] w fun e w' => e = .returned (.tuple #[adV (adrF l kind).1, .bool (adrF l kind).2]) ∧ Kept (fun _ => False) w w' := by
  obtain ⟨p, cap, rfl⟩ := hv.slice
  have k0 := (Kept.refl (fun _ => False) w).alloc (.cells #[.int .u8 0, .int .u8 0, .int .u8 0, .int .u8 0] 24)
  have HO := hid (four4_new w 24 (.int .u8 0) (.int .u8 0) (.int .u8 0) (.int .u8 0))
  have HF := hid (findOpt_any (.slice p l.length cap) l kind _ (hv.kept0 k0) hl hsz)
  have HK0 := hid k0
  clear k0
  unfold adrF adV
  by_cases h4 : (findOB l kind).size = 4
  · rw [if_pos h4]
    have hsome : (findO l kind).isSome = true := by
      cases hq : findO l kind with
      | some b => rfl
      | none => unfold findOB at h4; rw [hq] at h4; cases h4
    rw [hsome] at HF
    have i0 := index_at (findOB l kind) 0 (by omega) 0 rfl
    have i1 := index_at (findOB l kind) 1 (by omega) 1 rfl
    have i2 := index_at (findOB l kind) 2 (by omega) 2 rfl
    have i3 := index_at (findOB l kind) 3 (by omega) 3 rfl
    unfold adOf
    simp only
    generalize hS : findOB l kind = S at *
    have h4z : ((S.size : Int) != 4) = false := by rw [h4]; rfl
    obtain ⟨b0, hb0⟩ : ∃ b0, b0 = S.data.toList.getD 0 0 := ⟨_, rfl⟩
    obtain ⟨b1, hb1⟩ : ∃ b1, b1 = S.data.toList.getD 1 0 := ⟨_, rfl⟩
    obtain ⟨b2, hb2⟩ : ∃ b2, b2 = S.data.toList.getD 2 0 := ⟨_, rfl⟩
    obtain ⟨b3, hb3⟩ : ∃ b3, b3 = S.data.toList.getD 3 0 := ⟨_, rfl⟩
    rw [← hb0] at i0 ⊢
    rw [← hb1] at i1 ⊢
    rw [← hb2] at i2 ⊢
    rw [← hb3] at i3 ⊢
    clear hsome hb0 hb1 hb2 hb3 hS h4 hv hsz
    go_enter Try.func9, Try.ntmps9
    go_wp2_with fail
    refine HF.out.mono ?_
    rintro e w1 ⟨rfl, hk1⟩
    obtain ⟨⟨o0, o1, o2, o3⟩, of⟩ := HO.out.kept hk1 id
    have f0 := of 0
    have f1 := of 1
    have f2 := of 2
    have f3 := of 3
    have KF := hid (HK0.out.trans hk1)
    clear hk1 of
    go_wp2_with fail
    go_upto_region 4 with fail
    refine wp_region_held_drew (S := (fun _ => True)) (by kernel_rfl) (trivial) (fun hSd => ?_)
    refine wpAnyH_take (i := 0) (v := ?_) rfl (by kernel_rfl) (by kernel_rfl) (by kernel_rfl) (fun _ _ _ h => h) (Or.inl ⟨by kernel_rfl, fun W hSW => by go_simp; try with_reducible rfl⟩) (by assumption) ?_
    try simp only [List.getElem_toArray]
    try simp only [List.getElem_cons_succ]
    try simp only [List.getElem_cons_zero]
    try simp only [Act.put]
    try simp only [List.setIfInBounds_toArray]
    try simp only [List.set_cons_succ]
    try simp only [List.set_cons_zero]
    refine wpAnyH_take (i := 1) (v := ?_) rfl (by kernel_rfl) (by kernel_rfl) (by kernel_rfl) (fun _ _ _ h => h) (Or.inl ⟨by kernel_rfl, fun W hSW => by go_simp; try with_reducible rfl⟩) (by assumption) ?_
    try simp only [List.getElem_toArray]
    try simp only [List.getElem_cons_succ]
    try simp only [List.getElem_cons_zero]
    try simp only [Act.put]
    try simp only [List.setIfInBounds_toArray]
    try simp only [List.set_cons_succ]
    try simp only [List.set_cons_zero]
    refine wpAnyH_take (i := 2) (v := ?_) rfl (by kernel_rfl) (by kernel_rfl) (by kernel_rfl) (fun _ _ _ h => h) (Or.inl ⟨by kernel_rfl, fun W hSW => by go_simp; try with_reducible rfl⟩) (by assumption) ?_
    try simp only [List.getElem_toArray]
    try simp only [List.getElem_cons_succ]
    try simp only [List.getElem_cons_zero]
    try simp only [Act.put]
    try simp only [List.setIfInBounds_toArray]
    try simp only [List.set_cons_succ]
    try simp only [List.set_cons_zero]
    refine wpAnyH_take (i := 3) (v := ?_) rfl (by kernel_rfl) (by kernel_rfl) (by kernel_rfl) (fun _ _ _ h => h) (Or.inl ⟨by kernel_rfl, fun W hSW => by go_simp; try with_reducible rfl⟩) (by assumption) ?_
    try simp only [List.getElem_toArray]
    try simp only [List.getElem_cons_succ]
    try simp only [List.getElem_cons_zero]
    try simp only [Act.put]
    try simp only [List.setIfInBounds_toArray]
    try simp only [List.set_cons_succ]
    try simp only [List.set_cons_zero]
    refine wpAnyH_take (i := 4) (v := ?_) rfl (by kernel_rfl) (by kernel_rfl) (by kernel_rfl) (fun _ _ _ h => h) (Or.inl ⟨by kernel_rfl, fun W hSW => by go_simp; try with_reducible rfl⟩) (by assumption) ?_
    try simp only [List.getElem_toArray]
    try simp only [List.getElem_cons_succ]
    try simp only [List.getElem_cons_zero]
    try simp only [Act.put]
    try simp only [List.setIfInBounds_toArray]
    try simp only [List.set_cons_succ]
    try simp only [List.set_cons_zero]
    refine wpAnyH_take (i := 5) (v := ?_) rfl (by kernel_rfl) (by kernel_rfl) (by kernel_rfl) (fun _ _ _ h => h) (Or.inl ⟨by kernel_rfl, fun W hSW => by go_simp; try with_reducible rfl⟩) (by assumption) ?_
    try simp only [List.getElem_toArray]
    try simp only [List.getElem_cons_succ]
    try simp only [List.getElem_cons_zero]
    try simp only [Act.put]
    try simp only [List.setIfInBounds_toArray]
    try simp only [List.set_cons_succ]
    try simp only [List.set_cons_zero]
    refine wpAnyH_take (i := 6) (v := ?_) rfl (by kernel_rfl) (by kernel_rfl) (by kernel_rfl) (fun _ _ _ h => h) (Or.inl ⟨by kernel_rfl, fun W hSW => by go_simp; try with_reducible rfl⟩) (by assumption) ?_
    try simp only [List.getElem_toArray]
    try simp only [List.getElem_cons_succ]
    try simp only [List.getElem_cons_zero]
    try simp only [Act.put]
    try simp only [List.setIfInBounds_toArray]
    try simp only [List.set_cons_succ]
    try simp only [List.set_cons_zero]
    refine wpAnyH_take (i := 7) (v := ?_) rfl (by kernel_rfl) (by kernel_rfl) (by kernel_rfl) (fun _ _ _ h => h) (Or.inl ⟨by kernel_rfl, fun W hSW => by go_simp; try with_reducible rfl⟩) (by assumption) ?_
    try simp only [List.getElem_toArray]
    try simp only [List.getElem_cons_succ]
    try simp only [List.getElem_cons_zero]
    try simp only [Act.put]
    try simp only [List.setIfInBounds_toArray]
    try simp only [List.set_cons_succ]
    try simp only [List.set_cons_zero]
    refine wpAnyH_take (i := 8) (v := ?_) rfl (by kernel_rfl) (by kernel_rfl) (by kernel_rfl) (fun _ _ _ h => h) (Or.inl ⟨by kernel_rfl, fun W hSW => by go_simp; try with_reducible rfl⟩) (by assumption) ?_
    try simp only [List.getElem_toArray]
    try simp only [List.getElem_cons_succ]
    try simp only [List.getElem_cons_zero]
    try simp only [Act.put]
    try simp only [List.setIfInBounds_toArray]
    try simp only [List.set_cons_succ]
    try simp only [List.set_cons_zero]
    refine wpAnyH_ready (rs := [9]) (by kernel_rfl) (by simp) ?_
    refine AllReadyH.cons rfl (fun K hK => ?_) AllReadyH.nil
    go_simp
    refine hK.out _ _ (trivial) (fun _ => ?_)
    clear hK K
    try simp only [List.getElem_toArray]
    try simp only [List.getElem_cons_succ]
    try simp only [List.getElem_cons_zero]
    try simp only [Act.put]
    try simp only [List.setIfInBounds_toArray]
    try simp only [List.set_cons_succ]
    try simp only [List.set_cons_zero]
    refine wpAnyH_take (i := 10) (v := ?_) rfl (by kernel_rfl) (by kernel_rfl) (by kernel_rfl) (fun _ _ _ h => h) (Or.inl ⟨by kernel_rfl, fun W hSW => by go_simp; try with_reducible rfl⟩) (by assumption) ?_
    try simp only [List.getElem_toArray]
    try simp only [List.getElem_cons_succ]
    try simp only [List.getElem_cons_zero]
    try simp only [Act.put]
    try simp only [List.setIfInBounds_toArray]
    try simp only [List.set_cons_succ]
    try simp only [List.set_cons_zero]
    refine wpAnyH_done (by kernel_rfl) ?_ _
    go_wp2
    refine bodyPost_ret (v := .tuple #[.agg #[.int .u8 (b0.toNat : Int), .int .u8 (b1.toNat : Int), .int .u8 (b2.toNat : Int), .int .u8 (b3.toNat : Int)], .bool true]) (by simp [results, Try.results9, go_sem, o0, o1, o2, o3]) rfl ⟨rfl, ?_⟩
    exact (((((KF.out.drew).setCell (Or.inl (Nat.le_refl _)) _).setCell (Or.inl (Nat.le_refl _)) _).setCell (Or.inl (Nat.le_refl _)) _).setCell (Or.inl (Nat.le_refl _)) _)
  · rw [if_neg h4]
    generalize findOB l kind = S at *
    have h4z : ((S.size : Int) != 4) = true := by simp; omega
    clear h4 hv hsz
    generalize (findO l kind).isSome = Q at *
    go_enter Try.func9, Try.ntmps9
    go_wp2_with fail
    refine HF.out.mono ?_
    rintro e w1 ⟨rfl, hk1⟩
    obtain ⟨⟨o0, o1, o2, o3⟩, of⟩ := HO.out.kept hk1 id
    have f0 := of 0
    have f1 := of 1
    have f2 := of 2
    have f3 := of 3
    have KF := hid (HK0.out.trans hk1)
    clear hk1 of
    go_wp2_with fail
    refine bodyPost_ret (v := .tuple #[.agg #[.int .u8 0, .int .u8 0, .int .u8 0, .int .u8 0], .bool false]) (by simp [results, Try.results9, go_sem, o0, o1, o2, o3]) rfl ⟨rfl, ?_⟩
    exact ((((KF.out.setCell (Or.inl (Nat.le_refl _)) _).setCell (Or.inl (Nat.le_refl _)) _).setCell (Or.inl (Nat.le_refl _)) _).setCell (Or.inl (Nat.le_refl _)) _)

set_option maxHeartbeats 4000000 in
set_option maxRecDepth 100000 in
theorem raddress_any (v : Value) (l : List Tg) (kind : Int) (w : World) (hv : TagsAt w v l) (hl : l.length ≤ 1000000) :
    Calls Try.prog 10 #[v, .int .i64 kind] w fun e w' => e = .returned (.tuple #[adV (adrF l kind).1, .bool (adrF l kind).2]) ∧ Kept (fun _ => False) w w' := by
  obtain ⟨p, cap, rfl⟩ := hv.slice
  have k0 := (Kept.refl (fun _ => False) w).alloc (.cells #[.int .u8 0, .int .u8 0, .int .u8 0, .int .u8 0] 24)
  have HO := hid (four4_new w 24 (.int .u8 0) (.int .u8 0) (.int .u8 0) (.int .u8 0))
  have HF := hid (rFind_any (.slice p l.length cap) l kind _ (hv.kept0 k0) hl)
  have HK0 := hid k0
  clear k0
  unfold adrF adV
  by_cases h4 : (findOB l kind).size = 4
  · rw [if_pos h4]
    have hsome : (findO l kind).isSome = true := by
      cases hq : findO l kind with
      | some b => rfl
      | none => unfold findOB at h4; rw [hq] at h4; cases h4
    rw [hsome] at HF
    have i0 := index_at (findOB l kind) 0 (by omega) 0 rfl
    have i1 := index_at (findOB l kind) 1 (by omega) 1 rfl
    have i2 := index_at (findOB l kind) 2 (by omega) 2 rfl
    have i3 := index_at (findOB l kind) 3 (by omega) 3 rfl
    unfold adOf
    simp only
    generalize hS : findOB l kind = S at *
    have h4z : ((S.size : Int) != 4) = false := by rw [h4]; rfl
    obtain ⟨b0, hb0⟩ : ∃ b0, b0 = S.data.toList.getD 0 0 := ⟨_, rfl⟩
    obtain ⟨b1, hb1⟩ : ∃ b1, b1 = S.data.toList.getD 1 0 := ⟨_, rfl⟩
    obtain ⟨b2, hb2⟩ : ∃ b2, b2 = S.data.toList.getD 2 0 := ⟨_, rfl⟩
    obtain ⟨b3, hb3⟩ : ∃ b3, b3 = S.data.toList.getD 3 0 := ⟨_, rfl⟩
    rw [← hb0] at i0 ⊢
    rw [← hb1] at i1 ⊢
    rw [← hb2] at i2 ⊢
    rw [← hb3] at i3 ⊢
    clear hsome hb0 hb1 hb2 hb3 hS h4 hv
    go_enter Try.func10, Try.ntmps10
    go_wp2_with fail
    refine HF.out.mono ?_
    rintro e w1 ⟨rfl, hk1⟩
    obtain ⟨⟨o0, o1, o2, o3⟩, of⟩ := HO.out.kept hk1 id
    have f0 := of 0
    have f1 := of 1
    have f2 := of 2
    have f3 := of 3
    have KF := hid (HK0.out.trans hk1)
    clear hk1 of
    go_wp2_with fail
    go_upto_region 4 with fail
    refine wp_region_held_drew (S := (fun _ => True)) (by kernel_rfl) (trivial) (fun hSd => ?_)
    refine wpAnyH_take (i := 0) (v := ?_) rfl (by kernel_rfl) (by kernel_rfl) (by kernel_rfl) (fun _ _ _ h => h) (Or.inl ⟨by kernel_rfl, fun W hSW => by go_simp; try with_reducible rfl⟩) (by assumption) ?_
    try simp only [List.getElem_toArray]
    try simp only [List.getElem_cons_succ]
    try simp only [List.getElem_cons_zero]
    try simp only [Act.put]
    try simp only [List.setIfInBounds_toArray]
    try simp only [List.set_cons_succ]
    try simp only [List.set_cons_zero]
    refine wpAnyH_take (i := 1) (v := ?_) rfl (by kernel_rfl) (by kernel_rfl) (by kernel_rfl) (fun _ _ _ h => h) (Or.inl ⟨by kernel_rfl, fun W hSW => by go_simp; try with_reducible rfl⟩) (by assumption) ?_
    try simp only [List.getElem_toArray]
    try simp only [List.getElem_cons_succ]
    try simp only [List.getElem_cons_zero]
    try simp only [Act.put]
    try simp only [List.setIfInBounds_toArray]
    try simp only [List.set_cons_succ]
    try simp only [List.set_cons_zero]
    refine wpAnyH_take (i := 2) (v := ?_) rfl (by kernel_rfl) (by kernel_rfl) (by kernel_rfl) (fun _ _ _ h => h) (Or.inl ⟨by kernel_rfl, fun W hSW => by go_simp; try with_reducible rfl⟩) (by assumption) ?_
    try simp only [List.getElem_toArray]
    try simp only [List.getElem_cons_succ]
    try simp only [List.getElem_cons_zero]
    try simp only [Act.put]
    try simp only [List.setIfInBounds_toArray]
    try simp only [List.set_cons_succ]
    try simp only [List.set_cons_zero]
    refine wpAnyH_take (i := 3) (v := ?_) rfl (by kernel_rfl) (by kernel_rfl) (by kernel_rfl) (fun _ _ _ h => h) (Or.inl ⟨by kernel_rfl, fun W hSW => by go_simp; try with_reducible rfl⟩) (by assumption) ?_
    try simp only [List.getElem_toArray]
    try simp only [List.getElem_cons_succ]
    try simp only [List.getElem_cons_zero]
    try simp only [Act.put]
    try simp only [List.setIfInBounds_toArray]
    try simp only [List.set_cons_succ]
    try simp only [List.set_cons_zero]
    refine wpAnyH_take (i := 4) (v := ?_) rfl (by kernel_rfl) (by kernel_rfl) (by kernel_rfl) (fun _ _ _ h => h) (Or.inl ⟨by kernel_rfl, fun W hSW => by go_simp; try with_reducible rfl⟩) (by assumption) ?_
    try simp only [List.getElem_toArray]
    try simp only [List.getElem_cons_succ]
    try simp only [List.getElem_cons_zero]
    try simp only [Act.put]
    try simp only [List.setIfInBounds_toArray]
    try simp only [List.set_cons_succ]
    try simp only [List.set_cons_zero]
    refine wpAnyH_take (i := 5) (v := ?_) rfl (by kernel_rfl) (by kernel_rfl) (by kernel_rfl) (fun _ _ _ h => h) (Or.inl ⟨by kernel_rfl, fun W hSW => by go_simp; try with_reducible rfl⟩) (by assumption) ?_
    try simp only [List.getElem_toArray]
    try simp only [List.getElem_cons_succ]
    try simp only [List.getElem_cons_zero]
    try simp only [Act.put]
    try simp only [List.setIfInBounds_toArray]
    try simp only [List.set_cons_succ]
    try simp only [List.set_cons_zero]
    refine wpAnyH_take (i := 6) (v := ?_) rfl (by kernel_rfl) (by kernel_rfl) (by kernel_rfl) (fun _ _ _ h => h) (Or.inl ⟨by kernel_rfl, fun W hSW => by go_simp; try with_reducible rfl⟩) (by assumption) ?_
    try simp only [List.getElem_toArray]
    try simp only [List.getElem_cons_succ]
    try simp only [List.getElem_cons_zero]
    try simp only [Act.put]
    try simp only [List.setIfInBounds_toArray]
    try simp only [List.set_cons_succ]
    try simp only [List.set_cons_zero]
    refine wpAnyH_take (i := 7) (v := ?_) rfl (by kernel_rfl) (by kernel_rfl) (by kernel_rfl) (fun _ _ _ h => h) (Or.inl ⟨by kernel_rfl, fun W hSW => by go_simp; try with_reducible rfl⟩) (by assumption) ?_
    try simp only [List.getElem_toArray]
    try simp only [List.getElem_cons_succ]
    try simp only [List.getElem_cons_zero]
    try simp only [Act.put]
    try simp only [List.setIfInBounds_toArray]
    try simp only [List.set_cons_succ]
    try simp only [List.set_cons_zero]
    refine wpAnyH_take (i := 8) (v := ?_) rfl (by kernel_rfl) (by kernel_rfl) (by kernel_rfl) (fun _ _ _ h => h) (Or.inl ⟨by kernel_rfl, fun W hSW => by go_simp; try with_reducible rfl⟩) (by assumption) ?_
    try simp only [List.getElem_toArray]
    try simp only [List.getElem_cons_succ]
    try simp only [List.getElem_cons_zero]
    try simp only [Act.put]
    try simp only [List.setIfInBounds_toArray]
    try simp only [List.set_cons_succ]
    try simp only [List.set_cons_zero]
    refine wpAnyH_ready (rs := [9]) (by kernel_rfl) (by simp) ?_
    refine AllReadyH.cons rfl (fun K hK => ?_) AllReadyH.nil
    go_simp
    refine hK.out _ _ (trivial) (fun _ => ?_)
    clear hK K
    try simp only [List.getElem_toArray]
    try simp only [List.getElem_cons_succ]
    try simp only [List.getElem_cons_zero]
    try simp only [Act.put]
    try simp only [List.setIfInBounds_toArray]
    try simp only [List.set_cons_succ]
    try simp only [List.set_cons_zero]
    refine wpAnyH_take (i := 10) (v := ?_) rfl (by kernel_rfl) (by kernel_rfl) (by kernel_rfl) (fun _ _ _ h => h) (Or.inl ⟨by kernel_rfl, fun W hSW => by go_simp; try with_reducible rfl⟩) (by assumption) ?_
    try simp only [List.getElem_toArray]
    try simp only [List.getElem_cons_succ]
    try simp only [List.getElem_cons_zero]
    try simp only [Act.put]
    try simp only [List.setIfInBounds_toArray]
    try simp only [List.set_cons_succ]
    try simp only [List.set_cons_zero]
    refine wpAnyH_done (by kernel_rfl) ?_ _
    go_wp2
    refine bodyPost_ret (v := .tuple #[.agg #[.int .u8 (b0.toNat : Int), .int .u8 (b1.toNat : Int), .int .u8 (b2.toNat : Int), .int .u8 (b3.toNat : Int)], .bool true]) (by simp [results, Try.results10, go_sem, o0, o1, o2, o3]) rfl ⟨rfl, ?_⟩
    exact (((((KF.out.drew).setCell (Or.inl (Nat.le_refl _)) _).setCell (Or.inl (Nat.le_refl _)) _).setCell (Or.inl (Nat.le_refl _)) _).setCell (Or.inl (Nat.le_refl _)) _)
  · rw [if_neg h4]
    generalize findOB l kind = S at *
    have h4z : ((S.size : Int) != 4) = true := by simp; omega
    clear h4 hv
    generalize (findO l kind).isSome = Q at *
    cases Q with
    | false =>
      go_enter Try.func10, Try.ntmps10
      go_wp2_with fail
      refine HF.out.mono ?_
      rintro e w1 ⟨rfl, hk1⟩
      obtain ⟨⟨o0, o1, o2, o3⟩, of⟩ := HO.out.kept hk1 id
      have f0 := of 0
      have f1 := of 1
      have f2 := of 2
      have f3 := of 3
      have KF := hid (HK0.out.trans hk1)
      clear hk1 of
      go_wp2_with fail
      refine bodyPost_ret (v := .tuple #[.agg #[.int .u8 0, .int .u8 0, .int .u8 0, .int .u8 0], .bool false]) (by simp [results, Try.results10, go_sem, o0, o1, o2, o3]) rfl ⟨rfl, ?_⟩
      exact ((((KF.out.setCell (Or.inl (Nat.le_refl _)) _).setCell (Or.inl (Nat.le_refl _)) _).setCell (Or.inl (Nat.le_refl _)) _).setCell (Or.inl (Nat.le_refl _)) _)
    | true =>
      go_enter Try.func10, Try.ntmps10
      go_wp2_with fail
      refine HF.out.mono ?_
      rintro e w1 ⟨rfl, hk1⟩
      obtain ⟨⟨o0, o1, o2, o3⟩, of⟩ := HO.out.kept hk1 id
      have f0 := of 0
      have f1 := of 1
      have f2 := of 2
      have f3 := of 3
      have KF := hid (HK0.out.trans hk1)
      clear hk1 of
      go_wp2_with fail
      refine bodyPost_ret (v := .tuple #[.agg #[.int .u8 0, .int .u8 0, .int .u8 0, .int .u8 0], .bool false]) (by simp [results, Try.results10, go_sem, o0, o1, o2, o3]) rfl ⟨rfl, ?_⟩
      exact ((((KF.out.setCell (Or.inl (Nat.le_refl _)) _).setCell (Or.inl (Nat.le_refl _)) _).setCell (Or.inl (Nat.le_refl _)) _).setCell (Or.inl (Nat.le_refl _)) _)
theorem wp_neq {P : Program} {o : Oper} {a : Act} {t t' : TypeId} {x y : Nat} {A A' : Array Value} {B : Bool} {w : World} {K : Act → World → Prop} {Q : Exit → Act → World → Prop} (hm : P.eqGuardType P.depth t = false) (ho : o.op = Op.binOp .neq t (.tmp x) (.tmp y) t') (hx : a.eval (.tmp x) = .agg A) (hy : a.eval (.tmp y) = .agg A') (h : (Op.equalIn 10000 t (.agg A) (.agg A')).run P w = .ok B w) (hk : K (a.put o.dst (.bool (!B))) w) : Oper.wp P o a w K Q := by
  unfold Oper.wp
  rw [execOp_neq (f := a.eval) hm ho hx hy h]
  exact hk
theorem wpList_neq_wanted {P : Program} {ops : Array Oper} {rest : List Oper} {o : Oper} {a : Act} {t t' : TypeId} {x y : Nat} {A A' : Array Value} {B : Bool} {w : World} {Q : Exit → Act → World → Prop} (hw : Region.wanted o (yielded ops a.tmps) = true) (hm : P.eqGuardType P.depth t = false) (ho : o.op = Op.binOp .neq t (.tmp x) (.tmp y) t') (hx : a.eval (.tmp x) = .agg A) (hy : a.eval (.tmp y) = .agg A') (h : (Op.equalIn 10000 t (.agg A) (.agg A')).run P w = .ok B w) (hk : wpList P ops Q rest (a.put o.dst (.bool (!B))) w) : wpList P ops Q (o :: rest) a w := by
  unfold wpList
  rw [if_pos hw]
  exact .inl (wp_neq hm ho hx hy h hk)

set_option maxHeartbeats 1000000 in
set_option maxRecDepth 100000 in
theorem rgood_any (x y : Ad) (w : World) : Calls Try.prog 12 #[adV x, adV y] w fun e w' => e = .returned (.bool (goodF x y)) ∧ Kept (fun _ => False) w w' := by
  have k0 := (Kept.refl (fun _ => False) w).alloc (.cells #[.int .u8 (x.a.toNat : Int), .int .u8 (x.b.toNat : Int), .int .u8 (x.c.toNat : Int), .int .u8 (x.d.toNat : Int)] 24)
  have k1 := (Kept.refl (fun _ => False) (w.alloc (.cells #[.int .u8 (x.a.toNat : Int), .int .u8 (x.b.toNat : Int), .int .u8 (x.c.toNat : Int), .int .u8 (x.d.toNat : Int)] 24))).alloc (.cells #[.int .u8 (y.a.toNat : Int), .int .u8 (y.b.toNat : Int), .int .u8 (y.c.toNat : Int), .int .u8 (y.d.toNat : Int)] 24)
  have hX := (four4_new w 24 (.int .u8 (x.a.toNat : Int)) (.int .u8 (x.b.toNat : Int)) (.int .u8 (x.c.toNat : Int)) (.int .u8 (x.d.toNat : Int))).kept k1 id
  have hY := four4_new (w.alloc (.cells #[.int .u8 (x.a.toNat : Int), .int .u8 (x.b.toNat : Int), .int .u8 (x.c.toNat : Int), .int .u8 (x.d.toNat : Int)] 24)) 24 (.int .u8 (y.a.toNat : Int)) (.int .u8 (y.b.toNat : Int)) (.int .u8 (y.c.toNat : Int)) (.int .u8 (y.d.toNat : Int))
  have hsz : (w.alloc (.cells #[.int .u8 (x.a.toNat : Int), .int .u8 (x.b.toNat : Int), .int .u8 (x.c.toNat : Int), .int .u8 (x.d.toNat : Int)] 24)).heap.size = w.heap.size + 1 := by simp
  rw [hsz] at hY
  have hE := ad_eq x y
  have hN := ad_eq x ad0
  rw [show decide (numAd x = numAd ad0) = noB x from rfl, show adV ad0 = .agg #[.int .u8 0, .int .u8 0, .int .u8 0, .int .u8 0] from rfl] at hN
  have KA := hid (k0.trans k1)
  unfold adV at hE hN ⊢
  obtain ⟨⟨x0, x1, x2, x3⟩, _⟩ := hX
  obtain ⟨⟨y0, y1, y2, y3⟩, _⟩ := hY
  unfold goodF
  generalize decide (numAd x = numAd y) = B at *
  generalize noB x = C at *
  clear k0 k1
  cases B with
  | false =>
    go_enter Try.func12, Try.ntmps12
    go_upto_region 1 with fail
    iterate 8 go_step
    refine wp_eql (by kernel_rfl) rfl (by rfl) (by rfl) (hE _) ?_
    clear hE hN
    go_wp2_with fail
    go_ret
    exact ⟨rfl, KA.out⟩
  | true =>
    go_enter Try.func12, Try.ntmps12
    go_upto_region 1 with fail
    iterate 8 go_step
    refine wp_eql (by kernel_rfl) rfl (by rfl) (by rfl) (hE _) ?_
    clear hE
    have HN := hid hN
    clear hN
    iterate 8 go_step
    refine wpList_neq_wanted (by kernel_rfl) (by kernel_rfl) rfl (by rfl) (by rfl) (HN.out _) ?_
    go_wp2
    go_ret
    exact ⟨by cases C <;> rfl, KA.out⟩
end Go.Proofs.Ytcmdfcdmfdheeaa

namespace Go.Proofs.Ytcmdfcdmfdheeaa
open Go.RowKit

theorem adB_adOf {s : ByteArray} (h : s.size = 4) : adB (adOf s) = s := by
  obtain ⟨⟨l⟩⟩ := s
  have hl : l.length = 4 := h
  match l, hl with
  | [a, b, c, d], _ => rfl
theorem ruleA_only {k : Int} {x : Ad} {s : ByteArray} (h : fitsF (ruleA k x x) s = true) : s = adB x := by
  have hs : s.size = 4 := by
    unfold fitsF ruleA at h
    simp only [Bool.and_eq_true, decide_eq_true_eq] at h
    omega
  have e := adB_adOf hs
  rw [← e, ruleA_fits] at h
  simp only [Bool.and_eq_true, decide_eq_true_eq] at h
  rw [← e]
  congr 1
  exact numAd_inj (by omega)

/-- What a step keeps: the rules; an ack is the answer itself. -/
structure Fo (c : Cz) (n : Ng) (s : Ng × List Pk0) : Prop where
  peer : s.1.peer = n.peer
  acks : ∀ q ∈ s.2, q.code = 2 → q = c.ans
theorem fo_send (c : Cz) (n : Ng) (x : Int) : Fo c n (sendF c n x) := by
  unfold sendF
  split
  · exact ⟨rfl, fun q hq h => by rw [List.mem_singleton.1 hq] at h; simp at h⟩
  split
  · exact ⟨rfl, fun q hq _ => List.mem_singleton.1 hq⟩
  split
  · refine ⟨?_, fun q hq h => ?_⟩
    · unfold refuseF
      split
      · rfl
      · split <;> rfl
    · rw [List.mem_singleton.1 hq] at h ⊢
      unfold refuseF at h ⊢
      split
      · rfl
      · split
        · rfl
        · rename_i h1 h2
          rw [if_neg h1, if_neg h2] at h
          simp at h
  split
  · exact ⟨rfl, fun q hq h => by rw [List.mem_singleton.1 hq] at h; simp at h⟩
  split
  · exact ⟨rfl, fun q hq h => by rw [List.mem_singleton.1 hq] at h; simp at h⟩
  split
  · exact ⟨rfl, fun q hq h => by rw [List.mem_singleton.1 hq] at h; simp at h⟩
  · exact ⟨rfl, fun q hq => by cases hq⟩
theorem tally_peer (n : Ng) (x : Int) : (tallyF n x).peer = n.peer := by
  unfold tallyF
  split
  · rfl
  · split <;> rfl
theorem fo_acts (c : Cz) (n : Ng) (l : List Int) : ∀ j, j ≤ l.length → Fo c n (actsF c n (l.take j)) := by
  intro j
  induction j with
  | zero => intro _; exact ⟨rfl, fun q hq => by cases hq⟩
  | succ j ih =>
    intro hj
    obtain ⟨x, hx⟩ : ∃ x, l[j]? = some x := ⟨l[j], by simp [show j < l.length from hj]⟩
    rw [actsF_take c n hx]
    have h := ih (by omega)
    have k := fo_send c (tallyF (actsF c n (l.take j)).1 x) x
    refine ⟨?_, fun q hq h2 => ?_⟩
    · show (sendF c _ x).1.peer = _
      rw [k.peer, tally_peer, h.peer]
    · rcases List.mem_append.1 hq with hq | hq
      · exact h.acks q hq h2
      · exact k.acks q hq h2
theorem fo_happen (c : Cz) (n : Ng) (e : Int) : Fo c n (happenF c n e) := by
  unfold happenF
  have h := fo_acts c { n with au := (doF n.au e).2 } (doF n.au e).1 _ (Nat.le_refl _)
  rw [List.take_length] at h
  exact ⟨h.peer, h.acks⟩
/-- Where the answer is no ack, none is sent. -/
theorem fo_none {c : Cz} {n : Ng} {s : Ng × List Pk0} (h : Fo c n s) (hc : c.ans.code ≠ 2) : ∀ q ∈ s.2, q.code = 2 → False := fun q hq h2 => hc (by rw [← h.acks q hq h2]; exact h2)

theorem nakL_peer (ms : List Int) (l : List Tg) : ∀ s : Ng × List Tg, (l.foldl (nakS ms) s).1.peer = s.1.peer := by
  induction l with
  | nil => intro s; rfl
  | cons x l ih => intro s; rw [List.foldl_cons, ih]; rfl

/-- What a server of x acks is x. -/
def OnlyA (x : Ad) (s : Ng × List Pk0) : Prop := s.1.peer = [ruleA 3 x x] ∧ ∀ q ∈ s.2, q.code = 2 → ∀ o ∈ q.opts, o.type = 3 ∧ o.value = adB x
theorem onlyA_of {x : Ad} {c : Cz} {n : Ng} {s : Ng × List Pk0} (h : Fo c n s) (hp : n.peer = [ruleA 3 x x]) (hc : c.ans.code ≠ 2) : OnlyA x s := ⟨h.peer.trans hp, fun q hq h2 => (fo_none h hc q hq h2).elim⟩
theorem onlyA_none {x : Ad} {n : Ng} (hp : n.peer = [ruleA 3 x x]) : OnlyA x (n, []) := ⟨hp, fun q hq => by cases hq⟩
theorem acked_only {x : Ad} {l : List Tg} (h : (judgeF [ruleA 3 x x] l).1 = 2) : (judgeF [ruleA 3 x x] l).2 = l ∧ ∀ o ∈ l, o.type = 3 ∧ o.value = adB x := by
  by_cases h1 : 0 < (upTo (rejF [ruleA 3 x x] l) l l.length).length
  · rw [judgeF_rej h1] at h; simp at h
  · by_cases h2 : 0 < (misF [ruleA 3 x x] l).length
    · rw [judgeF_nak (by omega) h2] at h; simp at h
    · rw [judgeF_ack (by omega) (by omega)]
      refine ⟨rfl, fun o ho => ?_⟩
      have hnil : misF [ruleA 3 x x] l = [] := List.eq_nil_of_length_eq_zero (by omega)
      have hm : o ∉ misF [ruleA 3 x x] l := by rw [hnil]; exact List.not_mem_nil
      have hl : letsB [ruleA 3 x x] o = true := by
        cases hq : letsB [ruleA 3 x x] o with
        | true => rfl
        | false => exact absurd (List.mem_filter.2 ⟨ho, by simp [hq]⟩) hm
      unfold letsB ruleF at hl
      by_cases ht : (3 : Int) = o.type
      · have : ([ruleA 3 x x].find? fun r => r.type == o.type) = some (ruleA 3 x x) := by
          rw [List.find?_cons_of_pos]
          show ((3 : Int) == o.type) = true
          simpa using ht
        rw [this] at hl
        exact ⟨ht.symm, ruleA_only (by simpa using hl)⟩
      · have : ([ruleA 3 x x].find? fun r => r.type == o.type) = none := by
          rw [List.find?_cons_of_neg (by show ¬ ((3 : Int) == o.type) = true; simpa using ht)]
          rfl
        rw [this] at hl
        simp at hl
theorem only_take (x : Ad) (n : Ng) (hp : n.peer = [ruleA 3 x x]) (p : Pk0) : OnlyA x (takeM [] n p) := by
  have d : ∀ {e : Int} {m : Ng}, m.peer = [ruleA 3 x x] → OnlyA x (happenF ⟨p, pk00, []⟩ m e) := fun hm => onlyA_of (fo_happen _ _ _) hm (by show (0 : Int) ≠ 2; decide)
  unfold takeM
  split
  · rw [show reqN n n.peer p = reqN n [ruleA 3 x x] p by rw [hp]]
    unfold reqN
    split
    · rename_i h2
      obtain ⟨h3, h4⟩ := acked_only h2
      have h := fo_happen ⟨p, ⟨(judgeF [ruleA 3 x x] p.opts).1, p.id, (judgeF [ruleA 3 x x] p.opts).2, ⟨#[]⟩⟩, [ruleA 3 x x]⟩ { n with naks := 0 } 6
      refine ⟨h.peer.trans hp, fun q hq hq2 o ho => ?_⟩
      rw [h.acks q hq hq2] at ho
      have ho : o ∈ (judgeF [ruleA 3 x x] p.opts).2 := ho
      rw [h3] at ho
      exact h4 o ho
    · rename_i h2
      exact onlyA_of (fo_happen _ _ _) hp h2
  split
  · unfold ackM
    split
    · exact d hp
    · exact onlyA_none hp
  split
  · unfold nakM
    split
    · exact d (by unfold nakL; rw [nakL_peer]; exact hp)
    · exact onlyA_none hp
  split
  · unfold rejM
    split
    · split
      · exact d hp
      · exact d hp
    · exact onlyA_none hp
  split
  · exact d hp
  split
  · exact d hp
  split
  · unfold rjN
    split
    · exact onlyA_none hp
    · split
      · exact d hp
      · exact d hp
  · exact d hp

/-- Such an option's address. -/
theorem adr_one {x : Ad} {o : Tg} (h1 : o.type = 3) (h2 : o.value = adB x) : adrF [o] 3 = (x, true) := by
  have e : findOB [o] 3 = adB x := by
    unfold findOB findO
    rw [List.find?_cons_of_pos (by simpa using h1)]
    show o.value = adB x
    exact h2
  unfold adrF
  rw [e, if_pos (adB_size x), adOf_adB]
end Go.Proofs.Ytcmdfcdmfdheeaa
