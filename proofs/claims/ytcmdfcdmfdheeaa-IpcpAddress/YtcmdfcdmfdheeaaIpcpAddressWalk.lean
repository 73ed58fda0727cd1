/- The walk of IpcpAddress. -/
import Derived.Test.YtcmdfcdmfdheeaaIpIn
import Derived.Test.YtcmdfcdmfdheeaaIaIn
namespace Go.Proofs.Ytcmdfcdmfdheeaa
open Go.RowKit

/-- The boxes of four addresses. -/
structure FourK (g0 g1 g2 g3 : Nat) (a b c d : Ad) (W : World) : Prop where
  a : Four4 W g0 (.int .u8 (a.a.toNat : Int)) (.int .u8 (a.b.toNat : Int)) (.int .u8 (a.c.toNat : Int)) (.int .u8 (a.d.toNat : Int))
  b : Four4 W g1 (.int .u8 (b.a.toNat : Int)) (.int .u8 (b.b.toNat : Int)) (.int .u8 (b.c.toNat : Int)) (.int .u8 (b.d.toNat : Int))
  c : Four4 W g2 (.int .u8 (c.a.toNat : Int)) (.int .u8 (c.b.toNat : Int)) (.int .u8 (c.c.toNat : Int)) (.int .u8 (c.d.toNat : Int))
  d : Four4 W g3 (.int .u8 (d.a.toNat : Int)) (.int .u8 (d.b.toNat : Int)) (.int .u8 (d.c.toNat : Int)) (.int .u8 (d.d.toNat : Int))
theorem FourK.kept {g0 g1 g2 g3 : Nat} {a b c d : Ad} {W W' : World} (h : FourK g0 g1 g2 g3 a b c d W) (hk : Kept (fun _ => False) W W') : FourK g0 g1 g2 g3 a b c d W' := ⟨h.a.kept hk id, h.b.kept hk id, h.c.kept hk id, h.d.kept hk id⟩

set_option maxHeartbeats 8000000 in
set_option maxRecDepth 100000 in
theorem ipcpAddress_walk (v : Value) (l : List Tg) (kind : Int) (x y : Ad) (w : World) (hv : TagsAt w v l) (hl : l.length ≤ maxLen) (hsz : ∀ x ∈ l, x.value.size ≤ 140737488351232) (_hk : In64 kind) :
    Calls Try.prog 3 #[v, .int .i64 kind, adV x, adV y] w fun e w' => e = .returned (.bool true) ∧ Below w.heap.size w w' := by
  obtain ⟨p, cap, hvp⟩ := hv.slice
  have k0 := ((Kept.refl (fun _ => False) w).alloc (.cells #[.int .u8 (x.a.toNat : Int), .int .u8 (x.b.toNat : Int), .int .u8 (x.c.toNat : Int), .int .u8 (x.d.toNat : Int)] 24)).alloc (.cells #[.int .u8 (y.a.toNat : Int), .int .u8 (y.b.toNat : Int), .int .u8 (y.c.toNat : Int), .int .u8 (y.d.toNat : Int)] 24)
  have k1 := (Kept.refl (fun _ => False) (w.alloc (.cells #[.int .u8 (x.a.toNat : Int), .int .u8 (x.b.toNat : Int), .int .u8 (x.c.toNat : Int), .int .u8 (x.d.toNat : Int)] 24))).alloc (.cells #[.int .u8 (y.a.toNat : Int), .int .u8 (y.b.toNat : Int), .int .u8 (y.c.toNat : Int), .int .u8 (y.d.toNat : Int)] 24)
  have hX := (four4_new w 24 (.int .u8 (x.a.toNat : Int)) (.int .u8 (x.b.toNat : Int)) (.int .u8 (x.c.toNat : Int)) (.int .u8 (x.d.toNat : Int))).kept k1 id
  have hY := four4_new (w.alloc (.cells #[.int .u8 (x.a.toNat : Int), .int .u8 (x.b.toNat : Int), .int .u8 (x.c.toNat : Int), .int .u8 (x.d.toNat : Int)] 24)) 24 (.int .u8 (y.a.toNat : Int)) (.int .u8 (y.b.toNat : Int)) (.int .u8 (y.c.toNat : Int)) (.int .u8 (y.d.toNat : Int))
  have hs : (w.alloc (.cells #[.int .u8 (x.a.toNat : Int), .int .u8 (x.b.toNat : Int), .int .u8 (x.c.toNat : Int), .int .u8 (x.d.toNat : Int)] 24)).heap.size = w.heap.size + 1 := by simp
  rw [hs] at hY
  have HLi := hid (lightO_any v l _ (hv.kept0 k0) hl hsz)
  have HV := hid (fun (W : World) (k : Kept (fun _ => False) w W) => hv.kept0 k)
  have Hsz := hid hsz
  have HAl := hid lawAlive_any
  have HG := hid (good_any x y)
  have HR := hid (rgood_any x y)
  subst hvp
  unfold adV at HG HR ⊢
  generalize hA : (w.alloc (.cells #[.int .u8 (x.a.toNat : Int), .int .u8 (x.b.toNat : Int), .int .u8 (x.c.toNat : Int), .int .u8 (x.d.toNat : Int)] 24)).alloc (.cells #[.int .u8 (y.a.toNat : Int), .int .u8 (y.b.toNat : Int), .int .u8 (y.c.toNat : Int), .int .u8 (y.d.toNat : Int)] 24) = A at *
  have HA := hid hA
  have K0 := hid k0
  have HX := hid hX
  have HY := hid hY
  clear hv hsz k0 k1 hA hX hY hs
  cases hq : lightO l with
  | false =>
    rw [hq] at HLi
    clear hq hl
    go_enter Try.func3, Try.ntmps3
    go_upto_region 1 with fail
    rw [HA.out]
    clear HA
    go_wp2_with fail
    refine HLi.out.mono ?_
    rintro e w1 ⟨rfl, hk1⟩
    have K1 := hid (K0.out.trans hk1)
    clear hk1
    go_wp2_with fail
    refine (HAl.out _).mono ?_
    rintro e w2 ⟨rfl, hk2⟩
    have KF := hid (K1.out.trans hk2)
    clear hk2
    go_wp2
    go_ret
    exact ⟨rfl, KF.out.below (Nat.le_refl _) (fun _ h => h.elim)⟩
  | true =>
    obtain ⟨h50, h400⟩ := lightO_true hq
    rw [hq] at HLi
    have HF := hid (fun (W : World) (k : Kept (fun _ => False) w W) => iaddress_any (.slice p l.length cap) l kind W (HV.out W k) (by omega) Hsz.out)
    have HFr := hid (fun (W : World) (k : Kept (fun _ => False) w W) => raddress_any (.slice p l.length cap) l kind W (HV.out W k) (by omega))
    unfold adV at HF HFr
    have HS := hid (ad_self (adrF l kind).1)
    unfold adV at HS
    generalize (adrF l kind).1 = z at *
    generalize (adrF l kind).2 = B at *
    generalize goodF x y = G at *
    clear hq hl h50 h400
    go_enter Try.func3, Try.ntmps3
    go_upto_region 1 with fail
    rw [HA.out]
    clear HA
    go_wp2_with fail
    refine HLi.out.mono ?_
    rintro e w1 ⟨rfl, hk1⟩
    have K1 := hid (K0.out.trans hk1)
    have KA1 := hid hk1
    clear hk1
    go_wp2_with fail
    refine (HF.out _ K1.out).mono ?_
    rintro e w2 ⟨rfl, hk2⟩
    have K2 := hid (K1.out.trans hk2)
    have ka2 := (Kept.refl (fun _ => False) w2).alloc (.cells #[.int .u8 (z.a.toNat : Int), .int .u8 (z.b.toNat : Int), .int .u8 (z.c.toNat : Int), .int .u8 (z.d.toNat : Int)] 24)
    have KZ := hid ((KA1.out.trans hk2).trans ka2)
    have HZ := hid (four4_new w2 24 (.int .u8 (z.a.toNat : Int)) (.int .u8 (z.b.toNat : Int)) (.int .u8 (z.c.toNat : Int)) (.int .u8 (z.d.toNat : Int)))
    have KB := hid (K2.out.trans ka2)
    clear hk2 ka2
    go_wp2_with fail
    refine (HFr.out _ KB.out).mono ?_
    rintro e w3 ⟨rfl, hk3⟩
    have ka3 := (Kept.refl (fun _ => False) w3).alloc (.cells #[.int .u8 (z.a.toNat : Int), .int .u8 (z.b.toNat : Int), .int .u8 (z.c.toNat : Int), .int .u8 (z.d.toNat : Int)] 24)
    have KX := (KZ.out.trans hk3).trans ka3
    have S0 : (fun W => FourK w2.heap.size w3.heap.size w.heap.size (w.heap.size + 1) z z x y W ∧ Kept (fun _ => False) w W) (w3.alloc (.cells #[.int .u8 (z.a.toNat : Int), .int .u8 (z.b.toNat : Int), .int .u8 (z.c.toNat : Int), .int .u8 (z.d.toNat : Int)] 24)).drew := ⟨FourK.kept ⟨HZ.out.kept (hk3.trans ka3) id, four4_new w3 24 (.int .u8 (z.a.toNat : Int)) (.int .u8 (z.b.toNat : Int)) (.int .u8 (z.c.toNat : Int)) (.int .u8 (z.d.toNat : Int)), HX.out.kept KX id, HY.out.kept KX id⟩ (Kept.refl _ _).drew, ((KB.out.trans hk3).trans ka3).drew⟩
    clear hk3 ka3 KX
    have z0 : ∀ W, (fun W => FourK w2.heap.size w3.heap.size w.heap.size (w.heap.size + 1) z z x y W ∧ Kept (fun _ => False) w W) W → W.cell? ⟨w2.heap.size, 0, none⟩ = some (.int .u8 (z.a.toNat : Int)) := fun W h => h.1.a.1.1
    have z1 : ∀ W, (fun W => FourK w2.heap.size w3.heap.size w.heap.size (w.heap.size + 1) z z x y W ∧ Kept (fun _ => False) w W) W → W.cell? ⟨w2.heap.size, 1, none⟩ = some (.int .u8 (z.b.toNat : Int)) := fun W h => h.1.a.1.2.1
    have z2 : ∀ W, (fun W => FourK w2.heap.size w3.heap.size w.heap.size (w.heap.size + 1) z z x y W ∧ Kept (fun _ => False) w W) W → W.cell? ⟨w2.heap.size, 2, none⟩ = some (.int .u8 (z.c.toNat : Int)) := fun W h => h.1.a.1.2.2.1
    have z3 : ∀ W, (fun W => FourK w2.heap.size w3.heap.size w.heap.size (w.heap.size + 1) z z x y W ∧ Kept (fun _ => False) w W) W → W.cell? ⟨w2.heap.size, 3, none⟩ = some (.int .u8 (z.d.toNat : Int)) := fun W h => h.1.a.1.2.2.2
    have u0 : ∀ W, (fun W => FourK w2.heap.size w3.heap.size w.heap.size (w.heap.size + 1) z z x y W ∧ Kept (fun _ => False) w W) W → W.cell? ⟨w3.heap.size, 0, none⟩ = some (.int .u8 (z.a.toNat : Int)) := fun W h => h.1.b.1.1
    have u1 : ∀ W, (fun W => FourK w2.heap.size w3.heap.size w.heap.size (w.heap.size + 1) z z x y W ∧ Kept (fun _ => False) w W) W → W.cell? ⟨w3.heap.size, 1, none⟩ = some (.int .u8 (z.b.toNat : Int)) := fun W h => h.1.b.1.2.1
    have u2 : ∀ W, (fun W => FourK w2.heap.size w3.heap.size w.heap.size (w.heap.size + 1) z z x y W ∧ Kept (fun _ => False) w W) W → W.cell? ⟨w3.heap.size, 2, none⟩ = some (.int .u8 (z.c.toNat : Int)) := fun W h => h.1.b.1.2.2.1
    have u3 : ∀ W, (fun W => FourK w2.heap.size w3.heap.size w.heap.size (w.heap.size + 1) z z x y W ∧ Kept (fun _ => False) w W) W → W.cell? ⟨w3.heap.size, 3, none⟩ = some (.int .u8 (z.d.toNat : Int)) := fun W h => h.1.b.1.2.2.2
    have x0 : ∀ W, (fun W => FourK w2.heap.size w3.heap.size w.heap.size (w.heap.size + 1) z z x y W ∧ Kept (fun _ => False) w W) W → W.cell? ⟨w.heap.size, 0, none⟩ = some (.int .u8 (x.a.toNat : Int)) := fun W h => h.1.c.1.1
    have x1 : ∀ W, (fun W => FourK w2.heap.size w3.heap.size w.heap.size (w.heap.size + 1) z z x y W ∧ Kept (fun _ => False) w W) W → W.cell? ⟨w.heap.size, 1, none⟩ = some (.int .u8 (x.b.toNat : Int)) := fun W h => h.1.c.1.2.1
    have x2 : ∀ W, (fun W => FourK w2.heap.size w3.heap.size w.heap.size (w.heap.size + 1) z z x y W ∧ Kept (fun _ => False) w W) W → W.cell? ⟨w.heap.size, 2, none⟩ = some (.int .u8 (x.c.toNat : Int)) := fun W h => h.1.c.1.2.2.1
    have x3 : ∀ W, (fun W => FourK w2.heap.size w3.heap.size w.heap.size (w.heap.size + 1) z z x y W ∧ Kept (fun _ => False) w W) W → W.cell? ⟨w.heap.size, 3, none⟩ = some (.int .u8 (x.d.toNat : Int)) := fun W h => h.1.c.1.2.2.2
    have y0 : ∀ W, (fun W => FourK w2.heap.size w3.heap.size w.heap.size (w.heap.size + 1) z z x y W ∧ Kept (fun _ => False) w W) W → W.cell? ⟨w.heap.size + 1, 0, none⟩ = some (.int .u8 (y.a.toNat : Int)) := fun W h => h.1.d.1.1
    have y1 : ∀ W, (fun W => FourK w2.heap.size w3.heap.size w.heap.size (w.heap.size + 1) z z x y W ∧ Kept (fun _ => False) w W) W → W.cell? ⟨w.heap.size + 1, 1, none⟩ = some (.int .u8 (y.b.toNat : Int)) := fun W h => h.1.d.1.2.1
    have y2 : ∀ W, (fun W => FourK w2.heap.size w3.heap.size w.heap.size (w.heap.size + 1) z z x y W ∧ Kept (fun _ => False) w W) W → W.cell? ⟨w.heap.size + 1, 2, none⟩ = some (.int .u8 (y.c.toNat : Int)) := fun W h => h.1.d.1.2.2.1
    have y3 : ∀ W, (fun W => FourK w2.heap.size w3.heap.size w.heap.size (w.heap.size + 1) z z x y W ∧ Kept (fun _ => False) w W) W → W.cell? ⟨w.heap.size + 1, 3, none⟩ = some (.int .u8 (y.d.toNat : Int)) := fun W h => h.1.d.1.2.2.2
    go_upto_region 5 with fail
    generalize w3.alloc (.cells #[.int .u8 (z.a.toNat : Int), .int .u8 (z.b.toNat : Int), .int .u8 (z.c.toNat : Int), .int .u8 (z.d.toNat : Int)] 24) = A5 at *
    refine wp_region_held_drew (S := (fun W => FourK w2.heap.size w3.heap.size w.heap.size (w.heap.size + 1) z z x y W ∧ Kept (fun _ => False) w W)) (by kernel_rfl) (S0) (fun hSd => ?_)
    refine wpAnyH_ready (rs := [0]) (by kernel_rfl) (by simp) ?_
    refine AllReadyH.cons rfl (fun K hK => ?_) AllReadyH.nil
    go_simp
    refine (HAl.out _).mono ?_
    rintro e w6 ⟨rfl, hk⟩
    have S1 : (fun W => FourK w2.heap.size w3.heap.size w.heap.size (w.heap.size + 1) z z x y W ∧ Kept (fun _ => False) w W) w6 := ⟨S0.1.kept hk, S0.2.trans hk⟩
    clear hk
    refine hK.out _ _ (S1) (fun _ => ?_)
    clear hK K
    try simp only [List.getElem_toArray]
    try simp only [List.getElem_cons_succ]
    try simp only [List.getElem_cons_zero]
    try simp only [Act.put]
    try simp only [List.setIfInBounds_toArray]
    try simp only [List.set_cons_succ]
    try simp only [List.set_cons_zero]
    refine wpAnyH_take (i := 1) (v := ?_) rfl (by kernel_rfl) (by kernel_rfl) (by kernel_rfl) (fun _ _ _ h => h) (Or.inl ⟨by kernel_rfl, fun W hSW => by go_simp; try with_reducible rfl⟩) (by assumption) ?_
    try simp only [List.getElem_toArray]
    try simp only [List.getElem_cons_succ]
    try simp only [List.getElem_cons_zero]
    try simp only [Act.put]
    try simp only [List.setIfInBounds_toArray]
    try simp only [List.set_cons_succ]
    try simp only [List.set_cons_zero]
    refine wpAnyH_take (i := 2) (v := ?_) rfl (by kernel_rfl) (by kernel_rfl) (by kernel_rfl) (fun _ _ _ h => h) (Or.inl ⟨by kernel_rfl, fun W hSW => by go_simp; try with_reducible rfl⟩) (by assumption) ?_
    try simp only [List.getElem_toArray]
    try simp only [List.getElem_cons_succ]
    try simp only [List.getElem_cons_zero]
    try simp only [Act.put]
    try simp only [List.setIfInBounds_toArray]
    try simp only [List.set_cons_succ]
    try simp only [List.set_cons_zero]
    refine wpAnyH_take (i := 3) (v := ?_) rfl (by kernel_rfl) (by kernel_rfl) (by kernel_rfl) (fun _ _ _ h => h) (Or.inl ⟨by kernel_rfl, fun W hSW => by go_simp; try with_reducible rfl⟩) (by assumption) ?_
    try simp only [List.getElem_toArray]
    try simp only [List.getElem_cons_succ]
    try simp only [List.getElem_cons_zero]
    try simp only [Act.put]
    try simp only [List.setIfInBounds_toArray]
    try simp only [List.set_cons_succ]
    try simp only [List.set_cons_zero]
    refine wpAnyH_take (i := 4) (v := .bool true) rfl (by kernel_rfl) (by kernel_rfl) (by kernel_rfl) (fun _ _ _ h => h) (Or.inl ⟨by kernel_rfl, fun W _ => execOp_eql (by kernel_rfl) rfl rfl rfl (HS.out W)⟩) (by assumption) ?_
    try simp only [List.getElem_toArray]
    try simp only [List.getElem_cons_succ]
    try simp only [List.getElem_cons_zero]
    try simp only [Act.put]
    try simp only [List.setIfInBounds_toArray]
    try simp only [List.set_cons_succ]
    try simp only [List.set_cons_zero]
    refine wpAnyH_take (i := 5) (v := .bool true) rfl (by kernel_rfl) (by kernel_rfl) (by kernel_rfl) (fun _ _ _ h => h) (Or.inl ⟨by kernel_rfl, fun W hSW => by go_simp; try with_reducible rfl⟩) (by assumption) ?_
    try simp only [List.getElem_toArray]
    try simp only [List.getElem_cons_succ]
    try simp only [List.getElem_cons_zero]
    try simp only [Act.put]
    try simp only [List.setIfInBounds_toArray]
    try simp only [List.set_cons_succ]
    try simp only [List.set_cons_zero]
    refine wpAnyH_take (i := 6) (v := ?_) rfl (by kernel_rfl) (by kernel_rfl) (by kernel_rfl) (fun _ _ _ h => h) (Or.inl ⟨by kernel_rfl, fun W hSW => by go_simp; try with_reducible rfl⟩) (by assumption) ?_
    try simp only [List.getElem_toArray]
    try simp only [List.getElem_cons_succ]
    try simp only [List.getElem_cons_zero]
    try simp only [Act.put]
    try simp only [List.setIfInBounds_toArray]
    try simp only [List.set_cons_succ]
    try simp only [List.set_cons_zero]
    refine wpAnyH_take (i := 7) (v := ?_) rfl (by kernel_rfl) (by kernel_rfl) (by kernel_rfl) (fun _ _ _ h => h) (Or.inl ⟨by kernel_rfl, fun W hSW => by go_simp; try with_reducible rfl⟩) (by assumption) ?_
    try simp only [List.getElem_toArray]
    try simp only [List.getElem_cons_succ]
    try simp only [List.getElem_cons_zero]
    try simp only [Act.put]
    try simp only [List.setIfInBounds_toArray]
    try simp only [List.set_cons_succ]
    try simp only [List.set_cons_zero]
    refine wpAnyH_take (i := 8) (v := ?_) rfl (by kernel_rfl) (by kernel_rfl) (by kernel_rfl) (fun _ _ _ h => h) (Or.inl ⟨by kernel_rfl, fun W hSW => by go_simp; try with_reducible rfl⟩) (by assumption) ?_
    try simp only [List.getElem_toArray]
    try simp only [List.getElem_cons_succ]
    try simp only [List.getElem_cons_zero]
    try simp only [Act.put]
    try simp only [List.setIfInBounds_toArray]
    try simp only [List.set_cons_succ]
    try simp only [List.set_cons_zero]
    refine wpAnyH_take (i := 9) (v := .bool true) rfl (by kernel_rfl) (by kernel_rfl) (by kernel_rfl) (fun _ _ _ h => h) (Or.inl ⟨by kernel_rfl, fun W hSW => by go_simp; try with_reducible rfl⟩) (by assumption) ?_
    try simp only [List.getElem_toArray]
    try simp only [List.getElem_cons_succ]
    try simp only [List.getElem_cons_zero]
    try simp only [Act.put]
    try simp only [List.setIfInBounds_toArray]
    try simp only [List.set_cons_succ]
    try simp only [List.set_cons_zero]
    refine wpAnyH_take (i := 10) (v := .bool true) rfl (by kernel_rfl) (by kernel_rfl) (by kernel_rfl) (fun _ _ _ h => h) (Or.inl ⟨by kernel_rfl, fun W hSW => by go_simp; try with_reducible rfl⟩) (by assumption) ?_
    try simp only [List.getElem_toArray]
    try simp only [List.getElem_cons_succ]
    try simp only [List.getElem_cons_zero]
    try simp only [Act.put]
    try simp only [List.setIfInBounds_toArray]
    try simp only [List.set_cons_succ]
    try simp only [List.set_cons_zero]
    refine wpAnyH_take (i := 11) (v := ?_) rfl (by kernel_rfl) (by kernel_rfl) (by kernel_rfl) (fun _ _ _ h => h) (Or.inl ⟨by kernel_rfl, fun W hSW => by go_simp; try with_reducible rfl⟩) (by assumption) ?_
    try simp only [List.getElem_toArray]
    try simp only [List.getElem_cons_succ]
    try simp only [List.getElem_cons_zero]
    try simp only [Act.put]
    try simp only [List.setIfInBounds_toArray]
    try simp only [List.set_cons_succ]
    try simp only [List.set_cons_zero]
    refine wpAnyH_take (i := 12) (v := ?_) rfl (by kernel_rfl) (by kernel_rfl) (by kernel_rfl) (fun _ _ _ h => h) (Or.inl ⟨by kernel_rfl, fun W hSW => by go_simp; try with_reducible rfl⟩) (by assumption) ?_
    try simp only [List.getElem_toArray]
    try simp only [List.getElem_cons_succ]
    try simp only [List.getElem_cons_zero]
    try simp only [Act.put]
    try simp only [List.setIfInBounds_toArray]
    try simp only [List.set_cons_succ]
    try simp only [List.set_cons_zero]
    refine wpAnyH_take (i := 13) (v := ?_) rfl (by kernel_rfl) (by kernel_rfl) (by kernel_rfl) (fun _ _ _ h => h) (Or.inl ⟨by kernel_rfl, fun W hSW => by go_simp; try with_reducible rfl⟩) (by assumption) ?_
    try simp only [List.getElem_toArray]
    try simp only [List.getElem_cons_succ]
    try simp only [List.getElem_cons_zero]
    try simp only [Act.put]
    try simp only [List.setIfInBounds_toArray]
    try simp only [List.set_cons_succ]
    try simp only [List.set_cons_zero]
    refine wpAnyH_take (i := 15) (v := ?_) rfl (by kernel_rfl) (by kernel_rfl) (by kernel_rfl) (fun _ _ _ h => h) (Or.inl ⟨by kernel_rfl, fun W hSW => by go_simp; try with_reducible rfl⟩) (by assumption) ?_
    try simp only [List.getElem_toArray]
    try simp only [List.getElem_cons_succ]
    try simp only [List.getElem_cons_zero]
    try simp only [Act.put]
    try simp only [List.setIfInBounds_toArray]
    try simp only [List.set_cons_succ]
    try simp only [List.set_cons_zero]
    refine wpAnyH_take (i := 16) (v := ?_) rfl (by kernel_rfl) (by kernel_rfl) (by kernel_rfl) (fun _ _ _ h => h) (Or.inl ⟨by kernel_rfl, fun W hSW => by go_simp; try with_reducible rfl⟩) (by assumption) ?_
    try simp only [List.getElem_toArray]
    try simp only [List.getElem_cons_succ]
    try simp only [List.getElem_cons_zero]
    try simp only [Act.put]
    try simp only [List.setIfInBounds_toArray]
    try simp only [List.set_cons_succ]
    try simp only [List.set_cons_zero]
    refine wpAnyH_ready (rs := [14]) (by kernel_rfl) (by simp) ?_
    refine AllReadyH.cons rfl (fun K hK => ?_) AllReadyH.nil
    go_simp
    refine (HG.out _).mono ?_
    rintro e w7 ⟨rfl, hk⟩
    have S2 : (fun W => FourK w2.heap.size w3.heap.size w.heap.size (w.heap.size + 1) z z x y W ∧ Kept (fun _ => False) w W) w7 := ⟨S1.1.kept hk, S1.2.trans hk⟩
    clear hk
    refine hK.out _ _ (S2) (fun _ => ?_)
    clear hK K
    try simp only [List.getElem_toArray]
    try simp only [List.getElem_cons_succ]
    try simp only [List.getElem_cons_zero]
    try simp only [Act.put]
    try simp only [List.setIfInBounds_toArray]
    try simp only [List.set_cons_succ]
    try simp only [List.set_cons_zero]
    refine wpAnyH_ready (rs := [17]) (by kernel_rfl) (by simp) ?_
    refine AllReadyH.cons rfl (fun K hK => ?_) AllReadyH.nil
    go_simp
    refine (HR.out _).mono ?_
    rintro e w8 ⟨rfl, hk⟩
    have S3 : (fun W => FourK w2.heap.size w3.heap.size w.heap.size (w.heap.size + 1) z z x y W ∧ Kept (fun _ => False) w W) w8 := ⟨S2.1.kept hk, S2.2.trans hk⟩
    clear hk
    refine hK.out _ _ (S3) (fun _ => ?_)
    clear hK K
    try simp only [List.getElem_toArray]
    try simp only [List.getElem_cons_succ]
    try simp only [List.getElem_cons_zero]
    try simp only [Act.put]
    try simp only [List.setIfInBounds_toArray]
    try simp only [List.set_cons_succ]
    try simp only [List.set_cons_zero]
    refine wpAnyH_take (i := 18) (v := .bool true) rfl (by kernel_rfl) (by kernel_rfl) (by kernel_rfl) (fun _ _ _ h => h) (Or.inl ⟨by kernel_rfl, fun W hSW => by go_simp; try with_reducible rfl⟩) (by assumption) ?_
    try simp only [List.getElem_toArray]
    try simp only [List.getElem_cons_succ]
    try simp only [List.getElem_cons_zero]
    try simp only [Act.put]
    try simp only [List.setIfInBounds_toArray]
    try simp only [List.set_cons_succ]
    try simp only [List.set_cons_zero]
    refine wpAnyH_take (i := 19) (v := .bool true) rfl (by kernel_rfl) (by kernel_rfl) (by kernel_rfl) (fun _ _ _ h => h) (Or.inl ⟨by kernel_rfl, fun W hSW => by go_simp; try with_reducible rfl⟩) (by assumption) ?_
    try simp only [List.getElem_toArray]
    try simp only [List.getElem_cons_succ]
    try simp only [List.getElem_cons_zero]
    try simp only [Act.put]
    try simp only [List.setIfInBounds_toArray]
    try simp only [List.set_cons_succ]
    try simp only [List.set_cons_zero]
    refine wpAnyH_take (i := 20) (v := ?_) rfl (by kernel_rfl) (by kernel_rfl) (by kernel_rfl) (fun _ _ _ h => h) (Or.inl ⟨by kernel_rfl, fun W hSW => by go_simp; try with_reducible rfl⟩) (by assumption) ?_
    try simp only [List.getElem_toArray]
    try simp only [List.getElem_cons_succ]
    try simp only [List.getElem_cons_zero]
    try simp only [Act.put]
    try simp only [List.setIfInBounds_toArray]
    try simp only [List.set_cons_succ]
    try simp only [List.set_cons_zero]
    refine wpAnyH_done (by kernel_rfl) ?_ _
    have KF := hid S3.2
    clear S0 S1 S2 S3
    go_wp2
    go_ret
    exact ⟨rfl, KF.out.below (Nat.le_refl _) (fun _ h => h.elim)⟩
end Go.Proofs.Ytcmdfcdmfdheeaa
