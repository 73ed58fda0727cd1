/- The contract of an end's launch: the first one that waits flies. (Written by gen_cnlaunch.py.) -/
import Derived.Test.YtoflohomnoppnaaCnItem
import Derived.Test.YtoflohomnoppnaaHeldBut
namespace Go.Proofs.Ytoflohomnoppnaa
open Go.RowKit

set_option maxHeartbeats 8000000 in
set_option maxRecDepth 100000 in
theorem launch_any {w : World} {b : Nat} {c : Cn} {vw vf : Value} (h : CnIn w b c vw vf) (hg : GoodN c) (x : ByteArray) (r : List ByteArray) (hw : c.waits = x :: r) :
    Calls Try.prog 31 #[.pointer (some ⟨b, 0, none⟩)] w fun e w' => e = .returned (iteV ⟨c.next, c.come, x⟩) ∧ ∃ vw' vf', NextN w w' b vw vf (launchN c x r) vw' vf' := by
  have hfl := hg.flies.1
  have hnx := hg.next
  have w1 : IntKind.i64.wrap (c.next + 1) = c.next + 1 := by rw [IntKind.wrap_i64]; omega
  obtain ⟨gw, cw, hvw, _, hcw, hmw, hcellw, hfw⟩ := h.rw.lies (by rw [hw]; exact List.cons_ne_nil _ _)
  obtain ⟨n, hn⟩ : ∃ n, n = c.waits.length := ⟨_, rfl⟩
  have hn0 : 0 < n := by rw [hn, hw]; simp
  rw [← hn] at hvw hcw hcellw
  have hx0 : w.cell? ⟨gw, 0, none⟩ = some (.string x) := by
    rw [hcellw 0 (by omega), hw]
    rfl
  have hn0z : (0 : Int) < (n : Int) := by omega
  subst hvw
  obtain ⟨p, cap, hvf⟩ := own_slice h.rf
  obtain ⟨m, hm⟩ : ∃ m, m = c.flies.length := ⟨_, rfl⟩
  rw [← hm] at hvf
  subst hvf
  have hq40 : Hid (c.flies.length ≤ 10000) := by show _ ≤ _; omega
  have H := hid h
  have Hw := hid hw
  have hgw : gw < w.heap.size := lt_of_cell hx0
  have HI0 := hid (fun W (hk : Kept (fun _ => False) w W) => item_any b c.come c.next x W ((hk.cell (p := ⟨b, 8, none⟩) h.blk.lt id).trans h.blk.cells.2.2.2.2.2.2.2.2.1))
  have HWr := hid (fun W => wrap_any (c.next + 1) W)
  have K0 := hid ((Kept.refl (fun _ => False) w).alloc (.cells #[.int .i64 0, .int .i64 0, .string ⟨#[]⟩] 25))
  have B0 := hid (IteB.new w ⟨0, 0, ⟨#[]⟩⟩)
  have r7 : ∀ W, Kept (fun _ => False) w W → W.cell? ⟨b, 7, none⟩ = some (.int .i64 c.next) := fun W hk => (h.kept0 hk).blk.cell 7
  have r9 : ∀ W, Kept (fun _ => False) w W → W.cell? ⟨b, 9, none⟩ = some (.slice (some ⟨gw, 0, none⟩) n cw) := fun W hk => (h.kept0 hk).blk.cell 9
  have rx : ∀ W, Kept (fun _ => False) w W → W.cell? ⟨gw, 0, none⟩ = some (.string x) := fun W hk => (hk.cell (p := ⟨gw, 0, none⟩) hgw id).trans hx0
  have R7 := hid r7
  have R9 := hid r9
  have RX := hid rx
  have HM := hid hm
  have HN := hid hn
  clear h hg hw hcellw hfw hx0 hcw hmw hfl hnx r7 r9 rx hgw hm hn
  unfold iteV at HI0 ⊢
  dsimp only at HI0 ⊢
  go_enter Try.func31, Try.ntmps31
  go_upto_region 1 with fail
  generalize w.alloc (.cells #[.int .i64 0, .int .i64 0, .string ⟨#[]⟩] 25) = X at *
  have HI := hid (fun W (hk : Kept (fun _ => False) X W) => HI0.out W (K0.out.trans hk))
  clear HI0
  have q7 : ∀ U, Kept (fun _ => False) X U → U.cell? ⟨b, 7, none⟩ = some (.int .i64 c.next) := fun U hk => R7.out U (K0.out.trans hk)
  have q9 : ∀ U, Kept (fun _ => False) X U → U.cell? ⟨b, 9, none⟩ = some (.slice (some ⟨gw, 0, none⟩) n cw) := fun U hk => R9.out U (K0.out.trans hk)
  have qx : ∀ U, Kept (fun _ => False) X U → U.cell? ⟨gw, 0, none⟩ = some (.string x) := fun U hk => RX.out U (K0.out.trans hk)
  go_cut [3] from 4 to 16 (fun v wx => ∃ bx, v = .pointer (some ⟨bx, 0, none⟩) ∧ IteB wx bx ⟨c.next, c.come, x⟩ ∧ X.heap.size ≤ bx ∧ Kept (fun _ => False) X wx)
  case first =>
    refine wp_region_held_drew (S := Kept (fun _ => False) X) (by kernel_rfl) ((Kept.refl _ X).drew) (fun hSd => ?_)
    refine wpAnyH_take (i := 0) (v := ?_) rfl (by kernel_rfl) (by kernel_rfl) (by kernel_rfl) (fun _ _ _ h => h) (Or.inl ⟨by kernel_rfl, fun W hSW => by go_simp; try with_reducible rfl⟩) (by assumption) ?_
    try simp only [List.getElem_toArray]
    try simp only [List.getElem_cons_succ]
    try simp only [List.getElem_cons_zero]
    try simp only [Act.put]
    try simp only [List.setIfInBounds_toArray]
    try simp only [List.set_cons_succ]
    try simp only [List.set_cons_zero]
    refine wpAnyH_take (i := 1) (v := ?_) rfl (by kernel_rfl) (by kernel_rfl) (by kernel_rfl) (fun _ _ _ h => h) (Or.inl ⟨by kernel_rfl, fun W hSW => by go_simp; try with_reducible rfl⟩) (by assumption) ?_
    try simp only [List.getElem_toArray]
    try simp only [List.getElem_cons_succ]
    try simp only [List.getElem_cons_zero]
    try simp only [Act.put]
    try simp only [List.setIfInBounds_toArray]
    try simp only [List.set_cons_succ]
    try simp only [List.set_cons_zero]
    refine wpAnyH_take (i := 2) (v := ?_) rfl (by kernel_rfl) (by kernel_rfl) (by kernel_rfl) (fun _ _ _ h => h) (Or.inl ⟨by kernel_rfl, fun W hSW => by go_simp; try with_reducible rfl⟩) (by assumption) ?_
    try simp only [List.getElem_toArray]
    try simp only [List.getElem_cons_succ]
    try simp only [List.getElem_cons_zero]
    try simp only [Act.put]
    try simp only [List.setIfInBounds_toArray]
    try simp only [List.set_cons_succ]
    try simp only [List.set_cons_zero]
    refine wpAnyH_take (i := 3) (v := ?_) rfl (by kernel_rfl) (by kernel_rfl) (by kernel_rfl) (fun _ _ _ h => h) (Or.inl ⟨by kernel_rfl, fun W hSW => by go_simp; try with_reducible rfl⟩) (by assumption) ?_
    try simp only [List.getElem_toArray]
    try simp only [List.getElem_cons_succ]
    try simp only [List.getElem_cons_zero]
    try simp only [Act.put]
    try simp only [List.setIfInBounds_toArray]
    try simp only [List.set_cons_succ]
    try simp only [List.set_cons_zero]
    refine wpAnyH_take (i := 4) (v := ?_) rfl (by kernel_rfl) (by kernel_rfl) (by kernel_rfl) (fun _ _ _ h => h) (Or.inl ⟨by kernel_rfl, fun W hSW => by go_simp; try with_reducible rfl⟩) (by assumption) ?_
    try simp only [List.getElem_toArray]
    try simp only [List.getElem_cons_succ]
    try simp only [List.getElem_cons_zero]
    try simp only [Act.put]
    try simp only [List.setIfInBounds_toArray]
    try simp only [List.set_cons_succ]
    try simp only [List.set_cons_zero]
    refine wpAnyH_take (i := 5) (v := ?_) rfl (by kernel_rfl) (by kernel_rfl) (by kernel_rfl) (fun _ _ _ h => h) (Or.inl ⟨by kernel_rfl, fun W hSW => by go_simp; try with_reducible rfl⟩) (by assumption) ?_
    try simp only [List.getElem_toArray]
    try simp only [List.getElem_cons_succ]
    try simp only [List.getElem_cons_zero]
    try simp only [Act.put]
    try simp only [List.setIfInBounds_toArray]
    try simp only [List.set_cons_succ]
    try simp only [List.set_cons_zero]
    refine wpAnyH_take (i := 6) (v := ?_) rfl (by kernel_rfl) (by kernel_rfl) (by kernel_rfl) (fun _ _ _ h => h) (Or.inl ⟨by kernel_rfl, fun W hSW => by go_simp; try with_reducible rfl⟩) (by assumption) ?_
    try simp only [List.getElem_toArray]
    try simp only [List.getElem_cons_succ]
    try simp only [List.getElem_cons_zero]
    try simp only [Act.put]
    try simp only [List.setIfInBounds_toArray]
    try simp only [List.set_cons_succ]
    try simp only [List.set_cons_zero]
    refine wpAnyH_take (i := 7) (v := ?_) rfl (by kernel_rfl) (by kernel_rfl) (by kernel_rfl) (fun _ _ _ h => h) (Or.inl ⟨by kernel_rfl, fun W hSW => by go_simp; try with_reducible rfl⟩) (by assumption) ?_
    try simp only [List.getElem_toArray]
    try simp only [List.getElem_cons_succ]
    try simp only [List.getElem_cons_zero]
    try simp only [Act.put]
    try simp only [List.setIfInBounds_toArray]
    try simp only [List.set_cons_succ]
    try simp only [List.set_cons_zero]
    refine wpAnyH_take (i := 8) (v := ?_) rfl (by kernel_rfl) (by kernel_rfl) (by kernel_rfl) (fun _ _ _ h => h) (Or.inl ⟨by kernel_rfl, fun W hSW => by go_simp; try with_reducible rfl⟩) (by assumption) ?_
    try simp only [List.getElem_toArray]
    try simp only [List.getElem_cons_succ]
    try simp only [List.getElem_cons_zero]
    try simp only [Act.put]
    try simp only [List.setIfInBounds_toArray]
    try simp only [List.set_cons_succ]
    try simp only [List.set_cons_zero]
    refine wpAnyH_take (i := 9) (v := ?_) rfl (by kernel_rfl) (by kernel_rfl) (by kernel_rfl) (fun _ _ _ h => h) (Or.inl ⟨by kernel_rfl, fun W hSW => by go_simp; try with_reducible rfl⟩) (by assumption) ?_
    try simp only [List.getElem_toArray]
    try simp only [List.getElem_cons_succ]
    try simp only [List.getElem_cons_zero]
    try simp only [Act.put]
    try simp only [List.setIfInBounds_toArray]
    try simp only [List.set_cons_succ]
    try simp only [List.set_cons_zero]
    refine wpAnyH_take (i := 10) (v := ?_) rfl (by kernel_rfl) (by kernel_rfl) (by kernel_rfl) (fun _ _ _ h => h) (Or.inl ⟨by kernel_rfl, fun W hSW => by go_simp; try with_reducible rfl⟩) (by assumption) ?_
    try simp only [List.getElem_toArray]
    try simp only [List.getElem_cons_succ]
    try simp only [List.getElem_cons_zero]
    try simp only [Act.put]
    try simp only [List.setIfInBounds_toArray]
    try simp only [List.set_cons_succ]
    try simp only [List.set_cons_zero]
    refine wpAnyH_ready (rs := [11, 12]) (by kernel_rfl) (by simp) ?_
    refine AllReadyH.cons rfl (fun K hK => ?_) (AllReadyH.cons rfl (fun K hK => ?_) AllReadyH.nil)
    · skip
      go_simp
      refine (HI.out _ hSd).mono ?_
      rintro e v1 ⟨rfl, hk⟩
      have kv1 : Kept (fun _ => False) X v1 := hSd.trans hk
      clear hk
      refine hK.out _ _ (kv1) (fun _ => ?_)
      clear hK K
      try simp only [List.getElem_toArray]
      try simp only [List.getElem_cons_succ]
      try simp only [List.getElem_cons_zero]
      try simp only [Act.put]
      try simp only [List.setIfInBounds_toArray]
      try simp only [List.set_cons_succ]
      try simp only [List.set_cons_zero]
      refine wpAnyH_ready (rs := [12]) (by kernel_rfl) (by simp) ?_
      refine AllReadyH.cons rfl (fun K hK => ?_) AllReadyH.nil
      go_simp
      have kv3 : Kept (fun _ => False) X (World.alloc v1 (.cells #[.int .i64 0, .int .i64 0, .string ⟨#[]⟩] 25)) := kv1.alloc _
      have bv3 : IteB (World.alloc v1 (.cells #[.int .i64 0, .int .i64 0, .string ⟨#[]⟩] 25)) v1.heap.size ⟨0, 0, ⟨#[]⟩⟩ := IteB.new v1 ⟨0, 0, ⟨#[]⟩⟩
      have lv3 : X.heap.size ≤ v1.heap.size := kv1.size
      refine hK.out _ _ (kv3) (fun _ => ?_)
      clear hK K
      try simp only [List.getElem_toArray]
      try simp only [List.getElem_cons_succ]
      try simp only [List.getElem_cons_zero]
      try simp only [Act.put]
      try simp only [List.setIfInBounds_toArray]
      try simp only [List.set_cons_succ]
      try simp only [List.set_cons_zero]
      obtain ⟨wz, hrun, hld, hkz⟩ := store_ite bv3 ⟨c.next, c.come, x⟩
      have hSz : Kept (fun _ => False) X wz := kv3.andThen hkz (fun i hi e => by have := lv3; omega)
      refine wpAnyH_ready (rs := [13]) (by kernel_rfl) (by simp) ?_
      refine AllReadyH.cons rfl (fun K hK => ?_) AllReadyH.nil
      refine stepB_store rfl (.tmp 3) (.tmp 15) 25 rfl _ _ rfl rfl hrun ?_
      refine hK.out _ _ (hSz) (fun _ => ?_)
      clear hK K
      try simp only [List.getElem_toArray]
      try simp only [List.getElem_cons_succ]
      try simp only [List.getElem_cons_zero]
      try simp only [Act.put]
      try simp only [List.setIfInBounds_toArray]
      try simp only [List.set_cons_succ]
      try simp only [List.set_cons_zero]
      refine wpAnyH_done (by kernel_rfl) ?_ _
      clear hrun hkz
      go_wp2
      go_meet
      exact ⟨_, rfl, hld, lv3, hSz⟩
    · skip
      go_simp
      have kv6 : Kept (fun _ => False) X (World.alloc X (.cells #[.int .i64 0, .int .i64 0, .string ⟨#[]⟩] 25)).drew := ((Kept.refl (fun _ => False) X).alloc _).drew
      have bv6 : IteB (World.alloc X (.cells #[.int .i64 0, .int .i64 0, .string ⟨#[]⟩] 25)).drew X.heap.size ⟨0, 0, ⟨#[]⟩⟩ := (IteB.new X ⟨0, 0, ⟨#[]⟩⟩).kept (S := fun _ => False) (Kept.refl _ _).drew id
      have lv6 : X.heap.size ≤ X.heap.size := Nat.le_refl _
      refine hK.out _ _ (kv6) (fun _ => ?_)
      clear hK K
      try simp only [List.getElem_toArray]
      try simp only [List.getElem_cons_succ]
      try simp only [List.getElem_cons_zero]
      try simp only [Act.put]
      try simp only [List.setIfInBounds_toArray]
      try simp only [List.set_cons_succ]
      try simp only [List.set_cons_zero]
      refine wpAnyH_ready (rs := [11]) (by kernel_rfl) (by simp) ?_
      refine AllReadyH.cons rfl (fun K hK => ?_) AllReadyH.nil
      go_simp
      refine (HI.out _ kv6).mono ?_
      rintro e v7 ⟨rfl, hk⟩
      have kv7 : Kept (fun _ => False) X v7 := kv6.trans hk
      have bv7 := bv6.kept hk id
      clear hk
      refine hK.out _ _ (kv7) (fun _ => ?_)
      clear hK K
      try simp only [List.getElem_toArray]
      try simp only [List.getElem_cons_succ]
      try simp only [List.getElem_cons_zero]
      try simp only [Act.put]
      try simp only [List.setIfInBounds_toArray]
      try simp only [List.set_cons_succ]
      try simp only [List.set_cons_zero]
      obtain ⟨wz, hrun, hld, hkz⟩ := store_ite bv7 ⟨c.next, c.come, x⟩
      have hSz : Kept (fun _ => False) X wz := kv7.andThen hkz (fun i hi e => by have := lv6; omega)
      refine wpAnyH_ready (rs := [13]) (by kernel_rfl) (by simp) ?_
      refine AllReadyH.cons rfl (fun K hK => ?_) AllReadyH.nil
      refine stepB_store rfl (.tmp 3) (.tmp 15) 25 rfl _ _ rfl rfl hrun ?_
      refine hK.out _ _ (hSz) (fun _ => ?_)
      clear hK K
      try simp only [List.getElem_toArray]
      try simp only [List.getElem_cons_succ]
      try simp only [List.getElem_cons_zero]
      try simp only [Act.put]
      try simp only [List.setIfInBounds_toArray]
      try simp only [List.set_cons_succ]
      try simp only [List.set_cons_zero]
      refine wpAnyH_done (by kernel_rfl) ?_ _
      clear hrun hkz
      go_wp2
      go_meet
      exact ⟨_, rfl, hld, lv6, hSz⟩
  obtain ⟨bx, rfl, hbx, hlx, hkx⟩ := hcut
  clear q7 q9 qx R7 R9 RX HI
  have KX := hid (K0.out.trans hkx)
  have HX1 := hid (H.out.kept0 KX.out)
  have HB0 := hid (B0.out.kept hkx id)
  have HBX := hid hbx
  have hne0 : Hid (bx ≠ w.heap.size) := by
    show _ ≠ _
    have := B0.out.lt
    omega
  have hlow : Hid (w.heap.size ≤ bx) := by
    show _ ≤ _
    have := B0.out.lt
    omega
  have hd := del_any HX1.out.rw 1 (by rw [Hw.out]; simp) (by rw [Hw.out]; exact List.cons_ne_nil _ _)
  rw [show ((1 : Nat) : Int) = 1 from rfl] at hd
  have HD := hid hd
  have d9 : wc.cell? ⟨b, 9, none⟩ = some (.slice (some ⟨gw, 0, none⟩) n cw) := HX1.out.blk.cell 9
  clear hd hbx hkx hlx B0 K0
  go_wp2_with fail
  refine (HD.out).mono ?_
  rintro e w2 ⟨v2, rfl, ho2, hb2, hk2⟩
  have hr2 : c.waits.drop 1 = r := by rw [Hw.out]; rfl
  rw [hr2] at ho2
  obtain ⟨p2, cap2, hv2⟩ := own_slice ho2
  generalize r.length = n2 at hv2
  subst hv2
  have hB2 := HX1.out.blk.kept hk2 (fun e => HX1.out.nw e)
  have f9 := hB2.soft 9
  have e9 : w2.cell? ⟨b, 9, none⟩ = some (.slice (some ⟨gw, 0, none⟩) n cw) := hB2.cell 9
  have HN2 := hid (NextN.dropW HX1.out ho2 hb2 hk2)
  clear ho2 hb2 hk2 hB2 HD hr2 d9
  go_upto_region 3 with fail
  generalize w2.setCell ⟨b, 9, none⟩ (.slice p2 n2 cap2) = Y at *
  clear f9 e9
  have HBY := hid (HBX.out.kept HN2.out.kept (HX1.out.unlikeB HBX.out))
  have HBZ := hid (HB0.out.kept HN2.out.kept (HX1.out.unlikeB HB0.out))
  have HY := hid HN2.out.mem
  have hdrY : Kept (fun _ => False) Y Y.drew := (Kept.refl _ Y).drew
  obtain ⟨v3, w3, happ, ho3, hk3, hn3⟩ := push_one tyS encS_ok (HY.out.kept0 hdrY).rf (Nat.zero_le _) x hq40.out
  obtain ⟨p3, cap3, hv3⟩ := own_slice ho3
  generalize (c.flies ++ [x]).length = n3 at hv3
  subst hv3
  have q10 : ∀ U, Kept (fun i => (Value.slice p m cap).ownBlock = some i) Y U → U.cell? ⟨b, 10, none⟩ = some (.slice p m cap) := fun U hk => (HY.out.blk.kept hk (fun e => HY.out.nf e)).cell 10
  have qb : ∀ U, Kept (fun i => (Value.slice p m cap).ownBlock = some i) Y U → U.cell? ⟨bx, 2, none⟩ = some (.string x) := fun U hk => (HBY.out.kept hk (fun e => HY.out.unlikeB HBY.out (Or.inr (Or.inr e)))).c2
  have hB3 := (HY.out.kept0 hdrY).blk.kept hk3 (fun e => HY.out.nf e)
  have f10 := hB3.soft 10
  have e10 : w3.cell? ⟨b, 10, none⟩ = some (.slice p m cap) := hB3.cell 10
  have HN3 := hid (NextN.pushF (HY.out.kept0 hdrY) ho3 hn3 hk3)
  have hS1 : Kept (fun i => (Value.slice p m cap).ownBlock = some i) Y Y.drew := hdrY.mono (fun _ _ f => f.elim)
  have hS2 : Kept (fun i => (Value.slice p m cap).ownBlock = some i) Y (Y.alloc (.cells #[.string x] 9)).drew := ((Kept.refl _ Y).alloc _).drew
  have hS3 : Kept (fun i => (Value.slice p m cap).ownBlock = some i) Y w3 := hS1.andThen hk3 (fun _ _ s => s)
  have hrun : ∀ ty, (Builtin.append_ #[29, 29] ty #[.slice p m cap, .slice (some ⟨Y.heap.size, 0, none⟩) 1 1]).run Try.prog (Y.alloc (.cells #[.string x] 9)).drew = .ok (.slice p3 n3 cap3) w3 := happ
  clear happ ho3 hk3 hn3 hB3
  refine wp_region_but (S := Kept (fun i => (Value.slice p m cap).ownBlock = some i) Y) 11 (by kernel_rfl) (hS1) (fun hSd => ?_)
  refine wpAnyB_take (i := 0) (v := ?_) rfl (by kernel_rfl) (by kernel_rfl) (by kernel_rfl) (by kernel_rfl) (by kernel_rfl) (fun _ _ _ h => h) (Or.inl ⟨by kernel_rfl, fun W hSW => by go_simp; try with_reducible rfl⟩) (by assumption) ?_
  try simp only [List.getElem_toArray]
  try simp only [List.getElem_cons_succ]
  try simp only [List.getElem_cons_zero]
  try simp only [Act.put]
  try simp only [List.setIfInBounds_toArray]
  try simp only [List.set_cons_succ]
  try simp only [List.set_cons_zero]
  refine wpAnyB_take (i := 1) (v := ?_) rfl (by kernel_rfl) (by kernel_rfl) (by kernel_rfl) (by kernel_rfl) (by kernel_rfl) (fun _ _ _ h => h) (Or.inl ⟨by kernel_rfl, fun W hSW => by go_simp; try with_reducible rfl⟩) (by assumption) ?_
  try simp only [List.getElem_toArray]
  try simp only [List.getElem_cons_succ]
  try simp only [List.getElem_cons_zero]
  try simp only [Act.put]
  try simp only [List.setIfInBounds_toArray]
  try simp only [List.set_cons_succ]
  try simp only [List.set_cons_zero]
  refine wpAnyB_take (i := 2) (v := ?_) rfl (by kernel_rfl) (by kernel_rfl) (by kernel_rfl) (by kernel_rfl) (by kernel_rfl) (fun _ _ _ h => h) (Or.inl ⟨by kernel_rfl, fun W hSW => by go_simp; try with_reducible rfl⟩) (by assumption) ?_
  try simp only [List.getElem_toArray]
  try simp only [List.getElem_cons_succ]
  try simp only [List.getElem_cons_zero]
  try simp only [Act.put]
  try simp only [List.setIfInBounds_toArray]
  try simp only [List.set_cons_succ]
  try simp only [List.set_cons_zero]
  refine wpAnyB_take (i := 3) (v := ?_) rfl (by kernel_rfl) (by kernel_rfl) (by kernel_rfl) (by kernel_rfl) (by kernel_rfl) (fun _ _ _ h => h) (Or.inl ⟨by kernel_rfl, fun W hSW => by go_simp; try with_reducible rfl⟩) (by assumption) ?_
  try simp only [List.getElem_toArray]
  try simp only [List.getElem_cons_succ]
  try simp only [List.getElem_cons_zero]
  try simp only [Act.put]
  try simp only [List.setIfInBounds_toArray]
  try simp only [List.set_cons_succ]
  try simp only [List.set_cons_zero]
  refine wpAnyB_take (i := 4) (v := ?_) rfl (by kernel_rfl) (by kernel_rfl) (by kernel_rfl) (by kernel_rfl) (by kernel_rfl) (fun _ _ _ h => h) (Or.inl ⟨by kernel_rfl, fun W hSW => by go_simp; try with_reducible rfl⟩) (by assumption) ?_
  try simp only [List.getElem_toArray]
  try simp only [List.getElem_cons_succ]
  try simp only [List.getElem_cons_zero]
  try simp only [Act.put]
  try simp only [List.setIfInBounds_toArray]
  try simp only [List.set_cons_succ]
  try simp only [List.set_cons_zero]
  refine wpAnyB_take (i := 5) (v := ?_) rfl (by kernel_rfl) (by kernel_rfl) (by kernel_rfl) (by kernel_rfl) (by kernel_rfl) (fun _ _ _ h => h) (Or.inl ⟨by kernel_rfl, fun W hSW => by go_simp; try with_reducible rfl⟩) (by assumption) ?_
  try simp only [List.getElem_toArray]
  try simp only [List.getElem_cons_succ]
  try simp only [List.getElem_cons_zero]
  try simp only [Act.put]
  try simp only [List.setIfInBounds_toArray]
  try simp only [List.set_cons_succ]
  try simp only [List.set_cons_zero]
  refine wpAnyB_take (i := 6) (v := ?_) rfl (by kernel_rfl) (by kernel_rfl) (by kernel_rfl) (by kernel_rfl) (by kernel_rfl) (fun _ _ _ h => h) (Or.inl ⟨by kernel_rfl, fun W hSW => by go_simp; try with_reducible rfl⟩) (by assumption) ?_
  try simp only [List.getElem_toArray]
  try simp only [List.getElem_cons_succ]
  try simp only [List.getElem_cons_zero]
  try simp only [Act.put]
  try simp only [List.setIfInBounds_toArray]
  try simp only [List.set_cons_succ]
  try simp only [List.set_cons_zero]
  refine wpAnyB_ready (rs := [7]) (by kernel_rfl) (by simp) ?_
  refine AllReadyB.cons rfl (fun K hK => ?_) AllReadyB.nil
  go_simp
  refine hK.out _ _ (hS2) (fun _ => ?_)
  clear hK K
  try simp only [List.getElem_toArray]
  try simp only [List.getElem_cons_succ]
  try simp only [List.getElem_cons_zero]
  try simp only [Act.put]
  try simp only [List.setIfInBounds_toArray]
  try simp only [List.set_cons_succ]
  try simp only [List.set_cons_zero]
  refine wpAnyB_ready (rs := [8]) (by kernel_rfl) (by simp) ?_
  refine AllReadyB.cons rfl (fun K hK => ?_) AllReadyB.nil
  refine stepG_append rfl (.tmp 28) (.tmp 31) 29 rfl (.slice p m cap) (.slice (some ⟨Y.heap.size, 0, none⟩) 1 1) rfl rfl (hrun _) ?_
  refine hK.out _ _ (hS3) (fun _ => ?_)
  clear hK K
  try simp only [List.getElem_toArray]
  try simp only [List.getElem_cons_succ]
  try simp only [List.getElem_cons_zero]
  try simp only [Act.put]
  try simp only [List.setIfInBounds_toArray]
  try simp only [List.set_cons_succ]
  try simp only [List.set_cons_zero]
  refine wpAnyB_take (i := 9) (v := ?_) rfl (by kernel_rfl) (by kernel_rfl) (by kernel_rfl) (by kernel_rfl) (by kernel_rfl) (fun _ _ _ h => h) (Or.inl ⟨by kernel_rfl, fun W hSW => by go_simp; try with_reducible rfl⟩) (by assumption) ?_
  try simp only [List.getElem_toArray]
  try simp only [List.getElem_cons_succ]
  try simp only [List.getElem_cons_zero]
  try simp only [Act.put]
  try simp only [List.setIfInBounds_toArray]
  try simp only [List.set_cons_succ]
  try simp only [List.set_cons_zero]
  refine wpAnyB_take (i := 10) (v := ?_) rfl (by kernel_rfl) (by kernel_rfl) (by kernel_rfl) (by kernel_rfl) (by kernel_rfl) (fun _ _ _ h => h) (Or.inl ⟨by kernel_rfl, fun W hSW => by go_simp; try with_reducible rfl⟩) (by assumption) ?_
  try simp only [List.getElem_toArray]
  try simp only [List.getElem_cons_succ]
  try simp only [List.getElem_cons_zero]
  try simp only [Act.put]
  try simp only [List.setIfInBounds_toArray]
  try simp only [List.set_cons_succ]
  try simp only [List.set_cons_zero]
  refine wpAnyB_ready (rs := [11]) (by kernel_rfl) (by simp) ?_
  refine AllReadyB.end rfl (fun K hK => ?_)
  go_simp
  refine hK.out _ _ (trivial) (fun _ => ?_)
  clear hK K
  try simp only [List.getElem_toArray]
  try simp only [List.getElem_cons_succ]
  try simp only [List.getElem_cons_zero]
  try simp only [Act.put]
  try simp only [List.setIfInBounds_toArray]
  try simp only [List.set_cons_succ]
  try simp only [List.set_cons_zero]
  refine wpAnyB_done (by kernel_rfl) ?_ _
  clear q10 qb f10 e10 hS1 hS2 hS3 hrun hSd
  have HNN := hid ((HN2.out.kept0 hdrY).trans HN3.out)
  have HB3 := hid ((HBY.out.kept hdrY id).kept HN3.out.kept ((HY.out.kept0 hdrY).unlikeB (HBY.out.kept hdrY id)))
  have HZ3 := hid ((HBZ.out.kept hdrY id).kept HN3.out.kept ((HY.out.kept0 hdrY).unlikeB (HBZ.out.kept hdrY id)))
  clear HN2 HN3 HY hdrY HBY HBZ
  generalize w3.setCell ⟨b, 10, none⟩ (.slice p3 n3 cap3) = V at *
  have e7 : V.cell? ⟨b, 7, none⟩ = some (.int .i64 c.next) := HNN.out.mem.blk.cell 7
  have e13 : V.cell? ⟨b, 13, none⟩ = some (.int .i64 c.ticks) := HNN.out.mem.blk.cell 13
  have f7 := HNN.out.mem.blk.soft 7
  have f13 := HNN.out.mem.blk.soft 13
  have hbb : b ≠ bx := fun e => HNN.out.mem.unlikeB HB3.out (Or.inl e.symm)
  have hbz : b ≠ w.heap.size := fun e => HNN.out.mem.unlikeB HZ3.out (Or.inl e.symm)
  have hxz : bx ≠ w.heap.size := hne0.out
  go_wp2_with fail
  refine (HWr.out _).mono ?_
  rintro e w5 ⟨rfl, hq⟩
  rw [hq]
  clear hq w5 HWr
  have hc7 := HNN.out.mem.blk.set 7 (.int .i64 (wrapN (c.next + 1))) (c' := { c with waits := r, flies := c.flies ++ [x], next := wrapN (c.next + 1) }) rfl
  have hc13 := hc7.set 13 (.int .i64 0) (c' := launchN c x r) rfl
  have hkA : Kept (fun i => i = b) V ((V.setCell ⟨b, 7, none⟩ (.int .i64 (wrapN (c.next + 1)))).setCell ⟨b, 13, none⟩ (.int .i64 0)) := kept_cn (kept_cn (Kept.refl (fun i => i = b) V) rfl 7 _) rfl 13 _
  have HNA := hid (HNN.out.trans (NextN.cells HNN.out.mem hkA hc13 rfl rfl))
  have HZA := hid (HZ3.out.kept hkA (fun e => hbz e.symm))
  have HBA := hid (HB3.out.kept hkA (fun e => hbb e.symm))
  clear hc7 hc13 hkA HNN HZ3 HB3
  go_upto_region 6 with fail
  generalize (V.setCell ⟨b, 7, none⟩ (.int .i64 (wrapN (c.next + 1)))).setCell ⟨b, 13, none⟩ (.int .i64 0) = U at *
  have z0 := HZA.out.c0
  have z1 := HZA.out.c1
  have z2 := HZA.out.c2
  have g0 := HZA.out.soft 0
  have g1 := HZA.out.soft 1
  have g2 := HZA.out.soft 2
  have x0 := HBA.out.c0
  have x1 := HBA.out.c1
  have x2 := HBA.out.c2
  clear e7 e13 f7 f13
  clear hbb hbz
  go_wp2
  refine bodyPost_ret (v := .agg #[.int .i64 c.next, .int .i64 c.come, .string x]) (by simp [results, Try.results31, go_sem, z0, z1, z2]) rfl ⟨rfl, .slice p2 n2 cap2, .slice p3 n3 cap3, ?_⟩
  have hkl : Kept (fun i => i = w.heap.size) U (((U.setCell ⟨w.heap.size, 0, none⟩ (.int .i64 c.next)).setCell ⟨w.heap.size, 1, none⟩ (.int .i64 c.come)).setCell ⟨w.heap.size, 2, none⟩ (.string x)) := kept_item (Kept.refl (fun i => i = w.heap.size) U) (Or.inr rfl) _ _ _
  have hn1 := (NextN.same H.out KX.out).trans HNA.out
  have hun := HNA.out.mem.unlikeB HZA.out
  refine ⟨hn1.mem.keptS hkl (fun i hi e => hun (by rw [← e]; exact hi)), hn1.kept.andThen hkl (fun i hi e => by omega), hn1.new⟩
end Go.Proofs.Ytoflohomnoppnaa
