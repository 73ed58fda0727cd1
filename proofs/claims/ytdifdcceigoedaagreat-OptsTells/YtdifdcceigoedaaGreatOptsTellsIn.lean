/- The law OptsTells: it returns true for every packet, list of options, bytes and type, and leaves what was there. -/
import Derived.Test.YtdifdcceigoedaaGreatOptsTellsKit
import Derived.Deep.DeepCutAuto
namespace Go.Proofs.YtdifdcceigoedaaGreat
open Go.RowKit

set_option maxHeartbeats 1000000 in
set_option maxRecDepth 100000 in
theorem optsTells_not (c i : Int) (u : Value) (o : List Tg) (x : ByteArray) (v : Value) (l : List Tg) (b : ByteArray) (kind : Int) (w : World) (hu : TagsAt w u o) (hon : o.length ≤ maxLen) (hso : ∀ z ∈ o, z.value.size ≤ 140737488351232) (hx : x.size ≤ 140737488351232) (hv : TagsAt w v l) (hln : l.length ≤ maxLen) (hsl : ∀ z ∈ l, z.value.size ≤ 140737488351232) (hb : b.size ≤ 140737488351232)
    (h : lightO l = false ∨ (lightO l = true ∧ lightO o = false) ∨ (lightO l = true ∧ lightO o = true ∧ 6000 < x.size + b.size)) :
    Calls Tryz.prog 3 #[pkV c i u x, v, .string b, .int .i64 kind] w fun e w' => e = .returned (.bool true) ∧ Below w.heap.size w w' := by
  have Ha := hid aliveO_any
  obtain ⟨p, cap, rfl⟩ := hu.slice
  unfold pkV
  have P0 := hid (PkAt.new w c i (.slice p o.length cap) x)
  have K0 := hid ((Kept.refl (fun _ => False) w).alloc (.cells #[.int .i64 c, .int .i64 i, .slice p o.length cap, .string x] 24))
  rcases h with h | ⟨h, h2⟩ | ⟨h, h2, h3⟩
  · have HL := lightHid hv hln hsl h
    clear hv hsl hln hu hso hon h
    go_enter Tryz.func3, Tryz.ntmps3
    go_wp2_with fail
    refine (HL.out _ K0.out).mono ?_
    rintro e w1 ⟨rfl, hk1⟩
    have K1 := hid (K0.out.trans hk1)
    clear hk1
    go_wp2_with fail
    refine (Ha.out _).mono ?_
    rintro e w2 ⟨rfl, hk2⟩
    go_wp2
    go_ret
    exact ⟨rfl, below_of (K1.out.trans hk2)⟩
  · have HL := lightHid hv hln hsl h
    have HM := lightHid hu hon hso h2
    clear hv hsl hln hu hso hon h h2
    go_enter Tryz.func3, Tryz.ntmps3
    go_wp2_with fail
    refine (HL.out _ K0.out).mono ?_
    rintro e w1 ⟨rfl, hk1⟩
    have K1 := hid (K0.out.trans hk1)
    obtain ⟨b0, b1, b2, b3⟩ := (P0.out.kept hk1 id).cells
    clear hk1
    go_wp2_with fail
    refine (HM.out _ K1.out).mono ?_
    rintro e w2 ⟨rfl, hk2⟩
    have K2 := hid (K1.out.trans hk2)
    clear hk2
    go_wp2_with fail
    refine (Ha.out _).mono ?_
    rintro e w3 ⟨rfl, hk3⟩
    go_wp2
    go_ret
    exact ⟨rfl, below_of (K2.out.trans hk3)⟩
  · have HL := lightHid hv hln hsl h
    have HM := lightHid hu hon hso h2
    have h6z : (6000 : Int) < (x.size : Int) + (b.size : Int) := by omega
    clear hv hsl hln hu hso hon h h2 h3
    go_enter Tryz.func3, Tryz.ntmps3
    go_wp2_with fail
    refine (HL.out _ K0.out).mono ?_
    rintro e w1 ⟨rfl, hk1⟩
    have K1 := hid (K0.out.trans hk1)
    have P1 := hid (P0.out.kept hk1 id)
    obtain ⟨b0, b1, b2, b3⟩ := P1.out.cells
    clear hk1
    go_wp2_with fail
    refine (HM.out _ K1.out).mono ?_
    rintro e w2 ⟨rfl, hk2⟩
    have K2 := hid (K1.out.trans hk2)
    obtain ⟨b0, b1, b2, b3⟩ := (P1.out.kept hk2 id).cells
    clear hk2
    go_wp2_with fail
    refine (Ha.out _).mono ?_
    rintro e w3 ⟨rfl, hk3⟩
    go_wp2
    go_ret
    exact ⟨rfl, below_of (K2.out.trans hk3)⟩
set_option maxHeartbeats 16000000 in
set_option maxRecDepth 100000 in
theorem optsTells_in (c i : Int) (u : Value) (o : List Tg) (x : ByteArray) (v : Value) (l : List Tg) (b : ByteArray) (kind : Int) (w : World) (hu : TagsAt w u o) (hon : o.length ≤ maxLen) (hso : ∀ z ∈ o, z.value.size ≤ 140737488351232) (hx : x.size ≤ 140737488351232) (hv : TagsAt w v l) (hln : l.length ≤ maxLen) (hsl : ∀ z ∈ l, z.value.size ≤ 140737488351232) (hb : b.size ≤ 140737488351232)
    (hll : lightO l = true) (hlo : lightO o = true) (h6 : x.size + b.size ≤ 6000) :
    Calls Tryz.prog 3 #[pkV c i u x, v, .string b, .int .i64 kind] w fun e w' => e = .returned (.bool true) ∧ Below w.heap.size w w' := by
  have Ha := hid aliveO_any
  have HL := lightHid hv hln hsl hll
  have HM := lightHid hu hon hso hlo
  have hl5 := (lightO_true hll).1
  have ho5 := (lightO_true hlo).1
  have HT1 := hid (fun (W : World) (h : Below w.heap.size w W) => hv.below h)
  have HT2 := hid (fun (W : World) (h : Below w.heap.size w W) => hu.below h)
  have HLe1 := hid (fun (W : World) (h : TagsAt W v l) => lentOptions_any v l W h (by omega))
  have HLe2 := hid (fun (W : World) (h : TagsAt W u o) => lentOptions_any u o W h (by omega))
  have HA1 := hid (fun (g k base : Nat) (W : World) (h : LentAt W base g k o) => putPack_any c i (.slice (some ⟨g, 0, none⟩) o.length k) o x hx W h.own.tags hso)
  have HA2 := hid (fun (W : World) (h : TagsAt W u o) => rPut_any c i u o x hx W h hso)
  have HA3 := hid (fun (g k base : Nat) (W : World) (h : LentAt W base g k l) => putOpts_any (.slice (some ⟨g, 0, none⟩) l.length k) l W h.own.tags hsl)
  have HA4 := hid (fun (W : World) (h : TagsAt W v l) => rPutOpts_any v l W h hsl)
  have HA5 := hid (fun (W : World) => getPack_any b hb W)
  have HA6 := hid (fun (W : World) => rGet_any b hb W)
  have HA7 := hid (fun (g k base : Nat) (W : World) (h : LentAt W base g k o) => putData_any c i (.slice (some ⟨g, 0, none⟩) o.length k) o x hx W h.own.tags)
  have HA8 := hid (fun (W : World) (h : TagsAt W u o) => rPutData_any c i u o x hx W h)
  have HA9 := hid (fun (W : World) => getData_any b hb W)
  have HA10 := hid (fun (W : World) => rGetData_any b hb W)
  have HA11 := hid (fun (W : World) => getOpts_any b hb W)
  have HA12 := hid (fun (W : World) => rGetOpts_any b hb W)
  have HA13 := hid (fun (g k base : Nat) (W : World) (h : LentAt W base g k l) => findOpt_any (.slice (some ⟨g, 0, none⟩) l.length k) l kind W h.own.tags (by omega) hsl)
  have HA14 := hid (fun (W : World) (h : TagsAt W v l) => rFind_any v l kind W h (by omega))
  have HA15 := hid (fun (W : World) => value_any b (by unfold maxLen; omega) W)
  have HA16 := hid (fun (W : World) => rValue_any b (by unfold maxLen; omega) W)
  have HA17 := hid (fun (g k base : Nat) (W : World) (h : LentAt W base g k l) (hm : TagsAt W u o) => sameO_any (.slice (some ⟨g, 0, none⟩) l.length k) u l o W h.own.tags hm (by omega))
  have HA18 := hid (fun (W : World) (h : TagsAt W v l) (hm : TagsAt W u o) => rSame_any v u l o W h hm (by omega))
  have HA19 := hid (fun (g k base : Nat) (W : World) (h : LentAt W base g k l) (hm : TagsAt W v l) => staysOptions_any g k base v l W h hm (by omega))
  have HA20 := hid (fun (g k base : Nat) (W : World) (h : LentAt W base g k o) (hm : TagsAt W u o) => staysOptions_any g k base u o W h hm (by omega))
  have HA21 := hid (fun (p q : Value) (a c : Nat) (W : World) (hp : OwnO W a p (optsOn b.data.toList []).1) (hq : OwnO W c q (optsOn b.data.toList []).1) => sameOptions_any p q _ _ W hp.tags hq.tags (by have := optsOn_len b.data.toList; omega))
  simp only [sameF_self] at HA21
  have HLq := hid (getPack_len b.data.toList)
  have HLy := hid (optsOn_len b.data.toList)
  unfold GotP at HA5 HA6
  generalize (getPackF b.data.toList).2 = E3 at HA5 HA6
  generalize (getPackF b.data.toList).1.opts = Lq at HA5 HA6 HLq
  generalize ((getPackF b.data.toList).1.code : Int) = gc at HA5 HA6
  generalize ((getPackF b.data.toList).1.id : Int) = gi at HA5 HA6
  generalize (⟨(getPackF b.data.toList).1.data.toArray⟩ : ByteArray) = gd at HA5 HA6
  generalize (⟨(putPackF c i o x.data.toList).1.toArray⟩ : ByteArray) = P1 at HA1 HA2
  generalize (putPackF c i o x.data.toList).2 = E1 at HA1 HA2
  generalize (⟨(putOptsF l).1.toArray⟩ : ByteArray) = P2 at HA3 HA4
  generalize (putOptsF l).2 = E2 at HA3 HA4
  generalize (⟨(putDataF c i o x.data.toList).1.toArray⟩ : ByteArray) = P4 at HA7 HA8
  generalize (putDataF c i o x.data.toList).2 = E4 at HA7 HA8
  unfold pkD at HA9 HA10
  generalize (getDataF b.data.toList).2 = E5 at HA9 HA10
  generalize ((getDataF b.data.toList).1.code : Int) = dc at HA9 HA10
  generalize ((getDataF b.data.toList).1.id : Int) = di at HA9 HA10
  generalize (⟨(getDataF b.data.toList).1.data.toArray⟩ : ByteArray) = dd at HA9 HA10
  generalize (optsOn b.data.toList []).2 = E6 at HA11 HA12
  generalize (optsOn b.data.toList []).1 = Ly at HA11 HA12 HA21 HLy
  generalize findOB l kind = FB at HA13 HA14
  generalize (findO l kind).isSome = fb at HA13 HA14
  generalize ((valueF b.data.toList).1 : Int) = VN at HA15 HA16
  generalize (valueF b.data.toList).2 = vb at HA15 HA16
  generalize sameF l o = sm at HA17 HA18
  obtain ⟨pu, cu, rfl⟩ := hu.slice
  obtain ⟨pv, cv, rfl⟩ := hv.slice
  unfold pkV at *
  have h6z : ¬ (6000 : Int) < (x.size : Int) + (b.size : Int) := by omega
  have B0 := hid (PkAt.new w c i (.slice pu o.length cu) x)
  have K0 := hid ((Kept.refl (fun _ => False) w).alloc (.cells #[.int .i64 c, .int .i64 i, .slice pu o.length cu, .string x] 24))
  clear hv hu hso hsl hon hln hll hlo
  go_enter Tryz.func3, Tryz.ntmps3
  go_wp2_with fail
  refine (HL.out _ K0.out).mono ?_
  rintro e w1 ⟨rfl, hk1⟩
  have K1 := hid (K0.out.trans hk1)
  have B1 := hid (B0.out.kept hk1 id)
  obtain ⟨b0, b1, b2, b3⟩ := B1.out.cells
  clear hk1 K0 B0 HL
  go_wp2_with fail
  refine (HM.out _ K1.out).mono ?_
  rintro e w2 ⟨rfl, hk2⟩
  have K2 := hid (K1.out.trans hk2)
  have B2 := hid (B1.out.kept hk2 id)
  clear hk2 K1 B1 HM b0 b1 b2 b3
  obtain ⟨b0, b1, b2, b3⟩ := B2.out.cells
  obtain ⟨BC, hBC⟩ : ∃ BC, bookCells (.slice none 0 0) (.slice none 0 0) = BC := ⟨_, rfl⟩
  have HBC := hid hBC
  clear hBC
  go_wp2_with (refine wpList_book HBC.out rfl rfl ?_)
  have I0 : Hid (TO w w2.heap.size [] w2.heap.size c i (.slice pu o.length cu) x (w2.alloc (.cells BC 47))) := by
    have hk := (Kept.refl (fun _ => False) w2).alloc (.cells BC 47)
    refine ⟨below_of (K2.out.trans hk), B2.out.kept hk id, ⟨.slice none 0 0, .slice none 0 0, [], [], ?_, fun r v h => by simp at h⟩, fun L h => by simp at h, hk.size⟩
    have h := book_new w2 w.heap.size K2.out.size
    rw [HBC.out] at h
    exact h
  have hw2 : w.heap.size < w2.heap.size := B2.out.lt
  have HW2 := hid hw2
  clear hw2 K2 B2 HBC b0 b1 b2 b3
  obtain ⟨bk, hbk⟩ : ∃ bk, bk = w2.heap.size := ⟨_, rfl⟩
  rw [← hbk] at I0 ⊢
  have HBK := hid hbk
  clear hbk
  go_loopw [10, 11, 12, 13, 14, 15, 16, 17, 18, 19, 20, 21, 22, 23, 24, 25, 26, 27, 28, 29, 30, 31, 32, 33, 34, 35, 36, 37, 38, 39, 40, 41, 42, 43, 44] (fun k _ _ _ _ _ _ _ _ _ _ _ _ _ _ _ _ _ _ _ _ _ _ _ _ _ _ _ _ _ _ _ _ _ _ wr => ∃ (j : Nat) (Ls : List (List Tg)) (N : Nat), j ≤ 2 ∧ k = .int .i64 (j : Int) ∧ Hid (Ls.length = 2 * j ∧ w.heap.size < N ∧ TO w bk Ls N c i (.slice pu o.length cu) x wr)) (fun k _ _ _ _ _ _ _ _ _ _ _ _ _ _ _ _ _ _ _ _ _ _ _ _ _ _ _ _ _ _ _ _ _ _ _ => 2 - (intOf k).toNat)
  case atStart => exact ⟨0, [], bk, by omega, rfl, rfl, by rw [HBK.out]; exact HW2.out, I0.out⟩
  case round =>
    obtain ⟨j, Ls, N, hj, rfl, HI⟩ := hrel
    clear I0
    by_cases hj2 : j < 2
    · have hj2z : (j : Int) < 2 := by omega
      have I := hid HI.out.2.2
      have HN := hid HI.out.2.1
      have HLn := hid HI.out.1
      clear HI
      go_upto_region 7 with fail
      go_cut [11, 12] from 66 to 271 (fun v11 v12 wc => ∃ X g1 k1 : Nat, v11 = .pointer (some ⟨X, 0, none⟩) ∧ v12 = .slice (some ⟨g1, 0, none⟩) l.length k1 ∧ Hid (Xb w bk Ls N c i (.slice pu o.length cu) x l X g1 k1 wc))
      case first =>
        as_aux_lemma =>
          have r0 : ∀ W, Kept (fun _ => False) wr W → W.cell? ⟨w.heap.size, 0, none⟩ = some (.int .i64 c) := fun W hW => (I.out.box.kept hW id).cells.1
          have r1 : ∀ W, Kept (fun _ => False) wr W → W.cell? ⟨w.heap.size, 1, none⟩ = some (.int .i64 i) := fun W hW => (I.out.box.kept hW id).cells.2.1
          have r2 : ∀ W, Kept (fun _ => False) wr W → W.cell? ⟨w.heap.size, 2, none⟩ = some (.slice pu o.length cu) := fun W hW => (I.out.box.kept hW id).cells.2.2.1
          have r3 : ∀ W, Kept (fun _ => False) wr W → W.cell? ⟨w.heap.size, 3, none⟩ = some (.string x) := fun W hW => (I.out.box.kept hW id).cells.2.2.2
          have D0 := (Kept.refl (fun _ => False) wr).drew
          have hsz := hid I.out.bel.size
          have hltb := hid I.out.box.lt
          refine wp_region_held_drew (S := Kept (fun _ => False) wr) (by kernel_rfl) (D0) (fun hSd => ?_)
          refine wpAnyH_take (i := 0) (v := ?_) rfl (by kernel_rfl) (by kernel_rfl) (by kernel_rfl) (fun _ _ _ h => h) (Or.inl ⟨by kernel_rfl, fun W hSW => by go_simp; try with_reducible rfl⟩) (by assumption) ?_
          try simp only [List.getElem_toArray]
          try simp only [List.getElem_cons_succ]
          try simp only [List.getElem_cons_zero]
          try simp only [Act.put]
          try simp only [List.setIfInBounds_toArray]
          try simp only [List.set_cons_succ]
          try simp only [List.set_cons_zero]
          refine wpAnyH_take (i := 1) (v := ?_) rfl (by kernel_rfl) (by kernel_rfl) (by kernel_rfl) (fun _ _ _ h => h) (Or.inl ⟨by kernel_rfl, fun W hSW => by go_simp; try with_reducible rfl⟩) (by assumption) ?_
          try simp only [List.getElem_toArray]
          try simp only [List.getElem_cons_succ]
          try simp only [List.getElem_cons_zero]
          try simp only [Act.put]
          try simp only [List.setIfInBounds_toArray]
          try simp only [List.set_cons_succ]
          try simp only [List.set_cons_zero]
          refine wpAnyH_ready (rs := [2, 3]) (by kernel_rfl) (by simp) ?_
          refine AllReadyH.cons rfl (fun K hK => ?_) (AllReadyH.cons rfl (fun K hK => ?_) AllReadyH.nil)
          · go_simp
            refine (HLe1.out _ (HT1.out _ (I.out.kept D0).bel)).mono ?_
            rintro e a1 ⟨g1, k1, rfl, hL1, hk1⟩
            have K1 := D0.trans hk1
            refine hK.out _ _ (K1) (fun _ => ?_)
            clear hK K
            try simp only [List.getElem_toArray]
            try simp only [List.getElem_cons_succ]
            try simp only [List.getElem_cons_zero]
            try simp only [Act.put]
            try simp only [List.setIfInBounds_toArray]
            try simp only [List.set_cons_succ]
            try simp only [List.set_cons_zero]
            refine wpAnyH_ready (rs := [3]) (by kernel_rfl) (by simp) ?_
            refine AllReadyH.cons rfl (fun K hK => ?_) AllReadyH.nil
            go_simp
            refine hK.out _ _ (K1.alloc _) (fun _ => ?_)
            clear hK K
            try dsimp only
            try simp only [List.getElem_toArray]
            try simp only [List.getElem_cons_succ]
            try simp only [List.getElem_cons_zero]
            try simp only [Act.put]
            try simp only [List.setIfInBounds_toArray]
            try simp only [List.set_cons_succ]
            try simp only [List.set_cons_zero]
            refine wpAnyH_ready (rs := [4]) (by kernel_rfl) (by simp) ?_
            refine AllReadyH.cons rfl (fun K hK => ?_) AllReadyH.nil
            go_simp
            have K2 : Kept (fun _ => False) wr (a1.alloc (.cells #[.int .i64 c, .int .i64 i, .slice pu o.length cu, .string x] 24)) := K1.alloc _
            refine hK.out _ _ (K2) (fun _ => ?_)
            clear hK K
            try dsimp only
            try simp only [List.getElem_toArray]
            try simp only [List.getElem_cons_succ]
            try simp only [List.getElem_cons_zero]
            try simp only [Act.put]
            try simp only [List.setIfInBounds_toArray]
            try simp only [List.set_cons_succ]
            try simp only [List.set_cons_zero]
            refine wpAnyH_take (i := 5) (v := ?_) rfl (by kernel_rfl) (by kernel_rfl) (by kernel_rfl) (fun _ _ _ h => h) (Or.inl ⟨by kernel_rfl, fun W hSW => by go_simp; try with_reducible rfl⟩) (by assumption) ?_
            try simp only [List.getElem_toArray]
            try simp only [List.getElem_cons_succ]
            try simp only [List.getElem_cons_zero]
            try simp only [Act.put]
            try simp only [List.setIfInBounds_toArray]
            try simp only [List.set_cons_succ]
            try simp only [List.set_cons_zero]
            refine wpAnyH_done (by kernel_rfl) ?_ _
            go_wp2
            go_meet
            refine ⟨a1.heap.size, g1, k1, rfl, rfl, Nat.lt_of_lt_of_le hltb.out K1.size, I.out.kept K2, PkAt.new a1 c i (.slice pu o.length cu) x, OwnO.mono (OwnO.kept hL1 ((Kept.refl (fun _ => False) a1).alloc _)) hsz.out⟩
          · go_simp
            have K1 : Kept (fun _ => False) wr (wr.alloc (.cells #[.int .i64 0, .int .i64 0, .slice none 0 0, .string ⟨#[]⟩] 24)).drew := ((Kept.refl (fun _ => False) wr).alloc _).drew
            have Z1 : Hid (PkAt (wr.alloc (.cells #[.int .i64 0, .int .i64 0, .slice none 0 0, .string ⟨#[]⟩] 24)).drew wr.heap.size 0 0 (.slice none 0 0) ⟨#[]⟩) := PkAt.new wr 0 0 (.slice none 0 0) ⟨#[]⟩
            refine hK.out _ _ (K1) (fun _ => ?_)
            clear hK K
            try dsimp only
            try simp only [List.getElem_toArray]
            try simp only [List.getElem_cons_succ]
            try simp only [List.getElem_cons_zero]
            try simp only [Act.put]
            try simp only [List.setIfInBounds_toArray]
            try simp only [List.set_cons_succ]
            try simp only [List.set_cons_zero]
            refine wpAnyH_ready (rs := [2]) (by kernel_rfl) (by simp) ?_
            refine AllReadyH.cons rfl (fun K hK => ?_) AllReadyH.nil
            go_simp
            refine (HLe1.out _ (HT1.out _ (I.out.kept K1).bel)).mono ?_
            rintro e a1 ⟨g1, k1, rfl, hL1, hk1⟩
            have K2 := K1.trans hk1
            have Z2 := hid (Z1.out.kept hk1 id)
            obtain ⟨⟨z0, z1, z2, z3⟩, zf⟩ := Z2.out.own
            refine hK.out _ _ (K2) (fun _ => ?_)
            clear hK K
            try simp only [List.getElem_toArray]
            try simp only [List.getElem_cons_succ]
            try simp only [List.getElem_cons_zero]
            try simp only [Act.put]
            try simp only [List.setIfInBounds_toArray]
            try simp only [List.set_cons_succ]
            try simp only [List.set_cons_zero]
            refine wpAnyH_ready (rs := [4]) (by kernel_rfl) (by simp) ?_
            refine AllReadyH.cons rfl (fun K hK => ?_) AllReadyH.nil
            go_simp
            have kz : Kept (fun i => i = wr.heap.size) a1 ((((a1.setCell ⟨wr.heap.size, 0, none⟩ (.int .i64 c)).setCell ⟨wr.heap.size, 1, none⟩ (.int .i64 i)).setCell ⟨wr.heap.size, 2, none⟩ (.slice pu o.length cu)).setCell ⟨wr.heap.size, 3, none⟩ (.string x)) := (((((Kept.refl _ a1).setCell (p := ⟨wr.heap.size, 0, none⟩) (Or.inr (by rfl)) _).setCell (p := ⟨wr.heap.size, 1, none⟩) (Or.inr (by rfl)) _).setCell (p := ⟨wr.heap.size, 2, none⟩) (Or.inr (by rfl)) _).setCell (p := ⟨wr.heap.size, 3, none⟩) (Or.inr (by rfl)) _)
            have K3 := K2.andThen kz (fun i hi e => by omega)
            refine hK.out _ _ (K3) (fun _ => ?_)
            clear hK K
            try dsimp only
            try simp only [List.getElem_toArray]
            try simp only [List.getElem_cons_succ]
            try simp only [List.getElem_cons_zero]
            try simp only [Act.put]
            try simp only [List.setIfInBounds_toArray]
            try simp only [List.set_cons_succ]
            try simp only [List.set_cons_zero]
            refine wpAnyH_take (i := 5) (v := ?_) rfl (by kernel_rfl) (by kernel_rfl) (by kernel_rfl) (fun _ _ _ h => h) (Or.inl ⟨by kernel_rfl, fun W hSW => by go_simp; try with_reducible rfl⟩) (by assumption) ?_
            try simp only [List.getElem_toArray]
            try simp only [List.getElem_cons_succ]
            try simp only [List.getElem_cons_zero]
            try simp only [Act.put]
            try simp only [List.setIfInBounds_toArray]
            try simp only [List.set_cons_succ]
            try simp only [List.set_cons_zero]
            refine wpAnyH_done (by kernel_rfl) ?_ _
            go_wp2
            go_meet
            exact ⟨wr.heap.size, g1, k1, rfl, rfl, hltb.out, I.out.kept K3, (((Z2.out.set0 c).set1 i).set2 (.slice pu o.length cu)).set3 x, OwnO.mono (OwnO.other hL1 Z2.out kz) (Nat.le_trans hsz.out K1.size)⟩
      case rest =>
        obtain ⟨X, g1, k1, rfl, rfl, HX⟩ := hcut
        have hX1 := hid HX.out.1
        have T1 := hid HX.out.2.1
        obtain ⟨b0, b1, b2, b3⟩ := T1.out.box.cells
        clear I
        go_wp2_with fail
        refine (HLe2.out _ (HT2.out _ T1.out.bel)).mono ?_
        rintro e a2 ⟨g2, k2, rfl, hL2, hk2⟩
        have HX2 : Hid (Xb w bk Ls N c i (.slice pu o.length cu) x l X g1 k1 a2) := ⟨HX.out.1, T1.out.kept hk2, HX.out.2.2.1.kept hk2 id, HX.out.2.2.2.kept hk2⟩
        have HL2 := hid hL2
        have hszb := hid T1.out.bel.size
        clear b0 b1 b2 b3 hk2 hL2 HX T1
        obtain ⟨⟨q0, q1, q2, q3⟩, qf⟩ := HX2.out.2.2.1.own
        go_upto_region 9 with fail
        have R0 : Hid (Rs w bk Ls N c i (.slice pu o.length cu) x l o X g1 k1 g2 k2 (a2.setCell ⟨X, 2, none⟩ (.slice (some ⟨g2, 0, none⟩) o.length k2))) := by
          have kz : Kept (fun i => i = X) a2 (a2.setCell ⟨X, 2, none⟩ (.slice (some ⟨g2, 0, none⟩) o.length k2)) := (Kept.refl _ a2).setCell (p := ⟨X, 2, none⟩) (Or.inr (by rfl)) _
          exact ⟨HX2.out.2.1.other HX2.out.2.2.1 HX2.out.1 kz, HX2.out.2.2.1.set2 _, OwnO.other HX2.out.2.2.2 HX2.out.2.2.1 kz, OwnO.mono (OwnO.other HL2.out HX2.out.2.2.1 kz) hszb.out⟩
        clear q0 q1 q2 q3 qf HX2 HL2
        generalize a2.setCell ⟨X, 2, none⟩ (.slice (some ⟨g2, 0, none⟩) o.length k2) = a3 at R0 ⊢
        as_aux_lemma =>
          obtain ⟨b0, b1, b2, b3⟩ := R0.out.xb.cells
          go_wp2_with fail
          refine (HA1.out _ _ _ _ R0.out.m2).mono ?_
          rintro e a4 ⟨rfl, hk⟩
          have R4 := hid (R0.out.kept hk)
          clear hk R0
          clear b0 b1 b2 b3
          obtain ⟨b0, b1, b2, b3⟩ := R4.out.st.box.cells
          go_wp2_with fail
          refine (HA2.out _ (HT2.out _ R4.out.st.bel)).mono ?_
          rintro e a5 ⟨rfl, hk⟩
          have R5 := hid (R4.out.kept hk)
          clear hk R4
          clear b0 b1 b2 b3
          go_wp2_with fail
          refine (HA3.out _ _ _ _ R5.out.m1).mono ?_
          rintro e a6 ⟨rfl, hk⟩
          have R6 := hid (R5.out.kept hk)
          clear hk R5
          go_wp2_with fail
          refine (HA4.out _ (HT1.out _ R6.out.st.bel)).mono ?_
          rintro e a7 ⟨rfl, hk⟩
          have R7 := hid (R6.out.kept hk)
          clear hk R6
          go_wp2_with fail
          refine (HA5.out _).mono ?_
          rintro e a8 ⟨vq, rfl, ⟨uq, rfl, hoq⟩, hk⟩
          obtain ⟨pq, cq, huq⟩ := slice_of hoq
          subst huq
          go_upto_region 14 with fail
          have hkk := hk.alloc (.cells #[.int .i64 gc, .int .i64 gi, .slice pq Lq.length cq, .string gd] 24)
          have R8 := hid (R7.out.kept hkk)
          have Bq := hid (PkAt.new a8 gc gi (.slice pq Lq.length cq) gd)
          have Nq := hid R7.out.st.lt
          have Oq := hid (OwnO.kept hoq ((Kept.refl (fun _ => False) a8).alloc (.cells #[.int .i64 gc, .int .i64 gi, .slice pq Lq.length cq, .string gd] 24)))
          generalize a8.alloc (.cells #[.int .i64 gc, .int .i64 gi, .slice pq Lq.length cq, .string gd] 24) = W8 at R8 Bq Oq ⊢
          clear hk hkk R7 hoq
          go_wp2_with fail
          refine (HA6.out _).mono ?_
          rintro e a9 ⟨vt, rfl, ⟨ut, rfl, hot⟩, hk⟩
          obtain ⟨pt, ct, hut⟩ := slice_of hot
          subst hut
          go_upto_region 15 with fail
          have hkk := hk.alloc (.cells #[.int .i64 gc, .int .i64 gi, .slice pt Lq.length ct, .string gd] 24)
          have R9 := hid (R8.out.kept hkk)
          have Bt := hid (PkAt.new a9 gc gi (.slice pt Lq.length ct) gd)
          have Nt := hid R8.out.st.lt
          have Ot := hid (OwnO.kept hot ((Kept.refl (fun _ => False) a9).alloc (.cells #[.int .i64 gc, .int .i64 gi, .slice pt Lq.length ct, .string gd] 24)))
          have Bq' := hid (Bq.out.kept hkk id)
          clear Bq
          have Oq' := hid (Oq.out.kept hkk)
          clear Oq
          generalize a9.alloc (.cells #[.int .i64 gc, .int .i64 gi, .slice pt Lq.length ct, .string gd] 24) = W9 at R9 Bt Ot Bq' Oq' ⊢
          have Bq := Bq'
          clear Bq'
          have Oq := Oq'
          clear Oq'
          clear hk hkk R8 hot
          as_aux_lemma =>
            obtain ⟨b0, b1, b2, b3⟩ := R9.out.xb.cells
            go_wp2_with fail
            refine (HA7.out _ _ _ _ R9.out.m2).mono ?_
            rintro e a10 ⟨rfl, hk⟩
            have R10 := hid (R9.out.kept hk)
            have Bq' := hid (Bq.out.kept hk id)
            clear Bq
            have Bq := Bq'
            clear Bq'
            have Oq' := hid (Oq.out.kept hk)
            clear Oq
            have Oq := Oq'
            clear Oq'
            have Bt' := hid (Bt.out.kept hk id)
            clear Bt
            have Bt := Bt'
            clear Bt'
            have Ot' := hid (Ot.out.kept hk)
            clear Ot
            have Ot := Ot'
            clear Ot'
            clear hk R9
            clear b0 b1 b2 b3
            obtain ⟨b0, b1, b2, b3⟩ := R10.out.st.box.cells
            go_wp2_with fail
            refine (HA8.out _ (HT2.out _ R10.out.st.bel)).mono ?_
            rintro e a11 ⟨rfl, hk⟩
            have R11 := hid (R10.out.kept hk)
            have Bq' := hid (Bq.out.kept hk id)
            clear Bq
            have Bq := Bq'
            clear Bq'
            have Oq' := hid (Oq.out.kept hk)
            clear Oq
            have Oq := Oq'
            clear Oq'
            have Bt' := hid (Bt.out.kept hk id)
            clear Bt
            have Bt := Bt'
            clear Bt'
            have Ot' := hid (Ot.out.kept hk)
            clear Ot
            have Ot := Ot'
            clear Ot'
            clear hk R10
            clear b0 b1 b2 b3
            go_wp2_with fail
            refine (HA9.out _).mono ?_
            rintro e a12 ⟨rfl, hk⟩
            go_upto_region 18 with fail
            have hkk := hk.alloc (.cells #[.int .i64 dc, .int .i64 di, .slice none 0 0, .string dd] 24)
            have R12 := hid (R11.out.kept hkk)
            have Bd := hid (PkAt.new a12 dc di (.slice none 0 0) dd)
            have Bq' := hid (Bq.out.kept hkk id)
            clear Bq
            have Oq' := hid (Oq.out.kept hkk)
            clear Oq
            have Bt' := hid (Bt.out.kept hkk id)
            clear Bt
            have Ot' := hid (Ot.out.kept hkk)
            clear Ot
            generalize a12.alloc (.cells #[.int .i64 dc, .int .i64 di, .slice none 0 0, .string dd] 24) = W12 at R12 Bd Bq' Oq' Bt' Ot' ⊢
            have Bq := Bq'
            clear Bq'
            have Oq := Oq'
            clear Oq'
            have Bt := Bt'
            clear Bt'
            have Ot := Ot'
            clear Ot'
            clear hk hkk R11
            go_wp2_with fail
            refine (HA10.out _).mono ?_
            rintro e a13 ⟨rfl, hk⟩
            go_upto_region 19 with fail
            have hkk := hk.alloc (.cells #[.int .i64 dc, .int .i64 di, .slice none 0 0, .string dd] 24)
            have R13 := hid (R12.out.kept hkk)
            have Bf := hid (PkAt.new a13 dc di (.slice none 0 0) dd)
            have Bq' := hid (Bq.out.kept hkk id)
            clear Bq
            have Oq' := hid (Oq.out.kept hkk)
            clear Oq
            have Bt' := hid (Bt.out.kept hkk id)
            clear Bt
            have Ot' := hid (Ot.out.kept hkk)
            clear Ot
            have Bd' := hid (Bd.out.kept hkk id)
            clear Bd
            generalize a13.alloc (.cells #[.int .i64 dc, .int .i64 di, .slice none 0 0, .string dd] 24) = W13 at R13 Bf Bq' Oq' Bt' Ot' Bd' ⊢
            have Bq := Bq'
            clear Bq'
            have Oq := Oq'
            clear Oq'
            have Bt := Bt'
            clear Bt'
            have Ot := Ot'
            clear Ot'
            have Bd := Bd'
            clear Bd'
            clear hk hkk R12
            have kA := (Kept.refl (fun _ => False) W13).alloc (.cells #[.int .i64 dc, .int .i64 di, .slice none 0 0, .string dd] 24)
            have kB := kA.alloc (.cells #[.int .i64 dc, .int .i64 di, .slice none 0 0, .string dd] 24)
            obtain ⟨x0, x1, x2, x3⟩ := Bd.out.cells
            obtain ⟨y0, y1, y2, y3⟩ := (Bf.out.kept kA id).cells
            have G1 := hid ((PkAt.new W13 dc di (.slice none 0 0) dd).kept ((Kept.refl (fun _ => False) _).alloc (.cells #[.int .i64 dc, .int .i64 di, .slice none 0 0, .string dd] 24)) id)
            have G2 := PkAt.new (W13.alloc (.cells #[.int .i64 dc, .int .i64 di, .slice none 0 0, .string dd] 24)) dc di (.slice none 0 0) dd
            rw [show (W13.alloc (.cells #[.int .i64 dc, .int .i64 di, .slice none 0 0, .string dd] 24)).heap.size = W13.heap.size + 1 by simp] at G2
            have G2' := hid G2
            have KB := hid kB
            clear G2 kA kB
            go_wp2_with fail
            refine (samePk_any W13.heap.size (W13.heap.size + 1) dc di (.slice none 0 0) (.slice none 0 0) [] dd _ G1.out G2'.out (Or.inl ⟨rfl, none, 0, rfl⟩) (Or.inl ⟨rfl, none, 0, rfl⟩) (by simp)).mono ?_
            rintro e a14 ⟨rfl, hk0⟩
            have hk := KB.out.trans hk0
            have R14 := hid (R13.out.kept hk)
            have Bq' := hid (Bq.out.kept hk id)
            clear Bq
            have Bq := Bq'
            clear Bq'
            have Oq' := hid (Oq.out.kept hk)
            clear Oq
            have Oq := Oq'
            clear Oq'
            have Bt' := hid (Bt.out.kept hk id)
            clear Bt
            have Bt := Bt'
            clear Bt'
            have Ot' := hid (Ot.out.kept hk)
            clear Ot
            have Ot := Ot'
            clear Ot'
            clear hk hk0 KB G1 G2' x0 x1 x2 x3 y0 y1 y2 y3 R13
            clear Bd Bf
            have HM1 : Hid (∀ g, (Value.slice pq Lq.length cq).ownBlock = some g → g < a14.heap.size) := fun g hg => (own_lt Oq.out hg).2
            have HM2 := hid R14.out.st.lt
            have Zm : Hid (Gz a14.heap.size a14) := Nat.le_refl _
            go_wp2_with fail
            refine (HA11.out _).mono ?_
            rintro e a15 ⟨vy, rfl, hoy, hk⟩
            obtain ⟨py, cy, hvy⟩ := slice_of hoy
            subst hvy
            have Oy := hid hoy
            have R15 := hid (R14.out.kept hk)
            have Bq' := hid (Bq.out.kept hk id)
            clear Bq
            have Bq := Bq'
            clear Bq'
            have Oq' := hid (Oq.out.kept hk)
            clear Oq
            have Oq := Oq'
            clear Oq'
            have Bt' := hid (Bt.out.kept hk id)
            clear Bt
            have Bt := Bt'
            clear Bt'
            have Ot' := hid (Ot.out.kept hk)
            clear Ot
            have Ot := Ot'
            clear Ot'
            have Zm' := hid (Zm.out.kept hk)
            clear Zm
            have Zm := Zm'
            clear Zm'
            clear hk hoy R14
            go_wp2_with fail
            refine (HA12.out _).mono ?_
            rintro e a16 ⟨vz, rfl, hoz, hk⟩
            obtain ⟨pz, cz, hvz⟩ := slice_of hoz
            subst hvz
            have Oz := hid hoz
            have R16 := hid (R15.out.kept hk)
            have Bq' := hid (Bq.out.kept hk id)
            clear Bq
            have Bq := Bq'
            clear Bq'
            have Oq' := hid (Oq.out.kept hk)
            clear Oq
            have Oq := Oq'
            clear Oq'
            have Bt' := hid (Bt.out.kept hk id)
            clear Bt
            have Bt := Bt'
            clear Bt'
            have Ot' := hid (Ot.out.kept hk)
            clear Ot
            have Ot := Ot'
            clear Ot'
            have Oy' := hid (Oy.out.kept hk)
            clear Oy
            have Oy := Oy'
            clear Oy'
            have Zm' := hid (Zm.out.kept hk)
            clear Zm
            have Zm := Zm'
            clear Zm'
            clear hk hoz R15
            as_aux_lemma =>
              have kA := (Kept.refl (fun _ => False) a16).alloc (.cells #[.int .i64 gc, .int .i64 gi, .slice pq Lq.length cq, .string gd] 24)
              have kB := kA.alloc (.cells #[.int .i64 gc, .int .i64 gi, .slice pt Lq.length ct, .string gd] 24)
              obtain ⟨x0, x1, x2, x3⟩ := Bq.out.cells
              obtain ⟨y0, y1, y2, y3⟩ := (Bt.out.kept kA id).cells
              have G1 := hid ((PkAt.new a16 gc gi (.slice pq Lq.length cq) gd).kept ((Kept.refl (fun _ => False) _).alloc (.cells #[.int .i64 gc, .int .i64 gi, .slice pt Lq.length ct, .string gd] 24)) id)
              have G2 := PkAt.new (a16.alloc (.cells #[.int .i64 gc, .int .i64 gi, .slice pq Lq.length cq, .string gd] 24)) gc gi (.slice pt Lq.length ct) gd
              rw [show (a16.alloc (.cells #[.int .i64 gc, .int .i64 gi, .slice pq Lq.length cq, .string gd] 24)).heap.size = a16.heap.size + 1 by simp] at G2
              have G2' := hid G2
              have KB := hid kB
              clear G2 kA kB
              go_wp2_with fail
              refine (samePk_any a16.heap.size (a16.heap.size + 1) gc gi (.slice pq Lq.length cq) (.slice pt Lq.length ct) Lq gd _ G1.out G2'.out ((Oq.out.kept KB.out).tags) ((Ot.out.kept KB.out).tags) (by have := HLq.out; omega)).mono ?_
              rintro e a17 ⟨rfl, hk0⟩
              have hk := KB.out.trans hk0
              have R17 := hid (R16.out.kept hk)
              have Bq' := hid (Bq.out.kept hk id)
              clear Bq
              have Bq := Bq'
              clear Bq'
              have Oq' := hid (Oq.out.kept hk)
              clear Oq
              have Oq := Oq'
              clear Oq'
              have Oy' := hid (Oy.out.kept hk)
              clear Oy
              have Oy := Oy'
              clear Oy'
              have Oz' := hid (Oz.out.kept hk)
              clear Oz
              have Oz := Oz'
              clear Oz'
              have Zm' := hid (Zm.out.kept hk)
              clear Zm
              have Zm := Zm'
              clear Zm'
              clear hk hk0 KB G1 G2' x0 x1 x2 x3 y0 y1 y2 y3 R16
              clear Bt Ot
              go_wp2_with fail
              refine (HA21.out _ _ _ _ _ Oy.out Oz.out).mono ?_
              rintro e a18 ⟨rfl, hk⟩
              have R18 := hid (R17.out.kept hk)
              have Bq' := hid (Bq.out.kept hk id)
              clear Bq
              have Bq := Bq'
              clear Bq'
              have Oq' := hid (Oq.out.kept hk)
              clear Oq
              have Oq := Oq'
              clear Oq'
              have Oy' := hid (Oy.out.kept hk)
              clear Oy
              have Oy := Oy'
              clear Oy'
              have Zm' := hid (Zm.out.kept hk)
              clear Zm
              have Zm := Zm'
              clear Zm'
              clear hk R17
              clear Oz
              go_wp2_with fail
              refine (HA13.out _ _ _ _ R18.out.m1).mono ?_
              rintro e a19 ⟨rfl, hk⟩
              have R19 := hid (R18.out.kept hk)
              have Bq' := hid (Bq.out.kept hk id)
              clear Bq
              have Bq := Bq'
              clear Bq'
              have Oq' := hid (Oq.out.kept hk)
              clear Oq
              have Oq := Oq'
              clear Oq'
              have Oy' := hid (Oy.out.kept hk)
              clear Oy
              have Oy := Oy'
              clear Oy'
              have Zm' := hid (Zm.out.kept hk)
              clear Zm
              have Zm := Zm'
              clear Zm'
              clear hk R18
              go_wp2_with fail
              refine (HA14.out _ (HT1.out _ R19.out.st.bel)).mono ?_
              rintro e a20 ⟨rfl, hk⟩
              have R20 := hid (R19.out.kept hk)
              have Bq' := hid (Bq.out.kept hk id)
              clear Bq
              have Bq := Bq'
              clear Bq'
              have Oq' := hid (Oq.out.kept hk)
              clear Oq
              have Oq := Oq'
              clear Oq'
              have Oy' := hid (Oy.out.kept hk)
              clear Oy
              have Oy := Oy'
              clear Oy'
              have Zm' := hid (Zm.out.kept hk)
              clear Zm
              have Zm := Zm'
              clear Zm'
              clear hk R19
              go_wp2_with fail
              refine (HA15.out _).mono ?_
              rintro e wv ⟨rfl, hwv⟩
              rw [hwv]
              clear hwv wv
              go_wp2_with fail
              refine (HA16.out _).mono ?_
              rintro e wv ⟨rfl, hwv⟩
              rw [hwv]
              clear hwv wv
              as_aux_lemma =>
                go_upto_region 29 with fail
                go_cut [264] from 66 to 271 (fun v264 wc => v264 = .bool false ∧ Hid (Kept (fun _ => False) a20 wc))
                case first =>
                  as_aux_lemma =>
                    have r2 : ∀ W, Kept (fun _ => False) a20 W → W.cell? ⟨w.heap.size, 2, none⟩ = some (.slice pu o.length cu) := fun W hW => (R20.out.st.box.kept hW id).cells.2.2.1
                    have s2 : ∀ W, Kept (fun _ => False) a20 W → W.cell? ⟨X, 2, none⟩ = some (.slice (some ⟨g2, 0, none⟩) o.length k2) := fun W hW => (R20.out.xb.kept hW id).cells.2.2.1
                    have D0 := (Kept.refl (fun _ => False) a20).drew
                    refine wp_region_held_drew (S := Kept (fun _ => False) a20) (by kernel_rfl) (D0) (fun hSd => ?_)
                    refine wpAnyH_take (i := 0) (v := ?_) rfl (by kernel_rfl) (by kernel_rfl) (by kernel_rfl) (fun _ _ _ h => h) (Or.inl ⟨by kernel_rfl, fun W hSW => by go_simp; try with_reducible rfl⟩) (by assumption) ?_
                    try simp only [List.getElem_toArray]
                    try simp only [List.getElem_cons_succ]
                    try simp only [List.getElem_cons_zero]
                    try simp only [Act.put]
                    try simp only [List.setIfInBounds_toArray]
                    try simp only [List.set_cons_succ]
                    try simp only [List.set_cons_zero]
                    refine wpAnyH_take (i := 1) (v := ?_) rfl (by kernel_rfl) (by kernel_rfl) (by kernel_rfl) (fun _ _ _ h => h) (Or.inl ⟨by kernel_rfl, fun W hSW => by go_simp; try with_reducible rfl⟩) (by assumption) ?_
                    try simp only [List.getElem_toArray]
                    try simp only [List.getElem_cons_succ]
                    try simp only [List.getElem_cons_zero]
                    try simp only [Act.put]
                    try simp only [List.setIfInBounds_toArray]
                    try simp only [List.set_cons_succ]
                    try simp only [List.set_cons_zero]
                    refine wpAnyH_take (i := 2) (v := ?_) rfl (by kernel_rfl) (by kernel_rfl) (by kernel_rfl) (fun _ _ _ h => h) (Or.inl ⟨by kernel_rfl, fun W hSW => by go_simp; try with_reducible rfl⟩) (by assumption) ?_
                    try simp only [List.getElem_toArray]
                    try simp only [List.getElem_cons_succ]
                    try simp only [List.getElem_cons_zero]
                    try simp only [Act.put]
                    try simp only [List.setIfInBounds_toArray]
                    try simp only [List.set_cons_succ]
                    try simp only [List.set_cons_zero]
                    refine wpAnyH_take (i := 3) (v := ?_) rfl (by kernel_rfl) (by kernel_rfl) (by kernel_rfl) (fun _ _ _ h => h) (Or.inl ⟨by kernel_rfl, fun W hSW => by go_simp; try with_reducible rfl⟩) (by assumption) ?_
                    try simp only [List.getElem_toArray]
                    try simp only [List.getElem_cons_succ]
                    try simp only [List.getElem_cons_zero]
                    try simp only [Act.put]
                    try simp only [List.setIfInBounds_toArray]
                    try simp only [List.set_cons_succ]
                    try simp only [List.set_cons_zero]
                    refine wpAnyH_take (i := 4) (v := ?_) rfl (by kernel_rfl) (by kernel_rfl) (by kernel_rfl) (fun _ _ _ h => h) (Or.inl ⟨by kernel_rfl, fun W hSW => by go_simp; try with_reducible rfl⟩) (by assumption) ?_
                    try simp only [List.getElem_toArray]
                    try simp only [List.getElem_cons_succ]
                    try simp only [List.getElem_cons_zero]
                    try simp only [Act.put]
                    try simp only [List.setIfInBounds_toArray]
                    try simp only [List.set_cons_succ]
                    try simp only [List.set_cons_zero]
                    refine wpAnyH_take (i := 5) (v := ?_) rfl (by kernel_rfl) (by kernel_rfl) (by kernel_rfl) (fun _ _ _ h => h) (Or.inl ⟨by kernel_rfl, fun W hSW => by go_simp; try with_reducible rfl⟩) (by assumption) ?_
                    try simp only [List.getElem_toArray]
                    try simp only [List.getElem_cons_succ]
                    try simp only [List.getElem_cons_zero]
                    try simp only [Act.put]
                    try simp only [List.setIfInBounds_toArray]
                    try simp only [List.set_cons_succ]
                    try simp only [List.set_cons_zero]
                    refine wpAnyH_take (i := 6) (v := ?_) rfl (by kernel_rfl) (by kernel_rfl) (by kernel_rfl) (fun _ _ _ h => h) (Or.inl ⟨by kernel_rfl, fun W hSW => by go_simp; try with_reducible rfl⟩) (by assumption) ?_
                    try simp only [List.getElem_toArray]
                    try simp only [List.getElem_cons_succ]
                    try simp only [List.getElem_cons_zero]
                    try simp only [Act.put]
                    try simp only [List.setIfInBounds_toArray]
                    try simp only [List.set_cons_succ]
                    try simp only [List.set_cons_zero]
                    refine wpAnyH_take (i := 7) (v := ?_) rfl (by kernel_rfl) (by kernel_rfl) (by kernel_rfl) (fun _ _ _ h => h) (Or.inl ⟨by kernel_rfl, fun W hSW => by go_simp; try with_reducible rfl⟩) (by assumption) ?_
                    try simp only [List.getElem_toArray]
                    try simp only [List.getElem_cons_succ]
                    try simp only [List.getElem_cons_zero]
                    try simp only [Act.put]
                    try simp only [List.setIfInBounds_toArray]
                    try simp only [List.set_cons_succ]
                    try simp only [List.set_cons_zero]
                    refine wpAnyH_take (i := 8) (v := ?_) rfl (by kernel_rfl) (by kernel_rfl) (by kernel_rfl) (fun _ _ _ h => h) (Or.inl ⟨by kernel_rfl, fun W hSW => by go_simp; try with_reducible rfl⟩) (by assumption) ?_
                    try simp only [List.getElem_toArray]
                    try simp only [List.getElem_cons_succ]
                    try simp only [List.getElem_cons_zero]
                    try simp only [Act.put]
                    try simp only [List.setIfInBounds_toArray]
                    try simp only [List.set_cons_succ]
                    try simp only [List.set_cons_zero]
                    refine wpAnyH_take (i := 9) (v := ?_) rfl (by kernel_rfl) (by kernel_rfl) (by kernel_rfl) (fun _ _ _ h => h) (Or.inl ⟨by kernel_rfl, fun W hSW => by go_simp; try with_reducible rfl⟩) (by assumption) ?_
                    try simp only [List.getElem_toArray]
                    try simp only [List.getElem_cons_succ]
                    try simp only [List.getElem_cons_zero]
                    try simp only [Act.put]
                    try simp only [List.setIfInBounds_toArray]
                    try simp only [List.set_cons_succ]
                    try simp only [List.set_cons_zero]
                    refine wpAnyH_take (i := 10) (v := ?_) rfl (by kernel_rfl) (by kernel_rfl) (by kernel_rfl) (fun _ _ _ h => h) (Or.inl ⟨by kernel_rfl, fun W hSW => by go_simp; try with_reducible rfl⟩) (by assumption) ?_
                    try simp only [List.getElem_toArray]
                    try simp only [List.getElem_cons_succ]
                    try simp only [List.getElem_cons_zero]
                    try simp only [Act.put]
                    try simp only [List.setIfInBounds_toArray]
                    try simp only [List.set_cons_succ]
                    try simp only [List.set_cons_zero]
                    refine wpAnyH_take (i := 11) (v := ?_) rfl (by kernel_rfl) (by kernel_rfl) (by kernel_rfl) (fun _ _ _ h => h) (Or.inl ⟨by kernel_rfl, fun W hSW => by go_simp; try with_reducible rfl⟩) (by assumption) ?_
                    try simp only [List.getElem_toArray]
                    try simp only [List.getElem_cons_succ]
                    try simp only [List.getElem_cons_zero]
                    try simp only [Act.put]
                    try simp only [List.setIfInBounds_toArray]
                    try simp only [List.set_cons_succ]
                    try simp only [List.set_cons_zero]
                    refine wpAnyH_take (i := 12) (v := ?_) rfl (by kernel_rfl) (by kernel_rfl) (by kernel_rfl) (fun _ _ _ h => h) (Or.inl ⟨by kernel_rfl, fun W hSW => by go_simp; try with_reducible rfl⟩) (by assumption) ?_
                    try simp only [List.getElem_toArray]
                    try simp only [List.getElem_cons_succ]
                    try simp only [List.getElem_cons_zero]
                    try simp only [Act.put]
                    try simp only [List.setIfInBounds_toArray]
                    try simp only [List.set_cons_succ]
                    try simp only [List.set_cons_zero]
                    refine wpAnyH_take (i := 13) (v := ?_) rfl (by kernel_rfl) (by kernel_rfl) (by kernel_rfl) (fun _ _ _ h => h) (Or.inl ⟨by kernel_rfl, fun W hSW => by go_simp; try with_reducible rfl⟩) (by assumption) ?_
                    try simp only [List.getElem_toArray]
                    try simp only [List.getElem_cons_succ]
                    try simp only [List.getElem_cons_zero]
                    try simp only [Act.put]
                    try simp only [List.setIfInBounds_toArray]
                    try simp only [List.set_cons_succ]
                    try simp only [List.set_cons_zero]
                    refine wpAnyH_take (i := 14) (v := ?_) rfl (by kernel_rfl) (by kernel_rfl) (by kernel_rfl) (fun _ _ _ h => h) (Or.inl ⟨by kernel_rfl, fun W hSW => by go_simp; try with_reducible rfl⟩) (by assumption) ?_
                    try simp only [List.getElem_toArray]
                    try simp only [List.getElem_cons_succ]
                    try simp only [List.getElem_cons_zero]
                    try simp only [Act.put]
                    try simp only [List.setIfInBounds_toArray]
                    try simp only [List.set_cons_succ]
                    try simp only [List.set_cons_zero]
                    refine wpAnyH_take (i := 15) (v := ?_) rfl (by kernel_rfl) (by kernel_rfl) (by kernel_rfl) (fun _ _ _ h => h) (Or.inl ⟨by kernel_rfl, fun W hSW => by go_simp; try with_reducible rfl⟩) (by assumption) ?_
                    try simp only [List.getElem_toArray]
                    try simp only [List.getElem_cons_succ]
                    try simp only [List.getElem_cons_zero]
                    try simp only [Act.put]
                    try simp only [List.setIfInBounds_toArray]
                    try simp only [List.set_cons_succ]
                    try simp only [List.set_cons_zero]
                    refine wpAnyH_take (i := 16) (v := ?_) rfl (by kernel_rfl) (by kernel_rfl) (by kernel_rfl) (fun _ _ _ h => h) (Or.inl ⟨by kernel_rfl, fun W hSW => by go_simp; try with_reducible rfl⟩) (by assumption) ?_
                    try simp only [List.getElem_toArray]
                    try simp only [List.getElem_cons_succ]
                    try simp only [List.getElem_cons_zero]
                    try simp only [Act.put]
                    try simp only [List.setIfInBounds_toArray]
                    try simp only [List.set_cons_succ]
                    try simp only [List.set_cons_zero]
                    refine wpAnyH_take (i := 17) (v := ?_) rfl (by kernel_rfl) (by kernel_rfl) (by kernel_rfl) (fun _ _ _ h => h) (Or.inl ⟨by kernel_rfl, fun W hSW => by go_simp; try with_reducible rfl⟩) (by assumption) ?_
                    try simp only [List.getElem_toArray]
                    try simp only [List.getElem_cons_succ]
                    try simp only [List.getElem_cons_zero]
                    try simp only [Act.put]
                    try simp only [List.setIfInBounds_toArray]
                    try simp only [List.set_cons_succ]
                    try simp only [List.set_cons_zero]
                    refine wpAnyH_take (i := 18) (v := ?_) rfl (by kernel_rfl) (by kernel_rfl) (by kernel_rfl) (fun _ _ _ h => h) (Or.inl ⟨by kernel_rfl, fun W hSW => by go_simp; try with_reducible rfl⟩) (by assumption) ?_
                    try simp only [List.getElem_toArray]
                    try simp only [List.getElem_cons_succ]
                    try simp only [List.getElem_cons_zero]
                    try simp only [Act.put]
                    try simp only [List.setIfInBounds_toArray]
                    try simp only [List.set_cons_succ]
                    try simp only [List.set_cons_zero]
                    refine wpAnyH_take (i := 19) (v := ?_) rfl (by kernel_rfl) (by kernel_rfl) (by kernel_rfl) (fun _ _ _ h => h) (Or.inl ⟨by kernel_rfl, fun W hSW => by go_simp; try with_reducible rfl⟩) (by assumption) ?_
                    try simp only [List.getElem_toArray]
                    try simp only [List.getElem_cons_succ]
                    try simp only [List.getElem_cons_zero]
                    try simp only [Act.put]
                    try simp only [List.setIfInBounds_toArray]
                    try simp only [List.set_cons_succ]
                    try simp only [List.set_cons_zero]
                    refine wpAnyH_take (i := 20) (v := ?_) rfl (by kernel_rfl) (by kernel_rfl) (by kernel_rfl) (fun _ _ _ h => h) (Or.inl ⟨by kernel_rfl, fun W hSW => by go_simp; try with_reducible rfl⟩) (by assumption) ?_
                    try simp only [List.getElem_toArray]
                    try simp only [List.getElem_cons_succ]
                    try simp only [List.getElem_cons_zero]
                    try simp only [Act.put]
                    try simp only [List.setIfInBounds_toArray]
                    try simp only [List.set_cons_succ]
                    try simp only [List.set_cons_zero]
                    refine wpAnyH_take (i := 21) (v := ?_) rfl (by kernel_rfl) (by kernel_rfl) (by kernel_rfl) (fun _ _ _ h => h) (Or.inl ⟨by kernel_rfl, fun W hSW => by go_simp; try with_reducible rfl⟩) (by assumption) ?_
                    try simp only [List.getElem_toArray]
                    try simp only [List.getElem_cons_succ]
                    try simp only [List.getElem_cons_zero]
                    try simp only [Act.put]
                    try simp only [List.setIfInBounds_toArray]
                    try simp only [List.set_cons_succ]
                    try simp only [List.set_cons_zero]
                    refine wpAnyH_take (i := 23) (v := ?_) rfl (by kernel_rfl) (by kernel_rfl) (by kernel_rfl) (fun _ _ _ h => h) (Or.inl ⟨by kernel_rfl, fun W hSW => by go_simp; try with_reducible rfl⟩) (by assumption) ?_
                    try simp only [List.getElem_toArray]
                    try simp only [List.getElem_cons_succ]
                    try simp only [List.getElem_cons_zero]
                    try simp only [Act.put]
                    try simp only [List.setIfInBounds_toArray]
                    try simp only [List.set_cons_succ]
                    try simp only [List.set_cons_zero]
                    refine wpAnyH_take (i := 24) (v := ?_) rfl (by kernel_rfl) (by kernel_rfl) (by kernel_rfl) (fun _ _ _ h => h) (Or.inl ⟨by kernel_rfl, fun W hSW => by go_simp; try with_reducible rfl⟩) (by assumption) ?_
                    try simp only [List.getElem_toArray]
                    try simp only [List.getElem_cons_succ]
                    try simp only [List.getElem_cons_zero]
                    try simp only [Act.put]
                    try simp only [List.setIfInBounds_toArray]
                    try simp only [List.set_cons_succ]
                    try simp only [List.set_cons_zero]
                    refine wpAnyH_take (i := 25) (v := ?_) rfl (by kernel_rfl) (by kernel_rfl) (by kernel_rfl) (fun _ _ _ h => h) (Or.inl ⟨by kernel_rfl, fun W hSW => by go_simp; try with_reducible rfl⟩) (by assumption) ?_
                    try simp only [List.getElem_toArray]
                    try simp only [List.getElem_cons_succ]
                    try simp only [List.getElem_cons_zero]
                    try simp only [Act.put]
                    try simp only [List.setIfInBounds_toArray]
                    try simp only [List.set_cons_succ]
                    try simp only [List.set_cons_zero]
                    refine wpAnyH_ready (rs := [22]) (by kernel_rfl) (by simp) ?_
                    refine AllReadyH.cons rfl (fun K hK => ?_) AllReadyH.nil
                    go_simp
                    refine (HA17.out _ _ _ _ (R20.out.kept D0).m1 (HT2.out _ (R20.out.kept D0).st.bel)).mono ?_
                    rintro e c1 ⟨rfl, hk1⟩
                    have K1 := D0.trans hk1
                    refine hK.out _ _ (K1) (fun _ => ?_)
                    clear hK K
                    try simp only [List.getElem_toArray]
                    try simp only [List.getElem_cons_succ]
                    try simp only [List.getElem_cons_zero]
                    try simp only [Act.put]
                    try simp only [List.setIfInBounds_toArray]
                    try simp only [List.set_cons_succ]
                    try simp only [List.set_cons_zero]
                    refine wpAnyH_ready (rs := [26]) (by kernel_rfl) (by simp) ?_
                    refine AllReadyH.cons rfl (fun K hK => ?_) AllReadyH.nil
                    go_simp
                    refine (HA18.out _ (HT1.out _ (R20.out.kept K1).st.bel) (HT2.out _ (R20.out.kept K1).st.bel)).mono ?_
                    rintro e c2 ⟨rfl, hk2⟩
                    have K2 := K1.trans hk2
                    refine hK.out _ _ (K2) (fun _ => ?_)
                    clear hK K
                    try simp only [List.getElem_toArray]
                    try simp only [List.getElem_cons_succ]
                    try simp only [List.getElem_cons_zero]
                    try simp only [Act.put]
                    try simp only [List.setIfInBounds_toArray]
                    try simp only [List.set_cons_succ]
                    try simp only [List.set_cons_zero]
                    refine wpAnyH_take (i := 27) (v := ?_) rfl (by kernel_rfl) (by kernel_rfl) (by kernel_rfl) (fun _ _ _ h => h) (Or.inl ⟨by kernel_rfl, fun W hSW => by go_simp; try with_reducible rfl⟩) (by assumption) ?_
                    try simp only [List.getElem_toArray]
                    try simp only [List.getElem_cons_succ]
                    try simp only [List.getElem_cons_zero]
                    try simp only [Act.put]
                    try simp only [List.setIfInBounds_toArray]
                    try simp only [List.set_cons_succ]
                    try simp only [List.set_cons_zero]
                    refine wpAnyH_take (i := 28) (v := ?_) rfl (by kernel_rfl) (by kernel_rfl) (by kernel_rfl) (fun _ _ _ h => h) (Or.inl ⟨by kernel_rfl, fun W hSW => by go_simp; try with_reducible rfl⟩) (by assumption) ?_
                    try simp only [List.getElem_toArray]
                    try simp only [List.getElem_cons_succ]
                    try simp only [List.getElem_cons_zero]
                    try simp only [Act.put]
                    try simp only [List.setIfInBounds_toArray]
                    try simp only [List.set_cons_succ]
                    try simp only [List.set_cons_zero]
                    refine wpAnyH_take (i := 29) (v := ?_) rfl (by kernel_rfl) (by kernel_rfl) (by kernel_rfl) (fun _ _ _ h => h) (Or.inl ⟨by kernel_rfl, fun W hSW => by go_simp; try with_reducible rfl⟩) (by assumption) ?_
                    try simp only [List.getElem_toArray]
                    try simp only [List.getElem_cons_succ]
                    try simp only [List.getElem_cons_zero]
                    try simp only [Act.put]
                    try simp only [List.setIfInBounds_toArray]
                    try simp only [List.set_cons_succ]
                    try simp only [List.set_cons_zero]
                    refine wpAnyH_take (i := 30) (v := ?_) rfl (by kernel_rfl) (by kernel_rfl) (by kernel_rfl) (fun _ _ _ h => h) (Or.inl ⟨by kernel_rfl, fun W hSW => by go_simp; try with_reducible rfl⟩) (by assumption) ?_
                    try simp only [List.getElem_toArray]
                    try simp only [List.getElem_cons_succ]
                    try simp only [List.getElem_cons_zero]
                    try simp only [Act.put]
                    try simp only [List.setIfInBounds_toArray]
                    try simp only [List.set_cons_succ]
                    try simp only [List.set_cons_zero]
                    refine wpAnyH_take (i := 31) (v := ?_) rfl (by kernel_rfl) (by kernel_rfl) (by kernel_rfl) (fun _ _ _ h => h) (Or.inl ⟨by kernel_rfl, fun W hSW => by go_simp; try with_reducible rfl⟩) (by assumption) ?_
                    try simp only [List.getElem_toArray]
                    try simp only [List.getElem_cons_succ]
                    try simp only [List.getElem_cons_zero]
                    try simp only [Act.put]
                    try simp only [List.setIfInBounds_toArray]
                    try simp only [List.set_cons_succ]
                    try simp only [List.set_cons_zero]
                    refine wpAnyH_ready (rs := [32]) (by kernel_rfl) (by simp) ?_
                    refine AllReadyH.cons rfl (fun K hK => ?_) AllReadyH.nil
                    go_simp
                    refine (HA19.out _ _ _ _ (R20.out.kept K2).m1 (HT1.out _ (R20.out.kept K2).st.bel)).mono ?_
                    rintro e c3 ⟨rfl, hk3⟩
                    have K3 := K2.trans hk3
                    refine hK.out _ _ (K3) (fun _ => ?_)
                    clear hK K
                    try simp only [List.getElem_toArray]
                    try simp only [List.getElem_cons_succ]
                    try simp only [List.getElem_cons_zero]
                    try simp only [Act.put]
                    try simp only [List.setIfInBounds_toArray]
                    try simp only [List.set_cons_succ]
                    try simp only [List.set_cons_zero]
                    refine wpAnyH_take (i := 33) (v := ?_) rfl (by kernel_rfl) (by kernel_rfl) (by kernel_rfl) (fun _ _ _ h => h) (Or.inl ⟨by kernel_rfl, fun W hSW => by go_simp; try with_reducible rfl⟩) (by assumption) ?_
                    try simp only [List.getElem_toArray]
                    try simp only [List.getElem_cons_succ]
                    try simp only [List.getElem_cons_zero]
                    try simp only [Act.put]
                    try simp only [List.setIfInBounds_toArray]
                    try simp only [List.set_cons_succ]
                    try simp only [List.set_cons_zero]
                    refine wpAnyH_take (i := 34) (v := ?_) rfl (by kernel_rfl) (by kernel_rfl) (by kernel_rfl) (fun _ _ _ h => h) (Or.inl ⟨by kernel_rfl, fun W hSW => by go_simp; try with_reducible rfl⟩) (by assumption) ?_
                    try simp only [List.getElem_toArray]
                    try simp only [List.getElem_cons_succ]
                    try simp only [List.getElem_cons_zero]
                    try simp only [Act.put]
                    try simp only [List.setIfInBounds_toArray]
                    try simp only [List.set_cons_succ]
                    try simp only [List.set_cons_zero]
                    refine wpAnyH_take (i := 35) (v := ?_) rfl (by kernel_rfl) (by kernel_rfl) (by kernel_rfl) (fun _ _ _ h => h) (Or.inl ⟨by kernel_rfl, fun W hSW => by go_simp; try with_reducible rfl⟩) (by assumption) ?_
                    try simp only [List.getElem_toArray]
                    try simp only [List.getElem_cons_succ]
                    try simp only [List.getElem_cons_zero]
                    try simp only [Act.put]
                    try simp only [List.setIfInBounds_toArray]
                    try simp only [List.set_cons_succ]
                    try simp only [List.set_cons_zero]
                    refine wpAnyH_take (i := 36) (v := ?_) rfl (by kernel_rfl) (by kernel_rfl) (by kernel_rfl) (fun _ _ _ h => h) (Or.inl ⟨by kernel_rfl, fun W hSW => by go_simp; try with_reducible rfl⟩) (by assumption) ?_
                    try simp only [List.getElem_toArray]
                    try simp only [List.getElem_cons_succ]
                    try simp only [List.getElem_cons_zero]
                    try simp only [Act.put]
                    try simp only [List.setIfInBounds_toArray]
                    try simp only [List.set_cons_succ]
                    try simp only [List.set_cons_zero]
                    refine wpAnyH_take (i := 37) (v := ?_) rfl (by kernel_rfl) (by kernel_rfl) (by kernel_rfl) (fun _ _ _ h => h) (Or.inl ⟨by kernel_rfl, fun W hSW => by go_simp; try with_reducible rfl⟩) (by assumption) ?_
                    try simp only [List.getElem_toArray]
                    try simp only [List.getElem_cons_succ]
                    try simp only [List.getElem_cons_zero]
                    try simp only [Act.put]
                    try simp only [List.setIfInBounds_toArray]
                    try simp only [List.set_cons_succ]
                    try simp only [List.set_cons_zero]
                    refine wpAnyH_take (i := 38) (v := ?_) rfl (by kernel_rfl) (by kernel_rfl) (by kernel_rfl) (fun _ _ _ h => h) (Or.inl ⟨by kernel_rfl, fun W hSW => by go_simp; try with_reducible rfl⟩) (by assumption) ?_
                    try simp only [List.getElem_toArray]
                    try simp only [List.getElem_cons_succ]
                    try simp only [List.getElem_cons_zero]
                    try simp only [Act.put]
                    try simp only [List.setIfInBounds_toArray]
                    try simp only [List.set_cons_succ]
                    try simp only [List.set_cons_zero]
                    refine wpAnyH_take (i := 39) (v := ?_) rfl (by kernel_rfl) (by kernel_rfl) (by kernel_rfl) (fun _ _ _ h => h) (Or.inl ⟨by kernel_rfl, fun W hSW => by go_simp; try with_reducible rfl⟩) (by assumption) ?_
                    try simp only [List.getElem_toArray]
                    try simp only [List.getElem_cons_succ]
                    try simp only [List.getElem_cons_zero]
                    try simp only [Act.put]
                    try simp only [List.setIfInBounds_toArray]
                    try simp only [List.set_cons_succ]
                    try simp only [List.set_cons_zero]
                    refine wpAnyH_ready (rs := [40]) (by kernel_rfl) (by simp) ?_
                    refine AllReadyH.cons rfl (fun K hK => ?_) AllReadyH.nil
                    go_simp
                    refine (HA20.out _ _ _ _ (R20.out.kept K3).m2 (HT2.out _ (R20.out.kept K3).st.bel)).mono ?_
                    rintro e c4 ⟨rfl, hk4⟩
                    have K4 := K3.trans hk4
                    refine hK.out _ _ (K4) (fun _ => ?_)
                    clear hK K
                    try simp only [List.getElem_toArray]
                    try simp only [List.getElem_cons_succ]
                    try simp only [List.getElem_cons_zero]
                    try simp only [Act.put]
                    try simp only [List.setIfInBounds_toArray]
                    try simp only [List.set_cons_succ]
                    try simp only [List.set_cons_zero]
                    refine wpAnyH_take (i := 41) (v := ?_) rfl (by kernel_rfl) (by kernel_rfl) (by kernel_rfl) (fun _ _ _ h => h) (Or.inl ⟨by kernel_rfl, fun W hSW => by go_simp; try with_reducible rfl⟩) (by assumption) ?_
                    try simp only [List.getElem_toArray]
                    try simp only [List.getElem_cons_succ]
                    try simp only [List.getElem_cons_zero]
                    try simp only [Act.put]
                    try simp only [List.setIfInBounds_toArray]
                    try simp only [List.set_cons_succ]
                    try simp only [List.set_cons_zero]
                    refine wpAnyH_take (i := 42) (v := ?_) rfl (by kernel_rfl) (by kernel_rfl) (by kernel_rfl) (fun _ _ _ h => h) (Or.inl ⟨by kernel_rfl, fun W hSW => by go_simp; try with_reducible rfl⟩) (by assumption) ?_
                    try simp only [List.getElem_toArray]
                    try simp only [List.getElem_cons_succ]
                    try simp only [List.getElem_cons_zero]
                    try simp only [Act.put]
                    try simp only [List.setIfInBounds_toArray]
                    try simp only [List.set_cons_succ]
                    try simp only [List.set_cons_zero]
                    refine wpAnyH_done (by kernel_rfl) ?_ _
                    go_wp2
                    go_meet
                    exact ⟨rfl, K4⟩
                case rest =>
                  as_aux_lemma =>
                    obtain ⟨rfl, HKc⟩ := hcut
                    have Rc := hid (R20.out.kept HKc.out)
                    have Bc := hid (Bq.out.kept HKc.out id)
                    have Oc := hid (Oq.out.kept HKc.out)
                    have Yc := hid (Oy.out.kept HKc.out)
                    have Zc := hid (Zm.out.kept HKc.out)
                    clear HKc R20 Bq Oq Oy Zm
                    obtain ⟨x0, x1, x2, x3⟩ := Bc.out.cells
                    go_wp2_with fail
                    refine (Rc.out.st.add (M := a14.heap.size) (by rw [HLn.out]; omega) (by have := HLq.out; omega) (Nat.le_of_lt HN.out) (OwnO.mono Oc.out Nq.out) HM2.out Zc.out HM1.out).mono ?_
                    rintro e d1 ⟨rfl, hT1, hkb1⟩
                    have T1 := hid hT1
                    have Y1 := hid (Yc.out.book hkb1)
                    clear hT1 hkb1 x0 x1 x2 x3 Rc Bc Oc Yc Zc
                    go_wp2_with fail
                    refine (T1.out.add (M := d1.heap.size) (by rw [List.length_append, HLn.out]; simp; omega) (by have := HLy.out; omega) (Nat.le_trans (Nat.le_of_lt HN.out) HM2.out) Y1.out T1.out.lt (Nat.le_refl _) (fun g hg => (own_lt Y1.out hg).2)).mono ?_
                    rintro e d2 ⟨rfl, hT2, hkb2⟩
                    have T2 := hid hT2
                    clear hT2 hkb2
                    go_wp2
                    go_roundw
                    case rel => exact ⟨j + 1, Ls ++ [Lq] ++ [Ly], d1.heap.size, by omega, by go_num, by rw [List.length_append, List.length_append, HLn.out]; simp; omega, T1.out.box.lt, T2.out⟩
                    case measure => simp [intOf]; omega
    · obtain rfl : j = 2 := by omega
      have hj2z : ¬ ((2 : Nat) : Int) < 2 := by omega
      have I := hid HI.out.2.2
      have HLn := hid HI.out.1
      clear HI
      as_aux_lemma =>
        go_wp2_with fail
        refine (Ha.out _).mono ?_
        rintro e a1 ⟨rfl, k1⟩
        have I1 := hid (I.out.kept k1)
        clear k1
        go_wp2_with fail
        refine (I1.out.apart (by rw [HLn.out]; omega)).mono ?_
        rintro e a2 ⟨rfl, hb2⟩
        go_wp2
        go_ret
        exact ⟨rfl, hb2⟩
end Go.Proofs.YtdifdcceigoedaaGreat
