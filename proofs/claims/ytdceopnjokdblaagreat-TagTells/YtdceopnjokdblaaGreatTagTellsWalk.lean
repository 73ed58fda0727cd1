/- The law TagTells: it returns true for every packet, two lists of tags, text and kind, and leaves what was there. -/
import Derived.Test.YtdceopnjokdblaaGreatTagTellsKit
import Derived.Deep.DeepCutAuto
namespace Go.Proofs.YtdceopnjokdblaaGreat
open Go.RowKit

set_option maxHeartbeats 1000000 in
set_option maxRecDepth 100000 in
theorem tagTells_not (c t : Int) (s : ByteArray) (v : Value) (l : List Tg) (u : Value) (m : List Tg) (b : ByteArray) (kind : Int) (w : World) (hs : s.size ≤ 140737488351232) (hv : TagsAt w v l) (hln : l.length ≤ maxLen) (hsz : ∀ x ∈ l, x.value.size ≤ 140737488351232)
    (hu : TagsAt w u m) (hmn : m.length ≤ maxLen) (hmz : ∀ x ∈ m, x.value.size ≤ 140737488351232) (hbz : b.size ≤ 140737488351232)
    (h : lightF l = false ∨ (lightF l = true ∧ lightF m = false) ∨ (lightF l = true ∧ lightF m = true ∧ 9000 < s.size + b.size)) :
    Calls Tryz.prog 3 #[.agg #[.int .i64 c, .int .i64 t, .string s], v, u, .string b, .int .i64 kind] w fun e w' => e = .returned (.bool true) ∧ Below w.heap.size w w' := by
  have Ha := hid alive_any
  have K0 := (Kept.refl (fun _ => False) w).alloc (.cells #[.int .i64 c, .int .i64 t, .string s] 23)
  have HL := hid (light_any v l _ (hv.kept0 K0) (by unfold maxLen at hln; omega) hsz)
  have HM : Hid (∀ W, Kept (fun _ => False) w W → Calls Tryz.prog 4 #[u] W fun e w' => e = .returned (.bool (lightF m)) ∧ Kept (fun _ => False) W w') := fun W h => light_any u m W (hu.kept0 h) (by unfold maxLen at hmn; omega) hmz
  have HK0 := hid K0
  have B0 := hid (box3_new w 23 (.int .i64 c) (.int .i64 t) (.string s))
  clear hv hsz K0 hln hu hmn hmz
  rcases h with h | ⟨h, h2⟩ | ⟨h, h2, h3⟩
  · rw [h] at HL
    clear h
    go_enter Tryz.func3, Tryz.ntmps3
    go_wp2_with fail
    refine HL.out.mono ?_
    rintro e w1 ⟨rfl, hk1⟩
    have HK1 := hid (HK0.out.trans hk1)
    clear hk1
    go_wp2_with fail
    refine (Ha.out _).mono ?_
    rintro e w2 ⟨rfl, hk2⟩
    go_wp2
    go_ret
    exact ⟨rfl, below_of (HK1.out.trans hk2)⟩
  · rw [h] at HL
    rw [h2] at HM
    clear h h2
    go_enter Tryz.func3, Tryz.ntmps3
    go_wp2_with fail
    refine HL.out.mono ?_
    rintro e w1 ⟨rfl, hk1⟩
    have HK1 := hid (HK0.out.trans hk1)
    clear hk1
    go_wp2_with fail
    refine (HM.out _ HK1.out).mono ?_
    rintro e w2 ⟨rfl, hk2⟩
    have HK2 := hid (HK1.out.trans hk2)
    clear hk2
    go_wp2_with fail
    refine (Ha.out _).mono ?_
    rintro e w3 ⟨rfl, hk3⟩
    go_wp2
    go_ret
    exact ⟨rfl, below_of (HK2.out.trans hk3)⟩
  · rw [h] at HL
    rw [h2] at HM
    have h6z : (9000 : Int) < (s.size : Int) + (b.size : Int) := by omega
    clear h h2 h3
    go_enter Tryz.func3, Tryz.ntmps3
    go_wp2_with fail
    refine HL.out.mono ?_
    rintro e w1 ⟨rfl, hk1⟩
    have HK1 := hid (HK0.out.trans hk1)
    go_wp2_with fail
    refine (HM.out _ HK1.out).mono ?_
    rintro e w2 ⟨rfl, hk2⟩
    have HK2 := hid (HK1.out.trans hk2)
    obtain ⟨b0, b1, b2⟩ := B0.out.carry (below_of (hk1.trans hk2)) (by simp)
    clear hk1 hk2
    go_wp2_with fail
    refine (Ha.out _).mono ?_
    rintro e w3 ⟨rfl, hk3⟩
    go_wp2
    go_ret
    exact ⟨rfl, below_of (HK2.out.trans hk3)⟩

theorem wpList_book {ops : Array Oper} {rest : List Oper} {o : Oper} {a : Act} {w : World} {Q : Exit → Act → World → Prop} {BC : Array Value} (hBC : bookCells (.slice none 0 0) (.slice none 0 0) = BC) (hg : o.guard = none) (ho : o.op = .build 52 #[])
    (h : wpList Tryz.prog ops Q rest (a.put o.dst (.agg BC)) w) : wpList Tryz.prog ops Q (o :: rest) a w := by
  refine wpList_build hg 52 #[] ho (by kernel_rfl) ?_
  have e : (Tryz.prog.built 52 ((#[] : Array (Nat × Operand)).map fun (i, x) => (i, a.eval x)).toList).getD #[] = bookCells (.slice none 0 0) (.slice none 0 0) := by kernel_rfl
  rw [e, hBC]
  exact h

set_option maxHeartbeats 8000000 in
set_option maxRecDepth 100000 in
theorem tagTells_in (c t : Int) (s : ByteArray) (v : Value) (l : List Tg) (u : Value) (m : List Tg) (b : ByteArray) (kind : Int) (w : World) (hv : TagsAt w v l) (hsz : ∀ x ∈ l, x.value.size ≤ 140737488351232)
    (hu : TagsAt w u m) (hmz : ∀ x ∈ m, x.value.size ≤ 140737488351232) (hl4 : l.length ≤ 40) (hm4 : m.length ≤ 40) (hli : lightF l = true) (hmi : lightF m = true) (h9 : s.size + b.size ≤ 9000) :
    Calls Tryz.prog 3 #[.agg #[.int .i64 c, .int .i64 t, .string s], v, u, .string b, .int .i64 kind] w fun e w' => e = .returned (.bool true) ∧ Below w.heap.size w w' := by
  have Ha := hid alive_any
  have HL : Hid (∀ W, Kept (fun _ => False) w W → Calls Tryz.prog 4 #[v] W fun e w' => e = .returned (.bool true) ∧ Kept (fun _ => False) W w') := fun W h => by
    have := light_any v l W (hv.kept0 h) (by omega) hsz
    rw [hli] at this
    exact this
  have HM : Hid (∀ W, Kept (fun _ => False) w W → Calls Tryz.prog 4 #[u] W fun e w' => e = .returned (.bool true) ∧ Kept (fun _ => False) W w') := fun W h => by
    have := light_any u m W (hu.kept0 h) (by omega) hmz
    rw [hmi] at this
    exact this
  have HP := hid (fun W => putDisc_any c t s (by omega) W)
  have HP2 := hid (fun W => refPut_any c t s (by omega) W)
  have HG := hid (fun W => getDisc_any b (by omega) W)
  have HG2 := hid (fun W => refGet_any b (by omega) W)
  obtain ⟨D, hD⟩ : ∃ D, (⟨(putDiscF c t s.data.toList).1.toArray⟩ : ByteArray) = D := ⟨_, rfl⟩
  rw [hD] at HP HP2
  generalize (putDiscF c t s.data.toList).2 = e1 at HP HP2
  unfold discV at HG HG2
  generalize (getDiscF b.data.toList).2 = e2 at HG HG2
  generalize ((getDiscF b.data.toList).1.code : Int) = gc at HG HG2
  generalize ((getDiscF b.data.toList).1.session : Int) = gs at HG HG2
  generalize (⟨(getDiscF b.data.toList).1.data.toArray⟩ : ByteArray) = gd at HG HG2
  have K0 := hid ((Kept.refl (fun _ => False) w).alloc (.cells #[.int .i64 c, .int .i64 t, .string s] 23))
  have B0 := hid (box3_new w 23 (.int .i64 c) (.int .i64 t) (.string s))
  have h9z : ¬ (9000 : Int) < (s.size : Int) + (b.size : Int) := by omega
  have hd9 : decide ((9000 : Int) < (s.size : Int) + (b.size : Int)) = false := by rw [decide_eq_false_iff_not]; exact h9z
  have HT1 := hid (fun (W : World) (h : Below w.heap.size w W) => hv.below h)
  have HT2 := hid (fun (W : World) (h : Below w.heap.size w W) => hu.below h)
  have HSZ := hid hsz
  have HA1 := hid (fun (g cap base : Nat) (W : World) (h : LentAt W base g cap l) => putTags_any (.slice (some ⟨g, 0, none⟩) l.length cap) l W h.own.tags hsz)
  have HA2 := hid (fun (W : World) (h : TagsAt W v l) => refPutTags_any v l W h hsz)
  have HA3 := hid (fun (W : World) => getTags_any b (by omega) W)
  have HA4 := hid (fun (W : World) => refGetTags_any b (by omega) W)
  have HA5 := hid (fun (g cap base : Nat) (W : World) (h : LentAt W base g cap l) => find_any (.slice (some ⟨g, 0, none⟩) l.length cap) l kind W h.own.tags (by omega) hsz)
  have HA6 := hid (fun (W : World) (h : TagsAt W v l) => refFind_any v l kind W h (by omega) hsz)
  have HA7 := hid (fun (p q : Value) (a c : Nat) (W : World) (hp : OwnT W a p (tagsOn b.data.toList []).1) (hq : OwnT W c q (tagsOn b.data.toList []).1) => sameTags_any p q _ _ W hp.tags hq.tags (by have := tagsOn_len b.data.toList; omega))
  simp only [sameF_self] at HA7
  have HA8 := hid (fun (g cap base : Nat) (W : World) (h : LentAt W base g cap l) (hm : TagsAt W u m) => same_any (.slice (some ⟨g, 0, none⟩) l.length cap) u l m W h.own.tags hm (by omega))
  have HA9 := hid (fun (W : World) (h : TagsAt W v l) (hm : TagsAt W u m) => refSame_any v u l m W h hm (by omega))
  have HL20 := hid (tagsOn_len b.data.toList)
  generalize (tagsOn b.data.toList []).2 = e3 at HA3 HA4
  generalize (tagsOn b.data.toList []).1 = L at HA3 HA4 HA7 HL20
  generalize (⟨(putTagsF l).1.toArray⟩ : ByteArray) = P at HA1 HA2
  generalize (putTagsF l).2 = e4 at HA1 HA2
  generalize (findF l kind).1 = F at HA5 HA6
  generalize ((findF l kind).2 : Int) = fn at HA5 HA6
  generalize sameF l m = sm at HA8 HA9
  have HLe := hid (fun (W : World) (h : TagsAt W v l) => lentTags_any v l W h (by omega))
  have HSt := hid (fun (g cap base : Nat) (W : World) (hn : LentAt W base g cap l) (h : TagsAt W v l) => staysTags_any g cap base v l W hn h (by omega))
  clear hD hv hu hsz hmz hli hmi
  go_enter Tryz.func3, Tryz.ntmps3
  go_wp2_with fail
  refine (HL.out _ K0.out).mono ?_
  rintro e w1 ⟨rfl, hk1⟩
  have K1 := hid (K0.out.trans hk1)
  have B1 := hid (B0.out.carry (below_of hk1) (by simp))
  clear hk1 B0 K0 HL
  go_wp2_with fail
  refine (HM.out _ K1.out).mono ?_
  rintro e w2 ⟨rfl, hk2⟩
  have K2 := hid (K1.out.trans hk2)
  have B2 := hid (B1.out.carry (below_of hk2) (lt_of_cell B1.out.1))
  obtain ⟨b0, b1, b2⟩ := B2.out
  clear hk2 B1 K1 HM
  go_wp2_with fail
  refine (HP.out _).mono ?_
  rintro e w3 ⟨rfl, hb3⟩
  have K3 := hid (K2.out.trans (kept_of hb3))
  have B3 := hid (B2.out.carry hb3 (lt_of_cell B2.out.1))
  clear hb3 B2 K2 HP b0 b1 b2
  obtain ⟨b0, b1, b2⟩ := B3.out
  go_wp2_with fail
  refine (HP2.out _).mono ?_
  rintro e w4 ⟨rfl, hk4⟩
  have K4 := hid (K3.out.trans hk4)
  clear hk4 B3 K3 HP2 b0 b1 b2
  go_wp2_with fail
  refine (HG.out _).mono ?_
  rintro e w5 ⟨rfl, hk5⟩
  have K5 := hid ((K4.out.trans hk5).alloc (.cells #[.int .i64 gc, .int .i64 gs, .string gd] 23))
  have X5 := hid (box3_new w5 23 (.int .i64 gc) (.int .i64 gs) (.string gd))
  clear hk5 K4 HG
  go_wp2_with fail
  refine (HG2.out _).mono ?_
  rintro e w6 ⟨rfl, hk6⟩
  have K6 := hid ((K5.out.trans hk6).alloc (.cells #[.int .i64 gc, .int .i64 gs, .string gd] 23))
  have X6 := hid (X5.out.carry (below_of hk6) (by simp))
  have hx6 : w5.heap.size < w6.heap.size := by have := hk6.size; simp at this; omega
  obtain ⟨x0, x1, x2⟩ := X6.out.carry ((Below.refl w6.heap.size w6).alloc (Nat.le_refl _) (.cells #[.int .i64 gc, .int .i64 gs, .string gd] 23)) hx6
  obtain ⟨y0, y1, y2⟩ := box3_new w6 23 (.int .i64 gc) (.int .i64 gs) (.string gd)
  clear hk6 K5 X5 X6 HG2 hx6
  obtain ⟨BC, hBC⟩ : ∃ BC, bookCells (.slice none 0 0) (.slice none 0 0) = BC := ⟨_, rfl⟩
  have HBC := hid hBC
  clear hBC
  go_wp2_with (refine wpList_book HBC.out rfl rfl ?_)
  have I0 : TI w ((w6.alloc (.cells #[.int .i64 gc, .int .i64 gs, .string gd] 23)).alloc (.cells BC 52)) (w6.heap.size + 1) 0 L := by
    refine ⟨below_of (K6.out.alloc _), .slice none 0 0, .slice none 0 0, [], [], ?_⟩
    have h := book_new (w6.alloc (.cells #[.int .i64 gc, .int .i64 gs, .string gd] 23)) w.heap.size (below_of K6.out).size
    rw [HBC.out] at h
    simpa using h
  have HI0 := hid I0
  clear I0 K6 x0 x1 x2 y0 y1 y2 HBC
  go_loopw [11, 12, 13, 14, 20, 21, 22, 23, 24, 25, 26, 27, 28, 29] (fun _ _ _ _ k _ _ _ _ _ _ _ _ _ wr => ∃ j : Nat, j ≤ 2 ∧ k = .int .i64 (j : Int) ∧ TI w wr (w6.heap.size + 1) j L) (fun _ _ _ _ k _ _ _ _ _ _ _ _ _ _ => 2 - (intOf k).toNat)
  case atStart => exact ⟨0, by omega, rfl, HI0.out⟩
  case round =>
    obtain ⟨j, hj, rfl, hI⟩ := hrel
    have I := hid hI
    clear hI HI0
    by_cases hj2 : j < 2
    · go_wp2_with fail
      refine (HLe.out _ (HT1.out _ I.out.bel)).mono ?_
      rintro e a1 ⟨g, cap, rfl, hL, k1⟩
      have KA := hid k1
      have LA := hid hL
      clear k1 hL
      go_wp2_with fail
      refine (HA1.out _ _ _ _ LA.out).mono ?_
      rintro e a2 ⟨rfl, k2⟩
      have KB := hid (KA.out.trans k2)
      have LB := hid (LA.out.kept k2)
      clear k2 KA LA
      go_wp2_with fail
      refine (HA2.out _ (HT1.out _ (I.out.kept KB.out).bel)).mono ?_
      rintro e a3 ⟨rfl, k3⟩
      have KC := hid (KB.out.trans k3)
      have LC := hid (LB.out.kept k3)
      clear k3 KB LB
      have I3 := hid (I.out.kept KC.out)
      go_wp2_with fail
      refine (HA3.out _).mono ?_
      rintro e a4 ⟨p, rfl, hp, k4⟩
      have K4' := hid k4
      have P4 := hid hp
      have LD := hid (LC.out.kept k4)
      clear k4 hp LC KC I
      go_wp2_with fail
      refine (HA4.out _).mono ?_
      rintro e a5 ⟨q, rfl, hq, k5⟩
      have M5 := hid k5
      have Q5 := hid hq
      have LE := hid (LD.out.kept k5)
      clear k5 hq LD
      go_wp2_with fail
      refine (HA5.out _ _ _ _ LE.out).mono ?_
      rintro e a6 ⟨rfl, k6⟩
      have M6 := hid (M5.out.trans k6)
      have Q6 := hid (Q5.out.kept k6)
      have LF := hid (LE.out.kept k6)
      clear k6 M5 Q5 LE
      go_wp2_with fail
      refine (HA6.out _ (HT1.out _ (I3.out.kept (K4'.out.trans M6.out)).bel)).mono ?_
      rintro e a7 ⟨rfl, k7⟩
      have M7 := hid (M6.out.trans k7)
      have Q7 := hid (Q6.out.kept k7)
      have LG := hid (LF.out.kept k7)
      clear k7 M6 Q6 LF
      go_wp2_with fail
      refine (HA7.out _ _ _ _ _ (P4.out.kept M7.out) Q7.out).mono ?_
      rintro e a8 ⟨rfl, k8⟩
      have M8 := hid (M7.out.trans k8)
      have LH := hid (LG.out.kept k8)
      clear k8 M7 Q7 LG
      go_wp2_with fail
      refine (HA8.out _ _ _ _ LH.out (HT2.out _ (I3.out.kept (K4'.out.trans M8.out)).bel)).mono ?_
      rintro e a9 ⟨rfl, k9⟩
      have M9 := hid (M8.out.trans k9)
      have LI := hid (LH.out.kept k9)
      clear k9 M8 LH
      go_wp2_with fail
      refine (HA9.out _ (HT1.out _ (I3.out.kept (K4'.out.trans M9.out)).bel) (HT2.out _ (I3.out.kept (K4'.out.trans M9.out)).bel)).mono ?_
      rintro e a10 ⟨rfl, k10⟩
      have M10 := hid (M9.out.trans k10)
      have LJ := hid (LI.out.kept k10)
      clear k10 M9 LI
      go_wp2_with fail
      refine (HSt.out _ _ _ _ LJ.out (HT1.out _ (I3.out.kept (K4'.out.trans M10.out)).bel)).mono ?_
      rintro e a11 ⟨rfl, k11⟩
      have M11 := hid (M10.out.trans k11)
      clear k11 M10 LJ
      go_wp2_with fail
      refine (I3.out.add (by omega) (by have := HL20.out; omega) K4'.out P4.out M11.out).mono ?_
      rintro e a12 ⟨rfl, hI12⟩
      have I12 := hid hI12
      clear hI12
      go_wp2
      go_roundw
      case rel => exact ⟨j + 1, by omega, by go_num, I12.out⟩
      case measure => simp [intOf]; omega
    · obtain rfl : j = 2 := by omega
      go_wp2_with fail
      refine (Ha.out _).mono ?_
      rintro e a1 ⟨rfl, k1⟩
      have I1 := hid (I.out.kept k1)
      clear k1
      go_wp2_with fail
      refine (I1.out.apart (by omega) (by have := HL20.out; omega)).mono ?_
      rintro e a2 ⟨rfl, hb2⟩
      go_wp2
      go_ret
      exact ⟨rfl, hb2⟩

theorem tagTells_walk (c t : Int) (s : ByteArray) (v : Value) (l : List Tg) (u : Value) (m : List Tg) (b : ByteArray) (kind : Int) (w : World) (hs : s.size ≤ 140737488351232) (hv : TagsAt w v l) (hln : l.length ≤ maxLen) (hsz : ∀ x ∈ l, x.value.size ≤ 140737488351232)
    (hu : TagsAt w u m) (hmn : m.length ≤ maxLen) (hmz : ∀ x ∈ m, x.value.size ≤ 140737488351232) (hbz : b.size ≤ 140737488351232) (_hk : -9223372036854775808 ≤ kind ∧ kind ≤ 9223372036854775807) :
    Calls Tryz.prog 3 #[.agg #[.int .i64 c, .int .i64 t, .string s], v, u, .string b, .int .i64 kind] w fun e w' => e = .returned (.bool true) ∧ Below w.heap.size w w' := by
  cases h : lightF l with
  | false => exact tagTells_not c t s v l u m b kind w hs hv hln hsz hu hmn hmz hbz (Or.inl h)
  | true =>
    cases h2 : lightF m with
    | false => exact tagTells_not c t s v l u m b kind w hs hv hln hsz hu hmn hmz hbz (Or.inr (Or.inl ⟨h, h2⟩))
    | true =>
      by_cases h9 : 9000 < s.size + b.size
      · exact tagTells_not c t s v l u m b kind w hs hv hln hsz hu hmn hmz hbz (Or.inr (Or.inr ⟨h, h2, h9⟩))
      · exact tagTells_in c t s v l u m b kind w hv hsz hu hmz (lightF_true h).1 (lightF_true h2).1 h h2 (by omega)
end Go.Proofs.YtdceopnjokdblaaGreat
