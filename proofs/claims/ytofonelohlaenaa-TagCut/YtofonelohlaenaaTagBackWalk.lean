/- The law TagBack: it returns true for every packet, list of tags and text, and leaves what was there. -/
import Derived.Test.YtofonelohlaenaaTagLight
import Derived.Deep.DeepCutAuto
namespace Go.Proofs.Ytofonelohlaenaa
open Go.RowKit

set_option maxHeartbeats 1000000 in
set_option maxRecDepth 100000 in
theorem tagBack_not (c t : Int) (s : ByteArray) (v : Value) (l : List Tg) (m : ByteArray) (w : World) (hs : s.size ≤ 140737488351232) (hv : TagsAt w v l) (hln : l.length ≤ maxLen) (hsz : ∀ x ∈ l, x.value.size ≤ 140737488351232) (hm : m.size ≤ 140737488351232)
    (h : lightF l = false ∨ (lightF l = true ∧ 6000 < s.size + m.size)) :
    Calls Try.prog 3 #[.agg #[.int .i64 c, .int .i64 t, .string s], v, .string m] w fun e w' => e = .returned (.bool true) ∧ Below w.heap.size w w' := by
  have Ha := hid alive_any
  have K0 := (Kept.refl (fun _ => False) w).alloc (.cells #[.int .i64 c, .int .i64 t, .string s] 23)
  have HL := hid (light_any v l _ (hv.kept0 K0) (by unfold maxLen at hln; omega) hsz)
  have HK0 := hid K0
  have B0 := hid (box3_new w 23 (.int .i64 c) (.int .i64 t) (.string s))
  clear hv hsz K0 hln
  rcases h with h | ⟨h, h6⟩
  · rw [h] at HL
    clear h
    go_enter Try.func3, Try.ntmps3
    go_wp2_with fail
    refine HL.out.mono ?_
    rintro e w1 ⟨rfl, hk1⟩
    have HK1 := hid (HK0.out.trans hk1)
    clear hk1
    go_wp2_with fail
    refine (Ha.out _).mono ?_
    rintro e w2 ⟨rfl, hk2⟩
    go_wp2
    go_ret
    exact ⟨rfl, below_of (HK1.out.trans hk2)⟩
  · rw [h] at HL
    have h6z : (6000 : Int) < (s.size : Int) + (m.size : Int) := by omega
    clear h h6
    go_enter Try.func3, Try.ntmps3
    go_wp2_with fail
    refine HL.out.mono ?_
    rintro e w1 ⟨rfl, hk1⟩
    obtain ⟨b0, b1, b2⟩ := B0.out.carry (below_of hk1) (by simp)
    have HK1 := hid (HK0.out.trans hk1)
    clear hk1
    go_wp2_with fail
    refine (Ha.out _).mono ?_
    rintro e w2 ⟨rfl, hk2⟩
    go_wp2
    go_ret
    exact ⟨rfl, below_of (HK1.out.trans hk2)⟩

theorem putDisc_ok {c t : Int} {l : List UInt8} (h : (putDiscF c t l).2 = 0) : ∃ a b : Nat, c = (a : Int) ∧ t = (b : Int) ∧ a ≤ 255 ∧ b ≤ 65535 ∧ l.length ≤ 1494 ∧ (putDiscF c t l).1 = discF a b l := by
  unfold putDiscF at *
  by_cases h1 : (byteB c && wordB t) = true
  · rw [if_pos h1] at h ⊢
    by_cases h2 : 1494 < l.length
    · rw [if_pos h2] at h
      simp at h
    · rw [if_neg h2]
      have hr : (0 ≤ c ∧ c ≤ 255) ∧ (0 ≤ t ∧ t ≤ 65535) := by simpa [byteB, wordB] using h1
      exact ⟨c.toNat, t.toNat, by omega, by omega, by omega, by omega, by omega, rfl⟩
  · rw [if_neg h1] at h
    simp at h

theorem putTags_no {l : List Tg} (h : (putTagsF l).2 ≠ 0) : (putTagsF l).1 = [] := by
  unfold putTagsF at *
  split
  · rfl
  · split
    · rfl
    · split
      · rfl
      · simp_all

theorem putTags_ok {l : List Tg} (h : (putTagsF l).2 = 0) : l.length ≤ 20 ∧ l.all okT = true ∧ (putTagsF l).1 = bytesT l ∧ sizeT l ≤ 1494 := by
  unfold putTagsF at *
  by_cases h1 : 20 < l.length
  · rw [if_pos h1] at h
    simp at h
  · rw [if_neg h1] at h ⊢
    by_cases h2 : l.all okT = false
    · rw [if_pos h2] at h
      simp at h
    · rw [if_neg h2] at h ⊢
      by_cases h3 : 1494 < sizeT l
      · rw [if_pos h3] at h
        simp at h
      · rw [if_neg h3]
        exact ⟨by omega, by simpa using h2, rfl, by omega⟩

theorem putDisc_size (c t : Int) (l : List UInt8) : (putDiscF c t l).1.length ≤ 1500 := by
  by_cases h : (putDiscF c t l).2 = 0
  · obtain ⟨a, b, _, _, _, _, hl, h1⟩ := putDisc_ok h
    rw [h1, discF_length]
    omega
  · unfold putDiscF at *
    split
    · split
      · simp
      · simp_all
    · simp
theorem putTags_size (l : List Tg) : (putTagsF l).1.length ≤ 1494 := by
  by_cases h : (putTagsF l).2 = 0
  · obtain ⟨_, _, h3, h4⟩ := putTags_ok h
    rw [h3, bytesT_length]
    exact h4
  · rw [putTags_no h]
    simp

theorem sizeT_mem {l : List Tg} {x : Tg} (h : x ∈ l) : x.value.size ≤ sizeT l := by
  induction l with
  | nil => simp at h
  | cons a r ih =>
    rw [sizeT_cons]
    rcases List.mem_cons.1 h with rfl | h
    · omega
    · have := ih h
      omega

theorem get_back {l : List Tg} (h : (putTagsF l).2 = 0) : tagsOn (putTagsF l).1 [] = (l, 0) := by
  obtain ⟨h1, h2, h3, h4⟩ := putTags_ok h
  have := tagsOn_all l h2 (fun t ht => by have := sizeT_mem ht; omega) [] [] (by simp; omega)
  rw [List.append_nil] at this
  rw [h3, this, tagsOn_nil, List.nil_append]
theorem get_back_end {l : List Tg} (h : (putTagsF l).2 = 0) (r : List UInt8) : tagsOn ((putTagsF l).1 ++ (0 :: 0 :: r)) [] = (l, 0) := by
  obtain ⟨h1, h2, h3, h4⟩ := putTags_ok h
  rw [h3, tagsOn_all l h2 (fun t ht => by have := sizeT_mem ht; omega) _ [] (by simp; omega), tagsOn_end, List.nil_append]

set_option maxHeartbeats 4000000 in
set_option maxRecDepth 100000 in
theorem tagBack_in (c t : Int) (s : ByteArray) (v : Value) (l : List Tg) (m : ByteArray) (w : World) (hv : TagsAt w v l) (hln : l.length ≤ maxLen) (hsz : ∀ x ∈ l, x.value.size ≤ 140737488351232)
    (hli : lightF l = true) (h6 : s.size + m.size ≤ 6000) :
    Calls Try.prog 3 #[.agg #[.int .i64 c, .int .i64 t, .string s], v, .string m] w fun e w' => e = .returned (.bool true) ∧ Below w.heap.size w w' := by
  have Ha := hid alive_any
  have hl4 := (lightF_true hli).1
  have Hv : Hid (∀ W, Kept (fun _ => False) w W → TagsAt W v l) := fun W h => hv.kept0 h
  have HL : Hid (∀ W, Kept (fun _ => False) w W → Calls Try.prog 7 #[v] W fun e w' => e = .returned (.bool true) ∧ Kept (fun _ => False) W w') := fun W h => by
    have := light_any v l W (hv.kept0 h) (by unfold maxLen at hln; omega) hsz
    rw [hli] at this
    exact this
  have HP := hid (fun W => putDisc_any c t s (by omega) W)
  have HT : Hid (∀ W, Kept (fun _ => False) w W → Calls Try.prog 11 #[v] W fun e w' => e = .returned (.tuple #[.string ⟨(putTagsF l).1.toArray⟩, .int .i64 (putTagsF l).2]) ∧ Kept (fun _ => False) W w') := fun W h => putTags_any v l W (hv.kept0 h) hsz
  have K0 := hid ((Kept.refl (fun _ => False) w).alloc (.cells #[.int .i64 c, .int .i64 t, .string s] 23))
  have B0 := hid (box3_new w 23 (.int .i64 c) (.int .i64 t) (.string s))
  have h6z : ¬ (6000 : Int) < (s.size : Int) + (m.size : Int) := by omega
  have HS : Hid (∀ W u k, Kept (fun _ => False) w W → OwnT W k u l → Calls Try.prog 13 #[u, v] W fun e w' => e = .returned (.bool true) ∧ Kept (fun _ => False) W w') := fun W u k hW hu => by
    have := same_any u v l l W hu.tags (hv.kept0 hW) (by omega)
    rw [sameF_self] at this
    exact this
  obtain ⟨D, e, hD⟩ : ∃ D e, (⟨(putDiscF c t s.data.toList).1.toArray⟩ : ByteArray) = D ∧ (putDiscF c t s.data.toList).2 = e := ⟨_, _, rfl, rfl⟩
  obtain ⟨U, f, hU⟩ : ∃ U f, (⟨(putTagsF l).1.toArray⟩ : ByteArray) = U ∧ (putTagsF l).2 = f := ⟨_, _, rfl, rfl⟩
  have hDs : D.size ≤ 1500 := by rw [← hD.1, Lib.size_eq]; exact putDisc_size c t _
  have hUs : U.size ≤ 1494 := by rw [← hU.1, Lib.size_eq]; exact putTags_size l
  rw [hD.1, hD.2] at HP
  rw [hU.1, hU.2] at HT
  have HG : Hid (e = 0 → ∀ W, Calls Try.prog 10 #[.string (D ++ m)] W fun r w' => r = .returned (.tuple #[.agg #[.int .i64 c, .int .i64 t, .string s], .int .i64 0]) ∧ Kept (fun _ => False) W w') := fun he W => by
    obtain ⟨a, b, rfl, rfl, ha, hb, hl, h1⟩ := putDisc_ok (hD.2.trans he)
    have e2 : (D ++ m).data.toList = discF a b s.data.toList ++ m.data.toList := by rw [← hD.1, ← h1]; simp
    have hszD : (D ++ m).size ≤ 140737488351232 := by
      rw [Lib.size_eq, e2, List.length_append, discF_length, ← Lib.size_eq, ← Lib.size_eq]
      omega
    have := getDisc_any (D ++ m) hszD W
    rw [e2, getDisc_put a b ha hb _ _ hl] at this
    exact this
  have HG1 : Hid (f = 0 → ∀ W, Calls Try.prog 12 #[.string U] W fun r w' => ∃ u, r = .returned (.tuple #[u, .int .i64 0]) ∧ OwnT w' W.heap.size u l ∧ Kept (fun _ => False) W w') := fun hf W => by
    have h1 := hU.2.trans hf
    obtain ⟨_, _, h3, h4⟩ := putTags_ok h1
    have := getTags_any U (by rw [← hU.1, h3, Lib.size_eq]; simp [bytesT_length]; omega) W
    rw [show U.data.toList = (putTagsF l).1 by rw [← hU.1], get_back h1] at this
    exact this
  have HG2 : Hid (f = 0 → ∀ W, Calls Try.prog 12 #[.string (U ++ ⟨#[0, 0]⟩ ++ m)] W fun r w' => ∃ u, r = .returned (.tuple #[u, .int .i64 0]) ∧ OwnT w' W.heap.size u l ∧ Kept (fun _ => False) W w') := fun hf W => by
    have h1 := hU.2.trans hf
    obtain ⟨_, _, h3, h4⟩ := putTags_ok h1
    have e2 : (U ++ ⟨#[0, 0]⟩ ++ m).data.toList = (putTagsF l).1 ++ (0 :: 0 :: m.data.toList) := by rw [← hU.1]; simp
    have hszU : (U ++ ⟨#[0, 0]⟩ ++ m).size ≤ 140737488351232 := by
      rw [Lib.size_eq, e2, List.length_append, h3, bytesT_length, List.length_cons, List.length_cons, ← Lib.size_eq]
      omega
    have := getTags_any (U ++ ⟨#[0, 0]⟩ ++ m) hszU W
    rw [e2, get_back_end h1] at this
    exact this
  have HU0 : Hid (f ≠ 0 → U = ⟨#[]⟩) := fun hf => by
    rw [← hU.1, putTags_no (by rw [hU.2]; exact hf)]
  clear hv hsz hln hli hD hU
  go_enter Try.func3, Try.ntmps3
  go_wp2_with fail
  refine (HL.out _ K0.out).mono ?_
  rintro e1 w1 ⟨rfl, hk1⟩
  have B1 := hid (B0.out.carry (below_of hk1) (by simp))
  have K1 := hid (K0.out.trans hk1)
  obtain ⟨b0, b1, b2⟩ := B1.out
  clear hk1 B0 K0 HL
  go_wp2_with fail
  refine (HP.out _).mono ?_
  rintro e2 w2 ⟨rfl, hb2⟩
  have B2 := hid (B1.out.carry hb2 (lt_of_cell B1.out.1))
  have K2 := hid (K1.out.trans (kept_of hb2))
  clear hb2 B1 K1 HP b0 b1 b2
  obtain ⟨b0, b1, b2⟩ := B2.out
  go_upto_if 36 with fail
  go_cut [9, 10] (fun _ _ wx => Kept (fun _ => False) w wx)
  case first =>
    by_cases he : e = 0
    · subst he
      have HG' := hid (HG.out rfl)
      clear HG
      go_wp2_with fail
      refine (HG'.out _).mono ?_
      rintro e3 w3 ⟨rfl, hk3⟩
      have Hk3 := hid hk3
      have B3 := hid (B2.out.carry (below_of hk3) (lt_of_cell B2.out.1))
      have K3 := hid ((K2.out.trans hk3).alloc (.cells #[.int .i64 c, .int .i64 t, .string s] 23))
      obtain ⟨a0, a1, a2⟩ := box3_new w3 23 (.int .i64 c) (.int .i64 t) (.string s)
      obtain ⟨d0, d1, d2⟩ := B3.out.carry ((Below.refl w3.heap.size w3).alloc (Nat.le_refl _) (.cells #[.int .i64 c, .int .i64 t, .string s] 23)) (lt_of_cell B3.out.1)
      clear hk3 b0 b1 b2
      go_wp2
      go_meet
      exact K3.out
    · have hne : (e == 0) = false := by rw [beq_eq_false_iff_ne]; exact he
      go_wp2
      go_meet
      exact K2.out
  case rest =>
    have K4 := hid hcut
    clear hcut B2 K2 HG b0 b1 b2
    go_wp2_with fail
    refine (HT.out _ K4.out).mono ?_
    rintro e5 w5 ⟨rfl, hk5⟩
    have K5 := hid (K4.out.trans hk5)
    clear hk5 K4
    by_cases hf : f = 0
    · subst hf
      have HG1' := hid (HG1.out rfl)
      have HG2' := hid (HG2.out rfl)
      clear HG1 HG2 HU0
      go_wp2_with fail
      refine (HG1'.out _).mono ?_
      rintro e6 w6 ⟨u6, rfl, ho6, hk6⟩
      have K6 := hid (K5.out.trans hk6)
      have O6 := hid ho6
      clear hk6 ho6
      go_wp2_with fail
      refine (HG2'.out _).mono ?_
      rintro e7 w7 ⟨u7, rfl, ho7, hk7⟩
      have K7 := hid (K6.out.trans hk7)
      have O7 := hid ho7
      have O6' := hid (O6.out.kept hk7)
      clear hk7 ho7 O6
      go_wp2_with fail
      refine (Ha.out _).mono ?_
      rintro e8 w8 ⟨rfl, hk8⟩
      have K8 := hid (K7.out.trans hk8)
      have O7' := hid (O7.out.kept hk8)
      have O6'' := hid (O6'.out.kept hk8)
      clear hk8 O6' O7
      go_wp2_with fail
      refine (HS.out _ u6 _ K8.out O6''.out).mono ?_
      rintro e9 w9 ⟨rfl, hk9⟩
      have K9 := hid (K8.out.trans hk9)
      have O7'' := hid (O7'.out.kept hk9)
      clear hk9 O6'' O7'
      go_wp2_with fail
      refine (HS.out _ u7 _ K9.out O7''.out).mono ?_
      rintro e10 w10 ⟨rfl, hk10⟩
      have K10 := hid (K9.out.trans hk10)
      clear hk10
      go_wp2
      go_ret
      exact ⟨rfl, below_of K10.out⟩
    · have hne : (f != 0) = true := by rw [bne_iff_ne]; exact hf
      obtain rfl := HU0.out hf
      go_wp2_with fail
      refine (Ha.out _).mono ?_
      rintro e8 w8 ⟨rfl, hk8⟩
      have K8 := hid (K5.out.trans hk8)
      clear hk8
      go_wp2
      go_ret
      exact ⟨rfl, below_of K8.out⟩

theorem tagBack_walk (c t : Int) (s : ByteArray) (v : Value) (l : List Tg) (m : ByteArray) (w : World) (hs : s.size ≤ 140737488351232) (hv : TagsAt w v l) (hln : l.length ≤ maxLen) (hsz : ∀ x ∈ l, x.value.size ≤ 140737488351232) (hm : m.size ≤ 140737488351232) :
    Calls Try.prog 3 #[.agg #[.int .i64 c, .int .i64 t, .string s], v, .string m] w fun e w' => e = .returned (.bool true) ∧ Below w.heap.size w w' := by
  cases h : lightF l with
  | false => exact tagBack_not c t s v l m w hs hv hln hsz hm (Or.inl h)
  | true =>
    by_cases h6 : 6000 < s.size + m.size
    · exact tagBack_not c t s v l m w hs hv hln hsz hm (Or.inr ⟨h, h6⟩)
    · exact tagBack_in c t s v l m w hv hln hsz h (by omega)
end Go.Proofs.Ytofonelohlaenaa
