/- The law TagCut: it returns true for every packet, list of tags and place, and leaves what was there. -/
import Derived.Test.YtofonelohlaenaaTagBackWalk
namespace Go.Proofs.Ytofonelohlaenaa
open Go.RowKit

set_option maxHeartbeats 1000000 in
set_option maxRecDepth 100000 in
theorem tagCut_not (c t : Int) (s : ByteArray) (v : Value) (l : List Tg) (a : Int) (w : World) (hs : s.size ≤ 140737488351232) (hv : TagsAt w v l) (hln : l.length ≤ maxLen) (hsz : ∀ x ∈ l, x.value.size ≤ 140737488351232)
    (h : lightF l = false ∨ (lightF l = true ∧ 1500 < s.size) ∨ (lightF l = true ∧ s.size ≤ 1500 ∧ a < 0)) :
    Calls Try.prog 4 #[.agg #[.int .i64 c, .int .i64 t, .string s], v, .int .i64 a] w fun e w' => e = .returned (.bool true) ∧ Below w.heap.size w w' := by
  have Ha := hid alive_any
  have K0 := (Kept.refl (fun _ => False) w).alloc (.cells #[.int .i64 c, .int .i64 t, .string s] 23)
  have HL := hid (light_any v l _ (hv.kept0 K0) (by unfold maxLen at hln; omega) hsz)
  have HK0 := hid K0
  have B0 := hid (box3_new w 23 (.int .i64 c) (.int .i64 t) (.string s))
  clear hv hsz K0 hln
  rcases h with h | ⟨h, h6⟩ | ⟨h, h6, h7⟩
  · rw [h] at HL
    clear h
    go_enter Try.func4, Try.ntmps4
    go_wp2_with fail
    refine HL.out.mono ?_
    rintro e w1 ⟨rfl, hk1⟩
    have HK1 := hid (HK0.out.trans hk1)
    clear hk1
    go_wp2_with fail
    refine (Ha.out _).mono ?_
    rintro e w2 ⟨rfl, hk2⟩
    go_wp2
    go_ret
    exact ⟨rfl, below_of (HK1.out.trans hk2)⟩
  · rw [h] at HL
    have h6z : (1500 : Int) < (s.size : Int) := by omega
    clear h h6
    go_enter Try.func4, Try.ntmps4
    go_wp2_with fail
    refine HL.out.mono ?_
    rintro e w1 ⟨rfl, hk1⟩
    obtain ⟨b0, b1, b2⟩ := B0.out.carry (below_of hk1) (by simp)
    have HK1 := hid (HK0.out.trans hk1)
    clear hk1
    go_wp2_with fail
    refine (Ha.out _).mono ?_
    rintro e w2 ⟨rfl, hk2⟩
    go_wp2
    go_ret
    exact ⟨rfl, below_of (HK1.out.trans hk2)⟩
  · rw [h] at HL
    have h6z : ¬ (1500 : Int) < (s.size : Int) := by omega
    clear h h6
    go_enter Try.func4, Try.ntmps4
    go_wp2_with fail
    refine HL.out.mono ?_
    rintro e w1 ⟨rfl, hk1⟩
    obtain ⟨b0, b1, b2⟩ := B0.out.carry (below_of hk1) (by simp)
    have HK1 := hid (HK0.out.trans hk1)
    clear hk1
    go_wp2_with fail
    refine (Ha.out _).mono ?_
    rintro e w2 ⟨rfl, hk2⟩
    go_wp2
    go_ret
    exact ⟨rfl, below_of (HK1.out.trans hk2)⟩

/-- What is cut within a tag, or at one's end. -/
theorem tagsOn_cuts {l : List Tg} (h1 : l.length ≤ 20) (h2 : l.all okT = true) (h4 : sizeT l ≤ 1494) {a k : Nat} (ha : a ≤ sizeT l) (hk : k ≤ l.length) (hn : sizeT (l.take k) ≤ a) (hx : k = l.length ∨ a < sizeT (l.take (k + 1))) :
    tagsOn ((bytesT l).take a) [] = if sizeT (l.take k) < a then ([], 5) else (l.take k, 0) := by
  have hv : ∀ t ∈ l, t.value.size ≤ 65535 := fun t ht => by have := sizeT_mem ht; omega
  have e1 : bytesT l = bytesT (l.take k) ++ bytesT (l.drop k) := by rw [← bytesT_append, List.take_append_drop]
  have e2 : (bytesT l).take a = bytesT (l.take k) ++ (bytesT (l.drop k)).take (a - sizeT (l.take k)) := by
    rw [e1, List.take_append, bytesT_length, List.take_of_length_le (by rw [bytesT_length]; exact hn)]
  have hall : (l.take k).all okT = true := by
    rw [List.all_eq_true] at *
    exact fun x hx => h2 x (List.mem_of_mem_take hx)
  rw [e2, tagsOn_all (l.take k) hall (fun t ht => hv t (List.mem_of_mem_take ht)) _ [] (by rw [List.length_take]; simp; omega), List.nil_append]
  by_cases hlt : sizeT (l.take k) < a
  · rw [if_pos hlt]
    have hkl : k < l.length := by
      rcases Nat.lt_or_ge k l.length with h | h
      · exact h
      · exfalso
        rw [List.take_of_length_le h] at hlt
        omega
    have hkx : l[k]? = some l[k] := by simp
    have hxx := hx.resolve_left (by omega)
    rw [sizeT_take hkx] at hxx
    rw [List.drop_eq_getElem_cons hkl, bytesT_cons]
    have hm : l[k] ∈ l := List.getElem_mem hkl
    exact tagsOn_cut (List.all_eq_true.1 h2 _ hm) (hv _ hm) _ _ (by omega) (by omega) _
  · rw [if_neg hlt, show a - sizeT (l.take k) = 0 by omega, List.take_zero, tagsOn_nil]

theorem TagsAt.first {W : World} {p : Option Addr} {n cap k : Nat} {l : List Tg} (h : TagsAt W (.slice p n cap) l) (hk : k ≤ l.length) : TagsAt W (.slice p k cap) (l.take k) := by
  rcases h with ⟨rfl, p', cap', e⟩ | ⟨g, o, cap', e, hle, hm, hc⟩
  · have : k = 0 := by simpa using hk
    subst this
    exact Or.inl ⟨rfl, p, cap, rfl⟩
  · simp only [Value.slice.injEq] at e
    obtain ⟨rfl, rfl, rfl⟩ := e
    refine Or.inr ⟨g, o, cap, by rw [List.length_take, Nat.min_eq_left hk], by rw [List.length_take]; omega, hm, fun j x hj => hc j x ?_⟩
    rw [List.getElem?_take] at hj
    split at hj
    · exact hj
    · cases hj

set_option maxHeartbeats 4000000 in
set_option maxRecDepth 100000 in
theorem tagCut_in (c t : Int) (s : ByteArray) (v : Value) (l : List Tg) (a : Nat) (w : World) (hv : TagsAt w v l) (hln : l.length ≤ maxLen) (hsz : ∀ x ∈ l, x.value.size ≤ 140737488351232)
    (hli : lightF l = true) (h6 : s.size ≤ 1500) (ha63 : a ≤ 9223372036854775807) :
    Calls Try.prog 4 #[.agg #[.int .i64 c, .int .i64 t, .string s], v, .int .i64 (a : Int)] w fun e w' => e = .returned (.bool true) ∧ Below w.heap.size w w' := by
  have Ha := hid alive_any
  have hl4 := (lightF_true hli).1
  have HL : Hid (∀ W, Kept (fun _ => False) w W → Calls Try.prog 7 #[v] W fun e w' => e = .returned (.bool true) ∧ Kept (fun _ => False) W w') := fun W h => by
    have := light_any v l W (hv.kept0 h) (by unfold maxLen at hln; omega) hsz
    rw [hli] at this
    exact this
  have HP := hid (fun W => putDisc_any c t s (by omega) W)
  have HT : Hid (∀ W, Kept (fun _ => False) w W → Calls Try.prog 11 #[v] W fun e w' => e = .returned (.tuple #[.string ⟨(putTagsF l).1.toArray⟩, .int .i64 (putTagsF l).2]) ∧ Kept (fun _ => False) W w') := fun W h => putTags_any v l W (hv.kept0 h) hsz
  have K0 := hid ((Kept.refl (fun _ => False) w).alloc (.cells #[.int .i64 c, .int .i64 t, .string s] 23))
  have B0 := hid (box3_new w 23 (.int .i64 c) (.int .i64 t) (.string s))
  have h6z : ¬ (1500 : Int) < (s.size : Int) := by omega
  obtain ⟨D, e, hD⟩ : ∃ D e, (⟨(putDiscF c t s.data.toList).1.toArray⟩ : ByteArray) = D ∧ (putDiscF c t s.data.toList).2 = e := ⟨_, _, rfl, rfl⟩
  obtain ⟨U, f, hU⟩ : ∃ U f, (⟨(putTagsF l).1.toArray⟩ : ByteArray) = U ∧ (putTagsF l).2 = f := ⟨_, _, rfl, rfl⟩
  have hDs : D.size ≤ 1500 := by rw [← hD.1, Lib.size_eq]; exact putDisc_size c t _
  have hUs : U.size ≤ 1494 := by rw [← hU.1, Lib.size_eq]; exact putTags_size l
  rw [hD.1, hD.2] at HP
  rw [hU.1, hU.2] at HT
  have HG : Hid (e = 0 → a < D.size → ∃ (x y : Nat) (z : ByteArray), ∀ W, Calls Try.prog 10 #[.string (D.extract 0 a)] W fun r w' => r = .returned (.tuple #[.agg #[.int .i64 (x : Int), .int .i64 (y : Int), .string z], .int .i64 5]) ∧ Kept (fun _ => False) W w') := fun he hlt => by
    obtain ⟨a1, b1, rfl, rfl, ha, hb, hl, h1⟩ := putDisc_ok (hD.2.trans he)
    have e2 : (D.extract 0 a).data.toList = (discF a1 b1 s.data.toList).take a := by
      rw [Lib.extract_data, List.drop_zero, Nat.sub_zero, ← hD.1, ← h1]
    have e3 : D.size = 6 + s.data.toList.length := by rw [Lib.size_eq, ← hD.1, ← discF_length a1 b1, ← h1]
    have e4 := getDisc_cut a1 b1 ha hb s.data.toList hl a (by omega)
    obtain ⟨⟨x, y, z⟩, hP⟩ : ∃ P, getDiscF ((discF a1 b1 s.data.toList).take a) = (P, 5) := ⟨_, by rw [← e4]⟩
    refine ⟨x, y, ⟨z.toArray⟩, fun W => ?_⟩
    have := getDisc_any (D.extract 0 a) (by rw [ByteArray.size_extract]; omega) W
    rw [e2, hP] at this
    exact this
  have HG1 : Hid (f = 0 → l.length ≤ 20 ∧ l.all okT = true ∧ sizeT l ≤ 1494 ∧ U.size = sizeT l ∧ ∀ k, a ≤ sizeT l → k ≤ l.length → sizeT (l.take k) ≤ a → (k = l.length ∨ a < sizeT (l.take (k + 1))) → ∀ W, Calls Try.prog 12 #[.string (U.extract 0 a)] W fun r w' => ∃ u, r = .returned (.tuple #[u, .int .i64 (if sizeT (l.take k) < a then 5 else 0)]) ∧ OwnT w' W.heap.size u (if sizeT (l.take k) < a then [] else l.take k) ∧ Kept (fun _ => False) W w') := fun hf => by
    have h1 := hU.2.trans hf
    obtain ⟨q1, q2, q3, q4⟩ := putTags_ok h1
    refine ⟨q1, q2, q4, by rw [← hU.1, q3, Lib.size_eq]; exact bytesT_length l, fun k p1 p2 p3 p4 W => ?_⟩
    have e2 : (U.extract 0 a).data.toList = (bytesT l).take a := by
      rw [Lib.extract_data, List.drop_zero, Nat.sub_zero, ← hU.1, q3]
    have := getTags_any (U.extract 0 a) (by rw [ByteArray.size_extract]; omega) W
    rw [e2, tagsOn_cuts q1 q2 q4 p1 p2 p3 p4] at this
    split at this
    · rename_i hx
      rw [if_pos hx, if_pos hx]
      exact this
    · rename_i hx
      rw [if_neg hx, if_neg hx]
      exact this
  obtain ⟨p, cap, rfl⟩ := hv.slice
  have Hat : Hid (∀ (j : Nat) (x : Tg), l[j]? = some x → ∀ W, Kept (fun _ => False) w W → ∃ g o, p = some ⟨g, o, none⟩ ∧ l.length ≤ cap ∧ W.cell? ⟨g, o + j * 2, none⟩ = some (.int .i64 x.type) ∧ W.cell? ⟨g, o + j * 2 + 1, none⟩ = some (.string x.value)) :=
    fun j x hj W hW => (hv.kept0 hW).at hj
  have HS : Hid (∀ W u b k, k ≤ l.length → Kept (fun _ => False) w W → OwnT W b u (l.take k) → Calls Try.prog 13 #[u, .slice p k cap] W fun e w' => e = .returned (.bool true) ∧ Kept (fun _ => False) W w') := fun W u b k hk hW hu => by
    have := same_any u (.slice p k cap) (l.take k) (l.take k) W hu.tags ((hv.kept0 hW).first hk) (by rw [List.length_take]; omega)
    rw [sameF_self] at this
    exact this
  have Hcap : Hid (∀ k, k ≤ l.length → k ≤ cap) := fun k hk => by
    rcases hv with ⟨h, _⟩ | ⟨g, o, cap', e, h1, _⟩
    · rw [h] at hk; simp at hk; omega
    · simp only [Value.slice.injEq] at e; omega
  have haz : (0 : Int) ≤ (a : Int) := by omega
  clear hv hsz hln hli hD hU
  go_enter Try.func4, Try.ntmps4
  go_wp2_with fail
  refine (HL.out _ K0.out).mono ?_
  rintro e1 w1 ⟨rfl, hk1⟩
  have B1 := hid (B0.out.carry (below_of hk1) (by simp))
  have K1 := hid (K0.out.trans hk1)
  obtain ⟨b0, b1, b2⟩ := B1.out
  clear hk1 B0 K0 HL
  go_wp2_with fail
  refine (HP.out _).mono ?_
  rintro e2 w2 ⟨rfl, hb2⟩
  have K2 := hid (K1.out.trans (kept_of hb2))
  clear hb2 B1 K1 HP b0 b1 b2
  have hcase : (e = 0 ∧ a < D.size) ∨ (e = 0 ∧ ¬ a < D.size) ∨ e ≠ 0 := by omega
  rcases hcase with ⟨he, hlt⟩ | ⟨he, hlt⟩ | he
  case' inl =>
    subst he
    obtain ⟨x, y, z, HG'⟩ := HG.out rfl hlt
    have HG2 := hid HG'
    have hltz : (a : Int) < (D.size : Int) := by omega
    have ix := first_at D a (by omega) (a : Int) rfl
    clear HG HG' hlt
    go_wp2_with fail
    refine (HG2.out _).mono ?_
    rintro e3 w3 ⟨rfl, hk3⟩
    have K4 := hid ((K2.out.trans hk3).alloc (.cells #[.int .i64 (x : Int), .int .i64 (y : Int), .string z] 23))
    clear hk3 K2 HG2 ix
    go_wp2_with fail
  case' inr.inl =>
    subst he
    have hltz : ¬ (a : Int) < (D.size : Int) := by omega
    clear HG hlt
    have K4 := hid K2.out
    clear K2
    go_wp2_with fail
  case' inr.inr =>
    have hne : (e == 0) = false := by rw [beq_eq_false_iff_ne]; exact he
    clear HG
    have K4 := hid K2.out
    clear K2
    go_wp2_with fail
  all_goals
    refine (HT.out _ K4.out).mono ?_
    rintro e5 w5 ⟨rfl, hk5⟩
    have K5 := hid (K4.out.trans hk5)
    clear hk5 K4 HT
    by_cases hf : f = 0
    · subst hf
      obtain ⟨q1, q2, q4, hUz, HG2⟩ := HG1.out rfl
      have HG2' := hid HG2
      clear HG1 HG2 q2
      by_cases hau : U.size < a
      · have hauz : (U.size : Int) < (a : Int) := by omega
        clear HG2' hau
        go_wp2_with fail
        refine (Ha.out _).mono ?_
        rintro e8 w8 ⟨rfl, hk8⟩
        have K8 := hid (K5.out.trans hk8)
        clear hk8
        go_wp2
        go_ret
        exact ⟨rfl, below_of K8.out⟩
      · have hauz : ¬ (U.size : Int) < (a : Int) := by omega
        have hal : a ≤ sizeT l := by omega
        have HZ : Hid (∀ j, sizeT (l.take j) ≤ sizeT l) := sizeT_take_le l
        have HZS : Hid (∀ (j : Nat) (x : Tg), l[j]? = some x → sizeT (l.take (j + 1)) = sizeT (l.take j) + (4 + x.value.size)) := fun j x h => sizeT_take h
        have HUz := hid hUz
        have ix := first_at U a (by omega) (a : Int) rfl
        clear hUz hau
        go_wp2
        go_loopw [13, 14] (fun vn vk wr => ∃ k n : Nat, k ≤ l.length ∧ vk = .int .i64 (k : Int) ∧ vn = .int .i64 (n : Int) ∧ n ≤ a ∧ n ≤ 1494 ∧ Hid (sizeT (l.take k) = n) ∧ wr = w5) (fun _ vk _ => l.length - (intOf vk).toNat)
        case atStart => exact ⟨0, 0, Nat.zero_le _, rfl, rfl, Nat.zero_le _, Nat.zero_le _, rfl, rfl⟩
        case round =>
          obtain ⟨k, n, hk, rfl, rfl, hna, hn4, HN, rfl⟩ := hrel
          have fin : Hid ((k = l.length ∨ a < sizeT (l.take (k + 1))) → ∀ W, Calls Try.prog 12 #[.string (U.extract 0 a)] W fun r w' => ∃ u, r = .returned (.tuple #[u, .int .i64 (if n < a then 5 else 0)]) ∧ OwnT w' W.heap.size u (if n < a then [] else l.take k) ∧ Kept (fun _ => False) W w') := fun hx W => by
            have := HG2'.out k hal hk (by rw [HN.out]; exact hna) hx W
            rw [HN.out] at this
            exact this
          by_cases hlt : k < l.length
          · have hltz : (k : Int) < (l.length : Int) := by omega
            obtain ⟨x, hx⟩ : ∃ x, l[k]? = some x := ⟨l[k], by simp [hlt]⟩
            obtain ⟨g, o, rfl, hcap, c0, c1⟩ := Hat.out k x hx _ K5.out
            have hnx := HZS.out k x hx
            have hxl := HZ.out (k + 1)
            rw [HN.out] at hnx
            have hxv : x.value.size ≤ 1494 := by omega
            by_cases hxa : n + 4 + x.value.size ≤ a
            · have hxz : (n : Int) + 4 + (x.value.size : Int) ≤ (a : Int) := by omega
              have HN' := hid hnx
              clear hnx hxl hx fin
              go_wp2
              exact ⟨⟨k + 1, n + (4 + x.value.size), hlt, by go_num, by go_num, by omega, by have := HZ.out (k + 1); rw [HN'.out] at this; omega, HN'.out, trivial⟩, by simp [intOf]; omega⟩
            · have hxz : ¬ (n : Int) + 4 + (x.value.size : Int) ≤ (a : Int) := by omega
              have fin' := hid (fin.out (Or.inr (by rw [hnx]; omega)))
              have hkc := Hcap.out k hk
              clear hnx hxl hx fin HN HZ HZS HG2'
              by_cases hn : n < a
              · have hnz : (n : Int) < (a : Int) := by omega
                rw [if_pos hn, if_pos hn] at fin'
                clear hn
                go_wp2_with fail
                refine (fin'.out _).mono ?_
                rintro e6 w6 ⟨u6, rfl, ho6, hk6⟩
                have K6 := hid (K5.out.trans hk6)
                obtain ⟨p6, c6, rfl⟩ := slice_of ho6
                clear hk6 ho6 fin'
                simp only [List.length_nil]
                go_wp2_with fail
                refine (Ha.out _).mono ?_
                rintro e8 w8 ⟨rfl, hk8⟩
                have K8 := hid (K6.out.trans hk8)
                clear hk8
                go_wp2
                go_ret
                exact ⟨rfl, below_of K8.out⟩
              · have hnz : ¬ (n : Int) < (a : Int) := by omega
                rw [if_neg hn, if_neg hn] at fin'
                clear hn
                go_wp2_with fail
                refine (fin'.out _).mono ?_
                rintro e6 w6 ⟨u6, rfl, ho6, hk6⟩
                have K6 := hid (K5.out.trans hk6)
                have O6 := hid ho6
                clear hk6 ho6 fin'
                go_wp2_with fail
                refine (Ha.out _).mono ?_
                rintro e8 w8 ⟨rfl, hk8⟩
                have K8 := hid (K6.out.trans hk8)
                have O8 := hid (O6.out.kept hk8)
                clear hk8 O6
                go_wp2_with fail
                refine (HS.out _ _ _ _ hk K8.out O8.out).mono ?_
                rintro e9 w9 ⟨rfl, hk9⟩
                have K9 := hid (K8.out.trans hk9)
                clear hk9
                go_wp2
                go_ret
                exact ⟨rfl, below_of K9.out⟩
          · obtain rfl : k = l.length := by omega
            have fin' := hid (fin.out (Or.inl rfl))
            have hkc := Hcap.out l.length hk
            clear fin HN HZ HZS HG2'
            by_cases hn : n < a
            · have hnz : (n : Int) < (a : Int) := by omega
              rw [if_pos hn, if_pos hn] at fin'
              clear hn
              go_wp2_with fail
              refine (fin'.out _).mono ?_
              rintro e6 w6 ⟨u6, rfl, ho6, hk6⟩
              have K6 := hid (K5.out.trans hk6)
              obtain ⟨p6, c6, rfl⟩ := slice_of ho6
              clear hk6 ho6 fin'
              simp only [List.length_nil]
              go_wp2_with fail
              refine (Ha.out _).mono ?_
              rintro e8 w8 ⟨rfl, hk8⟩
              have K8 := hid (K6.out.trans hk8)
              clear hk8
              go_wp2
              go_ret
              exact ⟨rfl, below_of K8.out⟩
            · have hnz : ¬ (n : Int) < (a : Int) := by omega
              rw [if_neg hn, if_neg hn] at fin'
              clear hn
              go_wp2_with fail
              refine (fin'.out _).mono ?_
              rintro e6 w6 ⟨u6, rfl, ho6, hk6⟩
              have K6 := hid (K5.out.trans hk6)
              have O6 := hid ho6
              clear hk6 ho6 fin'
              go_wp2_with fail
              refine (Ha.out _).mono ?_
              rintro e8 w8 ⟨rfl, hk8⟩
              have K8 := hid (K6.out.trans hk8)
              have O8 := hid (O6.out.kept hk8)
              clear hk8 O6
              go_wp2_with fail
              refine (HS.out _ _ _ _ hk K8.out O8.out).mono ?_
              rintro e9 w9 ⟨rfl, hk9⟩
              have K9 := hid (K8.out.trans hk9)
              clear hk9
              go_wp2
              go_ret
              exact ⟨rfl, below_of K9.out⟩
    · have hne : (f != 0) = true := by rw [bne_iff_ne]; exact hf
      clear HG1
      go_wp2_with fail
      refine (Ha.out _).mono ?_
      rintro e8 w8 ⟨rfl, hk8⟩
      have K8 := hid (K5.out.trans hk8)
      clear hk8
      go_wp2
      go_ret
      exact ⟨rfl, below_of K8.out⟩
theorem tagCut_walk (c t : Int) (s : ByteArray) (v : Value) (l : List Tg) (a : Int) (w : World) (hs : s.size ≤ 140737488351232) (hv : TagsAt w v l) (hln : l.length ≤ maxLen) (hsz : ∀ x ∈ l, x.value.size ≤ 140737488351232) (ha : -9223372036854775808 ≤ a ∧ a ≤ 9223372036854775807) :
    Calls Try.prog 4 #[.agg #[.int .i64 c, .int .i64 t, .string s], v, .int .i64 a] w fun e w' => e = .returned (.bool true) ∧ Below w.heap.size w w' := by
  cases h : lightF l with
  | false => exact tagCut_not c t s v l a w hs hv hln hsz (Or.inl h)
  | true =>
    by_cases h6 : 1500 < s.size
    · exact tagCut_not c t s v l a w hs hv hln hsz (Or.inr (Or.inl ⟨h, h6⟩))
    · by_cases h7 : a < 0
      · exact tagCut_not c t s v l a w hs hv hln hsz (Or.inr (Or.inr ⟨h, by omega, h7⟩))
      · obtain ⟨b, rfl⟩ := Int.eq_ofNat_of_zero_le (show 0 ≤ a by omega)
        exact tagCut_in c t s v l b w hv hln hsz h (by omega) (by omega)
end Go.Proofs.Ytofonelohlaenaa
