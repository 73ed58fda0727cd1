/- The law TagLong: it returns true for every number, and leaves what was there. -/
import Derived.Test.YtofonelohlaenaaTagLight
import Derived.Deep.AppendLies
namespace Go.Proofs.Ytofonelohlaenaa
open Go.RowKit

def lt (i : Nat) : Tg := ⟨300 + (i : Int), ⟨#[]⟩⟩
def longT (n : Nat) : List Tg := (List.range n).map lt
theorem longT_length (n : Nat) : (longT n).length = n := by simp [longT]
theorem longT_snoc (n : Nat) : longT (n + 1) = longT n ++ [lt n] := by simp [longT, List.range_succ]
theorem longT_ok (n : Nat) (hn : n ≤ 30) : (longT n).all okT = true := by
  rw [List.all_eq_true]
  intro x hx
  obtain ⟨i, hi, rfl⟩ := List.mem_map.1 hx
  simp at hi
  rw [okT, Bool.and_eq_true, decide_eq_true_eq, decide_eq_true_eq]
  show 1 ≤ 300 + (i : Int) ∧ 300 + (i : Int) ≤ 65535
  omega
theorem longT_size (n : Nat) : sizeT (longT n) = 4 * n := by
  induction n with
  | zero => rfl
  | succ n ih =>
    rw [longT_snoc, sizeT_snoc, ih]
    show 4 * n + (4 + 0) = _
    omega
theorem longT_value (n : Nat) : ∀ x ∈ longT n, x.value.size ≤ 140737488351232 := by
  intro x hx
  obtain ⟨i, _, rfl⟩ := List.mem_map.1 hx
  exact Nat.zero_le _
theorem tag_lt (i : Nat) (hi : i < 30) : tagBytes (lt i) = [1, UInt8.ofNat (44 + i), 0, 0] := by
  have h : ∀ i, i < 30 → tagBytes (lt i) = [1, UInt8.ofNat (44 + i), 0, 0] := by decide
  exact h i hi

theorem putLong_yes (n : Nat) (hn : n ≤ 20) : putTagsF (longT n) = (bytesT (longT n), 0) := by
  unfold putTagsF
  rw [longT_length, if_neg (by omega), longT_ok n (by omega), if_neg (by simp), longT_size, if_neg (by omega)]
theorem putLong_no (n : Nat) (hn : 20 < n) : putTagsF (longT n) = ([], 2) := by
  unfold putTagsF
  rw [longT_length, if_pos hn]
theorem getLong_yes (n : Nat) (hn : n ≤ 20) : tagsOn (bytesT (longT n)) [] = (longT n, 0) := by
  have := tagsOn_all (longT n) (longT_ok n (by omega)) (fun t ht => by obtain ⟨i, _, rfl⟩ := List.mem_map.1 ht; exact Nat.zero_le _) [] [] (by rw [longT_length]; simp; omega)
  rw [List.append_nil] at this
  rw [this, tagsOn_nil, List.nil_append]
theorem tagsOn_full {t : Tg} (ht : okT t = true) (hs : t.value.size ≤ 65535) (r : List UInt8) (acc : List Tg) (ha : 20 ≤ acc.length) : tagsOn (tagBytes t ++ r) acc = ([], 2) := by
  obtain ⟨p1, p2, p3, p4⟩ := tagBytes_parts ht hs r
  obtain ⟨a, ha', h1, h2⟩ := okT_range ht
  have hl : (tagBytes t ++ r).length = 4 + t.value.size + r.length := by rw [List.length_append, tagBytes_length]
  rw [tagsOn_eq, if_neg (by rw [p1]; omega), if_neg (by omega), p2, if_neg (by omega), if_pos ha]
theorem getLong_no (n : Nat) (hn : 20 < n) (h30 : n ≤ 30) : tagsOn (bytesT (longT n)) [] = ([], 2) := by
  obtain ⟨k, rfl⟩ : ∃ k, n = 20 + (1 + k) := ⟨n - 21, by omega⟩
  have e : longT (20 + (1 + k)) = longT 20 ++ lt 20 :: (List.range k).map (fun i => lt (21 + i)) := by
    unfold longT
    rw [List.range_add, List.map_append, List.range_add]
    simp [Nat.add_comm, Nat.add_assoc, Function.comp_def]
  rw [e, bytesT_append, bytesT_cons, tagsOn_all (longT 20) (longT_ok 20 (by omega)) (fun t ht => by obtain ⟨i, _, rfl⟩ := List.mem_map.1 ht; exact Nat.zero_le _) _ [] (by rw [longT_length]; simp)]
  exact tagsOn_full (by decide) (by decide) _ _ (by rw [List.nil_append, longT_length]; exact Nat.le_refl _)

set_option maxHeartbeats 1000000 in
theorem tagLong_not (n : Int) (w : World) (h : n < 0 ∨ (0 ≤ n ∧ 30 < n)) :
    Calls Try.prog 6 #[.int .i64 n] w fun e w' => e = .returned (.bool true) ∧ Below w.heap.size w w' := by
  have Ha := hid alive_any
  rcases h with h | ⟨h, h'⟩
  all_goals
    go_enter Try.func6, Try.ntmps6
    go_wp2_with fail
    refine (Ha.out _).mono ?_
    rintro e w2 ⟨rfl, hk2⟩
    go_wp2
    go_ret
    exact ⟨rfl, below_of hk2⟩

theorem conv_four (w : World) (i : Nat) (hi : i < 30) (g : Nat) (hg : w.heap[g]? = some (.cells #[.int .u8 1, .int .u8 (44 + (i : Int)), .int .u8 0, .int .u8 0] 5 (0, 0))) :
    (convert 43 9 (.slice (some ⟨g, 0, none⟩) 4 4)).run Try.prog w = .ok (.string ⟨#[1, UInt8.ofNat (44 + i), 0, 0]⟩) w := by
  refine put_conv (base := 0) (n := 4) (l := [1, UInt8.ofNat (44 + i), 0, 0]) ⟨rfl, Or.inr ⟨g, 4, _, rfl, Nat.zero_le _, hg, Nat.le_refl _, by unfold maxLen; omega, rfl, ?_⟩⟩
  have e : ((44 + i) % 256 : Nat) = 44 + i := Nat.mod_eq_of_lt (by omega)
  simp [Lib.byteCells, e]

/-- How far the loop has come. -/
structure Long (w : World) (j : Nat) (v3 : Value) (R : ByteArray) (W : World) : Prop where
  own : OwnT W w.heap.size v3 (longT j)
  raw : R.data.toList = bytesT (longT j)
  kept : Kept (fun _ => False) w W

theorem Long.next {w W W1 : World} {j : Nat} {v3 v' : Value} {R : ByteArray} (h : Long w j v3 R W) (hj : j < 30) (hown' : W1.ownsRow w.heap.size 38 2 v' ((longT j).length + 1) (rowT (longT j) ++ [.int .i64 (300 + (j : Int)), .string ⟨#[]⟩])) (hg : (W.alloc (.cells #[.int .i64 (300 + (j : Int)), .string ⟨#[]⟩] 38)).grownBy W1 v3.ownBlock) (o : Obj) :
    Long w (j + 1) v' (R ++ ⟨#[1, UInt8.ofNat (44 + j), 0, 0]⟩) (W1.alloc o) := by
  obtain ⟨h1, h2⟩ := own_more (x := lt j) h.kept h.own hown' hg
  refine ⟨?_, ?_, h2.alloc o⟩
  · rw [longT_snoc]
    exact h1.kept ((Kept.refl _ _).alloc o)
  · rw [longT_snoc, bytesT_snoc, tag_lt j hj, ← h.raw]
    simp

set_option maxHeartbeats 4000000 in
set_option maxRecDepth 100000 in
theorem tagLong_in (n : Nat) (hn : n ≤ 30) (w : World) :
    Calls Try.prog 6 #[.int .i64 (n : Int)] w fun e w' => e = .returned (.bool true) ∧ Below w.heap.size w w' := by
  have Ha := hid alive_any
  obtain ⟨i0, hi, hz0, hz1, hz2⟩ := info_parts infoTag
  have hnz : (n : Int) ≤ 30 := by omega
  have HP := hid (fun W v k (h : OwnT W k v (longT n)) => putTags_any v (longT n) W h.tags (longT_value n))
  have HG := hid (fun (R : ByteArray) (h : R.data.toList = bytesT (longT n)) W => by
    have := getTags_any R (by rw [Lib.size_eq, h, bytesT_length, longT_size]; omega) W
    rw [h] at this
    exact this)
  go_enter Try.func6, Try.ntmps6
  go_wp2
  go_loopw [3, 4, 5] (fun v3 v4 vi wr => ∃ (j : Nat) (R : ByteArray), j ≤ n ∧ R.size ≤ 120 ∧ vi = .int .i64 (j : Int) ∧ v4 = .string R ∧ Hid (Long w j v3 R wr)) (fun _ _ vi _ => n - (intOf vi).toNat)
  case atStart => exact ⟨0, ⟨#[]⟩, Nat.zero_le _, by decide, rfl, rfl, OwnT.nil _ _, rfl, Kept.refl _ _⟩
  case round =>
    obtain ⟨j, R, hj, hR, rfl, rfl, HI⟩ := hrel
    by_cases hlt : j < n
    · have hltz : (j : Int) < (n : Int) := by omega
      have hown := HI.out.own
      have hsz := HI.out.kept.size
      have hjl := longT_length j
      have HN := hid (fun W1 v' => HI.out.next (W1 := W1) (v' := v') (by omega))
      have hRs : R.size ≤ 116 := by
        rw [Lib.size_eq, HI.out.raw, bytesT_length, longT_size]
        omega
      have hw4 : IntKind.u8.wrap (44 + (j : Int)) = 44 + (j : Int) := by rw [IntKind.wrap_u8]; omega
      obtain ⟨L, hL⟩ : ∃ L, L = (longT j).length := ⟨_, rfl⟩
      have HO : Hid (wr.ownsRow w.heap.size 38 2 u3 L (rowT (longT j))) := by rw [hL]; exact hown
      have hLj : L ≤ 30 := by omega
      rw [← hL] at HN
      clear hown hjl hL HI
      go_wp2_with (at_builtin; refine wpList_append_own _ rfl _ _ 24 rfl w.heap.size 38 i0 (.agg #[.int .i64 0, .string ⟨#[]⟩]) 2 24 Try.underlying24 hi hz0 hz1 hz2 rfl (by decide) _ L (rowT (longT j)) rfl (HO.out.alloc _) ⟨wr.heap.size, 0, none⟩ 1 1 [.int .i64 (300 + (j : Int)), .string ⟨#[]⟩] rfl rfl ?c1 ?c2 ?c3 ?c4 ?c5 ?_)
      case c1 => exact cells_two_new _ _ _ _
      case c2 => intro u hu; simp at hu; rcases hu with rfl | rfl <;> rfl
      case c3 => unfold maxLen; omega
      case c4 => omega
      case c5 => simp; omega
      intro v' w1 hown' hgrow _
      have R1 := hid (HN.out w1 v' hown' hgrow (.cells #[.int .u8 1, .int .u8 (44 + (j : Int)), .int .u8 0, .int .u8 0] 5))
      have hcv := conv_four (w1.alloc (.cells #[.int .u8 1, .int .u8 (44 + (j : Int)), .int .u8 0, .int .u8 0] 5)) j (by omega) w1.heap.size (heap_alloc_new w1 _)
      have hB : (⟨#[1, UInt8.ofNat (44 + j), 0, 0]⟩ : ByteArray).size = 4 := rfl
      obtain ⟨B, hBB⟩ : ∃ B : ByteArray, B = ⟨#[1, UInt8.ofNat (44 + j), 0, 0]⟩ := ⟨_, rfl⟩
      rw [← hBB] at hB hcv R1
      have hBs : B.size ≤ 4 := by omega
      clear hown' hgrow HN HO hBB hB
      go_wp2
      exact ⟨⟨j + 1, _, hlt, by rw [ByteArray.size_append]; omega, by go_num, rfl, R1.out⟩, by simp [intOf]; omega⟩
    · obtain rfl : j = n := by omega
      obtain ⟨hown, hraw, hk⟩ := HI.out
      have K0 := hid hk
      have O0 := hid hown
      have HG' := hid (HG.out R hraw)
      have HRaw := hid hraw
      clear HI hlt hown hraw hk HG
      by_cases h20 : 20 < j
      · have h20z : (20 : Int) < (j : Int) := by omega
        rw [putLong_no j h20] at HP
        rw [getLong_no j h20 hn] at HG'
        clear h20
        go_wp2_with fail
        refine (HP.out _ _ _ O0.out).mono ?_
        rintro e1 w1 ⟨rfl, hk1⟩
        have K1 := hid (K0.out.trans hk1)
        clear hk1 HP O0 K0
        go_wp2_with fail
        refine (HG'.out _).mono ?_
        rintro e2 w2 ⟨v2, rfl, ho2, hk2⟩
        have K2 := hid (K1.out.trans hk2)
        obtain ⟨p, cap, rfl⟩ := slice_of ho2
        clear hk2 HG' ho2 K1
        simp only [List.length_nil]
        go_wp2_with fail
        refine (Ha.out _).mono ?_
        rintro e3 w3 ⟨rfl, hk3⟩
        have K3 := hid (K2.out.trans hk3)
        clear hk3
        go_wp2
        go_ret
        exact ⟨rfl, below_of K3.out⟩
      · have h20z : ¬ (20 : Int) < (j : Int) := by omega
        rw [putLong_yes j (by omega)] at HP
        rw [getLong_yes j (by omega)] at HG'
        have hRb : (⟨(bytesT (longT j)).toArray⟩ : ByteArray) = R := bytes_ext HRaw.out.symm
        simp only [hRb] at HP
        have HS := hid (fun W u v k k' (hu : OwnT W k u (longT j)) (hv : OwnT W k' v (longT j)) => by
          have := same_any u v (longT j) (longT j) W hu.tags hv.tags (by rw [longT_length]; omega)
          rw [sameF_self] at this
          exact this)
        clear hRb HRaw h20
        go_wp2_with fail
        refine (HP.out _ _ _ O0.out).mono ?_
        rintro e1 w1 ⟨rfl, hk1⟩
        have K1 := hid (K0.out.trans hk1)
        have O1 := hid (O0.out.kept hk1)
        clear hk1 HP O0 K0
        go_wp2_with fail
        refine (HG'.out _).mono ?_
        rintro e2 w2 ⟨v2, rfl, ho2, hk2⟩
        have K2 := hid (K1.out.trans hk2)
        have O2 := hid ho2
        have O1' := hid (O1.out.kept hk2)
        clear hk2 HG' ho2 K1 O1
        go_wp2_with fail
        refine (Ha.out _).mono ?_
        rintro e3 w3 ⟨rfl, hk3⟩
        have K3 := hid (K2.out.trans hk3)
        have O3 := hid (O2.out.kept hk3)
        have O4 := hid (O1'.out.kept hk3)
        clear hk3 O2 O1'
        go_wp2_with fail
        refine (HS.out _ _ _ _ _ O4.out O3.out).mono ?_
        rintro e4 w4 ⟨rfl, hk4⟩
        have K4 := hid (K3.out.trans hk4)
        clear hk4
        go_wp2
        go_ret
        exact ⟨by simp, below_of K4.out⟩

theorem tagLong_walk (n : Int) (w : World) (hn : -9223372036854775808 ≤ n ∧ n ≤ 9223372036854775807) :
    Calls Try.prog 6 #[.int .i64 n] w fun e w' => e = .returned (.bool true) ∧ Below w.heap.size w w' := by
  by_cases h : 0 ≤ n ∧ n ≤ 30
  · obtain ⟨k, rfl⟩ := Int.eq_ofNat_of_zero_le h.1
    exact tagLong_in k (by omega) w
  · exact tagLong_not n w (by omega)
end Go.Proofs.Ytofonelohlaenaa
