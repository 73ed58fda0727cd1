/- The contracts of the document's own GetData and Get (tollgateref9). -/
import Derived.Test.YtdifdcceigoedaaGreatOpRef2
import Derived.Test.YtdifdcceigoedaaGreatTagRefOne
import Derived.Test.YtdifdcceigoedaaGreatOpGet
namespace Go.Proofs.YtdifdcceigoedaaGreat
open Go.RowKit

set_option maxHeartbeats 4000000 in
set_option maxRecDepth 100000 in
theorem rGetData_yes (s : ByteArray) (hsz : s.size ≤ 140737488351232) (h4 : 4 ≤ s.size) (A B n : Nat) (h0 : (s.data.toList.getD 0 0).toNat = A) (h1 : (s.data.toList.getD 1 0).toNat = B) (hA : A < 256) (hB : B < 256)
    (hn : numOf ((s.data.toList.drop 2).take 2) = n) (hl : 4 ≤ n) (hl2 : n ≤ 1492) (hs : n ≤ s.size) (w : World) :
    Calls Tryz.prog 16 #[.string s] w fun e w' => e = .returned (.tuple #[pkV (A : Int) (B : Int) (.slice none 0 0) (s.extract 4 n), .int .i64 0]) ∧ Kept (fun _ => False) w w' := by
  unfold pkV
  have x0 := index_at s 0 (by omega) 0 rfl
  have x1 := index_at s 1 (by omega) 1 rfl
  rw [h0] at x0
  rw [h1] at x1
  have i4 := mid_at s 4 n (by omega) (by omega) 4 (n : Int) rfl rfl
  have HN := hid (refNum_any s (by unfold maxLen; omega) 2 (by omega))
  rw [hn] at HN
  have hwA : IntKind.i64.wrap (A : Int) = (A : Int) := by rw [IntKind.wrap_i64]; omega
  have hwB : IntKind.i64.wrap (B : Int) = (B : Int) := by rw [IntKind.wrap_i64]; omega
  have hz1 : ¬ (n : Int) < 4 := by omega
  have hz2 : ¬ (1492 : Int) < (n : Int) := by omega
  have hz3 : ¬ (s.size : Int) < (n : Int) := by omega
  clear h0 h1 hn
  have O0 := hid (PkAt.new w 0 0 (.slice none 0 0) ⟨#[]⟩)
  have K0 := hid ((Kept.refl (fun _ => False) w).alloc (.cells #[.int .i64 0, .int .i64 0, .slice none 0 0, .string ⟨#[]⟩] 24))
  generalize s.extract 4 n = X at *
  go_enter Tryz.func16, Tryz.ntmps16
  go_wp2_with fail
  refine (HN.out _).mono ?_
  rintro e1 w1 ⟨rfl, hk1⟩
  obtain ⟨⟨c0, c1, c2, c3⟩, f0⟩ := (O0.out.kept hk1 id).own
  have K1 := hid (K0.out.trans hk1)
  clear hk1
  go_wp2
  go_region
  go_wp2
  refine bodyPost_ret (v := .tuple #[.agg #[.int .i64 (A : Int), .int .i64 (B : Int), .slice none 0 0, .string X], .int .i64 0]) (by simp [results, Tryz.results16, go_sem, c0, c1, c2, c3]) rfl ⟨rfl, ?_⟩
  first
    | (repeat refine Kept.setCell ?_ (Or.inl (Nat.le_refl _)) _
       exact K1.out.drew)
    | (refine Kept.drew ?_
       repeat refine Kept.setCell ?_ (Or.inl (Nat.le_refl _)) _
       exact K1.out)
set_option maxHeartbeats 1000000 in
set_option maxRecDepth 100000 in
theorem rGetData_no1 (s : ByteArray) (h : s.size < 4) (w : World) :
    Calls Tryz.prog 16 #[.string s] w fun r w' => r = .returned (.tuple #[pkZ, .int .i64 5]) ∧ Kept (fun _ => False) w w' := by
  unfold pkZ pkV
  obtain ⟨⟨c0, c1, c2, c3⟩, f0⟩ := own4_new w 24 (.int .i64 0) (.int .i64 0) (.slice none 0 0) (.string ⟨#[]⟩)
  go_enter Tryz.func16, Tryz.ntmps16
  go_wp2
  exact bodyPost_ret (v := .tuple #[.agg #[.int .i64 0, .int .i64 0, .slice none 0 0, .string ⟨#[]⟩], .int .i64 5]) (by simp [results, Tryz.results16, go_sem, c0, c1, c2, c3]) rfl ⟨rfl, (Kept.refl _ w).alloc _⟩

set_option maxHeartbeats 1000000 in
set_option maxRecDepth 100000 in
theorem rGetData_no2 (s : ByteArray) (e : Int) (n : Nat) (hsz : s.size ≤ 140737488351232) (h4 : 4 ≤ s.size) (hn : numOf ((s.data.toList.drop 2).take 2) = n) (hn6 : n < 65536)
    (h : (n < 4 ∧ e = 4) ∨ (1492 < n ∧ e = 2) ∨ (4 ≤ n ∧ n ≤ 1492 ∧ s.size < n ∧ e = 5)) (w : World) :
    Calls Tryz.prog 16 #[.string s] w fun r w' => r = .returned (.tuple #[pkZ, .int .i64 e]) ∧ Kept (fun _ => False) w w' := by
  unfold pkZ pkV
  have HN := hid (refNum_any s (by unfold maxLen; omega) 2 (by omega))
  rw [hn] at HN
  clear hn
  have O0 := hid (PkAt.new w 0 0 (.slice none 0 0) ⟨#[]⟩)
  have K1 := hid ((Kept.refl (fun _ => False) w).alloc (.cells #[.int .i64 0, .int .i64 0, .slice none 0 0, .string ⟨#[]⟩] 24))
  rcases h with ⟨h, rfl⟩ | ⟨h, rfl⟩ | ⟨h1, h2, h3, rfl⟩
  · have hz1 : (n : Int) < 4 := by omega
    go_enter Tryz.func16, Tryz.ntmps16
    go_wp2_with fail
    refine (HN.out _).mono ?_
    rintro e1 w1 ⟨rfl, hk1⟩
    obtain ⟨⟨c0, c1, c2, c3⟩, f0⟩ := (O0.out.kept hk1 id).own
    have K1 := hid (K1.out.trans hk1)
    clear hk1
    go_wp2
    exact bodyPost_ret (v := .tuple #[.agg #[.int .i64 0, .int .i64 0, .slice none 0 0, .string ⟨#[]⟩], .int .i64 4]) (by simp [results, Tryz.results16, go_sem, c0, c1, c2, c3]) rfl ⟨rfl, by first | exact K1.out | exact ((((K1.out).setCell (Or.inl (Nat.le_refl _)) _).setCell (Or.inl (Nat.le_refl _)) _).setCell (Or.inl (Nat.le_refl _)) _).setCell (Or.inl (Nat.le_refl _)) _⟩
  · have hz1 : ¬ (n : Int) < 4 := by omega
    have hz2 : (1492 : Int) < (n : Int) := by omega
    go_enter Tryz.func16, Tryz.ntmps16
    go_wp2_with fail
    refine (HN.out _).mono ?_
    rintro e1 w1 ⟨rfl, hk1⟩
    obtain ⟨⟨c0, c1, c2, c3⟩, f0⟩ := (O0.out.kept hk1 id).own
    have K1 := hid (K1.out.trans hk1)
    clear hk1
    go_wp2
    exact bodyPost_ret (v := .tuple #[.agg #[.int .i64 0, .int .i64 0, .slice none 0 0, .string ⟨#[]⟩], .int .i64 2]) (by simp [results, Tryz.results16, go_sem, c0, c1, c2, c3]) rfl ⟨rfl, by first | exact K1.out | exact ((((K1.out).setCell (Or.inl (Nat.le_refl _)) _).setCell (Or.inl (Nat.le_refl _)) _).setCell (Or.inl (Nat.le_refl _)) _).setCell (Or.inl (Nat.le_refl _)) _⟩
  · have hz1 : ¬ (n : Int) < 4 := by omega
    have hz2 : ¬ (1492 : Int) < (n : Int) := by omega
    have hz3 : (s.size : Int) < (n : Int) := by omega
    go_enter Tryz.func16, Tryz.ntmps16
    go_wp2_with fail
    refine (HN.out _).mono ?_
    rintro e1 w1 ⟨rfl, hk1⟩
    obtain ⟨⟨c0, c1, c2, c3⟩, f0⟩ := (O0.out.kept hk1 id).own
    have K1 := hid (K1.out.trans hk1)
    clear hk1
    go_wp2
    exact bodyPost_ret (v := .tuple #[.agg #[.int .i64 0, .int .i64 0, .slice none 0 0, .string ⟨#[]⟩], .int .i64 5]) (by simp [results, Tryz.results16, go_sem, c0, c1, c2, c3]) rfl ⟨rfl, by first | exact K1.out | exact ((((K1.out).setCell (Or.inl (Nat.le_refl _)) _).setCell (Or.inl (Nat.le_refl _)) _).setCell (Or.inl (Nat.le_refl _)) _).setCell (Or.inl (Nat.le_refl _)) _⟩

/-- The document's GetData. -/
theorem rGetData_any (s : ByteArray) (hs : s.size ≤ 140737488351232) (w : World) :
    Calls Tryz.prog 16 #[.string s] w fun e w' => e = .returned (.tuple #[pkD (getDataF s.data.toList).1, .int .i64 (getDataF s.data.toList).2]) ∧ Kept (fun _ => False) w w' := by
  have hl : s.data.toList.length = s.size := (Lib.size_eq s).symm
  have hn6 := num2_lt (s.data.toList.drop 2)
  unfold getDataF
  rw [hl]
  by_cases h4 : s.size < 4
  · rw [if_pos h4]
    exact rGetData_no1 s h4 w
  · rw [if_neg h4]
    by_cases h1 : numOf ((s.data.toList.drop 2).take 2) < 4
    · rw [if_pos h1]
      exact rGetData_no2 s 4 _ hs (by omega) rfl hn6 (Or.inl ⟨h1, rfl⟩) w
    · rw [if_neg h1]
      by_cases h2 : 1492 < numOf ((s.data.toList.drop 2).take 2)
      · rw [if_pos h2]
        exact rGetData_no2 s 2 _ hs (by omega) rfl hn6 (Or.inr (Or.inl ⟨h2, rfl⟩)) w
      · rw [if_neg h2]
        by_cases h3 : s.size < numOf ((s.data.toList.drop 2).take 2)
        · rw [if_pos h3]
          exact rGetData_no2 s 5 _ hs (by omega) rfl hn6 (Or.inr (Or.inr ⟨by omega, by omega, h3, rfl⟩)) w
        · rw [if_neg h3]
          refine (rGetData_yes s hs (by omega) _ _ _ rfl rfl (UInt8.toNat_lt _) (UInt8.toNat_lt _) rfl (by omega) (by omega) (by omega) w).mono ?_
          rintro r w' ⟨rfl, hk⟩
          refine ⟨?_, hk⟩
          have hx : s.extract 4 (numOf ((s.data.toList.drop 2).take 2)) = ⟨((s.data.toList.drop 4).take (numOf ((s.data.toList.drop 2).take 2) - 4)).toArray⟩ := by
            apply bytes_ext
            rw [Lib.extract_data]
          rw [hx]
          rfl


theorem PkAt.set2 {w : World} {b : Nat} {c i : Int} {u : Value} {s : ByteArray} (h : PkAt w b c i u s) (v : Value) : PkAt (w.setCell ⟨b, 2, none⟩ v) b c i v s := Joins.block_setCell h v
theorem PkAt.set3 {w : World} {b : Nat} {c i : Int} {u : Value} {s : ByteArray} (h : PkAt w b c i u s) (x : ByteArray) : PkAt (w.setCell ⟨b, 3, none⟩ (.string x)) b c i u x := Joins.block_setCell h (.string x)

set_option maxHeartbeats 4000000 in
set_option maxRecDepth 100000 in
theorem rGet_main (s : ByteArray) (hsz : s.size ≤ 140737488351232) (h4 : 4 ≤ s.size) (A B n : Nat) (h0 : (s.data.toList.getD 0 0).toNat = A) (h1 : (s.data.toList.getD 1 0).toNat = B) (hA : A < 256) (hB : B < 256)
    (hn : numOf ((s.data.toList.drop 2).take 2) = n) (hl : 4 ≤ n) (hl2 : n ≤ 1492) (hs : n ≤ s.size) (w : World) :
    Calls Tryz.prog 12 #[.string s] w fun r w' =>
      (confB (A : Int) = false ∧ r = .returned (.tuple #[pkV (A : Int) (B : Int) (.slice none 0 0) (s.extract 4 n), .int .i64 0]) ∧ Kept (fun _ => False) w w') ∨
      (confB (A : Int) = true ∧ (∃ v, r = .returned (.tuple #[pkV (A : Int) (B : Int) v ⟨#[]⟩, .int .i64 0]) ∧ (optsOn (s.extract 4 n).data.toList []).2 = 0 ∧ OwnO w' w.heap.size v (optsOn (s.extract 4 n).data.toList []).1 ∧ Kept (fun _ => False) w w')) ∨
      (confB (A : Int) = true ∧ r = .returned (.tuple #[pkZ, .int .i64 (optsOn (s.extract 4 n).data.toList []).2]) ∧ (optsOn (s.extract 4 n).data.toList []).2 ≠ 0 ∧ Kept (fun _ => False) w w') := by
  unfold pkZ pkV
  have x0 := index_at s 0 (by omega) 0 rfl
  have x1 := index_at s 1 (by omega) 1 rfl
  rw [h0] at x0
  rw [h1] at x1
  have i4 := mid_at s 4 n (by omega) (by omega) 4 (n : Int) rfl rfl
  have HN := hid (refNum_any s (by unfold maxLen; omega) 2 (by omega))
  rw [hn] at HN
  have hwA : IntKind.i64.wrap (A : Int) = (A : Int) := by rw [IntKind.wrap_i64]; omega
  have hwB : IntKind.i64.wrap (B : Int) = (B : Int) := by rw [IntKind.wrap_i64]; omega
  have hz1 : ¬ (n : Int) < 4 := by omega
  have hz2 : ¬ (1492 : Int) < (n : Int) := by omega
  have hz3 : ¬ (s.size : Int) < (n : Int) := by omega
  have HG := hid (rGetOpts_any (s.extract 4 n) (by rw [ByteArray.size_extract]; omega))
  clear h0 h1 hn
  have O0 := hid (PkAt.new w 0 0 (.slice none 0 0) ⟨#[]⟩)
  have K0 := hid ((Kept.refl (fun _ => False) w).alloc (.cells #[.int .i64 0, .int .i64 0, .slice none 0 0, .string ⟨#[]⟩] 24))
  generalize s.extract 4 n = X at *
  generalize optsOn X.data.toList [] = R at *
  obtain ⟨L, E⟩ := R
  simp only at HG ⊢
  have HC := hid (rConf_any (A : Int))
  generalize confB (A : Int) = CB at *
  go_enter Tryz.func12, Tryz.ntmps12
  go_wp2_with fail
  refine (HN.out _).mono ?_
  rintro e1 w1 ⟨rfl, hk1⟩
  have O1 := hid (O0.out.kept hk1 id)
  have K1 := hid (K0.out.trans hk1)
  have hlt := O1.out.lt
  clear hk1 O0 K0 HN
  go_wp2
  go_region
  go_upto_region 11 with fail
  have K2 := hid (K1.out.alloc (.cells #[.int .i64 (A : Int), .int .i64 (B : Int), .slice none 0 0, .string X] 24)).drew
  have O2 := hid (O1.out.kept ((Kept.refl (fun _ => False) w1).alloc (.cells #[.int .i64 (A : Int), .int .i64 (B : Int), .slice none 0 0, .string X] 24)).drew id)
  have P2 := hid (show PkAt (w1.alloc (.cells #[.int .i64 (A : Int), .int .i64 (B : Int), .slice none 0 0, .string X] 24)).drew w1.heap.size (A : Int) (B : Int) (.slice none 0 0) X from PkAt.new w1 (A : Int) (B : Int) (.slice none 0 0) X)
  generalize (w1.alloc (.cells #[.int .i64 (A : Int), .int .i64 (B : Int), .slice none 0 0, .string X] 24)).drew = W2 at K2 O2 P2 ⊢
  obtain ⟨c0, c1, c2, c3⟩ := P2.out.cells
  obtain ⟨⟨a0, a1, a2, a3⟩, fa⟩ := O2.out.own
  cases CB with
  | false =>
    go_wp2_with fail
    refine (HC.out _).mono ?_
    rintro e1 w2 ⟨rfl, hw⟩
    rw [hw]
    clear hw
    go_wp2
    refine bodyPost_ret (v := .tuple #[.agg #[.int .i64 (A : Int), .int .i64 (B : Int), .slice none 0 0, .string X], .int .i64 0]) (by simp [results, Tryz.results12, go_sem, a0, a1, a2, a3]) rfl ?_
    first
      | refine Or.inl ⟨rfl, rfl, ?_⟩
      | refine ⟨rfl, ?_⟩
      | skip
    repeat refine Kept.setCell ?_ (Or.inl (Nat.le_refl _)) _
    exact K2.out
  | true =>
    go_wp2_with fail
    refine (HC.out _).mono ?_
    rintro e1 w2 ⟨rfl, hw⟩
    rw [hw]
    clear hw
    go_wp2_with fail
    refine (HG.out _).mono ?_
    rintro e1 w3 ⟨v, rfl, hown, hk3⟩
    have P3 := hid (P2.out.kept hk3 id)
    have O3 := hid (O2.out.kept hk3 id)
    have K3 := hid (K2.out.trans hk3)
    have HO3 := hid hown
    have hlt2 := O2.out.lt
    have hlt3 := P2.out.lt
    have hsz3 := K2.out.size
    obtain ⟨pp, cap, hv⟩ := slice_of hown
    subst hv
    clear c0 c1 c2 c3 a0 a1 a2 a3 fa hk3 hown K2 O2 P2 HG
    obtain ⟨⟨c0, c1, c2, c3⟩, fc⟩ := P3.out.own
    obtain ⟨⟨a0, a1, a2, a3⟩, fa⟩ := O3.out.own
    have hn1 : ¬ w.heap.size = w1.heap.size := by omega
    have hn2 : ¬ w1.heap.size = w.heap.size := by omega
    cases hE : (E != 0) with
    | true =>
      have hE0 : E ≠ 0 := by simpa using hE
      have HE0 := hid hE0
      clear hE0
      go_wp2
      refine bodyPost_ret (v := .tuple #[.agg #[.int .i64 0, .int .i64 0, .slice none 0 0, .string ⟨#[]⟩], .int .i64 E]) (by simp [results, Tryz.results12, go_sem, a0, a1, a2, a3]) rfl ?_
      first
        | refine Or.inr (Or.inr ⟨rfl, rfl, HE0.out, ?_⟩)
        | refine Or.inr ⟨rfl, HE0.out, ?_⟩
        | refine Or.inr ⟨HE0.out, ?_⟩
        | refine ⟨HE0.out, ?_⟩
      repeat refine Kept.setCell ?_ (Or.inl (Nat.le_refl _)) _
      exact K3.out
    | false =>
      obtain rfl : E = 0 := by simpa using hE
      clear hE
      go_upto_region 16 with fail
      have k4 : Kept (fun i => i = w1.heap.size) w3 ((w3.setCell ⟨w1.heap.size, 2, none⟩ (.slice pp L.length cap)).setCell ⟨w1.heap.size, 3, none⟩ (.string ⟨#[]⟩)) := ((Kept.refl _ w3).setCell (p := ⟨w1.heap.size, 2, none⟩) (Or.inr (by rfl)) _).setCell (p := ⟨w1.heap.size, 3, none⟩) (Or.inr (by rfl)) _
      have P4 := hid ((P3.out.set2 (.slice pp L.length cap)).set3 ⟨#[]⟩)
      have O4 := hid (O3.out.kept k4 hn1)
      have K4 := hid (K3.out.andThen k4 (fun i hi e => by omega))
      have HO4 := hid (OwnO.beside HO3.out k4 hlt3)
      clear k4 c0 c1 c2 c3 a0 a1 a2 a3 fa fc P3 O3 K3 HO3
      generalize (w3.setCell ⟨w1.heap.size, 2, none⟩ (.slice pp L.length cap)).setCell ⟨w1.heap.size, 3, none⟩ (.string ⟨#[]⟩) = W4 at P4 O4 K4 HO4 ⊢
      obtain ⟨⟨c0, c1, c2, c3⟩, fc⟩ := P4.out.own
      obtain ⟨⟨a0, a1, a2, a3⟩, fa⟩ := O4.out.own
      go_wp2
      refine bodyPost_ret (v := .tuple #[.agg #[.int .i64 (A : Int), .int .i64 (B : Int), .slice pp L.length cap, .string ⟨#[]⟩], .int .i64 0]) (by simp [results, Tryz.results12, go_sem, a0, a1, a2, a3]) rfl ?_
      first
        | refine Or.inr (Or.inl ⟨rfl, _, rfl, rfl, ?_, ?_⟩)
        | refine Or.inl ⟨_, rfl, rfl, ?_, ?_⟩
        | refine ⟨_, rfl, ?_, ?_⟩
      · refine (OwnO.beside (g := w.heap.size) HO4.out ?_ hlt2).mono (by omega)
        repeat refine Kept.setCell ?_ (Or.inr (by rfl)) _
        exact Kept.refl _ _
      · repeat refine Kept.setCell ?_ (Or.inl (Nat.le_refl _)) _
        exact K4.out

set_option maxHeartbeats 1000000 in
set_option maxRecDepth 100000 in
theorem rGet_no1 (s : ByteArray) (h : s.size < 4) (w : World) :
    Calls Tryz.prog 12 #[.string s] w fun r w' => r = .returned (.tuple #[pkZ, .int .i64 5]) ∧ Kept (fun _ => False) w w' := by
  unfold pkZ pkV
  obtain ⟨⟨c0, c1, c2, c3⟩, f0⟩ := own4_new w 24 (.int .i64 0) (.int .i64 0) (.slice none 0 0) (.string ⟨#[]⟩)
  go_enter Tryz.func12, Tryz.ntmps12
  go_wp2
  exact bodyPost_ret (v := .tuple #[.agg #[.int .i64 0, .int .i64 0, .slice none 0 0, .string ⟨#[]⟩], .int .i64 5]) (by simp [results, Tryz.results12, go_sem, c0, c1, c2, c3]) rfl ⟨rfl, (Kept.refl _ w).alloc _⟩

set_option maxHeartbeats 1000000 in
set_option maxRecDepth 100000 in
theorem rGet_no2 (s : ByteArray) (e : Int) (n : Nat) (hsz : s.size ≤ 140737488351232) (h4 : 4 ≤ s.size) (hn : numOf ((s.data.toList.drop 2).take 2) = n) (hn6 : n < 65536)
    (h : (n < 4 ∧ e = 4) ∨ (1492 < n ∧ e = 2) ∨ (4 ≤ n ∧ n ≤ 1492 ∧ s.size < n ∧ e = 5)) (w : World) :
    Calls Tryz.prog 12 #[.string s] w fun r w' => r = .returned (.tuple #[pkZ, .int .i64 e]) ∧ Kept (fun _ => False) w w' := by
  unfold pkZ pkV
  have HN := hid (refNum_any s (by unfold maxLen; omega) 2 (by omega))
  rw [hn] at HN
  clear hn
  have O0 := hid (PkAt.new w 0 0 (.slice none 0 0) ⟨#[]⟩)
  have K1 := hid ((Kept.refl (fun _ => False) w).alloc (.cells #[.int .i64 0, .int .i64 0, .slice none 0 0, .string ⟨#[]⟩] 24))
  rcases h with ⟨h, rfl⟩ | ⟨h, rfl⟩ | ⟨h1, h2, h3, rfl⟩
  · have hz1 : (n : Int) < 4 := by omega
    go_enter Tryz.func12, Tryz.ntmps12
    go_wp2_with fail
    refine (HN.out _).mono ?_
    rintro e1 w1 ⟨rfl, hk1⟩
    obtain ⟨⟨c0, c1, c2, c3⟩, f0⟩ := (O0.out.kept hk1 id).own
    have K1 := hid (K1.out.trans hk1)
    clear hk1
    go_wp2
    exact bodyPost_ret (v := .tuple #[.agg #[.int .i64 0, .int .i64 0, .slice none 0 0, .string ⟨#[]⟩], .int .i64 4]) (by simp [results, Tryz.results12, go_sem, c0, c1, c2, c3]) rfl ⟨rfl, by first | exact K1.out | exact ((((K1.out).setCell (Or.inl (Nat.le_refl _)) _).setCell (Or.inl (Nat.le_refl _)) _).setCell (Or.inl (Nat.le_refl _)) _).setCell (Or.inl (Nat.le_refl _)) _⟩
  · have hz1 : ¬ (n : Int) < 4 := by omega
    have hz2 : (1492 : Int) < (n : Int) := by omega
    go_enter Tryz.func12, Tryz.ntmps12
    go_wp2_with fail
    refine (HN.out _).mono ?_
    rintro e1 w1 ⟨rfl, hk1⟩
    obtain ⟨⟨c0, c1, c2, c3⟩, f0⟩ := (O0.out.kept hk1 id).own
    have K1 := hid (K1.out.trans hk1)
    clear hk1
    go_wp2
    exact bodyPost_ret (v := .tuple #[.agg #[.int .i64 0, .int .i64 0, .slice none 0 0, .string ⟨#[]⟩], .int .i64 2]) (by simp [results, Tryz.results12, go_sem, c0, c1, c2, c3]) rfl ⟨rfl, by first | exact K1.out | exact ((((K1.out).setCell (Or.inl (Nat.le_refl _)) _).setCell (Or.inl (Nat.le_refl _)) _).setCell (Or.inl (Nat.le_refl _)) _).setCell (Or.inl (Nat.le_refl _)) _⟩
  · have hz1 : ¬ (n : Int) < 4 := by omega
    have hz2 : ¬ (1492 : Int) < (n : Int) := by omega
    have hz3 : (s.size : Int) < (n : Int) := by omega
    go_enter Tryz.func12, Tryz.ntmps12
    go_wp2_with fail
    refine (HN.out _).mono ?_
    rintro e1 w1 ⟨rfl, hk1⟩
    obtain ⟨⟨c0, c1, c2, c3⟩, f0⟩ := (O0.out.kept hk1 id).own
    have K1 := hid (K1.out.trans hk1)
    clear hk1
    go_wp2
    exact bodyPost_ret (v := .tuple #[.agg #[.int .i64 0, .int .i64 0, .slice none 0 0, .string ⟨#[]⟩], .int .i64 5]) (by simp [results, Tryz.results12, go_sem, c0, c1, c2, c3]) rfl ⟨rfl, by first | exact K1.out | exact ((((K1.out).setCell (Or.inl (Nat.le_refl _)) _).setCell (Or.inl (Nat.le_refl _)) _).setCell (Or.inl (Nat.le_refl _)) _).setCell (Or.inl (Nat.le_refl _)) _⟩

/-- The document's Get. -/
theorem rGet_any (s : ByteArray) (hs : s.size ≤ 140737488351232) (w : World) :
    Calls Tryz.prog 12 #[.string s] w fun r w' => ∃ v, r = .returned (.tuple #[v, .int .i64 (getPackF s.data.toList).2]) ∧ GotP w' w.heap.size v (getPackF s.data.toList).1 ∧ Kept (fun _ => False) w w' := by
  have hl : s.data.toList.length = s.size := (Lib.size_eq s).symm
  have hn6 := num2_lt (s.data.toList.drop 2)
  have hz : ∀ e : Int, e ≠ 0 → getDataF s.data.toList = (⟨0, 0, [], []⟩, e) → (Calls Tryz.prog 12 #[.string s] w fun r w' => r = .returned (.tuple #[pkZ, .int .i64 e]) ∧ Kept (fun _ => False) w w') →
      Calls Tryz.prog 12 #[.string s] w fun r w' => ∃ v, r = .returned (.tuple #[v, .int .i64 (getPackF s.data.toList).2]) ∧ GotP w' w.heap.size v (getPackF s.data.toList).1 ∧ Kept (fun _ => False) w w' := fun e he hd h => by
    rw [getPack_of hd (Or.inl he)]
    refine h.mono ?_
    rintro r w' ⟨rfl, hk⟩
    exact ⟨_, rfl, ⟨_, rfl, OwnO.nil _ _⟩, hk⟩
  by_cases h4 : s.size < 4
  · exact hz 5 (by decide) (by unfold getDataF; rw [if_pos (by omega)]) (rGet_no1 s h4 w)
  · by_cases h1 : numOf ((s.data.toList.drop 2).take 2) < 4
    · exact hz 4 (by decide) (by unfold getDataF; rw [if_neg (by omega), if_pos h1]) (rGet_no2 s 4 _ hs (by omega) rfl hn6 (Or.inl ⟨h1, rfl⟩) w)
    · by_cases h2 : 1492 < numOf ((s.data.toList.drop 2).take 2)
      · exact hz 2 (by decide) (by unfold getDataF; rw [if_neg (by omega), if_neg h1, if_pos h2]) (rGet_no2 s 2 _ hs (by omega) rfl hn6 (Or.inr (Or.inl ⟨h2, rfl⟩)) w)
      · by_cases h3 : s.size < numOf ((s.data.toList.drop 2).take 2)
        · exact hz 5 (by decide) (by unfold getDataF; rw [if_neg (by omega), if_neg h1, if_neg h2, if_pos (by omega)]) (rGet_no2 s 5 _ hs (by omega) rfl hn6 (Or.inr (Or.inr ⟨by omega, by omega, h3, rfl⟩)) w)
        · have hd : getDataF s.data.toList = (⟨(s.data.toList.getD 0 0).toNat, (s.data.toList.getD 1 0).toNat, [], (s.data.toList.drop 4).take (numOf ((s.data.toList.drop 2).take 2) - 4)⟩, 0) := by
            unfold getDataF; rw [if_neg (by omega), if_neg h1, if_neg h2, if_neg (by omega)]
          have hx : s.extract 4 (numOf ((s.data.toList.drop 2).take 2)) = ⟨((s.data.toList.drop 4).take (numOf ((s.data.toList.drop 2).take 2) - 4)).toArray⟩ := by
            apply bytes_ext
            rw [Lib.extract_data]
          have hm := rGet_main s hs (by omega) _ _ _ rfl rfl (UInt8.toNat_lt _) (UInt8.toNat_lt _) rfl (by omega) (by omega) (by omega) w
          rw [hx] at hm
          refine hm.mono ?_
          rintro r w' (⟨hc, rfl, hk⟩ | ⟨hc, v, rfl, h0, hown, hk⟩ | ⟨hc, rfl, h0, hk⟩)
          · rw [getPack_of hd (Or.inr hc)]
            exact ⟨_, rfl, ⟨_, rfl, OwnO.nil _ _⟩, hk⟩
          · rw [getPack_yes (o := (optsOn ((s.data.toList.drop 4).take (numOf ((s.data.toList.drop 2).take 2) - 4)) []).1) hd hc (by rw [← h0])]
            exact ⟨_, rfl, ⟨v, rfl, hown⟩, hk⟩
          · rw [getPack_no (o := (optsOn ((s.data.toList.drop 4).take (numOf ((s.data.toList.drop 2).take 2) - 4)) []).1) hd hc rfl h0]
            exact ⟨_, rfl, ⟨_, rfl, OwnO.nil _ _⟩, hk⟩
end Go.Proofs.YtdifdcceigoedaaGreat
