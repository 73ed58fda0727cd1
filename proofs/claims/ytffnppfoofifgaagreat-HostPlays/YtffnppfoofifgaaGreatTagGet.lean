/- The contract of tag.Get: the packet of some bytes, or the error; for every string of at most 2^47 bytes. -/
import Derived.Test.YtffnppfoofifgaaGreatTagPut
import Derived.Deep.RegionWith
namespace Go.Proofs.YtffnppfoofifgaaGreat
open Go.RowKit

def discV (d : Dc) : Value := .agg #[.int .i64 (d.code : Int), .int .i64 (d.session : Int), .string ⟨d.data.toArray⟩]

/-- The three cells of a result of the call's own, none of them frozen. -/
def Own3 (w : World) (b : Nat) (x y z : Value) : Prop := Box3 w b x y z ∧ ∀ j, w.frozen? ⟨b, j, none⟩ = false
theorem own3_new (w : World) (t : TypeId) (x y z : Value) : Own3 (w.alloc (.cells #[x, y, z] t)) w.heap.size x y z :=
  ⟨box3_new w t x y z, fun j => frozen_of_row _ w.heap.size j #[x, y, z] t (heap_alloc_new w _)⟩
theorem Own3.kept {w w1 : World} {b : Nat} {x y z : Value} (h : Own3 w b x y z) (hk : Kept (fun _ => False) w w1) : Own3 w1 b x y z := by
  have hlt : b < w.heap.size := lt_of_cell h.1.1
  exact ⟨⟨(hk.cell (p := ⟨b, 0, none⟩) hlt id).trans h.1.1, (hk.cell (p := ⟨b, 1, none⟩) hlt id).trans h.1.2.1, (hk.cell (p := ⟨b, 2, none⟩) hlt id).trans h.1.2.2⟩, fun j => (hk.frozen (p := ⟨b, j, none⟩) hlt id).trans (h.2 j)⟩

set_option maxHeartbeats 4000000 in
set_option maxRecDepth 100000 in
theorem getDisc_yes (s : ByteArray) (hsz : s.size ≤ 140737488351232) (h6 : 6 ≤ s.size) (B n m : Nat) (h0 : s.data.toList.getD 0 0 = 17) (h1 : (s.data.toList.getD 1 0).toNat = B) (hB : B < 256)
    (hn : numOf ((s.data.toList.drop 4).take 2) = n) (hm : numOf ((s.data.toList.drop 2).take 2) = m) (hl : n ≤ 1494) (hs : 6 + n ≤ s.size) (w : World) :
    Calls Tryz.prog 121 #[.string s] w fun e w' => e = .returned (.tuple #[.agg #[.int .i64 (B : Int), .int .i64 (m : Int), .string (s.extract 6 (6 + n))], .int .i64 0]) ∧ Kept (fun _ => False) w w' := by
  have x0 := index_at s 0 (by omega) 0 rfl
  have x1 := index_at s 1 (by omega) 1 rfl
  rw [h0] at x0
  rw [h1] at x1
  have i4 := mid_at s 4 6 (by omega) (by omega) 4 6 rfl rfl
  have i2 := mid_at s 2 4 (by omega) (by omega) 2 4 rfl rfl
  have i6 := mid_at s 6 (6 + n) (by omega) (by omega) 6 (6 + (n : Int)) rfl (by omega)
  have hwr : IntKind.i64.wrap (6 + (n : Int)) = 6 + (n : Int) := by rw [IntKind.wrap_i64]; omega
  have HG4 := hid (getWord_any (s.extract 4 6) (by rw [ByteArray.size_extract]; unfold maxLen; omega) (by rw [ByteArray.size_extract]; omega))
  have HG2 := hid (fun w0 => sinceK (getWord_any (s.extract 2 4) (by rw [ByteArray.size_extract]; unfold maxLen; omega) (by rw [ByteArray.size_extract]; omega)) w0)
  rw [take_num s 4, hn] at HG4
  rw [take_num s 2, hm] at HG2
  have HC := hid (fun w0 => since (fun w => clone_any (s.extract 6 (6 + n)) w (by rw [ByteArray.size_extract]; omega)) w0)
  have hsn : (n : Int) ≤ (s.size : Int) - 6 := by omega
  have hwB : IntKind.i64.wrap (B : Int) = (B : Int) := by rw [IntKind.wrap_i64]; omega
  have hb4 : ¬ (1494 : Int) < (n : Int) := by omega
  clear h0 h1 hn hm
  go_enter Tryz.func121, Tryz.ntmps121
  go_wp2_with fail
  refine (HG4.out _).mono ?_
  rintro e1 w1 ⟨rfl, hk1⟩
  have O1 := hid ((own3_new w 82 (.int .i64 0) (.int .i64 0) (.string ⟨#[]⟩)).kept hk1)
  have K1 := hid (((Kept.refl (fun _ => False) w).alloc (.cells #[.int .i64 0, .int .i64 0, .string ⟨#[]⟩] 82)).trans hk1)
  have D1 := (Kept.refl (fun _ => False) w1).drew
  clear hk1
  go_wp2_with fail
  go_region_with (first
    | (go_at_call 167; refine (HG2.out w1 _ (by assumption)).mono ?_; rintro e3 w3 ⟨rfl, hk3⟩; obtain ⟨⟨c0, c1, c2⟩, f0⟩ := O1.out.kept hk3)
    | (go_at_call 168; refine (HC.out w1 _ (by assumption)).mono ?_; rintro e5 w5 ⟨rfl, hk5⟩; obtain ⟨⟨c0, c1, c2⟩, f0⟩ := O1.out.kept hk5))
  all_goals
    go_wp2
    refine bodyPost_ret (v := .tuple #[.agg #[.int .i64 (B : Int), .int .i64 (m : Int), .string (s.extract 6 (6 + n))], .int .i64 0]) (by simp [results, Tryz.results121, go_sem, c0, c1, c2]) rfl ⟨rfl, ?_⟩
    first
      | exact (((K1.out.trans hk5).setCell (Or.inl (Nat.le_refl _)) _).setCell (Or.inl (Nat.le_refl _)) _).setCell (Or.inl (Nat.le_refl _)) _
      | exact (((K1.out.trans hk3).setCell (Or.inl (Nat.le_refl _)) _).setCell (Or.inl (Nat.le_refl _)) _).setCell (Or.inl (Nat.le_refl _)) _

set_option maxHeartbeats 1000000 in
set_option maxRecDepth 100000 in
theorem getDisc_no1 (s : ByteArray) (e : Int) (hsz : s.size ≤ 140737488351232) (h : (s.size < 6 ∧ e = 5) ∨ (6 ≤ s.size ∧ ((s.data.toList.getD 0 0).toNat ≠ 17) ∧ e = 4)) (w : World) :
    Calls Tryz.prog 121 #[.string s] w fun r w' => r = .returned (.tuple #[.agg #[.int .i64 0, .int .i64 0, .string ⟨#[]⟩], .int .i64 e]) ∧ Kept (fun _ => False) w w' := by
  obtain ⟨⟨c0, c1, c2⟩, f0⟩ := own3_new w 82 (.int .i64 0) (.int .i64 0) (.string ⟨#[]⟩)
  rcases h with ⟨h, rfl⟩ | ⟨h6, h0, rfl⟩
  · go_enter Tryz.func121, Tryz.ntmps121
    go_wp2
    exact bodyPost_ret (v := .tuple #[.agg #[.int .i64 0, .int .i64 0, .string ⟨#[]⟩], .int .i64 5]) (by simp [results, Tryz.results121, go_sem, c0, c1, c2]) rfl ⟨rfl, (Kept.refl _ w).alloc _⟩
  · have x0 := index_at s 0 (by omega) 0 rfl
    have hne : (((s.data.toList.getD 0 0).toNat : Int) != 17) = true := by
      rw [bne_iff_ne]
      omega
    generalize (s.data.toList.getD 0 0).toNat = A at *
    go_enter Tryz.func121, Tryz.ntmps121
    go_wp2
    exact bodyPost_ret (v := .tuple #[.agg #[.int .i64 0, .int .i64 0, .string ⟨#[]⟩], .int .i64 4]) (by simp [results, Tryz.results121, go_sem, c0, c1, c2]) rfl ⟨rfl, (Kept.refl _ w).alloc _⟩

set_option maxHeartbeats 1000000 in
set_option maxRecDepth 100000 in
theorem getDisc_no2 (s : ByteArray) (e : Int) (n : Nat) (hsz : s.size ≤ 140737488351232) (h6 : 6 ≤ s.size) (h0 : s.data.toList.getD 0 0 = 17) (hn : numOf ((s.data.toList.drop 4).take 2) = n) (hn6 : n < 65536)
    (h : (1494 < n ∧ e = 2) ∨ (n ≤ 1494 ∧ s.size < 6 + n ∧ e = 5)) (w : World) :
    Calls Tryz.prog 121 #[.string s] w fun r w' => r = .returned (.tuple #[.agg #[.int .i64 0, .int .i64 0, .string ⟨#[]⟩], .int .i64 e]) ∧ Kept (fun _ => False) w w' := by
  have x0 := index_at s 0 (by omega) 0 rfl
  rw [h0] at x0
  have i4 := mid_at s 4 6 (by omega) (by omega) 4 6 rfl rfl
  have HG4 := hid (getWord_any (s.extract 4 6) (by rw [ByteArray.size_extract]; unfold maxLen; omega) (by rw [ByteArray.size_extract]; omega))
  rw [take_num s 4, hn] at HG4
  clear h0 hn
  rcases h with ⟨h, rfl⟩ | ⟨h1, h2, rfl⟩
  · have hb4 : (1494 : Int) < (n : Int) := by omega
    clear h
    go_enter Tryz.func121, Tryz.ntmps121
    go_wp2_with fail
    refine (HG4.out _).mono ?_
    rintro e1 w1 ⟨rfl, hk1⟩
    obtain ⟨⟨c0, c1, c2⟩, f0⟩ := (own3_new w 82 (.int .i64 0) (.int .i64 0) (.string ⟨#[]⟩)).kept hk1
    have K1 := hid (((Kept.refl (fun _ => False) w).alloc (.cells #[.int .i64 0, .int .i64 0, .string ⟨#[]⟩] 82)).trans hk1)
    clear hk1
    go_wp2
    exact bodyPost_ret (v := .tuple #[.agg #[.int .i64 0, .int .i64 0, .string ⟨#[]⟩], .int .i64 2]) (by simp [results, Tryz.results121, go_sem, c0, c1, c2]) rfl ⟨rfl, (((K1.out).setCell (Or.inl (Nat.le_refl _)) _).setCell (Or.inl (Nat.le_refl _)) _).setCell (Or.inl (Nat.le_refl _)) _⟩
  · have hb4 : ¬ (1494 : Int) < (n : Int) := by omega
    have hsn : (s.size : Int) - 6 < (n : Int) := by omega
    clear h1 h2
    go_enter Tryz.func121, Tryz.ntmps121
    go_wp2_with fail
    refine (HG4.out _).mono ?_
    rintro e1 w1 ⟨rfl, hk1⟩
    obtain ⟨⟨c0, c1, c2⟩, f0⟩ := (own3_new w 82 (.int .i64 0) (.int .i64 0) (.string ⟨#[]⟩)).kept hk1
    have K1 := hid (((Kept.refl (fun _ => False) w).alloc (.cells #[.int .i64 0, .int .i64 0, .string ⟨#[]⟩] 82)).trans hk1)
    clear hk1
    go_wp2
    exact bodyPost_ret (v := .tuple #[.agg #[.int .i64 0, .int .i64 0, .string ⟨#[]⟩], .int .i64 5]) (by simp [results, Tryz.results121, go_sem, c0, c1, c2]) rfl ⟨rfl, (((K1.out).setCell (Or.inl (Nat.le_refl _)) _).setCell (Or.inl (Nat.le_refl _)) _).setCell (Or.inl (Nat.le_refl _)) _⟩

/-- 'Get(b)'. -/
theorem getDisc_any (s : ByteArray) (hs : s.size ≤ 140737488351232) (w : World) :
    Calls Tryz.prog 121 #[.string s] w fun e w' => e = .returned (.tuple #[discV (getDiscF s.data.toList).1, .int .i64 (getDiscF s.data.toList).2]) ∧ Kept (fun _ => False) w w' := by
  have hl : s.data.toList.length = s.size := (Lib.size_eq s).symm
  by_cases h6 : s.size < 6
  · have e : getDiscF s.data.toList = (⟨0, 0, []⟩, 5) := by unfold getDiscF; rw [if_pos (by omega)]
    rw [e]
    exact getDisc_no1 s 5 hs (Or.inl ⟨h6, rfl⟩) w
  · by_cases h0 : (s.data.toList.getD 0 0).toNat ≠ 17
    · have e : getDiscF s.data.toList = (⟨0, 0, []⟩, 4) := by unfold getDiscF; rw [if_neg (by omega), if_pos h0]
      rw [e]
      exact getDisc_no1 s 4 hs (Or.inr ⟨by omega, h0, rfl⟩) w
    · have h0' : s.data.toList.getD 0 0 = 17 := by
        apply UInt8.toNat_inj.1
        simpa using h0
      have hn6 := num2_lt (s.data.toList.drop 4)
      by_cases h1 : 1494 < numOf ((s.data.toList.drop 4).take 2)
      · have e : getDiscF s.data.toList = (⟨0, 0, []⟩, 2) := by unfold getDiscF; rw [if_neg (by omega), if_neg h0, if_pos h1]
        rw [e]
        exact getDisc_no2 s 2 _ hs (by omega) h0' rfl hn6 (Or.inl ⟨h1, rfl⟩) w
      · by_cases h2 : s.data.toList.length - 6 < numOf ((s.data.toList.drop 4).take 2)
        · have e : getDiscF s.data.toList = (⟨0, 0, []⟩, 5) := by unfold getDiscF; rw [if_neg (by omega), if_neg h0, if_neg h1, if_pos h2]
          rw [e]
          exact getDisc_no2 s 5 _ hs (by omega) h0' rfl hn6 (Or.inr ⟨by omega, by omega, rfl⟩) w
        · have e : getDiscF s.data.toList = (⟨(s.data.toList.getD 1 0).toNat, numOf ((s.data.toList.drop 2).take 2), (s.data.toList.drop 6).take (numOf ((s.data.toList.drop 4).take 2))⟩, 0) := by
            unfold getDiscF; rw [if_neg (by omega), if_neg h0, if_neg h1, if_neg h2]
          rw [e]
          refine (getDisc_yes s hs (by omega) _ _ _ h0' rfl (UInt8.toNat_lt _) rfl rfl (by omega) (by omega) w).mono ?_
          rintro r w' ⟨rfl, hk⟩
          refine ⟨?_, hk⟩
          have hx : s.extract 6 (6 + numOf ((s.data.toList.drop 4).take 2)) = ⟨((s.data.toList.drop 6).take (numOf ((s.data.toList.drop 4).take 2))).toArray⟩ := by
            apply bytes_ext
            rw [Lib.extract_data, Nat.add_sub_cancel_left]
          rw [hx]
          rfl
end Go.Proofs.YtffnppfoofifgaaGreat
