/- The contracts of the book's markPackets, SamePackets (at two lists that are alike) and copyPackets, of packets without options. -/
import Derived.Test.YtndpfcanfcbldaaGreatDoorBqRow
import Derived.Test.YtndpfcanfcbldaaGreatDoorBgCopy
import Derived.Deep.QuietTactic
import Derived.BigQuiet
namespace Go.Proofs.YtndpfcanfcbldaaGreatDoor.BPackets
open Go.RowKit

def markT (i k : Nat) : Pq := ⟨-1 - (i : Int), (k : Int), ⟨#[]⟩⟩
def marksT (i a n : Nat) : List Pq := (List.range n).map fun j => markT i (a + j)
theorem marksT_length (i a n : Nat) : (marksT i a n).length = n := by simp [marksT]
theorem marksT_snoc (i a n : Nat) : marksT i a (n + 1) = marksT i a n ++ [markT i (a + n)] := by simp [marksT, List.range_succ]
theorem marksT_append (i a n m : Nat) : marksT i a (n + m) = marksT i a n ++ marksT i (a + n) m := by
  induction m with
  | zero => simp [marksT]
  | succ m ih => rw [← Nat.add_assoc, marksT_snoc, ih, marksT_snoc, List.append_assoc, Nat.add_assoc]
theorem marksT_get {i a n j : Nat} (h : j < n) : (marksT i a n)[j]? = some (markT i (a + j)) := by simp [marksT, h]

set_option maxHeartbeats 2000000 in
set_option maxRecDepth 100000 in
theorem markPackets_any (i a n : Nat) (hi : i ≤ 1000) (ha : a ≤ 10000) (hn : n ≤ 10000) (w : World) :
    Calls Tryz.prog 144 #[.int .i64 (i : Int), .int .i64 (a : Int), .int .i64 (n : Int)] w fun e w' => ∃ v, e = .returned v ∧ OwnQ w' w.heap.size v (marksT i a n) ∧ Kept (fun _ => False) w w' := by
  go_enter Tryz.func144, Tryz.ntmps144
  go_wp2
  go_loopw [7, 8] (fun v7 vk wr => ∃ j : Nat, j ≤ n ∧ vk = .int .i64 ((a : Int) + (j : Int)) ∧ Hid (OwnQ wr w.heap.size v7 (marksT i a j) ∧ Kept (fun _ => False) w wr)) (fun _ vk _ => (a + n) - (intOf vk).toNat)
  case atStart => exact ⟨0, Nat.zero_le _, by simp, OwnQ.nil _ _, Kept.refl _ _⟩
  case round =>
    obtain ⟨j, hj, rfl, HI⟩ := hrel
    by_cases hlt : j < n
    · have hltz : (a : Int) + (j : Int) < (a : Int) + (n : Int) := by omega
      obtain ⟨p7, c7, h7⟩ := slice_of HI.out.1
      subst h7
      obtain ⟨v', w2, happ, hown', hk'⟩ := pushQ ⟨-1 - (i : Int), (a : Int) + (j : Int), ⟨#[]⟩⟩ HI.out.2.size HI.out.1 (by rw [marksT_length]; omega)
      have R : Hid (OwnQ w2 w.heap.size v' (marksT i a (j + 1)) ∧ Kept (fun _ => False) w w2) := by
        refine ⟨?_, HI.out.2.andThen hk' (fun k hk e => by have := (HI.out.1.block e).2; omega)⟩
        rw [marksT_snoc, show markT i (a + j) = ⟨-1 - (i : Int), (a : Int) + (j : Int), ⟨#[]⟩⟩ from by unfold markT; simp]
        exact hown'
      clear hown' hk' HI
      go_wp2_with (at_builtin; refine Lib.wpList_append_run _ rfl _ _ _ _ rfl _ _ rfl rfl _ _ (happ _) ?_)
      exact ⟨⟨j + 1, hlt, by go_num, R.out⟩, by simp [intOf]; omega⟩
    · obtain rfl : j = n := by omega
      have hltz : ¬ (a : Int) + (j : Int) < (a : Int) + (j : Int) := by omega
      go_wp2
      go_ret
      exact ⟨_, rfl, HI.out.1, HI.out.2⟩

set_option maxHeartbeats 400000 in
set_option maxRecDepth 100000 in
theorem sameNone (w : World) : Calls Tryz.prog 37 #[.slice none 0 0, .slice none 0 0] w fun e w' => e = .returned (.bool true) ∧ w' = w := by
  go_enter Tryz.func37, Tryz.ntmps37
  go_wp2
  go_loopw [5] (fun vi wr => vi = .int .i64 0 ∧ wr = w) (fun _ _ => 0)
  case atStart => exact ⟨rfl, rfl⟩
  case round =>
    obtain ⟨rfl, rfl⟩ := hrel
    go_wp2
    go_ret
    exact ⟨rfl, rfl⟩

set_option maxHeartbeats 4000000 in
set_option maxRecDepth 100000 in
theorem samePackets_eq (v u : Value) (l : List Pq) (w : World) (hv : RdQ w v l) (hu : RdQ w u l) (hl : l.length ≤ 1000000) :
    Calls Tryz.prog 13 #[v, u] w fun e w' => e = .returned (.bool true) ∧ Kept (fun _ => False) w w' := by
  obtain ⟨b1, hv⟩ := hv
  obtain ⟨b2, hu⟩ := hu
  obtain ⟨p, cap, hp⟩ := slice_of hv
  subst hp
  obtain ⟨q, cbp, hq⟩ := slice_of hu
  subst hq
  have HV := hid (fun W (hk : Kept (fun _ => False) w W) => hv.kept hk)
  have HU := hid (fun W (hk : Kept (fun _ => False) w W) => hu.kept hk)
  have HS := hid sameNone
  clear hv hu
  go_enter Tryz.func13, Tryz.ntmps13
  go_wp2
  go_loopw [5] (fun vi wr => ∃ j : Nat, j ≤ l.length ∧ vi = .int .i64 (j : Int) ∧ Hid (Kept (fun _ => False) w wr)) (fun vi _ => l.length - (intOf vi).toNat)
  case atStart => exact ⟨0, Nat.zero_le _, rfl, Kept.refl _ _⟩
  case round =>
    obtain ⟨j, hj, rfl, HI⟩ := hrel
    by_cases hlt : j < l.length
    · have hltz : (j : Int) < (l.length : Int) := by omega
      obtain ⟨x, hx⟩ : ∃ x, l[j]? = some x := ⟨l[j], by simp [hlt]⟩
      obtain ⟨g, rfl, hcap, c0, c1, c2, c3, _⟩ := (HV.out _ HI.out).at hx
      obtain ⟨g2, rfl, hcbp, d0, d1, d2, d3, _⟩ := (HU.out _ HI.out).at hx
      obtain ⟨xc, xi, xd⟩ := x
      simp only at c0 c1 c3 d0 d1 d3
      have e1 : (xc == xc) = true := by simp
      have e2 : (xi == xi) = true := by simp
      have e3 : (xd.toList == xd.toList) = true := by simp
      clear hx
      go_wp2
      go_quiet ((go_at_call 37; exact Calls.quiet_of_same (HS.out _)))
      go_wp2
      exact ⟨⟨j + 1, hlt, by go_num, HI.out.drewN _⟩, by simp [intOf]; omega⟩
    · obtain rfl : j = l.length := by omega
      have hltz : ¬ (l.length : Int) < (l.length : Int) := by omega
      go_wp2
      go_ret
      exact ⟨rfl, HI.out⟩

set_option maxHeartbeats 400000 in
set_option maxRecDepth 100000 in
theorem copyNone (w : World) : Calls Tryz.prog 125 #[.slice none 0 0] w fun e w' => e = .returned (.slice none 0 0) ∧ w' = w := by
  obtain ⟨i0, hi0, hz0, hz1, hz2⟩ := info_parts infoOpt
  have hr : ∀ ty, (Builtin.append_ #[55, 55] ty #[.slice none 0 0, .slice none 0 0]).run Tryz.prog w = .ok (.slice none 0 0) w :=
    fun ty => run_append_nothing w _ _ _ _ i0 Tryz.underlying55 hi0 none 0 0 (Nat.le_refl _) _ (Src.ofNil w Tryz.underlying55 0)
  go_enter Tryz.func125, Tryz.ntmps125
  go_wp2_with (at_builtin; refine Lib.wpList_append_run _ rfl _ _ _ _ rfl _ _ rfl rfl _ _ (hr _) ?_)
  go_ret
  exact ⟨rfl, rfl⟩

/-- The cell of the options is written as it was. -/
theorem own_again {W : World} {base g n cap : Nat} {L : List Pq} (h : OwnQ W base (.slice (some ⟨g, 0, none⟩) n cap) L) {k : Nat} (hk : k < L.length) :
    OwnQ (W.setCell ⟨g, k * 4 + 2, none⟩ (.slice none 0 0)) base (.slice (some ⟨g, 0, none⟩) n cap) L := by
  rcases h.2 with ⟨h', _⟩ | ⟨g', cap', cur, h', hb, hg, h1, h2, h3, h4⟩
  · simp at h'
  · simp only [Value.slice.injEq, Option.some.injEq, Addr.mk.injEq, and_true] at h'
    obtain ⟨rfl, rfl, rfl⟩ := h'
    have b1 := Joins.block_setCell hg (i := k * 4 + 2) (.slice none 0 0)
    refine ⟨rowQ_length _, Or.inr ⟨g, cap, _, rfl, hb, b1, h1, h2, by simpa using h3, ?_⟩⟩
    have hx := rowQ_get (l := L) (k := k) (x := L[k]) (by simp) 2 (by omega)
    rw [Array.toList_setIfInBounds, List.take_set, h4]
    exact set_self hx

set_option maxHeartbeats 2000000 in
set_option maxRecDepth 100000 in
theorem copyPackets_any (v : Value) (l : List Pq) (w : World) (hv : RdQ w v l) (hl : l.length ≤ 100000) :
    Calls Tryz.prog 126 #[v] w fun e w' => ∃ u, e = .returned u ∧ OwnQ w' w.heap.size u l ∧ Kept (fun _ => False) w w' := by
  obtain ⟨u, w1, hr, ho, hk⟩ := copyQ_run hv hl
  obtain ⟨pu, cu, hpu⟩ := slice_of ho
  subst hpu
  have HO := hid ho
  have HK := hid hk
  have HC := hid copyNone
  clear ho hk hv
  go_enter Tryz.func126, Tryz.ntmps126
  go_wp2_with (at_builtin; refine Lib.wpList_append_run _ rfl _ _ _ _ rfl _ _ rfl rfl _ _ (hr _) ?_)
  clear hr
  go_loopw [3] (fun vi wr => ∃ j : Nat, j ≤ l.length ∧ vi = .int .i64 (j : Int) ∧ Hid (OwnQ wr w.heap.size (.slice pu l.length cu) l ∧ Kept (fun _ => False) w wr)) (fun vi _ => l.length - (intOf vi).toNat)
  case atStart => exact ⟨0, Nat.zero_le _, rfl, HO.out, HK.out⟩
  case round =>
    obtain ⟨j, hj, rfl, HI⟩ := hrel
    clear HO HK
    by_cases hlt : j < l.length
    · have hltz : (j : Int) < (l.length : Int) := by omega
      obtain ⟨x, hx⟩ : ∃ x, l[j]? = some x := ⟨l[j], by simp [hlt]⟩
      obtain ⟨g, rfl, hcap, c0, c1, c2, c3, fz⟩ := HI.out.1.at hx
      have f2 := fz (j * 4 + 2)
      have R : Hid (OwnQ (wr.setCell ⟨g, j * 4 + 2, none⟩ (.slice none 0 0)) w.heap.size (.slice (some ⟨g, 0, none⟩) l.length cu) l ∧ Kept (fun _ => False) w (wr.setCell ⟨g, j * 4 + 2, none⟩ (.slice none 0 0))) :=
        ⟨own_again HI.out.1 hlt, HI.out.2.setCell (p := ⟨g, j * 4 + 2, none⟩) (Or.inl (World.ownsRow.lt HI.out.1 g rfl).1) _⟩
      clear hx fz HI c0 c1 c3
      go_wp2_with fail
      refine (HC.out _).mono ?_
      rintro e w2 ⟨rfl, hw⟩
      rw [hw]
      clear hw w2
      go_wp2
      exact ⟨⟨j + 1, hlt, by go_num, R.out⟩, by simp [intOf]; omega⟩
    · obtain rfl : j = l.length := by omega
      have hltz : ¬ (l.length : Int) < (l.length : Int) := by omega
      go_wp2
      go_ret
      exact ⟨_, rfl, HI.out.1, HI.out.2⟩
end Go.Proofs.YtndpfcanfcbldaaGreatDoor.BPackets
