/- The contracts of the book's markInts, SameInts and copyInts. -/
import Derived.Test.YtfilfagnljpgcaaGreatAuApp
import Derived.Deep.QuietTactic
import Derived.BigQuiet
namespace Go.Proofs.YtfilfagnljpgcaaGreat
open Go.RowKit

theorem addr_add (g i : Nat) : (⟨g, 0, none⟩ : Addr).add i = ⟨g, i, none⟩ := by
  unfold Addr.add
  split
  · simp_all
  · simp
theorem slice_of {w : World} {base n : Nat} {e : TypeId} {sz : Nat} {v : Value} {xs : List Value} (h : w.ownsRow base e sz v n xs) : ∃ p cap, v = .slice p n cap := by
  rcases h.2 with ⟨rfl, rfl⟩ | ⟨g, cap, cur, rfl, _⟩
  · exact ⟨none, 0, rfl⟩
  · exact ⟨_, cap, rfl⟩
theorem rowI_length (l : List Int) : (intCells l).length = l.length * 1 := by simp [intCells]
theorem rowI_append (a b : List Int) : intCells (a ++ b) = intCells a ++ intCells b := by simp [intCells]

/-- A list that is read. -/
def RdI (w : World) (v : Value) (l : List Int) : Prop := ∃ base, OwnI w base v l
theorem OwnI.tags {w : World} {base : Nat} {v : Value} {l : List Int} (h : OwnI w base v l) : RdI w v l := ⟨base, h⟩

def sameF (l m : List Int) : Bool := decide (l = m)
theorem sameF_self (l : List Int) : sameF l l = true := by simp [sameF]

def markT (i k : Nat) : Int := -1000000 * (i : Int) - (k : Int) - 7
def marksT (i a n : Nat) : List Int := (List.range n).map fun j => markT i (a + j)
theorem marksT_length (i a n : Nat) : (marksT i a n).length = n := by simp [marksT]
theorem marksT_snoc (i a n : Nat) : marksT i a (n + 1) = marksT i a n ++ [markT i (a + n)] := by simp [marksT, List.range_succ]
theorem marksT_append (i a n m : Nat) : marksT i a (n + m) = marksT i a n ++ marksT i (a + n) m := by
  induction m with
  | zero => simp [marksT]
  | succ m ih => rw [← Nat.add_assoc, marksT_snoc, ih, marksT_snoc, List.append_assoc, Nat.add_assoc]
theorem marksT_get {i a n j : Nat} (h : j < n) : (marksT i a n)[j]? = some (markT i (a + j)) := by simp [marksT, h]

/-- 'append' of one int. -/
theorem append_one {w : World} {base : Nat} {v : Value} {a : List Int} {x : Int} (hb : base ≤ w.heap.size) (hown : OwnI w base v a) (hn : a.length ≤ 100000) :
    ∃ v' w', AppI (w.alloc (.cells #[.int .i64 x] 3)) v (.slice (some ⟨w.heap.size, 0, none⟩) 1 1) v' w' ∧ OwnI w' base v' (a ++ [x]) ∧ Kept (fun i => v.ownBlock = some i) w w' := by
  have hk : Kept (fun _ => False) w (w.alloc (.cells #[.int .i64 x] 3)) := (Kept.refl _ w).alloc _
  have h1 := own_new [x] (by simp) w w.heap.size (Nat.le_refl _)
  obtain ⟨v', w', q1, q2, q3, _⟩ := append_ints (Nat.le_trans hb hk.size) (hown.kept0 hk) h1 (by simp; omega)
  exact ⟨v', w', q1, q2, (hk.mono (fun _ _ h => h.elim)).trans q3⟩

set_option maxHeartbeats 2000000 in
set_option maxRecDepth 100000 in
theorem markInts_any (i a n : Nat) (hi : i ≤ 1000) (ha : a ≤ 10000) (hn : n ≤ 10000) (w : World) :
    Calls Tryz.prog 127 #[.int .i64 (i : Int), .int .i64 (a : Int), .int .i64 (n : Int)] w fun e w' => ∃ v, e = .returned v ∧ OwnI w' w.heap.size v (marksT i a n) ∧ Kept (fun _ => False) w w' := by
  go_enter Tryz.func127, Tryz.ntmps127
  go_wp2
  go_loopw [7, 8] (fun v7 vk wr => ∃ j : Nat, j ≤ n ∧ vk = .int .i64 ((a : Int) + (j : Int)) ∧ Hid (OwnI wr w.heap.size v7 (marksT i a j) ∧ Kept (fun _ => False) w wr)) (fun _ vk _ => (a + n) - (intOf vk).toNat)
  case atStart => exact ⟨0, Nat.zero_le _, by simp, OwnI.nil _ _, Kept.refl _ _⟩
  case round =>
    obtain ⟨j, hj, rfl, HI⟩ := hrel
    by_cases hlt : j < n
    · have hltz : (a : Int) + (j : Int) < (a : Int) + (n : Int) := by omega
      obtain ⟨p7, c7, rfl⟩ := HI.out.1.slice
      obtain ⟨v', w2, happ, hown', hk'⟩ := append_one (x := -1000000 * (i : Int) - ((a : Int) + (j : Int)) - 7) HI.out.2.size HI.out.1 (by rw [marksT_length]; omega)
      have R : Hid (OwnI w2 w.heap.size v' (marksT i a (j + 1)) ∧ Kept (fun _ => False) w w2) := by
        refine ⟨?_, HI.out.2.andThen hk' (fun k hk e => by have := (HI.out.1.block e).2; omega)⟩
        rw [marksT_snoc, show markT i (a + j) = -1000000 * (i : Int) - ((a : Int) + (j : Int)) - 7 from by unfold markT; push_cast; omega]
        exact hown'
      have hm1 : IntKind.i64.wrap (-1000000 * (i : Int)) = -1000000 * (i : Int) := by rw [IntKind.wrap_i64]; omega
      have hm2 : IntKind.i64.wrap (-1000000 * (i : Int) - ((a : Int) + (j : Int))) = -1000000 * (i : Int) - ((a : Int) + (j : Int)) := by rw [IntKind.wrap_i64]; omega
      clear hown' hk' HI
      go_wp2_with (at_builtin; refine Lib.wpList_append_run _ rfl _ _ _ _ rfl _ _ rfl rfl _ _ (happ _) ?_)
      exact ⟨⟨j + 1, hlt, by go_num, R.out⟩, by simp [intOf]; omega⟩
    · obtain rfl : j = n := by omega
      have hltz : ¬ (a : Int) + (j : Int) < (a : Int) + (j : Int) := by omega
      go_wp2
      go_ret
      exact ⟨_, rfl, HI.out.1, HI.out.2⟩

theorem take_next {l : List Int} {j : Nat} {x : Int} (h : l[j]? = some x) : l.take (j + 1) = l.take j ++ [x] := by rw [List.take_add_one, h]; rfl

set_option maxHeartbeats 2000000 in
set_option maxRecDepth 100000 in
theorem sameInts_any (v u : Value) (l m : List Int) (w : World) (hv : RdI w v l) (hu : RdI w u m) (hl : l.length ≤ 1000000) :
    Calls Tryz.prog 7 #[v, u] w fun e w' => e = .returned (.bool (sameF l m)) ∧ Kept (fun _ => False) w w' := by
  obtain ⟨_, hv⟩ := hv
  obtain ⟨_, hu⟩ := hu
  obtain ⟨p, cap, rfl, hc⟩ := hv.form
  obtain ⟨q, cbp, rfl, hd⟩ := hu.form
  by_cases hlen : l.length = m.length
  · have hne : ((l.length : Int) != (m.length : Int)) = false := by simp [hlen]
    have HC := hid hc
    have HD := hid hd
    have HL := hid hlen
    clear hv hu hlen hc hd
    go_enter Tryz.func7, Tryz.ntmps7
    go_wp2
    go_loopw [5] (fun vi wr => ∃ j : Nat, j ≤ l.length ∧ vi = .int .i64 (j : Int) ∧ Hid (l.take j = m.take j) ∧ ∃ q, wr = w.drewN q) (fun vi _ => l.length - (intOf vi).toNat)
    case atStart => exact ⟨0, Nat.zero_le _, rfl, rfl, 0, rfl⟩
    case round =>
      obtain ⟨j, hj, rfl, HI, q, rfl⟩ := hrel
      by_cases hlt : j < l.length
      · have hltz : (j : Int) < (l.length : Int) := by omega
        have hltm : (j : Int) < (m.length : Int) := by have := HL.out; omega
        obtain ⟨x, hx⟩ : ∃ x, l[j]? = some x := ⟨l[j], by simp [hlt]⟩
        obtain ⟨y, hy⟩ : ∃ y, m[j]? = some y := ⟨m[j]'(by have := HL.out; omega), by simp⟩
        obtain ⟨g, rfl, hcap, c0⟩ := HC.out j x hx
        obtain ⟨g2, rfl, hcbp, d0⟩ := HD.out j y hy
        by_cases hxy : x = y
        · have HN : Hid (l.take (j + 1) = m.take (j + 1)) := by
            show _ = _
            rw [take_next hx, take_next hy, HI.out, hxy]
          have e1 : (x == y) = true := by simpa using hxy
          clear hx hy hxy HI
          go_wp2
          go_quiet (fail)
          go_wp2
          exact ⟨⟨j + 1, hlt, by go_num, HN.out, _, rfl⟩, by simp [intOf]; omega⟩
        · have HN : Hid (sameF l m = false) := by
            show _ = _
            unfold sameF
            rw [decide_eq_false_iff_not]
            intro e
            rw [e, hy] at hx
            exact hxy (Option.some.inj hx).symm
          have e1 : (x == y) = false := by simpa using hxy
          clear hx hy hxy HI
          go_wp2
          go_quiet (fail)
          go_wp2
          go_ret
          exact ⟨by rw [HN.out]; rfl, ((Kept.refl _ w).drewN _).drewN _⟩
      · obtain rfl : j = l.length := by omega
        have HN : Hid (sameF l m = true) := by
          have hF := HI.out
          rw [List.take_length, HL.out, List.take_length] at hF
          show _ = _
          rw [hF, sameF_self]
        have hltz : ¬ (l.length : Int) < (l.length : Int) := by omega
        clear HI hlt
        go_wp2
        go_ret
        exact ⟨by rw [HN.out]; rfl, (Kept.refl _ w).drewN _⟩
  · have hne : ((l.length : Int) != (m.length : Int)) = true := by
      rw [bne_iff_ne]
      omega
    have HN : Hid (sameF l m = false) := by
      show _ = _
      unfold sameF
      rw [decide_eq_false_iff_not]
      intro e
      rw [e] at hlen
      exact hlen rfl
    clear hv hu hlen hc hd
    go_enter Tryz.func7, Tryz.ntmps7
    go_wp2
    go_ret
    exact ⟨by rw [HN.out]; rfl, Kept.refl _ _⟩

set_option maxHeartbeats 1000000 in
set_option maxRecDepth 100000 in
theorem copyInts_any (v : Value) (l : List Int) (w : World) (hv : RdI w v l) (hl : l.length ≤ 100000) :
    Calls Tryz.prog 23 #[v] w fun e w' => ∃ u, e = .returned u ∧ OwnI w' w.heap.size u l ∧ Kept (fun _ => False) w w' := by
  obtain ⟨_, hv⟩ := hv
  obtain ⟨u, w1, hr, ho, hk, _⟩ := append_ints (Nat.le_refl _) (OwnI.nil w w.heap.size) hv (by simp; omega)
  rw [List.nil_append] at ho
  have HO := hid ho
  have HK : Hid (Kept (fun _ => False) w w1) := hk.mono (fun _ _ e => by cases e)
  clear ho hk hv
  go_enter Tryz.func23, Tryz.ntmps23
  go_wp2_with (at_builtin; refine Lib.wpList_append_run _ rfl _ _ _ _ rfl _ _ rfl rfl _ _ (hr _) ?_)
  go_ret
  exact ⟨_, rfl, HO.out, HK.out⟩
end Go.Proofs.YtfilfagnljpgcaaGreat
