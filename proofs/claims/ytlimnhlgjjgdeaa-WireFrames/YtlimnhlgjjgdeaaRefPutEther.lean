/- The contract of the document's own PutEther: a frame in bytes, or the error; for every frame. -/
import Derived.Test.YtlimnhlgjjgdeaaRefPpp
import Derived.Test.YtlimnhlgjjgdeaaPutEther
namespace Go.Proofs.Ytlimnhlgjjgdeaa
open Go.RowKit

set_option maxHeartbeats 1000000 in
theorem refPutEther_no (cs : List Value) (ty : Int) (h12 : cs[12]? = some (.int .i64 ty)) (h : wordB ty = false) (w : World) :
    Calls Try.prog 6 #[.agg cs.toArray] w fun e w' => e = .returned (.tuple #[.string ⟨#[]⟩, .int .i64 1]) ∧ Below w.heap.size w w' := by
  have c12 := holds14_new w 25 cs 12 _ h12
  have hr : ty < 0 ∨ (0 ≤ ty ∧ 65535 < ty) := by
    have h2 : ¬ (0 ≤ ty ∧ ty ≤ 65535) := by simpa [wordB] using h
    omega
  clear h h12
  generalize cs.toArray = xs at c12
  rcases hr with h | ⟨h0, h⟩
  all_goals
    go_enter Try.func6, Try.ntmps6
    go_wp2
    go_ret2
    exact ⟨rfl, (Below.refl _ _).alloc (Nat.le_refl _) _⟩

set_option maxHeartbeats 1000000 in
theorem refPutEther_long (cs : List Value) (ty : Int) (x : ByteArray) (h12 : cs[12]? = some (.int .i64 ty)) (h13 : cs[13]? = some (.string x)) (h : wordB ty = true) (hl : 1500 < x.size) (w : World) :
    Calls Try.prog 6 #[.agg cs.toArray] w fun e w' => e = .returned (.tuple #[.string ⟨#[]⟩, .int .i64 2]) ∧ Below w.heap.size w w' := by
  have c12 := holds14_new w 25 cs 12 _ h12
  have c13 := holds14_new w 25 cs 13 _ h13
  have hr : 0 ≤ ty ∧ ty ≤ 65535 := by simpa [wordB] using h
  obtain ⟨hr0, hr1⟩ := hr
  clear h h12 h13
  generalize cs.toArray = xs at c12 c13
  go_enter Try.func6, Try.ntmps6
  go_wp2
  go_ret2
  exact ⟨rfl, (Below.refl _ _).alloc (Nat.le_refl _) _⟩

/-- The frame's own box, and nothing turned of what was there. -/
def SE (w : World) (cs : List Value) (W : World) : Prop := Holds14 W w.heap.size cs ∧ Below w.heap.size w W ∧ w.heap.size < W.heap.size
theorem se_next {w W W' : World} {cs : List Value} (h : SE w cs W) (hb : Below W.heap.size W W') : SE w cs W' :=
  ⟨h.1.carry hb h.2.2, h.2.1.trans (hb.mono (Nat.le_of_lt h.2.2)), Nat.lt_of_lt_of_le h.2.2 hb.size⟩
theorem se_new (w : World) (cs : List Value) : SE w cs (w.alloc (.cells cs.toArray 25)) := ⟨holds14_new w 25 cs, (Below.refl _ _).alloc (Nat.le_refl _) _, by simp⟩
theorem se_call {w W : World} {cs : List Value} {g : Nat} {args : Array Value} {v : Value} (h : SE w cs W) (hc : ∀ W, Calls Try.prog g args W fun e w' => e = .returned v ∧ Below W.heap.size W w') : Calls Try.prog g args W fun e w' => e = .returned v ∧ SE w cs w' :=
  (hc W).mono fun _ _ ⟨he, hb⟩ => ⟨he, se_next h hb⟩
theorem se_conv {w W : World} {cs : List Value} (h : SE w cs W) (o : Nat) (l : List UInt8) (hl : l.length = 6) (hc : ∀ i, i < 6 → cs[o + i]? = some (.int .u8 ((l.getD i 0).toNat : Int))) :
    (convert 47 9 (.slice (some ⟨w.heap.size, o, none⟩) 6 6)).run Try.prog W = .ok (.string ⟨l.toArray⟩) W := by
  have hb := run_convert_bytes_arg (P := Try.prog) W 47 5 Try.underlying47 Try.underlying5 w.heap.size o 6 6 (l.map fun b => (b.toNat : Int)) (by simp [hl]) (fun i hi => by
    rw [h.1 (o + i) _ (hc i hi)]
    simp [List.getElem?_eq_getElem (show i < l.length by omega), List.getD]) 9 Try.underlying9
  rw [hb]
  congr 2
  apply ByteArray.ext
  apply Array.toList_inj.1
  rw [strOfNums_data, List.map_map]
  refine (List.map_congr_left (g := id) ?_).trans (List.map_id l)
  intro x _
  simp

set_option maxHeartbeats 2000000 in
theorem refPutEther_yes (d s : List UInt8) (hd : d.length = 6) (hs : s.length = 6) (a : Nat) (ha : a ≤ 65535) (x : ByteArray) (hx : x.size ≤ 1500) (w : World) :
    Calls Try.prog 6 #[.agg (ethCells d s (a : Int) x).toArray] w fun e w' => e = .returned (.tuple #[.string ⟨(d ++ s ++ low a 2 ++ x.data.toList).toArray⟩, .int .i64 0]) ∧ Below w.heap.size w w' := by
  have h12 := eth_type d s (a : Int) x hd hs
  have h13 := eth_data d s (a : Int) x hd hs
  have hA : ∀ i, i < 6 → (ethCells d s (a : Int) x)[0 + i]? = some (.int .u8 ((d.getD i 0).toNat : Int)) := fun i hi => by
    unfold ethCells
    rw [Nat.zero_add, List.getElem?_append_left (by rw [Lib.byteCells_length]; omega)]
    simp [Lib.byteCells, List.getElem?_eq_getElem (show i < d.length by omega), List.getD]
  have hB : ∀ i, i < 6 → (ethCells d s (a : Int) x)[6 + i]? = some (.int .u8 ((s.getD i 0).toNat : Int)) := fun i hi => by
    unfold ethCells
    rw [List.getElem?_append_right (by rw [Lib.byteCells_length]; omega), Lib.byteCells_length, hd, Nat.add_sub_cancel_left, List.getElem?_append_left (by rw [Lib.byteCells_length]; omega)]
    simp [Lib.byteCells, List.getElem?_eq_getElem (show i < s.length by omega), List.getD]
  obtain ⟨cs, hcs⟩ : ∃ cs, cs = ethCells d s (a : Int) x := ⟨_, rfl⟩
  rw [← hcs] at h12 h13 hA hB ⊢
  have r12 : ∀ W', SE w cs W' → W'.cell? ⟨w.heap.size, 12, none⟩ = some (.int .i64 (a : Int)) := fun W' h => h.1 12 _ h12
  have r13 : ∀ W', SE w cs W' → W'.cell? ⟨w.heap.size, 13, none⟩ = some (.string x) := fun W' h => h.1 13 _ h13
  have rA : ∀ W', SE w cs W' → (convert 47 9 (.slice (some ⟨w.heap.size, 0, none⟩) 6 6)).run Try.prog W' = .ok (.string ⟨d.toArray⟩) W' := fun W' h => se_conv h 0 d hd hA
  have rB : ∀ W', SE w cs W' → (convert 47 9 (.slice (some ⟨w.heap.size, 6, none⟩) 6 6)).run Try.prog W' = .ok (.string ⟨s.toArray⟩) W' := fun W' h => se_conv h 6 s hs hB
  have hT := refTwo_any a ha
  have hR : (⟨(d ++ s ++ low a 2 ++ x.data.toList).toArray⟩ : ByteArray) = ⟨d.toArray⟩ ++ ⟨s.toArray⟩ ++ ⟨(low a 2).toArray⟩ ++ x := by
    apply ByteArray.ext
    apply Array.toList_inj.1
    simp
  have zd : (⟨d.toArray⟩ : ByteArray).size ≤ 6 := by rw [Lib.size_eq]; show d.length ≤ 6; omega
  have zs : (⟨s.toArray⟩ : ByteArray).size ≤ 6 := by rw [Lib.size_eq]; show s.length ≤ 6; omega
  have zl : (⟨(low a 2).toArray⟩ : ByteArray).size ≤ 2 := by rw [Lib.size_eq]; show (low a 2).length ≤ 2; rw [low_length]; exact Nat.le_refl _
  generalize (⟨d.toArray⟩ : ByteArray) = DD at rA hR zd
  generalize (⟨s.toArray⟩ : ByteArray) = SS at rB hR zs
  generalize (⟨(low a 2).toArray⟩ : ByteArray) = LL at hT hR zl
  have HT := hide hT
  have HR := hide hR
  have HS0 := hide (se_new w cs)
  have HS1 := hide (show SE w cs (w.alloc (.cells cs.toArray 25)).drew from se_next (se_new w cs) (Below.refl _ _).drew)
  have c12 := holds14_new w 25 cs 12 _ h12
  have c13 := holds14_new w 25 cs 13 _ h13
  clear hT hR h12 h13 hA hB hcs hd hs
  obtain ⟨xs, hxs⟩ : ∃ xs, xs = cs.toArray := ⟨_, rfl⟩
  rw [← hxs] at c12 c13 HS1 ⊢
  clear hxs
  go_enter Try.func6, Try.ntmps6
  go_wp2
  go_region_held (SE w cs) (first | assumption | exact HS1.out) (first
    | (go_at_call 23; refine (se_call (by assumption) HT.out).mono ?_; rintro e w2 ⟨rfl, hb2⟩))
  all_goals
    go_wp2
    go_ret2
    exact ⟨by rw [HR.out]; rfl, hb2.2.1⟩

theorem refPutEther_any (d s : List UInt8) (hd : d.length = 6) (hs : s.length = 6) (ty : Int) (x : ByteArray) (w : World) :
    Calls Try.prog 6 #[.agg (ethCells d s ty x).toArray] w fun e w' => e = .returned (.tuple #[.string ⟨(putEtherF d s ty x.data.toList).1.toArray⟩, .int .i64 (putEtherF d s ty x.data.toList).2]) ∧ Below w.heap.size w w' := by
  have h12 := eth_type d s ty x hd hs
  have h13 := eth_data d s ty x hd hs
  cases hw : wordB ty with
  | false =>
    have e : putEtherF d s ty x.data.toList = ([], 1) := by unfold putEtherF; rw [hw]; rfl
    rw [e]
    exact refPutEther_no _ ty h12 hw w
  | true =>
    by_cases hl : 1500 < x.size
    · have e : putEtherF d s ty x.data.toList = ([], 2) := by unfold putEtherF; rw [if_pos hw, if_pos (by rw [← Lib.size_eq]; exact hl)]
      rw [e]
      exact refPutEther_long _ ty x h12 h13 hw hl w
    · have hr : 0 ≤ ty ∧ ty ≤ 65535 := by simpa [wordB] using hw
      obtain ⟨a, rfl⟩ := Int.eq_ofNat_of_zero_le hr.1
      have e : putEtherF d s (a : Int) x.data.toList = (d ++ s ++ low a 2 ++ x.data.toList, 0) := by unfold putEtherF; rw [if_pos hw, if_neg (by rw [← Lib.size_eq]; exact hl), Int.toNat_natCast]
      rw [e]
      exact refPutEther_yes d s hd hs a (by omega) x (by omega) w
end Go.Proofs.Ytlimnhlgjjgdeaa
