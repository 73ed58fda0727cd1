/- The walk of the law WireFrames: for every frame, datagram, int and string it returns true, and of what was there nothing has turned (each string of at most 2^47 bytes). -/
import Derived.Test.YtlimnhlgjjgdeaaWireFramesIn
import Derived.Test.YtlimnhlgjjgdeaaRefPutEther
import Derived.Test.YtlimnhlgjjgdeaaRefGetEther
import Derived.Test.YtlimnhlgjjgdeaaRefGetGram
namespace Go.Proofs.Ytlimnhlgjjgdeaa
open Go.RowKit

theorem wireFrames_out (xs : Array Value) (x : ByteArray) (h13 : xs[13]? = some (.string x)) (f t : Int) (y : ByteArray) (p : Int) (m : ByteArray) (hx : x.size ≤ 140737488351232) (hy : y.size ≤ 140737488351232) (hm : m.size ≤ 140737488351232)
    (h : 9000 < x.size + y.size + m.size) (w : World) :
    Calls Try.prog 3 #[.agg xs, .agg #[.int .i64 f, .int .i64 t, .string y], .int .i64 p, .string m] w fun e w' => e = .returned (.bool true) ∧ Below w.heap.size w w' := by
  have B0 := boxes_new w xs f t y
  have c13 := B0.data h13
  obtain ⟨c0, c1, c2⟩ := B0.cells
  have HB := hide B0
  clear B0 h13
  go_enter Try.func3, Try.ntmps3
  go_wp2_with (go_at_call 4; refine (alive_any _).mono ?_; rintro e w3 ⟨rfl, hb3⟩)
  go_ret
  exact ⟨rfl, (HB.out.next hb3).2.2.1⟩

theorem eth_one' (d s : List UInt8) (ty : Int) (x : ByteArray) : (ethCells d s ty x).toArray.all (·.oneCell') = true := by
  rw [Array.all_eq_true_iff_forall_mem]
  intro u hu
  simp only [List.mem_toArray, ethCells, List.mem_append, Lib.byteCells, List.mem_map, List.mem_cons, List.not_mem_nil, or_false] at hu
  rcases hu with ⟨b, _, rfl⟩ | ⟨b, _, rfl⟩ | rfl | rfl <;> rfl
theorem numOf_two (l : List UInt8) (h : l.length ≤ 2) : numOf l < 65536 := by
  match l, h with
  | [], _ => simp [numOf]
  | [a], _ => have := a.toNat_lt; simp [numOf]; omega
  | [a, b], _ => have := a.toNat_lt; have := b.toNat_lt; simp [numOf]; omega
theorem small_wf (n : Nat) (h : n < 65536) : (Lit.int .i64 (n : Int)).wf = true := by
  simp [Lit.wf, IntKind.min, IntKind.max, IntKind.signed, IntKind.bits]
  omega
theorem getEtherF_kind (l : List UInt8) : (getEtherF l).1.1.length = 6 ∧ (getEtherF l).1.2.1.length = 6 ∧ (getEtherF l).1.2.2.1 < 65536 ∧ (getEtherF l).1.2.2.2.length ≤ l.length := by
  unfold getEtherF
  split
  · exact ⟨rfl, rfl, by decide, Nat.zero_le _⟩
  · split
    · exact ⟨rfl, rfl, by decide, Nat.zero_le _⟩
    · refine ⟨by simp; omega, by simp; omega, numOf_two _ (by simp; omega), by simp⟩
theorem getGramF_kind (l : List UInt8) : (getGramF l).1.1 < 65536 ∧ (getGramF l).1.2.1 < 65536 ∧ (getGramF l).1.2.2.length ≤ (unsealF l).1.length := by
  unfold getGramF
  split
  · exact ⟨Nat.zero_lt_succ _, Nat.zero_lt_succ _, Nat.zero_le _⟩
  · split
    · exact ⟨by decide, by decide, Nat.zero_le _⟩
    · split
      · exact ⟨by decide, by decide, Nat.zero_le _⟩
      · split
        · exact ⟨by decide, by decide, Nat.zero_le _⟩
        · exact ⟨numOf_two _ (by simp; omega), numOf_two _ (by simp; omega), by simp⟩
theorem unsealF_len (l : List UInt8) : (unsealF l).1.length ≤ l.length := by
  unfold unsealF
  split
  · exact Nat.zero_le _
  · split
    · simp
    · exact Nat.zero_le _

theorem wireFrames_walk (d s : List UInt8) (hd : d.length = 6) (hs : s.length = 6) (ty : Int) (x : ByteArray) (f t : Int) (y : ByteArray) (p : Int) (m : ByteArray)
    (hx : x.size ≤ 140737488351232) (hy : y.size ≤ 140737488351232) (hm : m.size ≤ 140737488351232) (w : World) :
    Calls Try.prog 3 #[.agg (ethCells d s ty x).toArray, .agg #[.int .i64 f, .int .i64 t, .string y], .int .i64 p, .string m] w fun e w' => e = .returned (.bool true) ∧ Below w.heap.size w w' := by
  have h13 : (ethCells d s ty x).toArray[13]? = some (.string x) := by rw [List.getElem?_toArray]; exact eth_data d s ty x hd hs
  have hxs : (ethCells d s ty x).toArray.size = 14 := by simp [ethCells, Lib.byteCells, hd, hs]
  by_cases hl : 9000 < x.size + y.size + m.size
  · exact wireFrames_out _ x h13 f t y p m hx hy hm hl w
  have hmx : (20000 : Nat) ≤ maxLen := by decide
  obtain ⟨k1, k2, k3, k4⟩ := getEtherF_kind m.data.toList
  obtain ⟨g1, g2, g3⟩ := getGramF_kind m.data.toList
  have hml : m.data.toList.length = m.size := (Lib.size_eq m).symm
  have hu := unsealF_len m.data.toList
  refine wireFrames_in _ hxs x h13 f t y p m (by omega) _ _ (putEther_any d s hd hs ty x) (refPutEther_any d s hd hs ty x)
    _ (by simp [ethCells, Lib.byteCells, k1, k2]) (eth_one' _ _ _ _) (eth_same _ _ k1 k2 _ (small_wf _ k3) _ (by rw [Lib.size_eq]; simp; omega)) _ (getEther_any m) (refGetEther_any m (by omega))
    _ _ (putPpp_any p m hm) (refPutPpp_any p m hm) _ _ _ (getPpp_any m (by omega)) (refGetPpp_any m (by omega))
    _ _ (putGram_any f t y hy) (refPutGram_any f t y hy) _ _ _ _ (getGram_any m hm) (refGetGram_any m (by omega)) (dat_equal _ _ (small_wf _ g1) (small_wf _ g2) _ (by rw [Lib.size_eq]; simp; omega)) w
end Go.Proofs.Ytlimnhlgjjgdeaa
