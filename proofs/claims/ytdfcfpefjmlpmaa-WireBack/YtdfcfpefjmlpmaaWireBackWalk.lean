/- The walk of the law WireBack: for every frame, datagram, ints and string it returns true, and of what was there nothing has turned (each string of at most 2^47 bytes). -/
import Derived.Test.YtdfcfpefjmlpmaaWireBackIn
namespace Go.Proofs.Ytdfcfpefjmlpmaa
open Go.RowKit

theorem nib_digit (m : Nat) (h : m < 16) : nibF (digitF m).toNat = (m, true) := by
  rcases (show m = 0 ∨ m = 1 ∨ m = 2 ∨ m = 3 ∨ m = 4 ∨ m = 5 ∨ m = 6 ∨ m = 7 ∨ m = 8 ∨ m = 9 ∨ m = 10 ∨ m = 11 ∨ m = 12 ∨ m = 13 ∨ m = 14 ∨ m = 15 by omega) with h | h | h | h | h | h | h | h | h | h | h | h | h | h | h | h <;> subst h <;> rfl
theorem unhexG_hexF (l : List UInt8) : unhexG (hexF l) = some l := by
  induction l with
  | nil => rfl
  | cons b l ih =>
    have hb := b.toNat_lt
    have e : hexF (b :: l) = digitF (b.toNat / 16) :: digitF (b.toNat % 16) :: hexF l := by simp [hexF]
    have e2 : b.toNat / 16 * 16 + b.toNat % 16 = b.toNat := by omega
    rw [e, unhexG, nib_digit _ (by omega), nib_digit _ (by omega), ih, e2]
    simp
theorem unhexF_hexF (l : List UInt8) : unhexF (hexF l) = (l, 0) := by
  unfold unhexF
  rw [unhexG_hexF l]

theorem wireBack_out (xs : Array Value) (x : ByteArray) (h13 : xs[13]? = some (.string x)) (f t : Int) (y : ByteArray) (p v n : Int) (m : ByteArray) (hx : x.size ≤ 140737488351232) (hy : y.size ≤ 140737488351232) (hm : m.size ≤ 140737488351232)
    (h : 9000 < x.size + y.size + m.size) (w : World) :
    Calls Try.prog 6 #[.agg xs, .agg #[.int .i64 f, .int .i64 t, .string y], .int .i64 p, .int .i64 v, .int .i64 n, .string m] w fun e w' => e = .returned (.bool true) ∧ Below w.heap.size w w' := by
  have B0 := boxes_new w xs f t y
  have c13 := B0.data h13
  obtain ⟨c0, c1, c2⟩ := B0.cells
  have HB := hide B0
  clear B0 h13
  go_enter Try.func6, Try.ntmps6
  go_wp2_with (go_at_call 8; refine (alive_any _).mono ?_; rintro e w3 ⟨rfl, hb3⟩)
  go_ret
  exact ⟨rfl, (HB.out.next hb3).2.2.1⟩

theorem byte_self (m : ByteArray) : (⟨m.data.toList.toArray⟩ : ByteArray) = m := by rw [Array.toArray_toList]
theorem eth_one (d s : List UInt8) (ty : Int) (x : ByteArray) : (ethCells d s ty x).toArray.all (·.oneCell') = true := by
  rw [Array.all_eq_true_iff_forall_mem]
  intro u hu
  simp only [List.mem_toArray, ethCells, List.mem_append, Lib.byteCells, List.mem_map, List.mem_cons, List.not_mem_nil, or_false] at hu
  rcases hu with ⟨b, _, rfl⟩ | ⟨b, _, rfl⟩ | rfl | rfl <;> rfl

theorem wireBack_walk (d s : List UInt8) (hd : d.length = 6) (hs : s.length = 6) (ty : Int) (x : ByteArray) (f t : Int) (y : ByteArray) (p v n : Int) (m : ByteArray)
    (hty : (Lit.int .i64 ty).wf = true) (hx : x.size ≤ 140737488351232) (hf : (Lit.int .i64 f).wf = true) (ht : (Lit.int .i64 t).wf = true) (hy : y.size ≤ 140737488351232) (hn : -9223372036854775808 ≤ n) (hm : m.size ≤ 140737488351232) (w : World) :
    Calls Try.prog 6 #[.agg (ethCells d s ty x).toArray, .agg #[.int .i64 f, .int .i64 t, .string y], .int .i64 p, .int .i64 v, .int .i64 n, .string m] w fun e w' => e = .returned (.bool true) ∧ Below w.heap.size w w' := by
  have h13 : (ethCells d s ty x).toArray[13]? = some (.string x) := by rw [List.getElem?_toArray]; exact eth_data d s ty x hd hs
  have hxs : (ethCells d s ty x).toArray.size = 14 := by simp [ethCells, Lib.byteCells, hd, hs]
  by_cases hl : 9000 < x.size + y.size + m.size
  · exact wireBack_out _ x h13 f t y p v n m hx hy hm hl w
  have hmx : (20000 : Nat) ≤ maxLen := by decide
  refine wireBack_in _ hxs (eth_one d s ty x) x h13 f t y p v n m (by omega) (eth_same d s hd hs ty hty x (by omega)) (gram_same f t hf ht y (by omega))
    _ _ (put_any v n hn) ?_ _ _ (putEther_any d s hd hs ty x) ?_ _ _ (putPpp_any p m hm) ?_ _ _ (putGram_any f t y hy) ?_ _ (hex_any m (by omega)) ?_ _ (seal_any m (by omega)) ?_ w
  · by_cases h0 : (putF v n).2 = 0
    · right
      obtain ⟨a, k, rfl, rfl, h1, h4, ha, e1, e2⟩ := back_put m.data.toList v n h0
      have hsz : (⟨(putF (a : Int) (k : Int)).1.toArray⟩ : ByteArray).size = k := by rw [Lib.size_eq, e1]; exact low_length _ _
      refine ⟨by rw [h0]; rfl, by rw [hsz], by omega, fun w => ?_⟩
      have hg := get_any (m ++ ⟨(putF (a : Int) (k : Int)).1.toArray⟩ ++ m) (by rw [ByteArray.size_append, ByteArray.size_append]; omega) (m.size : Int) (k : Int) w
      have e3 : (m ++ ⟨(putF (a : Int) (k : Int)).1.toArray⟩ ++ m).data.toList = m.data.toList ++ low a k ++ m.data.toList := by simp [e1]
      rw [e3, Lib.size_eq, e2] at hg
      rw [Lib.size_eq]
      exact hg
    · left
      simpa using h0
  · by_cases h0 : (putEtherF d s ty x.data.toList).2 = 0
    · right
      obtain ⟨a, rfl, e1⟩ := back_ether d s hd hs ty x.data.toList h0
      refine ⟨by rw [h0]; rfl, fun w => ?_⟩
      have hg := getEther_any ⟨(putEtherF d s (a : Int) x.data.toList).1.toArray⟩ w
      rw [e1] at hg
      simpa only [ethV, byte_self] using hg
    · left
      simpa using h0
  · by_cases h0 : (putPppF p m.data.toList).2 = 0
    · right
      obtain ⟨a, rfl, e1⟩ := back_ppp p m.data.toList h0
      refine ⟨by rw [h0]; rfl, fun w => ?_⟩
      have hsz : (⟨(putPppF (a : Int) m.data.toList).1.toArray⟩ : ByteArray).size ≤ maxLen := by
        have hb : (putPppF (a : Int) m.data.toList).1.length ≤ m.size + 2 := by
          rw [Lib.size_eq]
          unfold putPppF
          split
          · split
            · simp
            · simp [low_length]
              omega
          · simp
        rw [Lib.size_eq]
        show (putPppF (a : Int) m.data.toList).1.length ≤ maxLen
        have : (9002 : Nat) ≤ maxLen := by decide
        omega
      have hg := getPpp_any ⟨(putPppF (a : Int) m.data.toList).1.toArray⟩ hsz w
      rw [e1] at hg
      simpa only [byte_self] using hg
    · left
      simpa using h0
  · by_cases h0 : (putGramF f t y.data.toList).2 = 0
    · right
      obtain ⟨a, b, rfl, rfl, e1⟩ := back_gram f t y.data.toList h0
      refine ⟨by rw [h0]; rfl, fun w => ?_⟩
      have hsz : (⟨(putGramF (a : Int) (b : Int) y.data.toList).1.toArray⟩ : ByteArray).size ≤ 140737488351232 := by
        have hb : (putGramF (a : Int) (b : Int) y.data.toList).1.length ≤ y.size + 8 := by
          rw [Lib.size_eq]
          unfold putGramF
          split
          · split
            · simp
            · simp [sealF, gramF, low_length]
              omega
          · simp
        rw [Lib.size_eq]
        show (putGramF (a : Int) (b : Int) y.data.toList).1.length ≤ 140737488351232
        omega
      have hg := getGram_any ⟨(putGramF (a : Int) (b : Int) y.data.toList).1.toArray⟩ hsz w
      rw [e1] at hg
      simpa only [gramV, byte_self] using hg
    · left
      simpa using h0
  · intro w
    have hsz : (⟨(hexF m.data.toList).toArray⟩ : ByteArray).size ≤ 1099511627776 := by
      rw [Lib.size_eq]
      show (hexF m.data.toList).length ≤ 1099511627776
      rw [hexF_length, ← Lib.size_eq]
      omega
    have hg := unhex_any ⟨(hexF m.data.toList).toArray⟩ hsz w
    rw [unhexF_hexF] at hg
    simpa only [byte_self] using hg
  · intro w
    have hsz : (⟨(sealF m.data.toList).toArray⟩ : ByteArray).size ≤ 140737488351232 := by
      rw [Lib.size_eq]
      show (sealF m.data.toList).length ≤ 140737488351232
      have e : (sealF m.data.toList).length = m.size + 2 := by rw [Lib.size_eq]; simp [sealF]
      omega
    have hg := unseal_any ⟨(sealF m.data.toList).toArray⟩ hsz w
    rw [unseal_seal] at hg
    simpa only [byte_self] using hg
end Go.Proofs.Ytdfcfpefjmlpmaa
