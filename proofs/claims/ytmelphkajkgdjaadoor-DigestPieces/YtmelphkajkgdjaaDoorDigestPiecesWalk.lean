/- The walk of the law DigestPieces: for every kind, secret, vector and two texts it returns true (each string of at most 2^47 bytes), where the two tables hold what the program's text lays. -/
import Derived.Test.YtmelphkajkgdjaaDoorAlive2
import Derived.Test.YtmelphkajkgdjaaDoorMask
import Derived.OpenShut
import Derived.Deep.RegionHeld3
namespace Go.Proofs.YtmelphkajkgdjaaDoor
open Go.RowKit

/-- The tables, and nothing turned of what was there. -/
def SD (w W : World) : Prop := Tables W ∧ Below w.heap.size w W
theorem SD.next {w W W' : World} (h : SD w W) (hb : Below W.heap.size W W') : SD w W' := ⟨h.1.next hb, h.2.trans (hb.mono h.2.size)⟩
theorem SD.call {w W : World} {f : Nat} {args : Array Value} {v : Value} (h : SD w W) (hc : ∀ W, Tables W → Calls Tryd.prog f args W fun e w' => e = .returned v ∧ Below W.heap.size W w') : Calls Tryd.prog f args W fun e w' => e = .returned v ∧ SD w w' :=
  (hc W h.1).mono fun _ _ ⟨he, hb⟩ => ⟨he, h.next hb⟩

set_option maxHeartbeats 2000000 in
theorem digestPieces_out (k : Int) (s c a b : ByteArray) (hs : s.size ≤ 140737488351232) (hc : c.size ≤ 140737488351232) (ha : a.size ≤ 140737488351232) (hb : b.size ≤ 140737488351232) (w : World) (hT : Tables w)
    (h : 2000 < s.size + c.size + a.size + b.size ∨ (s.size + c.size + a.size + b.size ≤ 2000 ∧ a.size < 16)) :
    Calls Tryd.prog 8 #[.int .i64 k, .string s, .string c, .string a, .string b] w fun e w' => e = .returned (.bool true) ∧ Below w.heap.size w w' := by
  have HT := hide hT
  clear hT
  rcases h with h | ⟨h, h1⟩
  all_goals
    go_enter Tryd.func8, Tryd.ntmps8
    go_wp2_with (go_at_call 9; refine (alive_any _ HT.out).mono ?_; rintro e w3 ⟨rfl, hb3⟩)
    go_ret
    exact ⟨rfl, by assumption⟩

set_option maxHeartbeats 2000000 in
theorem digestPieces_in (k : Int) (s c a b X Y U V p q : ByteArray) (h : s.size + c.size + a.size + b.size ≤ 2000) (h16 : 16 ≤ a.size) (hX : X.size = a.size) (hY : Y.size = 16 + b.size) (hU : U.size = 16 + b.size) (hV : V.size = a.size)
    (hX1 : X.extract 0 16 = p) (hY1 : Y.extract 0 16 = p) (hU1 : U.extract 0 16 = q) (hV1 : V.extract 0 16 = q)
    (H1 : ∀ W, Tables W → Calls Tryd.prog 19 #[.int .i64 k, .string s, .string c, .string a] W fun e w' => e = .returned (.string X) ∧ Below W.heap.size W w')
    (H2 : ∀ W, Tables W → Calls Tryd.prog 19 #[.int .i64 k, .string s, .string c, .string (a.extract 0 16 ++ b)] W fun e w' => e = .returned (.string Y) ∧ Below W.heap.size W w')
    (H3 : ∀ W, Tables W → Calls Tryd.prog 21 #[.int .i64 k, .string s, .string c, .string (a.extract 0 16 ++ b)] W fun e w' => e = .returned (.string U) ∧ Below W.heap.size W w')
    (H4 : ∀ W, Tables W → Calls Tryd.prog 21 #[.int .i64 k, .string s, .string c, .string a] W fun e w' => e = .returned (.string V) ∧ Below W.heap.size W w')
    (w : World) (hT : Tables w) :
    Calls Tryd.prog 8 #[.int .i64 k, .string s, .string c, .string a, .string b] w fun e w' => e = .returned (.bool true) ∧ Below w.heap.size w w' := by
  have H1 := hide H1
  have H2 := hide H2
  have H3 := hide H3
  have H4 := hide H4
  have hS0 : SD w w := ⟨hT, Below.refl _ _⟩
  have i1 := first_at a 16 h16 16 rfl
  have i2 := first_at X 16 (by omega) 16 rfl
  have i3 := first_at Y 16 (by omega) 16 rfl
  have i4 := first_at U 16 (by omega) 16 rfl
  have i5 := first_at V 16 (by omega) 16 rfl
  have he : (a.extract 0 16).size = 16 := by rw [ByteArray.size_extract]; omega
  rw [hX1] at i2
  rw [hY1] at i3
  rw [hU1] at i4
  rw [hV1] at i5
  clear hT hX1 hY1 hU1 hV1
  go_enter Tryd.func8, Tryd.ntmps8
  go_wp2_with fail
  refine (SD.call hS0 H1.out).mono ?_
  rintro e w1 ⟨rfl, hS1⟩
  go_wp2_with fail
  refine (SD.call hS1 H2.out).mono ?_
  rintro e w2 ⟨rfl, hS2⟩
  go_wp2_with fail
  refine (SD.call hS2 H3.out).mono ?_
  rintro e w3 ⟨rfl, hS3⟩
  go_wp2_with fail
  refine (SD.call hS3 H4.out).mono ?_
  rintro e w4 ⟨rfl, hS4⟩
  have hS5 : SD w w4.drew := hS4.next (Below.refl _ _).drew
  clear hS0 hS1 hS2 hS3
  go_wp2
  go_region_held3 (SD w) (assumption) (first
    | (go_at_call 9; refine (SD.call (by assumption) alive_any).mono ?_; rintro e w5 ⟨rfl, hb5⟩))
  go_wp2
  go_ret
  exact ⟨rfl, hb5.2⟩

theorem digestPieces_walk (k : Int) (s c a b : ByteArray) (_wk : (Lit.int .i64 k).wf = true) (hs : s.size ≤ 140737488351232) (hc : c.size ≤ 140737488351232) (ha : a.size ≤ 140737488351232) (hb : b.size ≤ 140737488351232) (w : World) (hT : Tables w) :
    Calls Tryd.prog 8 #[.int .i64 k, .string s, .string c, .string a, .string b] w fun e w' => e = .returned (.bool true) ∧ Below w.heap.size w w' := by
  by_cases h1 : 2000 < s.size + c.size + a.size + b.size
  · exact digestPieces_out k s c a b hs hc ha hb w hT (Or.inl h1)
  by_cases h2 : a.size < 16
  · exact digestPieces_out k s c a b hs hc ha hb w hT (Or.inr ⟨by omega, h2⟩)
  have hf := firstF_length k s.data.toList c.data.toList
  have hla : a.data.toList.length = a.size := (Lib.size_eq a).symm
  have hlb : b.data.toList.length = b.size := (Lib.size_eq b).symm
  have ed : (a.extract 0 16 ++ b).data.toList = a.data.toList.take 16 ++ b.data.toList := by
    simp only [ByteArray.data_append, Array.toList_append, Lib.extract_data]
    simp
  have hl2 : (a.data.toList.take 16 ++ b.data.toList).length = 16 + b.size := by rw [List.length_append, List.length_take, hla, hlb]; omega
  have ht : (a.data.toList.take 16 ++ b.data.toList).take 16 = a.data.toList.take 16 := by
    rw [List.take_append_of_le_length (by rw [List.length_take, hla]; omega), List.take_take, Nat.min_self]
  have cut : ∀ l : List UInt8, (⟨l.toArray⟩ : ByteArray).extract 0 16 = ⟨(l.take 16).toArray⟩ := fun l => by
    apply ByteArray.ext
    apply Array.toList_inj.1
    rw [Lib.extract_data]
    simp
  have sz : ∀ l : List UInt8, (⟨l.toArray⟩ : ByteArray).size = l.length := fun l => Lib.size_eq _
  have hsz : (a.extract 0 16 ++ b).size ≤ 1099511627776 := by rw [ByteArray.size_append, ByteArray.size_extract]; omega
  have m1 := fun W hT => mask_any k s c a (by omega) (by omega) (by omega) W hT
  have m2 := fun W hT => mask_any k s c (a.extract 0 16 ++ b) (by omega) (by omega) hsz W hT
  have m3 := fun W hT => unmask_any k s c (a.extract 0 16 ++ b) (by omega) (by omega) hsz W hT
  have m4 := fun W hT => unmask_any k s c a (by omega) (by omega) (by omega) W hT
  rw [ed] at m2 m3
  refine digestPieces_in k s c a b _ _ _ _ ⟨(xorL (a.data.toList.take 16) (firstF k s.data.toList c.data.toList)).toArray⟩ ⟨(xorL (a.data.toList.take 16) (firstF k s.data.toList c.data.toList)).toArray⟩ (by omega) (by omega) ?_ ?_ ?_ ?_ ?_ ?_ ?_ ?_ m1 m2 m3 m4 w hT
  · rw [sz, maskF_length _ _ _ _ hf, hla]
  · rw [sz, maskF_length _ _ _ _ hf, hl2]
  · rw [sz, maskF_length _ _ _ _ hf, hl2]
  · rw [sz, maskF_length _ _ _ _ hf, hla]
  · rw [cut, mask_first _ _ _ _ hf (by omega)]
  · rw [cut, mask_first _ _ _ _ hf (by omega), ht]
  · rw [cut, mask_first _ _ _ _ hf (by omega), ht]
  · rw [cut, mask_first _ _ _ _ hf (by omega)]
end Go.Proofs.YtmelphkajkgdjaaDoor
