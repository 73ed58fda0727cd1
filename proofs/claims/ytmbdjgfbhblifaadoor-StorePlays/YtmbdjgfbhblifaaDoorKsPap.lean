/- The contract of the program's store's Pap. -/
import Derived.Test.YtmbdjgfbhblifaaDoorKsJudge
namespace Go.Proofs.YtmbdjgfbhblifaaDoor
open Go.RowKit

/-- The secret is the one that is known. -/
def goodS (x : ByteArray) (y : ByteArray) : Bool := y.toList == x.toList
theorem goodS_eq (x y : ByteArray) : goodS x y = decide (x.data.toList = y.data.toList) := by
  unfold goodS
  rw [Bool.eq_iff_iff, beq_iff_eq, decide_eq_true_iff]
  constructor
  · intro h
    rw [LastIndex.eq_of_toList h]
  · intro h
    rw [bytes_ext h]

set_option maxHeartbeats 1000000 in
set_option maxRecDepth 100000 in
theorem papFn_any (bx : Nat) (x y : ByteArray) (hx : x.size ≤ 1000000) (W : World) (hb : W.cell? ⟨bx, 0, none⟩ = some (.string x)) :
    Calls Tryd.prog 23 #[.string y, .pointer (some ⟨bx, 0, none⟩)] W fun e w' => e = .returned (.bool (goodS x y)) ∧ Kept (fun _ => False) W w' := by
  have HS := hid (fun V => same_any x y (by unfold maxLen; omega) V)
  rw [← goodS_eq x y] at HS
  generalize goodS x y = g at *
  go_enter Tryd.func23, Tryd.ntmps23
  go_wp2_with fail
  refine (HS.out _).mono ?_
  rintro e w1 ⟨rfl, hk⟩
  have K1 : Kept (fun _ => False) W w1 := Kept.of_below hk (fun i h3 h4 => by omega)
  clear hk
  go_wp2
  go_ret
  exact ⟨rfl, K1⟩

section
variable {w : World} {base b : Nat} {m : Option Nat} {limit calm : Int} {A : Ab}
set_option maxHeartbeats 1000000 in
set_option maxRecDepth 100000 in
theorem pap_any (h : KsIn w base b m limit calm A) (hc : 0 ≤ calm ∧ calm ≤ 1000000) (hA : FewA A) (s x : ByteArray) (hs : s.size ≤ 1000000) (hx : x.size ≤ 1000000) (time : Int) (ht : In64 time) :
    Calls Tryd.prog 10 #[.pointer (some ⟨b, 0, none⟩), .string s, .string x, .int .i64 time] w fun e w' => e = .returned (.int .i64 (tryP limit calm A s (goodS x) time).1) ∧ KsAt w' base b limit calm (tryP limit calm A s (goodS x) time).2 ∧ KsK base b w w' := by
  have K1 := hid ((Kept.refl (fun _ => False) w).alloc (.cells #[.string x] 9))
  have B1 : Hid ((w.alloc (.cells #[.string x] 9)).heap[w.heap.size]? = some (.cells #[.string x] 9 (0, 0))) := heap_alloc_new w _
  have HJ : Hid _ := hid (judge_pap (h.kept0 K1.out) hc hA s hs time ht w.heap.size (goodS x) (fun W y hy hk => papFn_any w.heap.size x y hx W (by
    have hlt := (Array.getElem?_eq_some_iff.1 B1.out).1
    have e1 := (hk.block _ hlt id).trans B1.out
    simp [World.cell?, e1])))
  clear h hA
  generalize tryP limit calm A s (goodS x) time = R at *
  go_enter Tryd.func10, Tryd.ntmps10
  go_wp2_with fail
  refine HJ.out.mono ?_
  rintro e w1 ⟨rfl, h1, h2⟩
  have H1 := hid h1
  have H2 := hid ((KsK.none K1.out).trans h2)
  clear h1 h2
  go_wp2
  go_ret
  exact ⟨rfl, H1.out, H2.out⟩
end
end Go.Proofs.YtmbdjgfbhblifaaDoor
