/- The walk of the law CookieTells: for every secret, card, service, cookie and time it returns true (each string of at most 2^47 bytes), where the two tables hold what the program's text lays. -/
import Derived.Test.YtailkoophlgnbaaDoorCkAlive
import Derived.Test.YtailkoophlgnbaaDoorCkRef
import Derived.OpenShut
namespace Go.Proofs.YtailkoophlgnbaaDoor
open Go.RowKit

theorem i64_bounds {t : Int} (h : (Lit.int .i64 t).wf = true) : -9223372036854775808 ≤ t ∧ t ≤ 9223372036854775807 := bounds_i64 h

set_option maxHeartbeats 4000000 in
theorem cookieTells_in (s v c X : ByteArray) (q : Bool) (m : List UInt8) (t e0 : Int) (x0 x1 x2 x3 x4 x5 : Value) (w : World) (h : s.size + v.size + c.size ≤ 3000)
    (HS : Hid (SK w w.heap.size m (w.alloc (.cells #[x0, x1, x2, x3, x4, x5] 23))))
    (h0 : ∀ W, SK w w.heap.size m W → W.cell? ⟨w.heap.size, 0, none⟩ = some x0) (h1 : ∀ W, SK w w.heap.size m W → W.cell? ⟨w.heap.size, 1, none⟩ = some x1) (h2 : ∀ W, SK w w.heap.size m W → W.cell? ⟨w.heap.size, 2, none⟩ = some x2)
    (h3 : ∀ W, SK w w.heap.size m W → W.cell? ⟨w.heap.size, 3, none⟩ = some x3) (h4 : ∀ W, SK w w.heap.size m W → W.cell? ⟨w.heap.size, 4, none⟩ = some x4) (h5 : ∀ W, SK w w.heap.size m W → W.cell? ⟨w.heap.size, 5, none⟩ = some x5)
    (HA : Ans 7 #[] (.bool true))
    (H1 : Ans 8 #[.string s, .agg #[x0, x1, x2, x3, x4, x5], .string v, .int .i64 t] (.string X))
    (H2 : Ans 9 #[.string s, .agg #[x0, x1, x2, x3, x4, x5], .string v, .int .i64 t] (.string X))
    (H3 : Ans 10 #[.string s, .agg #[x0, x1, x2, x3, x4, x5], .string v, .string c, .int .i64 t] (.bool q))
    (H4 : Ans 11 #[.string s, .agg #[x0, x1, x2, x3, x4, x5], .string v, .string c, .int .i64 t] (.bool q))
    (H5 : Ans 12 #[.int .i64 t] (.int .i64 e0))
    (H6 : Ans 13 #[.int .i64 t] (.int .i64 e0)) :
    Calls Tryd.prog 3 #[.string s, .agg #[x0, x1, x2, x3, x4, x5], .string v, .string c, .int .i64 t] w fun r w' => r = .returned (.bool true) ∧ Below w.heap.size w w' := by
  go_enter Tryd.func3, Tryd.ntmps3
  go_wp2
  have hS0 : SK w w.heap.size m (w.alloc (.cells #[x0, x1, x2, x3, x4, x5] 23)).drew := HS.out.drew
  go_region_held3 (SK w w.heap.size m) (assumption) ((refine (SK.ans (by assumption) (by assumption)).mono ?_; rintro e w2 ⟨rfl, hb2⟩))
  all_goals
    go_wp2
    go_ret
    exact ⟨rfl, SK.below (by assumption)⟩

set_option maxHeartbeats 1000000 in
theorem cookieTells_out (s v c : ByteArray) (m : List UInt8) (t : Int) (w : World) (hT : Tables w) (hs : s.size ≤ 140737488351232) (hv : v.size ≤ 140737488351232) (hc : c.size ≤ 140737488351232) (h : 3000 < s.size + v.size + c.size) :
    Calls Tryd.prog 3 #[.string s, .agg (Lib.byteCells m).toArray, .string v, .string c, .int .i64 t] w fun r w' => r = .returned (.bool true) ∧ Below w.heap.size w w' := by
  have HS := hide (SK.first (m := m) hT)
  have HA : Ans 7 #[] (.bool true) := ⟨alive_any⟩
  generalize (Lib.byteCells m).toArray = xs at HS ⊢
  clear hT
  go_enter Tryd.func3, Tryd.ntmps3
  go_wp2_with fail
  refine (SK.ans HS.out HA).mono ?_
  rintro e w2 ⟨rfl, hb2⟩
  go_wp2
  go_ret
  exact ⟨rfl, SK.below hb2⟩

theorem cookieTells_walk (s : ByteArray) (m : List UInt8) (v c : ByteArray) (t : Int) (hs : s.size ≤ 140737488351232) (hm : m.length = 6) (hv : v.size ≤ 140737488351232) (hc : c.size ≤ 140737488351232) (wt : (Lit.int .i64 t).wf = true) (w : World) (hT : Tables w) :
    Calls Tryd.prog 3 #[.string s, .agg (Lib.byteCells m).toArray, .string v, .string c, .int .i64 t] w fun r w' => r = .returned (.bool true) ∧ Below w.heap.size w w' := by
  obtain ⟨ht1, ht2⟩ := i64_bounds wt
  by_cases h : 3000 < s.size + v.size + c.size
  · exact cookieTells_out s v c m t w hT hs hv hc h
  have HS := hide (SK.first (m := m) hT)
  have H1 := fun W h => make_any s v m hm t (by omega) (by omega) W h
  have H2 := fun W h => refMake_any s v m hm t ht1 ht2 (by omega) (by omega) W h
  have H3 := fun W h => check_any s v c m hm t ht1 ht2 (by omega) (by omega) (by unfold maxLen; omega) W h
  have H4 := fun W h => refCheck_any s v c m hm t ht1 ht2 (by omega) (by omega) W h
  obtain ⟨x0, x1, x2, x3, x4, x5, hx⟩ := six hm
  have hh := fun (W : World) (h : SK w w.heap.size m W) => h.six hx
  rw [hx] at H1 H2 H3 H4 HS ⊢
  exact cookieTells_in s v c _ _ m t (t / 64) x0 x1 x2 x3 x4 x5 w (by omega) HS (fun W h => (hh W h).c0) (fun W h => (hh W h).c1) (fun W h => (hh W h).c2) (fun W h => (hh W h).c3) (fun W h => (hh W h).c4) (fun W h => (hh W h).c5)
    ⟨alive_any⟩ ⟨H1⟩ ⟨H2⟩ ⟨H3⟩ ⟨H4⟩ ⟨fun W _ => epoch_any t W⟩ ⟨fun W _ => refEpoch_any t W⟩
end Go.Proofs.YtailkoophlgnbaaDoor
