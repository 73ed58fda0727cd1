/- The walk of the law CookieLasts: for every secret, card, service, time and number of ticks it returns true (each string of at most 2^47 bytes), where the two tables hold what the program's text lays. -/
import Derived.Test.YtailkoophlgnbaaDoorCkAlive
import Derived.OpenShut
namespace Go.Proofs.YtailkoophlgnbaaDoor
open Go.RowKit

/-- What the calls answer, and how the answers hang together. -/
structure LIn (w : World) (m : List UInt8) (s v X0 X1 X2 : ByteArray) (q : Bool) (t d e0 e1 : Int) (x0 x1 x2 x3 x4 x5 : Value) : Prop where
  hs : s.size + v.size ≤ 3000
  t1 : -1152921504606846976 ≤ t
  t2 : t ≤ 1152921504606846976
  d1 : 0 ≤ d
  d2 : d ≤ 1125899906842624
  six : ∀ W, SK w w.heap.size m W → Six W w.heap.size x0 x1 x2 x3 x4 x5
  first : SK w w.heap.size m (w.alloc (.cells #[x0, x1, x2, x3, x4, x5] 23))
  al : Ans 7 #[] (.bool true)
  mk0 : Ans 8 #[.string s, .agg #[x0, x1, x2, x3, x4, x5], .string v, .int .i64 t] (.string X0)
  mk1 : Ans 8 #[.string s, .agg #[x0, x1, x2, x3, x4, x5], .string v, .int .i64 (t + d)] (.string X1)
  mk2 : Ans 8 #[.string s, .agg #[x0, x1, x2, x3, x4, x5], .string v, .int .i64 (t + d - 64)] (.string X2)
  ck : Ans 10 #[.string s, .agg #[x0, x1, x2, x3, x4, x5], .string v, .string X0, .int .i64 (t + d)] (.bool q)
  ep0 : Ans 12 #[.int .i64 t] (.int .i64 e0)
  ep1 : Ans 12 #[.int .i64 (t + d)] (.int .i64 e1)
  f1 : -9223372036854775808 ≤ e0
  f2 : e0 ≤ 1152921504606846976

set_option maxHeartbeats 1000000 in
theorem cookieLasts_a {w : World} {m : List UInt8} {s v X0 X1 X2 : ByteArray} {q : Bool} {t d e0 e1 : Int} {x0 x1 x2 x3 x4 x5 : Value} (I : LIn w m s v X0 X1 X2 q t d e0 e1 x0 x1 x2 x3 x4 x5) (hd : d ≤ 64) (hq : q = true) :
    Calls Tryd.prog 4 #[.string s, .agg #[x0, x1, x2, x3, x4, x5], .string v, .int .i64 t, .int .i64 d] w fun r w' => r = .returned (.bool true) ∧ Below w.heap.size w w' := by
  subst hq
  have HI := hide I
  have hs := I.hs
  have t1 := I.t1
  have t2 := I.t2
  have d1 := I.d1
  have d2 := I.d2
  clear I
  go_enter Tryd.func4, Tryd.ntmps4
  obtain ⟨c0, c1, c2, c3, c4, c5⟩ := HI.out.six _ HI.out.first
  go_wp2_with fail
  refine (SK.ans HI.out.first HI.out.mk0).mono ?_
  rintro e w1 ⟨rfl, hS1⟩
  clear c0 c1 c2 c3 c4 c5
  obtain ⟨c0, c1, c2, c3, c4, c5⟩ := HI.out.six _ hS1
  go_wp2_with fail
  refine (SK.ans hS1 HI.out.ck).mono ?_
  rintro e w2 ⟨rfl, hS2⟩
  clear c0 c1 c2 c3 c4 c5
  go_wp2_with fail
  refine (SK.ans hS2 HI.out.al).mono ?_
  rintro e w3 ⟨rfl, hS3⟩
  go_wp2
  go_ret
  exact ⟨rfl, hS3.2.2⟩

set_option maxHeartbeats 1000000 in
theorem cookieLasts_b {w : World} {m : List UInt8} {s v X0 X1 X2 : ByteArray} {q : Bool} {t d e0 e1 : Int} {x0 x1 x2 x3 x4 x5 : Value} (I : LIn w m s v X0 X1 X2 q t d e0 e1 x0 x1 x2 x3 x4 x5) (hd : 128 ≤ d) (hq : q = ((X0.toList == X1.toList) || (X0.toList == X2.toList))) :
    Calls Tryd.prog 4 #[.string s, .agg #[x0, x1, x2, x3, x4, x5], .string v, .int .i64 t, .int .i64 d] w fun r w' => r = .returned (.bool true) ∧ Below w.heap.size w w' := by
  have HI := hide I
  have hs := I.hs
  have t1 := I.t1
  have t2 := I.t2
  have d1 := I.d1
  have d2 := I.d2
  clear I
  cases hb : (X0.toList == X1.toList)
  · rw [hb, Bool.false_or] at hq
    have HQ := hide hq
    clear hq
    go_enter Tryd.func4, Tryd.ntmps4
    obtain ⟨c0, c1, c2, c3, c4, c5⟩ := HI.out.six _ HI.out.first
    go_wp2_with fail
    refine (SK.ans HI.out.first HI.out.mk0).mono ?_
    rintro e w1 ⟨rfl, hS1⟩
    clear c0 c1 c2 c3 c4 c5
    obtain ⟨c0, c1, c2, c3, c4, c5⟩ := HI.out.six _ hS1
    go_wp2_with fail
    refine (SK.ans hS1 HI.out.ck).mono ?_
    rintro e w2 ⟨rfl, hS2⟩
    clear c0 c1 c2 c3 c4 c5
    go_wp2_with fail
    refine (SK.ans hS2 HI.out.al).mono ?_
    rintro e w3 ⟨rfl, hS3⟩
    obtain ⟨c0, c1, c2, c3, c4, c5⟩ := HI.out.six _ hS3
    go_wp2_with fail
    refine (SK.ans hS3 HI.out.mk1).mono ?_
    rintro e w4 ⟨rfl, hS4⟩
    clear c0 c1 c2 c3 c4 c5
    obtain ⟨c0, c1, c2, c3, c4, c5⟩ := HI.out.six _ hS4
    go_wp2_with fail
    refine (SK.ans hS4 HI.out.mk2).mono ?_
    rintro e w5 ⟨rfl, hS5⟩
    clear c0 c1 c2 c3 c4 c5
    go_wp2
    go_ret
    exact ⟨by rw [HQ.out]; simp, hS5.2.2⟩
  · rw [hb, Bool.true_or] at hq
    subst hq
    go_enter Tryd.func4, Tryd.ntmps4
    obtain ⟨c0, c1, c2, c3, c4, c5⟩ := HI.out.six _ HI.out.first
    go_wp2_with fail
    refine (SK.ans HI.out.first HI.out.mk0).mono ?_
    rintro e w1 ⟨rfl, hS1⟩
    clear c0 c1 c2 c3 c4 c5
    obtain ⟨c0, c1, c2, c3, c4, c5⟩ := HI.out.six _ hS1
    go_wp2_with fail
    refine (SK.ans hS1 HI.out.ck).mono ?_
    rintro e w2 ⟨rfl, hS2⟩
    clear c0 c1 c2 c3 c4 c5
    go_wp2_with fail
    refine (SK.ans hS2 HI.out.al).mono ?_
    rintro e w3 ⟨rfl, hS3⟩
    obtain ⟨c0, c1, c2, c3, c4, c5⟩ := HI.out.six _ hS3
    go_wp2_with fail
    refine (SK.ans hS3 HI.out.mk1).mono ?_
    rintro e w4 ⟨rfl, hS4⟩
    clear c0 c1 c2 c3 c4 c5
    go_wp2
    go_ret
    exact ⟨rfl, hS4.2.2⟩

set_option maxHeartbeats 1000000 in
theorem cookieLasts_c {w : World} {m : List UInt8} {s v X0 X1 X2 : ByteArray} {q : Bool} {t d e0 e1 : Int} {x0 x1 x2 x3 x4 x5 : Value} (I : LIn w m s v X0 X1 X2 q t d e0 e1 x0 x1 x2 x3 x4 x5) (hd : 64 < d) (hd2 : d < 128) (he : e1 ≤ e0 + 1) (hq : q = true) :
    Calls Tryd.prog 4 #[.string s, .agg #[x0, x1, x2, x3, x4, x5], .string v, .int .i64 t, .int .i64 d] w fun r w' => r = .returned (.bool true) ∧ Below w.heap.size w w' := by
  subst hq
  have HI := hide I
  have hs := I.hs
  have t1 := I.t1
  have t2 := I.t2
  have d1 := I.d1
  have d2 := I.d2
  have f1 := I.f1
  have f2 := I.f2
  clear I
  go_enter Tryd.func4, Tryd.ntmps4
  obtain ⟨c0, c1, c2, c3, c4, c5⟩ := HI.out.six _ HI.out.first
  go_wp2_with fail
  refine (SK.ans HI.out.first HI.out.mk0).mono ?_
  rintro e w1 ⟨rfl, hS1⟩
  clear c0 c1 c2 c3 c4 c5
  obtain ⟨c0, c1, c2, c3, c4, c5⟩ := HI.out.six _ hS1
  go_wp2_with fail
  refine (SK.ans hS1 HI.out.ck).mono ?_
  rintro e w2 ⟨rfl, hS2⟩
  clear c0 c1 c2 c3 c4 c5
  go_wp2_with fail
  refine (SK.ans hS2 HI.out.al).mono ?_
  rintro e w3 ⟨rfl, hS3⟩
  go_wp2_with fail
  refine (SK.ans hS3 HI.out.ep1).mono ?_
  rintro e w4 ⟨rfl, hS4⟩
  go_wp2_with fail
  refine (SK.ans hS4 HI.out.ep0).mono ?_
  rintro e w5 ⟨rfl, hS5⟩
  go_wp2
  go_ret
  exact ⟨rfl, hS5.2.2⟩

set_option maxHeartbeats 1000000 in
theorem cookieLasts_d {w : World} {m : List UInt8} {s v X0 X1 X2 : ByteArray} {q : Bool} {t d e0 e1 : Int} {x0 x1 x2 x3 x4 x5 : Value} (I : LIn w m s v X0 X1 X2 q t d e0 e1 x0 x1 x2 x3 x4 x5) (hd : 64 < d) (hd2 : d < 128) (he : e0 + 1 < e1) (hq : q = ((X0.toList == X1.toList) || (X0.toList == X2.toList))) :
    Calls Tryd.prog 4 #[.string s, .agg #[x0, x1, x2, x3, x4, x5], .string v, .int .i64 t, .int .i64 d] w fun r w' => r = .returned (.bool true) ∧ Below w.heap.size w w' := by
  have HI := hide I
  have hs := I.hs
  have t1 := I.t1
  have t2 := I.t2
  have d1 := I.d1
  have d2 := I.d2
  have f1 := I.f1
  have f2 := I.f2
  clear I
  cases hb : (X0.toList == X1.toList)
  · rw [hb, Bool.false_or] at hq
    have HQ := hide hq
    clear hq
    go_enter Tryd.func4, Tryd.ntmps4
    obtain ⟨c0, c1, c2, c3, c4, c5⟩ := HI.out.six _ HI.out.first
    go_wp2_with fail
    refine (SK.ans HI.out.first HI.out.mk0).mono ?_
    rintro e w1 ⟨rfl, hS1⟩
    clear c0 c1 c2 c3 c4 c5
    obtain ⟨c0, c1, c2, c3, c4, c5⟩ := HI.out.six _ hS1
    go_wp2_with fail
    refine (SK.ans hS1 HI.out.ck).mono ?_
    rintro e w2 ⟨rfl, hS2⟩
    clear c0 c1 c2 c3 c4 c5
    go_wp2_with fail
    refine (SK.ans hS2 HI.out.al).mono ?_
    rintro e w3 ⟨rfl, hS3⟩
    go_wp2_with fail
    refine (SK.ans hS3 HI.out.ep1).mono ?_
    rintro e w4 ⟨rfl, hS4⟩
    go_wp2_with fail
    refine (SK.ans hS4 HI.out.ep0).mono ?_
    rintro e w5 ⟨rfl, hS5⟩
    obtain ⟨c0, c1, c2, c3, c4, c5⟩ := HI.out.six _ hS5
    go_wp2_with fail
    refine (SK.ans hS5 HI.out.mk1).mono ?_
    rintro e w6 ⟨rfl, hS6⟩
    clear c0 c1 c2 c3 c4 c5
    obtain ⟨c0, c1, c2, c3, c4, c5⟩ := HI.out.six _ hS6
    go_wp2_with fail
    refine (SK.ans hS6 HI.out.mk2).mono ?_
    rintro e w7 ⟨rfl, hS7⟩
    clear c0 c1 c2 c3 c4 c5
    go_wp2
    go_ret
    exact ⟨by rw [HQ.out]; simp; intro h; omega, hS7.2.2⟩
  · rw [hb, Bool.true_or] at hq
    subst hq
    go_enter Tryd.func4, Tryd.ntmps4
    obtain ⟨c0, c1, c2, c3, c4, c5⟩ := HI.out.six _ HI.out.first
    go_wp2_with fail
    refine (SK.ans HI.out.first HI.out.mk0).mono ?_
    rintro e w1 ⟨rfl, hS1⟩
    clear c0 c1 c2 c3 c4 c5
    obtain ⟨c0, c1, c2, c3, c4, c5⟩ := HI.out.six _ hS1
    go_wp2_with fail
    refine (SK.ans hS1 HI.out.ck).mono ?_
    rintro e w2 ⟨rfl, hS2⟩
    clear c0 c1 c2 c3 c4 c5
    go_wp2_with fail
    refine (SK.ans hS2 HI.out.al).mono ?_
    rintro e w3 ⟨rfl, hS3⟩
    go_wp2_with fail
    refine (SK.ans hS3 HI.out.ep1).mono ?_
    rintro e w4 ⟨rfl, hS4⟩
    go_wp2_with fail
    refine (SK.ans hS4 HI.out.ep0).mono ?_
    rintro e w5 ⟨rfl, hS5⟩
    obtain ⟨c0, c1, c2, c3, c4, c5⟩ := HI.out.six _ hS5
    go_wp2_with fail
    refine (SK.ans hS5 HI.out.mk1).mono ?_
    rintro e w6 ⟨rfl, hS6⟩
    clear c0 c1 c2 c3 c4 c5
    go_wp2
    go_ret
    exact ⟨rfl, hS6.2.2⟩

theorem bytes_dec (a b : List UInt8) : ((⟨a.toArray⟩ : ByteArray).toList == (⟨b.toArray⟩ : ByteArray).toList) = decide (a = b) := by
  rw [ByteArray.toList_mk, ByteArray.toList_mk, Bool.eq_iff_iff]
  simp

set_option maxHeartbeats 1000000 in
theorem cookieLasts_out (s v : ByteArray) (m : List UInt8) (t d : Int) (w : World) (hT : Tables w) (hs : s.size ≤ 140737488351232) (hv : v.size ≤ 140737488351232)
    (h : 3000 < s.size + v.size ∨ (s.size + v.size ≤ 3000 ∧ 1152921504606846976 < t) ∨ (s.size + v.size ≤ 3000 ∧ t < -1152921504606846976) ∨ (s.size + v.size ≤ 3000 ∧ -1152921504606846976 ≤ t ∧ t ≤ 1152921504606846976 ∧ d < 0) ∨ (s.size + v.size ≤ 3000 ∧ -1152921504606846976 ≤ t ∧ t ≤ 1152921504606846976 ∧ 1125899906842624 < d)) :
    Calls Tryd.prog 4 #[.string s, .agg (Lib.byteCells m).toArray, .string v, .int .i64 t, .int .i64 d] w fun r w' => r = .returned (.bool true) ∧ Below w.heap.size w w' := by
  have HS := hide (SK.first (m := m) hT)
  have HA : Ans 7 #[] (.bool true) := ⟨alive_any⟩
  generalize (Lib.byteCells m).toArray = xs at HS ⊢
  clear hT
  rcases h with h | ⟨h, h1⟩ | ⟨h, h1⟩ | ⟨h, h1, h2, h3⟩ | ⟨h, h1, h2, h3⟩
  all_goals
    go_enter Tryd.func4, Tryd.ntmps4
    go_wp2_with fail
    refine (SK.ans HS.out HA).mono ?_
    rintro e w2 ⟨rfl, hb2⟩
    go_wp2
    go_ret
    exact ⟨rfl, hb2.2.2⟩

theorem cookieLasts_walk (s : ByteArray) (m : List UInt8) (v : ByteArray) (t d : Int) (hs : s.size ≤ 140737488351232) (hm : m.length = 6) (hv : v.size ≤ 140737488351232) (wt : (Lit.int .i64 t).wf = true) (wd : (Lit.int .i64 d).wf = true) (w : World) (hT : Tables w) :
    Calls Tryd.prog 4 #[.string s, .agg (Lib.byteCells m).toArray, .string v, .int .i64 t, .int .i64 d] w fun r w' => r = .returned (.bool true) ∧ Below w.heap.size w w' := by
  obtain ⟨ht1, ht2⟩ := bounds_i64 wt
  obtain ⟨hd1, hd2⟩ := bounds_i64 wd
  by_cases g1 : 3000 < s.size + v.size
  · exact cookieLasts_out s v m t d w hT hs hv (Or.inl g1)
  by_cases g2 : 1152921504606846976 < t
  · exact cookieLasts_out s v m t d w hT hs hv (Or.inr (Or.inl ⟨by omega, g2⟩))
  by_cases g3 : t < -1152921504606846976
  · exact cookieLasts_out s v m t d w hT hs hv (Or.inr (Or.inr (Or.inl ⟨by omega, g3⟩)))
  by_cases g4 : d < 0
  · exact cookieLasts_out s v m t d w hT hs hv (Or.inr (Or.inr (Or.inr (Or.inl ⟨by omega, by omega, by omega, g4⟩))))
  by_cases g5 : 1125899906842624 < d
  · exact cookieLasts_out s v m t d w hT hs hv (Or.inr (Or.inr (Or.inr (Or.inr ⟨by omega, by omega, by omega, g5⟩))))
  have HS := SK.first (m := m) hT
  have hl : (makeF s.data.toList m v.data.toList t).length = 16 := bakeF_length _ _ _ _
  have M0 := fun W h => make_any s v m hm t (by omega) (by omega) W h
  have M1 := fun W h => make_any s v m hm (t + d) (by omega) (by omega) W h
  have M2 := fun W h => make_any s v m hm (t + d - 64) (by omega) (by omega) W h
  have CK := fun W h => check_any s v ⟨(makeF s.data.toList m v.data.toList t).toArray⟩ m hm (t + d) (by omega) (by omega) (by omega) (by omega) (by rw [Lib.size_eq]; show (makeF s.data.toList m v.data.toList t).length ≤ _; rw [hl]; decide) W h
  have hck : checkF s.data.toList m v.data.toList (makeF s.data.toList m v.data.toList t) (t + d) = (((⟨(makeF s.data.toList m v.data.toList t).toArray⟩ : ByteArray).toList == (⟨(makeF s.data.toList m v.data.toList (t + d)).toArray⟩ : ByteArray).toList) || ((⟨(makeF s.data.toList m v.data.toList t).toArray⟩ : ByteArray).toList == (⟨(makeF s.data.toList m v.data.toList (t + d - 64)).toArray⟩ : ByteArray).toList)) := by
    rw [bytes_dec, bytes_dec]
    unfold checkF makeF
    rw [show (t + d - 64) / 64 = (t + d) / 64 - 1 by omega]
  have hgood : (t + d) / 64 ≤ t / 64 + 1 → checkF s.data.toList m v.data.toList (makeF s.data.toList m v.data.toList t) (t + d) = true := fun h => by
    unfold checkF makeF
    rcases (show (t + d) / 64 = t / 64 ∨ (t + d) / 64 - 1 = t / 64 by omega) with h | h
    · rw [h]; simp
    · rw [h]; simp
  obtain ⟨x0, x1, x2, x3, x4, x5, hx⟩ := six hm
  have hh := fun (W : World) (h : SK w w.heap.size m W) => h.six hx
  rw [hx] at M0 M1 M2 CK HS ⊢
  have I : LIn w m s v ⟨(makeF s.data.toList m v.data.toList t).toArray⟩ ⟨(makeF s.data.toList m v.data.toList (t + d)).toArray⟩ ⟨(makeF s.data.toList m v.data.toList (t + d - 64)).toArray⟩ (checkF s.data.toList m v.data.toList (makeF s.data.toList m v.data.toList t) (t + d)) t d (t / 64) ((t + d) / 64) x0 x1 x2 x3 x4 x5 :=
    ⟨by omega, by omega, by omega, by omega, by omega, hh, HS, ⟨alive_any⟩, ⟨M0⟩, ⟨M1⟩, ⟨M2⟩, ⟨CK⟩, ⟨fun W _ => epoch_any t W⟩, ⟨fun W _ => epoch_any (t + d) W⟩, by omega, by omega⟩
  by_cases k1 : d ≤ 64
  · exact cookieLasts_a I k1 (hgood (by omega))
  by_cases k2 : 128 ≤ d
  · exact cookieLasts_b I k2 hck
  by_cases k3 : (t + d) / 64 ≤ t / 64 + 1
  · exact cookieLasts_c I (by omega) (by omega) k3 (hgood k3)
  · exact cookieLasts_d I (by omega) (by omega) (by omega) hck
end Go.Proofs.YtailkoophlgnbaaDoor
