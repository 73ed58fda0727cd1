/- The walk of the law CookieIs: for every two secrets, two cards, a service and a time it returns true (each string of at most 2^47 bytes), where the two tables hold what the program's text lays. -/
import Derived.Test.YtailkoophlgnbaaDoorCkTwo
import Derived.Deep.DeepCutAuto
namespace Go.Proofs.YtailkoophlgnbaaDoor
open Go.RowKit

/-- What the calls answer, and how the answers hang together. -/
structure IIn (w : World) (m n : List UInt8) (s o v E K M N C1 C2 : ByteArray) (q : Bool) (t e0 : Int) (x0 x1 x2 x3 x4 x5 u0 u1 u2 u3 u4 u5 : Value) (D1 D2 : Array Value) : Prop where
  hs : s.size + o.size + v.size ≤ 1000
  t1 : 0 ≤ t
  t2 : t ≤ 1073741824
  eE : E.size ≤ 4
  eK : K.size ≤ 4
  eM : M.size ≤ 6
  eN : N.size ≤ 6
  six : ∀ W, SJ w m n W → Six W w.heap.size x0 x1 x2 x3 x4 x5
  six2 : ∀ W, SJ w m n W → Six W (w.heap.size + 1) u0 u1 u2 u3 u4 u5
  cm : ∀ W, SJ w m n W → (convert 34 9 (.slice (some ⟨w.heap.size, 0, none⟩) 6 6)).run Tryd.prog W = .ok (.string M) W
  cn : ∀ W, SJ w m n W → (convert 34 9 (.slice (some ⟨w.heap.size + 1, 0, none⟩) 6 6)).run Tryd.prog W = .ok (.string N) W
  first : SJ w m n ((w.alloc (.cells #[x0, x1, x2, x3, x4, x5] 23)).alloc (.cells #[u0, u1, u2, u3, u4, u5] 23))
  al : Ans 7 #[] (.bool true)
  ep : Ans 12 #[.int .i64 t] (.int .i64 e0)
  pe : Ans 14 #[.int .i64 e0, .int .i64 4] (.tuple #[.string E, .int .i64 0])
  pk : Ans 14 #[.int .i64 (v.size : Int), .int .i64 4] (.tuple #[.string K, .int .i64 0])
  mk1 : Ans 8 #[.string s, .agg #[x0, x1, x2, x3, x4, x5], .string v, .int .i64 t] (.string C1)
  mk2 : Ans 8 #[.string o, .agg #[u0, u1, u2, u3, u4, u5], .string v, .int .i64 t] (.string C2)
  md1 : Ans 15 #[.string (⟨#[0, 0, 0, 0]⟩ ++ E ++ M ++ K ++ v ++ s)] (.agg D1)
  md2 : Ans 15 #[.string (⟨#[0, 0, 0, 0]⟩ ++ E ++ N ++ K ++ v ++ o)] (.agg D2)
  tx1 : Ans 16 #[.agg D1] (.string C1)
  tx2 : Ans 16 #[.agg D2] (.string C2)
  z1 : D1.size = 16
  z2 : D2.size = 16
  o1 : D1.all (·.oneCell') = true
  o2 : D2.all (·.oneCell') = true
  hq : (C1.toList == C2.toList) = q
  he : ∀ W, (Op.equalIn 10000 32 (.agg D1) (.agg D2)).run Tryd.prog W = .ok q W

set_option maxHeartbeats 4000000 in
theorem cookieIs_in {w : World} {m n : List UInt8} {s o v E K M N C1 C2 : ByteArray} {q : Bool} {t e0 : Int} {x0 x1 x2 x3 x4 x5 u0 u1 u2 u3 u4 u5 y0 y1 y2 y3 y4 y5 y6 y7 y8 y9 y10 y11 y12 y13 y14 y15 z0 z1 z2 z3 z4 z5 z6 z7 z8 z9 z10 z11 z12 z13 z14 z15 : Value} {D1 D2 : Array Value}
    (I : IIn w m n s o v E K M N C1 C2 q t e0 x0 x1 x2 x3 x4 x5 u0 u1 u2 u3 u4 u5 D1 D2) (k1 : D1 = #[y0, y1, y2, y3, y4, y5, y6, y7, y8, y9, y10, y11, y12, y13, y14, y15]) (k2 : D2 = #[z0, z1, z2, z3, z4, z5, z6, z7, z8, z9, z10, z11, z12, z13, z14, z15]) :
    Calls Tryd.prog 6 #[.string s, .string o, .agg #[x0, x1, x2, x3, x4, x5], .agg #[u0, u1, u2, u3, u4, u5], .string v, .int .i64 t] w fun r w' => r = .returned (.bool true) ∧ Below w.heap.size w w' := by
  have HI := hide I
  have hs := I.hs
  have t1 := I.t1
  have t2 := I.t2
  have eE := I.eE
  have eK := I.eK
  have eM := I.eM
  have eN := I.eN
  have K1 := hide k1
  have K2 := hide k2
  clear I k1 k2
  have h4 : (⟨#[0, 0, 0, 0]⟩ : ByteArray).size = 4 := rfl
  go_enter Tryd.func6, Tryd.ntmps6
  go_wp2_with fail
  refine (SJ.ans HI.out.first HI.out.ep).mono ?_
  rintro e w1 ⟨rfl, hS1, _⟩
  go_wp2_with fail
  refine (SJ.ans hS1 HI.out.pe).mono ?_
  rintro e w2 ⟨rfl, hS2, _⟩
  go_wp2_with fail
  refine (SJ.ans hS2 HI.out.pk).mono ?_
  rintro e w3 ⟨rfl, hS3, _⟩
  obtain ⟨c0, c1, c2, c3, c4, c5⟩ := HI.out.six _ hS3
  go_wp2_with fail
  refine (SJ.ans hS3 HI.out.mk1).mono ?_
  rintro e w4 ⟨rfl, hS4, _⟩
  clear c0 c1 c2 c3 c4 c5
  obtain ⟨c0, c1, c2, c3, c4, c5⟩ := HI.out.six2 _ hS4
  go_wp2_with fail
  refine (SJ.ans hS4 HI.out.mk2).mono ?_
  rintro e w5 ⟨rfl, hS5, _⟩
  clear c0 c1 c2 c3 c4 c5
  have hcv := HI.out.cm _ hS5
  go_wp2_with fail
  refine (SJ.ans hS5 HI.out.md1).mono ?_
  rintro e w6 ⟨rfl, hS6, _⟩
  clear hcv
  have HS6 := hide hS6
  go_upto_region 10 with (refine wpList_store_row rfl 32 _ _ rfl w6.heap.size D1 rfl rfl 32 Z16b (heap_alloc_new w6 _) (by rw [HI.out.z1]; kernel_rfl) (by rw [HI.out.z1]; rfl) HI.out.o1 ?_)
  have hS7 := HS6.out.next (dig_below w6 D1)
  have HD7 := hide (dig_new w6 D1)
  generalize (w6.alloc (.cells Z16b 32)).setRow w6.heap.size D1 = w7 at hS7 HD7
  have hcv := HI.out.cn _ hS7
  go_wp2_with fail
  refine (SJ.ans hS7 HI.out.md2).mono ?_
  rintro e w8 ⟨rfl, hS8, hb8⟩
  have HD8 := hide (HD7.out.next hb8)
  have HS8 := hide hS8
  clear hcv HD7 hb8
  go_upto_region 11 with (refine wpList_store_row rfl 32 _ _ rfl w8.heap.size D2 rfl rfl 32 Z16b (heap_alloc_new w8 _) (by rw [HI.out.z2]; kernel_rfl) (by rw [HI.out.z2]; rfl) HI.out.o2 ?_)
  have hS9 := HS8.out.next (dig_below w8 D2)
  have HD9 := hide (HD8.out.next (dig_below w8 D2))
  have HE9 := hide (dig_new w8 D2)
  generalize (w8.alloc (.cells Z16b 32)).setRow w8.heap.size D2 = w9 at hS9 HD9 HE9
  generalize w8.heap.size = g2 at HE9 ⊢
  generalize w6.heap.size = g1 at HD9 HD8 ⊢
  clear HD8 HS6 HS8
  go_wp2_with fail
  refine (SJ.ans hS9 HI.out.al).mono ?_
  rintro e w10 ⟨rfl, hS10, hb10⟩
  have HD10 := hide (HD9.out.next hb10)
  have HE10 := hide (HE9.out.next hb10)
  clear HD9 HE9 hb10
  have tx1 := HI.out.tx1
  have tx2 := HI.out.tx2
  have he := HI.out.he
  rw [K1.out] at tx1 he HD10
  rw [K2.out] at tx2 he HE10
  have hq := HI.out.hq
  have TX1 := hide tx1
  have TX2 := hide tx2
  clear tx1 tx2
  obtain ⟨p0, p1, p2, p3, p4, p5, p6, p7, p8, p9, p10, p11, p12, p13, p14, p15⟩ := DigAt.cells HD10.out
  go_wp2_with fail
  refine (SJ.ans hS10 TX1.out).mono ?_
  rintro e w11 ⟨rfl, hS11, hb11⟩
  clear p0 p1 p2 p3 p4 p5 p6 p7 p8 p9 p10 p11 p12 p13 p14 p15
  have HD11 := hide (HD10.out.next hb11)
  have HE11 := hide (HE10.out.next hb11)
  clear HD10 HE10 hb11
  obtain ⟨p0, p1, p2, p3, p4, p5, p6, p7, p8, p9, p10, p11, p12, p13, p14, p15⟩ := DigAt.cells HE11.out
  go_wp2_with fail
  refine (SJ.ans hS11 TX2.out).mono ?_
  rintro e w12 ⟨rfl, hS12, hb12⟩
  clear p0 p1 p2 p3 p4 p5 p6 p7 p8 p9 p10 p11 p12 p13 p14 p15
  have HD12 := hide (HD11.out.next hb12)
  have HE12 := hide (HE11.out.next hb12)
  clear HD11 HE11 hb12
  obtain ⟨p0, p1, p2, p3, p4, p5, p6, p7, p8, p9, p10, p11, p12, p13, p14, p15⟩ := DigAt.cells HD12.out
  obtain ⟨r0, r1, r2, r3, r4, r5, r6, r7, r8, r9, r10, r11, r12, r13, r14, r15⟩ := DigAt.cells HE12.out
  go_wp2
  go_ret
  exact ⟨by simp, hS12.bel⟩

set_option maxHeartbeats 1000000 in
theorem cookieIs_out (s o v : ByteArray) (m n : List UInt8) (t : Int) (w : World) (hT : Tables w) (hs : s.size ≤ 140737488351232) (ho : o.size ≤ 140737488351232) (hv : v.size ≤ 140737488351232)
    (h : 1000 < s.size + o.size + v.size ∨ (s.size + o.size + v.size ≤ 1000 ∧ t < 0) ∨ (s.size + o.size + v.size ≤ 1000 ∧ 0 ≤ t ∧ 1073741824 < t)) :
    Calls Tryd.prog 6 #[.string s, .string o, .agg (Lib.byteCells m).toArray, .agg (Lib.byteCells n).toArray, .string v, .int .i64 t] w fun r w' => r = .returned (.bool true) ∧ Below w.heap.size w w' := by
  have HS := hide (SJ.first (m := m) (n := n) hT)
  have HA : Ans 7 #[] (.bool true) := ⟨alive_any⟩
  generalize (Lib.byteCells m).toArray = xs at HS ⊢
  generalize (Lib.byteCells n).toArray = ys at HS ⊢
  clear hT
  rcases h with h | ⟨h, h1⟩ | ⟨h, h1, h2⟩
  all_goals
    go_enter Tryd.func6, Tryd.ntmps6
    go_wp2_with fail
    refine (SJ.ans HS.out HA).mono ?_
    rintro e w2 ⟨rfl, hb2, _⟩
    go_wp2
    go_ret
    exact ⟨rfl, hb2.bel⟩

theorem md5_of (s v : ByteArray) (m : List UInt8) (hm : m.length = 6) (a : Nat) (ha : a < 4294967296) (hs : s.size + v.size ≤ 1000) :
    Ans 15 #[.string (⟨#[0, 0, 0, 0]⟩ ++ ⟨(low a 4).toArray⟩ ++ ⟨m.toArray⟩ ++ ⟨(low v.size 4).toArray⟩ ++ v ++ s)] (.agg (Lib.byteCells (bakeF s.data.toList m v.data.toList (a : Int))).toArray) := by
  refine ⟨fun W hT => ?_⟩
  have e : (⟨#[0, 0, 0, 0]⟩ ++ ⟨(low a 4).toArray⟩ ++ ⟨m.toArray⟩ ++ ⟨(low v.size 4).toArray⟩ ++ v ++ s : ByteArray).data.toList = bakeL s.data.toList m v.data.toList (a : Int) := by
    unfold bakeL
    rw [show ((a : Int) % 18446744073709551616).toNat = a by omega, low_eight a ha, ← Lib.size_eq]
    simp [ByteArray.data_append]
  have h := md5_any (⟨#[0, 0, 0, 0]⟩ ++ ⟨(low a 4).toArray⟩ ++ ⟨m.toArray⟩ ++ ⟨(low v.size 4).toArray⟩ ++ v ++ s) (by
    rw [Lib.size_eq, e]
    simp only [bakeL, List.length_append, low_length, hm, ← Lib.size_eq]
    omega) W hT
  rw [e] at h
  exact h

theorem cookieIs_walk (s o : ByteArray) (m n : List UInt8) (v : ByteArray) (t : Int) (hs : s.size ≤ 140737488351232) (ho : o.size ≤ 140737488351232) (hm : m.length = 6) (hn : n.length = 6) (hv : v.size ≤ 140737488351232) (wt : (Lit.int .i64 t).wf = true) (w : World) (hT : Tables w) :
    Calls Tryd.prog 6 #[.string s, .string o, .agg (Lib.byteCells m).toArray, .agg (Lib.byteCells n).toArray, .string v, .int .i64 t] w fun r w' => r = .returned (.bool true) ∧ Below w.heap.size w w' := by
  obtain ⟨ht1, ht2⟩ := bounds_i64 wt
  by_cases g1 : 1000 < s.size + o.size + v.size
  · exact cookieIs_out s o v m n t w hT hs ho hv (Or.inl g1)
  by_cases g2 : t < 0
  · exact cookieIs_out s o v m n t w hT hs ho hv (Or.inr (Or.inl ⟨by omega, g2⟩))
  by_cases g3 : 1073741824 < t
  · exact cookieIs_out s o v m n t w hT hs ho hv (Or.inr (Or.inr ⟨by omega, by omega, g3⟩))
  have HS := SJ.first (m := m) (n := n) hT
  obtain ⟨a, ha⟩ : ∃ a : Nat, t / 64 = (a : Int) := ⟨(t / 64).toNat, by omega⟩
  have ha2 : a < 4294967296 := by omega
  have M1 := fun W h => make_any s v m hm t (by omega) (by omega) W h
  have M2 := fun W h => make_any o v n hn t (by omega) (by omega) W h
  unfold makeF at M1 M2
  rw [ha] at M1 M2
  have E0 : ∀ W : World, Tables W → Calls Tryd.prog 12 #[.int .i64 t] W fun e w' => e = .returned (.int .i64 (a : Int)) ∧ Below W.heap.size W w' := fun W _ => by rw [← ha]; exact epoch_any t W
  have X1 := md5_of s v m hm a ha2 (by omega)
  have X2 := md5_of o v n hn a ha2 (by omega)
  have l1 := bakeF_length s.data.toList m v.data.toList (a : Int)
  have l2 := bakeF_length o.data.toList n v.data.toList (a : Int)
  obtain ⟨x0, x1, x2, x3, x4, x5, hx⟩ := six hm
  obtain ⟨u0, u1, u2, u3, u4, u5, hu⟩ := six hn
  have hh := fun (W : World) (h : SJ w m n W) => h.one.six hx
  have hh2 := fun (W : World) (h : SJ w m n W) => h.two.six hu
  rw [hx] at M1 HS ⊢
  rw [hu] at M2 HS ⊢
  obtain ⟨y0, y1, y2, y3, y4, y5, y6, y7, y8, y9, y10, y11, y12, y13, y14, y15, hy⟩ := row16 l1
  obtain ⟨z0, z1, z2, z3, z4, z5, z6, z7, z8, z9, z10, z11, z12, z13, z14, z15, hz⟩ := row16 l2
  refine cookieIs_in (I := ⟨by omega, by omega, by omega, ?_, ?_, ?_, ?_, hh, hh2, fun W h => h.one.conv hm, fun W h => h.two.conv hn, HS, ⟨alive_any⟩, ⟨E0⟩, ⟨fun W _ => put_yes a 4 (by decide) (by decide) (by omega) W⟩, ⟨fun W _ => put_yes v.size 4 (by decide) (by decide) (by omega) W⟩, ⟨M1⟩, ⟨M2⟩, X1, X2,
    ⟨fun W _ => text_any _ l1 W⟩, ⟨fun W _ => text_any _ l2 W⟩, ?_, ?_, row16_one rfl, row16_one rfl, rfl, ?_⟩) (k1 := hy) (k2 := hz)
  · rw [Lib.size_eq]; exact Nat.le_of_eq (low_length _ _)
  · rw [Lib.size_eq]; exact Nat.le_of_eq (low_length _ _)
  · rw [Lib.size_eq]; exact Nat.le_of_eq hm
  · rw [Lib.size_eq]; exact Nat.le_of_eq hn
  · rw [List.size_toArray, Lib.byteCells_length, l1]
  · rw [List.size_toArray, Lib.byteCells_length, l2]
  · intro W
    rw [digest_cmp _ _ l1 l2]
    congr 1
    rw [ByteArray.toList_mk, ByteArray.toList_mk, Bool.eq_iff_iff]
    simp
end Go.Proofs.YtailkoophlgnbaaDoor
