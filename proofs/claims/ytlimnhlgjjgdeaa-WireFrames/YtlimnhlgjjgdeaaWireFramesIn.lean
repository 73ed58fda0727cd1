/- The walk of the law WireFrames, from what its calls return: it returns true, and of what was there nothing has turned. -/
import Derived.Test.YtlimnhlgjjgdeaaFramesKit
namespace Go.Proofs.Ytlimnhlgjjgdeaa
open Go.RowKit

set_option maxRecDepth 100000 in
set_option maxHeartbeats 8000000 in
theorem wireFrames_in (xs : Array Value) (hxs : xs.size = 14) (x : ByteArray) (h13 : xs[13]? = some (.string x)) (f t : Int) (y : ByteArray) (p : Int) (m : ByteArray) (hl : x.size + y.size + m.size ≤ 9000)
    (s1 : ByteArray) (e1 : Int) (hE : ∀ w, Calls Try.prog 5 #[.agg xs] w fun e w' => e = .returned (.tuple #[.string s1, .int .i64 e1]) ∧ Below w.heap.size w w')
    (hE' : ∀ w, Calls Try.prog 6 #[.agg xs] w fun e w' => e = .returned (.tuple #[.string s1, .int .i64 e1]) ∧ Below w.heap.size w w')
    (D : Array Value) (hDs : D.size = 14) (hD1 : D.all (·.oneCell') = true) (hsame0 : ∀ W, (binOp .neq 25 (.agg D) (.agg D)).run Try.prog W = .ok (.bool false) W)
    (e2 : Int) (hF : ∀ w, Calls Try.prog 7 #[.string m] w fun e w' => e = .returned (.tuple #[.agg D, .int .i64 e2]) ∧ Below w.heap.size w w')
    (hF' : ∀ w, Calls Try.prog 8 #[.string m] w fun e w' => e = .returned (.tuple #[.agg D, .int .i64 e2]) ∧ Below w.heap.size w w')
    (s3 : ByteArray) (e3 : Int) (hQ : ∀ w, Calls Try.prog 9 #[.int .i64 p, .string m] w fun e w' => e = .returned (.tuple #[.string s3, .int .i64 e3]) ∧ Below w.heap.size w w')
    (hQ' : ∀ w, Calls Try.prog 10 #[.int .i64 p, .string m] w fun e w' => e = .returned (.tuple #[.string s3, .int .i64 e3]) ∧ Below w.heap.size w w')
    (v4 : Int) (s4 : ByteArray) (e4 : Int) (hR : ∀ w, Calls Try.prog 11 #[.string m] w fun e w' => e = .returned (.tuple #[.int .i64 v4, .string s4, .int .i64 e4]) ∧ Below w.heap.size w w')
    (hR' : ∀ w, Calls Try.prog 12 #[.string m] w fun e w' => e = .returned (.tuple #[.int .i64 v4, .string s4, .int .i64 e4]) ∧ Below w.heap.size w w')
    (s5 : ByteArray) (e5 : Int) (hG : ∀ w, Calls Try.prog 13 #[.agg #[.int .i64 f, .int .i64 t, .string y]] w fun e w' => e = .returned (.tuple #[.string s5, .int .i64 e5]) ∧ Below w.heap.size w w')
    (hG' : ∀ w, Calls Try.prog 14 #[.agg #[.int .i64 f, .int .i64 t, .string y]] w fun e w' => e = .returned (.tuple #[.string s5, .int .i64 e5]) ∧ Below w.heap.size w w')
    (f6 t6 : Int) (y6 : ByteArray) (e6 : Int) (hH : ∀ w, Calls Try.prog 15 #[.string m] w fun e w' => e = .returned (.tuple #[.agg #[.int .i64 f6, .int .i64 t6, .string y6], .int .i64 e6]) ∧ Below w.heap.size w w')
    (hH' : ∀ w, Calls Try.prog 16 #[.string m] w fun e w' => e = .returned (.tuple #[.agg #[.int .i64 f6, .int .i64 t6, .string y6], .int .i64 e6]) ∧ Below w.heap.size w w')
    (hsameg : ∀ W, (Op.equalIn 10000 27 (.agg #[.int .i64 f6, .int .i64 t6, .string y6]) (.agg #[.int .i64 f6, .int .i64 t6, .string y6])).run Try.prog W = .ok true W)
    (w : World) :
    Calls Try.prog 3 #[.agg xs, .agg #[.int .i64 f, .int .i64 t, .string y], .int .i64 p, .string m] w fun e w' => e = .returned (.bool true) ∧ Below w.heap.size w w' := by
  have B0 := boxes_new w xs f t y
  have c13 := B0.data h13
  obtain ⟨c0, c1, c2⟩ := B0.cells
  have HB := hide B0
  have HE := hide hE
  have HE' := hide hE'
  have HF := hide hF
  have HF' := hide hF'
  have HQ := hide hQ
  have HQ' := hide hQ'
  have HR := hide hR
  have HR' := hide hR'
  have HG := hide hG
  have HG' := hide hG'
  have HH := hide hH
  have HH' := hide hH'
  have HD1 := hide hD1
  have HDS := hide hDs
  have HSM := hide hsame0
  have HSG := hide hsameg
  clear B0 h13 hE hE' hF hF' hQ hQ' hR hR' hG hG' hH hH' hD1 hDs hsame0 hsameg
  go_enter Try.func3, Try.ntmps3
  go_wp2_with (refine wpList_load_row rfl 25 _ rfl w.heap.size rfl 25 xs (0, 0) _ HB.out.1 Try.underlying25 rfl (by rw [hxs]; kernel_rfl) ?_)
  refine (HE.out _).mono ?_
  rintro e w1 ⟨rfl, hb1⟩
  have HB1 := hide (HB.out.next hb1)
  clear hb1 c13 c0 c1 c2 HB HE
  go_wp2_with (refine wpList_load_row rfl 25 _ rfl w.heap.size rfl 25 xs (0, 0) _ HB1.out.1 Try.underlying25 rfl (by rw [hxs]; kernel_rfl) ?_)
  refine (HE'.out _).mono ?_
  rintro e w2 ⟨rfl, hb2⟩
  have HB2 := hide (HB1.out.next hb2)
  clear hb2 HB1 HE'
  go_wp2_with fail
  refine (HF.out _).mono ?_
  rintro e w3 ⟨rfl, hb3⟩
  have HB3 := hide (HB2.out.next hb3)
  clear hb3 HB2 HF
  go_wp2_with (refine wpList_store_eth rfl _ _ rfl rfl rfl HDS.out HD1.out ?_; intro w4 hn4 hb4 hs4)
  have HB4 := hide (HB3.out.next hb4)
  refine (HF'.out _).mono ?_
  rintro e w5 ⟨rfl, hb5⟩
  have HB5 := hide (HB4.out.next hb5)
  have hn5 := (hb5.block _ hs4).trans hn4
  have hs5 : w3.heap.size < w5.heap.size := Nat.lt_of_lt_of_le hs4 hb5.size
  have HN5 := hide hn5
  have HS5 := hide hs5
  clear hb4 hb5 hn4 hs4 hn5 hs5 HB3 HB4 HF'
  go_upto_region 7 with (refine wpList_store_eth rfl _ _ rfl rfl rfl HDS.out HD1.out ?_; intro w6 hn6 hb6 hs6)
  have HB6 := hide (HB5.out.next hb6)
  have hn7 := (hb6.block _ HS5.out).trans HN5.out
  have HN6 := hide hn6
  have HN7 := hide hn7
  have HS6 := hide hs6
  clear hb6 hn6 hn7 hs6 HN5 HS5 HB5
  iterate 34 (first
    | (refine wpList_load_wanted (by kernel_rfl) (.tmp 13) rfl w3.heap.size rfl D HN7.out HDS.out ?_)
    | (refine wpList_load_wanted (by kernel_rfl) (.tmp 15) rfl w5.heap.size rfl D HN6.out HDS.out ?_)
    | (refine wpList_same_wanted (by kernel_rfl) (.tmp 64) (.tmp 65) rfl D rfl rfl HSM.out ?_)
    | go_step | skip)
  clear HN6 HN7 HS6 HSM HDS HD1
  go_wp2_with fail
  refine (HQ.out _).mono ?_
  rintro e w7 ⟨rfl, hb7⟩
  have HB7 := hide (HB6.out.next hb7)
  clear hb7 HB6 HQ
  go_wp2_with fail
  refine (HQ'.out _).mono ?_
  rintro e w8 ⟨rfl, hb8⟩
  have HB8 := hide (HB7.out.next hb8)
  clear hb8 HB7 HQ'
  go_wp2_with fail
  refine (HR.out _).mono ?_
  rintro e w9 ⟨rfl, hb9⟩
  have HB9 := hide (HB8.out.next hb9)
  clear hb9 HB8 HR
  go_wp2_with fail
  refine (HR'.out _).mono ?_
  rintro e w10 ⟨rfl, hb10⟩
  have HB10 := hide (HB9.out.next hb10)
  clear hb10 HB9 HR'
  go_wp2_with (refine wpList_load_row rfl 27 _ rfl (w.heap.size + 1) rfl 27 #[.int .i64 f, .int .i64 t, .string y] (0, 0) _ HB10.out.2.1 Try.underlying27 rfl (by kernel_rfl) ?_)
  refine (HG.out _).mono ?_
  rintro e w11 ⟨rfl, hb11⟩
  have HB11 := hide (HB10.out.next hb11)
  clear hb11 HB10 HG
  go_wp2_with (refine wpList_load_row rfl 27 _ rfl (w.heap.size + 1) rfl 27 #[.int .i64 f, .int .i64 t, .string y] (0, 0) _ HB11.out.2.1 Try.underlying27 rfl (by kernel_rfl) ?_)
  refine (HG'.out _).mono ?_
  rintro e w12 ⟨rfl, hb12⟩
  have HB12 := hide (HB11.out.next hb12)
  clear hb12 HB11 HG'
  go_wp2_with fail
  refine (HH.out _).mono ?_
  rintro e w13 ⟨rfl, hb13⟩
  have HB13 := hide (HB12.out.next hb13)
  clear hb13 HB12 HH
  go_wp2_with (refine wpList_store_dat rfl _ _ rfl rfl rfl ?_; intro w14 hn14 hb14 hs14)
  have HB14 := hide (HB13.out.next hb14)
  refine (HH'.out _).mono ?_
  rintro e w15 ⟨rfl, hb15⟩
  have HB15 := hide (HB14.out.next hb15)
  have HN15 := hide ((hb15.block _ hs14).trans hn14)
  have HS15 := hide (Nat.lt_of_lt_of_le hs14 hb15.size)
  clear hb14 hb15 hn14 hs14 HB13 HB14 HH'
  go_wp2_with (refine wpList_store_dat rfl _ _ rfl rfl rfl ?_; intro w16 hn16 hb16 hs16)
  have HB16 := hide (HB15.out.next hb16)
  have hn17 := (hb16.block _ HS15.out).trans HN15.out
  have hs17 := Nat.lt_of_lt_of_le HS15.out hb16.size
  refine (alive_any _).mono ?_
  rintro e w17 ⟨rfl, hb17⟩
  have HB17 := hide (HB16.out.next hb17)
  have HN18 := hide ((hb17.block _ hs17).trans hn17)
  have HN19 := hide ((hb17.block _ hs16).trans hn16)
  clear hb16 hn16 hs16 hn17 hs17 hb17 HB15 HB16 HN15 HS15
  have hEq := HSG.out
  have n18 := HN18.out
  have n19 := HN19.out
  have q0 : w17.cell? ⟨w13.heap.size, 0, none⟩ = some (.int .i64 f6) := by simp [World.cell?, n18]
  have q1 : w17.cell? ⟨w13.heap.size, 1, none⟩ = some (.int .i64 t6) := by simp [World.cell?, n18]
  have q2 : w17.cell? ⟨w13.heap.size, 2, none⟩ = some (.string y6) := by simp [World.cell?, n18]
  have z0 : w17.cell? ⟨w15.heap.size, 0, none⟩ = some (.int .i64 f6) := by simp [World.cell?, n19]
  have z1 : w17.cell? ⟨w15.heap.size, 1, none⟩ = some (.int .i64 t6) := by simp [World.cell?, n19]
  have z2 : w17.cell? ⟨w15.heap.size, 2, none⟩ = some (.string y6) := by simp [World.cell?, n19]
  clear n18 n19 HSG HN18 HN19
  go_wp2
  go_ret
  exact ⟨rfl, HB17.out.2.2.1⟩
end Go.Proofs.Ytlimnhlgjjgdeaa
