/- The walk of the law WireBack: for every frame, datagram, ints and string it returns true, and of what was there nothing has turned (each string of at most 2^47 bytes). -/
import Derived.Test.YtdfcfpefjmlpmaaBackKit
namespace Go.Proofs.Ytdfcfpefjmlpmaa
open Go.RowKit

set_option maxRecDepth 100000 in
set_option maxHeartbeats 8000000 in
theorem wireBack_in (xs : Array Value) (hxs : xs.size = 14) (hx1 : xs.all (·.oneCell') = true) (x : ByteArray) (h13 : xs[13]? = some (.string x)) (f t : Int) (y : ByteArray) (p v n : Int) (m : ByteArray) (hl : x.size + y.size + m.size ≤ 9000)
    (hsame0 : ∀ W, (binOp .neq 36 (.agg xs) (.agg xs)).run Try.prog W = .ok (.bool false) W)
    (hsameg : ∀ W, (binOp .neq 38 (.agg #[.int .i64 f, .int .i64 t, .string y]) (.agg #[.int .i64 f, .int .i64 t, .string y])).run Try.prog W = .ok (.bool false) W)
    (s1 : ByteArray) (e1 : Int) (hP : ∀ w, Calls Try.prog 9 #[.int .i64 v, .int .i64 n] w fun e w' => e = .returned (.tuple #[.string s1, .int .i64 e1]) ∧ Below w.heap.size w w')
    (hP2 : (e1 == 0) = false ∨ ((e1 == 0) = true ∧ (s1.size : Int) = n ∧ s1.size ≤ 4 ∧ ∀ w, Calls Try.prog 11 #[.string (m ++ s1 ++ m), .int .i64 (m.size : Int), .int .i64 n] w fun e w' => e = .returned (.tuple #[.int .i64 v, .int .i64 0]) ∧ w' = w))
    (s2 : ByteArray) (e2 : Int) (hE : ∀ w, Calls Try.prog 19 #[.agg xs] w fun e w' => e = .returned (.tuple #[.string s2, .int .i64 e2]) ∧ Below w.heap.size w w')
    (hE2 : (e2 == 0) = false ∨ ((e2 == 0) = true ∧ ∀ w, Calls Try.prog 21 #[.string s2] w fun e w' => e = .returned (.tuple #[.agg xs, .int .i64 0]) ∧ Below w.heap.size w w'))
    (s3 : ByteArray) (e3 : Int) (hQ : ∀ w, Calls Try.prog 23 #[.int .i64 p, .string m] w fun e w' => e = .returned (.tuple #[.string s3, .int .i64 e3]) ∧ Below w.heap.size w w')
    (hQ2 : (e3 == 0) = false ∨ ((e3 == 0) = true ∧ ∀ w, Calls Try.prog 25 #[.string s3] w fun e w' => e = .returned (.tuple #[.int .i64 p, .string m, .int .i64 0]) ∧ Below w.heap.size w w'))
    (s4 : ByteArray) (e4 : Int) (hG : ∀ w, Calls Try.prog 27 #[.agg #[.int .i64 f, .int .i64 t, .string y]] w fun e w' => e = .returned (.tuple #[.string s4, .int .i64 e4]) ∧ Below w.heap.size w w')
    (hG2 : (e4 == 0) = false ∨ ((e4 == 0) = true ∧ ∀ w, Calls Try.prog 29 #[.string s4] w fun e w' => e = .returned (.tuple #[.agg #[.int .i64 f, .int .i64 t, .string y], .int .i64 0]) ∧ Below w.heap.size w w'))
    (s5 : ByteArray) (hH : ∀ w, Calls Try.prog 32 #[.string m] w fun e w' => e = .returned (.string s5) ∧ Below w.heap.size w w') (hU : ∀ w, Calls Try.prog 31 #[.string s5] w fun e w' => e = .returned (.tuple #[.string m, .int .i64 0]) ∧ Below w.heap.size w w')
    (s6 : ByteArray) (hS : ∀ w, Calls Try.prog 17 #[.string m] w fun e w' => e = .returned (.string s6) ∧ Below w.heap.size w w') (hV : ∀ w, Calls Try.prog 13 #[.string s6] w fun e w' => e = .returned (.tuple #[.string m, .int .i64 0]) ∧ Below w.heap.size w w')
    (w : World) :
    Calls Try.prog 6 #[.agg xs, .agg #[.int .i64 f, .int .i64 t, .string y], .int .i64 p, .int .i64 v, .int .i64 n, .string m] w fun e w' => e = .returned (.bool true) ∧ Below w.heap.size w w' := by
  have B0 := boxes_new w xs f t y
  have c13 := B0.data h13
  obtain ⟨c0, c1, c2⟩ := B0.cells
  have HB := hide B0
  have HP := hide hP
  have HP2 := hide hP2
  have HE := hide hE
  have HE2 := hide hE2
  have HQ := hide hQ
  have HQ2 := hide hQ2
  have HG := hide hG
  have HG2 := hide hG2
  have HH := hide hH
  have HU := hide hU
  have HS := hide hS
  have HV := hide hV
  have HX1 := hide hx1
  have HSM := hide hsame0
  have HSG := hide hsameg
  clear B0 h13 hP hP2 hE hE2 hQ hQ2 hG hG2 hH hU hS hV hx1 hsame0 hsameg
  go_enter Try.func6, Try.ntmps6
  go_upto_if 47 with (go_at_call 9; refine (HP.out _).mono ?_; rintro e w1 ⟨rfl, hb1⟩)
  have HB1 := hide (HB.out.next hb1)
  clear hb1 c13 c0 c1 c2 HB HP
  go_cut [13, 14] (fun _ _ wx => Boxes w wx xs f t y)
  case first =>
    rcases HP2.out with h | ⟨h, h1, h2, h3⟩
    · go_wp2
      go_meet
      case rel => exact HB1.out
    · have H3 := hide h3
      clear h3
      have h4 : ((s1.size : Int) != n) = false := by rw [h1]; simp
      go_wp2_with (go_at_call 11; refine (H3.out _).mono ?_; rintro e w2 ⟨rfl, rfl⟩)
      go_meet
      case rel => exact HB1.out
  case rest =>
    have HBc := hide hcut
    clear HB1 HP2 hcut
    go_upto_if 79 with (first | (refine wpList_load_row rfl 36 _ rfl w.heap.size rfl 36 xs (0, 0) _ HBc.out.1 Try.underlying36 rfl (by rw [hxs]; kernel_rfl) ?_) | (go_at_call 19; refine (HE.out _).mono ?_; rintro e w3 ⟨rfl, hb3⟩))
    have HB3 := hide (HBc.out.next hb3)
    clear hb3 HBc HE
    go_cut [13, 14] (fun _ _ wx => Boxes w wx xs f t y)
    case first =>
      rcases HE2.out with h | ⟨h, h3⟩
      · go_wp2
        go_meet
        case rel => exact HB3.out
      · have H3 := hide h3
        clear h3
        go_wp2_with fail
        refine (H3.out _).mono ?_
        rintro e w4 ⟨rfl, hb4⟩
        have HB4 := hide (HB3.out.next hb4)
        clear hb4
        go_upto_region 11 with (refine wpList_store_new rfl _ _ rfl rfl rfl hxs HX1.out HB4.out ?_; intro w5 hn5 hB5)
        clear HE2 HQ HQ2 HG HG2 HH HU HS HV H3 HB4 HB3
        iterate 10 go_step
        refine wpList_load_wanted (by kernel_rfl) (.tmp 17) rfl w4.heap.size rfl xs hn5 hxs ?_
        refine wpList_load_wanted (by kernel_rfl) (.tmp 6) rfl w.heap.size rfl xs hB5.1 hxs ?_
        refine wpList_same_wanted (by kernel_rfl) (.tmp 88) (.tmp 89) rfl xs rfl rfl HSM.out ?_
        go_wp2
        go_meet
        case rel => exact hB5
    case rest =>
      have HBc := hide hcut
      clear HB3 HE2 hcut
      go_upto_if 99 with (go_at_call 23; refine (HQ.out _).mono ?_; rintro e w6 ⟨rfl, hb6⟩)
      have HB6 := hide (HBc.out.next hb6)
      clear hb6 HBc HQ
      go_cut [13, 14] (fun _ _ wx => Boxes w wx xs f t y)
      case first =>
        rcases HQ2.out with h | ⟨h, h3⟩
        · go_wp2
          go_meet
          case rel => exact HB6.out
        · have H3 := hide h3
          clear h3
          go_wp2_with fail
          refine (H3.out _).mono ?_
          rintro e w7 ⟨rfl, hb7⟩
          have HB7 := hide (HB6.out.next hb7)
          clear hb7
          go_wp2
          go_meet
          case rel => exact HB7.out
      case rest =>
        have HBd := hide hcut
        clear HB6 HQ2 hcut
        go_upto_if 124 with (first | (refine wpList_load_row rfl 38 _ rfl (w.heap.size + 1) rfl 38 #[.int .i64 f, .int .i64 t, .string y] (0, 0) _ HBd.out.2.1 Try.underlying38 rfl (by kernel_rfl) ?_) | (go_at_call 27; refine (HG.out _).mono ?_; rintro e w8 ⟨rfl, hb8⟩))
        have HB8 := hide (HBd.out.next hb8)
        clear hb8 HBd HG
        go_cut [13, 14] (fun _ _ wx => Boxes w wx xs f t y)
        case first =>
          rcases HG2.out with h | ⟨h, h3⟩
          · go_wp2
            go_meet
            case rel => exact HB8.out
          · have H3 := hide h3
            clear h3
            go_wp2_with fail
            refine (H3.out _).mono ?_
            rintro e w9 ⟨rfl, hb9⟩
            have HB9 := hide (HB8.out.next hb9)
            clear hb9
            go_upto_region 21 with (refine wpList_store_gram rfl _ _ rfl rfl rfl HB9.out ?_; intro w10 hn10 hB10)
            iterate 10 go_step
            refine wpList_load_gram (by kernel_rfl) (.tmp 22) rfl w9.heap.size rfl #[.int .i64 f, .int .i64 t, .string y] hn10 rfl ?_
            refine wpList_load_gram (by kernel_rfl) (.tmp 7) rfl (w.heap.size + 1) rfl #[.int .i64 f, .int .i64 t, .string y] hB10.2.1 rfl ?_
            refine wpList_same_gram (by kernel_rfl) (.tmp 133) (.tmp 134) rfl #[.int .i64 f, .int .i64 t, .string y] rfl rfl HSG.out ?_
            go_wp2
            go_meet
            case rel => exact hB10
        case rest =>
          have hBe := hcut.2.2.1
          clear HB8 HG2 hcut HX1 HSM HSG
          go_wp2_with fail
          refine (HH.out _).mono ?_
          rintro e w11 ⟨rfl, hb11⟩
          go_wp2_with fail
          refine (HU.out _).mono ?_
          rintro e w12 ⟨rfl, hb12⟩
          go_wp2_with fail
          refine (HS.out _).mono ?_
          rintro e w13 ⟨rfl, hb13⟩
          go_wp2_with fail
          refine (HV.out _).mono ?_
          rintro e w14 ⟨rfl, hb14⟩
          go_wp2_with fail
          refine (alive_any _).mono ?_
          rintro e w15 ⟨rfl, hb15⟩
          go_wp2
          go_ret
          exact ⟨rfl, below_next (below_next (below_next (below_next (below_next hBe hb11) hb12) hb13) hb14) hb15⟩
end Go.Proofs.Ytdfcfpefjmlpmaa
