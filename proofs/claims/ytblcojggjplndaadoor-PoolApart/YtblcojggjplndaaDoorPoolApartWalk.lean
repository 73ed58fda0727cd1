/- The walk of the law PoolApart: for every number and list of steps it returns true, where the library's table of powers holds what its text lays. (Written by gen_apart16.py.) -/
import Derived.Test.YtblcojggjplndaaDoorPpOne
import Derived.Test.YtblcojggjplndaaDoorPpApart
import Derived.Test.YtblcojggjplndaaDoorPpArgs
import Derived.Test.YtblcojggjplndaaDoorPlNeq
import Derived.OpenShut
import Derived.Deep.CutRange
import Derived.Deep.CutBlock
namespace Go.Proofs.YtblcojggjplndaaDoor
open Go.RowKit

def xN : Ad := ⟨10, 0, 0, 0⟩
theorem xN_good (n : Int) : goodP xN n ↔ 1 ≤ n ∧ n ≤ 256 := by
  have : numAd xN = 167772160 := by decide
  unfold goodP
  omega
/-- The law's own pool of m places, and its box of the base, in the world wr. -/
def ApIn (w wr : World) (b m : Nat) (L : List Lt) : Prop := PMine w wr b xN L ∧ L.length = m ∧ Four4 wr w.heap.size (.int .u8 10) (.int .u8 0) (.int .u8 0) (.int .u8 0)
theorem ApIn.still {w wr w' : World} {b m : Nat} {L : List Lt} (h : ApIn w wr b m L) (hk : Kept (fun _ => False) wr w') : ApIn w w' b m L := ⟨h.1.still hk, h.2.1, h.2.2.kept hk (fun h => h)⟩

set_option maxHeartbeats 8000000 in
set_option maxRecDepth 100000 in
theorem poolApart_walk (n : Int) (v : Value) (l : List Op16) (w : World) (hn : -9223372036854775808 ≤ n ∧ n ≤ 9223372036854775807) (hv : Ops16 w v l) (_ : l.length ≤ maxLen) (hl : ∀ x ∈ l, I64 x.t ∧ I64 x.s) (hT : PowTab w) :
    Calls Tryd.prog 5 #[.int .i64 n, v] w fun e w' => e = .returned (.bool true) ∧ Below w.heap.size w w' := by
  obtain ⟨p, cap, rfl⟩ := hv.slice
  have HV := hid hv
  have HA : Hid (∀ W, Kept (fun _ => False) w W → _) := hid (fun W hk => alive16_any W (hT.kept hk))
  have HAdd : Hid (∀ k W, Calls Tryd.prog 21 #[.agg #[.int .u8 10, .int .u8 0, .int .u8 0, .int .u8 0], .int .i64 k] W fun e w' => e = .returned (adV (addAd xN k)) ∧ Kept (fun _ => False) W w') := fun k W => add_any xN k W
  have K0 := hid ((Kept.refl (fun _ => False) w).alloc (.cells #[.int .u8 10, .int .u8 0, .int .u8 0, .int .u8 0] 23))
  have B0 := hid (four4_new w 23 (.int .u8 10) (.int .u8 0) (.int .u8 0) (.int .u8 0))
  have HX := hid hl
  clear hv hT hl
  by_cases hg : goodP xN n
  · obtain ⟨g1, g2⟩ := (xN_good n).1 hg
    obtain ⟨m, rfl⟩ : ∃ m : Nat, n = (m : Int) := ⟨n.toNat, by omega⟩
    have C1 : Hid (∀ W, Kept (fun _ => False) w W → Calls Tryd.prog 9 #[.agg #[.int .u8 10, .int .u8 0, .int .u8 0, .int .u8 0], .int .i64 (m : Int)] W fun e w' => ∃ b, e = .returned (.tuple #[.pointer (some ⟨b, 0, none⟩), .int .i64 0]) ∧ PMine w w' b xN (List.replicate m lt0) ∧ Kept (fun _ => False) W w') := fun W hk => new_mine2 hk xN m (by omega) (by omega) hg.2.2
    clear hg
    go_enter Tryd.func5, Tryd.ntmps5
    go_upto_region 2 with fail
    generalize w.alloc (.cells #[.int .u8 10, .int .u8 0, .int .u8 0, .int .u8 0] 23) = W at *
    obtain ⟨⟨c0, c1, c2, c3⟩, _⟩ := B0.out
    go_wp2_with fail
    refine (C1.out _ K0.out).mono ?_
    rintro e w1 ⟨b, rfl, m1, k1⟩
    have M1 : Hid (ApIn w w1 b m (List.replicate m lt0)) := ⟨m1, List.length_replicate, B0.out.kept k1 (fun h => h)⟩
    clear m1 k1 c0 c1 c2 c3 B0 K0 C1
    by_cases h300 : 300 < l.length
    · have hz : (300 : Int) < (l.length : Int) := by omega
      go_wp2_with fail
      refine (HA.out _ M1.out.1.kept).mono ?_
      rintro e w2 ⟨rfl, k2⟩
      have M2 := hid (M1.out.still k2)
      clear k2
      go_wp2
      go_ret
      exact ⟨rfl, M2.out.1.kept.below (Nat.le_refl _) (fun _ h => h.elim)⟩
    · have hz : ¬ (300 : Int) < (l.length : Int) := by omega
      go_wp2
      go_loopw [8] (fun vi wr => ∃ (j : Nat) (L : List Lt), j ≤ l.length ∧ vi = .int .i64 (j : Int) ∧ Hid (ApIn w wr b m L)) (fun vi _ => l.length - (intOf vi).toNat)
      case atStart => exact ⟨0, _, Nat.zero_le _, rfl, M1.out⟩
      case round =>
        obtain ⟨j, L, hj, rfl, HJ⟩ := hrel
        by_cases hlt : j < l.length
        · have hltz : (j : Int) < (l.length : Int) := by omega
          obtain ⟨x, hx⟩ : ∃ x, l[j]? = some x := ⟨l[j], by simp [hlt]⟩
          obtain ⟨ht, hs⟩ := HX.out x (List.mem_of_getElem? hx)
          obtain ⟨g, o, rfl, hcap, hc⟩ := (HV.out.kept0 HJ.out.1.kept).at hx
          have HC : Hid (∀ U, Kept (fun _ => False) w U → ∀ i u, (op16Cells x)[i]? = some u → U.cell? ⟨g, o + j * 7 + i, none⟩ = some u) := fun U hk i u hu => by
            obtain ⟨g', o', e', _, hc'⟩ := (HV.out.kept0 hk).at hx
            cases e'
            exact hc' i u hu
          have e0 := HC.out wr HJ.out.1.kept 0 _ rfl
          have e1 := HC.out wr HJ.out.1.kept 1 _ rfl
          have e2 := HC.out wr HJ.out.1.kept 2 _ rfl
          simp only [Nat.add_zero] at e0
          clear hc hx
          obtain ⟨xk, xt, xs, xa⟩ := x
          simp only at ht hs e0 e1 e2
          go_upto_if 56 with fail
          go_cut [9, 10, 11, 12] from 45 to 148 (fun _ _ _ _ wx => ∃ L', Hid (ApIn w wx b m L'))
          case first =>
            by_cases hk2 : xk = 2
            · have hk2b : (xk == 2) = true := by simp [hk2]
              clear hk2
              have CG := hid (HJ.out.1.give ht hs _ rfl)
              unfold keyV at CG
              have hgl := hid (give_len L xt xs)
              generalize giveL L xt xs = R at *
              go_wp2_with fail
              refine CG.out.mono ?_
              rintro e w2 ⟨rfl, m2, k2⟩
              have M2 : Hid (ApIn w w2 b m R.2) := ⟨m2, hgl.out.trans HJ.out.2.1, HJ.out.2.2.ppk k2⟩
              clear m2 k2 CG HJ e0 e1 e2
              go_wp2
              go_meet
              exact ⟨R.2, M2.out⟩
            · have hk2b : (xk == 2) = false := by simpa using hk2
              clear hk2
              rcases take_has HJ.out.1.good ht hs with ⟨y, L2, h1, h2, h3⟩ | ⟨h1, h2, h3⟩
              · have CT := hid (HJ.out.1.take ht hs _ h1)
                have CH := hid (fun U (h : PMine w U b xN L2) => h.has ht hs _ h2)
                have HN := hid (h3.trans HJ.out.2.1)
                clear h1 h2 h3
                unfold adV keyV at CT CH
                simp only at CT CH
                go_wp2_with fail
                refine CT.out.mono ?_
                rintro e w2 ⟨rfl, m2, k2⟩
                have M2 : Hid (ApIn w (w2.alloc (.cells #[.int .u8 (y.a.toNat : Int), .int .u8 (y.b.toNat : Int), .int .u8 (y.c.toNat : Int), .int .u8 (y.d.toNat : Int)] 23)) b m L2) := ApIn.still ⟨m2, HN.out, HJ.out.2.2.ppk k2⟩ ((Kept.refl _ _).alloc _)
                have Y2 := hid (four4_new w2 23 (.int .u8 (y.a.toNat : Int)) (.int .u8 (y.b.toNat : Int)) (.int .u8 (y.c.toNat : Int)) (.int .u8 (y.d.toNat : Int)))
                have f1 := HC.out _ M2.out.1.kept 1 _ rfl
                have f2 := HC.out _ M2.out.1.kept 2 _ rfl
                simp only at f1 f2
                clear m2 k2 CT HJ e0 e1 e2
                go_upto_region 13 with fail
                generalize w2.alloc (.cells #[.int .u8 (y.a.toNat : Int), .int .u8 (y.b.toNat : Int), .int .u8 (y.c.toNat : Int), .int .u8 (y.d.toNat : Int)] 23) = V at *
                generalize w2.heap.size = yb at *
                go_wp2_with fail
                refine (CH.out _ M2.out.1).mono ?_
                rintro e w3 ⟨rfl, _, k3⟩
                have M3 := hid (M2.out.still (k3.alloc (.cells #[.int .u8 (y.a.toNat : Int), .int .u8 (y.b.toNat : Int), .int .u8 (y.c.toNat : Int), .int .u8 (y.d.toNat : Int)] 23)))
                have Y3 := hid (Y2.out.kept (k3.alloc (.cells #[.int .u8 (y.a.toNat : Int), .int .u8 (y.b.toNat : Int), .int .u8 (y.c.toNat : Int), .int .u8 (y.d.toNat : Int)] 23)) (fun h => h))
                have Z3 := hid (four4_new w3 23 (.int .u8 (y.a.toNat : Int)) (.int .u8 (y.b.toNat : Int)) (.int .u8 (y.c.toNat : Int)) (.int .u8 (y.d.toNat : Int)))
                clear k3 CH M2 Y2 f1 f2
                go_upto_region 14 with fail
                generalize w3.alloc (.cells #[.int .u8 (y.a.toNat : Int), .int .u8 (y.b.toNat : Int), .int .u8 (y.c.toNat : Int), .int .u8 (y.d.toNat : Int)] 23) = U at *
                generalize w3.heap.size = zb at *
                obtain ⟨⟨y0, y1, y2, y3⟩, _⟩ := Y3.out
                obtain ⟨⟨z0, z1, z2, z3⟩, _⟩ := Z3.out
                have HEq := ad_self y
                unfold adV at HEq
                go_wp2
                go_meet
                exact ⟨_, M3.out⟩
              · have CT := hid (HJ.out.1.take ht hs _ h1)
                have CH := hid (fun U (h : PMine w U b xN L) => h.has ht hs _ h2)
                have CF := hid (fun U (h : PMine w U b xN L) => h.free)
                rw [h3] at CF
                have HN := hid HJ.out.2.1
                clear h1 h2 h3
                generalize ad0 = y at *
                unfold adV keyV at CT CH
                simp only at CT CH
                go_wp2_with fail
                refine CT.out.mono ?_
                rintro e w2 ⟨rfl, m2, k2⟩
                have M2 : Hid (ApIn w (w2.alloc (.cells #[.int .u8 (y.a.toNat : Int), .int .u8 (y.b.toNat : Int), .int .u8 (y.c.toNat : Int), .int .u8 (y.d.toNat : Int)] 23)) b m L) := ApIn.still ⟨m2, HN.out, HJ.out.2.2.ppk k2⟩ ((Kept.refl _ _).alloc _)
                have Y2 := hid (four4_new w2 23 (.int .u8 (y.a.toNat : Int)) (.int .u8 (y.b.toNat : Int)) (.int .u8 (y.c.toNat : Int)) (.int .u8 (y.d.toNat : Int)))
                have f1 := HC.out _ M2.out.1.kept 1 _ rfl
                have f2 := HC.out _ M2.out.1.kept 2 _ rfl
                simp only at f1 f2
                clear m2 k2 CT HJ e0 e1 e2
                go_upto_region 13 with fail
                generalize w2.alloc (.cells #[.int .u8 (y.a.toNat : Int), .int .u8 (y.b.toNat : Int), .int .u8 (y.c.toNat : Int), .int .u8 (y.d.toNat : Int)] 23) = V at *
                generalize w2.heap.size = yb at *
                go_wp2_with fail
                refine (CH.out _ M2.out.1).mono ?_
                rintro e w3 ⟨rfl, _, k3⟩
                have M3 := hid (M2.out.still (k3.alloc (.cells #[.int .u8 (y.a.toNat : Int), .int .u8 (y.b.toNat : Int), .int .u8 (y.c.toNat : Int), .int .u8 (y.d.toNat : Int)] 23)))
                have Y3 := hid (Y2.out.kept (k3.alloc (.cells #[.int .u8 (y.a.toNat : Int), .int .u8 (y.b.toNat : Int), .int .u8 (y.c.toNat : Int), .int .u8 (y.d.toNat : Int)] 23)) (fun h => h))
                have Z3 := hid (four4_new w3 23 (.int .u8 (y.a.toNat : Int)) (.int .u8 (y.b.toNat : Int)) (.int .u8 (y.c.toNat : Int)) (.int .u8 (y.d.toNat : Int)))
                clear k3 CH M2 Y2 f1 f2
                go_upto_region 14 with fail
                generalize w3.alloc (.cells #[.int .u8 (y.a.toNat : Int), .int .u8 (y.b.toNat : Int), .int .u8 (y.c.toNat : Int), .int .u8 (y.d.toNat : Int)] 23) = U at *
                generalize w3.heap.size = zb at *
                obtain ⟨⟨y0, y1, y2, y3⟩, _⟩ := Y3.out
                obtain ⟨⟨z0, z1, z2, z3⟩, _⟩ := Z3.out
                go_wp2_with fail
                refine (CF.out _ M3.out.1).mono ?_
                rintro e w4 ⟨rfl, _, k4⟩
                have M4 := hid (M3.out.still k4)
                clear k4 M3 CF y0 y1 y2 y3 z0 z1 z2 z3
                go_wp2
                go_meet
                exact ⟨_, M4.out⟩
          case rest =>
            obtain ⟨L', HL⟩ := hcut
            clear HJ e0 e1 e2 HC
            go_upto_region 16 with fail
            go_wp2
            go_loopw [13, 14] (fun vh vk wr => ∃ k : Nat, k ≤ m ∧ vk = .int .i64 (k : Int) ∧ vh = .int .i64 (lentN L' k : Int) ∧ Hid (ApIn w wr b m L')) (fun _ vk _ => m - (intOf vk).toNat)
            case atStart => exact ⟨0, Nat.zero_le _, rfl, rfl, HL.out⟩
            case round =>
              obtain ⟨k, hk, rfl, rfl, HK⟩ := hrel
              clear HL
              have hlk := lentN_le L' k
              by_cases hkm : k < m
              · have hkz : (k : Int) < (m : Int) := by omega
                obtain ⟨u, hu⟩ : ∃ u, L'[k]? = some u := ⟨L'[k]'(by rw [HK.out.2.1]; exact hkm), by simp⟩
                obtain ⟨hut, hus⟩ := HK.out.1.good.few.2 u (List.mem_of_getElem? hu)
                have hwa := whoL_at HK.out.1.good hu
                have hnx := hid (lentN_next hu)
                have CA := hid (HAdd.out (k : Int))
                obtain ⟨⟨c0, c1, c2, c3⟩, _⟩ := HK.out.2.2
                cases hq : u.is with
                | false =>
                  rw [if_neg (by rw [hq]; decide)] at hwa
                  have CW := hid (fun U (h : PMine w U b xN L') => h.who (addAd xN (k : Int)) _ hwa)
                  have hnx' : Hid (lentN L' (k + 1) = lentN L' k) := by have := hnx.out; rw [if_neg (by rw [hq]; decide), Nat.add_zero] at this; exact this
                  generalize addAd xN (k : Int) = y at *
                  unfold adV keyV at *
                  simp only at CW
                  clear hwa hq hu hut hus hnx
                  go_wp2_with fail
                  refine (CA.out _).mono ?_
                  rintro e w2 ⟨rfl, k2⟩
                  have M2 := hid (HK.out.still k2)
                  clear k2 c0 c1 c2 c3 HK CA
                  go_wp2_with fail
                  refine (CW.out _ M2.out.1).mono ?_
                  rintro e w3 ⟨rfl, _, k3⟩
                  have M3 := hid (M2.out.still (k3.alloc (.cells #[.int .i64 0, .int .i64 0] 34)))
                  clear k3 M2 CW
                  go_wp2
                  exact ⟨⟨k + 1, hkm, by go_num, by rw [hnx'.out], M3.out⟩, by simp [intOf]; omega⟩
                | true =>
                  rw [if_pos hq] at hwa
                  have CW := hid (fun U (h : PMine w U b xN L') => h.who (addAd xN (k : Int)) _ hwa)
                  have hha := has_at HK.out.1.good hu hq
                  have CH := hid (fun U (h : PMine w U b xN L') => h.has hut hus _ hha)
                  have hnx' : Hid (lentN L' (k + 1) = lentN L' k + 1) := by have := hnx.out; rw [if_pos hq] at this; exact this
                  have HEq := hid (ad_self (addAd xN (k : Int)))
                  generalize addAd xN (k : Int) = y at *
                  unfold adV keyV at *
                  simp only at CW CH
                  clear hwa hq hu hut hus hnx hha
                  obtain ⟨_, ut, us⟩ := u
                  simp only at CW CH
                  have hw1 : IntKind.i64.wrap ((lentN L' k : Int) + 1) = (lentN L' k : Int) + 1 := by rw [IntKind.wrap_i64]; omega
                  go_wp2_with fail
                  refine (CA.out _).mono ?_
                  rintro e w2 ⟨rfl, k2⟩
                  have M2 := hid (HK.out.still k2)
                  clear k2 c0 c1 c2 c3 HK
                  go_wp2_with fail
                  refine (CW.out _ M2.out.1).mono ?_
                  rintro e w3 ⟨rfl, _, k3⟩
                  have M3 := hid (M2.out.still (k3.alloc (.cells #[.int .i64 ut, .int .i64 us] 34)))
                  have P3 := hid (two2_new w3 34 (.int .i64 ut) (.int .i64 us))
                  clear k3 M2 CW
                  go_upto_region 22 with fail
                  generalize w3.alloc (.cells #[.int .i64 ut, .int .i64 us] 34) = V at *
                  generalize w3.heap.size = kb at *
                  obtain ⟨p0, p1⟩ := P3.out
                  go_wp2_with fail
                  refine (CH.out _ M3.out.1).mono ?_
                  rintro e w4 ⟨rfl, _, k4⟩
                  have M4 := hid (M3.out.still (k4.alloc (.cells #[.int .u8 (y.a.toNat : Int), .int .u8 (y.b.toNat : Int), .int .u8 (y.c.toNat : Int), .int .u8 (y.d.toNat : Int)] 23)))
                  have Y4 := hid (four4_new w4 23 (.int .u8 (y.a.toNat : Int)) (.int .u8 (y.b.toNat : Int)) (.int .u8 (y.c.toNat : Int)) (.int .u8 (y.d.toNat : Int)))
                  clear k4 M3 P3 p0 p1 CH
                  go_upto_region 24 with fail
                  generalize w4.alloc (.cells #[.int .u8 (y.a.toNat : Int), .int .u8 (y.b.toNat : Int), .int .u8 (y.c.toNat : Int), .int .u8 (y.d.toNat : Int)] 23) = U at *
                  generalize w4.heap.size = yb at *
                  have y0 : ∀ Z, Kept (fun _ => False) U Z → Z.cell? ⟨yb, 0, none⟩ = some (.int .u8 (y.a.toNat : Int)) := fun Z hk => (Y4.out.kept hk (fun h => h)).1.1
                  have y1 : ∀ Z, Kept (fun _ => False) U Z → Z.cell? ⟨yb, 1, none⟩ = some (.int .u8 (y.b.toNat : Int)) := fun Z hk => (Y4.out.kept hk (fun h => h)).1.2.1
                  have y2 : ∀ Z, Kept (fun _ => False) U Z → Z.cell? ⟨yb, 2, none⟩ = some (.int .u8 (y.c.toNat : Int)) := fun Z hk => (Y4.out.kept hk (fun h => h)).1.2.2.1
                  have y3 : ∀ Z, Kept (fun _ => False) U Z → Z.cell? ⟨yb, 3, none⟩ = some (.int .u8 (y.d.toNat : Int)) := fun Z hk => (Y4.out.kept hk (fun h => h)).1.2.2.2
                  have x0 : ∀ Z, Kept (fun _ => False) U Z → Z.cell? ⟨w.heap.size, 0, none⟩ = some (.int .u8 10) := fun Z hk => (M4.out.2.2.kept hk (fun h => h)).1.1
                  have x1 : ∀ Z, Kept (fun _ => False) U Z → Z.cell? ⟨w.heap.size, 1, none⟩ = some (.int .u8 0) := fun Z hk => (M4.out.2.2.kept hk (fun h => h)).1.2.1
                  have x2 : ∀ Z, Kept (fun _ => False) U Z → Z.cell? ⟨w.heap.size, 2, none⟩ = some (.int .u8 0) := fun Z hk => (M4.out.2.2.kept hk (fun h => h)).1.2.2.1
                  have x3 : ∀ Z, Kept (fun _ => False) U Z → Z.cell? ⟨w.heap.size, 3, none⟩ = some (.int .u8 0) := fun Z hk => (M4.out.2.2.kept hk (fun h => h)).1.2.2.2
                  refine wp_region_held_drew (S := Kept (fun _ => False) U) (by kernel_rfl) ((Kept.refl _ U).drew) (fun hSd => ?_)
                  refine wpAnyH_take (i := 0) (v := ?_) rfl (by kernel_rfl) (by kernel_rfl) (by kernel_rfl) (fun _ _ _ h => h) (Or.inl ⟨by kernel_rfl, fun W hSW => by go_simp; try with_reducible rfl⟩) (by assumption) ?_
                  try simp only [List.getElem_toArray]
                  try simp only [List.getElem_cons_succ]
                  try simp only [List.getElem_cons_zero]
                  try simp only [Act.put]
                  try simp only [List.setIfInBounds_toArray]
                  try simp only [List.set_cons_succ]
                  try simp only [List.set_cons_zero]
                  refine wpAnyH_take (i := 1) (v := ?_) rfl (by kernel_rfl) (by kernel_rfl) (by kernel_rfl) (fun _ _ _ h => h) (Or.inl ⟨by kernel_rfl, fun W hSW => by go_simp; try with_reducible rfl⟩) (by assumption) ?_
                  try simp only [List.getElem_toArray]
                  try simp only [List.getElem_cons_succ]
                  try simp only [List.getElem_cons_zero]
                  try simp only [Act.put]
                  try simp only [List.setIfInBounds_toArray]
                  try simp only [List.set_cons_succ]
                  try simp only [List.set_cons_zero]
                  refine wpAnyH_take (i := 2) (v := ?_) rfl (by kernel_rfl) (by kernel_rfl) (by kernel_rfl) (fun _ _ _ h => h) (Or.inl ⟨by kernel_rfl, fun W hSW => by go_simp; try with_reducible rfl⟩) (by assumption) ?_
                  try simp only [List.getElem_toArray]
                  try simp only [List.getElem_cons_succ]
                  try simp only [List.getElem_cons_zero]
                  try simp only [Act.put]
                  try simp only [List.setIfInBounds_toArray]
                  try simp only [List.set_cons_succ]
                  try simp only [List.set_cons_zero]
                  refine wpAnyH_take (i := 3) (v := ?_) rfl (by kernel_rfl) (by kernel_rfl) (by kernel_rfl) (fun _ _ _ h => h) (Or.inl ⟨by kernel_rfl, fun W hSW => by go_simp; try with_reducible rfl⟩) (by assumption) ?_
                  try simp only [List.getElem_toArray]
                  try simp only [List.getElem_cons_succ]
                  try simp only [List.getElem_cons_zero]
                  try simp only [Act.put]
                  try simp only [List.setIfInBounds_toArray]
                  try simp only [List.set_cons_succ]
                  try simp only [List.set_cons_zero]
                  refine wpAnyH_take (i := 4) (v := ?_) rfl (by kernel_rfl) (by kernel_rfl) (by kernel_rfl) (fun _ _ _ h => h) (Or.inl ⟨by kernel_rfl, fun W hSW => by go_simp; try with_reducible rfl⟩) (by assumption) ?_
                  try simp only [List.getElem_toArray]
                  try simp only [List.getElem_cons_succ]
                  try simp only [List.getElem_cons_zero]
                  try simp only [Act.put]
                  try simp only [List.setIfInBounds_toArray]
                  try simp only [List.set_cons_succ]
                  try simp only [List.set_cons_zero]
                  refine wpAnyH_take (i := 5) (v := ?_) rfl (by kernel_rfl) (by kernel_rfl) (by kernel_rfl) (fun _ _ _ h => h) (Or.inl ⟨by kernel_rfl, fun W hSW => by go_simp; try with_reducible rfl⟩) (by assumption) ?_
                  try simp only [List.getElem_toArray]
                  try simp only [List.getElem_cons_succ]
                  try simp only [List.getElem_cons_zero]
                  try simp only [Act.put]
                  try simp only [List.setIfInBounds_toArray]
                  try simp only [List.set_cons_succ]
                  try simp only [List.set_cons_zero]
                  refine wpAnyH_ready (rs := [6]) (by kernel_rfl) (by simp) ?_
                  refine AllReadyH.cons rfl (fun K hK => ?_) AllReadyH.nil
                  go_simp
                  refine (CA.out _).mono ?_
                  rintro e w5 ⟨rfl, hk5⟩
                  have hS5 : Kept (fun _ => False) U w5 := (Kept.refl (fun _ => False) U).drew.trans hk5
                  clear hk5
                  refine hK.out _ _ (hS5) (fun _ => ?_)
                  clear hK K
                  try simp only [List.getElem_toArray]
                  try simp only [List.getElem_cons_succ]
                  try simp only [List.getElem_cons_zero]
                  try simp only [Act.put]
                  try simp only [List.setIfInBounds_toArray]
                  try simp only [List.set_cons_succ]
                  try simp only [List.set_cons_zero]
                  refine wpAnyH_take (i := 7) (v := .bool false) rfl (by kernel_rfl) (by kernel_rfl) (by kernel_rfl) (fun _ _ _ h => h) (Or.inl ⟨by kernel_rfl, fun W _ => execOp_neq Tryd.eqGuardType23 rfl rfl rfl (HEq.out W)⟩) (by assumption) ?_
                  try simp only [List.getElem_toArray]
                  try simp only [List.getElem_cons_succ]
                  try simp only [List.getElem_cons_zero]
                  try simp only [Act.put]
                  try simp only [List.setIfInBounds_toArray]
                  try simp only [List.set_cons_succ]
                  try simp only [List.set_cons_zero]
                  refine wpAnyH_take (i := 8) (v := ?_) rfl (by kernel_rfl) (by kernel_rfl) (by kernel_rfl) (fun _ _ _ h => h) (Or.inl ⟨by kernel_rfl, fun W hSW => by go_simp; try with_reducible rfl⟩) (by assumption) ?_
                  try simp only [List.getElem_toArray]
                  try simp only [List.getElem_cons_succ]
                  try simp only [List.getElem_cons_zero]
                  try simp only [Act.put]
                  try simp only [List.setIfInBounds_toArray]
                  try simp only [List.set_cons_succ]
                  try simp only [List.set_cons_zero]
                  refine wpAnyH_done (by kernel_rfl) ?_ _
                  have M5 := hid (M4.out.still hS5)
                  clear x0 x1 x2 x3 y0 y1 y2 y3 CA HEq M4 Y4
                  go_wp2
                  exact ⟨⟨k + 1, hkm, by go_num, by rw [hnx'.out]; go_num, M5.out⟩, by simp [intOf]; omega⟩
              · obtain rfl : k = m := by omega
                have hkz : ¬ (k : Int) < (k : Int) := by omega
                have CF := hid HK.out.1.free
                have hsum := lentN_all L'
                rw [HK.out.2.1] at hsum
                have hw1 : IntKind.i64.wrap ((lentN L' k : Int) + (nFree L' : Int)) = (k : Int) := by rw [IntKind.wrap_i64]; omega
                have hb1 : ((k : Int) != (k : Int)) = false := by simp
                clear hsum hlk
                generalize (lentN L' k : Int) = A1 at *
                generalize (nFree L' : Int) = A2 at *
                go_wp2_with fail
                refine CF.out.mono ?_
                rintro e w6 ⟨rfl, _, k6⟩
                have M6 := hid (HK.out.still k6)
                clear k6 CF HK
                go_wp2
                exact ⟨⟨j + 1, L', hlt, by go_num, M6.out⟩, by simp [intOf]; omega⟩
        · obtain rfl : j = l.length := by omega
          have hltz : ¬ (l.length : Int) < (l.length : Int) := by omega
          have hgL := HJ.out.1.good
          have hxn : numAd xN = 167772160 := by decide
          have hwe := who_end (x := xN) HJ.out.2.1 (by omega)
          have CA := hid (HAdd.out (m : Int))
          have CW := hid (fun U (h : PMine w U b xN L) => h.who (addAd xN (m : Int)) _ hwe)
          generalize addAd xN (m : Int) = y at *
          unfold adV keyV at *
          simp only at CW
          obtain ⟨⟨c0, c1, c2, c3⟩, _⟩ := HJ.out.2.2
          clear hwe
          go_wp2_with fail
          refine (CA.out _).mono ?_
          rintro e w2 ⟨rfl, k2⟩
          have M2 := hid (HJ.out.still k2)
          clear k2 c0 c1 c2 c3 HJ CA
          go_wp2_with fail
          refine (CW.out _ M2.out.1).mono ?_
          rintro e w3 ⟨rfl, _, k3⟩
          have M3 := hid (M2.out.still (k3.alloc (.cells #[.int .i64 0, .int .i64 0] 34)))
          clear k3 M2 CW
          go_upto_region 29 with fail
          generalize w3.alloc (.cells #[.int .i64 0, .int .i64 0] 34) = V at *
          go_wp2_with fail
          refine (HA.out _ M3.out.1.kept).mono ?_
          rintro e w4 ⟨rfl, k4⟩
          have M4 := hid (M3.out.still k4)
          clear k4 M3
          go_wp2
          go_ret
          exact ⟨rfl, M4.out.1.kept.below (Nat.le_refl _) (fun _ h => h.elim)⟩
  · have C1 : Hid (∀ W, Calls Tryd.prog 9 #[.agg #[.int .u8 10, .int .u8 0, .int .u8 0, .int .u8 0], .int .i64 n] W fun e w' => e = .returned (.tuple #[.pointer none, .int .i64 1]) ∧ Kept (fun _ => False) W w') := fun W => new_bad xN n hn hg W
    clear hg
    go_enter Tryd.func5, Tryd.ntmps5
    go_upto_region 2 with fail
    generalize w.alloc (.cells #[.int .u8 10, .int .u8 0, .int .u8 0, .int .u8 0] 23) = W at *
    obtain ⟨⟨c0, c1, c2, c3⟩, _⟩ := B0.out
    go_wp2_with fail
    refine (C1.out _).mono ?_
    rintro e w1 ⟨rfl, k1⟩
    have K1 := hid (K0.out.trans k1)
    clear k1 c0 c1 c2 c3 B0 K0 C1
    go_wp2_with fail
    refine (HA.out _ K1.out).mono ?_
    rintro e w2 ⟨rfl, k2⟩
    have K2 := hid (K1.out.trans k2)
    clear k2
    go_wp2
    go_ret
    exact ⟨rfl, K2.out.below (Nat.le_refl _) (fun _ h => h.elim)⟩
end Go.Proofs.YtblcojggjplndaaDoor
