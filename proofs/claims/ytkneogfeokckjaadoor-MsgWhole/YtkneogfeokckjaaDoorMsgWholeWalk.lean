/- The walk of the law MsgWhole. (Written by gen_msgwhole.py.) -/
import Derived.Test.YtkneogfeokckjaaDoorMsIn
import Derived.Test.YtkneogfeokckjaaDoorMsWholeP
import Derived.Deep.CutRange
import Derived.Deep.CutBlock
import Derived.Deep.DeepCutAuto
import Derived.Deep.RegionHeld
namespace Go.Proofs.YtkneogfeokckjaaDoor
open Go.RowKit

/-- How long the text of a value's box is. -/
def strSz (W : World) (b : Nat) : Nat := match W.cell? ⟨b, 4, none⟩ with
  | some (.string s) => s.size
  | _ => 0
theorem strSz_of {W : World} {b : Nat} {x : Av} (h : AvAt W b x) : strSz W b = x.value.size := by
  unfold strSz
  rw [h.cells.2.2.2.2]
theorem kept_own {W0 W W' : World} {base : Nat} {v : Value} {l : List Av} (hk : Kept (fun _ => False) W0 W) (ho : OwnAv W base v l) (hb : W0.heap.size ≤ base) (k : Kept (fun i => v.ownBlock = some i) W W') : Kept (fun _ => False) W0 W' :=
  hk.andThen k (fun i hi h => by have := (OwnG.block ho h).2.1; omega)
/-- 'append' of a list that is read onto a row of a call's own. -/
theorem app_on {W : World} {base : Nat} {v : Value} {l : List Av} (h : OwnAv W base v l) (hb : base ≤ W.heap.size) (p : Option Addr) (n c : Nat) (m : List Av) (hn : n = m.length) (hm : AvsAt W (.slice p n c) m) (hl : l.length + m.length ≤ 1000000) :
    ∃ v' w', AppG Tryd.prog 22 W v (.slice p n c) v' w' ∧ OwnAv w' base v' (l ++ m) ∧ Kept (fun i => v.ownBlock = some i) W w' := by
  subst hn
  exact OwnG.appendList tyAv encAv h hb p c m (fun hne => AvsAt.src hm hne) hl
theorem app_none {W : World} (p : Option Addr) (n c : Nat) (m : List Av) (hn : n = m.length) (hm : AvsAt W (.slice p n c) m) (hl : m.length ≤ 1000000) :
    ∃ v' w', AppG Tryd.prog 22 W (.slice none 0 0) (.slice p n c) v' w' ∧ OwnAv w' W.heap.size v' m ∧ Kept (fun _ => False) W w' := by
  obtain ⟨v', w', h1, h2, h3⟩ := app_on (OwnG.nil (enc := avCells) (k := 5) (e := 43) W W.heap.size) (Nat.le_refl _) p n c m hn hm (by simp; omega)
  exact ⟨v', w', h1, h2, h3.mono (fun i _ e => by simp [Value.ownBlock] at e)⟩
theorem AvsAt.drop {w : World} {g n cap : Nat} {l : List Av} (h : AvsAt w (.slice (some ⟨g, 0, none⟩) n cap) l) (m : Nat) (hm : m ≤ l.length) (hn : n = l.length) : AvsAt w (.slice (some ⟨g, m * 5, none⟩) (n - m) (cap - m)) (l.drop m) := by
  subst hn
  rcases h with ⟨rfl, _⟩ | ⟨g', o', cap', e, h1, h2, hc⟩
  · simp at hm
    subst hm
    exact Or.inl ⟨rfl, _, _, rfl⟩
  · simp only [Value.slice.injEq, Option.some.injEq, Addr.mk.injEq, and_true] at e
    obtain ⟨⟨rfl, rfl⟩, _, rfl⟩ := e
    refine Or.inr ⟨g, m * 5, cap - m, by rw [List.length_drop], by rw [List.length_drop]; omega, by omega, fun j y hj i u hu => ?_⟩
    rw [List.getElem?_drop] at hj
    have := hc (m + j) y hj i u hu
    rw [show 0 + (m + j) * 5 + i = m * 5 + j * 5 + i by omega] at this
    exact this

set_option maxHeartbeats 4000000 in
set_option maxRecDepth 100000 in
theorem msgWhole_not (k d : Int) (h : k < 0 ∨ (¬ k < 0 ∧ 65535 < k)) (w : World) :
    Calls Tryd.prog 4 #[.int .i64 k, .int .i64 d] w fun e w' => e = .returned (.bool true) ∧ Kept (fun _ => False) w w' := by
  have HA := hid aliveM_any
  have HK0 := hid (Kept.refl (fun _ => False) w)
  rcases h with h | ⟨h, h'⟩
  · go_enter Tryd.func4, Tryd.ntmps4
    go_wp2_with fail
    refine (HA.out _).mono ?_
    rintro e w1 ⟨rfl, hk1⟩
    have HK1 := hid (HK0.out.trans hk1)
    clear hk1
    go_wp2
    go_ret
    exact ⟨rfl, HK1.out⟩
  · go_enter Tryd.func4, Tryd.ntmps4
    go_wp2_with fail
    refine (HA.out _).mono ?_
    rintro e w1 ⟨rfl, hk1⟩
    have HK1 := hid (HK0.out.trans hk1)
    clear hk1
    go_wp2
    go_ret
    exact ⟨rfl, HK1.out⟩

set_option maxHeartbeats 8000000 in
set_option maxRecDepth 100000 in
theorem msgWhole_main (k d : Int) (h0 : 0 ≤ k) (h1 : k ≤ 65535) (_hd : -9223372036854775808 ≤ d ∧ d ≤ 9223372036854775807) (w : World) :
    Calls Tryd.prog 4 #[.int .i64 k, .int .i64 d] w fun e w' => e = .returned (.bool true) ∧ Kept (fun _ => False) w w' := by
  have HA := hid aliveM_any
  have HNe := hid (fun W => mNeeds_any k W)
  have HLe := hid (fun z (hz : AvLit.In64 z) W => length_any z hz W)
  have HMk := hid (fun W u L (hu : AvsAt W u L) (hl : L.length ≤ 100) => make_any k u L W hu (by omega))
  have HCk := hid (fun W u (L : List Av) (hu : AvsAt W u (headK k :: L)) (hl : L.length ≤ 100) (hs : ∀ x ∈ L, SmallA x) => check_any 0 0 0 0 u (headK k :: L) W hu (by rw [List.length_cons]; omega) (fun x hx => by
    rcases List.mem_cons.1 hx with rfl | hx
    · exact (good_head k).1
    · exact (hs x hx).good.1) (fun x hx => by
    rcases List.mem_cons.1 hx with rfl | hx
    · exact (good_head k).2
    · exact (hs x hx).good.2))
  have hN4 := needsF_le k
  have HW := hid (show wholeL k = (needsF k).map valF from rfl)
  have HSm := hid (small_whole k)
  have Hall := hid (needs_len k)
  have HU := hid (fun (h : knownB k = false) => And.intro (needs_unknown h) (whole_unknown h0 h1 h))
  have HY := hid (fun (h : knownB k = true) => whole_parts h)
  have h0z : ¬ k < 0 := by omega
  have h1z : ¬ 65535 < k := by omega
  obtain ⟨ks, hks⟩ : ∃ ks, ks = needsF k := ⟨_, rfl⟩
  rw [← hks] at HNe HW Hall hN4 HU
  clear hks
  go_enter Tryd.func4, Tryd.ntmps4
  go_wp2_with fail
  refine (HNe.out _).mono ?_
  rintro e w1 ⟨v1, rfl, ho1, hk1⟩
  obtain ⟨p1, c1, rfl⟩ := slice_of ho1
  have HO1 := hid (OwnN.z ho1)
  have HK1 := hid hk1
  clear ho1 hk1 HNe
  go_wp2
  go_loopw [6, 7] (fun va vi wr => ∃ j : Nat, j ≤ ks.length ∧ vi = .int .i64 (j : Int) ∧ Hid (OwnAv wr w1.heap.size va ((ks.take j).map valF) ∧ Kept (fun _ => False) w1 wr)) (fun _ vi _ => ks.length - (intOf vi).toNat)
  case atStart => exact ⟨0, Nat.zero_le _, rfl, OwnG.nil _ _, Kept.refl _ _⟩
  case round =>
    obtain ⟨j, hj, rfl, HI⟩ := hrel
    by_cases hlt : j < ks.length
    · have hltz : (j : Int) < (ks.length : Int) := by omega
      obtain ⟨x, hx⟩ : ∃ x, ks[j]? = some x := ⟨ks[j], by simp [hlt]⟩
      have hxl := Hall.out x (List.mem_of_getElem? hx)
      simp only [lenOk, Bool.and_eq_true, decide_eq_true_eq, bne_iff_ne] at hxl
      obtain ⟨hn2, hn100, hx0, hx100⟩ := hxl
      have HT := hid (show (ks.take (j + 1)).map valF = (ks.take j).map valF ++ [valF x] from by rw [take_next hx, List.map_append]; rfl)
      have HV := hid (show valF x = ⟨true, false, 0, x, xsN (lengthF x).toNat⟩ from rfl)
      have HLn := hid (fun W => HLe.out x ⟨by omega, by omega⟩ W)
      obtain ⟨g1, hp1, hz1, hz2, hz3, hz4, hcell, hfz⟩ := OwnG.at (OwnG.kept0 HO1.out HI.out.2) encN hx
      subst hp1
      have k0 := hcell 0 _ rfl
      rw [Nat.mul_one, Nat.add_zero] at k0
      have HOa := hid HI.out.1
      have HKa := hid HI.out.2
      have Hcell : Hid (∀ W, Kept (fun _ => False) wr W → W.cell? ⟨g1, j, none⟩ = some (.int .i64 x)) := fun W hk => (hk.cell (lt_of_cell k0) id).trans k0
      have HL64 := hid (show (((ks.take j).map valF).length ≤ 100) from by rw [List.length_map, List.length_take]; omega)
      obtain ⟨La, hLa⟩ : ∃ La, La = (ks.take j).map valF := ⟨_, rfl⟩
      rw [← hLa] at HOa HT HL64
      have HHH := hid hz3
      clear hz1 hz2 hz4 hcell hfz HI hx hLa
      generalize lengthF x = n at *
      go_upto_region 9 with fail
      have HB0 := hid (AvAt.new wr ⟨true, false, 0, x, ⟨#[]⟩⟩)
      have HK0 := hid ((Kept.refl (fun _ => False) wr).alloc (.cells #[.bool true, .bool false, .int .i64 0, .int .i64 x, .string ⟨#[]⟩] 43))
      dsimp only at HB0
      generalize wr.alloc (.cells #[.bool true, .bool false, .int .i64 0, .int .i64 x, .string ⟨#[]⟩] 43) = W0 at *
      have HBn := hid (show w1.heap.size ≤ wr.heap.size from HKa.out.size)
      have HNb : Hid (∀ i, u6.ownBlock = some i → i < wr.heap.size) := fun i hi => (OwnG.block HOa.out hi).2.2
      generalize wr.heap.size = b at *
      have k1 := Hcell.out W0 HK0.out
      clear k0
      go_wp2_with fail
      refine (HLn.out _).mono ?_
      rintro e w2 ⟨rfl, hk2⟩
      have HB2 := hid (HB0.out.kept0 hk2)
      have HK2 := hid (HK0.out.trans hk2)
      have hnz : (n == -2) = false := by rw [beq_eq_false_iff_ne]; exact hn2
      clear hk2 HB0 HK0 k1 HLn hn2
      go_wp2
      go_loopw [] (fun wi => ∃ m : Nat, m ≤ n.toNat ∧ AvAt wi b ⟨true, false, 0, x, xsN m⟩ ∧ Hid (Kept (fun i => i = b) w2 wi)) (fun wi => n.toNat - strSz wi b)
      case atStart => exact ⟨0, Nat.zero_le _, HB2.out, Kept.refl _ _⟩
      case round =>
        obtain ⟨m, hm, hav, HKi⟩ := hrel
        have HAv := hid hav
        obtain ⟨b0, b1, b2, b3, b4⟩ := hav.cells
        have f4 := hav.frozen 4
        obtain ⟨S, hS⟩ : ∃ S, S = xsN m := ⟨_, rfl⟩
        have hSz : S.size = m := by rw [hS, xsN_size]
        have HSx := hid hS
        dsimp only at b0 b1 b2 b3 b4
        rw [← hS] at b4
        clear hS hav
        by_cases hlm : m < n.toNat
        · have hmz : (S.size : Int) < n := by omega
          have o1 : ¬ (9223372036854775807 < S.size + 1) := by omega
          have hbi : strSz wr b = m := by rw [strSz_of HAv.out, xsN_size]
          have HNx := hid (show xsN (m + 1) = S ++ ⟨#[120]⟩ from by rw [HSx.out]; rfl)
          have HA2 := hid (AvAt.setValue HAv.out (S ++ ⟨#[120]⟩))
          have HK3 := hid (HKi.out.setCell (p := ⟨b, 4, none⟩) (Or.inr rfl) (.string (S ++ ⟨#[120]⟩)))
          have HSz := hid hSz
          have HS0 := hid hbi
          clear hSz hm hbi
          go_wp2
          exact ⟨⟨m + 1, hlm, by rw [HNx.out]; exact HA2.out, HK3.out⟩, by rw [strSz_of HA2.out, HS0.out]; show n.toNat - (S ++ ⟨#[120]⟩).size < n.toNat - m; rw [ByteArray.size_append, HSz.out, show (⟨#[120]⟩ : ByteArray).size = 1 from rfl]; omega⟩
        · obtain rfl : m = n.toNat := by omega
          have hmz : ¬ (S.size : Int) < n := by omega
          have hVx := HV.out
          rw [← HSx.out] at hVx
          have HO2 := OwnG.kept0 HOa.out HK2.out
          have HOi := OwnG.keptS HO2 HKi.out (fun i hi e => by have := HNb.out i hi; omega)
          have hKw := ((HKa.out.trans HK2.out).andThen HKi.out (fun i hi e => by have := HBn.out; omega)).alloc (.cells #[.bool true, .bool false, .int .i64 0, .int .i64 x, .string S] 43)
          obtain ⟨v', w', happ, ho', hk'⟩ := app_on (OwnAv.alloc HOi (.cells #[.bool true, .bool false, .int .i64 0, .int .i64 x, .string S] 43)) hKw.size (some ⟨wr.heap.size, 0, none⟩) 1 1 [⟨true, false, 0, x, S⟩] rfl (avs_one wr ⟨true, false, 0, x, S⟩) (by have := HL64.out; simp; omega)
          have HK' := hid (kept_own hKw (OwnAv.alloc HOi _) (Nat.le_refl _) hk')
          rw [← hVx, ← HT.out] at ho'
          have HO' := hid ho'
          have Happ := hid happ
          clear HO2 HOi hKw happ ho' hk' hVx hm hlm hSz
          go_wp2_with (at_builtin; refine Lib.wpList_append_run _ rfl _ _ _ _ rfl _ _ rfl rfl _ _ (Happ.out _) ?_)
          go_wp2
          exact ⟨⟨j + 1, hlt, by go_num, HO'.out, HK'.out⟩, by simp [intOf]; omega⟩
    · obtain rfl : j = ks.length := by omega
      have hltz : ¬ (ks.length : Int) < (ks.length : Int) := by omega
      have hO := HI.out.1
      rw [List.take_length, ← HW.out] at hO
      obtain ⟨pa, ca, rfl⟩ := slice_of hO
      have HO := hid hO
      have HK := hid HI.out.2
      have HNl := hid (show (wholeL k).length = ks.length from by rw [HW.out, List.length_map])
      clear hO HI hlt hj
      have HOz := hid HO1.out
      go_upto_region 15 with fail
      go_cut [10] from 55 to 68 (fun v wx => v = .bool (knownB k) ∧ wx = wr)
      case first =>
        have hcase : (¬ 1 ≤ k) ∨ (1 ≤ k ∧ ¬ k ≤ 16) ∨ (1 ≤ k ∧ k ≤ 16 ∧ k = 5) ∨ (1 ≤ k ∧ k ≤ 16 ∧ k ≠ 5 ∧ k = 13) ∨ (1 ≤ k ∧ k ≤ 16 ∧ k ≠ 5 ∧ k ≠ 13) := by omega
        have HC := hid hcase
        clear hcase
        rcases HC.out with g | ⟨g, g'⟩ | ⟨g, g', g5⟩ | ⟨g, g', g5, g13⟩ | ⟨g, g', g5, g13⟩
        · have HR := hid (show knownB k = false from by simp [knownB]; omega)
          go_wp2
          go_meet
          exact ⟨by rw [HR.out], rfl⟩
        · have HR := hid (show knownB k = false from by simp [knownB]; omega)
          go_wp2
          go_meet
          exact ⟨by rw [HR.out], rfl⟩
        · have HR := hid (show knownB k = false from by simp [knownB]; omega)
          have e5 : (k != 5) = false := by rw [g5]; rfl
          clear g5
          go_wp2
          go_meet
          exact ⟨by rw [HR.out], rfl⟩
        · have HR := hid (show knownB k = false from by simp [knownB]; omega)
          have e5 : (k != 5) = true := by rw [bne_iff_ne]; exact g5
          have e13 : (k != 13) = false := by rw [g13]; rfl
          clear g5 g13
          go_wp2
          go_meet
          exact ⟨by rw [HR.out], rfl⟩
        · have HR := hid (show knownB k = true from by simp [knownB]; omega)
          have e5 : (k != 5) = true := by rw [bne_iff_ne]; exact g5
          have e13 : (k != 13) = true := by rw [bne_iff_ne]; exact g13
          clear g5 g13
          go_wp2
          go_meet
          exact ⟨by rw [HR.out], rfl⟩
      obtain ⟨rfl, hwx⟩ := hcut
      rw [hwx]
      clear hwx
      have HM0 := hid (HMk.out wr (.slice pa (wholeL k).length ca) (wholeL k) (OwnAv.at HO.out) (by rw [HNl.out]; omega))
      have Hhd := hid (show k = k from rfl)
      cases hB : knownB k with
      | false =>
        obtain ⟨hks, hck⟩ := HU.out hB
        subst hks
        have hw : wholeL k = [] := HW.out
        rw [hw] at HM0 HO ⊢
        have HCk0 := hid hck
        clear hck hw hB
        go_wp2_with fail
        refine HM0.out.mono ?_
        rintro e w5 ⟨v5, rfl, ho5, hk5⟩
        obtain ⟨p5, c5, rfl⟩ := slice_of ho5
        have HO5 := hid ho5
        have HK5 := hid (HK.out.trans hk5)
        clear ho5 hk5
        go_wp2_with fail
        refine (HCk.out _ _ [] (OwnAv.at HO5.out) (by decide) (fun x hx => by cases hx)).mono ?_
        rintro e w6 ⟨rfl, hk6⟩
        rw [HCk0.out]
        have HK6 := hid (HK1.out.trans (HK5.out.trans hk6))
        clear hk6
        go_wp2_with fail
        refine (HA.out _).mono ?_
        rintro e w7 ⟨rfl, hk7⟩
        have HK7 := hid (HK6.out.trans hk7)
        clear hk7
        go_wp2
        go_ret
        exact ⟨rfl, HK7.out⟩
      | true =>
        have HP := hid (HY.out hB)
        have HSa := hid (HSm.out)
        generalize wholeL k = X at *
        clear hB
        go_wp2_with fail
        refine HM0.out.mono ?_
        rintro e w5 ⟨v5, rfl, ho5, hk5⟩
        obtain ⟨p5, c5, rfl⟩ := slice_of ho5
        have HO5 := hid ho5
        have HK5 := hid hk5
        clear ho5 hk5
        go_wp2_with fail
        refine (HCk.out _ _ X (OwnAv.at HO5.out) (by rw [HNl.out]; omega) HSa.out).mono ?_
        rintro e w6 ⟨rfl, hk6⟩
        rw [HP.out.1]
        have HK6 := hid (HK5.out.trans hk6)
        have HK16 := hid (HK1.out.trans (HK.out.trans HK6.out))
        have HAt := hid (show ∀ W, Kept (fun _ => False) w6 W → AvsAt W (.slice pa X.length ca) X from fun W hk => RowsAt.kept0 (OwnAv.at HO.out) (HK6.out.trans hk))
        have HX4 := hid (show X.length ≤ 4 by rw [HNl.out]; exact hN4)
        clear hk6 HO5 HK5
        by_cases hX : X.length = 0
        · obtain rfl := List.length_eq_zero_iff.1 hX
          clear hX
          go_wp2_with fail
          refine (HA.out _).mono ?_
          rintro e w7 ⟨rfl, hk7⟩
          have HK7 := hid (HK16.out.trans hk7)
          clear hk7
          go_wp2
          go_ret
          exact ⟨rfl, HK7.out⟩
        · obtain ⟨g, go, rfl, hca, _⟩ := AvsAt.at5 (HAt.out w6 (Kept.refl _ _)) (j := 0) (x := X[0]'(by omega)) (by simp)
          have HO0 := hid (show go = 0 from by
            obtain ⟨g', hg, _⟩ := OwnG.at HO.out encAv (j := 0) (x := X[0]'(by omega)) (by simp)
            simp at hg
            omega)
          obtain rfl := HO0.out
          clear HO0
          obtain ⟨N, hN⟩ : ∃ N, N = X.length := ⟨_, rfl⟩
          rw [← hN] at hca hX HAt HX4 HP ⊢
          have HNX := hid hN
          clear hN
          have hN0 : 0 < N := by omega
          have hN0z : (0 : Int) < (N : Int) := by omega
          have hNne : ((N : Int) == 0) = false := by rw [beq_eq_false_iff_ne]; omega
          have hN4' : N ≤ 4 := HX4.out
          clear hX
          obtain ⟨t, ht⟩ : ∃ t, t = d.tmod (N : Int) := ⟨_, rfl⟩
          have ht1 : t < (N : Int) := by rw [ht]; exact Int.tmod_lt_of_pos d (by omega)
          have ht2 : -(N : Int) < t := by
            have := Int.tmod_lt_of_pos (-d) (show (0 : Int) < (N : Int) by omega)
            rw [Int.neg_tmod, ← ht] at this
            omega
          have ht' := ht.symm
          clear ht
          go_upto_if 97 with fail
          go_cut [1] from 98 to 101 (fun v wx => ∃ D : Nat, D < N ∧ v = .int .i64 (D : Int) ∧ wx = w6)
          case first =>
            by_cases hneg : t < 0
            · have hw : IntKind.i64.wrap (t + (N : Int)) = t + (N : Int) := by rw [IntKind.wrap_i64]; omega
              go_wp2
              go_meet
              exact ⟨(t + (N : Int)).toNat, by omega, by rw [Int.toNat_of_nonneg (by omega)], rfl⟩
            · go_wp2
              go_meet
              exact ⟨t.toNat, by omega, by rw [Int.toNat_of_nonneg (by omega)], rfl⟩
          obtain ⟨D, hD, rfl, hwx⟩ := hcut
          rw [hwx]
          clear hwx
          have hw1 : IntKind.i64.wrap ((D : Int) + 1) = ((D + 1 : Nat) : Int) := by rw [IntKind.wrap_i64]; omega
          have hDN : (D : Int) + 1 ≤ (N : Int) := by omega
          have hDc : (D : Int) + 1 ≤ (ca : Int) := by omega
          have hDc0 : (D : Int) ≤ (ca : Int) := by omega
          have hNc : (N : Int) ≤ (ca : Int) := by omega
          clear ht1 ht2 ht'
          go_upto_region 26 with fail
          obtain ⟨q, hq⟩ : ∃ q : Option Addr, q = if ca = D + 1 then some ⟨g, 0, none⟩ else some ⟨g, (D + 1) * 5, none⟩ := ⟨_, rfl⟩
          have hDN' : D + 1 ≤ X.length := by rw [← HNX.out]; omega
          have HTl := hid (show ∀ W, Kept (fun _ => False) w6 W → AvsAt W (.slice q (N - (D + 1)) (ca - (D + 1))) (X.drop (D + 1)) from fun W hk => by
            by_cases hc : ca = D + 1
            · have hN1 : N = D + 1 := by omega
              have hnil : X.drop (D + 1) = [] := List.drop_eq_nil_of_le (by rw [← HNX.out]; omega)
              rw [hnil, hN1, Nat.sub_self]
              exact Or.inl ⟨rfl, _, _, rfl⟩
            · rw [hq, if_neg hc]
              exact AvsAt.drop (HAt.out W hk) (D + 1) hDN' HNX.out)
          have hq' := hq.symm
          have h0D : (0 : Int) ≤ (D : Int) + 1 := by omega
          have kd : Kept (fun _ => False) w6 w6.drew := (Kept.refl (fun _ => False) w6).drew
          obtain ⟨va1, wa1, happ1, hoa1, hka1⟩ := app_none (W := w6.drew) (some ⟨g, 0, none⟩) D ca (X.take D) (by rw [List.length_take]; omega) (AvsAt.take (HAt.out _ kd) (by omega)) (by rw [List.length_take]; have := HX4.out; have := HNX.out; omega)
          have hS1 : Kept (fun _ => False) w6 wa1 := kd.trans hka1
          obtain ⟨pa1, ca1, rfl⟩ := slice_of hoa1
          have hb1 : w6.drew.heap.size ≤ wa1.heap.size := hka1.size
          obtain ⟨va2, wa2, happ2, hoa2, hka2⟩ := app_on hoa1 hb1 q (N - (D + 1)) (ca - (D + 1)) (X.drop (D + 1)) (by rw [List.length_drop, ← HNX.out]) (HTl.out wa1 hS1) (by rw [List.length_take, List.length_drop]; have := HX4.out; have := HNX.out; omega)
          have hS2 : Kept (fun _ => False) w6 wa2 := kept_own hS1 hoa1 (show w6.heap.size ≤ w6.drew.heap.size from kd.size) hka2
          obtain ⟨pa2, ca2, rfl⟩ := slice_of hoa2
          have HSm2 := hid (show ∀ x ∈ X.take D ++ X.drop (D + 1), SmallA x from fun x hx => by
            rcases List.mem_append.1 hx with hx | hx
            · exact HSa.out x (List.mem_of_mem_take hx)
            · exact HSa.out x (List.mem_of_mem_drop hx))
          have HLl := hid (show (X.take D ++ X.drop (D + 1)).length ≤ 100 from by rw [List.length_append, List.length_take, List.length_drop]; have := HX4.out; have := HNX.out; omega)
          have HEq := hid (HP.out.2.1 D (by omega))
          have HP2 := hid HP.out.2.2
          obtain ⟨Y, hY⟩ : ∃ Y, Y = X.take D ++ X.drop (D + 1) := ⟨_, rfl⟩
          rw [← hY] at hoa2 happ2 HSm2 HLl HEq
          have HMa := hid (HMk.out wa2 _ Y (OwnAv.at hoa2) HLl.out)
          have Happ1 := hid happ1
          have Happ2 := hid happ2
          have HCaF := hid (fun W u (hu : AvsAt W u (headK k :: Y)) => HCk.out W u Y hu HLl.out HSm2.out)
          rw [HEq.out] at HCaF
          generalize Y.length = nY at *
          generalize (X.take D).length = nT at *
          clear hq hka1 hka2 happ1 happ2 hY HTl hoa1 hoa2 hb1 hDN' HP kd hD hca hN4' hN0 HLl HEq HSm2
          refine wp_region_held_drew (S := Kept (fun _ => False) w6) (by kernel_rfl) ((Kept.refl (fun _ => False) w6).drew) (fun hSd => ?_)
          refine wpAnyH_take (i := 0) (v := ?_) rfl (by kernel_rfl) (by kernel_rfl) (by kernel_rfl) (fun _ _ _ h => h) (Or.inl ⟨by kernel_rfl, fun W hSW => by go_simp; try with_reducible rfl⟩) (by assumption) ?_
          try simp only [List.getElem_toArray]
          try simp only [List.getElem_cons_succ]
          try simp only [List.getElem_cons_zero]
          try simp only [Act.put]
          try simp only [List.setIfInBounds_toArray]
          try simp only [List.set_cons_succ]
          try simp only [List.set_cons_zero]
          refine wpAnyH_take (i := 1) (v := ?_) rfl (by kernel_rfl) (by kernel_rfl) (by kernel_rfl) (fun _ _ _ h => h) (Or.inl ⟨by kernel_rfl, fun W hSW => by go_simp; try with_reducible rfl⟩) (by assumption) ?_
          try simp only [List.getElem_toArray]
          try simp only [List.getElem_cons_succ]
          try simp only [List.getElem_cons_zero]
          try simp only [Act.put]
          try simp only [List.setIfInBounds_toArray]
          try simp only [List.set_cons_succ]
          try simp only [List.set_cons_zero]
          refine wpAnyH_take (i := 2) (v := ?_) rfl (by kernel_rfl) (by kernel_rfl) (by kernel_rfl) (fun _ _ _ h => h) (Or.inl ⟨by kernel_rfl, fun W hSW => by go_simp; try with_reducible rfl⟩) (by assumption) ?_
          try simp only [List.getElem_toArray]
          try simp only [List.getElem_cons_succ]
          try simp only [List.getElem_cons_zero]
          try simp only [Act.put]
          try simp only [List.setIfInBounds_toArray]
          try simp only [List.set_cons_succ]
          try simp only [List.set_cons_zero]
          refine wpAnyH_take (i := 3) (v := (.slice (some ⟨g, 0, none⟩) D ca)) rfl (by kernel_rfl) (by kernel_rfl) (by kernel_rfl) (fun _ _ _ h => h) (Or.inl ⟨by kernel_rfl, fun W hSW => by go_simp; try with_reducible rfl⟩) (by assumption) ?_
          try simp only [List.getElem_toArray]
          try simp only [List.getElem_cons_succ]
          try simp only [List.getElem_cons_zero]
          try simp only [Act.put]
          try simp only [List.setIfInBounds_toArray]
          try simp only [List.set_cons_succ]
          try simp only [List.set_cons_zero]
          refine wpAnyH_take (i := 5) (v := ?_) rfl (by kernel_rfl) (by kernel_rfl) (by kernel_rfl) (fun _ _ _ h => h) (Or.inl ⟨by kernel_rfl, fun W hSW => by go_simp; try with_reducible rfl⟩) (by assumption) ?_
          try simp only [List.getElem_toArray]
          try simp only [List.getElem_cons_succ]
          try simp only [List.getElem_cons_zero]
          try simp only [Act.put]
          try simp only [List.setIfInBounds_toArray]
          try simp only [List.set_cons_succ]
          try simp only [List.set_cons_zero]
          refine wpAnyH_take (i := 6) (v := ?_) rfl (by kernel_rfl) (by kernel_rfl) (by kernel_rfl) (fun _ _ _ h => h) (Or.inl ⟨by kernel_rfl, fun W hSW => by go_simp; try with_reducible rfl⟩) (by assumption) ?_
          try simp only [List.getElem_toArray]
          try simp only [List.getElem_cons_succ]
          try simp only [List.getElem_cons_zero]
          try simp only [Act.put]
          try simp only [List.setIfInBounds_toArray]
          try simp only [List.set_cons_succ]
          try simp only [List.set_cons_zero]
          refine wpAnyH_take (i := 7) (v := (.int .i64 ((D + 1 : Nat) : Int))) rfl (by kernel_rfl) (by kernel_rfl) (by kernel_rfl) (fun _ _ _ h => h) (Or.inl ⟨by kernel_rfl, fun W hSW => by go_simp; try with_reducible rfl⟩) (by assumption) ?_
          try simp only [List.getElem_toArray]
          try simp only [List.getElem_cons_succ]
          try simp only [List.getElem_cons_zero]
          try simp only [Act.put]
          try simp only [List.setIfInBounds_toArray]
          try simp only [List.set_cons_succ]
          try simp only [List.set_cons_zero]
          refine wpAnyH_take (i := 8) (v := (.slice q (N - (D + 1)) (ca - (D + 1)))) rfl (by kernel_rfl) (by kernel_rfl) (by kernel_rfl) (fun _ _ _ h => h) (Or.inl ⟨by kernel_rfl, fun W hSW => by go_simp; try with_reducible rfl⟩) (by assumption) ?_
          try simp only [List.getElem_toArray]
          try simp only [List.getElem_cons_succ]
          try simp only [List.getElem_cons_zero]
          try simp only [Act.put]
          try simp only [List.setIfInBounds_toArray]
          try simp only [List.set_cons_succ]
          try simp only [List.set_cons_zero]
          refine wpAnyH_ready (rs := [4]) (by kernel_rfl) (by simp) ?_
          refine AllReadyH.cons rfl (fun K hK => ?_) AllReadyH.nil
          refine stepG_append rfl (.const (.slice none 0 0)) (.tmp 105) 22 rfl (.slice none 0 0) (.slice (some ⟨g, 0, none⟩) D ca) rfl rfl (Happ1.out _) ?_
          refine hK.out _ _ (hS1) (fun _ => ?_)
          clear hK K
          try simp only [List.getElem_toArray]
          try simp only [List.getElem_cons_succ]
          try simp only [List.getElem_cons_zero]
          try simp only [Act.put]
          try simp only [List.setIfInBounds_toArray]
          try simp only [List.set_cons_succ]
          try simp only [List.set_cons_zero]
          refine wpAnyH_ready (rs := [9]) (by kernel_rfl) (by simp) ?_
          refine AllReadyH.cons rfl (fun K hK => ?_) AllReadyH.nil
          refine stepG_append rfl (.tmp 106) (.tmp 110) 22 rfl (.slice pa1 nT ca1) (.slice q (N - (D + 1)) (ca - (D + 1))) rfl rfl (Happ2.out _) ?_
          refine hK.out _ _ (hS2) (fun _ => ?_)
          clear hK K
          try simp only [List.getElem_toArray]
          try simp only [List.getElem_cons_succ]
          try simp only [List.getElem_cons_zero]
          try simp only [Act.put]
          try simp only [List.setIfInBounds_toArray]
          try simp only [List.set_cons_succ]
          try simp only [List.set_cons_zero]
          refine wpAnyH_ready (rs := [10]) (by kernel_rfl) (by simp) ?_
          refine AllReadyH.cons rfl (fun K hK => ?_) AllReadyH.nil
          go_simp
          refine HMa.out.mono ?_
          rintro e wa3 ⟨va3, rfl, hoa3, hka3⟩
          obtain ⟨pa3, ca3, rfl⟩ := slice_of hoa3
          have hS3 : Kept (fun _ => False) w6 wa3 := hS2.trans hka3
          have HCa := hid (HCaF.out _ _ (OwnAv.at hoa3))
          generalize (headK k :: Y).length = nH at *
          clear hka3 hoa3
          refine hK.out _ _ (hS3) (fun _ => ?_)
          clear hK K
          try simp only [List.getElem_toArray]
          try simp only [List.getElem_cons_succ]
          try simp only [List.getElem_cons_zero]
          try simp only [Act.put]
          try simp only [List.setIfInBounds_toArray]
          try simp only [List.set_cons_succ]
          try simp only [List.set_cons_zero]
          refine wpAnyH_take (i := 11) (v := ?_) rfl (by kernel_rfl) (by kernel_rfl) (by kernel_rfl) (fun _ _ _ h => h) (Or.inl ⟨by kernel_rfl, fun W hSW => by go_simp; try with_reducible rfl⟩) (by assumption) ?_
          try simp only [List.getElem_toArray]
          try simp only [List.getElem_cons_succ]
          try simp only [List.getElem_cons_zero]
          try simp only [Act.put]
          try simp only [List.setIfInBounds_toArray]
          try simp only [List.set_cons_succ]
          try simp only [List.set_cons_zero]
          refine wpAnyH_ready (rs := [12]) (by kernel_rfl) (by simp) ?_
          refine AllReadyH.cons rfl (fun K hK => ?_) AllReadyH.nil
          go_simp
          refine HCa.out.mono ?_
          rintro e wa4 ⟨rfl, hka4⟩
          have hS4 : Kept (fun _ => False) w6 wa4 := hS3.trans hka4
          clear hka4
          refine hK.out _ _ (hS4) (fun _ => ?_)
          clear hK K
          try simp only [List.getElem_toArray]
          try simp only [List.getElem_cons_succ]
          try simp only [List.getElem_cons_zero]
          try simp only [Act.put]
          try simp only [List.setIfInBounds_toArray]
          try simp only [List.set_cons_succ]
          try simp only [List.set_cons_zero]
          refine wpAnyH_take (i := 13) (v := ?_) rfl (by kernel_rfl) (by kernel_rfl) (by kernel_rfl) (fun _ _ _ h => h) (Or.inl ⟨by kernel_rfl, fun W hSW => by go_simp; try with_reducible rfl⟩) (by assumption) ?_
          try simp only [List.getElem_toArray]
          try simp only [List.getElem_cons_succ]
          try simp only [List.getElem_cons_zero]
          try simp only [Act.put]
          try simp only [List.setIfInBounds_toArray]
          try simp only [List.set_cons_succ]
          try simp only [List.set_cons_zero]
          refine wpAnyH_done (by kernel_rfl) ?_ _
          have HKa4 := hid hS4
          clear hS1 hS2 hS3 hS4 Happ1 Happ2 HMa HCa HCaF hSd hq' hw1 hDc hDc0 h0D hDN
          obtain ⟨vb7, wb7, happ7, hob7, hkb7⟩ := app_none (W := wa4) (some ⟨g, 0, none⟩) N ca X HNX.out (HAt.out _ HKa4.out) (by rw [← HNX.out]; have := HX4.out; omega)
          have hT7 : Kept (fun _ => False) w6 wb7 := HKa4.out.trans hkb7
          have kb7 := (Kept.refl (fun _ => False) wb7).alloc (.cells #[.bool false, .bool false, .int .i64 9, .int .i64 1, .string ⟨#[]⟩] 43)
          have hoc7 := OwnAv.alloc hob7 (.cells #[.bool false, .bool false, .int .i64 9, .int .i64 1, .string ⟨#[]⟩] 43)
          obtain ⟨vc7, wc7, happc7, hod7, hkc7⟩ := app_on hoc7 (Nat.le_trans hkb7.size kb7.size) (some ⟨wb7.heap.size, 0, none⟩) 1 1 [av9 false] rfl (avs_one wb7 (av9 false)) (by rw [← HNX.out]; have := HX4.out; simp; omega)
          have HU7 := hid (kept_own (hT7.trans kb7) hoc7 HKa4.out.size hkc7)
          obtain ⟨pb7, cb7, rfl⟩ := slice_of hob7
          obtain ⟨pc7, cc7, rfl⟩ := slice_of hod7
          have HMb7 := hid (HMk.out wc7 _ (X ++ [av9 false]) (OwnAv.at hod7) (by rw [List.length_append, ← HNX.out]; have := HX4.out; simp; omega))
          have HCb7 := hid (fun W u (hu : AvsAt W u (headK k :: (X ++ [av9 false]))) => HCk.out W u (X ++ [av9 false]) hu (by rw [List.length_append, ← HNX.out]; have := HX4.out; simp; omega) (fun x hx => by
            rcases List.mem_append.1 hx with hx | hx
            · exact HSa.out x hx
            · obtain rfl := List.mem_singleton.1 hx
              exact small_av9 _))
          rw [HP2.out.1] at HCb7
          have Hp7 := hid happ7
          have Hq7 := hid happc7
          rw [← HNX.out] at Hp7 Hq7
          clear happ7 hob7 hkb7 hT7 kb7 hoc7 happc7 hod7 hkc7
          generalize (X ++ [av9 false]).length = nb7 at *
          go_wp2_with (at_builtin; first | (refine Lib.wpList_append_run _ rfl _ _ _ _ rfl _ _ rfl rfl _ _ (Hp7.out _) ?_; clear Hp7) | (refine Lib.wpList_append_run _ rfl _ _ _ _ rfl _ _ rfl rfl _ _ (Hq7.out _) ?_; clear Hq7))
          refine HMb7.out.mono ?_
          rintro e we7 ⟨ve7, rfl, hoe7, hke7⟩
          obtain ⟨pe7, ce7, rfl⟩ := slice_of hoe7
          have HCc7 := hid (HCb7.out _ _ (OwnAv.at hoe7))
          generalize (headK k :: (X ++ [av9 false])).length = nh7 at *
          have HV7 := hid (HU7.out.trans hke7)
          clear hoe7 hke7
          go_wp2_with fail
          refine HCc7.out.mono ?_
          rintro e wf7 ⟨rfl, hkf7⟩
          have HKf7 := hid (HV7.out.trans hkf7)
          clear hkf7 HMb7 HCb7 HCc7 HU7 HV7
          obtain ⟨vb8, wb8, happ8, hob8, hkb8⟩ := app_none (W := wf7) (some ⟨g, 0, none⟩) N ca X HNX.out (HAt.out _ HKf7.out) (by rw [← HNX.out]; have := HX4.out; omega)
          have hT8 : Kept (fun _ => False) w6 wb8 := HKf7.out.trans hkb8
          have kb8 := (Kept.refl (fun _ => False) wb8).alloc (.cells #[.bool true, .bool false, .int .i64 9, .int .i64 1, .string ⟨#[]⟩] 43)
          have hoc8 := OwnAv.alloc hob8 (.cells #[.bool true, .bool false, .int .i64 9, .int .i64 1, .string ⟨#[]⟩] 43)
          obtain ⟨vc8, wc8, happc8, hod8, hkc8⟩ := app_on hoc8 (Nat.le_trans hkb8.size kb8.size) (some ⟨wb8.heap.size, 0, none⟩) 1 1 [av9 true] rfl (avs_one wb8 (av9 true)) (by rw [← HNX.out]; have := HX4.out; simp; omega)
          have HU8 := hid (kept_own (hT8.trans kb8) hoc8 HKf7.out.size hkc8)
          obtain ⟨pb8, cb8, rfl⟩ := slice_of hob8
          obtain ⟨pc8, cc8, rfl⟩ := slice_of hod8
          have HMb8 := hid (HMk.out wc8 _ (X ++ [av9 true]) (OwnAv.at hod8) (by rw [List.length_append, ← HNX.out]; have := HX4.out; simp; omega))
          have HCb8 := hid (fun W u (hu : AvsAt W u (headK k :: (X ++ [av9 true]))) => HCk.out W u (X ++ [av9 true]) hu (by rw [List.length_append, ← HNX.out]; have := HX4.out; simp; omega) (fun x hx => by
            rcases List.mem_append.1 hx with hx | hx
            · exact HSa.out x hx
            · obtain rfl := List.mem_singleton.1 hx
              exact small_av9 _))
          rw [HP2.out.2] at HCb8
          have Hp8 := hid happ8
          have Hq8 := hid happc8
          rw [← HNX.out] at Hp8 Hq8
          clear happ8 hob8 hkb8 hT8 kb8 hoc8 happc8 hod8 hkc8
          generalize (X ++ [av9 true]).length = nb8 at *
          go_wp2_with (at_builtin; first | (refine Lib.wpList_append_run _ rfl _ _ _ _ rfl _ _ rfl rfl _ _ (Hp8.out _) ?_; clear Hp8) | (refine Lib.wpList_append_run _ rfl _ _ _ _ rfl _ _ rfl rfl _ _ (Hq8.out _) ?_; clear Hq8))
          refine HMb8.out.mono ?_
          rintro e we8 ⟨ve8, rfl, hoe8, hke8⟩
          obtain ⟨pe8, ce8, rfl⟩ := slice_of hoe8
          have HCc8 := hid (HCb8.out _ _ (OwnAv.at hoe8))
          generalize (headK k :: (X ++ [av9 true])).length = nh8 at *
          have HV8 := hid (HU8.out.trans hke8)
          clear hoe8 hke8
          go_wp2_with fail
          refine HCc8.out.mono ?_
          rintro e wf8 ⟨rfl, hkf8⟩
          have HKf8 := hid (HV8.out.trans hkf8)
          clear hkf8 HMb8 HCb8 HCc8 HU8 HV8
          have HKz := hid (HK16.out.trans HKf8.out)
          go_wp2_with fail
          refine (HA.out _).mono ?_
          rintro e wz ⟨rfl, hkz⟩
          have HKy := hid (HKz.out.trans hkz)
          clear hkz
          go_wp2
          go_ret
          exact ⟨rfl, HKy.out⟩

theorem msgWhole_walk (k d : Int) (w : World) (_hk : -9223372036854775808 ≤ k ∧ k ≤ 9223372036854775807) (hd : -9223372036854775808 ≤ d ∧ d ≤ 9223372036854775807) (_hT : Tables w) :
    Calls Tryd.prog 4 #[.int .i64 k, .int .i64 d] w fun e w' => e = .returned (.bool true) ∧ Below w.heap.size w w' := by
  refine (?_ : Calls Tryd.prog 4 #[.int .i64 k, .int .i64 d] w fun e w' => e = .returned (.bool true) ∧ Kept (fun _ => False) w w').mono fun _ _ ⟨h1, h2⟩ => ⟨h1, below_of h2⟩
  by_cases h : k < 0 ∨ (¬ k < 0 ∧ 65535 < k)
  · exact msgWhole_not k d h w
  · exact msgWhole_main k d (by omega) (by omega) hd w
end Go.Proofs.YtkneogfeokckjaaDoor
