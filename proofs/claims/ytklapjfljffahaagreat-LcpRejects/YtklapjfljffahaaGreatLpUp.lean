/- The contracts of Ups and Theirs. · The contracts of skip and Adopt. · The contracts of a link's Adopt and Reject; a packet that is told alone. · A law's own link of the laws' config, made with an empty tape or with none, and adopted. -/
import Derived.Test.YtklapjfljffahaaGreatNgSmall
import Derived.Test.YtklapjfljffahaaGreatNgSentK
import Derived.Test.YtklapjfljffahaaGreatLpIn
namespace Go.Proofs.YtklapjfljffahaaGreat
open Go.RowKit

set_option maxRecDepth 100000 in
theorem ngUps_any {base b : Nat} {a : Nm} {n : Ng} (w : World) (h : NegIn w base b a n) : Calls Tryz.prog 70 #[.pointer (some ⟨b, 0, none⟩)] w fun e w' => e = .returned (.tuple #[.int .i64 n.ups, .int .i64 n.downs]) ∧ Kept (fun _ => False) w w' := by
  have c14 := h.n14
  have c15 := h.n15
  have HN := hid (ngNone_any w h)
  clear h
  go_enter Tryz.func70, Tryz.ntmps70
  go_wp2_with (first
    | (go_at_call 55; refine HN.out.mono ?_; rintro e w' ⟨rfl, hw⟩; rw [hw]; clear hw w'))
  go_region
  go_wp2
  go_ret2
  exact ⟨rfl, (Kept.refl _ _).drew⟩


set_option maxRecDepth 100000 in
theorem ngTheirs_any {base b : Nat} {a : Nm} {n : Ng} (w : World) (h : NegIn w base b a n) : Calls Tryz.prog 49 #[.pointer (some ⟨b, 0, none⟩)] w fun e w' => ∃ u, e = .returned u ∧ OwnO w' w.heap.size u (theirsF n) ∧ Kept (fun _ => False) w w' := by
  have c13 := h.n13
  have HS := hid (ngState_any w h)
  have HC := hid (cloneO_any a.vt n.theirs w h.theirs.at (by have := h.good.theirs.1; omega))
  unfold theirsF
  obtain ⟨p, cap, hv⟩ := slice_of h.theirs
  rw [hv] at c13 HC
  clear h hv
  by_cases h9 : n.au.st = 9
  · have h9z : (n.au.st != 9) = false := by simp [h9]
    rw [if_pos h9]
    clear h9
    go_enter Tryz.func49, Tryz.ntmps49
    go_wp2_with (first
      | (go_at_call 42; refine HS.out.mono ?_; rintro e w' ⟨rfl, hw⟩; rw [hw]; clear hw w'))
    refine HC.out.mono ?_
    rintro e w1 ⟨u, rfl, ho, hk⟩
    have HO := hid ho
    clear ho
    go_wp2
    go_ret
    exact ⟨_, rfl, HO.out, hk⟩
  · have h9z : (n.au.st != 9) = true := by simp [h9]
    rw [if_neg h9]
    clear h9 HC
    go_enter Tryz.func49, Tryz.ntmps49
    go_wp2_with (first
      | (go_at_call 42; refine HS.out.mono ?_; rintro e w' ⟨rfl, hw⟩; rw [hw]; clear hw w'))
    go_ret
    exact ⟨_, rfl, OwnO.nil _ _, Kept.refl _ _⟩
end Go.Proofs.YtklapjfljffahaaGreat

namespace Go.Proofs.YtklapjfljffahaaGreat
open Go.RowKit

def stepE (n : Ng) (e : Int) : Ng := (doF n.au e).1.foldl tallyF { n with au := (doF n.au e).2 }
def skipN (n : Ng) : Ng := ([2, 0, 8, 6] : List Int).foldl stepE n

theorem own_ints4 (w : World) (x0 x1 x2 x3 : Int) : OwnI (w.alloc (.cells #[.int .i64 x0, .int .i64 x1, .int .i64 x2, .int .i64 x3] 3)) w.heap.size (.slice (some ⟨w.heap.size, 0, none⟩) 4 4) [x0, x1, x2, x3] :=
  ⟨rfl, Or.inr ⟨w.heap.size, 4, _, rfl, Nat.le_refl _, heap_alloc_new w _, Nat.le_refl _, by decide, rfl, rfl⟩⟩

set_option maxHeartbeats 4000000 in
set_option maxRecDepth 100000 in
theorem skip_any {base b : Nat} {a : Nm} {n : Ng} (w : World) (h : NegIn w base b a n) : Calls Tryz.prog 73 #[.pointer (some ⟨b, 0, none⟩)] w fun e w' => e = .returned (.tuple #[]) ∧ NNext w w' base b a a (skipN n) := by
  have k0 := (Kept.refl (fun _ => False) w).alloc (.cells #[.int .i64 2, .int .i64 0, .int .i64 8, .int .i64 6] 3)
  have O0 := own_ints4 w 2 0 8 6
  have hA := h.kept0 k0
  have F0 := ints_far hA O0
  generalize hAe : w.alloc (.cells #[.int .i64 2, .int .i64 0, .int .i64 8, .int .i64 6] 3) = A at *
  have HAe := hid hAe
  have HO := hid O0
  have HF := hid F0
  have HK := hid k0
  have HN := hid hA
  unfold skipN
  generalize hev : ([2, 0, 8, 6] : List Int) = evs at *
  have hlen : evs.length = 4 := by rw [← hev]; rfl
  have h64 : Hid (∀ x ∈ evs, In64 x) := by
    intro x hx
    rw [← hev] at hx
    simp at hx
    rcases hx with rfl | rfl | rfl | rfl <;> exact ⟨by decide, by decide⟩
  clear hAe h k0 O0 hA F0 hev
  go_enter Tryz.func73, Tryz.ntmps73
  go_wp2
  rw [HAe.out]
  clear HAe
  go_loopw [8] (fun vi wr => ∃ j : Nat, j ≤ 4 ∧ vi = .int .i64 (j : Int) ∧ Hid (NNext A wr base b a a ((evs.take j).foldl stepE n))) (fun vi _ => 4 - (intOf vi).toNat)
  case atStart => exact ⟨0, Nat.zero_le _, rfl, NNext.refl HN.out⟩
  case round =>
    obtain ⟨j, hj, rfl, HI⟩ := hrel
    by_cases hlt : j < 4
    · have hltz : (j : Int) < 4 := by omega
      obtain ⟨x, hx⟩ : ∃ x, evs[j]? = some x := ⟨evs[j]'(by omega), by simp⟩
      have HO1 := HO.out.kept HI.out.kept HF.out
      obtain ⟨p', cap', ev, hcell⟩ := HO1.form
      rw [hlen] at ev
      simp only [Value.slice.injEq, true_and] at ev
      obtain ⟨rfl, rfl⟩ := ev
      obtain ⟨g, eg, _, hcl⟩ := hcell j x hx
      simp only [Option.some.injEq, Addr.mk.injEq, and_true] at eg
      subst eg
      have eN : (evs.take (j + 1)).foldl stepE n = stepE ((evs.take j).foldl stepE n) x := by
        rw [List.take_add_one, hx, List.foldl_append]
        rfl
      have EN := hid eN
      have n0 := HI.out.neg.n0
      have hx64 := h64.out x (List.mem_of_getElem? hx)
      generalize (evs.take j).foldl stepE n = m at *
      have HD := hid (do_any a.am m.au HI.out.neg.good.au x hx64 wr HI.out.neg.auto)
      have hsh := next_short m.au.st x
      have HG := hid (HI.out.neg.good.au.do x)
      clear hx hcell HO1 eN
      go_wp2_with fail
      refine HD.out.mono ?_
      rintro e w1 ⟨vd, rfl, ha, ho, hk⟩
      have N1 := hid (HI.out.trans (HI.out.neg.step ha HG.out hk))
      have HL := hid ho
      have HLf := hid (ints_far N1.out.neg ho)
      obtain ⟨pd, cd, rfl⟩ := ho.slice
      have eS : Hid (stepE m x = (doF m.au x).1.foldl tallyF { m with au := (doF m.au x).2 }) := rfl
      have hsh2 : (doF m.au x).1.length ≤ 3 := hsh
      generalize doF m.au x = D at *
      clear ha ho hk HD hsh n0 hcl HI
      go_wp2
      go_loopw [19] (fun vk wq => ∃ k : Nat, k ≤ D.1.length ∧ vk = .int .i64 (k : Int) ∧ Hid (NNext w1 wq base b a a ((D.1.take k).foldl tallyF { m with au := D.2 }))) (fun vk _ => D.1.length - (intOf vk).toNat)
      case atStart => exact ⟨0, Nat.zero_le _, rfl, NNext.refl N1.out.neg⟩
      case round =>
        obtain ⟨k, hk, rfl, HQ⟩ := hrel
        by_cases hkl : k < D.1.length
        · have hklz : (k : Int) < (D.1.length : Int) := by omega
          obtain ⟨y, hy⟩ : ∃ y, D.1[k]? = some y := ⟨D.1[k], by simp [hkl]⟩
          obtain ⟨p2, cap2, ev2, hcell2⟩ := (HL.out.kept HQ.out.kept HLf.out).form
          simp only [Value.slice.injEq, true_and] at ev2
          obtain ⟨rfl, rfl⟩ := ev2
          obtain ⟨g2, rfl, hcap2, hcl2⟩ := hcell2 k y hy
          have eT : (D.1.take (k + 1)).foldl tallyF { m with au := D.2 } = tallyF ((D.1.take k).foldl tallyF { m with au := D.2 }) y := by
            rw [List.take_add_one, hy, List.foldl_append]
            rfl
          have ET := hid eT
          have HC := hid (ngCount_any y _ HQ.out.neg)
          clear hy hcell2 eT
          go_wp2_with fail
          refine HC.out.mono ?_
          rintro e w2 ⟨rfl, N2⟩
          have R : Hid (NNext w1 w2 base b a a ((D.1.take (k + 1)).foldl tallyF { m with au := D.2 })) := by
            show NNext w1 w2 base b a a _
            rw [ET.out]
            exact HQ.out.trans N2
          clear N2 HC HQ
          go_wp2
          exact ⟨⟨k + 1, hkl, by go_num, R.out⟩, by simp [intOf]; omega⟩
        · obtain rfl : k = D.1.length := by omega
          have hklz : ¬ (D.1.length : Int) < (D.1.length : Int) := by omega
          have R : Hid (NNext A wr base b a a ((evs.take (j + 1)).foldl stepE n)) := by
            show NNext A wr base b a a _
            rw [EN.out, eS.out]
            have := HQ.out
            rw [List.take_length] at this
            exact N1.out.trans this
          clear HQ
          go_wp2
          exact ⟨⟨j + 1, hlt, by go_num, R.out⟩, by simp [intOf]; omega⟩
    · obtain rfl : j = 4 := by omega
      have R : Hid (NNext A wr base b a a (evs.foldl stepE n)) := by
        have := HI.out
        rw [List.take_of_length_le (by omega)] at this
        exact this
      clear HI hlt
      go_wp2
      go_end0
      exact ⟨rfl, NNext.before0 HK.out R.out⟩

set_option maxHeartbeats 1000000 in
set_option maxRecDepth 100000 in
theorem adopt_late {base b : Nat} {a : Nm} {n : Ng} (va vb : Value) (w : World) (h : NegIn w base b a n) (h0 : ¬ n.au.st = 0) (h1 : ¬ n.au.st = 1) :
    Calls Tryz.prog 43 #[.pointer (some ⟨b, 0, none⟩), va, vb] w fun e w' => e = .returned (.int .i64 20) ∧ w' = w := by
  have HN := hid (ngNone_any w h)
  have HS := hid (ngState_any w h)
  have z0 : (n.au.st != 0) = true := by simpa using h0
  have z1 : (n.au.st != 1) = true := by simpa using h1
  clear h h0 h1
  go_enter Tryz.func43, Tryz.ntmps43
  go_wp2_with (first
    | (go_at_call 55; refine HN.out.mono ?_; rintro e w' ⟨rfl, hw⟩; rw [hw]; clear hw w')
    | (go_at_call 42; refine HS.out.mono ?_; rintro e w' ⟨rfl, hw⟩; rw [hw]; clear hw w'))
  go_ret
  exact ⟨rfl, rfl⟩

/-- What was acked to the peer is another list, made since W0. -/
theorem nnext_theirs {W0 W : World} {base b : Nat} {a0 a : Nm} {n : Ng} {u : Value} {l : List Tg} (N : NNext W0 W base b a0 a n) (ho : OwnO W base u l) (hf : FineO l) (hfar : ∀ i, a.vr.ownBlock = some i → u.ownBlock ≠ some i) (hfr : ∀ i, u.ownBlock = some i → W0.heap.size ≤ i) :
    NNext W0 (W.setCell ⟨b, 13, none⟩ u) base b a0 { a with vt := u } { n with theirs := l } := by
  have hn := (N.neg.setTheirs ho hf hfar (W0 := { W with heap := #[] }) (fun i _ => Nat.zero_le _) ⟨rfl, rfl, rfl, Nat.zero_le _, fun k hk => absurd hk (by simp)⟩).neg
  exact ⟨hn, N.am, N.fr, N.fm, fun i hi => Or.inr (hfr i hi), N.kept.andThen (kept_cell W b 13 u) (fun i _ e => Or.inl e)⟩

def errF (la lb : List Tg) : Int := if (putOptsF la).2 ≠ 0 then (putOptsF la).2 else (putOptsF lb).2

set_option maxHeartbeats 4000000 in
set_option maxRecDepth 100000 in
theorem adopt_any {base b : Nat} {a : Nm} {n : Ng} (va vb : Value) (la lb : List Tg) (w : World) (h : NegIn w base b a n) (h0 : n.au.st = 0) (ha : OptsAt w va la) (hb : OptsAt w vb lb) (hfa : FineO la) (hfb : FineO lb) :
    Calls Tryz.prog 43 #[.pointer (some ⟨b, 0, none⟩), va, vb] w fun e w' => (¬ errF la lb = 0 ∧ e = .returned (.int .i64 (errF la lb)) ∧ Kept (fun _ => False) w w') ∨ (errF la lb = 0 ∧ e = .returned (.int .i64 0) ∧ ∃ a', NNext w w' base b a a' (skipN { n with mine := la, theirs := lb })) := by
  have HN := hid (ngNone_any w h)
  have HS := hid (ngState_any w h)
  rw [h0] at HS
  obtain ⟨pa, ca, hva⟩ := ha.1.slice
  obtain ⟨pb, cb, hvb⟩ := hb.1.slice
  have k0 := (Kept.refl (fun _ => False) w).alloc (.cells #[va, vb] 22)
  have HP : Hid (∀ (j : Nat) (x : List Tg), [la, lb][j]? = some x → ∃ p c, (w.alloc (.cells #[va, vb] 22)).cell? ⟨w.heap.size, j, none⟩ = some (.slice p x.length c) ∧ OptsAt (w.alloc (.cells #[va, vb] 22)) (.slice p x.length c) x ∧ FineO x) := by
    intro j x hj
    have hc : (w.alloc (.cells #[va, vb] 22)).cell? ⟨w.heap.size, j, none⟩ = [va, vb][j]? := by
      rw [World.cell?_alloc_new]
      simp
    cases j with
    | zero =>
      have : la = x := by simpa using hj
      subst this
      exact ⟨pa, ca, by rw [hc, hva]; rfl, by rw [← hva]; exact ha.kept0 k0, hfa⟩
    | succ j =>
      cases j with
      | zero =>
        have : lb = x := by simpa using hj
        subst this
        exact ⟨pb, cb, by rw [hc, hvb]; rfl, by rw [← hvb]; exact hb.kept0 k0, hfb⟩
      | succ j => simp at hj
  have HAa := hid (fun (W : World) (k : Kept (fun _ => False) w W) => cloneO_any va la W (ha.kept0 k) (by have := hfa.1; omega))
  have HBb := hid (fun (W : World) (k : Kept (fun _ => False) w W) => cloneO_any vb lb W (hb.kept0 k) (by have := hfb.1; omega))
  have HFa := hid hfa
  have HFb := hid hfb
  have HI0 := hid h
  have HK := hid k0
  subst hva hvb
  generalize hAe : w.alloc (.cells #[.slice pa la.length ca, .slice pb lb.length cb] 22) = A at *
  have HAe := hid hAe
  clear hAe k0 h ha hb hfa hfb h0
  go_enter Tryz.func43, Tryz.ntmps43
  go_wp2_with (first
    | (go_at_call 55; refine HN.out.mono ?_; rintro e w' ⟨rfl, hw⟩; rw [hw]; clear hw w')
    | (go_at_call 42; refine HS.out.mono ?_; rintro e w' ⟨rfl, hw⟩; rw [hw]; clear hw w'))
  rw [HAe.out]
  clear HAe
  go_loopw [26] (fun vi wr => ∃ j : Nat, j ≤ 2 ∧ vi = .int .i64 (j : Int) ∧ Hid ((∀ (i : Nat) (x : List Tg), i < j → [la, lb][i]? = some x → (putOptsF x).2 = 0) ∧ Kept (fun _ => False) A wr)) (fun vi _ => 2 - (intOf vi).toNat)
  case atStart => exact ⟨0, Nat.zero_le _, rfl, fun i x hi => by omega, Kept.refl _ _⟩
  case round =>
    obtain ⟨j, hj, rfl, HI⟩ := hrel
    by_cases hlt : j < 2
    · have hltz : (j : Int) < 2 := by omega
      obtain ⟨x, hx⟩ : ∃ x, [la, lb][j]? = some x := ⟨[la, lb][j]'(by simpa using hlt), by simp⟩
      obtain ⟨p, c, hc, hox, hfx⟩ := HP.out j x hx
      have hc' := (HI.out.2.cell (p := ⟨w.heap.size, j, none⟩) (lt_of_cell hc) id).trans hc
      have HPo := hid (putOpts_any (.slice p x.length c) x wr (hox.kept0 HI.out.2).1 hfx.2.2)
      have HKw := hid (HK.out.trans HI.out.2)
      obtain ⟨B, hB⟩ : ∃ B, B = (⟨(putOptsF x).1.toArray⟩ : ByteArray) := ⟨_, rfl⟩
      obtain ⟨E, hE⟩ : ∃ E, E = (putOptsF x).2 := ⟨_, rfl⟩
      rw [← hB, ← hE] at HPo
      have HX := hid hx
      by_cases hz : E = 0
      · have R1 : Hid (∀ (i : Nat) (y : List Tg), i < j + 1 → [la, lb][i]? = some y → (putOptsF y).2 = 0) := by
          intro i y hi hy
          by_cases hij : i < j
          · exact HI.out.1 i y hij hy
          · obtain rfl : i = j := by omega
            rw [HX.out] at hy
            cases hy
            rw [← hE, hz]
        have hez : (E != 0) = false := by simp [hz]
        have HII := hid HI.out.2
        clear hz hE hB hx hc hox hfx HI
        go_wp2_with fail
        refine HPo.out.mono ?_
        rintro e w1 ⟨rfl, hk1⟩
        have R2 := hid (HII.out.trans hk1)
        clear hk1
        go_wp2
        exact ⟨⟨j + 1, hlt, by go_num, R1.out, R2.out⟩, by simp [intOf]; omega⟩
      · have hez : (E != 0) = true := by simpa using hz
        have R1 : Hid (errF la lb = E) := by
          show errF la lb = E
          unfold errF
          have hcase : j = 0 ∨ j = 1 := by omega
          rcases hcase with rfl | rfl
          · have : la = x := by simpa using HX.out
            subst this
            rw [if_pos (by rw [← hE]; exact hz), hE]
          · have : lb = x := by simpa using HX.out
            subst this
            rw [if_neg (by rw [HI.out.1 0 la (by omega) rfl]; simp), hE]
        have HZ := hid hz
        clear hz hE hB hx hc hox hfx HI
        go_wp2_with fail
        refine HPo.out.mono ?_
        rintro e w1 ⟨rfl, hk1⟩
        have R2 := hid (HKw.out.trans hk1)
        clear hk1
        go_wp2
        go_ret
        exact Or.inl ⟨by rw [R1.out]; exact HZ.out, by rw [R1.out]; rfl, R2.out⟩
    · obtain rfl : j = 2 := by omega
      have R1 : Hid (errF la lb = 0) := by
        show errF la lb = 0
        unfold errF
        rw [if_neg (by rw [HI.out.1 0 la (by omega) rfl]; simp), HI.out.1 1 lb (by omega) rfl]
      have K1 := hid (HK.out.trans HI.out.2)
      clear HI hlt HP
      go_wp2_with fail
      refine (HAa.out _ K1.out).mono ?_
      rintro e w1 ⟨u1, rfl, ho1, hk1⟩
      obtain ⟨p1, c1, rfl⟩ := slice_of ho1
      have K2 := hid (K1.out.trans hk1)
      have O1 := hid ho1
      clear ho1 hk1
      go_wp2_with fail
      refine (HBb.out _ K2.out).mono ?_
      rintro e w2 ⟨u2, rfl, ho2, hk2⟩
      obtain ⟨p2, c2, rfl⟩ := slice_of ho2
      have K3 := hid (K2.out.trans hk2)
      have O1' := hid (O1.out.kept hk2)
      have O2 := hid ho2
      have H2 := HI0.out.kept0 K3.out
      have d12 := H2.n12
      have f12 := H2.fz 12
      have d13 := H2.n13
      have f13 := H2.fz 13
      have hb0 : base ≤ w.heap.size := by have := HI0.out.lo; have := HI0.out.lt; omega
      have hs1 := K1.out.size
      have hs2 := K2.out.size
      have NM := H2.setMine (l := la) (O1'.out.mono (by omega)) HFa.out (fun i hi e => by have := HI0.out.sn_lt i (Or.inr (Or.inr hi)); have := O1'.out.baseB e; omega) (W0 := w) (fun i hi => by have := O1'.out.baseB hi; omega) K3.out
      have hk12 := kept_cell w2 b 12 (.slice p1 la.length c1)
      have NTh := nnext_theirs NM ((O2.out.keptS hk12 (fun i hi => H2.ne_b O2.out hi)).mono (by omega)) HFb.out (fun i hi e => by have := HI0.out.sn_lt i (Or.inr (Or.inr hi)); have := O2.out.baseB e; omega) (fun i hi => by have := O2.out.baseB hi; omega)
      have HSk := hid (skip_any _ NTh.neg)
      have NT := hid NTh
      clear H2 NM hk12 NTh ho2 hk2 O1 HN HS
      go_wp2_with fail
      refine HSk.out.mono ?_
      rintro e w4 ⟨rfl, N4⟩
      have NF := hid (NT.out.trans N4)
      clear N4 HSk NT
      go_wp2
      go_ret
      exact Or.inr ⟨R1.out, rfl, _, NF.out⟩
end Go.Proofs.YtklapjfljffahaaGreat

namespace Go.Proofs.YtklapjfljffahaaGreat
open Go.RowKit

theorem one_pk (W1 : World) (lo : Nat) (h : lo ≤ W1.heap.size) (c i : Int) (s : ByteArray) : (W1.alloc (.cells #[.int .i64 c, .int .i64 i, .slice none 0 0, .string s] 24)).ownsRow lo 24 4 (.slice (some ⟨W1.heap.size, 0, none⟩) 1 1) 1 (rowP [(⟨c, i, [], s⟩, .slice none 0 0)]) :=
  ⟨rfl, Or.inr ⟨W1.heap.size, 1, _, rfl, h, heap_alloc_new W1 _, Nat.le_refl _, by decide, rfl, rfl⟩⟩
theorem lsent_told {W W1 : World} {base b : Nat} {m m' : Lm} {l' : Lp} (k : LNext W W1 base b m m' l') (c i : Int) (s : ByteArray) :
    LSent W (W1.alloc (.cells #[.int .i64 c, .int .i64 i, .slice none 0 0, .string s] 24)) base b m (l', [⟨c, i, [], s⟩]) (.slice (some ⟨W1.heap.size, 0, none⟩) 1 1) :=
  ⟨m', [(⟨c, i, [], s⟩, .slice none 0 0)], ⟨k.then0 ((Kept.refl _ _).alloc _), one_pk W1 _ k.kept.size c i s, fun p hp => by rw [List.mem_singleton.1 hp]; exact OwnO.nil _ _, fun p hp i hi => by rw [List.mem_singleton.1 hp] at hi; cases hi⟩, rfl⟩

def adoptL (l : Lp) (la lb : List Tg) : Lp := { l with ng := skipN { l.ng with mine := la, theirs := lb } }
set_option maxRecDepth 100000 in
theorem lcpAdopt_any {base b : Nat} {m : Lm} {l : Lp} (va vb : Value) (la lb : List Tg) (w : World) (h : LcpIn w base b m l) (h0 : l.ng.au.st = 0) (ha : OptsAt w va la) (hb : OptsAt w vb lb) (hfa : FineO la) (hfb : FineO lb) (he : errF la lb = 0) :
    Calls Tryz.prog 18 #[.pointer (some ⟨b, 0, none⟩), va, vb] w fun e w' => e = .returned (.int .i64 0) ∧ ∃ m', LNext w w' base b m m' (adoptL l la lb) := by
  have HN := hid (negotiation_any w h)
  have HA := hid (adopt_any va vb la lb w h.neg h0 ha hb hfa hfb)
  have H := hid h
  have HE := hid he
  obtain ⟨pa, ca, rfl⟩ := ha.1.slice
  obtain ⟨pb, cb, rfl⟩ := hb.1.slice
  unfold adoptL
  clear h ha hb hfa hfb h0 he
  generalize skipN { l.ng with mine := la, theirs := lb } = K at *
  go_enter Tryz.func18, Tryz.ntmps18
  go_wp2_with (first | (go_at_call 31; refine HN.out.mono ?_; rintro e w' ⟨rfl, hw⟩; rw [hw]; clear hw w'))
  refine HA.out.mono ?_
  rintro e w1 (⟨h1, _⟩ | ⟨_, rfl, a', hn⟩)
  · exact absurd HE.out h1
  · have NX := hid (H.out.ofNeg hn)
    clear hn
    go_wp2
    go_ret
    exact ⟨rfl, _, NX.out⟩

set_option maxHeartbeats 2000000 in
set_option maxRecDepth 100000 in
theorem reject_no {base b : Nat} {m : Lm} {l : Lp} (x : Int) (s : ByteArray) (w : World) (h : LcpIn w base b m l) (hc : ¬ l.ng.au.st = 9 ∨ x < 0 ∨ 65535 < x) :
    Calls Tryz.prog 14 #[.pointer (some ⟨b, 0, none⟩), .int .i64 x, .string s] w fun e w' => e = .returned (.slice none 0 0) ∧ w' = w := by
  have HO := hid (isOpened_any w h)
  clear h
  by_cases h9 : l.ng.au.st = 9
  · have e9 : (l.ng.au.st == 9) = true := by simp [h9]
    rw [e9] at HO
    have hc' : x < 0 ∨ (¬ x < 0 ∧ 65535 < x) := by
      rcases hc with h | h | h
      · exact absurd h9 h
      · exact Or.inl h
      · exact Or.inr ⟨by omega, h⟩
    clear hc h9 e9
    rcases hc' with h1 | ⟨h1, h2⟩
    all_goals
      go_enter Tryz.func14, Tryz.ntmps14
      go_wp2_with (first | (go_at_call 36; refine HO.out.mono ?_; rintro e w' ⟨rfl, hw⟩; rw [hw]; clear hw w'))
      go_ret
      exact ⟨rfl, rfl⟩
  · have e9 : (l.ng.au.st == 9) = false := by simpa using h9
    rw [e9] at HO
    clear hc h9 e9
    go_enter Tryz.func14, Tryz.ntmps14
    go_wp2_with (first | (go_at_call 36; refine HO.out.mono ?_; rintro e w' ⟨rfl, hw⟩; rw [hw]; clear hw w'))
    go_ret
    exact ⟨rfl, rfl⟩

def rejL (l : Lp) (x : Int) (s : ByteArray) : Lp × List Pk0 := ({ l with ng := { l.ng with id := nextId l.ng.id } }, [⟨8, nextId l.ng.id, [], numF x 2 ++ s.extract 0 (min s.size 1486)⟩])
set_option maxHeartbeats 2000000 in
set_option maxRecDepth 100000 in
theorem reject_yes {base b : Nat} {m : Lm} {l : Lp} (x : Int) (s : ByteArray) (w : World) (h : LcpIn w base b m l) (h9 : l.ng.au.st = 9) (h1 : 0 ≤ x) (h2 : x ≤ 65535) :
    Calls Tryz.prog 14 #[.pointer (some ⟨b, 0, none⟩), .int .i64 x, .string s] w fun e w' => ∃ vo, e = .returned vo ∧ LSent w w' base b m (rejL l x s) vo := by
  have HO := hid (isOpened_any w h)
  rw [show (l.ng.au.st == 9) = true from by simp [h9]] at HO
  have HI := hid (nextId_any w h.neg)
  have HP := hid (fun W => put_any x 2 (by decide) (by decide) W)
  simp only [Int.cast_ofNat_Int] at HP
  have c0 := h.c0
  have H := hid h
  have j7 := first_at s (min s.size 1486) (Nat.min_le_left _ _) (min (s.size : Int) 1486) (by omega)
  have hX : (s.extract 0 (min s.size 1486)).size ≤ 1486 := by rw [ByteArray.size_extract]; omega
  have hS := numF_size x 2
  unfold rejL
  generalize s.extract 0 (min s.size 1486) = X at *
  generalize numF x 2 = S at *
  generalize nextId l.ng.id = I at *
  clear h h9
  go_enter Tryz.func14, Tryz.ntmps14
  go_wp2_with (first | (go_at_call 36; refine HO.out.mono ?_; rintro e w' ⟨rfl, hw⟩; rw [hw]; clear hw w'))
  refine HI.out.mono ?_
  rintro e w1 ⟨rfl, hn⟩
  have N1 := hid (H.out.ofNeg hn)
  clear hn
  go_wp2_with fail
  refine (HP.out _).mono ?_
  rintro e w2 ⟨rfl, hk⟩
  have N2 := hid (N1.out.then0 hk)
  clear hk
  go_wp2
  go_ret
  exact ⟨_, rfl, lsent_told N2.out _ _ _⟩
end Go.Proofs.YtklapjfljffahaaGreat

namespace Go.Proofs.YtklapjfljffahaaGreat
open Go.RowKit

def lR0 : Lp := newL cA [] 0
def lR1 : Lp := adoptL lR0 oA []
theorem lR0_st : lR0.ng.au.st = 0 := by kernel_rfl
theorem lR1_st : lR1.ng.au.st = 9 := by kernel_rfl
theorem errA : errF oA [] = 0 := by kernel_rfl
theorem fineA : FineO oA := by rw [← askA]; exact ask_fine cA
theorem below_kept {w w' : World} (h : Kept (fun _ => False) w w') : Below w.heap.size w w' := h.below (Nat.le_refl _) (fun _ f => f.elim)

/-- The adopt of the laws' own options. -/
theorem adoptA {w W : World} {b : Nat} {m : Lm} {l : Lp} {va : Value} {base' : Nat} (h : LMine w W b m l) (h0 : l.ng.au.st = 0) (ha : OwnO W base' va oA) :
    Calls Tryz.prog 18 #[.pointer (some ⟨b, 0, none⟩), va, .slice none 0 0] W fun e w' => e = .returned (.int .i64 0) ∧ ∃ m', LMine w w' b m' (adoptL l oA []) :=
  (lcpAdopt_any va (.slice none 0 0) oA [] W h.lcp h0 ha.at (OptsAt.nil W) fineA fineNil errA).mono fun _ _ ⟨h1, m', h2⟩ => ⟨h1, m', h.next h2⟩
end Go.Proofs.YtklapjfljffahaaGreat
