/- The contracts of Ups and Theirs. · The contracts of skip and Adopt. · The contracts of a link's Adopt and Reject; a packet that is told alone. · A law's own link of the laws' config, made with an empty tape or with none, and adopted. · The contracts of takeEcho, of Take at an echo, and of Ups. -/
import Derived.Test.YtklapjfljffahabGreatNgSmall
import Derived.Test.YtklapjfljffahabGreatNgSentK
import Derived.Test.YtklapjfljffahabGreatLpIn
namespace Go.Proofs.YtklapjfljffahabGreat
open Go.RowKit

set_option maxRecDepth 100000 in
theorem ngUps_any {base b : Nat} {a : Nm} {n : Ng} (w : World) (h : NegIn w base b a n) : Calls Tryz.prog 27 #[.pointer (some ⟨b, 0, none⟩)] w fun e w' => e = .returned (.tuple #[.int .i64 n.ups, .int .i64 n.downs]) ∧ Kept (fun _ => False) w w' := by
  have c14 := h.n14
  have c15 := h.n15
  have HN := hid (ngNone_any w h)
  clear h
  go_enter Tryz.func27, Tryz.ntmps27
  go_wp2_with (first
    | (go_at_call 39; refine HN.out.mono ?_; rintro e w' ⟨rfl, hw⟩; rw [hw]; clear hw w'))
  go_region
  go_wp2
  go_ret2
  exact ⟨rfl, (Kept.refl _ _).drew⟩


end Go.Proofs.YtklapjfljffahabGreat

namespace Go.Proofs.YtklapjfljffahabGreat
open Go.RowKit

def stepE (n : Ng) (e : Int) : Ng := (doF n.au e).1.foldl tallyF { n with au := (doF n.au e).2 }
def skipN (n : Ng) : Ng := ([2, 0, 8, 6] : List Int).foldl stepE n

theorem own_ints4 (w : World) (x0 x1 x2 x3 : Int) : OwnI (w.alloc (.cells #[.int .i64 x0, .int .i64 x1, .int .i64 x2, .int .i64 x3] 3)) w.heap.size (.slice (some ⟨w.heap.size, 0, none⟩) 4 4) [x0, x1, x2, x3] :=
  ⟨rfl, Or.inr ⟨w.heap.size, 4, _, rfl, Nat.le_refl _, heap_alloc_new w _, Nat.le_refl _, by decide, rfl, rfl⟩⟩

set_option maxHeartbeats 4000000 in
set_option maxRecDepth 100000 in
theorem skip_any {base b : Nat} {a : Nm} {n : Ng} (w : World) (h : NegIn w base b a n) : Calls Tryz.prog 40 #[.pointer (some ⟨b, 0, none⟩)] w fun e w' => e = .returned (.tuple #[]) ∧ NNext w w' base b a a (skipN n) := by
  have k0 := (Kept.refl (fun _ => False) w).alloc (.cells #[.int .i64 2, .int .i64 0, .int .i64 8, .int .i64 6] 3)
  have O0 := own_ints4 w 2 0 8 6
  have hA := h.kept0 k0
  have F0 := ints_far hA O0
  generalize hAe : w.alloc (.cells #[.int .i64 2, .int .i64 0, .int .i64 8, .int .i64 6] 3) = A at *
  have HAe := hid hAe
  have HO := hid O0
  have HF := hid F0
  have HK := hid k0
  have HN := hid hA
  unfold skipN
  generalize hev : ([2, 0, 8, 6] : List Int) = evs at *
  have hlen : evs.length = 4 := by rw [← hev]; rfl
  have h64 : Hid (∀ x ∈ evs, In64 x) := by
    intro x hx
    rw [← hev] at hx
    simp at hx
    rcases hx with rfl | rfl | rfl | rfl <;> exact ⟨by decide, by decide⟩
  clear hAe h k0 O0 hA F0 hev
  go_enter Tryz.func40, Tryz.ntmps40
  go_wp2
  rw [HAe.out]
  clear HAe
  go_loopw [8] (fun vi wr => ∃ j : Nat, j ≤ 4 ∧ vi = .int .i64 (j : Int) ∧ Hid (NNext A wr base b a a ((evs.take j).foldl stepE n))) (fun vi _ => 4 - (intOf vi).toNat)
  case atStart => exact ⟨0, Nat.zero_le _, rfl, NNext.refl HN.out⟩
  case round =>
    obtain ⟨j, hj, rfl, HI⟩ := hrel
    by_cases hlt : j < 4
    · have hltz : (j : Int) < 4 := by omega
      obtain ⟨x, hx⟩ : ∃ x, evs[j]? = some x := ⟨evs[j]'(by omega), by simp⟩
      have HO1 := HO.out.kept HI.out.kept HF.out
      obtain ⟨p', cap', ev, hcell⟩ := HO1.form
      rw [hlen] at ev
      simp only [Value.slice.injEq, true_and] at ev
      obtain ⟨rfl, rfl⟩ := ev
      obtain ⟨g, eg, _, hcl⟩ := hcell j x hx
      simp only [Option.some.injEq, Addr.mk.injEq, and_true] at eg
      subst eg
      have eN : (evs.take (j + 1)).foldl stepE n = stepE ((evs.take j).foldl stepE n) x := by
        rw [List.take_add_one, hx, List.foldl_append]
        rfl
      have EN := hid eN
      have n0 := HI.out.neg.n0
      have hx64 := h64.out x (List.mem_of_getElem? hx)
      generalize (evs.take j).foldl stepE n = m at *
      have HD := hid (do_any a.am m.au HI.out.neg.good.au x hx64 wr HI.out.neg.auto)
      have hsh := next_short m.au.st x
      have HG := hid (HI.out.neg.good.au.do x)
      clear hx hcell HO1 eN
      go_wp2_with fail
      refine HD.out.mono ?_
      rintro e w1 ⟨vd, rfl, ha, ho, hk⟩
      have N1 := hid (HI.out.trans (HI.out.neg.step ha HG.out hk))
      have HL := hid ho
      have HLf := hid (ints_far N1.out.neg ho)
      obtain ⟨pd, cd, rfl⟩ := ho.slice
      have eS : Hid (stepE m x = (doF m.au x).1.foldl tallyF { m with au := (doF m.au x).2 }) := rfl
      have hsh2 : (doF m.au x).1.length ≤ 3 := hsh
      generalize doF m.au x = D at *
      clear ha ho hk HD hsh n0 hcl HI
      go_wp2
      go_loopw [19] (fun vk wq => ∃ k : Nat, k ≤ D.1.length ∧ vk = .int .i64 (k : Int) ∧ Hid (NNext w1 wq base b a a ((D.1.take k).foldl tallyF { m with au := D.2 }))) (fun vk _ => D.1.length - (intOf vk).toNat)
      case atStart => exact ⟨0, Nat.zero_le _, rfl, NNext.refl N1.out.neg⟩
      case round =>
        obtain ⟨k, hk, rfl, HQ⟩ := hrel
        by_cases hkl : k < D.1.length
        · have hklz : (k : Int) < (D.1.length : Int) := by omega
          obtain ⟨y, hy⟩ : ∃ y, D.1[k]? = some y := ⟨D.1[k], by simp [hkl]⟩
          obtain ⟨p2, cap2, ev2, hcell2⟩ := (HL.out.kept HQ.out.kept HLf.out).form
          simp only [Value.slice.injEq, true_and] at ev2
          obtain ⟨rfl, rfl⟩ := ev2
          obtain ⟨g2, rfl, hcap2, hcl2⟩ := hcell2 k y hy
          have eT : (D.1.take (k + 1)).foldl tallyF { m with au := D.2 } = tallyF ((D.1.take k).foldl tallyF { m with au := D.2 }) y := by
            rw [List.take_add_one, hy, List.foldl_append]
            rfl
          have ET := hid eT
          have HC := hid (ngCount_any y _ HQ.out.neg)
          clear hy hcell2 eT
          go_wp2_with fail
          refine HC.out.mono ?_
          rintro e w2 ⟨rfl, N2⟩
          have R : Hid (NNext w1 w2 base b a a ((D.1.take (k + 1)).foldl tallyF { m with au := D.2 })) := by
            show NNext w1 w2 base b a a _
            rw [ET.out]
            exact HQ.out.trans N2
          clear N2 HC HQ
          go_wp2
          exact ⟨⟨k + 1, hkl, by go_num, R.out⟩, by simp [intOf]; omega⟩
        · obtain rfl : k = D.1.length := by omega
          have hklz : ¬ (D.1.length : Int) < (D.1.length : Int) := by omega
          have R : Hid (NNext A wr base b a a ((evs.take (j + 1)).foldl stepE n)) := by
            show NNext A wr base b a a _
            rw [EN.out, eS.out]
            have := HQ.out
            rw [List.take_length] at this
            exact N1.out.trans this
          clear HQ
          go_wp2
          exact ⟨⟨j + 1, hlt, by go_num, R.out⟩, by simp [intOf]; omega⟩
    · obtain rfl : j = 4 := by omega
      have R : Hid (NNext A wr base b a a (evs.foldl stepE n)) := by
        have := HI.out
        rw [List.take_of_length_le (by omega)] at this
        exact this
      clear HI hlt
      go_wp2
      go_end0
      exact ⟨rfl, NNext.before0 HK.out R.out⟩

set_option maxHeartbeats 1000000 in
set_option maxRecDepth 100000 in
theorem adopt_late {base b : Nat} {a : Nm} {n : Ng} (va vb : Value) (w : World) (h : NegIn w base b a n) (h0 : ¬ n.au.st = 0) (h1 : ¬ n.au.st = 1) :
    Calls Tryz.prog 19 #[.pointer (some ⟨b, 0, none⟩), va, vb] w fun e w' => e = .returned (.int .i64 20) ∧ w' = w := by
  have HN := hid (ngNone_any w h)
  have HS := hid (ngState_any w h)
  have z0 : (n.au.st != 0) = true := by simpa using h0
  have z1 : (n.au.st != 1) = true := by simpa using h1
  clear h h0 h1
  go_enter Tryz.func19, Tryz.ntmps19
  go_wp2_with (first
    | (go_at_call 39; refine HN.out.mono ?_; rintro e w' ⟨rfl, hw⟩; rw [hw]; clear hw w')
    | (go_at_call 28; refine HS.out.mono ?_; rintro e w' ⟨rfl, hw⟩; rw [hw]; clear hw w'))
  go_ret
  exact ⟨rfl, rfl⟩

/-- What was acked to the peer is another list, made since W0. -/
theorem nnext_theirs {W0 W : World} {base b : Nat} {a0 a : Nm} {n : Ng} {u : Value} {l : List Tg} (N : NNext W0 W base b a0 a n) (ho : OwnO W base u l) (hf : FineO l) (hfar : ∀ i, a.vr.ownBlock = some i → u.ownBlock ≠ some i) (hfr : ∀ i, u.ownBlock = some i → W0.heap.size ≤ i) :
    NNext W0 (W.setCell ⟨b, 13, none⟩ u) base b a0 { a with vt := u } { n with theirs := l } := by
  have hn := (N.neg.setTheirs ho hf hfar (W0 := { W with heap := #[] }) (fun i _ => Nat.zero_le _) ⟨rfl, rfl, rfl, Nat.zero_le _, fun k hk => absurd hk (by simp)⟩).neg
  exact ⟨hn, N.am, N.fr, N.fm, fun i hi => Or.inr (hfr i hi), N.kept.andThen (kept_cell W b 13 u) (fun i _ e => Or.inl e)⟩

def errF (la lb : List Tg) : Int := if (putOptsF la).2 ≠ 0 then (putOptsF la).2 else (putOptsF lb).2

set_option maxHeartbeats 4000000 in
set_option maxRecDepth 100000 in
theorem adopt_any {base b : Nat} {a : Nm} {n : Ng} (va vb : Value) (la lb : List Tg) (w : World) (h : NegIn w base b a n) (h0 : n.au.st = 0) (ha : OptsAt w va la) (hb : OptsAt w vb lb) (hfa : FineO la) (hfb : FineO lb) :
    Calls Tryz.prog 19 #[.pointer (some ⟨b, 0, none⟩), va, vb] w fun e w' => (¬ errF la lb = 0 ∧ e = .returned (.int .i64 (errF la lb)) ∧ Kept (fun _ => False) w w') ∨ (errF la lb = 0 ∧ e = .returned (.int .i64 0) ∧ ∃ a', NNext w w' base b a a' (skipN { n with mine := la, theirs := lb })) := by
  have HN := hid (ngNone_any w h)
  have HS := hid (ngState_any w h)
  rw [h0] at HS
  obtain ⟨pa, ca, hva⟩ := ha.1.slice
  obtain ⟨pb, cb, hvb⟩ := hb.1.slice
  have k0 := (Kept.refl (fun _ => False) w).alloc (.cells #[va, vb] 31)
  have HP : Hid (∀ (j : Nat) (x : List Tg), [la, lb][j]? = some x → ∃ p c, (w.alloc (.cells #[va, vb] 31)).cell? ⟨w.heap.size, j, none⟩ = some (.slice p x.length c) ∧ OptsAt (w.alloc (.cells #[va, vb] 31)) (.slice p x.length c) x ∧ FineO x) := by
    intro j x hj
    have hc : (w.alloc (.cells #[va, vb] 31)).cell? ⟨w.heap.size, j, none⟩ = [va, vb][j]? := by
      rw [World.cell?_alloc_new]
      simp
    cases j with
    | zero =>
      have : la = x := by simpa using hj
      subst this
      exact ⟨pa, ca, by rw [hc, hva]; rfl, by rw [← hva]; exact ha.kept0 k0, hfa⟩
    | succ j =>
      cases j with
      | zero =>
        have : lb = x := by simpa using hj
        subst this
        exact ⟨pb, cb, by rw [hc, hvb]; rfl, by rw [← hvb]; exact hb.kept0 k0, hfb⟩
      | succ j => simp at hj
  have HAa := hid (fun (W : World) (k : Kept (fun _ => False) w W) => cloneO_any va la W (ha.kept0 k) (by have := hfa.1; omega))
  have HBb := hid (fun (W : World) (k : Kept (fun _ => False) w W) => cloneO_any vb lb W (hb.kept0 k) (by have := hfb.1; omega))
  have HFa := hid hfa
  have HFb := hid hfb
  have HI0 := hid h
  have HK := hid k0
  subst hva hvb
  generalize hAe : w.alloc (.cells #[.slice pa la.length ca, .slice pb lb.length cb] 31) = A at *
  have HAe := hid hAe
  clear hAe k0 h ha hb hfa hfb h0
  go_enter Tryz.func19, Tryz.ntmps19
  go_wp2_with (first
    | (go_at_call 39; refine HN.out.mono ?_; rintro e w' ⟨rfl, hw⟩; rw [hw]; clear hw w')
    | (go_at_call 28; refine HS.out.mono ?_; rintro e w' ⟨rfl, hw⟩; rw [hw]; clear hw w'))
  rw [HAe.out]
  clear HAe
  go_loopw [26] (fun vi wr => ∃ j : Nat, j ≤ 2 ∧ vi = .int .i64 (j : Int) ∧ Hid ((∀ (i : Nat) (x : List Tg), i < j → [la, lb][i]? = some x → (putOptsF x).2 = 0) ∧ Kept (fun _ => False) A wr)) (fun vi _ => 2 - (intOf vi).toNat)
  case atStart => exact ⟨0, Nat.zero_le _, rfl, fun i x hi => by omega, Kept.refl _ _⟩
  case round =>
    obtain ⟨j, hj, rfl, HI⟩ := hrel
    by_cases hlt : j < 2
    · have hltz : (j : Int) < 2 := by omega
      obtain ⟨x, hx⟩ : ∃ x, [la, lb][j]? = some x := ⟨[la, lb][j]'(by simpa using hlt), by simp⟩
      obtain ⟨p, c, hc, hox, hfx⟩ := HP.out j x hx
      have hc' := (HI.out.2.cell (p := ⟨w.heap.size, j, none⟩) (lt_of_cell hc) id).trans hc
      have HPo := hid (putOpts_any (.slice p x.length c) x wr (hox.kept0 HI.out.2).1 hfx.2.2)
      have HKw := hid (HK.out.trans HI.out.2)
      obtain ⟨B, hB⟩ : ∃ B, B = (⟨(putOptsF x).1.toArray⟩ : ByteArray) := ⟨_, rfl⟩
      obtain ⟨E, hE⟩ : ∃ E, E = (putOptsF x).2 := ⟨_, rfl⟩
      rw [← hB, ← hE] at HPo
      have HX := hid hx
      by_cases hz : E = 0
      · have R1 : Hid (∀ (i : Nat) (y : List Tg), i < j + 1 → [la, lb][i]? = some y → (putOptsF y).2 = 0) := by
          intro i y hi hy
          by_cases hij : i < j
          · exact HI.out.1 i y hij hy
          · obtain rfl : i = j := by omega
            rw [HX.out] at hy
            cases hy
            rw [← hE, hz]
        have hez : (E != 0) = false := by simp [hz]
        have HII := hid HI.out.2
        clear hz hE hB hx hc hox hfx HI
        go_wp2_with fail
        refine HPo.out.mono ?_
        rintro e w1 ⟨rfl, hk1⟩
        have R2 := hid (HII.out.trans hk1)
        clear hk1
        go_wp2
        exact ⟨⟨j + 1, hlt, by go_num, R1.out, R2.out⟩, by simp [intOf]; omega⟩
      · have hez : (E != 0) = true := by simpa using hz
        have R1 : Hid (errF la lb = E) := by
          show errF la lb = E
          unfold errF
          have hcase : j = 0 ∨ j = 1 := by omega
          rcases hcase with rfl | rfl
          · have : la = x := by simpa using HX.out
            subst this
            rw [if_pos (by rw [← hE]; exact hz), hE]
          · have : lb = x := by simpa using HX.out
            subst this
            rw [if_neg (by rw [HI.out.1 0 la (by omega) rfl]; simp), hE]
        have HZ := hid hz
        clear hz hE hB hx hc hox hfx HI
        go_wp2_with fail
        refine HPo.out.mono ?_
        rintro e w1 ⟨rfl, hk1⟩
        have R2 := hid (HKw.out.trans hk1)
        clear hk1
        go_wp2
        go_ret
        exact Or.inl ⟨by rw [R1.out]; exact HZ.out, by rw [R1.out]; rfl, R2.out⟩
    · obtain rfl : j = 2 := by omega
      have R1 : Hid (errF la lb = 0) := by
        show errF la lb = 0
        unfold errF
        rw [if_neg (by rw [HI.out.1 0 la (by omega) rfl]; simp), HI.out.1 1 lb (by omega) rfl]
      have K1 := hid (HK.out.trans HI.out.2)
      clear HI hlt HP
      go_wp2_with fail
      refine (HAa.out _ K1.out).mono ?_
      rintro e w1 ⟨u1, rfl, ho1, hk1⟩
      obtain ⟨p1, c1, rfl⟩ := slice_of ho1
      have K2 := hid (K1.out.trans hk1)
      have O1 := hid ho1
      clear ho1 hk1
      go_wp2_with fail
      refine (HBb.out _ K2.out).mono ?_
      rintro e w2 ⟨u2, rfl, ho2, hk2⟩
      obtain ⟨p2, c2, rfl⟩ := slice_of ho2
      have K3 := hid (K2.out.trans hk2)
      have O1' := hid (O1.out.kept hk2)
      have O2 := hid ho2
      have H2 := HI0.out.kept0 K3.out
      have d12 := H2.n12
      have f12 := H2.fz 12
      have d13 := H2.n13
      have f13 := H2.fz 13
      have hb0 : base ≤ w.heap.size := by have := HI0.out.lo; have := HI0.out.lt; omega
      have hs1 := K1.out.size
      have hs2 := K2.out.size
      have NM := H2.setMine (l := la) (O1'.out.mono (by omega)) HFa.out (fun i hi e => by have := HI0.out.sn_lt i (Or.inr (Or.inr hi)); have := O1'.out.baseB e; omega) (W0 := w) (fun i hi => by have := O1'.out.baseB hi; omega) K3.out
      have hk12 := kept_cell w2 b 12 (.slice p1 la.length c1)
      have NTh := nnext_theirs NM ((O2.out.keptS hk12 (fun i hi => H2.ne_b O2.out hi)).mono (by omega)) HFb.out (fun i hi e => by have := HI0.out.sn_lt i (Or.inr (Or.inr hi)); have := O2.out.baseB e; omega) (fun i hi => by have := O2.out.baseB hi; omega)
      have HSk := hid (skip_any _ NTh.neg)
      have NT := hid NTh
      clear H2 NM hk12 NTh ho2 hk2 O1 HN HS
      go_wp2_with fail
      refine HSk.out.mono ?_
      rintro e w4 ⟨rfl, N4⟩
      have NF := hid (NT.out.trans N4)
      clear N4 HSk NT
      go_wp2
      go_ret
      exact Or.inr ⟨R1.out, rfl, _, NF.out⟩
end Go.Proofs.YtklapjfljffahabGreat

namespace Go.Proofs.YtklapjfljffahabGreat
open Go.RowKit

theorem one_pk (W1 : World) (lo : Nat) (h : lo ≤ W1.heap.size) (c i : Int) (s : ByteArray) : (W1.alloc (.cells #[.int .i64 c, .int .i64 i, .slice none 0 0, .string s] 36)).ownsRow lo 36 4 (.slice (some ⟨W1.heap.size, 0, none⟩) 1 1) 1 (rowP [(⟨c, i, [], s⟩, .slice none 0 0)]) :=
  ⟨rfl, Or.inr ⟨W1.heap.size, 1, _, rfl, h, heap_alloc_new W1 _, Nat.le_refl _, by decide, rfl, rfl⟩⟩
theorem lsent_told {W W1 : World} {base b : Nat} {m m' : Lm} {l' : Lp} (k : LNext W W1 base b m m' l') (c i : Int) (s : ByteArray) :
    LSent W (W1.alloc (.cells #[.int .i64 c, .int .i64 i, .slice none 0 0, .string s] 36)) base b m (l', [⟨c, i, [], s⟩]) (.slice (some ⟨W1.heap.size, 0, none⟩) 1 1) :=
  ⟨m', [(⟨c, i, [], s⟩, .slice none 0 0)], ⟨k.then0 ((Kept.refl _ _).alloc _), one_pk W1 _ k.kept.size c i s, fun p hp => by rw [List.mem_singleton.1 hp]; exact OwnO.nil _ _, fun p hp i hi => by rw [List.mem_singleton.1 hp] at hi; cases hi⟩, rfl⟩

def adoptL (l : Lp) (la lb : List Tg) : Lp := { l with ng := skipN { l.ng with mine := la, theirs := lb } }
set_option maxRecDepth 100000 in
theorem lcpAdopt_any {base b : Nat} {m : Lm} {l : Lp} (va vb : Value) (la lb : List Tg) (w : World) (h : LcpIn w base b m l) (h0 : l.ng.au.st = 0) (ha : OptsAt w va la) (hb : OptsAt w vb lb) (hfa : FineO la) (hfb : FineO lb) (he : errF la lb = 0) :
    Calls Tryz.prog 7 #[.pointer (some ⟨b, 0, none⟩), va, vb] w fun e w' => e = .returned (.int .i64 0) ∧ ∃ m', LNext w w' base b m m' (adoptL l la lb) := by
  have HN := hid (negotiation_any w h)
  have HA := hid (adopt_any va vb la lb w h.neg h0 ha hb hfa hfb)
  have H := hid h
  have HE := hid he
  obtain ⟨pa, ca, rfl⟩ := ha.1.slice
  obtain ⟨pb, cb, rfl⟩ := hb.1.slice
  unfold adoptL
  clear h ha hb hfa hfb h0 he
  generalize skipN { l.ng with mine := la, theirs := lb } = K at *
  go_enter Tryz.func7, Tryz.ntmps7
  go_wp2_with (first | (go_at_call 18; refine HN.out.mono ?_; rintro e w' ⟨rfl, hw⟩; rw [hw]; clear hw w'))
  refine HA.out.mono ?_
  rintro e w1 (⟨h1, _⟩ | ⟨_, rfl, a', hn⟩)
  · exact absurd HE.out h1
  · have NX := hid (H.out.ofNeg hn)
    clear hn
    go_wp2
    go_ret
    exact ⟨rfl, _, NX.out⟩

end Go.Proofs.YtklapjfljffahabGreat

namespace Go.Proofs.YtklapjfljffahabGreat
open Go.RowKit

def lR0 : Lp := newL cA [] 0
def lR1 : Lp := adoptL lR0 oA []
theorem lR0_st : lR0.ng.au.st = 0 := by kernel_rfl
theorem lR1_st : lR1.ng.au.st = 9 := by kernel_rfl
theorem errA : errF oA [] = 0 := by kernel_rfl
theorem fineA : FineO oA := by rw [← askA]; exact ask_fine cA
theorem below_kept {w w' : World} (h : Kept (fun _ => False) w w') : Below w.heap.size w w' := h.below (Nat.le_refl _) (fun _ f => f.elim)

/-- The adopt of the laws' own options. -/
theorem adoptA {w W : World} {b : Nat} {m : Lm} {l : Lp} {va : Value} {base' : Nat} (h : LMine w W b m l) (h0 : l.ng.au.st = 0) (ha : OwnO W base' va oA) :
    Calls Tryz.prog 7 #[.pointer (some ⟨b, 0, none⟩), va, .slice none 0 0] W fun e w' => e = .returned (.int .i64 0) ∧ ∃ m', LMine w w' b m' (adoptL l oA []) :=
  (lcpAdopt_any va (.slice none 0 0) oA [] W h.lcp h0 ha.at (OptsAt.nil W) fineA fineNil errA).mono fun _ _ ⟨h1, m', h2⟩ => ⟨h1, m', h.next h2⟩
end Go.Proofs.YtklapjfljffahabGreat

namespace Go.Proofs.YtklapjfljffahabGreat
open Go.RowKit

def W1S (r : Nat) (id : Int) (W : World) : Prop := W.cell? ⟨r, 1, none⟩ = some (.int .i64 id)
def echoD (l : Lp) (s : ByteArray) : ByteArray := numF l.magic 4 ++ s.extract (min s.size 4) s.size

set_option maxHeartbeats 4000000 in
set_option maxRecDepth 100000 in
theorem takeEcho_any {base b : Nat} {m : Lm} {l : Lp} (id : Int) (s : ByteArray) (hs : s.size ≤ 1000) (w : World) (h : LcpIn w base b m l) (h9 : l.ng.au.st = 9) :
    Calls Tryz.prog 24 #[.pointer (some ⟨b, 0, none⟩), .agg #[.int .i64 9, .int .i64 id, .slice none 0 0, .string s]] w fun e w' => ∃ vo, e = .returned vo ∧ LSent w w' base b m (l, [⟨10, id, [], echoD l s⟩]) vo := by
  have hk0 := (Kept.refl (fun _ => False) w).alloc (.cells #[.int .i64 9, .int .i64 id, .slice none 0 0, .string s] 36)
  have O0 := hid (own4_new w 36 (.int .i64 9) (.int .i64 id) (.slice none 0 0) (.string s))
  have HL := hid (h.kept0 hk0)
  have HO := hid (isOpened_any _ HL.out)
  rw [show (l.ng.au.st == 9) = true from by simp [h9]] at HO
  have N0 := hid (LNext.of0 h hk0)
  have HSg := hid (fun (W : World) (h : LcpIn W base b m l) => sign_any W h)
  have j7 := last_at s (min s.size 4) (Nat.min_le_left _ _) (min (s.size : Int) 4) (by omega)
  have hX : (s.extract (min s.size 4) s.size).size ≤ 1000 := by rw [ByteArray.size_extract]; omega
  have hS := numF_size l.magic 4
  unfold echoD
  generalize s.extract (min s.size 4) s.size = X at *
  generalize numF l.magic 4 = S at *
  have hcat : ¬ 9223372036854775807 < S.size + X.size := by omega
  generalize hA : w.alloc (.cells #[.int .i64 9, .int .i64 id, .slice none 0 0, .string s] 36) = A at *
  have HA := hid hA
  obtain ⟨⟨q0, q1, q2, q3⟩, _⟩ := O0.out
  clear hA h hk0 h9 hX hS
  go_enter Tryz.func24, Tryz.ntmps24
  go_upto_region 1 with fail
  rw [HA.out]
  clear HA
  go_wp2_with (first | (go_at_call 25; refine HO.out.mono ?_; rintro e w' ⟨rfl, hw⟩; rw [hw]; clear hw w'))
  have B0 : W1S w.heap.size id A.drew := (O0.out.kept ((Kept.refl _ _).drew)).1.2.1
  have g1 : ∀ W, W1S w.heap.size id W → W.cell? ⟨w.heap.size, 1, none⟩ = some (.int .i64 id) := fun W h => h
  refine wp_region_held_drew (S := W1S w.heap.size id) (by kernel_rfl) (B0) (fun hSd => ?_)
  refine wpAnyH_take (i := 0) (v := ?_) rfl (by kernel_rfl) (by kernel_rfl) (by kernel_rfl) (fun _ _ _ h => h) (Or.inl ⟨by kernel_rfl, fun W hSW => by go_simp; try with_reducible rfl⟩) (by assumption) ?_
  try simp only [List.getElem_toArray]
  try simp only [List.getElem_cons_succ]
  try simp only [List.getElem_cons_zero]
  try simp only [Act.put]
  try simp only [List.setIfInBounds_toArray]
  try simp only [List.set_cons_succ]
  try simp only [List.set_cons_zero]
  refine wpAnyH_take (i := 1) (v := ?_) rfl (by kernel_rfl) (by kernel_rfl) (by kernel_rfl) (fun _ _ _ h => h) (Or.inl ⟨by kernel_rfl, fun W hSW => by go_simp; try with_reducible rfl⟩) (by assumption) ?_
  try simp only [List.getElem_toArray]
  try simp only [List.getElem_cons_succ]
  try simp only [List.getElem_cons_zero]
  try simp only [Act.put]
  try simp only [List.setIfInBounds_toArray]
  try simp only [List.set_cons_succ]
  try simp only [List.set_cons_zero]
  refine wpAnyH_take (i := 2) (v := ?_) rfl (by kernel_rfl) (by kernel_rfl) (by kernel_rfl) (fun _ _ _ h => h) (Or.inl ⟨by kernel_rfl, fun W hSW => by go_simp; try with_reducible rfl⟩) (by assumption) ?_
  try simp only [List.getElem_toArray]
  try simp only [List.getElem_cons_succ]
  try simp only [List.getElem_cons_zero]
  try simp only [Act.put]
  try simp only [List.setIfInBounds_toArray]
  try simp only [List.set_cons_succ]
  try simp only [List.set_cons_zero]
  refine wpAnyH_take (i := 4) (v := ?_) rfl (by kernel_rfl) (by kernel_rfl) (by kernel_rfl) (fun _ _ _ h => h) (Or.inl ⟨by kernel_rfl, fun W hSW => by go_simp; try with_reducible rfl⟩) (by assumption) ?_
  try simp only [List.getElem_toArray]
  try simp only [List.getElem_cons_succ]
  try simp only [List.getElem_cons_zero]
  try simp only [Act.put]
  try simp only [List.setIfInBounds_toArray]
  try simp only [List.set_cons_succ]
  try simp only [List.set_cons_zero]
  refine wpAnyH_ready (rs := [3]) (by kernel_rfl) (by simp) ?_
  refine AllReadyH.cons rfl (fun K hK => ?_) AllReadyH.nil
  go_simp
  refine (HSg.out _ (HL.out.kept0 ((Kept.refl _ _).drew))).mono ?_
  rintro e w2 ⟨rfl, hk2⟩
  have hk3 := ((Kept.refl (fun _ => False) A).drew).trans hk2
  have B2 : W1S w.heap.size id w2 := (O0.out.kept hk3).1.2.1
  have N2 := hid (N0.out.then0 hk3)
  clear hk2
  refine hK.out _ _ (B2) (fun _ => ?_)
  clear hK K
  try simp only [List.getElem_toArray]
  try simp only [List.getElem_cons_succ]
  try simp only [List.getElem_cons_zero]
  try simp only [Act.put]
  try simp only [List.setIfInBounds_toArray]
  try simp only [List.set_cons_succ]
  try simp only [List.set_cons_zero]
  refine wpAnyH_take (i := 5) (v := ?_) rfl (by kernel_rfl) (by kernel_rfl) (by kernel_rfl) (fun _ _ _ h => h) (Or.inl ⟨by kernel_rfl, fun W hSW => by go_simp; try with_reducible rfl⟩) (by assumption) ?_
  try simp only [List.getElem_toArray]
  try simp only [List.getElem_cons_succ]
  try simp only [List.getElem_cons_zero]
  try simp only [Act.put]
  try simp only [List.setIfInBounds_toArray]
  try simp only [List.set_cons_succ]
  try simp only [List.set_cons_zero]
  refine wpAnyH_take (i := 6) (v := ?_) rfl (by kernel_rfl) (by kernel_rfl) (by kernel_rfl) (fun _ _ _ h => h) (Or.inl ⟨by kernel_rfl, fun W hSW => by go_simp; try with_reducible rfl⟩) (by assumption) ?_
  try simp only [List.getElem_toArray]
  try simp only [List.getElem_cons_succ]
  try simp only [List.getElem_cons_zero]
  try simp only [Act.put]
  try simp only [List.setIfInBounds_toArray]
  try simp only [List.set_cons_succ]
  try simp only [List.set_cons_zero]
  refine wpAnyH_ready (rs := [7]) (by kernel_rfl) (by simp) ?_
  refine AllReadyH.cons rfl (fun K hK => ?_) AllReadyH.nil
  go_simp
  refine hK.out _ _ ((O0.out.kept (hk3.alloc _)).1.2.1) (fun _ => ?_)
  clear hK K
  try simp only [List.getElem_toArray]
  try simp only [List.getElem_cons_succ]
  try simp only [List.getElem_cons_zero]
  try simp only [Act.put]
  try simp only [List.setIfInBounds_toArray]
  try simp only [List.set_cons_succ]
  try simp only [List.set_cons_zero]
  refine wpAnyH_take (i := 8) (v := ?_) rfl (by kernel_rfl) (by kernel_rfl) (by kernel_rfl) (fun _ _ _ h => h) (Or.inl ⟨by kernel_rfl, fun W hSW => by go_simp; try with_reducible rfl⟩) (by assumption) ?_
  try simp only [List.getElem_toArray]
  try simp only [List.getElem_cons_succ]
  try simp only [List.getElem_cons_zero]
  try simp only [Act.put]
  try simp only [List.setIfInBounds_toArray]
  try simp only [List.set_cons_succ]
  try simp only [List.set_cons_zero]
  refine wpAnyH_done (by kernel_rfl) ?_ _
  clear hk3
  go_wp2
  go_ret
  exact ⟨_, rfl, lsent_told N2.out _ _ _⟩

set_option maxHeartbeats 4000000 in
set_option maxRecDepth 100000 in
theorem lcpTake_echo {base b : Nat} {m : Lm} {l : Lp} (id : Int) (s : ByteArray) (hs : s.size ≤ 1000) (w : World) (h : LcpIn w base b m l) (h9 : l.ng.au.st = 9) :
    Calls Tryz.prog 9 #[.pointer (some ⟨b, 0, none⟩), .agg #[.int .i64 9, .int .i64 id, .slice none 0 0, .string s]] w fun e w' => ∃ vo, e = .returned vo ∧ LSent w w' base b m (l, [⟨10, id, [], echoD l s⟩]) vo := by
  have hk0 := (Kept.refl (fun _ => False) w).alloc (.cells #[.int .i64 9, .int .i64 id, .slice none 0 0, .string s] 36)
  have O0 := hid (own4_new w 36 (.int .i64 9) (.int .i64 id) (.slice none 0 0) (.string s))
  have HT := hid (takeEcho_any id s hs _ (h.kept0 hk0) h9)
  have HN := hid (negotiation_any _ (h.kept0 hk0))
  have HE := eqNegSome ⟨m.nb, 0, none⟩
  have HK0 := hid hk0
  generalize hA : w.alloc (.cells #[.int .i64 9, .int .i64 id, .slice none 0 0, .string s] 36) = A at *
  have HA := hid hA
  obtain ⟨⟨q0, q1, q2, q3⟩, _⟩ := O0.out
  clear hA h hk0 h9
  generalize echoD l s = D at *
  go_enter Tryz.func9, Tryz.ntmps9
  go_upto_region 1 with fail
  rw [HA.out]
  clear HA
  go_wp2_with (first | (go_at_call 18; refine HN.out.mono ?_; rintro e w' ⟨rfl, hw⟩; rw [hw]; clear hw w'))
  refine HT.out.mono ?_
  rintro e w1 ⟨vo, rfl, S⟩
  obtain ⟨po, co, rfl⟩ := S.slice
  have HS := hid (LSent.before0 HK0.out S)
  clear S
  go_wp2
  go_ret
  exact ⟨_, rfl, HS.out⟩

set_option maxRecDepth 100000 in
theorem lcpUps_any {base b : Nat} {m : Lm} {l : Lp} (w : World) (h : LcpIn w base b m l) : Calls Tryz.prog 10 #[.pointer (some ⟨b, 0, none⟩)] w fun e w' => e = .returned (.tuple #[.int .i64 l.ng.ups, .int .i64 l.ng.downs]) ∧ Kept (fun _ => False) w w' := by
  have HN := hid (negotiation_any w h)
  have HU := hid (ngUps_any w h.neg)
  clear h
  go_enter Tryz.func10, Tryz.ntmps10
  go_wp2_with (first | (go_at_call 18; refine HN.out.mono ?_; rintro e w' ⟨rfl, hw⟩; rw [hw]; clear hw w'))
  refine HU.out.mono ?_
  rintro e w1 ⟨rfl, hk⟩
  have HK := hid hk
  clear hk
  go_wp2
  go_ret2
  exact ⟨rfl, HK.out⟩
end Go.Proofs.YtklapjfljffahabGreat
