/- The contracts of Ups and Theirs. · The contracts of skip and Adopt. · The contracts of a link's Adopt and Reject; a packet that is told alone. · The contract of Waits. · The contract of Timeout. · The contract of Tick. · The contracts of a link's tickOpened and Tick. · 'append' of what is sent onto nothing; the contract of Tick in Opened. · The contracts of slices.IndexFunc with the closure of change, of change where the peer's value fits, of isHeard, and of TakeNak at one option that fits. · The contracts of neg.Take at TermReq and TermAck, of a link's takeNak at one Magic that fits, and of its Take at these. · The contracts of takeAck of the last request's own options, and of Take at such an ack, of a negotiation and of a link. · What is asked for, as it is found and read. · Two links that hear each other, as plain data. · Two links in one memory, what they say to each other, and what comes of it. · The law's exchange: two links hear each other until both are open. · The contracts of a link's Mine, Theirs, Auth and Mru. · The contract of the book's SameOptions. · LcpMeets: how two links begin, and what they tell at the end. · How a list of ints among the arguments is read. · How a config among the arguments is read. -/
import Derived.Test.YtklapjfljffahaaGreatNgSmall
import Derived.Test.YtklapjfljffahaaGreatNgSentK
import Derived.Test.YtklapjfljffahaaGreatLpIn
import Derived.Test.YtklapjfljffahaaGreatAuMem
import Derived.Test.YtklapjfljffahaaGreatAuDo
import Derived.Test.YtklapjfljffahaaGreatNgDo
import Derived.Deep.QuietTactic
import Derived.BigQuiet
import Derived.Test.YtklapjfljffahaaGreatOpEqual
import Derived.ChangeSlices
import Derived.ProofKit
import Derived.OpenShut
import Derived.SizedLaws
import Derived.Lib.SmallJoins
namespace Go.Proofs.YtklapjfljffahaaGreat
open Go.RowKit

set_option maxRecDepth 100000 in
theorem ngUps_any {base b : Nat} {a : Nm} {n : Ng} (w : World) (h : NegIn w base b a n) : Calls Tryz.prog 70 #[.pointer (some ⟨b, 0, none⟩)] w fun e w' => e = .returned (.tuple #[.int .i64 n.ups, .int .i64 n.downs]) ∧ Kept (fun _ => False) w w' := by
  have c14 := h.n14
  have c15 := h.n15
  have HN := hid (ngNone_any w h)
  clear h
  go_enter Tryz.func70, Tryz.ntmps70
  go_wp2_with (first
    | (go_at_call 55; refine HN.out.mono ?_; rintro e w' ⟨rfl, hw⟩; rw [hw]; clear hw w'))
  go_region
  go_wp2
  go_ret2
  exact ⟨rfl, (Kept.refl _ _).drew⟩


set_option maxRecDepth 100000 in
theorem ngTheirs_any {base b : Nat} {a : Nm} {n : Ng} (w : World) (h : NegIn w base b a n) : Calls Tryz.prog 49 #[.pointer (some ⟨b, 0, none⟩)] w fun e w' => ∃ u, e = .returned u ∧ OwnO w' w.heap.size u (theirsF n) ∧ Kept (fun _ => False) w w' := by
  have c13 := h.n13
  have HS := hid (ngState_any w h)
  have HC := hid (cloneO_any a.vt n.theirs w h.theirs.at (by have := h.good.theirs.1; omega))
  unfold theirsF
  obtain ⟨p, cap, hv⟩ := slice_of h.theirs
  rw [hv] at c13 HC
  clear h hv
  by_cases h9 : n.au.st = 9
  · have h9z : (n.au.st != 9) = false := by simp [h9]
    rw [if_pos h9]
    clear h9
    go_enter Tryz.func49, Tryz.ntmps49
    go_wp2_with (first
      | (go_at_call 42; refine HS.out.mono ?_; rintro e w' ⟨rfl, hw⟩; rw [hw]; clear hw w'))
    refine HC.out.mono ?_
    rintro e w1 ⟨u, rfl, ho, hk⟩
    have HO := hid ho
    clear ho
    go_wp2
    go_ret
    exact ⟨_, rfl, HO.out, hk⟩
  · have h9z : (n.au.st != 9) = true := by simp [h9]
    rw [if_neg h9]
    clear h9 HC
    go_enter Tryz.func49, Tryz.ntmps49
    go_wp2_with (first
      | (go_at_call 42; refine HS.out.mono ?_; rintro e w' ⟨rfl, hw⟩; rw [hw]; clear hw w'))
    go_ret
    exact ⟨_, rfl, OwnO.nil _ _, Kept.refl _ _⟩
end Go.Proofs.YtklapjfljffahaaGreat

namespace Go.Proofs.YtklapjfljffahaaGreat
open Go.RowKit

def stepE (n : Ng) (e : Int) : Ng := (doF n.au e).1.foldl tallyF { n with au := (doF n.au e).2 }
def skipN (n : Ng) : Ng := ([2, 0, 8, 6] : List Int).foldl stepE n

theorem own_ints4 (w : World) (x0 x1 x2 x3 : Int) : OwnI (w.alloc (.cells #[.int .i64 x0, .int .i64 x1, .int .i64 x2, .int .i64 x3] 3)) w.heap.size (.slice (some ⟨w.heap.size, 0, none⟩) 4 4) [x0, x1, x2, x3] :=
  ⟨rfl, Or.inr ⟨w.heap.size, 4, _, rfl, Nat.le_refl _, heap_alloc_new w _, Nat.le_refl _, by decide, rfl, rfl⟩⟩

set_option maxHeartbeats 4000000 in
set_option maxRecDepth 100000 in
theorem skip_any {base b : Nat} {a : Nm} {n : Ng} (w : World) (h : NegIn w base b a n) : Calls Tryz.prog 73 #[.pointer (some ⟨b, 0, none⟩)] w fun e w' => e = .returned (.tuple #[]) ∧ NNext w w' base b a a (skipN n) := by
  have k0 := (Kept.refl (fun _ => False) w).alloc (.cells #[.int .i64 2, .int .i64 0, .int .i64 8, .int .i64 6] 3)
  have O0 := own_ints4 w 2 0 8 6
  have hA := h.kept0 k0
  have F0 := ints_far hA O0
  generalize hAe : w.alloc (.cells #[.int .i64 2, .int .i64 0, .int .i64 8, .int .i64 6] 3) = A at *
  have HAe := hid hAe
  have HO := hid O0
  have HF := hid F0
  have HK := hid k0
  have HN := hid hA
  unfold skipN
  generalize hev : ([2, 0, 8, 6] : List Int) = evs at *
  have hlen : evs.length = 4 := by rw [← hev]; rfl
  have h64 : Hid (∀ x ∈ evs, In64 x) := by
    intro x hx
    rw [← hev] at hx
    simp at hx
    rcases hx with rfl | rfl | rfl | rfl <;> exact ⟨by decide, by decide⟩
  clear hAe h k0 O0 hA F0 hev
  go_enter Tryz.func73, Tryz.ntmps73
  go_wp2
  rw [HAe.out]
  clear HAe
  go_loopw [8] (fun vi wr => ∃ j : Nat, j ≤ 4 ∧ vi = .int .i64 (j : Int) ∧ Hid (NNext A wr base b a a ((evs.take j).foldl stepE n))) (fun vi _ => 4 - (intOf vi).toNat)
  case atStart => exact ⟨0, Nat.zero_le _, rfl, NNext.refl HN.out⟩
  case round =>
    obtain ⟨j, hj, rfl, HI⟩ := hrel
    by_cases hlt : j < 4
    · have hltz : (j : Int) < 4 := by omega
      obtain ⟨x, hx⟩ : ∃ x, evs[j]? = some x := ⟨evs[j]'(by omega), by simp⟩
      have HO1 := HO.out.kept HI.out.kept HF.out
      obtain ⟨p', cap', ev, hcell⟩ := HO1.form
      rw [hlen] at ev
      simp only [Value.slice.injEq, true_and] at ev
      obtain ⟨rfl, rfl⟩ := ev
      obtain ⟨g, eg, _, hcl⟩ := hcell j x hx
      simp only [Option.some.injEq, Addr.mk.injEq, and_true] at eg
      subst eg
      have eN : (evs.take (j + 1)).foldl stepE n = stepE ((evs.take j).foldl stepE n) x := by
        rw [List.take_add_one, hx, List.foldl_append]
        rfl
      have EN := hid eN
      have n0 := HI.out.neg.n0
      have hx64 := h64.out x (List.mem_of_getElem? hx)
      generalize (evs.take j).foldl stepE n = m at *
      have HD := hid (do_any a.am m.au HI.out.neg.good.au x hx64 wr HI.out.neg.auto)
      have hsh := next_short m.au.st x
      have HG := hid (HI.out.neg.good.au.do x)
      clear hx hcell HO1 eN
      go_wp2_with fail
      refine HD.out.mono ?_
      rintro e w1 ⟨vd, rfl, ha, ho, hk⟩
      have N1 := hid (HI.out.trans (HI.out.neg.step ha HG.out hk))
      have HL := hid ho
      have HLf := hid (ints_far N1.out.neg ho)
      obtain ⟨pd, cd, rfl⟩ := ho.slice
      have eS : Hid (stepE m x = (doF m.au x).1.foldl tallyF { m with au := (doF m.au x).2 }) := rfl
      have hsh2 : (doF m.au x).1.length ≤ 3 := hsh
      generalize doF m.au x = D at *
      clear ha ho hk HD hsh n0 hcl HI
      go_wp2
      go_loopw [19] (fun vk wq => ∃ k : Nat, k ≤ D.1.length ∧ vk = .int .i64 (k : Int) ∧ Hid (NNext w1 wq base b a a ((D.1.take k).foldl tallyF { m with au := D.2 }))) (fun vk _ => D.1.length - (intOf vk).toNat)
      case atStart => exact ⟨0, Nat.zero_le _, rfl, NNext.refl N1.out.neg⟩
      case round =>
        obtain ⟨k, hk, rfl, HQ⟩ := hrel
        by_cases hkl : k < D.1.length
        · have hklz : (k : Int) < (D.1.length : Int) := by omega
          obtain ⟨y, hy⟩ : ∃ y, D.1[k]? = some y := ⟨D.1[k], by simp [hkl]⟩
          obtain ⟨p2, cap2, ev2, hcell2⟩ := (HL.out.kept HQ.out.kept HLf.out).form
          simp only [Value.slice.injEq, true_and] at ev2
          obtain ⟨rfl, rfl⟩ := ev2
          obtain ⟨g2, rfl, hcap2, hcl2⟩ := hcell2 k y hy
          have eT : (D.1.take (k + 1)).foldl tallyF { m with au := D.2 } = tallyF ((D.1.take k).foldl tallyF { m with au := D.2 }) y := by
            rw [List.take_add_one, hy, List.foldl_append]
            rfl
          have ET := hid eT
          have HC := hid (ngCount_any y _ HQ.out.neg)
          clear hy hcell2 eT
          go_wp2_with fail
          refine HC.out.mono ?_
          rintro e w2 ⟨rfl, N2⟩
          have R : Hid (NNext w1 w2 base b a a ((D.1.take (k + 1)).foldl tallyF { m with au := D.2 })) := by
            show NNext w1 w2 base b a a _
            rw [ET.out]
            exact HQ.out.trans N2
          clear N2 HC HQ
          go_wp2
          exact ⟨⟨k + 1, hkl, by go_num, R.out⟩, by simp [intOf]; omega⟩
        · obtain rfl : k = D.1.length := by omega
          have hklz : ¬ (D.1.length : Int) < (D.1.length : Int) := by omega
          have R : Hid (NNext A wr base b a a ((evs.take (j + 1)).foldl stepE n)) := by
            show NNext A wr base b a a _
            rw [EN.out, eS.out]
            have := HQ.out
            rw [List.take_length] at this
            exact N1.out.trans this
          clear HQ
          go_wp2
          exact ⟨⟨j + 1, hlt, by go_num, R.out⟩, by simp [intOf]; omega⟩
    · obtain rfl : j = 4 := by omega
      have R : Hid (NNext A wr base b a a (evs.foldl stepE n)) := by
        have := HI.out
        rw [List.take_of_length_le (by omega)] at this
        exact this
      clear HI hlt
      go_wp2
      go_end0
      exact ⟨rfl, NNext.before0 HK.out R.out⟩

set_option maxHeartbeats 1000000 in
set_option maxRecDepth 100000 in
theorem adopt_late {base b : Nat} {a : Nm} {n : Ng} (va vb : Value) (w : World) (h : NegIn w base b a n) (h0 : ¬ n.au.st = 0) (h1 : ¬ n.au.st = 1) :
    Calls Tryz.prog 43 #[.pointer (some ⟨b, 0, none⟩), va, vb] w fun e w' => e = .returned (.int .i64 20) ∧ w' = w := by
  have HN := hid (ngNone_any w h)
  have HS := hid (ngState_any w h)
  have z0 : (n.au.st != 0) = true := by simpa using h0
  have z1 : (n.au.st != 1) = true := by simpa using h1
  clear h h0 h1
  go_enter Tryz.func43, Tryz.ntmps43
  go_wp2_with (first
    | (go_at_call 55; refine HN.out.mono ?_; rintro e w' ⟨rfl, hw⟩; rw [hw]; clear hw w')
    | (go_at_call 42; refine HS.out.mono ?_; rintro e w' ⟨rfl, hw⟩; rw [hw]; clear hw w'))
  go_ret
  exact ⟨rfl, rfl⟩

/-- What was acked to the peer is another list, made since W0. -/
theorem nnext_theirs {W0 W : World} {base b : Nat} {a0 a : Nm} {n : Ng} {u : Value} {l : List Tg} (N : NNext W0 W base b a0 a n) (ho : OwnO W base u l) (hf : FineO l) (hfar : ∀ i, a.vr.ownBlock = some i → u.ownBlock ≠ some i) (hfr : ∀ i, u.ownBlock = some i → W0.heap.size ≤ i) :
    NNext W0 (W.setCell ⟨b, 13, none⟩ u) base b a0 { a with vt := u } { n with theirs := l } := by
  have hn := (N.neg.setTheirs ho hf hfar (W0 := { W with heap := #[] }) (fun i _ => Nat.zero_le _) ⟨rfl, rfl, rfl, Nat.zero_le _, fun k hk => absurd hk (by simp)⟩).neg
  exact ⟨hn, N.am, N.fr, N.fm, fun i hi => Or.inr (hfr i hi), N.kept.andThen (kept_cell W b 13 u) (fun i _ e => Or.inl e)⟩

def errF (la lb : List Tg) : Int := if (putOptsF la).2 ≠ 0 then (putOptsF la).2 else (putOptsF lb).2

set_option maxHeartbeats 4000000 in
set_option maxRecDepth 100000 in
theorem adopt_any {base b : Nat} {a : Nm} {n : Ng} (va vb : Value) (la lb : List Tg) (w : World) (h : NegIn w base b a n) (h0 : n.au.st = 0) (ha : OptsAt w va la) (hb : OptsAt w vb lb) (hfa : FineO la) (hfb : FineO lb) :
    Calls Tryz.prog 43 #[.pointer (some ⟨b, 0, none⟩), va, vb] w fun e w' => (¬ errF la lb = 0 ∧ e = .returned (.int .i64 (errF la lb)) ∧ Kept (fun _ => False) w w') ∨ (errF la lb = 0 ∧ e = .returned (.int .i64 0) ∧ ∃ a', NNext w w' base b a a' (skipN { n with mine := la, theirs := lb })) := by
  have HN := hid (ngNone_any w h)
  have HS := hid (ngState_any w h)
  rw [h0] at HS
  obtain ⟨pa, ca, hva⟩ := ha.1.slice
  obtain ⟨pb, cb, hvb⟩ := hb.1.slice
  have k0 := (Kept.refl (fun _ => False) w).alloc (.cells #[va, vb] 22)
  have HP : Hid (∀ (j : Nat) (x : List Tg), [la, lb][j]? = some x → ∃ p c, (w.alloc (.cells #[va, vb] 22)).cell? ⟨w.heap.size, j, none⟩ = some (.slice p x.length c) ∧ OptsAt (w.alloc (.cells #[va, vb] 22)) (.slice p x.length c) x ∧ FineO x) := by
    intro j x hj
    have hc : (w.alloc (.cells #[va, vb] 22)).cell? ⟨w.heap.size, j, none⟩ = [va, vb][j]? := by
      rw [World.cell?_alloc_new]
      simp
    cases j with
    | zero =>
      have : la = x := by simpa using hj
      subst this
      exact ⟨pa, ca, by rw [hc, hva]; rfl, by rw [← hva]; exact ha.kept0 k0, hfa⟩
    | succ j =>
      cases j with
      | zero =>
        have : lb = x := by simpa using hj
        subst this
        exact ⟨pb, cb, by rw [hc, hvb]; rfl, by rw [← hvb]; exact hb.kept0 k0, hfb⟩
      | succ j => simp at hj
  have HAa := hid (fun (W : World) (k : Kept (fun _ => False) w W) => cloneO_any va la W (ha.kept0 k) (by have := hfa.1; omega))
  have HBb := hid (fun (W : World) (k : Kept (fun _ => False) w W) => cloneO_any vb lb W (hb.kept0 k) (by have := hfb.1; omega))
  have HFa := hid hfa
  have HFb := hid hfb
  have HI0 := hid h
  have HK := hid k0
  subst hva hvb
  generalize hAe : w.alloc (.cells #[.slice pa la.length ca, .slice pb lb.length cb] 22) = A at *
  have HAe := hid hAe
  clear hAe k0 h ha hb hfa hfb h0
  go_enter Tryz.func43, Tryz.ntmps43
  go_wp2_with (first
    | (go_at_call 55; refine HN.out.mono ?_; rintro e w' ⟨rfl, hw⟩; rw [hw]; clear hw w')
    | (go_at_call 42; refine HS.out.mono ?_; rintro e w' ⟨rfl, hw⟩; rw [hw]; clear hw w'))
  rw [HAe.out]
  clear HAe
  go_loopw [26] (fun vi wr => ∃ j : Nat, j ≤ 2 ∧ vi = .int .i64 (j : Int) ∧ Hid ((∀ (i : Nat) (x : List Tg), i < j → [la, lb][i]? = some x → (putOptsF x).2 = 0) ∧ Kept (fun _ => False) A wr)) (fun vi _ => 2 - (intOf vi).toNat)
  case atStart => exact ⟨0, Nat.zero_le _, rfl, fun i x hi => by omega, Kept.refl _ _⟩
  case round =>
    obtain ⟨j, hj, rfl, HI⟩ := hrel
    by_cases hlt : j < 2
    · have hltz : (j : Int) < 2 := by omega
      obtain ⟨x, hx⟩ : ∃ x, [la, lb][j]? = some x := ⟨[la, lb][j]'(by simpa using hlt), by simp⟩
      obtain ⟨p, c, hc, hox, hfx⟩ := HP.out j x hx
      have hc' := (HI.out.2.cell (p := ⟨w.heap.size, j, none⟩) (lt_of_cell hc) id).trans hc
      have HPo := hid (putOpts_any (.slice p x.length c) x wr (hox.kept0 HI.out.2).1 hfx.2.2)
      have HKw := hid (HK.out.trans HI.out.2)
      obtain ⟨B, hB⟩ : ∃ B, B = (⟨(putOptsF x).1.toArray⟩ : ByteArray) := ⟨_, rfl⟩
      obtain ⟨E, hE⟩ : ∃ E, E = (putOptsF x).2 := ⟨_, rfl⟩
      rw [← hB, ← hE] at HPo
      have HX := hid hx
      by_cases hz : E = 0
      · have R1 : Hid (∀ (i : Nat) (y : List Tg), i < j + 1 → [la, lb][i]? = some y → (putOptsF y).2 = 0) := by
          intro i y hi hy
          by_cases hij : i < j
          · exact HI.out.1 i y hij hy
          · obtain rfl : i = j := by omega
            rw [HX.out] at hy
            cases hy
            rw [← hE, hz]
        have hez : (E != 0) = false := by simp [hz]
        have HII := hid HI.out.2
        clear hz hE hB hx hc hox hfx HI
        go_wp2_with fail
        refine HPo.out.mono ?_
        rintro e w1 ⟨rfl, hk1⟩
        have R2 := hid (HII.out.trans hk1)
        clear hk1
        go_wp2
        exact ⟨⟨j + 1, hlt, by go_num, R1.out, R2.out⟩, by simp [intOf]; omega⟩
      · have hez : (E != 0) = true := by simpa using hz
        have R1 : Hid (errF la lb = E) := by
          show errF la lb = E
          unfold errF
          have hcase : j = 0 ∨ j = 1 := by omega
          rcases hcase with rfl | rfl
          · have : la = x := by simpa using HX.out
            subst this
            rw [if_pos (by rw [← hE]; exact hz), hE]
          · have : lb = x := by simpa using HX.out
            subst this
            rw [if_neg (by rw [HI.out.1 0 la (by omega) rfl]; simp), hE]
        have HZ := hid hz
        clear hz hE hB hx hc hox hfx HI
        go_wp2_with fail
        refine HPo.out.mono ?_
        rintro e w1 ⟨rfl, hk1⟩
        have R2 := hid (HKw.out.trans hk1)
        clear hk1
        go_wp2
        go_ret
        exact Or.inl ⟨by rw [R1.out]; exact HZ.out, by rw [R1.out]; rfl, R2.out⟩
    · obtain rfl : j = 2 := by omega
      have R1 : Hid (errF la lb = 0) := by
        show errF la lb = 0
        unfold errF
        rw [if_neg (by rw [HI.out.1 0 la (by omega) rfl]; simp), HI.out.1 1 lb (by omega) rfl]
      have K1 := hid (HK.out.trans HI.out.2)
      clear HI hlt HP
      go_wp2_with fail
      refine (HAa.out _ K1.out).mono ?_
      rintro e w1 ⟨u1, rfl, ho1, hk1⟩
      obtain ⟨p1, c1, rfl⟩ := slice_of ho1
      have K2 := hid (K1.out.trans hk1)
      have O1 := hid ho1
      clear ho1 hk1
      go_wp2_with fail
      refine (HBb.out _ K2.out).mono ?_
      rintro e w2 ⟨u2, rfl, ho2, hk2⟩
      obtain ⟨p2, c2, rfl⟩ := slice_of ho2
      have K3 := hid (K2.out.trans hk2)
      have O1' := hid (O1.out.kept hk2)
      have O2 := hid ho2
      have H2 := HI0.out.kept0 K3.out
      have d12 := H2.n12
      have f12 := H2.fz 12
      have d13 := H2.n13
      have f13 := H2.fz 13
      have hb0 : base ≤ w.heap.size := by have := HI0.out.lo; have := HI0.out.lt; omega
      have hs1 := K1.out.size
      have hs2 := K2.out.size
      have NM := H2.setMine (l := la) (O1'.out.mono (by omega)) HFa.out (fun i hi e => by have := HI0.out.sn_lt i (Or.inr (Or.inr hi)); have := O1'.out.baseB e; omega) (W0 := w) (fun i hi => by have := O1'.out.baseB hi; omega) K3.out
      have hk12 := kept_cell w2 b 12 (.slice p1 la.length c1)
      have NTh := nnext_theirs NM ((O2.out.keptS hk12 (fun i hi => H2.ne_b O2.out hi)).mono (by omega)) HFb.out (fun i hi e => by have := HI0.out.sn_lt i (Or.inr (Or.inr hi)); have := O2.out.baseB e; omega) (fun i hi => by have := O2.out.baseB hi; omega)
      have HSk := hid (skip_any _ NTh.neg)
      have NT := hid NTh
      clear H2 NM hk12 NTh ho2 hk2 O1 HN HS
      go_wp2_with fail
      refine HSk.out.mono ?_
      rintro e w4 ⟨rfl, N4⟩
      have NF := hid (NT.out.trans N4)
      clear N4 HSk NT
      go_wp2
      go_ret
      exact Or.inr ⟨R1.out, rfl, _, NF.out⟩
end Go.Proofs.YtklapjfljffahaaGreat

namespace Go.Proofs.YtklapjfljffahaaGreat
open Go.RowKit

theorem one_pk (W1 : World) (lo : Nat) (h : lo ≤ W1.heap.size) (c i : Int) (s : ByteArray) : (W1.alloc (.cells #[.int .i64 c, .int .i64 i, .slice none 0 0, .string s] 24)).ownsRow lo 24 4 (.slice (some ⟨W1.heap.size, 0, none⟩) 1 1) 1 (rowP [(⟨c, i, [], s⟩, .slice none 0 0)]) :=
  ⟨rfl, Or.inr ⟨W1.heap.size, 1, _, rfl, h, heap_alloc_new W1 _, Nat.le_refl _, by decide, rfl, rfl⟩⟩
theorem lsent_told {W W1 : World} {base b : Nat} {m m' : Lm} {l' : Lp} (k : LNext W W1 base b m m' l') (c i : Int) (s : ByteArray) :
    LSent W (W1.alloc (.cells #[.int .i64 c, .int .i64 i, .slice none 0 0, .string s] 24)) base b m (l', [⟨c, i, [], s⟩]) (.slice (some ⟨W1.heap.size, 0, none⟩) 1 1) :=
  ⟨m', [(⟨c, i, [], s⟩, .slice none 0 0)], ⟨k.then0 ((Kept.refl _ _).alloc _), one_pk W1 _ k.kept.size c i s, fun p hp => by rw [List.mem_singleton.1 hp]; exact OwnO.nil _ _, fun p hp i hi => by rw [List.mem_singleton.1 hp] at hi; cases hi⟩, rfl⟩

def adoptL (l : Lp) (la lb : List Tg) : Lp := { l with ng := skipN { l.ng with mine := la, theirs := lb } }
set_option maxRecDepth 100000 in
theorem lcpAdopt_any {base b : Nat} {m : Lm} {l : Lp} (va vb : Value) (la lb : List Tg) (w : World) (h : LcpIn w base b m l) (h0 : l.ng.au.st = 0) (ha : OptsAt w va la) (hb : OptsAt w vb lb) (hfa : FineO la) (hfb : FineO lb) (he : errF la lb = 0) :
    Calls Tryz.prog 18 #[.pointer (some ⟨b, 0, none⟩), va, vb] w fun e w' => e = .returned (.int .i64 0) ∧ ∃ m', LNext w w' base b m m' (adoptL l la lb) := by
  have HN := hid (negotiation_any w h)
  have HA := hid (adopt_any va vb la lb w h.neg h0 ha hb hfa hfb)
  have H := hid h
  have HE := hid he
  obtain ⟨pa, ca, rfl⟩ := ha.1.slice
  obtain ⟨pb, cb, rfl⟩ := hb.1.slice
  unfold adoptL
  clear h ha hb hfa hfb h0 he
  generalize skipN { l.ng with mine := la, theirs := lb } = K at *
  go_enter Tryz.func18, Tryz.ntmps18
  go_wp2_with (first | (go_at_call 31; refine HN.out.mono ?_; rintro e w' ⟨rfl, hw⟩; rw [hw]; clear hw w'))
  refine HA.out.mono ?_
  rintro e w1 (⟨h1, _⟩ | ⟨_, rfl, a', hn⟩)
  · exact absurd HE.out h1
  · have NX := hid (H.out.ofNeg hn)
    clear hn
    go_wp2
    go_ret
    exact ⟨rfl, _, NX.out⟩

set_option maxHeartbeats 2000000 in
set_option maxRecDepth 100000 in
theorem reject_no {base b : Nat} {m : Lm} {l : Lp} (x : Int) (s : ByteArray) (w : World) (h : LcpIn w base b m l) (hc : ¬ l.ng.au.st = 9 ∨ x < 0 ∨ 65535 < x) :
    Calls Tryz.prog 14 #[.pointer (some ⟨b, 0, none⟩), .int .i64 x, .string s] w fun e w' => e = .returned (.slice none 0 0) ∧ w' = w := by
  have HO := hid (isOpened_any w h)
  clear h
  by_cases h9 : l.ng.au.st = 9
  · have e9 : (l.ng.au.st == 9) = true := by simp [h9]
    rw [e9] at HO
    have hc' : x < 0 ∨ (¬ x < 0 ∧ 65535 < x) := by
      rcases hc with h | h | h
      · exact absurd h9 h
      · exact Or.inl h
      · exact Or.inr ⟨by omega, h⟩
    clear hc h9 e9
    rcases hc' with h1 | ⟨h1, h2⟩
    all_goals
      go_enter Tryz.func14, Tryz.ntmps14
      go_wp2_with (first | (go_at_call 36; refine HO.out.mono ?_; rintro e w' ⟨rfl, hw⟩; rw [hw]; clear hw w'))
      go_ret
      exact ⟨rfl, rfl⟩
  · have e9 : (l.ng.au.st == 9) = false := by simpa using h9
    rw [e9] at HO
    clear hc h9 e9
    go_enter Tryz.func14, Tryz.ntmps14
    go_wp2_with (first | (go_at_call 36; refine HO.out.mono ?_; rintro e w' ⟨rfl, hw⟩; rw [hw]; clear hw w'))
    go_ret
    exact ⟨rfl, rfl⟩

def rejL (l : Lp) (x : Int) (s : ByteArray) : Lp × List Pk0 := ({ l with ng := { l.ng with id := nextId l.ng.id } }, [⟨8, nextId l.ng.id, [], numF x 2 ++ s.extract 0 (min s.size 1486)⟩])
set_option maxHeartbeats 2000000 in
set_option maxRecDepth 100000 in
theorem reject_yes {base b : Nat} {m : Lm} {l : Lp} (x : Int) (s : ByteArray) (w : World) (h : LcpIn w base b m l) (h9 : l.ng.au.st = 9) (h1 : 0 ≤ x) (h2 : x ≤ 65535) :
    Calls Tryz.prog 14 #[.pointer (some ⟨b, 0, none⟩), .int .i64 x, .string s] w fun e w' => ∃ vo, e = .returned vo ∧ LSent w w' base b m (rejL l x s) vo := by
  have HO := hid (isOpened_any w h)
  rw [show (l.ng.au.st == 9) = true from by simp [h9]] at HO
  have HI := hid (nextId_any w h.neg)
  have HP := hid (fun W => put_any x 2 (by decide) (by decide) W)
  simp only [Int.cast_ofNat_Int] at HP
  have c0 := h.c0
  have H := hid h
  have j7 := first_at s (min s.size 1486) (Nat.min_le_left _ _) (min (s.size : Int) 1486) (by omega)
  have hX : (s.extract 0 (min s.size 1486)).size ≤ 1486 := by rw [ByteArray.size_extract]; omega
  have hS := numF_size x 2
  unfold rejL
  generalize s.extract 0 (min s.size 1486) = X at *
  generalize numF x 2 = S at *
  generalize nextId l.ng.id = I at *
  clear h h9
  go_enter Tryz.func14, Tryz.ntmps14
  go_wp2_with (first | (go_at_call 36; refine HO.out.mono ?_; rintro e w' ⟨rfl, hw⟩; rw [hw]; clear hw w'))
  refine HI.out.mono ?_
  rintro e w1 ⟨rfl, hn⟩
  have N1 := hid (H.out.ofNeg hn)
  clear hn
  go_wp2_with fail
  refine (HP.out _).mono ?_
  rintro e w2 ⟨rfl, hk⟩
  have N2 := hid (N1.out.then0 hk)
  clear hk
  go_wp2
  go_ret
  exact ⟨_, rfl, lsent_told N2.out _ _ _⟩
end Go.Proofs.YtklapjfljffahaaGreat

namespace Go.Proofs.YtklapjfljffahaaGreat
open Go.RowKit

set_option maxRecDepth 100000 in
theorem waits_any (b : Nat) (c : Au) (hg : GoodA c) (w : World) (h : AutoIn w b c) : Calls Tryz.prog 67 #[.pointer (some ⟨b, 0, none⟩)] w fun e w' => e = .returned (.bool (waitsF c)) ∧ w' = w := by
  have HS := hid (state_any b c hg w h)
  unfold waitsF
  have h1 := hg.st1
  have h2 := hg.st2
  clear h hg
  obtain ⟨s, hs⟩ : ∃ s, s = c.st := ⟨_, rfl⟩
  rw [← hs] at HS h1 h2 ⊢
  clear hs
  have hc : s = 0 ∨ s = 1 ∨ s = 2 ∨ s = 3 ∨ s = 4 ∨ s = 5 ∨ s = 6 ∨ s = 7 ∨ s = 8 ∨ s = 9 := by omega
  rcases hc with rfl | rfl | rfl | rfl | rfl | rfl | rfl | rfl | rfl | rfl
  all_goals
    go_enter Tryz.func67, Tryz.ntmps67
    go_wp2_with (go_at_call 71; refine HS.out.mono ?_; rintro e w' ⟨rfl, rfl⟩)
    go_ret
    exact ⟨rfl, rfl⟩
end Go.Proofs.YtklapjfljffahaaGreat

namespace Go.Proofs.YtklapjfljffahaaGreat
open Go.RowKit

set_option maxHeartbeats 1000000 in
set_option maxRecDepth 100000 in
theorem time_any (b : Nat) (c : Au) (hg : GoodA c) (w : World) (h : AutoIn w b c) :
    Calls Tryz.prog 69 #[.pointer (some ⟨b, 0, none⟩)] w fun en w' => ∃ v, en = .returned v ∧ AutoIn w' b (timeF c).2 ∧ OwnI w' w.heap.size v (timeF c).1 ∧ Kept (fun i => i = b) w w' := by
  have c3 := h.c3
  have HW := hid (waits_any b c hg w h)
  have H4 := hid (do_any b c hg 4 ⟨by decide, by decide⟩ w h)
  have H5 := hid (do_any b c hg 5 ⟨by decide, by decide⟩ w h)
  have H := hid h
  unfold timeF
  cases hq : waitsF c with
  | false =>
    rw [hq] at HW
    simp only [Bool.false_eq_true, if_false]
    clear h hg hq
    go_enter Tryz.func69, Tryz.ntmps69
    go_wp2_with (go_at_call 67; refine HW.out.mono ?_; rintro e w' ⟨rfl, hw⟩; rw [hw]; clear hw w')
    go_ret
    exact ⟨_, rfl, H.out, OwnI.nil _ _, Kept.refl _ _⟩
  | true =>
    rw [hq] at HW
    simp only [if_true]
    clear h hg hq
    by_cases h0 : 0 < c.ct
    · rw [if_pos h0]
      go_enter Tryz.func69, Tryz.ntmps69
      go_wp2_with (first | (go_at_call 67; refine HW.out.mono ?_; rintro e w' ⟨rfl, hw⟩; rw [hw]; clear hw w'))
      refine H4.out.mono ?_
      rintro e w' ⟨v, rfl, ha, ho, hk⟩
      clear HW H4 H5
      go_wp2
      go_ret
      exact ⟨v, rfl, ha, ho, hk⟩
    · rw [if_neg h0]
      go_enter Tryz.func69, Tryz.ntmps69
      go_wp2_with (first | (go_at_call 67; refine HW.out.mono ?_; rintro e w' ⟨rfl, hw⟩; rw [hw]; clear hw w'))
      refine H5.out.mono ?_
      rintro e w' ⟨v, rfl, ha, ho, hk⟩
      clear HW H4 H5
      go_wp2
      go_ret
      exact ⟨v, rfl, ha, ho, hk⟩
end Go.Proofs.YtklapjfljffahaaGreat

namespace Go.Proofs.YtklapjfljffahaaGreat
open Go.RowKit

def tickN (n : Ng) : Ng × List Pk0 :=
  if waitsF n.au = false then (n, []) else if n.ticks + 1 < n.wait then ({ n with ticks := n.ticks + 1 }, []) else actsF (un n) { n with ticks := 0, au := (timeF n.au).2 } (timeF n.au).1

theorem timeF_short (c : Au) : (timeF c).1.length ≤ 100 := by
  unfold timeF
  split
  · split
    · have := next_short c.st 4
      unfold doF
      simp only
      omega
    · have := next_short c.st 5
      unfold doF
      simp only
      omega
  · exact Nat.zero_le _

set_option maxHeartbeats 4000000 in
set_option maxRecDepth 100000 in
theorem ngTick_any {base b : Nat} {a : Nm} {n : Ng} (w : World) (h : NegIn w base b a n) (ht : n.ticks < n.wait) :
    Calls Tryz.prog 38 #[.pointer (some ⟨b, 0, none⟩)] w fun e w' => ∃ vo, e = .returned vo ∧ Sent w w' base b a (tickN n) vo := by
  have HN := hid (ngNone_any w h)
  have HW := hid (waits_any a.am n.au h.good.au w h.auto)
  have n0 := h.n0
  have n6 := h.n6
  have n11 := h.n11
  have f11 := h.fz 11
  have H := hid h
  have g := h.good
  unfold tickN
  clear h
  cases hq : waitsF n.au with
  | false =>
    rw [hq] at HW
    rw [if_pos rfl]
    go_enter Tryz.func38, Tryz.ntmps38
    go_wp2_with (first
      | (go_at_call 55; refine HN.out.mono ?_; rintro e w' ⟨rfl, hw⟩; rw [hw]; clear hw w')
      | (go_at_call 67; refine HW.out.mono ?_; rintro e w' ⟨rfl, hw⟩; rw [hw]; clear hw w'))
    go_ret
    exact ⟨_, rfl, Sent.none (NNext.refl H.out)⟩
  | true =>
    rw [hq] at HW
    rw [if_neg (by simp)]
    have hw1 : IntKind.i64.wrap (n.ticks + 1) = n.ticks + 1 := by rw [IntKind.wrap_i64]; have := g.ticks; omega
    have N1 := H.out.set (n' := { n with ticks := n.ticks + 1 }) 11 (.int .i64 (n.ticks + 1)) rfl ⟨g.au, g.fails, g.wait, g.id, g.naks, (by have := g.ticks; have := g.wait; simp only; omega), g.ups, g.downs, g.req, g.mine, g.theirs⟩ rfl rfl rfl rfl rfl rfl
    by_cases hlt : n.ticks + 1 < n.wait
    · rw [if_pos hlt]
      have HN1 := hid N1
      clear N1 g hq
      go_enter Tryz.func38, Tryz.ntmps38
      go_wp2_with (first
        | (go_at_call 55; refine HN.out.mono ?_; rintro e w' ⟨rfl, hw⟩; rw [hw]; clear hw w')
        | (go_at_call 67; refine HW.out.mono ?_; rintro e w' ⟨rfl, hw⟩; rw [hw]; clear hw w'))
      go_region
      go_wp2
      go_ret
      exact ⟨_, rfl, Sent.none (HN1.out.then0 (Kept.refl _ _).drew)⟩
    · rw [if_neg hlt]
      have HN1 := hid N1
      clear N1 hq
      go_enter Tryz.func38, Tryz.ntmps38
      go_wp2_with (first
        | (go_at_call 55; refine HN.out.mono ?_; rintro e w' ⟨rfl, hw⟩; rw [hw]; clear hw w')
        | (go_at_call 67; refine HW.out.mono ?_; rintro e w' ⟨rfl, hw⟩; rw [hw]; clear hw w'))
      go_region
      go_upto_region 6 with fail
      have N2 := hid (HN1.out.then0 ((Kept.refl (fun _ => False) (w.setCell ⟨b, 11, none⟩ (.int .i64 (n.ticks + 1)))).drew))
      clear n0 n6 n11 f11 HN1 HN HW
      generalize (w.setCell ⟨b, 11, none⟩ (.int .i64 (n.ticks + 1))).drew = w2 at *
      have d11 := N2.out.neg.n11
      have f11 := N2.out.neg.fz 11
      have N3 := N2.out.neg.set (n' := { n with ticks := 0 }) 11 (.int .i64 0) rfl ⟨g.au, g.fails, g.wait, g.id, g.naks, ⟨by simp, by simp⟩, g.ups, g.downs, g.req, g.mine, g.theirs⟩ rfl rfl rfl rfl rfl rfl
      have NT := hid (N2.out.trans N3)
      clear N3
      go_upto_region 7 with fail
      generalize w2.setCell ⟨b, 11, none⟩ (.int .i64 0) = w3 at *
      clear d11 f11 N2
      have n0 := NT.out.neg.n0
      have HTm := hid (time_any a.am n.au g.au w3 NT.out.neg.auto)
      go_wp2_with fail
      refine HTm.out.mono ?_
      rintro e w4 ⟨vd, rfl, ha, ho, hk⟩
      have N4 := hid (NT.out.trans (NT.out.neg.step ha (g.au.time) hk))
      have HO := hid ho
      obtain ⟨pd, cd, rfl⟩ := ho.slice
      have HU := hid (unasked_any w4 N4.out.neg)
      unfold czV at HU
      simp only at HU
      clear ha ho hk NT HTm
      go_wp2_with fail
      refine HU.out.mono ?_
      rintro e w5 ⟨rfl, hk⟩
      have N5 := hid (N4.out.then0 hk)
      have HA := hid (act_any (un n) (.slice none 0 0) (.slice none 0 0) _ none (timeF n.au).1 (timeF_short n.au) w5 N5.out.neg (un_at n) (HO.out.kept0 hk))
      unfold czV un at HA
      simp only at HA
      clear hk HU N4 HO
      go_wp2_with fail
      refine HA.out.mono ?_
      rintro e w6 ⟨vo, rfl, vt, l, U⟩
      have HS := hid (Sent.of N5.out U (fun i hi => by cases hi))
      obtain ⟨p, cap, rfl⟩ := slice_of U.out.row
      clear U
      go_wp2
      go_ret
      exact ⟨_, rfl, HS.out⟩
end Go.Proofs.YtklapjfljffahaaGreat

namespace Go.Proofs.YtklapjfljffahaaGreat
open Go.RowKit

def upsL (l : Lp) : Lp := if l.ng.ups != l.ups then { l with ups := l.ng.ups, ticks := 0 } else l
def openL (l : Lp) : Lp × List Pk0 :=
  if (upsL l).ticks + 1 < (upsL l).echo then ({ upsL l with ticks := (upsL l).ticks + 1 }, [])
  else if 3 ≤ (upsL l).missed then doL { upsL l with ticks := 0 } 3
  else ({ upsL l with ticks := 0, missed := (upsL l).missed + 1, ng := { (upsL l).ng with id := nextId (upsL l).ng.id } }, [⟨9, nextId (upsL l).ng.id, [], numF (upsL l).magic 4⟩])

theorem upsL_ng (l : Lp) : (upsL l).ng = l.ng := by unfold upsL; split <;> rfl

set_option maxHeartbeats 8000000 in
set_option maxRecDepth 100000 in
theorem tickOpened_any {base b : Nat} {m : Lm} {l : Lp} (w : World) (h : LcpIn w base b m l) (hT : l.ticks < l.echo) :
    Calls Tryz.prog 39 #[.pointer (some ⟨b, 0, none⟩)] w fun e w' => ∃ vo, e = .returned vo ∧ LSent w w' base b m (openL l) vo := by
  have c0 := h.c0
  have HU := hid (ngUps_any w h.neg)
  have H := hid h
  have HR : Hid (openL l = if (upsL l).ticks + 1 < (upsL l).echo then ({ upsL l with ticks := (upsL l).ticks + 1 }, []) else if 3 ≤ (upsL l).missed then doL { upsL l with ticks := 0 } 3 else ({ upsL l with ticks := 0, missed := (upsL l).missed + 1, ng := { (upsL l).ng with id := nextId (upsL l).ng.id } }, [⟨9, nextId (upsL l).ng.id, [], numF (upsL l).magic 4⟩])) := rfl
  have HL : Hid (upsL l = if l.ng.ups != l.ups then { l with ups := l.ng.ups, ticks := 0 } else l) := rfl
  have HT : Hid ((upsL l).ticks < (upsL l).echo ∧ (upsL l).echo ≤ 100 ∧ 0 ≤ (upsL l).ticks) := by
    show _ ∧ _ ∧ _
    have g := h.good
    have := g.ticks
    have := g.echo
    unfold upsL
    split
    · exact ⟨by simp only; omega, by simp only; omega, by simp⟩
    · exact ⟨hT, by omega, by omega⟩
  clear h hT
  generalize openL l = R at *
  generalize upsL l = L at *
  go_enter Tryz.func39, Tryz.ntmps39
  go_wp2_with fail
  refine HU.out.mono ?_
  rintro e w1 ⟨rfl, hk1⟩
  have N1 := hid (LNext.of0 H.out hk1)
  clear hk1 HU c0
  have c5 := N1.out.lcp.c5
  have f5 := N1.out.lcp.fz 5
  have c6 := N1.out.lcp.c6
  have NA := hid (N1.out.lcp.set (l' := { l with ups := l.ng.ups }) 5 (.int .i64 l.ng.ups) rfl (by have g := H.out.good; exact ⟨g.mag, g.loops, g.echo, H.out.neg.good.ups, g.ticks, g.missed⟩) rfl rfl rfl)
  have f6 := NA.out.lcp.fz 6
  have d6 := NA.out.lcp.c6
  have NB := hid (NA.out.lcp.set (l' := { l with ups := l.ng.ups, ticks := 0 }) 6 (.int .i64 0) rfl (by have g := H.out.good; exact ⟨g.mag, g.loops, g.echo, H.out.neg.good.ups, ⟨by simp, by simp⟩, g.missed⟩) rfl rfl rfl)
  cases hq : (l.ng.ups != l.ups)
  case' false =>
    simp only [hq, Bool.false_eq_true, if_false] at HL
    go_upto_region 4 with fail
    have N2 : Hid (LNext w w1 base b m m L) := by rw [HL.out]; exact N1.out
  case' true =>
    simp only [hq, if_true] at HL
    go_upto_region 4 with fail
    have N2 : Hid (LNext w ((w1.setCell ⟨b, 5, none⟩ (.int .i64 l.ng.ups)).setCell ⟨b, 6, none⟩ (.int .i64 0)) base b m m L) := by rw [HL.out]; exact (N1.out.trans NA.out).trans NB.out
    generalize (w1.setCell ⟨b, 5, none⟩ (.int .i64 l.ng.ups)).setCell ⟨b, 6, none⟩ (.int .i64 0) = w1 at *
  all_goals
    clear c5 f5 c6 NA f6 d6 NB N1 HL hq
    obtain ⟨hT1, hT2, hT3⟩ := HT.out
    have c6 := N2.out.lcp.c6
    have f6 := N2.out.lcp.fz 6
    have hw6 : IntKind.i64.wrap (L.ticks + 1) = L.ticks + 1 := by rw [IntKind.wrap_i64]; omega
    have N3 := hid (N2.out.trans (N2.out.lcp.set (l' := { L with ticks := L.ticks + 1 }) 6 (.int .i64 (L.ticks + 1)) rfl (by have g := N2.out.lcp.good; exact ⟨g.mag, g.loops, g.echo, g.ups, ⟨by simp only; omega, by simp only; omega⟩, g.missed⟩) rfl rfl rfl))
    go_upto_region 5 with fail
    generalize w1.setCell ⟨b, 6, none⟩ (.int .i64 (L.ticks + 1)) = w3 at *
    clear c6 f6 hw6 N2
    have c6 := N3.out.lcp.c6
    have c4 := N3.out.lcp.c4
    simp only at c6 c4
    by_cases ht : L.ticks + 1 < L.echo
    · rw [if_pos ht] at HR
      go_wp2
      go_quiet (fail)
      go_wp2
      go_ret
      exact ⟨_, rfl, by rw [HR.out]; exact LSent.none (N3.out.then0 ((Kept.refl _ _).drewN _))⟩
    · rw [if_neg ht] at HR
      go_wp2
      go_quiet (fail)
      rename_i nq
      go_upto_region 7 with fail
      have N4 := hid (N3.out.then0 ((Kept.refl (fun _ => False) w3).drewN nq))
      clear c6 c4 N3
      generalize w3.drewN nq = w4 at *
      have c6 := N4.out.lcp.c6
      have f6 := N4.out.lcp.fz 6
      have N5 := hid (N4.out.trans (N4.out.lcp.set (l' := { L with ticks := 0 }) 6 (.int .i64 0) rfl (by have g := N4.out.lcp.good; exact ⟨g.mag, g.loops, g.echo, g.ups, ⟨by simp, by simp⟩, g.missed⟩) rfl rfl rfl))
      clear N4
      go_upto_region 8 with fail
      generalize w4.setCell ⟨b, 6, none⟩ (.int .i64 0) = w5 at *
      clear c6 f6
      have c7 := N5.out.lcp.c7
      have f7 := N5.out.lcp.fz 7
      have c0 := N5.out.lcp.c0
      simp only at c7 c0
      by_cases hm : 3 ≤ L.missed
      · rw [if_pos hm] at HR
        have HD := hid (ngDo_any 3 w5 N5.out.lcp.neg)
        go_wp2_with fail
        refine HD.out.mono ?_
        rintro e w6 ⟨vo, rfl, S⟩
        obtain ⟨po, co, rfl⟩ := S.slice
        have HS := hid (LSent.before N5.out (N5.out.lcp.sent S))
        clear S
        go_wp2
        go_ret
        exact ⟨_, rfl, by rw [HR.out]; exact HS.out⟩
      · rw [if_neg hm] at HR
        have hw7 : IntKind.i64.wrap (L.missed + 1) = L.missed + 1 := by rw [IntKind.wrap_i64]; have := N5.out.lcp.good.missed; simp only at this; omega
        have N6 := hid (N5.out.trans (N5.out.lcp.set (l' := { L with ticks := 0, missed := L.missed + 1 }) 7 (.int .i64 (L.missed + 1)) rfl (by have g := N5.out.lcp.good; have := g.missed; simp only at this; exact ⟨g.mag, g.loops, g.echo, g.ups, g.ticks, ⟨by simp only; omega, by simp only; omega⟩⟩) rfl rfl rfl))
        clear N5
        go_upto_region 11 with fail
        generalize w5.setCell ⟨b, 7, none⟩ (.int .i64 (L.missed + 1)) = w6 at *
        clear c7 f7 c0 hw7
        have c0 := N6.out.lcp.c0
        have HI := hid (nextId_any w6 N6.out.lcp.neg)
        simp only at c0 HI
        go_wp2_with fail
        refine HI.out.mono ?_
        rintro e w7 ⟨rfl, hn⟩
        have N7 := hid (N6.out.trans (N6.out.lcp.ofNeg hn))
        have HSg := hid (sign_any w7 N7.out.lcp)
        simp only at HSg
        clear hn HI c0
        go_wp2_with fail
        refine HSg.out.mono ?_
        rintro e w8 ⟨rfl, hk8⟩
        have N8 := hid (N7.out.then0 hk8)
        clear hk8
        go_wp2
        go_ret
        exact ⟨_, rfl, by rw [HR.out]; exact lsent_told N8.out _ _ _⟩

set_option maxHeartbeats 2000000 in
set_option maxRecDepth 100000 in
/-- A tick where nothing is waited for. -/
theorem ngTick_idle {base b : Nat} {a : Nm} {n : Ng} (w : World) (h : NegIn w base b a n) (hq : waitsF n.au = false) :
    Calls Tryz.prog 38 #[.pointer (some ⟨b, 0, none⟩)] w fun e w' => e = .returned (.slice none 0 0) ∧ w' = w := by
  have HN := hid (ngNone_any w h)
  have HW := hid (waits_any a.am n.au h.good.au w h.auto)
  have n0 := h.n0
  rw [hq] at HW
  clear h
  go_enter Tryz.func38, Tryz.ntmps38
  go_wp2_with (first
    | (go_at_call 55; refine HN.out.mono ?_; rintro e w' ⟨rfl, hw⟩; rw [hw]; clear hw w')
    | (go_at_call 67; refine HW.out.mono ?_; rintro e w' ⟨rfl, hw⟩; rw [hw]; clear hw w'))
  go_ret
  exact ⟨rfl, rfl⟩

def tickL (l : Lp) : Lp × List Pk0 := ({ l with ng := (tickN l.ng).1 }, (tickN l.ng).2)
set_option maxHeartbeats 2000000 in
set_option maxRecDepth 100000 in
/-- A tick of a link that is not opened, and does not open by it. -/
theorem lcpTick_shut {base b : Nat} {m : Lm} {l : Lp} (w : World) (h : LcpIn w base b m l) (ht : l.ng.ticks < l.ng.wait) (hs : ¬ (tickN l.ng).1.au.st = 9) :
    Calls Tryz.prog 13 #[.pointer (some ⟨b, 0, none⟩)] w fun e w' => ∃ vo, e = .returned vo ∧ LSent w w' base b m (tickL l) vo := by
  have HN := hid (negotiation_any w h)
  have HT := hid (ngTick_any w h.neg ht)
  have H := hid h
  have HS9 := hid hs
  unfold tickL
  clear h ht hs
  generalize tickN l.ng = D at *
  go_enter Tryz.func13, Tryz.ntmps13
  go_wp2_with (first | (go_at_call 31; refine HN.out.mono ?_; rintro e w' ⟨rfl, hw⟩; rw [hw]; clear hw w'))
  refine HT.out.mono ?_
  rintro e w1 ⟨vo, rfl, S⟩
  obtain ⟨po, co, rfl⟩ := S.slice
  have HS := hid (H.out.sent S)
  obtain ⟨m1, q1, hs1, _⟩ := HS.out
  have HO := hid (isOpened_any w1 hs1.nx.lcp)
  rw [show (({ l with ng := D.1 } : Lp).ng.au.st == 9) = false from by simpa using HS9.out] at HO
  clear S hs1 HN HT
  go_wp2_with (first | (go_at_call 36; refine HO.out.mono ?_; rintro e w' ⟨rfl, hw⟩; rw [hw]; clear hw w'))
  go_ret
  exact ⟨_, rfl, HS.out⟩
end Go.Proofs.YtklapjfljffahaaGreat

namespace Go.Proofs.YtklapjfljffahaaGreat
open Go.RowKit

theorem rowP_one' {W : World} {base : Nat} {q : List (Pk0 × Value)} (h : ∀ p ∈ q, OwnO W base p.2 p.1.opts) : ∀ u ∈ rowP q, u.oneCell' = true := by
  intro u hu
  unfold rowP at hu
  obtain ⟨p, hp, hu⟩ := List.mem_flatMap.1 hu
  obtain ⟨a, c, e⟩ := slice_of (h p hp)
  simp only [pkCells, List.mem_cons, List.not_mem_nil, or_false] at hu
  rcases hu with rfl | rfl | rfl | rfl
  · rfl
  · rfl
  · rw [e]; rfl
  · rfl
theorem appendP {W W' : World} {base b : Nat} {m : Lm} {s : Lp × List Pk0} {vo : Value} (h : LSent W W' base b m s vo) (hn : s.2.length ≤ 1000) :
    ∃ v' w', AppP W' (.slice none 0 0) vo v' w' ∧ LSent W w' base b m s v' := by
  obtain ⟨m', q, hs, e⟩ := h
  obtain ⟨i0, hi0, hz0, hz1, hz2⟩ := info_parts infoPk
  have hl : q.length = s.2.length := by rw [← e, List.length_map]
  rcases hs.row.2 with ⟨rfl, h0⟩ | ⟨g, cap, cur, rfl, hb, hg, h1, h2, h3, h4⟩
  · have hq : q = [] := List.eq_nil_of_length_eq_zero (by simpa using h0)
    subst hq
    refine ⟨.slice none 0 0, W', fun ty => ?_, m', [], hs, e⟩
    exact run_append_nothing W' _ _ _ _ i0 Tryz.underlying33 hi0 none 0 0 (Nat.le_refl _) _ (Src.ofNil W' Tryz.underlying33 0)
  · by_cases hq : q = []
    · subst hq
      refine ⟨.slice none 0 0, W', fun ty => ?_, m', [], ⟨hs.nx, World.ownsRow_nil _ _ _ _, fun _ hp => absurd hp List.not_mem_nil, fun _ hp => absurd hp List.not_mem_nil⟩, e⟩
      exact run_append_nothing W' _ _ _ _ i0 Tryz.underlying33 hi0 none 0 0 (Nat.le_refl _) _ (Src.ofSlice W' Tryz.underlying33 ⟨g, 0, none⟩ 0 cap [] (by simp) (fun j u hj => by simp at hj) (fun u hu => by simp at hu))
    · have hpos : 0 < q.length := List.length_pos_iff.2 hq
      have hcells : ∀ (j : Nat) (u : Value), (rowP q)[j]? = some u → W'.cell? ((⟨g, 0, none⟩ : Addr).add j) = some u := fun j u hj => by
        have ha : (⟨g, 0, none⟩ : Addr).add j = ⟨g, j, none⟩ := by
          unfold Addr.add
          split <;> simp_all
        have hlt := (List.getElem?_eq_some_iff.1 hj).1
        rw [rowP_length] at hlt
        rw [ha, ← hj, ← h4, List.getElem?_take_of_lt (by omega)]
        simp [World.cell?, hg]
      obtain ⟨v', w', r1, r2, r3⟩ := owned_append (P := Tryz.prog) Tryz.underlying33 hi0 hz0 hz1 hz2 rfl (by decide) (World.ownsRow_nil W' W.heap.size 24 4) hs.nx.kept.size ⟨g, 0, none⟩ q.length cap (rowP q) hpos (rowP_length q) hcells (rowP_one' hs.opts) (by omega) (by decide)
      have hk : Kept (fun _ => False) W' w' := by
        rcases r3 with ⟨g', cap', e1, _, _⟩ | ⟨cap', _, hk, _⟩
        · cases e1
        · exact hk
      refine ⟨v', w', r1, m', q, ⟨hs.nx.then0 hk, by simpa using r2, fun p hp => (hs.opts p hp).kept hk, hs.far⟩, e⟩

/-- What Close does in Opened. -/
theorem close_open (n : Ng) (h : n.au.st = 9) : (doN n 3).1.au.st = 4 ∧ (doN n 3).1.ticks = 0 ∧ (doN n 3).1.wait = n.wait ∧ (doN n 3).2 = [⟨5, nextId n.id, [], ⟨#[]⟩⟩] := by
  obtain ⟨⟨cf, tm, st, ct⟩, req, own, peer, fails, wait, id, last, begun, naks, ticks, mine, theirs, ups, downs⟩ := n
  have h : st = 9 := h
  subst h
  exact ⟨by kernel_rfl, by kernel_rfl, by kernel_rfl, by kernel_rfl⟩
theorem openL_short (l : Lp) (h : l.ng.au.st = 9) : (openL l).2.length ≤ 1000 := by
  unfold openL
  split
  · simp
  · split
    · unfold doL
      rw [(close_open _ (by simp only [upsL_ng]; exact h)).2.2.2]
      simp
    · simp

set_option maxHeartbeats 2000000 in
set_option maxRecDepth 100000 in
theorem lcpTick_open {base b : Nat} {m : Lm} {l : Lp} (w : World) (h : LcpIn w base b m l) (h9 : l.ng.au.st = 9) (he : l.echo ≠ 0) (hT : l.ticks < l.echo) :
    Calls Tryz.prog 13 #[.pointer (some ⟨b, 0, none⟩)] w fun e w' => ∃ vo, e = .returned vo ∧ LSent w w' base b m (openL l) vo := by
  have HN := hid (negotiation_any w h)
  have HT := hid (ngTick_idle w h.neg (by unfold waitsF; rw [h9]; rfl))
  have HO := hid (isOpened_any w h)
  rw [show (l.ng.au.st == 9) = true from by simp [h9]] at HO
  have c4 := h.c4
  have hez : (l.echo == 0) = false := by simpa using he
  have HTo := hid (tickOpened_any w h hT)
  have HSh := hid (openL_short l h9)
  clear h h9 he hT
  generalize openL l = R at *
  go_enter Tryz.func13, Tryz.ntmps13
  go_wp2_with (first
    | (go_at_call 31; refine HN.out.mono ?_; rintro e w' ⟨rfl, hw⟩; rw [hw]; clear hw w')
    | (go_at_call 38; refine HT.out.mono ?_; rintro e w' ⟨rfl, hw⟩; rw [hw]; clear hw w')
    | (go_at_call 36; refine HO.out.mono ?_; rintro e w' ⟨rfl, hw⟩; rw [hw]; clear hw w'))
  refine HTo.out.mono ?_
  rintro e w1 ⟨vo, rfl, S⟩
  obtain ⟨v', w2, hr, S2⟩ := appendP S HSh.out
  obtain ⟨po, co, rfl⟩ := S.slice
  obtain ⟨pv, cv, rfl⟩ := S2.slice
  have HS := hid S2
  unfold AppP at hr
  clear S S2
  go_wp2_with (at_builtin; refine Lib.wpList_append_run _ rfl _ _ _ _ rfl _ _ rfl rfl _ _ (hr _) ?_)
  go_ret
  exact ⟨_, rfl, HS.out⟩
end Go.Proofs.YtklapjfljffahaaGreat

namespace Go.Proofs.YtklapjfljffahaaGreat
open Go.RowKit

set_option maxHeartbeats 1000000 in
set_option maxRecDepth 100000 in
theorem change_fn (ob : Nat) (o r : Tg) (w : World) (hb : BoxO w ob o) : Calls Tryz.prog 106 #[.agg #[.int .i64 r.type, .string r.value], .pointer (some ⟨ob, 0, none⟩)] w fun e w' => e = .returned (.bool (r.type == o.type)) ∧ Kept (fun _ => False) w w' := by
  have k0 := (Kept.refl (fun _ => False) w).alloc (.cells #[.int .i64 r.type, .string r.value] 67)
  have b0 := (BoxO.new w r).c0
  have hb1 : BoxO (w.alloc (.cells #[.int .i64 r.type, .string r.value] 67)) ob o := (k0.block _ hb.lt id).trans hb
  have c0 := hb1.c0
  have HK := hid k0
  clear k0 hb hb1
  cases hq : (r.type == o.type) with
  | true =>
    go_enter Tryz.func106, Tryz.ntmps106
    go_wp2
    go_ret
    exact ⟨by rw [← hq]; rfl, HK.out⟩
  | false =>
    go_enter Tryz.func106, Tryz.ntmps106
    go_wp2
    go_ret
    exact ⟨by rw [← hq]; rfl, HK.out⟩

/-- The place of the first option of a type; -1, if there is none. -/
def FoundO (l : List Tg) (t : Int) (r : Int) : Prop := (r = -1 ∧ ∀ x ∈ l, (x.type == t) = false) ∨ ∃ (j : Nat) (x : Tg), r = (j : Int) ∧ l[j]? = some x ∧ (x.type == t) = true ∧ ∀ y ∈ l.take j, (y.type == t) = false

set_option maxHeartbeats 2000000 in
set_option maxRecDepth 100000 in
theorem indexF_any (v : Value) (l : List Tg) (ob : Nat) (o : Tg) (w : World) (hv : TagsAt w v l) (hl : l.length ≤ 1000000) (hb : BoxO w ob o) :
    Calls Tryz.prog 105 #[v, .func (.func 106) #[] #[.pointer (some ⟨ob, 0, none⟩)]] w fun e w' => ∃ r, e = .returned (.int .i64 r) ∧ FoundO l o.type r ∧ Kept (fun _ => False) w w' := by
  obtain ⟨p, cap, rfl⟩ := hv.slice
  have HT := hid (fun (W : World) (k : Kept (fun _ => False) w W) => hv.kept0 k)
  have HF := hid (fun (r : Tg) (W : World) (k : Kept (fun _ => False) w W) => change_fn ob o r W ((k.block _ hb.lt id).trans hb))
  clear hv hb
  go_enter Tryz.func105, Tryz.ntmps105
  go_wp2
  go_loopw [5, 8] (fun _ s wr => ∃ j : Nat, j ≤ l.length ∧ s = .int .i64 (j : Int) ∧ Hid (∀ y ∈ l.take j, (y.type == o.type) = false) ∧ Hid (Kept (fun _ => False) w wr)) (fun _ s _ => l.length - (intOf s).toNat)
  case atStart => exact ⟨0, Nat.zero_le _, rfl, (fun y hy => by simp at hy), Kept.refl _ _⟩
  case round =>
    obtain ⟨j, hj, rfl, HA, HK⟩ := hrel
    by_cases hlt : j < l.length
    · obtain ⟨x, hx⟩ : ∃ x, l[j]? = some x := ⟨l[j], by simp [hlt]⟩
      have hltz : (j : Int) < (l.length : Int) := by omega
      obtain ⟨g, of, rfl, hcap, c0, c1⟩ := (HT.out wr HK.out).at hx
      have Hx := hid hx
      have Hc := hid (HF.out x wr HK.out)
      have hst := hid (take_next hx)
      clear hx
      generalize hqq : (x.type == o.type) = q at Hc
      have Hq := hid hqq
      clear hqq
      go_wp2_with fail
      refine Hc.out.mono ?_
      rintro e w2 ⟨rfl, hk2⟩
      have HK2 := hid (HK.out.trans hk2)
      clear hk2 c0 c1 Hc
      cases q with
      | true =>
        go_wp2
        go_ret
        exact ⟨_, rfl, Or.inr ⟨j, x, rfl, Hx.out, Hq.out, HA.out⟩, HK2.out⟩
      | false =>
        go_wp2
        refine ⟨⟨j + 1, hlt, by go_num, fun y hy => ?_, HK2.out⟩, by simp [intOf]; omega⟩
        rw [hst.out, List.mem_append] at hy
        rcases hy with hy | hy
        · exact HA.out y hy
        · rw [List.mem_singleton] at hy
          rw [hy]
          exact Hq.out
    · obtain rfl : j = l.length := by omega
      have hltz : ¬ (l.length : Int) < (l.length : Int) := by omega
      go_wp2
      go_ret
      refine ⟨_, rfl, Or.inl ⟨rfl, fun y hy => HA.out y (by rw [List.take_of_length_le (Nat.le_refl _)]; exact hy)⟩, HK.out⟩

theorem rowT_set {l : List Tg} {j : Nat} {x : Tg} (hj : l[j]? = some x) (s : ByteArray) : rowT (l.set j ⟨x.type, s⟩) = (rowT l).set (j * 2 + 1) (.string s) := by
  induction l generalizing j with
  | nil => simp at hj
  | cons y l ih =>
    cases j with
    | zero =>
      have : y = x := by simpa using hj
      subst this
      simp [rowT, tgCells]
    | succ j =>
      have e := ih (j := j) (by simpa using hj)
      have e1 : rowT (y :: l) = .int .i64 y.type :: .string y.value :: rowT l := by simp [rowT, tgCells]
      have e2 : rowT (y :: l.set j ⟨x.type, s⟩) = .int .i64 y.type :: .string y.value :: rowT (l.set j ⟨x.type, s⟩) := by simp [rowT, tgCells]
      rw [List.set_cons_succ, e2, e, e1, show (j + 1) * 2 + 1 = (j * 2 + 1) + 1 + 1 by omega, List.set_cons_succ, List.set_cons_succ]

theorem OwnO.setVal {W : World} {base g n cap j : Nat} {l : List Tg} {x : Tg} (h : OwnO W base (.slice (some ⟨g, 0, none⟩) n cap) l) (hj : l[j]? = some x) (s : ByteArray) : OwnO (W.setCell ⟨g, j * 2 + 1, none⟩ (.string s)) base (.slice (some ⟨g, 0, none⟩) n cap) (l.set j ⟨x.type, s⟩) := by
  rcases h.2 with ⟨h', _⟩ | ⟨g', cap', cur, e, hb, hg, h1, h2, h3, h4⟩
  · simp at h'
  · simp only [Value.slice.injEq, Option.some.injEq, Addr.mk.injEq, and_true] at e
    obtain ⟨rfl, rfl, rfl⟩ := e
    refine ⟨by rw [rowT_length], Or.inr ⟨g, cap, cur.setIfInBounds (j * 2 + 1) (.string s), by rw [List.length_set], hb, Joins.block_setCell hg _, by rw [List.length_set]; exact h1, h2, by simpa using h3, ?_⟩⟩
    rw [List.length_set, rowT_set hj, ← h4, Array.toList_setIfInBounds, List.take_set]

section
variable {W W' : World} {base b : Nat} {a : Nm} {n : Ng}
/-- The request's own row has turned. -/
theorem NegIn.setRow (h : NegIn W base b a n) {l : List Tg} (hk : Kept (fun i => a.vr.ownBlock = some i) W W') (ho : OwnO W' base a.vr l) (hf : FineO l) : NNext W W' base b a a { n with req := l } := by
  have hc : ∀ j, a.vr.ownBlock = some j → j < W.heap.size → ∃ cur e fz, W.heap[j]? = some (.cells cur e fz) := fun j e _ => by
    obtain ⟨cur, hc⟩ := h.req.cellsB e
    exact ⟨_, _, _, hc⟩
  refine ⟨⟨(hk.block b h.lt (fun e => h.ne_b h.req e rfl)).trans h.cells, h.auto.kept hk (fun e => h.ne_a h.req e rfl), ho, h.own.kept hk hc, h.peer.kept hk hc, h.mine.keptS hk (fun i hi e => h.far1 i e hi), h.theirs.keptS hk (fun i hi e => h.far2 i e hi), h.far1, h.far2, h.lo, h.lo2, ?_⟩, rfl, fun _ h => Or.inl h, fun _ h => Or.inl h, fun _ h => Or.inl h, hk.mono (fun j _ e => Or.inr (Or.inr e))⟩
  have g := h.good
  exact ⟨g.au, g.fails, g.wait, g.id, g.naks, g.ticks, g.ups, g.downs, hf, g.mine, g.theirs⟩
end

set_option maxHeartbeats 4000000 in
set_option maxRecDepth 100000 in
theorem change_fits {base b : Nat} {a : Nm} {n : Ng} (o : Tg) (w : World) (h : NegIn w base b a n) (ho64 : In64 o.type) (hos : o.value.size ≤ 140737488351232) (r : Tg) (hr : n.req = [r]) (ht : r.type = o.type) (hl : letsB n.own o = true) :
    Calls Tryz.prog 87 #[.pointer (some ⟨b, 0, none⟩), .agg #[.int .i64 o.type, .string o.value]] w fun e w' => e = .returned (.bool true) ∧ NNext w w' base b a a { n with req := [⟨r.type, o.value⟩] } := by
  have k0 := (Kept.refl (fun _ => False) w).alloc (.cells #[.int .i64 o.type, .string o.value] 67)
  have hA := h.kept0 k0
  have HIx := hid (indexF_any a.vr n.req w.heap.size o _ hA.req.tags (by have := hA.good.req.1; omega) (BoxO.new w o))
  have hB := BoxO.new w o
  generalize hAe : w.alloc (.cells #[.int .i64 o.type, .string o.value] 67) = A at *
  have HAe := hid hAe
  obtain ⟨pr, cr, hvr⟩ := slice_of hA.req
  have hTg : TagsAt A (.slice pr n.req.length cr) n.req := by
    have := hA.req.tags
    rw [hvr] at this
    exact this
  obtain ⟨g, og, hpr, hcap, _, _⟩ := hTg.at (j := 0) (x := r) (by rw [hr]; rfl)
  clear hTg
  have hg0 : og = 0 := by
    rcases hA.req.2 with ⟨e, _⟩ | ⟨g', cap', cur, e, _⟩
    · rw [hvr] at e; simp at e; rw [e.1] at hpr; cases hpr
    · rw [hvr] at e
      simp only [Value.slice.injEq] at e
      rw [e.1] at hpr
      simp at hpr
      exact hpr.2.symm
  subst hg0
  subst hpr
  rw [hr, List.length_singleton] at hvr hcap
  have d1 := hA.n1
  have d2 := hA.n2
  rw [hvr] at HIx d1
  obtain ⟨mb, L, hvo, _⟩ := id hA.own
  rw [hvo] at d2
  have HN := hid hA
  have HK := hid k0
  have HBo := hid hB
  have HR := hid hr
  have HT := hid ht
  have HL := hid hl
  have HV := hid hvr
  have HVo := hid hvo
  clear h k0 hA hB hr ht hl hAe hvr hvo
  go_enter Tryz.func87, Tryz.ntmps87
  go_upto_region 1 with fail
  rw [HAe.out]
  clear HAe
  go_wp2_with fail
  refine HIx.out.mono ?_
  rintro e w1 ⟨i, rfl, hF, hk1⟩
  have hi0 : i = 0 := by
    rcases hF with ⟨rfl, h9⟩ | ⟨j, x, rfl, hj, _, _⟩
    · have := h9 r (by rw [HR.out]; simp)
      rw [HT.out] at this
      simp at this
    · have := (List.getElem?_eq_some_iff.1 hj).1
      rw [HR.out, List.length_singleton] at this
      omega
  subst hi0
  have N1 := HN.out.kept0 hk1
  have hB1 : BoxO w1 w.heap.size o := (hk1.block _ HBo.out.lt id).trans HBo.out
  have kd := (Kept.refl (fun _ => False) w1).drew
  have HFi := hid (bookFits_any a.vo n.own o w1.drew (N1.kept0 kd).own ho64 hos)
  rw [HL.out, HVo.out] at HFi
  unfold tgV at HFi
  have b0 := hB1.c0
  have b1 := hB1.c1
  have e1 := N1.n1
  have e2 := N1.n2
  rw [HV.out] at e1
  rw [HVo.out] at e2
  have HN1 := hid N1
  have HB1 := hid hB1
  have HK1 := hid (HK.out.trans hk1)
  clear hF hk1 N1 hB1 d1 d2 HIx
  go_wp2_with fail
  go_region_with (first | (go_at_call 107; refine HFi.out.mono ?_; rintro e w2 ⟨rfl, hk2⟩; have K2 := hid (kd.trans hk2); clear hk2))
  all_goals
    have N2 := hid (HN1.out.kept0 K2.out)
    have hB2 : BoxO w2 w.heap.size o := (K2.out.block _ HB1.out.lt id).trans HB1.out
    clear e1 e2 b0 b1
    have b0 := hB2.c0
    have b1 := hB2.c1
    have e1 := N2.out.n1
    rw [HV.out] at e1
    have O2 := N2.out.req
    rw [HV.out] at O2
    have hrow : w2.cell? ⟨g, 1, none⟩ = some (.string r.value) := by
      have h5 : TagsAt w2 (.slice (some ⟨g, 0, none⟩) 1 cr) n.req := O2.tags
      obtain ⟨g', o', e5, _, _, q1⟩ := h5.at (j := 0) (x := r) (by rw [HR.out]; rfl)
      simp only [Option.some.injEq, Addr.mk.injEq, and_true] at e5
      obtain ⟨rfl, rfl⟩ := e5
      exact q1
    have hfrz : w2.frozen? ⟨g, 1, none⟩ = false := by
      obtain ⟨cur, hcur⟩ := O2.cellsB (i := g) rfl
      exact frozen_of_row _ g 1 _ _ hcur
    have O3 := OwnO.setVal (j := 0) (x := r) O2 (by rw [HR.out]; rfl) o.value
    have NF : Hid (NNext w ((w2.setCell ⟨g, 1, none⟩ (.string o.value)).drew) base b a a { n with req := [⟨r.type, o.value⟩] }) := by
      have h6 : NNext w2 (w2.setCell ⟨g, 1, none⟩ (.string o.value)) base b a a { n with req := [⟨r.type, o.value⟩] } := by
        refine N2.out.setRow ((kept_cell w2 g 1 (.string o.value)).mono (fun i _ e => by rw [HV.out, e]; rfl)) ?_ (fine1 ?_ hos)
        · rw [HV.out]
          rw [HR.out] at O3
          exact O3
        · exact (N2.out.good.req.2.1 r (by rw [HR.out]; simp))
      exact ((NNext.before0 HK1.out (NNext.of0 HN1.out K2.out)).trans h6).then0 (Kept.refl _ _).drew
    clear O2 O3
    go_wp2_with fail
    go_region
    all_goals
      go_wp2
      go_ret
      exact ⟨rfl, NF.out⟩


set_option maxHeartbeats 2000000 in
set_option maxRecDepth 100000 in
theorem isHeard_yes {base b : Nat} {a : Nm} {n : Ng} (c i : Int) (p : Option Addr) (m cap : Nat) (s : ByteArray) (w : World) (h : NegIn w base b a n) (hb : n.begun = true) (hi : i = n.last) :
    Calls Tryz.prog 86 #[.pointer (some ⟨b, 0, none⟩), .agg #[.int .i64 c, .int .i64 i, .slice p m cap, .string s]] w fun e w' => e = .returned (.bool true) ∧ Kept (fun _ => False) w w' := by
  have k0 := (Kept.refl (fun _ => False) w).alloc (.cells #[.int .i64 c, .int .i64 i, .slice p m cap, .string s] 24)
  have O0 := own4_new w 24 (.int .i64 c) (.int .i64 i) (.slice p m cap) (.string s)
  have hA := h.kept0 k0
  have d8 := hA.n8
  have d9 := hA.n9
  obtain ⟨⟨q0, q1, q2, q3⟩, _⟩ := O0
  rw [hb] at d9
  rw [← hi] at d8
  have HK := hid k0
  clear h hA hb k0
  generalize hA : w.alloc (.cells #[.int .i64 c, .int .i64 i, .slice p m cap, .string s] 24) = A at *
  have HA := hid hA
  clear hA hi
  go_enter Tryz.func86, Tryz.ntmps86
  go_upto_region 1 with fail
  rw [HA.out]
  clear HA
  go_quiet (fail)
  go_wp2
  go_ret
  exact ⟨rfl, HK.out.drewN _⟩

/-- How far TakeNak has come. -/
structure NakU (A : World) (base b : Nat) (a : Nm) (n : Ng) (o r : Tg) (k : Nat) (v6 : Value) (W : World) : Prop where
  a0 : k = 0 → v6 = .slice none 0 0 ∧ NNext A W base b a a n
  a1 : k = 1 → NNext A W base b a a { n with req := [⟨r.type, o.value⟩] } ∧ OwnO W A.heap.size v6 [o]

set_option maxHeartbeats 8000000 in
set_option maxRecDepth 100000 in
theorem takeNak_one {base b : Nat} {a : Nm} {n : Ng} (i : Int) (v : Value) (o r : Tg) (s : ByteArray) (w : World) (h : NegIn w base b a n) (hp : PkIn w b a ⟨3, i, [o], s⟩ v) (hb : n.begun = true) (hi : i = n.last) (hr : n.req = [r]) (ht : r.type = o.type) (hl : letsB n.own o = true) :
    Calls Tryz.prog 61 #[.pointer (some ⟨b, 0, none⟩), .agg #[.int .i64 3, .int .i64 i, v, .string s]] w fun e w' => ∃ vo vt, e = .returned (.tuple #[vo, vt]) ∧ Sent w w' base b a (happenF ⟨⟨3, i, [o], s⟩, pk00, []⟩ { n with req := [⟨r.type, o.value⟩] } 9) vo ∧ OwnO w' w.heap.size vt [o] := by
  obtain ⟨pv, cv, hv⟩ := hp.at_.1.slice
  have hv : v = .slice pv 1 cv := hv
  have k0 := (Kept.refl (fun _ => False) w).alloc (.cells #[.int .i64 3, .int .i64 i, v, .string s] 24)
  have O0 := hid (own4_new w 24 (.int .i64 3) (.int .i64 i) v (.string s))
  have HA := hid (h.kept0 k0)
  have HP := hid (hp.kept0 k0)
  have HZ := hid (ngNone_any _ HA.out)
  have HH := hid (isHeard_yes 3 i pv 1 cv s _ HA.out hb hi)
  have HK0 := hid k0
  have hnS : Hid (¬ Sn b a w.heap.size) := fun s => by have := h.sn_lt _ s; omega
  have ho64 := hid (hp.fine.2.1 o (by simp))
  have hos := hid (hp.fine.2.2 o (by simp))
  have HR := hid (And.intro hr (And.intro ht hl))
  subst hv
  generalize hAe : w.alloc (.cells #[.int .i64 3, .int .i64 i, .slice pv 1 cv, .string s] 24) = A at *
  have HAe := hid hAe
  obtain ⟨⟨q0, q1, q2, q3⟩, _⟩ := O0.out
  clear h hp k0 hAe hb hi hr ht hl
  go_enter Tryz.func61, Tryz.ntmps61
  go_upto_region 1 with fail
  rw [HAe.out]
  clear HAe
  go_wp2_with (first | (go_at_call 55; refine HZ.out.mono ?_; rintro e w' ⟨rfl, hw⟩; rw [hw]; clear hw w'))
  refine HH.out.mono ?_
  rintro e w1 ⟨rfl, hk1⟩
  obtain ⟨⟨y0, y1, y2, y3⟩, _⟩ := O0.out.kept hk1
  have U0 : Hid (NakU A base b a n o r 0 (.slice none 0 0) w1) := ⟨fun _ => ⟨rfl, NNext.of0 HA.out hk1⟩, fun h => absurd h (by decide)⟩
  clear hk1 q0 q1 q2 q3 HZ HH
  go_wp2
  go_loopw [6, 20] (fun v6 v20 wr => ∃ k : Nat, k ≤ 1 ∧ v20 = .int .i64 (k : Int) ∧ Hid (NakU A base b a n o r k v6 wr)) (fun _ v20 _ => 1 - (intOf v20).toNat)
  case atStart => exact ⟨0, by decide, rfl, U0.out⟩
  case round =>
    obtain ⟨k, hk, rfl, HU⟩ := hrel
    clear U0 y0 y1 y2 y3
    by_cases hlt : k < 1
    · obtain rfl : k = 0 := by omega
      obtain ⟨rfl, hN⟩ := HU.out.a0 rfl
      have P1 := HP.out.step hN
      obtain ⟨g, og, hpv, hcap, c0, c1⟩ := P1.at_.1.at (j := 0) (x := o) rfl
      simp only [Nat.zero_mul, Nat.add_zero] at c0 c1
      subst hpv
      have ka := (Kept.refl (fun _ => False) wr).alloc (.cells #[.int .i64 o.type, .string o.value] 67)
      have Bx := BoxO.new wr o
      have b0 := Bx.c0
      have b1 := Bx.c1
      have NA := hid (hN.then0 ka)
      have HCh := hid (change_fits o _ NA.out.neg ho64.out hos.out r HR.out.1 HR.out.2.1 HR.out.2.2)
      have HBx := hid Bx
      have hlw := hN.kept.size
      have hSnl : Hid (¬ Sn b a wr.heap.size) := fun s => by have := hN.neg.sn_lt _ s; omega
      clear hN P1 ka Bx HU
      go_wp2_with fail
      refine HCh.out.mono ?_
      rintro e w2 ⟨rfl, hN2⟩
      have hB2 : BoxO w2 wr.heap.size o := (hN2.kept.block _ HBx.out.lt hSnl.out).trans HBx.out
      have d0 := hB2.c0
      have d1 := hB2.c1
      have NB := hid (NA.out.trans hN2)
      obtain ⟨v', w3, hrn, ho3, hk3, _⟩ := pushO o NB.out.kept.size (OwnO.nil w2 A.heap.size) (by simp)
      obtain ⟨p3, c3, rfl⟩ := slice_of ho3
      have UF : Hid (NakU A base b a n o r 1 (.slice p3 1 c3) w3) := ⟨fun h => absurd h (by decide), fun _ => ⟨NB.out.then0 (hk3.mono (fun _ _ e => by cases e)), ho3⟩⟩
      unfold AppO at hrn
      clear hN2 ho3 hk3 HCh NA NB hB2
      go_wp2_with (at_builtin; refine Lib.wpList_append_run _ rfl _ _ _ _ rfl _ _ rfl rfl _ _ (hrn _) ?_)
      exact ⟨⟨1, Nat.le_refl _, by go_num, UF.out⟩, by simp [intOf]⟩
    · obtain rfl : k = 1 := by omega
      obtain ⟨hN, ho⟩ := HU.out.a1 rfl
      obtain ⟨p6, c6, rfl⟩ := slice_of ho
      have P1 := hid (HP.out.step hN)
      obtain ⟨⟨y0, y1, y2, y3⟩, _⟩ := O0.out.keptS hN.kept hnS.out
      have HHp := hid (happen_any ⟨⟨3, i, [o], s⟩, pk00, []⟩ (.slice pv 1 cv) (.slice none 0 0) none 9 ⟨by decide, by decide⟩ wr hN.neg P1.out.cz)
      unfold czV pk00 at HHp
      simp only at HHp
      have HN := hid hN
      have HO := hid ho
      clear hN ho HU
      go_wp2_with fail
      refine HHp.out.mono ?_
      rintro e w4 ⟨vo, rfl, vt, l, w5, N5, U⟩
      have HS := hid (Sent.of (NNext.before0 HK0.out (HN.out.trans N5)) U (fun i hi => by cases hi))
      have hOt : OwnO w4 w.heap.size (.slice p6 [o].length c6) [o] := by
        exact (HO.out.keptS (N5.kept.trans U.nx.kept) (fun i hi s => by have := HA.out.sn_lt i s; have := HO.out.baseB hi; omega)).mono HK0.out.size
      obtain ⟨po, co, rfl⟩ := slice_of U.out.row
      have HOt := hid hOt
      clear U N5 hOt
      go_wp2
      go_ret2
      exact ⟨_, _, rfl, HS.out, HOt.out⟩
end Go.Proofs.YtklapjfljffahaaGreat

namespace Go.Proofs.YtklapjfljffahaaGreat
open Go.RowKit

set_option maxHeartbeats 4000000 in
set_option maxRecDepth 100000 in
theorem ngTake_5 {base b : Nat} {a : Nm} {n : Ng} (id : Int) (o : List Tg) (d : ByteArray) (v : Value) (w : World) (h : NegIn w base b a n) (hp : PkIn w b a ⟨5, id, o, d⟩ v) :
    Calls Tryz.prog 37 #[.pointer (some ⟨b, 0, none⟩), pkV 5 id v d] w fun e w' => ∃ vo, e = .returned vo ∧ Sent w w' base b a (happenF ⟨⟨5, id, o, d⟩, pk00, []⟩ n 10) vo := by
  unfold pkV
  obtain ⟨pv, cv, hv⟩ := hp.at_.1.slice
  have hv : v = .slice pv o.length cv := hv
  have k0 := (Kept.refl (fun _ => False) w).alloc (.cells #[.int .i64 5, .int .i64 id, v, .string d] 24)
  have O0 := hid (own4_new w 24 (.int .i64 5) (.int .i64 id) v (.string d))
  have HA := hid (h.kept0 k0)
  have HP := hid (hp.kept0 k0)
  have HZ := hid (ngNone_any _ HA.out)
  have HH := hid (happen_any ⟨⟨5, id, o, d⟩, pk00, []⟩ v (.slice none 0 0) none 10 ⟨by decide, by decide⟩ _ HA.out HP.out.cz)
  unfold czV pk00 at HH
  simp only at HH
  have HK0 := hid k0
  subst hv
  generalize hAe : w.alloc (.cells #[.int .i64 5, .int .i64 id, .slice pv o.length cv, .string d] 24) = A at *
  have HAe := hid hAe
  obtain ⟨⟨q0, q1, q2, q3⟩, _⟩ := O0.out
  clear h hp k0 hAe
  rw [show (pk00 : Pk0) = ⟨0, 0, [], ⟨#[]⟩⟩ from rfl]
  generalize happenF ⟨⟨5, id, o, d⟩, ⟨0, 0, [], ⟨#[]⟩⟩, []⟩ n 10 = R at *
  go_enter Tryz.func37, Tryz.ntmps37
  go_upto_region 1 with fail
  rw [HAe.out]
  go_wp2_with (first | (go_at_call 55; refine HZ.out.mono ?_; rintro e w' ⟨rfl, hw⟩; rw [hw]; clear hw w'))
  refine HH.out.mono ?_
  rintro e w4 ⟨vo, rfl, vt, l, w5, N5, U⟩
  have HS := hid (Sent.of (NNext.before0 HK0.out N5) U (fun i hi => by cases hi))
  obtain ⟨po, co, rfl⟩ := slice_of U.out.row
  clear U N5
  go_wp2
  go_ret
  exact ⟨_, rfl, HS.out⟩

set_option maxHeartbeats 4000000 in
set_option maxRecDepth 100000 in
theorem ngTake_6 {base b : Nat} {a : Nm} {n : Ng} (id : Int) (o : List Tg) (d : ByteArray) (v : Value) (w : World) (h : NegIn w base b a n) (hp : PkIn w b a ⟨6, id, o, d⟩ v) :
    Calls Tryz.prog 37 #[.pointer (some ⟨b, 0, none⟩), pkV 6 id v d] w fun e w' => ∃ vo, e = .returned vo ∧ Sent w w' base b a (happenF ⟨⟨6, id, o, d⟩, pk00, []⟩ n 11) vo := by
  unfold pkV
  obtain ⟨pv, cv, hv⟩ := hp.at_.1.slice
  have hv : v = .slice pv o.length cv := hv
  have k0 := (Kept.refl (fun _ => False) w).alloc (.cells #[.int .i64 6, .int .i64 id, v, .string d] 24)
  have O0 := hid (own4_new w 24 (.int .i64 6) (.int .i64 id) v (.string d))
  have HA := hid (h.kept0 k0)
  have HP := hid (hp.kept0 k0)
  have HZ := hid (ngNone_any _ HA.out)
  have HH := hid (happen_any ⟨⟨6, id, o, d⟩, pk00, []⟩ v (.slice none 0 0) none 11 ⟨by decide, by decide⟩ _ HA.out HP.out.cz)
  unfold czV pk00 at HH
  simp only at HH
  have HK0 := hid k0
  subst hv
  generalize hAe : w.alloc (.cells #[.int .i64 6, .int .i64 id, .slice pv o.length cv, .string d] 24) = A at *
  have HAe := hid hAe
  obtain ⟨⟨q0, q1, q2, q3⟩, _⟩ := O0.out
  clear h hp k0 hAe
  rw [show (pk00 : Pk0) = ⟨0, 0, [], ⟨#[]⟩⟩ from rfl]
  generalize happenF ⟨⟨6, id, o, d⟩, ⟨0, 0, [], ⟨#[]⟩⟩, []⟩ n 11 = R at *
  go_enter Tryz.func37, Tryz.ntmps37
  go_upto_region 1 with fail
  rw [HAe.out]
  go_wp2_with (first | (go_at_call 55; refine HZ.out.mono ?_; rintro e w' ⟨rfl, hw⟩; rw [hw]; clear hw w'))
  refine HH.out.mono ?_
  rintro e w4 ⟨vo, rfl, vt, l, w5, N5, U⟩
  have HS := hid (Sent.of (NNext.before0 HK0.out N5) U (fun i hi => by cases hi))
  obtain ⟨po, co, rfl⟩ := slice_of U.out.row
  clear U N5
  go_wp2
  go_ret
  exact ⟨_, rfl, HS.out⟩

def termL (l : Lp) (p : Pk0) (ev : Int) : Lp × List Pk0 := ({ l with ng := (happenF ⟨p, pk00, []⟩ l.ng ev).1 }, (happenF ⟨p, pk00, []⟩ l.ng ev).2)
set_option maxHeartbeats 4000000 in
set_option maxRecDepth 100000 in
theorem lcpTake_5 {base b : Nat} {m : Lm} {l : Lp} (id : Int) (o : List Tg) (d : ByteArray) (v : Value) (w : World) (h : LcpIn w base b m l) (hp : LPk w b m ⟨5, id, o, d⟩ v) :
    Calls Tryz.prog 12 #[.pointer (some ⟨b, 0, none⟩), pkV 5 id v d] w fun e w' => ∃ vo, e = .returned vo ∧ LSent w w' base b m (termL l ⟨5, id, o, d⟩ 10) vo := by
  obtain ⟨pv, cv, hv⟩ := hp.at_.1.slice
  have hv : v = .slice pv o.length cv := hv
  have hk0 := (Kept.refl (fun _ => False) w).alloc (.cells #[.int .i64 5, .int .i64 id, v, .string d] 24)
  have O0 := hid (own4_new w 24 (.int .i64 5) (.int .i64 id) v (.string d))
  have HL := hid (h.kept0 hk0)
  have HP := hid (hp.kept0 hk0)
  have HT := hid (fun (W : World) (hW : LcpIn W base b m l) (hq : LPk W b m ⟨5, id, o, d⟩ v) => ngTake_5 id o d v W hW.neg hq.neg)
  have HN := hid (negotiation_any _ HL.out)
  have HE := eqNegSome ⟨m.nb, 0, none⟩
  have HK0 := hid hk0
  have hnS : Hid (¬ Sl b m w.heap.size) := fun s => by have := h.sl_lt _ s; omega
  unfold pkV at HT ⊢
  unfold termL
  subst hv
  generalize hA : w.alloc (.cells #[.int .i64 5, .int .i64 id, .slice pv o.length cv, .string d] 24) = A at *
  have HA := hid hA
  have hrA := hid (lt_of_cell O0.out.1.1)
  obtain ⟨⟨q0, q1, q2, q3⟩, _⟩ := O0.out
  clear hA h hp hk0
  generalize happenF ⟨⟨5, id, o, d⟩, pk00, []⟩ l.ng 10 = RQ at *
  have B0 : BoxK w.heap.size b m.nb ⟨5, id, o, d⟩ (.slice pv o.length cv) A.drew := (O0.out.kept ((Kept.refl _ _).drew)).boxK (HL.out.kept0 ((Kept.refl _ _).drew))
  have g0 : ∀ W, BoxK w.heap.size b m.nb ⟨5, id, o, d⟩ (.slice pv o.length cv) W → W.cell? ⟨w.heap.size, 0, none⟩ = some (.int .i64 5) := fun W h => h.x0
  have g1 : ∀ W, BoxK w.heap.size b m.nb ⟨5, id, o, d⟩ (.slice pv o.length cv) W → W.cell? ⟨w.heap.size, 1, none⟩ = some (.int .i64 id) := fun W h => h.x1
  have g2 : ∀ W, BoxK w.heap.size b m.nb ⟨5, id, o, d⟩ (.slice pv o.length cv) W → W.cell? ⟨w.heap.size, 2, none⟩ = some (.slice pv o.length cv) := fun W h => h.x2
  have g3 : ∀ W, BoxK w.heap.size b m.nb ⟨5, id, o, d⟩ (.slice pv o.length cv) W → W.cell? ⟨w.heap.size, 3, none⟩ = some (.string d) := fun W h => h.x3
  have g4 : ∀ W, BoxK w.heap.size b m.nb ⟨5, id, o, d⟩ (.slice pv o.length cv) W → W.cell? ⟨b, 0, none⟩ = some (.pointer (some ⟨m.nb, 0, none⟩)) := fun W h => h.c0
  go_enter Tryz.func12, Tryz.ntmps12
  go_upto_region 1 with fail
  rw [HA.out]
  go_wp2_with (first | (go_at_call 31; refine HN.out.mono ?_; rintro e w' ⟨rfl, hw⟩; rw [hw]; clear hw w'))
  refine wp_region_held_drew (S := BoxK w.heap.size b m.nb ⟨5, id, o, d⟩ (.slice pv o.length cv)) (by kernel_rfl) (B0) (fun hSd => ?_)
  refine wpAnyH_take (i := 0) (v := ?_) rfl (by kernel_rfl) (by kernel_rfl) (by kernel_rfl) (fun _ _ _ h => h) (Or.inl ⟨by kernel_rfl, fun W hSW => by go_simp; try with_reducible rfl⟩) (by assumption) ?_
  try simp only [List.getElem_toArray]
  try simp only [List.getElem_cons_succ]
  try simp only [List.getElem_cons_zero]
  try simp only [Act.put]
  try simp only [List.setIfInBounds_toArray]
  try simp only [List.set_cons_succ]
  try simp only [List.set_cons_zero]
  refine wpAnyH_take (i := 1) (v := ?_) rfl (by kernel_rfl) (by kernel_rfl) (by kernel_rfl) (fun _ _ _ h => h) (Or.inl ⟨by kernel_rfl, fun W hSW => by go_simp; try with_reducible rfl⟩) (by assumption) ?_
  try simp only [List.getElem_toArray]
  try simp only [List.getElem_cons_succ]
  try simp only [List.getElem_cons_zero]
  try simp only [Act.put]
  try simp only [List.setIfInBounds_toArray]
  try simp only [List.set_cons_succ]
  try simp only [List.set_cons_zero]
  refine wpAnyH_take (i := 2) (v := ?_) rfl (by kernel_rfl) (by kernel_rfl) (by kernel_rfl) (fun _ _ _ h => h) (Or.inl ⟨by kernel_rfl, fun W hSW => by go_simp; try with_reducible rfl⟩) (by assumption) ?_
  try simp only [List.getElem_toArray]
  try simp only [List.getElem_cons_succ]
  try simp only [List.getElem_cons_zero]
  try simp only [Act.put]
  try simp only [List.setIfInBounds_toArray]
  try simp only [List.set_cons_succ]
  try simp only [List.set_cons_zero]
  refine wpAnyH_take (i := 3) (v := ?_) rfl (by kernel_rfl) (by kernel_rfl) (by kernel_rfl) (fun _ _ _ h => h) (Or.inl ⟨by kernel_rfl, fun W hSW => by go_simp; try with_reducible rfl⟩) (by assumption) ?_
  try simp only [List.getElem_toArray]
  try simp only [List.getElem_cons_succ]
  try simp only [List.getElem_cons_zero]
  try simp only [Act.put]
  try simp only [List.setIfInBounds_toArray]
  try simp only [List.set_cons_succ]
  try simp only [List.set_cons_zero]
  refine wpAnyH_take (i := 4) (v := ?_) rfl (by kernel_rfl) (by kernel_rfl) (by kernel_rfl) (fun _ _ _ h => h) (Or.inl ⟨by kernel_rfl, fun W hSW => by go_simp; try with_reducible rfl⟩) (by assumption) ?_
  try simp only [List.getElem_toArray]
  try simp only [List.getElem_cons_succ]
  try simp only [List.getElem_cons_zero]
  try simp only [Act.put]
  try simp only [List.setIfInBounds_toArray]
  try simp only [List.set_cons_succ]
  try simp only [List.set_cons_zero]
  refine wpAnyH_ready (rs := [5]) (by kernel_rfl) (by simp) ?_
  refine AllReadyH.cons rfl (fun K hK => ?_) AllReadyH.nil
  go_simp
  refine (HT.out _ (HL.out.kept0 ((Kept.refl _ _).drew)) (HP.out.kept0 ((Kept.refl _ _).drew))).mono ?_
  rintro e w4 ⟨vo, rfl, S⟩
  obtain ⟨po, co, rfl⟩ := S.slice
  have S' := Sent.before0 ((Kept.refl (fun _ => False) A).drew) S
  have HS := hid (LSent.before0 HK0.out (HL.out.sent S'))
  have B4 : BoxK w.heap.size b m.nb ⟨5, id, o, d⟩ (.slice pv o.length cv) w4 := by
    obtain ⟨a', q', hs, _⟩ := S'
    have N4 := HL.out.ofNeg hs.nx
    have hx := Own4.boxK (p := ⟨5, id, o, d⟩) (O0.out.keptS N4.kept hnS.out) N4.lcp
    exact ⟨hx.x0, hx.x1, hx.x2, hx.x3, hx.c0⟩
  clear S S'
  refine hK.out _ _ (B4) (fun _ => ?_)
  clear hK K
  try simp only [List.getElem_toArray]
  try simp only [List.getElem_cons_succ]
  try simp only [List.getElem_cons_zero]
  try simp only [Act.put]
  try simp only [List.setIfInBounds_toArray]
  try simp only [List.set_cons_succ]
  try simp only [List.set_cons_zero]
  refine wpAnyH_take (i := 6) (v := ?_) rfl (by kernel_rfl) (by kernel_rfl) (by kernel_rfl) (fun _ _ _ h => h) (Or.inl ⟨by kernel_rfl, fun W hSW => by go_simp; try with_reducible rfl⟩) (by assumption) ?_
  try simp only [List.getElem_toArray]
  try simp only [List.getElem_cons_succ]
  try simp only [List.getElem_cons_zero]
  try simp only [Act.put]
  try simp only [List.setIfInBounds_toArray]
  try simp only [List.set_cons_succ]
  try simp only [List.set_cons_zero]
  refine wpAnyH_done (by kernel_rfl) ?_ _
  go_wp2
  go_ret
  exact ⟨_, rfl, HS.out⟩
set_option maxHeartbeats 4000000 in
set_option maxRecDepth 100000 in
theorem lcpTake_6 {base b : Nat} {m : Lm} {l : Lp} (id : Int) (o : List Tg) (d : ByteArray) (v : Value) (w : World) (h : LcpIn w base b m l) (hp : LPk w b m ⟨6, id, o, d⟩ v) :
    Calls Tryz.prog 12 #[.pointer (some ⟨b, 0, none⟩), pkV 6 id v d] w fun e w' => ∃ vo, e = .returned vo ∧ LSent w w' base b m (termL l ⟨6, id, o, d⟩ 11) vo := by
  obtain ⟨pv, cv, hv⟩ := hp.at_.1.slice
  have hv : v = .slice pv o.length cv := hv
  have hk0 := (Kept.refl (fun _ => False) w).alloc (.cells #[.int .i64 6, .int .i64 id, v, .string d] 24)
  have O0 := hid (own4_new w 24 (.int .i64 6) (.int .i64 id) v (.string d))
  have HL := hid (h.kept0 hk0)
  have HP := hid (hp.kept0 hk0)
  have HT := hid (fun (W : World) (hW : LcpIn W base b m l) (hq : LPk W b m ⟨6, id, o, d⟩ v) => ngTake_6 id o d v W hW.neg hq.neg)
  have HN := hid (negotiation_any _ HL.out)
  have HE := eqNegSome ⟨m.nb, 0, none⟩
  have HK0 := hid hk0
  have hnS : Hid (¬ Sl b m w.heap.size) := fun s => by have := h.sl_lt _ s; omega
  unfold pkV at HT ⊢
  unfold termL
  subst hv
  generalize hA : w.alloc (.cells #[.int .i64 6, .int .i64 id, .slice pv o.length cv, .string d] 24) = A at *
  have HA := hid hA
  have hrA := hid (lt_of_cell O0.out.1.1)
  obtain ⟨⟨q0, q1, q2, q3⟩, _⟩ := O0.out
  clear hA h hp hk0
  generalize happenF ⟨⟨6, id, o, d⟩, pk00, []⟩ l.ng 11 = RQ at *
  have B0 : BoxK w.heap.size b m.nb ⟨6, id, o, d⟩ (.slice pv o.length cv) A.drew := (O0.out.kept ((Kept.refl _ _).drew)).boxK (HL.out.kept0 ((Kept.refl _ _).drew))
  have g0 : ∀ W, BoxK w.heap.size b m.nb ⟨6, id, o, d⟩ (.slice pv o.length cv) W → W.cell? ⟨w.heap.size, 0, none⟩ = some (.int .i64 6) := fun W h => h.x0
  have g1 : ∀ W, BoxK w.heap.size b m.nb ⟨6, id, o, d⟩ (.slice pv o.length cv) W → W.cell? ⟨w.heap.size, 1, none⟩ = some (.int .i64 id) := fun W h => h.x1
  have g2 : ∀ W, BoxK w.heap.size b m.nb ⟨6, id, o, d⟩ (.slice pv o.length cv) W → W.cell? ⟨w.heap.size, 2, none⟩ = some (.slice pv o.length cv) := fun W h => h.x2
  have g3 : ∀ W, BoxK w.heap.size b m.nb ⟨6, id, o, d⟩ (.slice pv o.length cv) W → W.cell? ⟨w.heap.size, 3, none⟩ = some (.string d) := fun W h => h.x3
  have g4 : ∀ W, BoxK w.heap.size b m.nb ⟨6, id, o, d⟩ (.slice pv o.length cv) W → W.cell? ⟨b, 0, none⟩ = some (.pointer (some ⟨m.nb, 0, none⟩)) := fun W h => h.c0
  go_enter Tryz.func12, Tryz.ntmps12
  go_upto_region 1 with fail
  rw [HA.out]
  go_wp2_with (first | (go_at_call 31; refine HN.out.mono ?_; rintro e w' ⟨rfl, hw⟩; rw [hw]; clear hw w'))
  refine wp_region_held_drew (S := BoxK w.heap.size b m.nb ⟨6, id, o, d⟩ (.slice pv o.length cv)) (by kernel_rfl) (B0) (fun hSd => ?_)
  refine wpAnyH_take (i := 0) (v := ?_) rfl (by kernel_rfl) (by kernel_rfl) (by kernel_rfl) (fun _ _ _ h => h) (Or.inl ⟨by kernel_rfl, fun W hSW => by go_simp; try with_reducible rfl⟩) (by assumption) ?_
  try simp only [List.getElem_toArray]
  try simp only [List.getElem_cons_succ]
  try simp only [List.getElem_cons_zero]
  try simp only [Act.put]
  try simp only [List.setIfInBounds_toArray]
  try simp only [List.set_cons_succ]
  try simp only [List.set_cons_zero]
  refine wpAnyH_take (i := 1) (v := ?_) rfl (by kernel_rfl) (by kernel_rfl) (by kernel_rfl) (fun _ _ _ h => h) (Or.inl ⟨by kernel_rfl, fun W hSW => by go_simp; try with_reducible rfl⟩) (by assumption) ?_
  try simp only [List.getElem_toArray]
  try simp only [List.getElem_cons_succ]
  try simp only [List.getElem_cons_zero]
  try simp only [Act.put]
  try simp only [List.setIfInBounds_toArray]
  try simp only [List.set_cons_succ]
  try simp only [List.set_cons_zero]
  refine wpAnyH_take (i := 2) (v := ?_) rfl (by kernel_rfl) (by kernel_rfl) (by kernel_rfl) (fun _ _ _ h => h) (Or.inl ⟨by kernel_rfl, fun W hSW => by go_simp; try with_reducible rfl⟩) (by assumption) ?_
  try simp only [List.getElem_toArray]
  try simp only [List.getElem_cons_succ]
  try simp only [List.getElem_cons_zero]
  try simp only [Act.put]
  try simp only [List.setIfInBounds_toArray]
  try simp only [List.set_cons_succ]
  try simp only [List.set_cons_zero]
  refine wpAnyH_take (i := 3) (v := ?_) rfl (by kernel_rfl) (by kernel_rfl) (by kernel_rfl) (fun _ _ _ h => h) (Or.inl ⟨by kernel_rfl, fun W hSW => by go_simp; try with_reducible rfl⟩) (by assumption) ?_
  try simp only [List.getElem_toArray]
  try simp only [List.getElem_cons_succ]
  try simp only [List.getElem_cons_zero]
  try simp only [Act.put]
  try simp only [List.setIfInBounds_toArray]
  try simp only [List.set_cons_succ]
  try simp only [List.set_cons_zero]
  refine wpAnyH_take (i := 4) (v := ?_) rfl (by kernel_rfl) (by kernel_rfl) (by kernel_rfl) (fun _ _ _ h => h) (Or.inl ⟨by kernel_rfl, fun W hSW => by go_simp; try with_reducible rfl⟩) (by assumption) ?_
  try simp only [List.getElem_toArray]
  try simp only [List.getElem_cons_succ]
  try simp only [List.getElem_cons_zero]
  try simp only [Act.put]
  try simp only [List.setIfInBounds_toArray]
  try simp only [List.set_cons_succ]
  try simp only [List.set_cons_zero]
  refine wpAnyH_ready (rs := [5]) (by kernel_rfl) (by simp) ?_
  refine AllReadyH.cons rfl (fun K hK => ?_) AllReadyH.nil
  go_simp
  refine (HT.out _ (HL.out.kept0 ((Kept.refl _ _).drew)) (HP.out.kept0 ((Kept.refl _ _).drew))).mono ?_
  rintro e w4 ⟨vo, rfl, S⟩
  obtain ⟨po, co, rfl⟩ := S.slice
  have S' := Sent.before0 ((Kept.refl (fun _ => False) A).drew) S
  have HS := hid (LSent.before0 HK0.out (HL.out.sent S'))
  have B4 : BoxK w.heap.size b m.nb ⟨6, id, o, d⟩ (.slice pv o.length cv) w4 := by
    obtain ⟨a', q', hs, _⟩ := S'
    have N4 := HL.out.ofNeg hs.nx
    have hx := Own4.boxK (p := ⟨6, id, o, d⟩) (O0.out.keptS N4.kept hnS.out) N4.lcp
    exact ⟨hx.x0, hx.x1, hx.x2, hx.x3, hx.c0⟩
  clear S S'
  refine hK.out _ _ (B4) (fun _ => ?_)
  clear hK K
  try simp only [List.getElem_toArray]
  try simp only [List.getElem_cons_succ]
  try simp only [List.getElem_cons_zero]
  try simp only [Act.put]
  try simp only [List.setIfInBounds_toArray]
  try simp only [List.set_cons_succ]
  try simp only [List.set_cons_zero]
  refine wpAnyH_take (i := 6) (v := ?_) rfl (by kernel_rfl) (by kernel_rfl) (by kernel_rfl) (fun _ _ _ h => h) (Or.inl ⟨by kernel_rfl, fun W hSW => by go_simp; try with_reducible rfl⟩) (by assumption) ?_
  try simp only [List.getElem_toArray]
  try simp only [List.getElem_cons_succ]
  try simp only [List.getElem_cons_zero]
  try simp only [Act.put]
  try simp only [List.setIfInBounds_toArray]
  try simp only [List.set_cons_succ]
  try simp only [List.set_cons_zero]
  refine wpAnyH_done (by kernel_rfl) ?_ _
  go_wp2
  go_ret
  exact ⟨_, rfl, HS.out⟩

/-- What was sent stays where the link goes on. -/
theorem LSentBy.next {W W' W'' : World} {base b : Nat} {m m' m'' : Lm} {l' l'' : Lp} {v : Value} {q : List (Pk0 × Value)} (h : LSentBy W W' base b m m' l' v q) (k : LNext W' W'' base b m' m'' l'') : LSentBy W W'' base b m m'' l'' v q := by
  refine ⟨h.nx.trans k, row_kept h.row k.kept (fun i hi => ?_), fun p hp => (h.opts p hp).keptS k.kept (fun i hi => h.far p hp i hi), fun p hp i hi s => ?_⟩
  · obtain ⟨⟨cur, hc⟩, _⟩ := row_blk h.row hi
    exact sl_pk h.nx.lcp ⟨cur, hc⟩
  · rcases k.sl i s with h1 | h1
    · exact h.far p hp i hi h1
    · obtain ⟨cur, hc⟩ := (h.opts p hp).cellsB hi
      have := (Array.getElem?_eq_some_iff.1 hc).1
      omega

def nakN (l : Lp) (i : Int) (V : ByteArray) (s : ByteArray) : Ng × List Pk0 := happenF ⟨⟨3, i, [⟨5, V⟩], s⟩, pk00, []⟩ { l.ng with req := [⟨5, V⟩] } 9
def nakL (l : Lp) (i : Int) (V : ByteArray) (s : ByteArray) : Lp × List Pk0 := ({ l with ng := (nakN l i V s).1, magic := ((valueF V.data.toList).1 : Int) }, (nakN l i V s).2)

/-- How far takeNak has come. -/
structure NkU (W0 : World) (base b : Nat) (m : Lm) (l : Lp) (i : Int) (V s : ByteArray) (vo vt : Value) (k : Nat) (W : World) : Prop where
  a0 : k = 0 → LSent W0 W base b m ({ l with ng := (nakN l i V s).1 }, (nakN l i V s).2) vo ∧ OwnO W W0.heap.size vt [⟨5, V⟩]
  a1 : k = 1 → LSent W0 W base b m (nakL l i V s) vo

set_option linter.unusedSimpArgs false in
set_option maxHeartbeats 8000000 in
set_option maxRecDepth 100000 in
theorem lcpNak_one {base b : Nat} {m : Lm} {l : Lp} (i : Int) (v : Value) (V s : ByteArray) (r : ByteArray) (w : World) (h : LcpIn w base b m l) (hp : LPk w b m ⟨3, i, [⟨5, V⟩], s⟩ v) (hb : l.ng.begun = true) (hi : i = l.ng.last) (hr : l.ng.req = [⟨5, r⟩]) (hl : letsB l.ng.own ⟨5, V⟩ = true) (hV : V.size = 4) :
    Calls Tryz.prog 34 #[.pointer (some ⟨b, 0, none⟩), .agg #[.int .i64 3, .int .i64 i, v, .string s]] w fun e w' => ∃ vo, e = .returned vo ∧ LSent w w' base b m (nakL l i V s) vo := by
  obtain ⟨pv, cv, hv⟩ := hp.at_.1.slice
  have hv : v = .slice pv 1 cv := hv
  have hk0 := (Kept.refl (fun _ => False) w).alloc (.cells #[.int .i64 3, .int .i64 i, v, .string s] 24)
  have O0 := hid (own4_new w 24 (.int .i64 3) (.int .i64 i) v (.string s))
  have HL := hid (h.kept0 hk0)
  have HP := hid (hp.kept0 hk0)
  have HT := hid (fun (W : World) (hW : LcpIn W base b m l) (hq : LPk W b m ⟨3, i, [⟨5, V⟩], s⟩ v) => takeNak_one i v ⟨5, V⟩ ⟨5, r⟩ s W hW.neg hq.neg hb hi hr rfl hl)
  have HK0 := hid hk0
  have hnS : Hid (¬ Sl b m w.heap.size) := fun s => by have := h.sl_lt _ s; omega
  have hnum : Hid (0 ≤ ((valueF V.data.toList).1 : Int) ∧ ((valueF V.data.toList).1 : Int) ≤ 4294967295) := by
    show _ ∧ _
    have hsz : V.data.toList.length = 4 := by rw [← Lib.size_eq]; exact hV
    have h1 := numOf_lt V.data.toList
    rw [hsz] at h1
    have h2 : (256 : Nat) ^ 4 = 4294967296 := by decide
    unfold valueF
    rw [if_neg (by omega)]
    simp only
    omega
  have HV := hid (fun W => value_any V (by rw [hV]; decide) W)
  generalize (valueF V.data.toList).2 = okV at HV
  subst hv
  generalize hA : w.alloc (.cells #[.int .i64 3, .int .i64 i, .slice pv 1 cv, .string s] 24) = A at *
  have HA := hid hA
  have hrA := hid (lt_of_cell O0.out.1.1)
  obtain ⟨⟨q0, q1, q2, q3⟩, _⟩ := O0.out
  clear hA h hp hk0 hb hi hr hl hV
  have B0 : BoxK w.heap.size b m.nb ⟨3, i, [⟨5, V⟩], s⟩ (.slice pv 1 cv) A.drew := Own4.boxK (p := ⟨3, i, [⟨5, V⟩], s⟩) (O0.out.kept ((Kept.refl _ _).drew)) (HL.out.kept0 ((Kept.refl _ _).drew))
  have g0 : ∀ W, BoxK w.heap.size b m.nb ⟨3, i, [⟨5, V⟩], s⟩ (.slice pv 1 cv) W → W.cell? ⟨w.heap.size, 0, none⟩ = some (.int .i64 3) := fun W h => h.x0
  have g1 : ∀ W, BoxK w.heap.size b m.nb ⟨3, i, [⟨5, V⟩], s⟩ (.slice pv 1 cv) W → W.cell? ⟨w.heap.size, 1, none⟩ = some (.int .i64 i) := fun W h => h.x1
  have g2 : ∀ W, BoxK w.heap.size b m.nb ⟨3, i, [⟨5, V⟩], s⟩ (.slice pv 1 cv) W → W.cell? ⟨w.heap.size, 2, none⟩ = some (.slice pv 1 cv) := fun W h => h.x2
  have g3 : ∀ W, BoxK w.heap.size b m.nb ⟨3, i, [⟨5, V⟩], s⟩ (.slice pv 1 cv) W → W.cell? ⟨w.heap.size, 3, none⟩ = some (.string s) := fun W h => h.x3
  have g4 : ∀ W, BoxK w.heap.size b m.nb ⟨3, i, [⟨5, V⟩], s⟩ (.slice pv 1 cv) W → W.cell? ⟨b, 0, none⟩ = some (.pointer (some ⟨m.nb, 0, none⟩)) := fun W h => h.c0
  go_enter Tryz.func34, Tryz.ntmps34
  go_upto_region 1 with fail
  rw [HA.out]
  clear HA
  refine wp_region_held_drew (S := BoxK w.heap.size b m.nb ⟨3, i, [⟨5, V⟩], s⟩ (.slice pv 1 cv)) (by kernel_rfl) (B0) (fun hSd => ?_)
  refine wpAnyH_take (i := 0) (v := ?_) rfl (by kernel_rfl) (by kernel_rfl) (by kernel_rfl) (fun _ _ _ h => h) (Or.inl ⟨by kernel_rfl, fun W hSW => by go_simp; try with_reducible rfl⟩) (by assumption) ?_
  try simp only [List.getElem_toArray]
  try simp only [List.getElem_cons_succ]
  try simp only [List.getElem_cons_zero]
  try simp only [Act.put]
  try simp only [List.setIfInBounds_toArray]
  try simp only [List.set_cons_succ]
  try simp only [List.set_cons_zero]
  refine wpAnyH_take (i := 1) (v := ?_) rfl (by kernel_rfl) (by kernel_rfl) (by kernel_rfl) (fun _ _ _ h => h) (Or.inl ⟨by kernel_rfl, fun W hSW => by go_simp; try with_reducible rfl⟩) (by assumption) ?_
  try simp only [List.getElem_toArray]
  try simp only [List.getElem_cons_succ]
  try simp only [List.getElem_cons_zero]
  try simp only [Act.put]
  try simp only [List.setIfInBounds_toArray]
  try simp only [List.set_cons_succ]
  try simp only [List.set_cons_zero]
  refine wpAnyH_take (i := 2) (v := ?_) rfl (by kernel_rfl) (by kernel_rfl) (by kernel_rfl) (fun _ _ _ h => h) (Or.inl ⟨by kernel_rfl, fun W hSW => by go_simp; try with_reducible rfl⟩) (by assumption) ?_
  try simp only [List.getElem_toArray]
  try simp only [List.getElem_cons_succ]
  try simp only [List.getElem_cons_zero]
  try simp only [Act.put]
  try simp only [List.setIfInBounds_toArray]
  try simp only [List.set_cons_succ]
  try simp only [List.set_cons_zero]
  refine wpAnyH_take (i := 3) (v := ?_) rfl (by kernel_rfl) (by kernel_rfl) (by kernel_rfl) (fun _ _ _ h => h) (Or.inl ⟨by kernel_rfl, fun W hSW => by go_simp; try with_reducible rfl⟩) (by assumption) ?_
  try simp only [List.getElem_toArray]
  try simp only [List.getElem_cons_succ]
  try simp only [List.getElem_cons_zero]
  try simp only [Act.put]
  try simp only [List.setIfInBounds_toArray]
  try simp only [List.set_cons_succ]
  try simp only [List.set_cons_zero]
  refine wpAnyH_take (i := 4) (v := ?_) rfl (by kernel_rfl) (by kernel_rfl) (by kernel_rfl) (fun _ _ _ h => h) (Or.inl ⟨by kernel_rfl, fun W hSW => by go_simp; try with_reducible rfl⟩) (by assumption) ?_
  try simp only [List.getElem_toArray]
  try simp only [List.getElem_cons_succ]
  try simp only [List.getElem_cons_zero]
  try simp only [Act.put]
  try simp only [List.setIfInBounds_toArray]
  try simp only [List.set_cons_succ]
  try simp only [List.set_cons_zero]
  refine wpAnyH_ready (rs := [5]) (by kernel_rfl) (by simp) ?_
  refine AllReadyH.cons rfl (fun K hK => ?_) AllReadyH.nil
  go_simp
  refine (HT.out _ (HL.out.kept0 ((Kept.refl _ _).drew)) (HP.out.kept0 ((Kept.refl _ _).drew))).mono ?_
  rintro e w4 ⟨vo, vt, rfl, S, ho⟩
  obtain ⟨po, co, rfl⟩ := S.slice
  obtain ⟨pt, ct, rfl⟩ := slice_of ho
  have S' := Sent.before0 ((Kept.refl (fun _ => False) A).drew) S
  have U0 : Hid (NkU w base b m l i V s (.slice po (nakN l i V s).2.length co) (.slice pt 1 ct) 0 w4) := ⟨fun _ => ⟨LSent.before0 HK0.out (HL.out.sent S'), ho.mono HK0.out.size⟩, fun h => absurd h (by decide)⟩
  have B4 : BoxK w.heap.size b m.nb ⟨3, i, [⟨5, V⟩], s⟩ (.slice pv 1 cv) w4 := by
    obtain ⟨a', q', hs, _⟩ := S'
    have N4 := HL.out.ofNeg hs.nx
    have hx := Own4.boxK (p := ⟨3, i, [⟨5, V⟩], s⟩) (O0.out.keptS N4.kept hnS.out) N4.lcp
    exact ⟨hx.x0, hx.x1, hx.x2, hx.x3, hx.c0⟩
  clear S S' ho
  refine hK.out _ _ (B4) (fun _ => ?_)
  clear hK K
  try simp only [List.getElem_toArray]
  try simp only [List.getElem_cons_succ]
  try simp only [List.getElem_cons_zero]
  try simp only [Act.put]
  try simp only [List.setIfInBounds_toArray]
  try simp only [List.set_cons_succ]
  try simp only [List.set_cons_zero]
  refine wpAnyH_take (i := 6) (v := ?_) rfl (by kernel_rfl) (by kernel_rfl) (by kernel_rfl) (fun _ _ _ h => h) (Or.inl ⟨by kernel_rfl, fun W hSW => by go_simp; try with_reducible rfl⟩) (by assumption) ?_
  try simp only [List.getElem_toArray]
  try simp only [List.getElem_cons_succ]
  try simp only [List.getElem_cons_zero]
  try simp only [Act.put]
  try simp only [List.setIfInBounds_toArray]
  try simp only [List.set_cons_succ]
  try simp only [List.set_cons_zero]
  refine wpAnyH_take (i := 7) (v := ?_) rfl (by kernel_rfl) (by kernel_rfl) (by kernel_rfl) (fun _ _ _ h => h) (Or.inl ⟨by kernel_rfl, fun W hSW => by go_simp; try with_reducible rfl⟩) (by assumption) ?_
  try simp only [List.getElem_toArray]
  try simp only [List.getElem_cons_succ]
  try simp only [List.getElem_cons_zero]
  try simp only [Act.put]
  try simp only [List.setIfInBounds_toArray]
  try simp only [List.set_cons_succ]
  try simp only [List.set_cons_zero]
  refine wpAnyH_take (i := 8) (v := ?_) rfl (by kernel_rfl) (by kernel_rfl) (by kernel_rfl) (fun _ _ _ h => h) (Or.inl ⟨by kernel_rfl, fun W hSW => by go_simp; try with_reducible rfl⟩) (by assumption) ?_
  try simp only [List.getElem_toArray]
  try simp only [List.getElem_cons_succ]
  try simp only [List.getElem_cons_zero]
  try simp only [Act.put]
  try simp only [List.setIfInBounds_toArray]
  try simp only [List.set_cons_succ]
  try simp only [List.set_cons_zero]
  refine wpAnyH_take (i := 9) (v := ?_) rfl (by kernel_rfl) (by kernel_rfl) (by kernel_rfl) (fun _ _ _ h => h) (Or.inl ⟨by kernel_rfl, fun W hSW => by go_simp; try with_reducible rfl⟩) (by assumption) ?_
  try simp only [List.getElem_toArray]
  try simp only [List.getElem_cons_succ]
  try simp only [List.getElem_cons_zero]
  try simp only [Act.put]
  try simp only [List.setIfInBounds_toArray]
  try simp only [List.set_cons_succ]
  try simp only [List.set_cons_zero]
  refine wpAnyH_take (i := 10) (v := ?_) rfl (by kernel_rfl) (by kernel_rfl) (by kernel_rfl) (fun _ _ _ h => h) (Or.inl ⟨by kernel_rfl, fun W hSW => by go_simp; try with_reducible rfl⟩) (by assumption) ?_
  try simp only [List.getElem_toArray]
  try simp only [List.getElem_cons_succ]
  try simp only [List.getElem_cons_zero]
  try simp only [Act.put]
  try simp only [List.setIfInBounds_toArray]
  try simp only [List.set_cons_succ]
  try simp only [List.set_cons_zero]
  refine wpAnyH_done (by kernel_rfl) ?_ _
  clear B4 B0 g0 g1 g2 g3 g4 HT HL HP q0 q1 q2 q3
  go_wp2
  go_loopw [20] (fun v20 wr => ∃ k : Nat, k ≤ 1 ∧ v20 = .int .i64 (k : Int) ∧ Hid (NkU w base b m l i V s (.slice po (nakN l i V s).2.length co) (.slice pt 1 ct) k wr)) (fun v20 _ => 1 - (intOf v20).toNat)
  case atStart => exact ⟨0, by decide, rfl, U0.out⟩
  case round =>
    obtain ⟨k, hk, rfl, HU⟩ := hrel
    clear U0
    by_cases hlt : k < 1
    · obtain rfl : k = 0 := by omega
      obtain ⟨hS, hO⟩ := HU.out.a0 rfl
      obtain ⟨g, og, hpt, hcap, c0, c1⟩ := hO.tags.at (j := 0) (x := ⟨5, V⟩) rfl
      simp only [Nat.zero_mul, Nat.add_zero] at c0 c1
      subst hpt
      obtain ⟨m', q', hsb, he⟩ := hS
      have ka := (Kept.refl (fun _ => False) wr).alloc (.cells #[.int .i64 5, .string V] 67)
      have Bx := BoxO.new wr ⟨5, V⟩
      have b0 := Bx.c0
      have b1 := Bx.c1
      have hL1 := hsb.nx.lcp.kept0 ka
      have d2 := hL1.c2
      have f2 := hL1.fz 2
      have NS := hL1.set (l' := { l with ng := (nakN l i V s).1, magic := ((valueF V.data.toList).1 : Int) }) 2 (.int .i64 ((valueF V.data.toList).1 : Int)) rfl (by have g := hL1.good; exact ⟨hnum.out, g.loops, g.echo, g.ups, g.ticks, g.missed⟩) rfl rfl rfl
      have UF : Hid (NkU w base b m l i V s (.slice po (nakN l i V s).2.length co) (.slice (some ⟨g, og, none⟩) 1 ct) 1 _) := ⟨fun h => absurd h (by decide), fun _ => ⟨_, q', hsb.next ((LNext.of0 hsb.nx.lcp ka).trans NS), he⟩⟩
      clear NS hL1 ka Bx hsb he hO HU
      generalize (nakN l i V s).2.length = NL at *
      go_wp2_with (first | (go_at_call 29; refine (HV.out _).mono ?_; rintro e w' ⟨rfl, hw⟩; rw [hw]; clear hw w'))
      exact ⟨⟨1, Nat.le_refl _, by go_num, UF.out⟩, by simp [intOf]⟩
    · obtain rfl : k = 1 := by omega
      have hS := hid (HU.out.a1 rfl)
      clear HU
      go_wp2
      go_ret
      exact ⟨_, rfl, hS.out⟩

set_option maxHeartbeats 4000000 in
set_option maxRecDepth 100000 in
theorem lcpTake_nak {base b : Nat} {m : Lm} {l : Lp} (i : Int) (v : Value) (V s : ByteArray) (r : ByteArray) (w : World) (h : LcpIn w base b m l) (hp : LPk w b m ⟨3, i, [⟨5, V⟩], s⟩ v) (hb : l.ng.begun = true) (hi : i = l.ng.last) (hr : l.ng.req = [⟨5, r⟩]) (hl : letsB l.ng.own ⟨5, V⟩ = true) (hV : V.size = 4) :
    Calls Tryz.prog 12 #[.pointer (some ⟨b, 0, none⟩), .agg #[.int .i64 3, .int .i64 i, v, .string s]] w fun e w' => ∃ vo, e = .returned vo ∧ LSent w w' base b m (nakL l i V s) vo := by
  obtain ⟨pv, cv, hv⟩ := hp.at_.1.slice
  have hv : v = .slice pv 1 cv := hv
  have hk0 := (Kept.refl (fun _ => False) w).alloc (.cells #[.int .i64 3, .int .i64 i, v, .string s] 24)
  have O0 := hid (own4_new w 24 (.int .i64 3) (.int .i64 i) v (.string s))
  have HT := hid (lcpNak_one i v V s r _ (h.kept0 hk0) (hp.kept0 hk0) hb hi hr hl hV)
  have HN := hid (negotiation_any _ (h.kept0 hk0))
  have HE := eqNegSome ⟨m.nb, 0, none⟩
  have HK0 := hid hk0
  subst hv
  generalize hA : w.alloc (.cells #[.int .i64 3, .int .i64 i, .slice pv 1 cv, .string s] 24) = A at *
  have HA := hid hA
  obtain ⟨⟨q0, q1, q2, q3⟩, _⟩ := O0.out
  clear hA h hp hk0 hb hi hr hl hV
  generalize nakL l i V s = RQ at *
  go_enter Tryz.func12, Tryz.ntmps12
  go_upto_region 1 with fail
  rw [HA.out]
  clear HA
  go_wp2_with (first | (go_at_call 31; refine HN.out.mono ?_; rintro e w' ⟨rfl, hw⟩; rw [hw]; clear hw w'))
  refine HT.out.mono ?_
  rintro e w1 ⟨vo, rfl, S⟩
  obtain ⟨po, co, rfl⟩ := S.slice
  have HS := hid (LSent.before0 HK0.out S)
  clear S
  go_wp2
  go_ret
  exact ⟨_, rfl, HS.out⟩
end Go.Proofs.YtklapjfljffahaaGreat

namespace Go.Proofs.YtklapjfljffahaaGreat
open Go.RowKit

/-- A boxed packet and the request, as they are read. -/
structure BoxA (r b : Nat) (c i : Int) (v vr : Value) (s : ByteArray) (W : World) : Prop where
  x0 : W.cell? ⟨r, 0, none⟩ = some (.int .i64 c)
  x1 : W.cell? ⟨r, 1, none⟩ = some (.int .i64 i)
  x2 : W.cell? ⟨r, 2, none⟩ = some v
  x3 : W.cell? ⟨r, 3, none⟩ = some (.string s)
  c1 : W.cell? ⟨b, 1, none⟩ = some vr
theorem BoxA.kept {r b : Nat} {c i : Int} {v vr : Value} {s : ByteArray} {W W' : World} (h : BoxA r b c i v vr s W) (hk : Kept (fun _ => False) W W') : BoxA r b c i v vr s W' :=
  ⟨(hk.cell (p := ⟨r, 0, none⟩) (lt_of_cell h.x0) id).trans h.x0, (hk.cell (p := ⟨r, 1, none⟩) (lt_of_cell h.x1) id).trans h.x1, (hk.cell (p := ⟨r, 2, none⟩) (lt_of_cell h.x2) id).trans h.x2, (hk.cell (p := ⟨r, 3, none⟩) (lt_of_cell h.x3) id).trans h.x3, (hk.cell (p := ⟨b, 1, none⟩) (lt_of_cell h.c1) id).trans h.c1⟩

theorem same_refl (l : List Tg) : sameF l l = true := by
  induction l with
  | nil => rfl
  | cons x l ih => simp [sameF, ih, sameT_iff.2 rfl]

def ackP (n : Ng) (i : Int) (s : ByteArray) : Ng × List Pk0 := happenF ⟨⟨2, i, n.req, s⟩, pk00, []⟩ { n with mine := n.req } 8
set_option maxHeartbeats 8000000 in
set_option maxRecDepth 100000 in
theorem takeAck_own {base b : Nat} {a : Nm} {n : Ng} (i : Int) (v : Value) (s : ByteArray) (w : World) (h : NegIn w base b a n) (hp : PkIn w b a ⟨2, i, n.req, s⟩ v) (hb : n.begun = true) (hi : i = n.last) :
    Calls Tryz.prog 64 #[.pointer (some ⟨b, 0, none⟩), .agg #[.int .i64 2, .int .i64 i, v, .string s]] w fun e w' => ∃ vo, e = .returned vo ∧ Sent w w' base b a (ackP n i s) vo := by
  obtain ⟨pv, cv, hv⟩ := hp.at_.1.slice
  have hv : v = .slice pv n.req.length cv := hv
  obtain ⟨pr, cr, hvr⟩ := slice_of h.req
  have k0 := (Kept.refl (fun _ => False) w).alloc (.cells #[.int .i64 2, .int .i64 i, v, .string s] 24)
  have O0 := hid (own4_new w 24 (.int .i64 2) (.int .i64 i) v (.string s))
  have HA := hid (h.kept0 k0)
  have HP0 := hid hp
  have HH := hid (fun (W : World) (k : Kept (fun _ => False) w W) => isHeard_yes 2 i pv n.req.length cv s W (h.kept0 k) hb hi)
  have HSa := hid (fun (W : World) (k : Kept (fun _ => False) w W) => sameO_any v a.vr n.req n.req W (hp.kept0 k).at_.1 (h.kept0 k).req.tags (by have := h.good.req.1; omega))
  rw [same_refl] at HSa
  have HCl := hid (fun (W : World) (k : Kept (fun _ => False) w W) => cloneO_any v n.req W (hp.kept0 k).at_ (by have := h.good.req.1; omega))
  have HK0 := hid k0
  have hnS : Hid (¬ Sn b a w.heap.size) := fun s => by have := h.sn_lt _ s; omega
  have H := hid h
  subst hv
  rw [hvr] at HSa
  have HV := hid hvr
  generalize hAe : w.alloc (.cells #[.int .i64 2, .int .i64 i, .slice pv n.req.length cv, .string s] 24) = A at *
  have HAe := hid hAe
  obtain ⟨⟨q0, q1, q2, q3⟩, _⟩ := O0.out
  have B0 : BoxA w.heap.size b 2 i (.slice pv n.req.length cv) (.slice pr n.req.length cr) s A.drew := by
    have hx := HA.out.n1
    rw [hvr] at hx
    exact (BoxA.mk q0 q1 q2 q3 hx).kept ((Kept.refl _ _).drew)
  clear h hp k0 hAe hb hi hvr
  have g0 : ∀ W, BoxA w.heap.size b 2 i (.slice pv n.req.length cv) (.slice pr n.req.length cr) s W → W.cell? ⟨w.heap.size, 0, none⟩ = some (.int .i64 2) := fun W h => h.x0
  have g1 : ∀ W, BoxA w.heap.size b 2 i (.slice pv n.req.length cv) (.slice pr n.req.length cr) s W → W.cell? ⟨w.heap.size, 1, none⟩ = some (.int .i64 i) := fun W h => h.x1
  have g2 : ∀ W, BoxA w.heap.size b 2 i (.slice pv n.req.length cv) (.slice pr n.req.length cr) s W → W.cell? ⟨w.heap.size, 2, none⟩ = some (.slice pv n.req.length cv) := fun W h => h.x2
  have g3 : ∀ W, BoxA w.heap.size b 2 i (.slice pv n.req.length cv) (.slice pr n.req.length cr) s W → W.cell? ⟨w.heap.size, 3, none⟩ = some (.string s) := fun W h => h.x3
  have g4 : ∀ W, BoxA w.heap.size b 2 i (.slice pv n.req.length cv) (.slice pr n.req.length cr) s W → W.cell? ⟨b, 1, none⟩ = some (.slice pr n.req.length cr) := fun W h => h.c1
  go_enter Tryz.func64, Tryz.ntmps64
  go_upto_region 1 with fail
  rw [HAe.out]
  clear HAe
  refine wp_region_held_drew (S := BoxA w.heap.size b 2 i (.slice pv n.req.length cv) (.slice pr n.req.length cr) s) (by kernel_rfl) (B0) (fun hSd => ?_)
  refine wpAnyH_take (i := 0) (v := ?_) rfl (by kernel_rfl) (by kernel_rfl) (by kernel_rfl) (fun _ _ _ h => h) (Or.inl ⟨by kernel_rfl, fun W hSW => by go_simp; try with_reducible rfl⟩) (by assumption) ?_
  try simp only [List.getElem_toArray]
  try simp only [List.getElem_cons_succ]
  try simp only [List.getElem_cons_zero]
  try simp only [Act.put]
  try simp only [List.setIfInBounds_toArray]
  try simp only [List.set_cons_succ]
  try simp only [List.set_cons_zero]
  refine wpAnyH_take (i := 1) (v := ?_) rfl (by kernel_rfl) (by kernel_rfl) (by kernel_rfl) (fun _ _ _ h => h) (Or.inl ⟨by kernel_rfl, fun W hSW => by go_simp; try with_reducible rfl⟩) (by assumption) ?_
  try simp only [List.getElem_toArray]
  try simp only [List.getElem_cons_succ]
  try simp only [List.getElem_cons_zero]
  try simp only [Act.put]
  try simp only [List.setIfInBounds_toArray]
  try simp only [List.set_cons_succ]
  try simp only [List.set_cons_zero]
  refine wpAnyH_ready (rs := [2]) (by kernel_rfl) (by simp) ?_
  refine AllReadyH.cons rfl (fun K hK => ?_) AllReadyH.nil
  go_simp
  refine (HH.out _ (HK0.out.trans ((Kept.refl _ _).drew))).mono ?_
  rintro e w2 ⟨rfl, hk2⟩
  have B2 := B0.kept hk2
  have K2 := hid ((HK0.out.trans ((Kept.refl _ _).drew)).trans hk2)
  have KA2 := hid (((Kept.refl (fun _ => False) A).drew).trans hk2)
  clear hk2
  refine hK.out _ _ (B2) (fun _ => ?_)
  clear hK K
  try simp only [List.getElem_toArray]
  try simp only [List.getElem_cons_succ]
  try simp only [List.getElem_cons_zero]
  try simp only [Act.put]
  try simp only [List.setIfInBounds_toArray]
  try simp only [List.set_cons_succ]
  try simp only [List.set_cons_zero]
  refine wpAnyH_take (i := 3) (v := .bool false) rfl (by kernel_rfl) (by kernel_rfl) (by kernel_rfl) (fun _ _ _ h => h) (Or.inl ⟨by kernel_rfl, fun W hSW => by go_simp; try with_reducible rfl⟩) (by assumption) ?_
  try simp only [List.getElem_toArray]
  try simp only [List.getElem_cons_succ]
  try simp only [List.getElem_cons_zero]
  try simp only [Act.put]
  try simp only [List.setIfInBounds_toArray]
  try simp only [List.set_cons_succ]
  try simp only [List.set_cons_zero]
  refine wpAnyH_take (i := 4) (v := .bool false) rfl (by kernel_rfl) (by kernel_rfl) (by kernel_rfl) (fun _ _ _ h => h) (Or.inl ⟨by kernel_rfl, fun W hSW => by go_simp; try with_reducible rfl⟩) (by assumption) ?_
  try simp only [List.getElem_toArray]
  try simp only [List.getElem_cons_succ]
  try simp only [List.getElem_cons_zero]
  try simp only [Act.put]
  try simp only [List.setIfInBounds_toArray]
  try simp only [List.set_cons_succ]
  try simp only [List.set_cons_zero]
  refine wpAnyH_take (i := 5) (v := ?_) rfl (by kernel_rfl) (by kernel_rfl) (by kernel_rfl) (fun _ _ _ h => h) (Or.inl ⟨by kernel_rfl, fun W hSW => by go_simp; try with_reducible rfl⟩) (by assumption) ?_
  try simp only [List.getElem_toArray]
  try simp only [List.getElem_cons_succ]
  try simp only [List.getElem_cons_zero]
  try simp only [Act.put]
  try simp only [List.setIfInBounds_toArray]
  try simp only [List.set_cons_succ]
  try simp only [List.set_cons_zero]
  refine wpAnyH_take (i := 6) (v := ?_) rfl (by kernel_rfl) (by kernel_rfl) (by kernel_rfl) (fun _ _ _ h => h) (Or.inl ⟨by kernel_rfl, fun W hSW => by go_simp; try with_reducible rfl⟩) (by assumption) ?_
  try simp only [List.getElem_toArray]
  try simp only [List.getElem_cons_succ]
  try simp only [List.getElem_cons_zero]
  try simp only [Act.put]
  try simp only [List.setIfInBounds_toArray]
  try simp only [List.set_cons_succ]
  try simp only [List.set_cons_zero]
  refine wpAnyH_take (i := 7) (v := ?_) rfl (by kernel_rfl) (by kernel_rfl) (by kernel_rfl) (fun _ _ _ h => h) (Or.inl ⟨by kernel_rfl, fun W hSW => by go_simp; try with_reducible rfl⟩) (by assumption) ?_
  try simp only [List.getElem_toArray]
  try simp only [List.getElem_cons_succ]
  try simp only [List.getElem_cons_zero]
  try simp only [Act.put]
  try simp only [List.setIfInBounds_toArray]
  try simp only [List.set_cons_succ]
  try simp only [List.set_cons_zero]
  refine wpAnyH_take (i := 8) (v := ?_) rfl (by kernel_rfl) (by kernel_rfl) (by kernel_rfl) (fun _ _ _ h => h) (Or.inl ⟨by kernel_rfl, fun W hSW => by go_simp; try with_reducible rfl⟩) (by assumption) ?_
  try simp only [List.getElem_toArray]
  try simp only [List.getElem_cons_succ]
  try simp only [List.getElem_cons_zero]
  try simp only [Act.put]
  try simp only [List.setIfInBounds_toArray]
  try simp only [List.set_cons_succ]
  try simp only [List.set_cons_zero]
  refine wpAnyH_take (i := 9) (v := ?_) rfl (by kernel_rfl) (by kernel_rfl) (by kernel_rfl) (fun _ _ _ h => h) (Or.inl ⟨by kernel_rfl, fun W hSW => by go_simp; try with_reducible rfl⟩) (by assumption) ?_
  try simp only [List.getElem_toArray]
  try simp only [List.getElem_cons_succ]
  try simp only [List.getElem_cons_zero]
  try simp only [Act.put]
  try simp only [List.setIfInBounds_toArray]
  try simp only [List.set_cons_succ]
  try simp only [List.set_cons_zero]
  refine wpAnyH_take (i := 10) (v := ?_) rfl (by kernel_rfl) (by kernel_rfl) (by kernel_rfl) (fun _ _ _ h => h) (Or.inl ⟨by kernel_rfl, fun W hSW => by go_simp; try with_reducible rfl⟩) (by assumption) ?_
  try simp only [List.getElem_toArray]
  try simp only [List.getElem_cons_succ]
  try simp only [List.getElem_cons_zero]
  try simp only [Act.put]
  try simp only [List.setIfInBounds_toArray]
  try simp only [List.set_cons_succ]
  try simp only [List.set_cons_zero]
  refine wpAnyH_ready (rs := [11]) (by kernel_rfl) (by simp) ?_
  refine AllReadyH.cons rfl (fun K hK => ?_) AllReadyH.nil
  go_simp
  refine (HSa.out _ K2.out).mono ?_
  rintro e w3 ⟨rfl, hk3⟩
  have B3 := B2.kept hk3
  have K3 := hid (K2.out.trans hk3)
  have KA3 := hid (KA2.out.trans hk3)
  clear hk3
  refine hK.out _ _ (B3) (fun _ => ?_)
  clear hK K
  try simp only [List.getElem_toArray]
  try simp only [List.getElem_cons_succ]
  try simp only [List.getElem_cons_zero]
  try simp only [Act.put]
  try simp only [List.setIfInBounds_toArray]
  try simp only [List.set_cons_succ]
  try simp only [List.set_cons_zero]
  refine wpAnyH_take (i := 12) (v := .bool false) rfl (by kernel_rfl) (by kernel_rfl) (by kernel_rfl) (fun _ _ _ h => h) (Or.inl ⟨by kernel_rfl, fun W hSW => by go_simp; try with_reducible rfl⟩) (by assumption) ?_
  try simp only [List.getElem_toArray]
  try simp only [List.getElem_cons_succ]
  try simp only [List.getElem_cons_zero]
  try simp only [Act.put]
  try simp only [List.setIfInBounds_toArray]
  try simp only [List.set_cons_succ]
  try simp only [List.set_cons_zero]
  refine wpAnyH_take (i := 13) (v := .bool false) rfl (by kernel_rfl) (by kernel_rfl) (by kernel_rfl) (fun _ _ _ h => h) (Or.inl ⟨by kernel_rfl, fun W hSW => by go_simp; try with_reducible rfl⟩) (by assumption) ?_
  try simp only [List.getElem_toArray]
  try simp only [List.getElem_cons_succ]
  try simp only [List.getElem_cons_zero]
  try simp only [Act.put]
  try simp only [List.setIfInBounds_toArray]
  try simp only [List.set_cons_succ]
  try simp only [List.set_cons_zero]
  refine wpAnyH_done (by kernel_rfl) ?_ _
  obtain ⟨y0, y1, y2, y3, _⟩ := id B3
  clear B0 B2 B3 g0 g1 g2 g3 g4 q0 q1 q2 q3 HH HSa
  go_wp2_with fail
  refine (HCl.out _ K3.out).mono ?_
  rintro e w4 ⟨u4, rfl, ho4, hk4⟩
  have K4 := K3.out.trans hk4
  have h4 := H.out.kept0 K4
  have d12 := h4.n12
  have f12 := h4.fz 12
  have hs3 := K3.out.size
  have N5 := h4.setMine (l := n.req) (ho4.mono (by have := H.out.lo; have := H.out.lt; omega)) H.out.good.req (fun i hi e => by have := H.out.sn_lt i (Or.inr (Or.inr hi)); have := ho4.baseB e; omega) (W0 := w) (fun i hi => by have := ho4.baseB hi; omega) K4
  obtain ⟨p4, c4, rfl⟩ := slice_of ho4
  have NT := hid N5
  have OX := hid ((O0.out.kept (KA3.out.trans hk4)).keptS (kept_cell w4 b 12 (.slice p4 n.req.length c4)) (fun e => hnS.out (Or.inl e)))
  clear ho4 hk4 K4 h4 N5 HCl y0 y1 y2 y3
  go_upto_region 4 with fail
  generalize w4.setCell ⟨b, 12, none⟩ (.slice p4 n.req.length c4) = w5 at *
  clear d12 f12
  obtain ⟨⟨y0, y1, y2, y3⟩, _⟩ := OX.out
  have HPn : PkIn w b a ⟨2, i, n.req, s⟩ (.slice pv n.req.length cv) := HP0.out
  have HP5 := hid (HPn.step NT.out)
  have HHp := hid (happen_any ⟨⟨2, i, n.req, s⟩, pk00, []⟩ (.slice pv n.req.length cv) (.slice none 0 0) none 8 ⟨by decide, by decide⟩ w5 NT.out.neg HP5.out.cz)
  unfold czV pk00 at HHp
  simp only at HHp
  go_wp2_with fail
  refine HHp.out.mono ?_
  rintro e w6 ⟨vo, rfl, vt, l, w7, N7, U⟩
  have HS := hid (Sent.of (NT.out.trans N7) U (fun i hi => by cases hi))
  obtain ⟨po, co, rfl⟩ := slice_of U.out.row
  clear U N7
  go_wp2
  go_ret
  exact ⟨_, rfl, HS.out⟩

set_option maxHeartbeats 4000000 in
set_option maxRecDepth 100000 in
theorem ngTake_2 {base b : Nat} {a : Nm} {n : Ng} (i : Int) (v : Value) (s : ByteArray) (w : World) (h : NegIn w base b a n) (hp : PkIn w b a ⟨2, i, n.req, s⟩ v) (hb : n.begun = true) (hi : i = n.last) :
    Calls Tryz.prog 37 #[.pointer (some ⟨b, 0, none⟩), .agg #[.int .i64 2, .int .i64 i, v, .string s]] w fun e w' => ∃ vo, e = .returned vo ∧ Sent w w' base b a (ackP n i s) vo := by
  obtain ⟨pv, cv, hv⟩ := hp.at_.1.slice
  have hv : v = .slice pv n.req.length cv := hv
  have k0 := (Kept.refl (fun _ => False) w).alloc (.cells #[.int .i64 2, .int .i64 i, v, .string s] 24)
  have O0 := hid (own4_new w 24 (.int .i64 2) (.int .i64 i) v (.string s))
  have HZ := hid (ngNone_any _ (h.kept0 k0))
  have HH := hid (takeAck_own i v s _ (h.kept0 k0) (hp.kept0 k0) hb hi)
  have HK0 := hid k0
  subst hv
  generalize hAe : w.alloc (.cells #[.int .i64 2, .int .i64 i, .slice pv n.req.length cv, .string s] 24) = A at *
  have HAe := hid hAe
  obtain ⟨⟨q0, q1, q2, q3⟩, _⟩ := O0.out
  clear h hp k0 hAe hb hi
  generalize ackP n i s = R at *
  go_enter Tryz.func37, Tryz.ntmps37
  go_upto_region 1 with fail
  rw [HAe.out]
  go_wp2_with (first | (go_at_call 55; refine HZ.out.mono ?_; rintro e w' ⟨rfl, hw⟩; rw [hw]; clear hw w'))
  refine HH.out.mono ?_
  rintro e w4 ⟨vo, rfl, S⟩
  have HS := hid (Sent.before0 HK0.out S)
  obtain ⟨po, co, rfl⟩ := S.slice
  clear S
  go_wp2
  go_ret
  exact ⟨_, rfl, HS.out⟩
def ackL (l : Lp) (i : Int) (s : ByteArray) : Lp × List Pk0 := ({ l with ng := (ackP l.ng i s).1 }, (ackP l.ng i s).2)
set_option maxHeartbeats 4000000 in
set_option maxRecDepth 100000 in
theorem lcpTake_2 {base b : Nat} {m : Lm} {l : Lp} (id : Int) (d : ByteArray) (v : Value) (w : World) (h : LcpIn w base b m l) (hp : LPk w b m ⟨2, id, l.ng.req, d⟩ v) (hb : l.ng.begun = true) (hi : id = l.ng.last) :
    Calls Tryz.prog 12 #[.pointer (some ⟨b, 0, none⟩), .agg #[.int .i64 2, .int .i64 id, v, .string d]] w fun e w' => ∃ vo, e = .returned vo ∧ LSent w w' base b m (ackL l id d) vo := by
  obtain ⟨pv, cv, hv⟩ := hp.at_.1.slice
  have hv : v = .slice pv l.ng.req.length cv := hv
  have hk0 := (Kept.refl (fun _ => False) w).alloc (.cells #[.int .i64 2, .int .i64 id, v, .string d] 24)
  have O0 := hid (own4_new w 24 (.int .i64 2) (.int .i64 id) v (.string d))
  have HL := hid (h.kept0 hk0)
  have HP := hid (hp.kept0 hk0)
  have HT := hid (fun (W : World) (hW : LcpIn W base b m l) (hq : LPk W b m ⟨2, id, l.ng.req, d⟩ v) => ngTake_2 id v d W hW.neg hq.neg hb hi)
  have HN := hid (negotiation_any _ HL.out)
  have HE := eqNegSome ⟨m.nb, 0, none⟩
  have HK0 := hid hk0
  have hnS : Hid (¬ Sl b m w.heap.size) := fun s => by have := h.sl_lt _ s; omega
  unfold ackL
  subst hv
  generalize hA : w.alloc (.cells #[.int .i64 2, .int .i64 id, .slice pv l.ng.req.length cv, .string d] 24) = A at *
  have HA := hid hA
  have hrA := hid (lt_of_cell O0.out.1.1)
  obtain ⟨⟨q0, q1, q2, q3⟩, _⟩ := O0.out
  clear hA h hp hk0 hb hi
  generalize ackP l.ng id d = RQ at *
  have B0 : BoxK w.heap.size b m.nb ⟨2, id, l.ng.req, d⟩ (.slice pv l.ng.req.length cv) A.drew := (O0.out.kept ((Kept.refl _ _).drew)).boxK (HL.out.kept0 ((Kept.refl _ _).drew))
  have g0 : ∀ W, BoxK w.heap.size b m.nb ⟨2, id, l.ng.req, d⟩ (.slice pv l.ng.req.length cv) W → W.cell? ⟨w.heap.size, 0, none⟩ = some (.int .i64 2) := fun W h => h.x0
  have g1 : ∀ W, BoxK w.heap.size b m.nb ⟨2, id, l.ng.req, d⟩ (.slice pv l.ng.req.length cv) W → W.cell? ⟨w.heap.size, 1, none⟩ = some (.int .i64 id) := fun W h => h.x1
  have g2 : ∀ W, BoxK w.heap.size b m.nb ⟨2, id, l.ng.req, d⟩ (.slice pv l.ng.req.length cv) W → W.cell? ⟨w.heap.size, 2, none⟩ = some (.slice pv l.ng.req.length cv) := fun W h => h.x2
  have g3 : ∀ W, BoxK w.heap.size b m.nb ⟨2, id, l.ng.req, d⟩ (.slice pv l.ng.req.length cv) W → W.cell? ⟨w.heap.size, 3, none⟩ = some (.string d) := fun W h => h.x3
  have g4 : ∀ W, BoxK w.heap.size b m.nb ⟨2, id, l.ng.req, d⟩ (.slice pv l.ng.req.length cv) W → W.cell? ⟨b, 0, none⟩ = some (.pointer (some ⟨m.nb, 0, none⟩)) := fun W h => h.c0
  go_enter Tryz.func12, Tryz.ntmps12
  go_upto_region 1 with fail
  rw [HA.out]
  go_wp2_with (first | (go_at_call 31; refine HN.out.mono ?_; rintro e w' ⟨rfl, hw⟩; rw [hw]; clear hw w'))
  refine wp_region_held_drew (S := BoxK w.heap.size b m.nb ⟨2, id, l.ng.req, d⟩ (.slice pv l.ng.req.length cv)) (by kernel_rfl) (B0) (fun hSd => ?_)
  refine wpAnyH_take (i := 0) (v := ?_) rfl (by kernel_rfl) (by kernel_rfl) (by kernel_rfl) (fun _ _ _ h => h) (Or.inl ⟨by kernel_rfl, fun W hSW => by go_simp; try with_reducible rfl⟩) (by assumption) ?_
  try simp only [List.getElem_toArray]
  try simp only [List.getElem_cons_succ]
  try simp only [List.getElem_cons_zero]
  try simp only [Act.put]
  try simp only [List.setIfInBounds_toArray]
  try simp only [List.set_cons_succ]
  try simp only [List.set_cons_zero]
  refine wpAnyH_take (i := 1) (v := ?_) rfl (by kernel_rfl) (by kernel_rfl) (by kernel_rfl) (fun _ _ _ h => h) (Or.inl ⟨by kernel_rfl, fun W hSW => by go_simp; try with_reducible rfl⟩) (by assumption) ?_
  try simp only [List.getElem_toArray]
  try simp only [List.getElem_cons_succ]
  try simp only [List.getElem_cons_zero]
  try simp only [Act.put]
  try simp only [List.setIfInBounds_toArray]
  try simp only [List.set_cons_succ]
  try simp only [List.set_cons_zero]
  refine wpAnyH_take (i := 2) (v := ?_) rfl (by kernel_rfl) (by kernel_rfl) (by kernel_rfl) (fun _ _ _ h => h) (Or.inl ⟨by kernel_rfl, fun W hSW => by go_simp; try with_reducible rfl⟩) (by assumption) ?_
  try simp only [List.getElem_toArray]
  try simp only [List.getElem_cons_succ]
  try simp only [List.getElem_cons_zero]
  try simp only [Act.put]
  try simp only [List.setIfInBounds_toArray]
  try simp only [List.set_cons_succ]
  try simp only [List.set_cons_zero]
  refine wpAnyH_take (i := 3) (v := ?_) rfl (by kernel_rfl) (by kernel_rfl) (by kernel_rfl) (fun _ _ _ h => h) (Or.inl ⟨by kernel_rfl, fun W hSW => by go_simp; try with_reducible rfl⟩) (by assumption) ?_
  try simp only [List.getElem_toArray]
  try simp only [List.getElem_cons_succ]
  try simp only [List.getElem_cons_zero]
  try simp only [Act.put]
  try simp only [List.setIfInBounds_toArray]
  try simp only [List.set_cons_succ]
  try simp only [List.set_cons_zero]
  refine wpAnyH_take (i := 4) (v := ?_) rfl (by kernel_rfl) (by kernel_rfl) (by kernel_rfl) (fun _ _ _ h => h) (Or.inl ⟨by kernel_rfl, fun W hSW => by go_simp; try with_reducible rfl⟩) (by assumption) ?_
  try simp only [List.getElem_toArray]
  try simp only [List.getElem_cons_succ]
  try simp only [List.getElem_cons_zero]
  try simp only [Act.put]
  try simp only [List.setIfInBounds_toArray]
  try simp only [List.set_cons_succ]
  try simp only [List.set_cons_zero]
  refine wpAnyH_ready (rs := [5]) (by kernel_rfl) (by simp) ?_
  refine AllReadyH.cons rfl (fun K hK => ?_) AllReadyH.nil
  go_simp
  refine (HT.out _ (HL.out.kept0 ((Kept.refl _ _).drew)) (HP.out.kept0 ((Kept.refl _ _).drew))).mono ?_
  rintro e w4 ⟨vo, rfl, S⟩
  obtain ⟨po, co, rfl⟩ := S.slice
  have S' := Sent.before0 ((Kept.refl (fun _ => False) A).drew) S
  have HS := hid (LSent.before0 HK0.out (HL.out.sent S'))
  have B4 : BoxK w.heap.size b m.nb ⟨2, id, l.ng.req, d⟩ (.slice pv l.ng.req.length cv) w4 := by
    obtain ⟨a', q', hs, _⟩ := S'
    have N4 := HL.out.ofNeg hs.nx
    have hx := Own4.boxK (p := ⟨2, id, l.ng.req, d⟩) (O0.out.keptS N4.kept hnS.out) N4.lcp
    exact ⟨hx.x0, hx.x1, hx.x2, hx.x3, hx.c0⟩
  clear S S'
  refine hK.out _ _ (B4) (fun _ => ?_)
  clear hK K
  try simp only [List.getElem_toArray]
  try simp only [List.getElem_cons_succ]
  try simp only [List.getElem_cons_zero]
  try simp only [Act.put]
  try simp only [List.setIfInBounds_toArray]
  try simp only [List.set_cons_succ]
  try simp only [List.set_cons_zero]
  refine wpAnyH_take (i := 6) (v := ?_) rfl (by kernel_rfl) (by kernel_rfl) (by kernel_rfl) (fun _ _ _ h => h) (Or.inl ⟨by kernel_rfl, fun W hSW => by go_simp; try with_reducible rfl⟩) (by assumption) ?_
  try simp only [List.getElem_toArray]
  try simp only [List.getElem_cons_succ]
  try simp only [List.getElem_cons_zero]
  try simp only [Act.put]
  try simp only [List.setIfInBounds_toArray]
  try simp only [List.set_cons_succ]
  try simp only [List.set_cons_zero]
  refine wpAnyH_done (by kernel_rfl) ?_ _
  go_wp2
  go_ret
  exact ⟨_, rfl, HS.out⟩
end Go.Proofs.YtklapjfljffahaaGreat

namespace Go.Proofs.YtklapjfljffahaaGreat
open Go.RowKit

theorem num2 {v : Int} (h1 : 0 ≤ v) (h2 : v < 65536) : ((valueF (numF v 2).data.toList).1 : Int) = v := by
  have e : (numF v 2).data.toList = [UInt8.ofNat (v / 256 % 256).toNat, UInt8.ofNat (v % 256).toNat] := by simp [numF, putL, putB, List.range_succ]
  rw [e]
  have b0 : (UInt8.ofNat (v / 256 % 256).toNat).toNat = (v / 256 % 256).toNat := UInt8.toNat_ofNat_of_lt (show (v / 256 % 256).toNat < 256 by omega)
  have b1 : (UInt8.ofNat (v % 256).toNat).toNat = (v % 256).toNat := UInt8.toNat_ofNat_of_lt (show (v % 256).toNat < 256 by omega)
  simp [valueF, numOf, b0, b1]
  omega
theorem num4 {v : Int} (h1 : 0 ≤ v) (h2 : v ≤ 4294967295) : ((valueF (numF v 4).data.toList).1 : Int) = v := by
  have e : (numF v 4).data.toList = [UInt8.ofNat (v / 16777216 % 256).toNat, UInt8.ofNat (v / 65536 % 256).toNat, UInt8.ofNat (v / 256 % 256).toNat, UInt8.ofNat (v % 256).toNat] := by simp [numF, putL, putB, List.range_succ]
  rw [e]
  have b0 : (UInt8.ofNat (v / 16777216 % 256).toNat).toNat = (v / 16777216 % 256).toNat := UInt8.toNat_ofNat_of_lt (show (v / 16777216 % 256).toNat < 256 by omega)
  have b1 : (UInt8.ofNat (v / 65536 % 256).toNat).toNat = (v / 65536 % 256).toNat := UInt8.toNat_ofNat_of_lt (show (v / 65536 % 256).toNat < 256 by omega)
  have b2 : (UInt8.ofNat (v / 256 % 256).toNat).toNat = (v / 256 % 256).toNat := UInt8.toNat_ofNat_of_lt (show (v / 256 % 256).toNat < 256 by omega)
  have b3 : (UInt8.ofNat (v % 256).toNat).toNat = (v % 256).toNat := UInt8.toNat_ofNat_of_lt (show (v % 256).toNat < 256 by omega)
  simp [valueF, numOf, b0, b1, b2, b3]
  omega
theorem find1 (c : Cf) : findO (askF c) 1 = if c.mru != 1492 then some (numF c.mru 2) else none := by
  unfold askF findO
  generalize (c.mru != 1492) = b0
  generalize (c.auth != 0) = b1
  generalize (c.magic != 0) = b2
  cases b0 <;> cases b1 <;> cases b2 <;> simp
theorem find3 (c : Cf) : findO (askF c) 3 = if c.auth != 0 then some (authF c.auth) else none := by
  unfold askF findO
  generalize (c.mru != 1492) = b0
  generalize (c.auth != 0) = b1
  generalize (c.magic != 0) = b2
  cases b0 <;> cases b1 <;> cases b2 <;> simp
theorem find5 (c : Cf) : findO (askF c) 5 = if c.magic != 0 then some (numF c.magic 4) else none := by
  unfold askF findO
  generalize (c.mru != 1492) = b0
  generalize (c.auth != 0) = b1
  generalize (c.magic != 0) = b2
  cases b0 <;> cases b1 <;> cases b2 <;> simp

end Go.Proofs.YtklapjfljffahaaGreat

namespace Go.Proofs.YtklapjfljffahaaGreat
open Go.RowKit

theorem judge_all (rs : List Rl) (o : List Tg) (ha : Alone o) (hf : ∀ t ∈ o, ∃ r, ruleF rs t.type = some r ∧ fitsF r t.value = true) : judgeF rs o = (2, o) := by
  have hbad : ∀ j t, o[j]? = some t → badF rs o j t = false := fun j t hj => by
    obtain ⟨r, hr, _⟩ := hf t (List.mem_of_getElem? hj)
    unfold badF
    rw [hr, ha j t hj]
    rfl
  have h1 : ∀ j, j ≤ o.length → upTo (rejF rs o) o j = [] := fun j hj => by
    induction j with
    | zero => rfl
    | succ j ih =>
      obtain ⟨t, ht⟩ : ∃ t, o[j]? = some t := ⟨o[j], by simp⟩
      rw [upTo_next _ _ _ ht, ih (by omega)]
      unfold rejF
      rw [hbad j t ht]
      rfl
  have h2 : ∀ j, j ≤ o.length → upTo (nakF rs o) o j = [] := fun j hj => by
    induction j with
    | zero => rfl
    | succ j ih =>
      obtain ⟨t, ht⟩ : ∃ t, o[j]? = some t := ⟨o[j], by simp⟩
      obtain ⟨r, hr, hfit⟩ := hf t (List.mem_of_getElem? ht)
      rw [upTo_next _ _ _ ht, ih (by omega)]
      unfold nakF
      rw [hbad j t ht, hr]
      simp [hfit]
  unfold judgeF
  rw [h1 _ (Nat.le_refl _), h2 _ (Nat.le_refl _)]
  rfl

theorem numF_inj {a b : Int} (ha : 0 ≤ a ∧ a ≤ 4294967295) (hb : 0 ≤ b ∧ b ≤ 4294967295) (h : numF a 4 = numF b 4) : a = b := by
  have h1 := num4 ha.1 ha.2
  have h2 := num4 hb.1 hb.2
  rw [h] at h1
  omega
theorem hears_other {l : Lp} {c : Cf} (hc : GoodC c) (hm : 0 ≤ l.magic ∧ l.magic ≤ 4294967295) (hne : c.magic ≠ l.magic) : hearsF l (askF c) = false := by
  unfold hearsF
  by_cases h0 : l.magic = 0
  · simp [h0]
  · have : hasO (askF c) ⟨5, numF l.magic 4⟩ = false := by
      unfold hasO
      rw [List.any_eq_false]
      intro t ht hs
      have e := sameT_iff.1 hs
      rcases ask_mem ht with rfl | rfl | rfl
      · have := congrArg Tg.type e; simp at this
      · have := congrArg Tg.type e; simp at this
      · have := congrArg Tg.value e
        exact hne (numF_inj ⟨hc.mag1, hc.mag2⟩ hm this.symm)
    rw [this]
    simp

theorem fit_num2 {v : Int} (h1 : 64 ≤ v) (h2 : v ≤ 1492) : fitsF (mruR 65535) (numF v 2) = true := by
  have h := num2 (v := v) (by omega) (by omega)
  have hl : (numF v 2).data.toList.length = 2 := by rw [← Lib.size_eq]; exact numF_size v 2
  rw [valueF_short (by omega)] at h
  unfold fitsF mruR
  rw [List.take_of_length_le (by omega)]
  simp only at h ⊢
  rw [h, numF_size]
  simp
  omega
theorem fit_num4 {v : Int} (h1 : 1 ≤ v) (h2 : v ≤ 4294967295) : fitsF magicR (numF v 4) = true := by
  have h := num4 (v := v) (by omega) h2
  have hl : (numF v 4).data.toList.length = 4 := by rw [← Lib.size_eq]; exact numF_size v 4
  rw [valueF_short (by omega)] at h
  unfold fitsF magicR
  rw [List.take_of_length_le (by omega)]
  simp only at h ⊢
  rw [h, numF_size]
  simp
  omega
theorem auth_of_ask (c : Cf) (hc : GoodC c) : authOfF (askF c) = c.auth := by
  unfold authOfF findOB
  rw [find3]
  rcases hc.auth with h | h | h
  · rw [h]; kernel_rfl
  · rw [h]; kernel_rfl
  · rw [h]; kernel_rfl

/-- What a link asks for, the other one acks. -/
theorem judge_ask {l : Lp} {c : Cf} (hc : GoodC c) (hh : hearsF l (askF c) = false) : judgeF (base3 l (askF c)) (askF c) = (2, askF c) := by
  have hb : base3 l (askF c) = [mruR 65535, authQ (askF c), magicR] := by unfold base3 magicQ; rw [if_neg (by rw [hh]; simp)]
  rw [hb]
  have ht : (authQ (askF c)).type = 3 := by unfold authQ; split <;> rfl
  refine judge_all _ _ (ask_alone c) (fun t hm => ?_)
  have hpos : ∀ t ∈ askF c, (t = ⟨1, numF c.mru 2⟩) ∨ (t = ⟨3, authF c.auth⟩ ∧ c.auth ≠ 0) ∨ (t = ⟨5, numF c.magic 4⟩ ∧ c.magic ≠ 0) := fun t hm => by
    unfold askF at hm
    rcases List.mem_append.1 hm with hm | hm
    · rcases List.mem_append.1 hm with hm | hm
      · split at hm
        · exact Or.inl (List.mem_singleton.1 hm)
        · cases hm
      · split at hm
        · rename_i h
          exact Or.inr (Or.inl ⟨List.mem_singleton.1 hm, by simpa using h⟩)
        · cases hm
    · split at hm
      · rename_i h
        exact Or.inr (Or.inr ⟨List.mem_singleton.1 hm, by simpa using h⟩)
      · cases hm
  rcases hpos t hm with rfl | ⟨rfl, h⟩ | ⟨rfl, h⟩
  · exact ⟨mruR 65535, by simp [ruleF, mruR], fit_num2 hc.mru1 hc.mru2⟩
  · refine ⟨authQ (askF c), by simp [ruleF, mruR, ht], ?_⟩
    unfold authQ
    rw [auth_of_ask c hc]
    rcases hc.auth with h1 | h1 | h1
    · exact absurd h1 h
    · rw [h1]; kernel_rfl
    · rw [h1]; kernel_rfl
  · refine ⟨magicR, by simp [ruleF, mruR, ht, magicR], fit_num4 (by have := hc.mag1; omega) hc.mag2⟩

theorem rcr_six (n : Ng) (c : Cz) (h : n.au.st = 6) : (happenF c n 6).2 = [c.ans] ∧ (happenF c n 6).1.au.st = 8 ∧ (happenF c n 6).1.theirs = c.ans.opts ∧ (happenF c n 6).1.req = n.req ∧ (happenF c n 6).1.begun = n.begun ∧ (happenF c n 6).1.last = n.last := by
  obtain ⟨⟨cf, tm, st, ct⟩, req, own, peer, fails, wait, id, last, begun, naks, ticks, mine, theirs, ups, downs⟩ := n
  have h : st = 6 := h
  subst h
  exact ⟨by kernel_rfl, by kernel_rfl, by kernel_rfl, by kernel_rfl, by kernel_rfl, by kernel_rfl⟩
theorem rca_eight (n : Ng) (c : Cz) (h : n.au.st = 8) : (happenF c n 8).2 = [] ∧ (happenF c n 8).1.au.st = 9 ∧ (happenF c n 8).1.theirs = n.theirs ∧ (happenF c n 8).1.mine = n.mine := by
  obtain ⟨⟨cf, tm, st, ct⟩, req, own, peer, fails, wait, id, last, begun, naks, ticks, mine, theirs, ups, downs⟩ := n
  have h : st = 8 := h
  subst h
  exact ⟨by kernel_rfl, by kernel_rfl, by kernel_rfl, by kernel_rfl⟩

structure M0 (l : Lp) (c : Cf) : Prop where
  st : l.ng.au.st = 6
  begun : l.ng.begun = true
  last : l.ng.last = 1
  req : l.ng.req = askF c
  magic : l.magic = c.magic
  loops : l.loops = 0
structure M1 (l : Lp) (c : Cf) (o : List Tg) : Prop where
  st : l.ng.au.st = 8
  begun : l.ng.begun = true
  last : l.ng.last = 1
  req : l.ng.req = askF c
  theirs : l.ng.theirs = o
structure M2 (l : Lp) (c : Cf) (o : List Tg) : Prop where
  st : l.ng.au.st = 9
  mine : l.ng.mine = askF c
  theirs : l.ng.theirs = o

theorem m_req {l : Lp} {c a : Cf} (h : M0 l c) (hc : GoodC c) (ha : GoodC a) (hne : a.magic ≠ c.magic) : ∃ l', reqL l ⟨1, 1, askF a, ⟨#[]⟩⟩ = (l', [⟨2, 1, askF a, ⟨#[]⟩⟩]) ∧ M1 l' c (askF a) := by
  have hh : hearsF l (askF a) = false := hears_other ha (by rw [h.magic]; exact ⟨hc.mag1, hc.mag2⟩) (by rw [h.magic]; exact hne)
  have hL : loopL l (askF a) = l := by unfold loopL; rw [if_neg (by rw [hh]; simp)]
  have hJ := judge_ask ha hh
  have hN : needsF l (askF a) = false := by unfold needsF; rw [hJ]; simp
  have hR : rulesF l (askF a) = base3 l (askF a) := by unfold rulesF; rw [if_neg (by rw [hN]; simp)]
  have hD : ruledL l (askF a) = l := by unfold ruledL; rw [if_neg (by rw [hN]; simp)]
  obtain ⟨s1, s2, s3, s4, s5, s6⟩ := rcr_six { l.ng with naks := 0 } ⟨⟨1, 1, askF a, ⟨#[]⟩⟩, ⟨2, 1, askF a, ⟨#[]⟩⟩, base3 l (askF a)⟩ h.st
  have e : reqL l ⟨1, 1, askF a, ⟨#[]⟩⟩ = ({ l with ng := (happenF ⟨⟨1, 1, askF a, ⟨#[]⟩⟩, ⟨2, 1, askF a, ⟨#[]⟩⟩, base3 l (askF a)⟩ { l.ng with naks := 0 } 6).1 }, (happenF ⟨⟨1, 1, askF a, ⟨#[]⟩⟩, ⟨2, 1, askF a, ⟨#[]⟩⟩, base3 l (askF a)⟩ { l.ng with naks := 0 } 6).2) := by
    unfold reqL
    simp only [hL]
    rw [if_neg (by rw [h.loops]; decide)]
    unfold askL reqN
    simp only [hD, hR, hJ]
    rw [if_pos trivial]
  rw [e, s1]
  exact ⟨_, rfl, s2, s5.trans h.begun, s6.trans h.last, s4.trans h.req, s3⟩
theorem m_ack {l : Lp} {c : Cf} {o : List Tg} (h : M1 l c o) : ∃ l', ackL l 1 ⟨#[]⟩ = (l', []) ∧ M2 l' c o := by
  obtain ⟨s1, s2, s3, s4⟩ := rca_eight { l.ng with mine := l.ng.req } ⟨⟨2, 1, l.ng.req, ⟨#[]⟩⟩, pk00, []⟩ h.st
  refine ⟨(ackL l 1 ⟨#[]⟩).1, Prod.ext rfl s1, s2, s4.trans h.req, s3.trans h.theirs⟩
end Go.Proofs.YtklapjfljffahaaGreat

namespace Go.Proofs.YtklapjfljffahaaGreat
open Go.RowKit

/-- All blocks of a link. -/
def Blk (b : Nat) (m : Lm) (i : Nat) : Prop := Sl b m i ∨ m.na.vm.ownBlock = some i ∨ m.na.vt.ownBlock = some i ∨ m.on i

section
variable {W W' W'' : World} {base b : Nat} {m m' : Lm} {l l' : Lp}
theorem LcpIn.sl_cells (h : LcpIn W base b m l) : ∀ i, Sl b m i → ∃ cur e fz, W.heap[i]? = some (.cells cur e fz) := by
  rintro i (rfl | rfl | rfl | rfl | hi)
  · exact ⟨_, _, _, h.cells⟩
  · obtain ⟨c, hc⟩ := h.tape.blk
    exact ⟨_, _, _, hc⟩
  · exact ⟨_, _, _, h.neg.cells⟩
  · have := h.neg.auto
    unfold AutoIn at this
    exact ⟨_, _, _, this⟩
  · obtain ⟨c, hc⟩ := h.neg.req.cellsB hi
    exact ⟨_, _, _, hc⟩
theorem LcpIn.blk_lt (h : LcpIn W base b m l) : ∀ i, Blk b m i → i < W.heap.size := by
  rintro i (hi | hi | hi | hi)
  · exact h.sl_lt i hi
  · obtain ⟨c, hc⟩ := h.neg.mine.cellsB hi
    exact (Array.getElem?_eq_some_iff.1 hc).1
  · obtain ⟨c, hc⟩ := h.neg.theirs.cellsB hi
    exact (Array.getElem?_eq_some_iff.1 hc).1
  · exact (h.farOn i hi).2.2.2.2
/-- It stays where the other one turns. -/
theorem LcpIn.keptOther {S : Nat → Prop} (h : LcpIn W base b m l) (hk : Kept S W W') (hc : ∀ i, S i → i < W.heap.size → ∃ cur e fz, W.heap[i]? = some (.cells cur e fz)) (hS : ∀ i, Blk b m i → ¬ S i) : LcpIn W' base b m l :=
  ⟨(hk.block b h.lt (hS b (Or.inl (Or.inl rfl)))).trans h.cells,
    h.neg.keptS hk hc (hS _ (Or.inl (Or.inr (Or.inr (Or.inl rfl))))) (hS _ (Or.inl (Or.inr (Or.inr (Or.inr (Or.inl rfl)))))) (fun i hi => hS i (Or.inl (Or.inr (Or.inr (Or.inr (Or.inr hi)))))) (fun i hi => hS i (Or.inr (Or.inl hi))) (fun i hi => hS i (Or.inr (Or.inr (Or.inl hi)))),
    h.tape.kept hk (hS _ (Or.inl (Or.inr (Or.inl rfl)))) (fun i hi => hS i (Or.inr (Or.inr (Or.inr (h.onT i hi))))), h.onT, h.far,
    fun i hi => ⟨(h.farOn i hi).1, (h.farOn i hi).2.1, (h.farOn i hi).2.2.1, (h.farOn i hi).2.2.2.1, Nat.lt_of_lt_of_le (h.farOn i hi).2.2.2.2 hk.size⟩, h.ne, h.lo, h.lo2, h.good⟩
theorem LNext.blk (h : LNext W W' base b m m' l') : ∀ i, Blk b m' i → Blk b m i ∨ W.heap.size ≤ i := by
  rintro i (hi | hi | hi | hi)
  · rcases h.sl i hi with h1 | h1
    · exact Or.inl (Or.inl h1)
    · exact Or.inr h1
  · rcases h.fm i hi with h1 | h1
    · exact Or.inl (Or.inr (Or.inl h1))
    · exact Or.inr h1
  · rcases h.ft i hi with h1 | h1
    · exact Or.inl (Or.inr (Or.inr (Or.inl h1)))
    · exact Or.inr h1
  · rw [h.on] at hi
    exact Or.inl (Or.inr (Or.inr (Or.inr hi)))
end

/-- Two links of a law's own. -/
structure Pair (w W : World) (b b' : Nat) (m m' : Lm) (l l' : Lp) : Prop where
  x : LcpIn W w.heap.size b m l
  y : LcpIn W w.heap.size b' m' l'
  dis : ∀ i, Blk b m i → ¬ Blk b' m' i
  kept : Kept (fun _ => False) w W

section
variable {w W W' : World} {b b' : Nat} {m m' m2 : Lm} {l l' l2 : Lp}
theorem Pair.turn (h : Pair w W b b' m m' l l') : Pair w W b' b m' m l' l := ⟨h.y, h.x, fun i h1 h2 => h.dis i h2 h1, h.kept⟩
theorem Pair.next (h : Pair w W b b' m m' l l') (k : LNext W W' w.heap.size b m m2 l2) : Pair w W' b b' m2 m' l2 l' :=
  ⟨k.lcp, h.y.keptOther k.kept (fun i s _ => h.x.sl_cells i s) (fun i hi s => h.dis i (Or.inl s) hi), fun i h1 h2 => by
    rcases k.blk i h1 with h3 | h3
    · exact h.dis i h3 h2
    · have := h.y.blk_lt i h2
      omega, h.kept.andThen k.kept (fun i hi s => by have := h.x.sl_lo i s; omega)⟩
theorem Pair.next2 (h : Pair w W b b' m m' l l') (k : LNext W W' w.heap.size b' m' m2 l2) : Pair w W' b b' m m2 l l2 := (h.turn.next k).turn
theorem Pair.still (h : Pair w W b b' m m' l l') (hk : Kept (fun _ => False) W W') : Pair w W' b b' m m' l l' := ⟨h.x.kept0 hk, h.y.kept0 hk, h.dis, h.kept.trans hk⟩
end

/-- A list on its way. -/
def Fly (base : Nat) (b b' : Nat) (m m' : Lm) (W : World) (v : Value) : List Pk0 → Prop
  | [] => ∃ p cap, v = .slice p 0 cap
  | [pk] => ∃ g cap u, v = .slice (some ⟨g, 0, none⟩) 1 cap ∧ 1 ≤ cap ∧ RowK W g pk.code pk.id u pk.data ∧ OwnO W base u pk.opts ∧ ∀ i, u.ownBlock = some i → ¬ Sl b m i ∧ ¬ Sl b' m' i
  | _ => False

section
variable {w W W' : World} {b b' : Nat} {m m' m2 : Lm} {l l' l2 : Lp} {v : Value} {pks : List Pk0}
theorem Fly.turn (h : Fly w.heap.size b b' m m' W v pks) : Fly w.heap.size b' b m' m W v pks := by
  match pks with
  | [] => exact h
  | [pk] =>
    obtain ⟨g, cap, u, h1, h2, h3, h4, h5⟩ := h
    exact ⟨g, cap, u, h1, h2, h3, h4, fun i hi => ⟨(h5 i hi).2, (h5 i hi).1⟩⟩
  | _ :: _ :: _ => exact h.elim
theorem Fly.next (h : Fly w.heap.size b b' m m' W v pks) (T : Pair w W b b' m m' l l') (k : LNext W W' w.heap.size b m m2 l2) : Fly w.heap.size b b' m2 m' W' v pks := by
  match pks with
  | [] => exact h
  | [pk] =>
    obtain ⟨g, cap, u, h1, h2, h3, h4, h5⟩ := h
    refine ⟨g, cap, u, h1, h2, h3.kept k.kept (sl_pk T.x h3.blk), h4.keptS k.kept (fun i hi => (h5 i hi).1), fun i hi => ⟨fun s => ?_, (h5 i hi).2⟩⟩
    rcases k.sl i s with h6 | h6
    · exact (h5 i hi).1 h6
    · obtain ⟨c, hc⟩ := h4.cellsB hi
      have := (Array.getElem?_eq_some_iff.1 hc).1
      omega
  | _ :: _ :: _ => exact h.elim
theorem Fly.next2 (h : Fly w.heap.size b b' m m' W v pks) (T : Pair w W b b' m m' l l') (k : LNext W W' w.heap.size b' m' m2 l2) : Fly w.heap.size b b' m m2 W' v pks := (h.turn.next T.turn k).turn
theorem Fly.slice (h : Fly w.heap.size b b' m m' W v pks) : ∃ p cap, v = .slice p pks.length cap := by
  match pks with
  | [] => exact h
  | [pk] =>
    obtain ⟨g, cap, u, h1, _⟩ := h
    exact ⟨_, _, h1⟩
  | _ :: _ :: _ => exact h.elim
/-- What the first one said. -/
theorem fly_of {s : Lp × List Pk0} (T : Pair w W b b' m m' l l') (S : LSent W W' w.heap.size b m s v) (hn : s.2.length ≤ 1) : ∃ m2, LNext W W' w.heap.size b m m2 s.1 ∧ Fly w.heap.size b b' m2 m' W' v s.2 := by
  obtain ⟨l2, pks⟩ := s
  match pks with
  | [] =>
    obtain ⟨m2, p, cap, e, N⟩ := lsent_zero S
    exact ⟨m2, N, p, cap, e⟩
  | [pk] =>
    obtain ⟨m2, g, cap, u, e, hc, N, R, ho, hf, _⟩ := lsent_one S
    refine ⟨m2, N, g, cap, u, e, hc, R, ho.mono T.kept.size, fun i hi => ⟨hf i hi, fun s => ?_⟩⟩
    have h1 := ho.baseB hi
    have h2 := T.y.sl_lt i s
    omega
  | _ :: _ :: _ => simp at hn
end

/-- How far a link has come, of which it was asked c and the other one a. -/
def Ah (k : Nat) (l : Lp) (c a : Cf) : Prop := (k = 0 ∧ M0 l c ∧ l.asked = 0) ∨ (k = 1 ∧ M1 l c (askF a)) ∨ (k = 2 ∧ M2 l c (askF a))
/-- What it said last. -/
def saysF (k : Nat) (c a : Cf) : List Pk0 := if k = 0 then [⟨1, 1, askF c, ⟨#[]⟩⟩] else if k = 1 then [⟨2, 1, askF a, ⟨#[]⟩⟩] else []
theorem says_len (k : Nat) (c a : Cf) : (saysF k c a).length = if k ≤ 1 then 1 else 0 := by
  unfold saysF
  split
  · rw [if_pos (by omega)]; rfl
  · split
    · rw [if_pos (by omega)]; rfl
    · rw [if_neg (by omega)]; rfl

/-- A link takes what the other one said. -/
theorem take_m {W : World} {base base' b k : Nat} {m : Lm} {l : Lp} {c a : Cf} (pk : Pk0) (u : Value) (h : LcpIn W base b m l) (hc : GoodC c) (ha : GoodC a) (hne : a.magic ≠ c.magic) (hA : Ah k l c a) (hp : saysF k a c = [pk]) (hu : OwnO W base' u pk.opts) (hfar : ∀ i, u.ownBlock = some i → ¬ Sl b m i) :
    Calls Tryz.prog 12 #[.pointer (some ⟨b, 0, none⟩), .agg #[.int .i64 pk.code, .int .i64 pk.id, u, .string pk.data]] W fun e w' => ∃ vo s, e = .returned vo ∧ LSent W w' base b m s vo ∧ Ah (k + 1) s.1 c a ∧ s.2 = saysF (k + 1) c a := by
  have d0 : (⟨#[]⟩ : ByteArray).size ≤ 140737488351232 := by decide
  rcases hA with ⟨rfl, h0, h1⟩ | ⟨rfl, h1⟩ | ⟨rfl, _⟩
  · obtain rfl := (List.cons.inj hp).1
    obtain ⟨l', e, hm⟩ := m_req h0 hc ha hne
    refine (lcpTake_req ⟨1, 1, askF a, ⟨#[]⟩⟩ u W h (by omega) ⟨hu.at, Or.inr hfar, ask_fine a, d0⟩ rfl).mono fun _ _ ⟨vo, h2, h3⟩ => ⟨vo, _, h2, h3, ?_⟩
    rw [e]
    exact ⟨Or.inr (Or.inl ⟨rfl, hm⟩), rfl⟩
  · obtain rfl := (List.cons.inj hp).1
    obtain ⟨l', e, hm⟩ := m_ack h1
    have hu' : OwnO W base' u l.ng.req := by rw [h1.req]; exact hu
    refine (lcpTake_2 1 ⟨#[]⟩ u W h ⟨hu'.at, Or.inr hfar, by show FineO l.ng.req; rw [h1.req]; exact ask_fine c, d0⟩ h1.begun h1.last.symm).mono fun _ _ ⟨vo, h2, h3⟩ => ⟨vo, _, h2, h3, ?_⟩
    rw [e]
    exact ⟨Or.inr (Or.inr ⟨rfl, hm⟩), rfl⟩
  · cases hp
end Go.Proofs.YtklapjfljffahaaGreat

namespace Go.Proofs.YtklapjfljffahaaGreat
open Go.RowKit

/-- Two links, how far each has come, and the lists on their way. -/
def Mid (w : World) (b b' : Nat) (c c' : Cf) (k k' : Nat) (W : World) (fl : List (Value × List Pk0)) : Prop :=
  ∃ m m' l l', Pair w W b b' m m' l l' ∧ Ah k l c c' ∧ Ah k' l' c' c ∧ ∀ f ∈ fl, Fly w.heap.size b b' m m' W f.1 f.2

section
variable {w W W' : World} {b b' k k' : Nat} {c c' : Cf} {fl fl' : List (Value × List Pk0)} {v : Value} {pks : List Pk0}
theorem Mid.turn (h : Mid w b b' c c' k k' W fl) : Mid w b' b c' c k' k W fl := by
  obtain ⟨m, m', l, l', T, A, A', F⟩ := h
  exact ⟨m', m, l', l, T.turn, A', A, fun f hf => (F f hf).turn⟩
theorem Mid.sub (h : Mid w b b' c c' k k' W fl) (hs : ∀ f ∈ fl', f ∈ fl) : Mid w b b' c c' k k' W fl' := by
  obtain ⟨m, m', l, l', T, A, A', F⟩ := h
  exact ⟨m, m', l, l', T, A, A', fun f hf => F f (hs f hf)⟩
theorem Mid.slice (h : Mid w b b' c c' k k' W fl) (hf : (v, pks) ∈ fl) : ∃ p cap, v = .slice p pks.length cap := by
  obtain ⟨m, m', l, l', T, A, A', F⟩ := h
  exact (F _ hf).slice
theorem Mid.kept (h : Mid w b b' c c' k k' W fl) : Kept (fun _ => False) w W := by
  obtain ⟨m, m', l, l', T, A, A', F⟩ := h
  exact T.kept
theorem Mid.more (h : Mid w b b' c c' k k' W fl) : Mid w b b' c c' k k' W ((.slice none 0 0, []) :: fl) := by
  obtain ⟨m, m', l, l', T, A, A', F⟩ := h
  refine ⟨m, m', l, l', T, A, A', fun f hf => ?_⟩
  rcases List.mem_cons.1 hf with rfl | hf
  · exact ⟨none, 0, rfl⟩
  · exact F f hf

/-- What taking one packet leaves: the answer, and that it may be appended to nothing. -/
def TookBy (w : World) (b b' : Nat) (c c' : Cf) (k k' : Nat) (fl : List (Value × List Pk0)) (W' : World) (vo : Value) : Prop :=
  ∃ v' W2, AppP W' (.slice none 0 0) vo v' W2 ∧ Mid w b b' c c' (k + 1) k' W2 ((v', saysF (k + 1) c c') :: fl) ∧ (∃ p cap n, vo = .slice p n cap) ∧ ∃ p cap n, v' = .slice p n cap
/-- A packet on its way is read, and taken by the first one. -/
theorem Mid.read (h : Mid w b b' c c' k k' W fl) (hc : GoodC c) (hc' : GoodC c') (hne : c'.magic ≠ c.magic) (hf : (v, saysF k c' c) ∈ fl) (hk : k ≤ 1) :
    ∃ (g cap : Nat) (pu : Option Addr) (nu cu : Nat) (pk : Pk0), v = .slice (some ⟨g, 0, none⟩) 1 cap ∧ 1 ≤ cap ∧ RowK W g pk.code pk.id (.slice pu nu cu) pk.data ∧
      Calls Tryz.prog 12 #[.pointer (some ⟨b, 0, none⟩), .agg #[.int .i64 pk.code, .int .i64 pk.id, .slice pu nu cu, .string pk.data]] W fun e w' => ∃ vo, e = .returned vo ∧ TookBy w b b' c c' k k' fl w' vo := by
  obtain ⟨m, m', l, l', T, A, A', F⟩ := h
  obtain ⟨pk, hp⟩ : ∃ pk, saysF k c' c = [pk] := by
    unfold saysF
    split
    · exact ⟨_, rfl⟩
    · rw [if_pos (by omega)]
      exact ⟨_, rfl⟩
  have hF := F _ hf
  rw [hp] at hF
  obtain ⟨g, cap, u, e, hcap, R, ho, hfar⟩ := hF
  obtain ⟨pu, cu, eu⟩ := slice_of ho
  subst eu
  refine ⟨g, cap, pu, _, cu, pk, e, hcap, R, (take_m pk _ T.x hc hc' hne A hp ho (fun i hi => (hfar i hi).1)).mono ?_⟩
  rintro e2 w2 ⟨vo, s, rfl, S, hA, hs⟩
  have hl : s.2.length ≤ 1 := by
    rw [hs, says_len]
    split <;> omega
  obtain ⟨v', W2, hr, S2⟩ := appendP S (by omega)
  obtain ⟨m2, N, hfly⟩ := fly_of T S2 hl
  obtain ⟨p1, c1, e1⟩ := S.slice
  obtain ⟨p2, c2, e3⟩ := S2.slice
  refine ⟨vo, rfl, v', W2, hr, ⟨m2, m', s.1, l', T.next N, hA, A', fun f hf => ?_⟩, ⟨p1, c1, _, e1⟩, ⟨p2, c2, _, e3⟩⟩
  rcases List.mem_cons.1 hf with rfl | hf
  · rw [hs] at hfly
    exact hfly
  · exact (F f hf).next T N
end

set_option maxHeartbeats 16000000 in
set_option maxRecDepth 100000 in
theorem exchange_any (b b' : Nat) (c c' : Cf) (hc : GoodC c) (hc' : GoodC c') (hne : c.magic ≠ c'.magic) (vp vq : Value) (w W : World) (h : Mid w b b' c c' 0 0 W [(vp, saysF 0 c c'), (vq, saysF 0 c' c)]) :
    Calls Tryz.prog 21 #[.pointer (some ⟨b, 0, none⟩), .pointer (some ⟨b', 0, none⟩), vp, vq, .int .i64 8] W fun e w' => e = .returned (.tuple #[]) ∧ Mid w b b' c c' 2 2 w' [] := by
  have I0 := hid h
  have HC := hid hc
  have HC' := hid hc'
  have HNe := hid hne
  obtain ⟨p0, cp0, e0⟩ := h.slice (v := vp) (pks := saysF 0 c c') List.mem_cons_self
  obtain ⟨q0, cq0, e1⟩ := h.slice (v := vq) (pks := saysF 0 c' c) (List.mem_cons_of_mem _ List.mem_cons_self)
  subst e0
  subst e1
  clear h hc hc' hne
  generalize hL0 : (saysF 0 c c').length = n0 at I0 ⊢
  generalize hL1 : (saysF 0 c' c).length = n1 at I0 ⊢
  clear hL0 hL1
  go_enter Tryz.func21, Tryz.ntmps21
  go_wp2
  go_loopw [2, 3, 10, 11, 12, 13, 14] (fun v2 v3 v10 _ _ _ _ wr => ∃ i : Nat, i ≤ 8 ∧ v10 = .int .i64 (i : Int) ∧ Hid (Mid w b b' c c' (min i 2) (min i 2) wr [(v2, saysF (min i 2) c c'), (v3, saysF (min i 2) c' c)])) (fun _ _ v10 _ _ _ _ _ => 8 - (intOf v10).toNat)
  case atStart => exact ⟨0, Nat.zero_le _, rfl, I0.out⟩
  case round =>
    obtain ⟨i, hi, rfl, HI⟩ := hrel
    clear I0
    by_cases hlt : i < 8
    · have hltz : (i : Int) < 8 := by omega
      obtain ⟨k, hk⟩ : ∃ k, k = min i 2 := ⟨_, rfl⟩
      obtain ⟨k2, hk2⟩ : ∃ k2, k2 = min (i + 1) 2 := ⟨_, rfl⟩
      rw [← hk] at HI
      obtain ⟨pp, cp, ep⟩ := HI.out.slice (pks := saysF k c c') List.mem_cons_self
      obtain ⟨pq, cq, eq⟩ := HI.out.slice (pks := saysF k c' c) (List.mem_cons_of_mem _ List.mem_cons_self)
      rw [says_len] at ep eq
      obtain ⟨n, hn⟩ : ∃ n, n = if k ≤ 1 then 1 else 0 := ⟨_, rfl⟩
      rw [← hn] at ep eq
      have hn1 : n ≤ 1 := by rw [hn]; split <;> omega
      have hnk : 0 < n → k ≤ 1 ∧ k2 = k + 1 := fun h => by
        have : k ≤ 1 := by
          by_cases hh : k ≤ 1
          · exact hh
          · rw [if_neg hh] at hn; omega
        omega
      have hn0 : n = 0 → k = 2 ∧ k2 = 2 := fun h => by
        have : ¬ k ≤ 1 := fun hh => by rw [if_pos hh] at hn; omega
        omega
      have HK := hid hnk
      have HK0 := hid hn0
      have HK2 := hid hk2
      subst ep
      subst eq
      clear hn hnk hn0 hk hk2
      have J0 : Hid ((0 < n → (Value.slice none 0 0 = .slice none 0 0 ∧ Mid w b b' c c' k k wr [(.slice pp n cp, saysF k c c'), (.slice pq n cq, saysF k c' c)])) ∧ (0 = n → Mid w b b' c c' k k2 wr [(.slice none 0 0, saysF k2 c' c), (.slice pq n cq, saysF k c' c)])) :=
        ⟨fun _ => ⟨rfl, HI.out⟩, fun h0 => by
          obtain ⟨e1, e2⟩ := HK0.out h0.symm
          subst e1
          subst e2
          exact HI.out.more.sub (fun f hf => by
            rcases List.mem_cons.1 hf with rfl | hf
            · exact List.mem_cons_self
            · exact List.mem_cons_of_mem _ (List.mem_cons_of_mem _ hf))⟩
      clear HI
      go_wp2
      go_loopw [11, 13] (fun v11 v13 wr => ∃ j : Nat, j ≤ n ∧ v13 = .int .i64 (j : Int) ∧ Hid ((j < n → (v11 = .slice none 0 0 ∧ Mid w b b' c c' k k wr [(.slice pp n cp, saysF k c c'), (.slice pq n cq, saysF k c' c)])) ∧ (j = n → Mid w b b' c c' k k2 wr [(v11, saysF k2 c' c), (.slice pq n cq, saysF k c' c)]))) (fun _ v13 _ => n - (intOf v13).toNat)
      case atStart => exact ⟨0, Nat.zero_le _, rfl, ⟨fun h => ⟨rfl, (J0.out.1 h).2⟩, J0.out.2⟩⟩
      case round =>
        obtain ⟨j, hj, rfl, HJ⟩ := hrel
        clear J0
        by_cases hjn : j < n
        · have hjz : (j : Int) < (n : Int) := by omega
          obtain rfl : j = 0 := by omega
          obtain rfl : n = 1 := by omega
          obtain ⟨rfl, hM⟩ := HJ.out.1 hjn
          obtain ⟨hk1, hk2⟩ := HK.out (by decide)
          obtain ⟨g, cap, pu, nu, cu, pk, e, hcap, R, hT⟩ := hM.turn.read (v := .slice pp 1 cp) HC'.out HC.out HNe.out List.mem_cons_self hk1
          cases e
          have HTk := hid hT
          have r0 := R.r0
          have r1 := R.r1
          have r2 := R.r2
          have r3 := R.r3
          clear hM R hT HJ hjn
          have HE := hid hk2
          clear hk1 hk2
          go_wp2_with fail
          refine HTk.out.mono ?_
          rintro e w6 ⟨vo, rfl, v', w7, hr, hM2, ⟨po, co, no, rfl⟩, ⟨pr, cr, nr, rfl⟩⟩
          have HF : Hid (Mid w b b' c c' k k2 w7 [(.slice pr nr cr, saysF k2 c' c), (.slice pq 1 cq, saysF k c' c)]) := by
            have h2 := hM2.turn
            rw [← HE.out] at h2
            exact h2.sub (fun f hf => by
              rcases List.mem_cons.1 hf with rfl | hf
              · exact List.mem_cons_self
              · exact List.mem_cons_of_mem _ (List.mem_cons_of_mem _ hf))
          unfold AppP at hr
          clear hM2 HTk
          go_wp2_with (at_builtin; refine Lib.wpList_append_run _ rfl _ _ _ _ rfl _ _ rfl rfl _ _ (hr _) ?_)
          exact ⟨⟨1, Nat.le_refl _, by go_num, ⟨fun h => absurd h (by decide), fun _ => HF.out⟩⟩, by simp [intOf]⟩
        · have hjz : ¬ (j : Int) < (n : Int) := by omega
          have HM := hid (HJ.out.2 (by omega))
          obtain ⟨pu, cu, eu⟩ := HM.out.slice (pks := saysF k2 c' c) List.mem_cons_self
          generalize (saysF k2 c' c).length = nu at eu
          subst eu
          clear HJ hjn hj
          have L0 : Hid ((0 < n → (Value.slice none 0 0 = .slice none 0 0 ∧ Mid w b b' c c' k k2 wr [(.slice pu nu cu, saysF k2 c' c), (.slice pq n cq, saysF k c' c)])) ∧ (0 = n → Mid w b b' c c' k2 k2 wr [(.slice none 0 0, saysF k2 c c'), (.slice pu nu cu, saysF k2 c' c)])) :=
            ⟨fun _ => ⟨rfl, HM.out⟩, fun h0 => by
              obtain ⟨e1, e2⟩ := HK0.out h0.symm
              subst e1
              subst e2
              exact HM.out.more.sub (fun f hf => by
                rcases List.mem_cons.1 hf with rfl | hf
                · exact List.mem_cons_self
                · rw [List.mem_singleton.1 hf]
                  exact List.mem_cons_of_mem _ List.mem_cons_self)⟩
          clear HM
          go_wp2
          go_loopw [12, 14] (fun v12 v14 wr => ∃ j : Nat, j ≤ n ∧ v14 = .int .i64 (j : Int) ∧ Hid ((j < n → (v12 = .slice none 0 0 ∧ Mid w b b' c c' k k2 wr [(.slice pu nu cu, saysF k2 c' c), (.slice pq n cq, saysF k c' c)])) ∧ (j = n → Mid w b b' c c' k2 k2 wr [(v12, saysF k2 c c'), (.slice pu nu cu, saysF k2 c' c)]))) (fun _ v14 _ => n - (intOf v14).toNat)
          case atStart => exact ⟨0, Nat.zero_le _, rfl, ⟨fun h => ⟨rfl, (L0.out.1 h).2⟩, L0.out.2⟩⟩
          case round =>
            obtain ⟨j, hj, rfl, HJ⟩ := hrel
            clear L0
            by_cases hjn : j < n
            · have hjz : (j : Int) < (n : Int) := by omega
              obtain rfl : j = 0 := by omega
              have HN : Hid (n = 1) := hid (by omega)
              obtain ⟨rfl, hM⟩ := HJ.out.1 hjn
              obtain ⟨hk1, hk2⟩ := HK.out (by omega)
              obtain ⟨g, cap, pt, nt, ct, pk, e, hcap, R, hT⟩ := hM.read (v := .slice pq n cq) HC.out HC'.out (fun e => HNe.out e.symm) (List.mem_cons_of_mem _ List.mem_cons_self) hk1
              injection e with e1 e2 e3
              subst e1
              clear e2 e3
              have HTk := hid hT
              have r0 := R.r0
              have r1 := R.r1
              have r2 := R.r2
              have r3 := R.r3
              clear hM R hT HJ hjn
              have HE := hid hk2
              clear hk1 hk2
              go_wp2_with fail
              refine HTk.out.mono ?_
              rintro e w6 ⟨vo, rfl, v', w7, hr, hM2, ⟨po, co, no, rfl⟩, ⟨pr, cr, nr, rfl⟩⟩
              have HF : Hid (Mid w b b' c c' k2 k2 w7 [(.slice pr nr cr, saysF k2 c c'), (.slice pu nu cu, saysF k2 c' c)]) := by
                have h2 := hM2
                rw [← HE.out] at h2
                exact h2.sub (fun f hf => by
                  rcases List.mem_cons.1 hf with rfl | hf
                  · exact List.mem_cons_self
                  · rw [List.mem_singleton.1 hf]
                    exact List.mem_cons_of_mem _ List.mem_cons_self)
              unfold AppP at hr
              clear hM2 HTk
              go_wp2_with (at_builtin; refine Lib.wpList_append_run _ rfl _ _ _ _ rfl _ _ rfl rfl _ _ (hr _) ?_)
              exact ⟨⟨1, by have := HN.out; omega, by go_num, ⟨fun h => absurd h (by have := HN.out; omega), fun _ => HF.out⟩⟩, by have := HN.out; simp [intOf]; omega⟩
            · have hjz : ¬ (j : Int) < (n : Int) := by omega
              have HM := hid (HJ.out.2 (by omega))
              obtain ⟨px, cx, ex⟩ := HM.out.slice (pks := saysF k2 c c') List.mem_cons_self
              generalize (saysF k2 c c').length = nx at ex
              subst ex
              have hwi : IntKind.i64.wrap ((i : Int) + 1) = (i : Int) + 1 := by rw [IntKind.wrap_i64]; omega
              clear HJ hjn hj HK HK0
              go_wp2_with fail
              exact ⟨⟨i + 1, by omega, by go_num, by rw [← HK2.out]; exact HM.out⟩, by simp [intOf]; omega⟩
    · have hltz : ¬ (i : Int) < 8 := by omega
      have HM : Hid (Mid w b b' c c' 2 2 wr []) := by
        have h := HI.out
        rw [show min i 2 = 2 by omega] at h
        exact h.sub (fun f hf => absurd hf List.not_mem_nil)
      clear HI
      go_wp2
      refine bodyPost_end (v := .tuple #[]) ?_ rfl ⟨rfl, HM.out⟩
      simp [results, Tryz.results21]
end Go.Proofs.YtklapjfljffahaaGreat

namespace Go.Proofs.YtklapjfljffahaaGreat
open Go.RowKit

theorem mineF_fine {n : Ng} (h : FineO n.mine) : FineO (mineF n) := by
  unfold mineF
  split
  · exact h
  · exact fineNil
theorem theirsF_fine {n : Ng} (h : FineO n.theirs) : FineO (theirsF n) := by
  unfold theirsF
  split
  · exact h
  · exact fineNil

section
variable {base b : Nat} {m : Lm} {l : Lp}
set_option maxRecDepth 100000 in
theorem lcpMine_any (w : World) (h : LcpIn w base b m l) : Calls Tryz.prog 23 #[.pointer (some ⟨b, 0, none⟩)] w fun e w' => ∃ u, e = .returned u ∧ OwnO w' w.heap.size u (mineF l.ng) ∧ Kept (fun _ => False) w w' := by
  have HN := hid (negotiation_any w h)
  have HM := hid (ngMine_any w h.neg)
  clear h
  go_enter Tryz.func23, Tryz.ntmps23
  go_wp2_with (first | (go_at_call 31; refine HN.out.mono ?_; rintro e w' ⟨rfl, hw⟩; rw [hw]; clear hw w'))
  refine HM.out.mono ?_
  rintro e w1 ⟨u, rfl, ho, hk⟩
  obtain ⟨p, c, rfl⟩ := slice_of ho
  have HO := hid ho
  have HK := hid hk
  clear ho hk
  go_wp2
  go_ret
  exact ⟨_, rfl, HO.out, HK.out⟩
set_option maxRecDepth 100000 in
theorem lcpTheirs_any (w : World) (h : LcpIn w base b m l) : Calls Tryz.prog 24 #[.pointer (some ⟨b, 0, none⟩)] w fun e w' => ∃ u, e = .returned u ∧ OwnO w' w.heap.size u (theirsF l.ng) ∧ Kept (fun _ => False) w w' := by
  have HN := hid (negotiation_any w h)
  have HM := hid (ngTheirs_any w h.neg)
  clear h
  go_enter Tryz.func24, Tryz.ntmps24
  go_wp2_with (first | (go_at_call 31; refine HN.out.mono ?_; rintro e w' ⟨rfl, hw⟩; rw [hw]; clear hw w'))
  refine HM.out.mono ?_
  rintro e w1 ⟨u, rfl, ho, hk⟩
  obtain ⟨p, c, rfl⟩ := slice_of ho
  have HO := hid ho
  have HK := hid hk
  clear ho hk
  go_wp2
  go_ret
  exact ⟨_, rfl, HO.out, HK.out⟩
set_option maxHeartbeats 1000000 in
set_option maxRecDepth 100000 in
theorem lcpAuth_any (w : World) (h : LcpIn w base b m l) : Calls Tryz.prog 10 #[.pointer (some ⟨b, 0, none⟩)] w fun e w' => e = .returned (.tuple #[.int .i64 (authOfF (mineF l.ng)), .int .i64 (authOfF (theirsF l.ng))]) ∧ Kept (fun _ => False) w w' := by
  have HM := hid (lcpMine_any w h)
  have HT := hid (fun (W : World) (k : Kept (fun _ => False) w W) => lcpTheirs_any W (h.kept0 k))
  have f1 := mineF_fine h.neg.good.mine
  have f2 := theirsF_fine h.neg.good.theirs
  have HA1 := hid (fun (W : World) (v : Value) (hv : OptsAt W v (mineF l.ng)) => authOf_any v (mineF l.ng) W hv.1 (by have := f1.1; omega) f1.2.2)
  have HA2 := hid (fun (W : World) (v : Value) (hv : OptsAt W v (theirsF l.ng)) => authOf_any v (theirsF l.ng) W hv.1 (by have := f2.1; omega) f2.2.2)
  clear h f1 f2
  generalize authOfF (mineF l.ng) = A1 at *
  generalize authOfF (theirsF l.ng) = A2 at *
  go_enter Tryz.func10, Tryz.ntmps10
  go_wp2_with fail
  refine HM.out.mono ?_
  rintro e w1 ⟨u1, rfl, ho1, hk1⟩
  have HA := hid (HA1.out w1 u1 ho1.at)
  obtain ⟨p1, c1, rfl⟩ := slice_of ho1
  have K1 := hid hk1
  clear ho1 hk1
  go_wp2_with fail
  refine HA.out.mono ?_
  rintro e w2 ⟨rfl, hk2⟩
  have K2 := hid (K1.out.trans hk2)
  clear hk2 HA
  go_wp2_with fail
  refine (HT.out _ K2.out).mono ?_
  rintro e w3 ⟨u3, rfl, ho3, hk3⟩
  have HA := hid (HA2.out w3 u3 ho3.at)
  obtain ⟨p3, c3, rfl⟩ := slice_of ho3
  have K3 := hid (K2.out.trans hk3)
  clear ho3 hk3
  go_wp2_with fail
  refine HA.out.mono ?_
  rintro e w4 ⟨rfl, hk4⟩
  have K4 := hid (K3.out.trans hk4)
  clear hk4
  go_wp2
  go_ret2
  exact ⟨rfl, K4.out⟩

def mruF (l : Lp) : Int := if (findOB (theirsF l.ng) 1).size = 2 then ((valueF (findOB (theirsF l.ng) 1).data.toList).1 : Int) else 1492
theorem findOB_size {o : List Tg} (k : Int) (h : FineO o) : (findOB o k).size ≤ maxLen := by
  unfold findOB findO maxLen
  cases hq : o.find? (fun t => t.type == k) with
  | none => exact Nat.zero_le _
  | some t =>
    have := h.2.2 t (List.mem_of_find?_eq_some hq)
    simp
    omega
set_option maxHeartbeats 1000000 in
set_option maxRecDepth 100000 in
theorem lcpMru_any (w : World) (h : LcpIn w base b m l) : Calls Tryz.prog 17 #[.pointer (some ⟨b, 0, none⟩)] w fun e w' => e = .returned (.int .i64 (mruF l)) ∧ Kept (fun _ => False) w w' := by
  have HT := hid (lcpTheirs_any w h)
  have f2 := theirsF_fine h.neg.good.theirs
  have HF := hid (fun (W : World) (v : Value) (hv : OptsAt W v (theirsF l.ng)) => findOpt_any v (theirsF l.ng) 1 W hv.1 (by have := f2.1; omega) f2.2.2)
  have HV := hid (fun W => value_any (findOB (theirsF l.ng) 1) (findOB_size 1 f2) W)
  unfold mruF
  clear h f2
  generalize findOB (theirsF l.ng) 1 = S at *
  generalize (findO (theirsF l.ng) 1).isSome = ok at *
  generalize (valueF S.data.toList).2 = ok2 at *
  generalize ((valueF S.data.toList).1 : Int) = N at *
  by_cases h2 : S.size = 2
  · rw [if_pos h2]
    have h2z : ((S.size : Int) != 2) = false := by simp; omega
    clear h2
    go_enter Tryz.func17, Tryz.ntmps17
    go_wp2_with fail
    refine HT.out.mono ?_
    rintro e w1 ⟨u1, rfl, ho1, hk1⟩
    have HF1 := hid (HF.out w1 u1 ho1.at)
    obtain ⟨p1, c1, rfl⟩ := slice_of ho1
    have K1 := hid hk1
    clear ho1 hk1
    go_wp2_with fail
    refine HF1.out.mono ?_
    rintro e w2 ⟨rfl, hk2⟩
    have K2 := hid (K1.out.trans hk2)
    clear hk2
    go_wp2_with (first | (go_at_call 29; refine (HV.out _).mono ?_; rintro e w' ⟨rfl, hw⟩; rw [hw]; clear hw w'))
    go_ret
    exact ⟨rfl, K2.out⟩
  · rw [if_neg h2]
    have h2z : ((S.size : Int) != 2) = true := by simp; omega
    clear h2
    go_enter Tryz.func17, Tryz.ntmps17
    go_wp2_with fail
    refine HT.out.mono ?_
    rintro e w1 ⟨u1, rfl, ho1, hk1⟩
    have HF1 := hid (HF.out w1 u1 ho1.at)
    obtain ⟨p1, c1, rfl⟩ := slice_of ho1
    have K1 := hid hk1
    clear ho1 hk1
    go_wp2_with fail
    refine HF1.out.mono ?_
    rintro e w2 ⟨rfl, hk2⟩
    have K2 := hid (K1.out.trans hk2)
    clear hk2
    go_wp2
    go_ret
    exact ⟨rfl, K2.out⟩
end
end Go.Proofs.YtklapjfljffahaaGreat

namespace Go.Proofs.YtklapjfljffahaaGreat
open Go.RowKit

set_option maxHeartbeats 2000000 in
set_option maxRecDepth 100000 in
theorem sameOptions_any (v u : Value) (l m : List Tg) (w : World) (hv : TagsAt w v l) (hu : TagsAt w u m) (hl : l.length ≤ 1000000) :
    Calls Tryz.prog 22 #[v, u] w fun e w' => e = .returned (.bool (sameF l m)) ∧ Kept (fun _ => False) w w' := by
  obtain ⟨p, cap, rfl⟩ := hv.slice
  obtain ⟨q, cbp, rfl⟩ := hu.slice
  by_cases hlen : l.length = m.length
  · have hne : ((l.length : Int) != (m.length : Int)) = false := by simp [hlen]
    have Hat : Hid (∀ (j : Nat) (x : Tg), l[j]? = some x → ∀ W, Kept (fun _ => False) w W → ∃ g o, p = some ⟨g, o, none⟩ ∧ l.length ≤ cap ∧ W.cell? ⟨g, o + j * 2, none⟩ = some (.int .i64 x.type) ∧ W.cell? ⟨g, o + j * 2 + 1, none⟩ = some (.string x.value)) :=
      fun j x hj W hW => (hv.kept0 hW).at hj
    have Hau : Hid (∀ (j : Nat) (x : Tg), m[j]? = some x → ∀ W, Kept (fun _ => False) w W → ∃ g o, q = some ⟨g, o, none⟩ ∧ m.length ≤ cbp ∧ W.cell? ⟨g, o + j * 2, none⟩ = some (.int .i64 x.type) ∧ W.cell? ⟨g, o + j * 2 + 1, none⟩ = some (.string x.value)) :=
      fun j x hj W hW => (hu.kept0 hW).at hj
    have HL := hid hlen
    clear hv hu hlen
    go_enter Tryz.func22, Tryz.ntmps22
    go_wp2
    go_loopw [5] (fun vi wr => ∃ j : Nat, j ≤ l.length ∧ vi = .int .i64 (j : Int) ∧ Hid (l.take j = m.take j ∧ Kept (fun _ => False) w wr)) (fun vi _ => l.length - (intOf vi).toNat)
    case atStart => exact ⟨0, Nat.zero_le _, rfl, rfl, Kept.refl _ _⟩
    case round =>
      obtain ⟨j, hj, rfl, HI⟩ := hrel
      by_cases hlt : j < l.length
      · have hltz : (j : Int) < (l.length : Int) := by omega
        have hltm : (j : Int) < (m.length : Int) := by have := HL.out; omega
        obtain ⟨x, hx⟩ : ∃ x, l[j]? = some x := ⟨l[j], by simp [hlt]⟩
        obtain ⟨y, hy⟩ : ∃ y, m[j]? = some y := ⟨m[j]'(by have := HL.out; omega), by simp⟩
        obtain ⟨g, o, rfl, hcap, c0, c1⟩ := Hat.out j x hx wr HI.out.2
        obtain ⟨g2, o2, rfl, hcbp, d0, d1⟩ := Hau.out j y hy wr HI.out.2
        have e0 : sameT x y = ((x.type == y.type) && (x.value.toList == y.value.toList)) := by unfold sameT; rw [bytes_same]
        cases hs : sameT x y with
        | false =>
          have HN := hid (sameF_at hx hy hs)
          rw [hs] at e0
          have hcase : (x.type == y.type) = false ∨ ((x.type == y.type) = true ∧ (x.value.toList == y.value.toList) = false) := by
            cases h1 : (x.type == y.type) with
            | false => exact Or.inl rfl
            | true =>
              rw [h1] at e0
              exact Or.inr ⟨rfl, by simpa using e0.symm⟩
          clear hx hy hs e0
          rcases hcase with e1 | ⟨e1, e2⟩
          · go_wp2
            go_quiet (fail)
            go_wp2
            go_ret
            exact ⟨by rw [HN.out]; rfl, HI.out.2.drewN _⟩
          · go_wp2
            go_quiet (fail)
            go_wp2
            go_ret
            exact ⟨by rw [HN.out]; rfl, HI.out.2.drewN _⟩
        | true =>
          have HN : Hid (l.take (j + 1) = m.take (j + 1)) := by
            show _ = _
            rw [take_next hx, take_next hy, HI.out.1, sameT_iff.1 hs]
          rw [hs] at e0
          obtain ⟨e1, e2⟩ : (x.type == y.type) = true ∧ (x.value.toList == y.value.toList) = true := by simpa using e0.symm
          clear hx hy hs e0
          go_wp2
          go_quiet (fail)
          go_wp2
          exact ⟨⟨j + 1, hlt, by go_num, HN.out, HI.out.2.drewN _⟩, by simp [intOf]; omega⟩
      · obtain rfl : j = l.length := by omega
        obtain ⟨hF, hk⟩ := HI.out
        have hFm : l = m := by rw [List.take_length, HL.out, List.take_length] at hF; exact hF
        have HN := hid (sameF_iff.2 hFm)
        clear hF HI hlt hFm
        go_wp2
        go_ret
        exact ⟨by rw [HN.out]; rfl, hk⟩
  · have hne : ((l.length : Int) != (m.length : Int)) = true := by
      rw [bne_iff_ne]
      omega
    have HN := hid (sameF_len hlen)
    clear hv hu hlen
    go_enter Tryz.func22, Tryz.ntmps22
    go_wp2
    go_ret
    exact ⟨by rw [HN.out]; rfl, Kept.refl _ _⟩
end Go.Proofs.YtklapjfljffahaaGreat

namespace Go.Proofs.YtklapjfljffahaaGreat
open Go.RowKit

theorem below_kept {w w' : World} (h : Kept (fun _ => False) w w') : Below w.heap.size w w' := h.below (Nat.le_refl _) (fun _ f => f.elim)
set_option maxHeartbeats 4000000 in
set_option maxRecDepth 100000 in
theorem lcpNew_bad (c : Cf) (gc : ¬ GoodC c) (q : Option Addr) (w : World) : Calls Tryz.prog 19 #[cfV c, .pointer q] w fun e w' => e = .returned (.tuple #[.pointer none, .int .i64 1]) ∧ Kept (fun _ => False) w w' := by
  have hk0 := (Kept.refl (fun _ => False) w).alloc (.cells #[.int .i64 c.mru, .int .i64 c.auth, .int .i64 c.magic, .int .i64 c.echo, .int .i64 c.cf, .int .i64 c.tm, .int .i64 c.fails, .int .i64 c.wait] 43)
  have HC := hid (CfgAt.new w c)
  have HG := hid (fun W => isGood_no c gc W)
  unfold cfV at *
  generalize hA : w.alloc (.cells #[.int .i64 c.mru, .int .i64 c.auth, .int .i64 c.magic, .int .i64 c.echo, .int .i64 c.cf, .int .i64 c.tm, .int .i64 c.fails, .int .i64 c.wait] 43) = A at *
  have HA := hid hA
  have HK0 := hid hk0
  clear hA hk0 gc
  have x0 := HC.out 0 _ rfl
  have x1 := HC.out 1 _ rfl
  have x2 := HC.out 2 _ rfl
  have x3 := HC.out 3 _ rfl
  have x4 := HC.out 4 _ rfl
  have x5 := HC.out 5 _ rfl
  have x6 := HC.out 6 _ rfl
  have x7 := HC.out 7 _ rfl
  go_enter Tryz.func19, Tryz.ntmps19
  go_upto_region 1 with fail
  rw [HA.out]
  go_wp2_with fail
  refine (HG.out _).mono ?_
  rintro e w1 ⟨rfl, hk1⟩
  have HK1 := hid (HK0.out.trans hk1)
  clear hk1 x0 x1 x2 x3 x4 x5 x6 x7
  go_wp2
  go_ret2
  exact ⟨rfl, HK1.out⟩

section
variable {W W' : World} {base base' b b' : Nat} {m m' : Lm} {l l' : Lp}
theorem LcpIn.rebase (h : LcpIn W base b m l) (hb : base' ≤ base) : LcpIn W base' b m l :=
  have n := h.neg
  ⟨h.cells, ⟨n.cells, n.auto, n.req.mono hb, n.own, n.peer, n.mine.mono hb, n.theirs.mono hb, n.far1, n.far2, by have := n.lo; omega, by have := n.lo2; omega, n.good⟩, h.tape, h.onT, h.far,
    fun i hi => ⟨(h.farOn i hi).1, (h.farOn i hi).2.1, (h.farOn i hi).2.2.1, by have := (h.farOn i hi).2.2.2.1; omega, (h.farOn i hi).2.2.2.2⟩, h.ne, by have := h.lo; omega, by have := h.lo2; omega, h.good⟩
theorem LcpIn.blk_lo (h : LcpIn W base b m l) : ∀ i, Blk b m i → base ≤ i := by
  rintro i (hi | hi | hi | hi)
  · exact h.sl_lo i hi
  · exact h.neg.mine.baseB hi
  · exact h.neg.theirs.baseB hi
  · exact (h.farOn i hi).2.2.2.1
/-- A second link, made later. -/
theorem links_of {w : World} (h : LcpIn W w.heap.size b m l) (h' : LcpIn W' W.heap.size b' m' l') (k0 : Kept (fun _ => False) w W) (k : Kept (fun _ => False) W W') : Pair w W' b b' m m' l l' :=
  ⟨h.kept0 k, h'.rebase k0.size, fun i h1 h2 => by
    have := h.blk_lt i h1
    have := h'.blk_lo i h2
    omega, k0.trans k⟩
end

theorem open_up (n : Ng) (h : n.au.st = 0) : (doN n 2).2 = [] ∧ (doN (doN n 2).1 0).2 = [⟨1, nextId n.id, n.req, ⟨#[]⟩⟩] ∧ (doN (doN n 2).1 0).1.au.st = 6 ∧ (doN (doN n 2).1 0).1.begun = true ∧ (doN (doN n 2).1 0).1.last = nextId n.id ∧ (doN (doN n 2).1 0).1.req = n.req := by
  obtain ⟨⟨cf, tm, st, ct⟩, req, own, peer, fails, wait, id, last, begun, naks, ticks, mine, theirs, ups, downs⟩ := n
  have h : st = 0 := h
  subst h
  exact ⟨by kernel_rfl, by kernel_rfl, by kernel_rfl, by kernel_rfl, by kernel_rfl, by kernel_rfl⟩
theorem start0 (c : Cf) (d : List Int) : (doL (newL c d 0) 2).2 = [] := (open_up (newL c d 0).ng rfl).1
theorem start1 (c a : Cf) (d : List Int) : (doL (doL (newL c d 0) 2).1 0).2 = saysF 0 c a := (open_up (newL c d 0).ng rfl).2.1
theorem start2 (c a : Cf) (d : List Int) : Ah 0 (doL (doL (newL c d 0) 2).1 0).1 c a := by
  obtain ⟨_, _, s2, s3, s4, s5⟩ := open_up (newL c d 0).ng rfl
  exact Or.inl ⟨rfl, ⟨s2, s3, s4, s5, rfl, rfl⟩, rfl⟩

theorem Ah.two {l : Lp} {c a : Cf} (h : Ah 2 l c a) : M2 l c (askF a) := by
  rcases h with ⟨h, _⟩ | ⟨h, _⟩ | ⟨_, h⟩
  · cases h
  · cases h
  · exact h
theorem M2.mineF {l : Lp} {c a : Cf} (h : M2 l c (askF a)) : mineF l.ng = askF c := by
  unfold Go.Proofs.YtklapjfljffahaaGreat.mineF
  rw [if_pos h.st, h.mine]
theorem M2.theirsF {l : Lp} {c a : Cf} (h : M2 l c (askF a)) : theirsF l.ng = askF a := by
  unfold Go.Proofs.YtklapjfljffahaaGreat.theirsF
  rw [if_pos h.st, h.theirs]
theorem mru_ask {l : Lp} {a : Cf} (ha : GoodC a) (h : theirsF l.ng = askF a) : mruF l = a.mru := by
  unfold mruF findOB
  rw [h, find1]
  by_cases h1 : a.mru = 1492
  · simp [h1]
    intro h
    exact absurd h (by decide)
  · have e : (a.mru != 1492) = true := by simpa using h1
    rw [if_pos e]
    simp only [Option.getD_some]
    rw [if_pos (numF_size a.mru 2), num2 (by have := ha.mru1; omega) (by have := ha.mru2; omega)]

section
variable {A W : World} {b b' : Nat} {c c' : Cf}
theorem Mid.still {k k' : Nat} {W' : World} (h : Mid A b b' c c' k k' W []) (hk : Kept (fun _ => False) W W') : Mid A b b' c c' k k' W' [] := by
  obtain ⟨m, m', l, l', T, A, A', F⟩ := h
  exact ⟨m, m', l, l', T.still hk, A, A', fun f hf => absurd hf List.not_mem_nil⟩
theorem Mid.state (h : Mid A b b' c c' 2 2 W []) : Calls Tryz.prog 15 #[.pointer (some ⟨b, 0, none⟩)] W fun e w' => e = .returned (.int .i64 9) ∧ Kept (fun _ => False) W w' := by
  obtain ⟨m, m', l, l', T, A, A', F⟩ := h
  exact (lcpState_any W T.x).mono fun _ _ ⟨h1, h2⟩ => ⟨by rw [h1, A.two.st], by rw [h2]; exact Kept.refl _ _⟩
theorem Mid.auth (h : Mid A b b' c c' 2 2 W []) (hc : GoodC c) (hc' : GoodC c') : Calls Tryz.prog 10 #[.pointer (some ⟨b, 0, none⟩)] W fun e w' => e = .returned (.tuple #[.int .i64 c.auth, .int .i64 c'.auth]) ∧ Kept (fun _ => False) W w' := by
  obtain ⟨m, m', l, l', T, A, A', F⟩ := h
  exact (lcpAuth_any W T.x).mono fun _ _ ⟨h1, h2⟩ => ⟨by rw [h1, A.two.mineF, A.two.theirsF, auth_of_ask c hc, auth_of_ask c' hc'], h2⟩
theorem Mid.mru (h : Mid A b b' c c' 2 2 W []) (hc' : GoodC c') : Calls Tryz.prog 17 #[.pointer (some ⟨b, 0, none⟩)] W fun e w' => e = .returned (.int .i64 c'.mru) ∧ Kept (fun _ => False) W w' := by
  obtain ⟨m, m', l, l', T, A, A', F⟩ := h
  exact (lcpMru_any W T.x).mono fun _ _ ⟨h1, h2⟩ => ⟨by rw [h1, mru_ask hc' A.two.theirsF], h2⟩
theorem Mid.mine (h : Mid A b b' c c' 2 2 W []) : Calls Tryz.prog 23 #[.pointer (some ⟨b, 0, none⟩)] W fun e w' => ∃ p n cap, e = .returned (.slice p n cap) ∧ OwnO w' W.heap.size (.slice p n cap) (askF c) ∧ Kept (fun _ => False) W w' := by
  obtain ⟨m, m', l, l', T, A, A', F⟩ := h
  refine (lcpMine_any W T.x).mono ?_
  rintro e w' ⟨u, rfl, ho, hk⟩
  rw [A.two.mineF] at ho
  obtain ⟨p, cap, rfl⟩ := slice_of ho
  exact ⟨p, _, cap, rfl, ho, hk⟩
theorem Mid.theirs (h : Mid A b b' c c' 2 2 W []) : Calls Tryz.prog 24 #[.pointer (some ⟨b, 0, none⟩)] W fun e w' => ∃ p n cap, e = .returned (.slice p n cap) ∧ OwnO w' W.heap.size (.slice p n cap) (askF c') ∧ Kept (fun _ => False) W w' := by
  obtain ⟨m, m', l, l', T, A, A', F⟩ := h
  refine (lcpTheirs_any W T.x).mono ?_
  rintro e w' ⟨u, rfl, ho, hk⟩
  rw [A.two.theirsF] at ho
  obtain ⟨p, cap, rfl⟩ := slice_of ho
  exact ⟨p, _, cap, rfl, ho, hk⟩
theorem same_ask {W : World} {g g' : Nat} (v u : Value) (o : List Tg) (hf : o.length ≤ 1000000) (hv : OwnO W g v o) (hu : OwnO W g' u o) : Calls Tryz.prog 22 #[v, u] W fun e w' => e = .returned (.bool true) ∧ Kept (fun _ => False) W w' :=
  (sameOptions_any v u o o W hv.tags hu.tags hf).mono fun _ _ ⟨h1, h2⟩ => ⟨by rw [h1, sameF_iff.2 rfl], h2⟩
end
end Go.Proofs.YtklapjfljffahaaGreat

namespace Go.Proofs.YtklapjfljffahaaGreat
open Go.ChangeShapes Go.WideShapes Go.ChangeAt Go.RowKit Go.Joins

/-- A list of ints in memory, as an argument of the type []int. -/
def IntsAt (W : World) (v : Value) (l : List Int) : Prop :=
  (v = .slice none 0 0 ∧ l = []) ∨ ∃ ad cap, v = .slice (some ad) l.length cap ∧ l.length ≤ cap ∧ cap ≤ maxLen ∧ ∀ j u, (intCells l)[j]? = some u → W.cell? (ad.add j) = some u

/-- How such a list is read. -/
theorem IntsAt.form {W : World} {v : Value} {l : List Int} (h : IntsAt W v l) : ∃ p cap, v = .slice p l.length cap ∧ ∀ (j : Nat) (x : Int), l[j]? = some x → ∃ g o, p = some ⟨g, o, none⟩ ∧ l.length ≤ cap ∧ W.cell? ⟨g, o + j, none⟩ = some (.int .i64 x) := by
  rcases h with ⟨rfl, rfl⟩ | ⟨ad, cap, rfl, h1, _, hc⟩
  · exact ⟨none, 0, rfl, fun j x hj => by simp at hj⟩
  · refine ⟨some ad, cap, rfl, fun j x hj => ?_⟩
    have h0 := hc j (.int .i64 x) (by unfold intCells; rw [List.getElem?_map, hj]; rfl)
    have hlt := (List.getElem?_eq_some_iff.1 hj).1
    have h00 := hc 0 (.int .i64 (l[0]'(by omega))) (by unfold intCells; rw [List.getElem?_map, List.getElem?_eq_getElem (by omega)]; rfl)
    obtain ⟨g, o, sp⟩ := ad
    have hsp : sp = none := by
      unfold Addr.add at h00
      cases sp with
      | none => rfl
      | some q =>
        exfalso
        unfold World.cell? at h00
        split at h00 <;> simp at h00
    subst hsp
    have ha : (⟨g, o, none⟩ : Addr).add j = ⟨g, o + j, none⟩ := by
      unfold Addr.add
      split <;> simp_all
    rw [ha] at h0
    exact ⟨g, o, rfl, h1, h0⟩
theorem IntsAt.kept {W W' : World} {v : Value} {l : List Int} (h : IntsAt W v l) (hk : Kept (fun _ => False) W W') : IntsAt W' v l := by
  rcases h with h | ⟨ad, cap, rfl, h1, h2, hc⟩
  · exact Or.inl h
  · refine Or.inr ⟨ad, cap, rfl, h1, h2, fun j u hj => ?_⟩
    have := hc j u hj
    rw [hk.cell (lt_of_cell this) id]
    exact this

section
variable {H : Type} {enc : TypeId × Value → H} {w : World} {base : Nat} {spare : Nat → Bool} {held : Bool}

set_option maxRecDepth 100000 in
theorem in64_of_wf {x : Int} (h : (Lit.int .i64 x).wf = true) : In64 x := by
  have := bounds_i64 h
  exact this
set_option maxRecDepth 100000 in
theorem open_ints {r : Reach} {b0 : Nat} {v : Value} {d : DataW H} {p : List MemPlace} (hv : Value.okWide Tryz.prog w r b0 44 v) (h : DataW.Trod enc Tryz.prog w base spare held 44 v d p) : ∃ l : List Int, IntsAt w v l ∧ ∀ x ∈ l, In64 x := by
  obtain ⟨a, len, cap, rfl⟩ := okWide_slice Tryz.underlying44 hv
  obtain ⟨fuel, hf⟩ := h
  have hf' : DataW.trod enc Tryz.prog w base spare held fuel 44 [.slice a len cap] = some (d, p) := by simpa [Value.cells] using hf
  rcases ChangeShapes.open_ints Tryz.underlying44 Tryz.underlying3 cellsIntA hf' with ⟨hcs, _⟩ | ⟨a', len', cap', zs, hcs, hb, hl, hm, hz, hx, hcell, hwf⟩
  · simp at hcs
    obtain ⟨rfl, rfl, rfl⟩ := hcs
    exact ⟨[], Or.inl ⟨rfl, rfl⟩, by simp⟩
  · simp at hcs
    obtain ⟨rfl, rfl, rfl⟩ := hcs
    have hle : len ≤ zs.length := by rw [hz]; split <;> omega
    have hll : (zs.take len).length = len := by simp; omega
    refine ⟨zs.take len, Or.inr ⟨a', cap, by rw [hll], by omega, hm, fun j u hj => ?_⟩, fun x hx => in64_of_wf (hwf x (List.mem_of_mem_take hx))⟩
    · have hjl : j < len := by
        have := (List.getElem?_eq_some_iff.1 hj).1
        simp [intCells] at this
        omega
      have hg : zs[j]? = some (zs.getD j 0) := by
        rw [List.getD_eq_getElem?_getD, List.getElem?_eq_getElem (by omega)]
        rfl
      rw [hcell j (by omega)]
      unfold intCells at hj
      rw [List.getElem?_map, List.getElem?_take_of_lt hjl, hg] at hj
      exact hj
end
end Go.Proofs.YtklapjfljffahaaGreat

namespace Go.Proofs.YtklapjfljffahaaGreat
open Go.ChangeShapes Go.WideShapes Go.ChangeAt Go.RowKit Go.Joins

theorem cellsCfg : Tryz.prog.cellsOf 43 = 8 := by kernel_rfl

section
variable {H : Type} {enc : TypeId × Value → H} {w : World} {base : Nat} {spare : Nat → Bool} {held : Bool}
set_option maxRecDepth 100000 in
theorem cfg_cells {n : Nat} {cs : List Value} {y : DataW H × List MemPlace} (hlen : cs.length = 8) (ht : DataW.trod enc Tryz.prog w base spare held n 43 cs = some y) : ∃ c : Cf, cs = cfList c := by
  obtain ⟨xs, k, hk, hxy, _, hxl, hf⟩ := DataW.trod_struct Tryz.underlying43 ht
  match xs, hxl, cs, hlen with
  | [y0, y1, y2, y3, y4, y5, y6, y7], _, [v0, v1, v2, v3, v4, v5, v6, v7], _ =>
    have g0 := hf 0 _ rfl
    have g1 := hf 1 _ rfl
    have g2 := hf 2 _ rfl
    have g3 := hf 3 _ rfl
    have g4 := hf 4 _ rfl
    have g5 := hf 5 _ rfl
    have g6 := hf 6 _ rfl
    have g7 := hf 7 _ rfl
    simp [cellsIntA] at g0 g1 g2 g3 g4 g5 g6 g7
    obtain ⟨i0, e0, _, _⟩ := DataW.trod_int Tryz.underlying3 g0
    obtain ⟨i1, e1, _, _⟩ := DataW.trod_int Tryz.underlying3 g1
    obtain ⟨i2, e2, _, _⟩ := DataW.trod_int Tryz.underlying3 g2
    obtain ⟨i3, e3, _, _⟩ := DataW.trod_int Tryz.underlying3 g3
    obtain ⟨i4, e4, _, _⟩ := DataW.trod_int Tryz.underlying3 g4
    obtain ⟨i5, e5, _, _⟩ := DataW.trod_int Tryz.underlying3 g5
    obtain ⟨i6, e6, _, _⟩ := DataW.trod_int Tryz.underlying3 g6
    obtain ⟨i7, e7, _, _⟩ := DataW.trod_int Tryz.underlying3 g7
    simp at e0 e1 e2 e3 e4 e5 e6 e7
    subst e0 e1 e2 e3 e4 e5 e6 e7
    exact ⟨⟨i0, i1, i2, i3, i4, i5, i6, i7⟩, rfl⟩
set_option maxRecDepth 100000 in
theorem open_cfg {r : Reach} {b0 : Nat} {v : Value} {d : DataW H} {p : List MemPlace} (hv : Value.okWide Tryz.prog w r b0 43 v) (h : DataW.Trod enc Tryz.prog w base spare held 43 v d p) : ∃ c : Cf, v = cfV c := by
  obtain ⟨cs, rfl, hsz⟩ := okWide_struct Tryz.underlying43 hv
  obtain ⟨fuel, hf⟩ := h
  have hf' : DataW.trod enc Tryz.prog w base spare held fuel 43 cs.toList = some (d, p) := by simpa [Value.cells] using hf
  obtain ⟨c, e⟩ := cfg_cells (by rw [Array.length_toList, hsz, cellsCfg]) hf'
  refine ⟨c, ?_⟩
  unfold cfV
  congr 1
  exact Array.toList_inj.1 (by rw [e]; rfl)
end
end Go.Proofs.YtklapjfljffahaaGreat
