/- The contract of neg.New, where nothing is wrong. -/
import Derived.Test.YtcmdfcdmfdheeaaNgNew
import Derived.Deep.RegionHeld3
namespace Go.Proofs.Ytcmdfcdmfdheeaa
open Go.RowKit

def newN (ask : List Tg) (own peer : List Rl) (cf tm fails wait : Int) : Ng := ⟨newA cf tm, ask, own, peer, fails, wait, 0, 0, false, 0, 0, [], [], 0, 0⟩
def setupV (va vo vp vu : Value) (cf tm fails wait : Int) : Value := .agg #[va, vo, vp, vu, .int .i64 cf, .int .i64 tm, .int .i64 fails, .int .i64 wait]

theorem eqIntsNil (w : World) : (binOp .eql 61 (.slice none 0 0) (.slice none 0 0)).run Try.prog w = .ok (.bool true) w := by kernel_rfl
theorem eqIntsSome (ad : Addr) (n c : Nat) (w : World) : (binOp .eql 61 (.slice (some ad) n c) (.slice none 0 0)).run Try.prog w = .ok (.bool false) w := by kernel_rfl
set_option maxHeartbeats 1000000 in
set_option maxRecDepth 100000 in
theorem cloneI_any (base : Nat) (v : Value) (l : List Int) (w : World) (h : OwnI w base v l) (hl : l.length ≤ 1000000) : Calls Try.prog 45 #[v] w fun e w' => ∃ u, e = .returned u ∧ OwnI w' w.heap.size u l ∧ Kept (fun _ => False) w w' := by
  rcases h.2 with ⟨rfl, h0⟩ | ⟨g, cap, cur, rfl, hb⟩
  · have hE := eqIntsNil
    have hl0 : l.length = 0 := by have := h.1; omega
    obtain rfl := List.length_eq_zero_iff.1 hl0
    go_enter Try.func45, Try.ntmps45
    go_wp2
    go_ret
    exact ⟨_, rfl, OwnI.nil _ _, Kept.refl _ _⟩
  · have hE := eqIntsSome ⟨g, 0, none⟩ l.length cap
    have hk0 := (Kept.refl (fun _ => False) w).alloc (.cells #[] 3)
    have ho : OwnI (w.alloc (.cells #[] 3)) w.heap.size (.slice (some ⟨w.heap.size, 0, none⟩) 0 0) [] :=
      ⟨rfl, Or.inr ⟨w.heap.size, 0, #[], rfl, Nat.le_refl _, heap_alloc_new w _, Nat.le_refl _, Nat.zero_le _, rfl, rfl⟩⟩
    obtain ⟨v', w', hr, ho', hk', _⟩ := append_ints (by simp) ho (h.kept0 hk0) (by simp; omega)
    have HO := hid ho'
    have HK : Hid (Kept (fun _ => False) w w') := hk0.andThen hk' (fun i hi e => by
      have : w.heap.size = i := by simpa [Value.ownBlock] using e
      omega)
    unfold AppI at hr
    clear ho hk0 h ho' hk' hb
    go_enter Try.func45, Try.ntmps45
    go_wp2_with (at_builtin; refine Lib.wpList_append_run _ rfl _ _ _ _ rfl _ _ rfl rfl _ _ (hr _) ?_)
    go_ret
    exact ⟨_, rfl, HO.out, HK.out⟩

/-- The cells of a setup's box, in every world that has come of A. -/
structure SetK (w A : World) (va vo vp vu : Value) (cf tm fails wait : Int) (W : World) : Prop where
  s0 : W.cell? ⟨w.heap.size, 0, none⟩ = some va
  s1 : W.cell? ⟨w.heap.size, 1, none⟩ = some vo
  s2 : W.cell? ⟨w.heap.size, 2, none⟩ = some vp
  s3 : W.cell? ⟨w.heap.size, 3, none⟩ = some vu
  s4 : W.cell? ⟨w.heap.size, 4, none⟩ = some (.int .i64 cf)
  s5 : W.cell? ⟨w.heap.size, 5, none⟩ = some (.int .i64 tm)
  s6 : W.cell? ⟨w.heap.size, 6, none⟩ = some (.int .i64 fails)
  s7 : W.cell? ⟨w.heap.size, 7, none⟩ = some (.int .i64 wait)
  k : Kept (fun _ => False) A W
theorem SetK.kept {w A W W' : World} {va vo vp vu : Value} {cf tm fails wait : Int} (h : SetK w A va vo vp vu cf tm fails wait W) (hk : Kept (fun _ => False) W W') : SetK w A va vo vp vu cf tm fails wait W' := by
  have hlt : w.heap.size < W.heap.size := lt_of_cell h.s0
  have e : ∀ j, W'.cell? ⟨w.heap.size, j, none⟩ = W.cell? ⟨w.heap.size, j, none⟩ := fun j => hk.cell (p := ⟨w.heap.size, j, none⟩) hlt id
  exact ⟨(e 0).trans h.s0, (e 1).trans h.s1, (e 2).trans h.s2, (e 3).trans h.s3, (e 4).trans h.s4, (e 5).trans h.s5, (e 6).trans h.s6, (e 7).trans h.s7, h.k.trans hk⟩

/-- What a New makes, put together. -/
theorem new_in {w A w1 w2 w3 w4 : World} {am m1 m2 : Nat} {vr vu : Value} {ask : List Tg} {own peer : List Rl} {cf tm fails wait : Int}
    (hA : Kept (fun _ => False) w A) (ham : w.heap.size ≤ am) (ha : AutoIn A am (newA cf tm)) (hcf : 1 ≤ cf ∧ cf ≤ 20) (htm : 1 ≤ tm ∧ tm ≤ 20) (hf : 0 ≤ fails ∧ fails ≤ 20) (hw : 1 ≤ wait ∧ wait ≤ 100) (hask : FineO ask)
    (k1 : Kept (fun _ => False) A w1) (ho : OwnO w1 A.heap.size vr ask) (k2 : Kept (fun _ => False) w1 w2) (b1 : BookIs w2 (.map (some m1)) own) (k3 : Kept (fun _ => False) w2 w3) (b2 : BookIs w3 (.map (some m2)) peer) (k4 : Kept (fun _ => False) w3 w4) :
    NegIn (w4.alloc (.cells (ngCells ⟨am, vr, .map (some m1), .map (some m2), .slice none 0 0, .slice none 0 0, vu⟩ (newN ask own peer cf tm fails wait)) 73)) w.heap.size w4.heap.size ⟨am, vr, .map (some m1), .map (some m2), .slice none 0 0, .slice none 0 0, vu⟩ (newN ask own peer cf tm fails wait) := by
  have k14 := (k2.trans k3).trans k4
  have ka := ((Kept.refl (fun _ => False) w4).alloc (.cells (ngCells ⟨am, vr, .map (some m1), .map (some m2), .slice none 0 0, .slice none 0 0, vu⟩ (newN ask own peer cf tm fails wait)) 73))
  have hs := hA.size
  have hs1 := (k1.trans k14).size
  refine ⟨heap_alloc_new w4 _, ha.kept0 ((k1.trans k14).trans ka), ((ho.kept k14).kept ka).mono hs, b1.kept0 ((k3.trans k4).trans ka), b2.kept0 (k4.trans ka), OwnO.nil _ _, OwnO.nil _ _, fun i _ => by simp [Value.ownBlock], fun i _ => by simp [Value.ownBlock], by omega, ham, ?_⟩
  exact ⟨GoodA.new hcf htm, hf, hw, ⟨by simp [newN], by simp [newN]⟩, ⟨by simp [newN], by simp [newN]⟩, ⟨by simp [newN], by simp [newN]⟩, ⟨by simp [newN], by simp [newN]⟩, ⟨by simp [newN], by simp [newN]⟩, hask, fineNil, fineNil⟩

set_option maxHeartbeats 4000000 in
set_option maxRecDepth 100000 in
theorem ngNew_must (va vo vp vu : Value) (must : List Int) (base : Nat) (ask : List Tg) (own peer : List Rl) (cf tm fails wait : Int) (w : World) (ha : OptsAt w va ask) (ho : RulesAt w vo own) (hp : RulesAt w vp peer) (hu : OwnI w base vu must) (hml : must.length ≤ 1000) (hcf : 1 ≤ cf ∧ cf ≤ 20) (htm : 1 ≤ tm ∧ tm ≤ 20) (hf : 0 ≤ fails ∧ fails ≤ 20) (hw : 1 ≤ wait ∧ wait ≤ 100)
    (hask : FineO ask) (hput : (putOptsF ask).2 = 0) (hal : Alone ask) (hgo : GoodR own) (hgp : GoodR peer) :
    Calls Try.prog 25 #[setupV va vo vp vu cf tm fails wait] w fun e w' => ∃ b, e = .returned (.tuple #[.pointer (some ⟨b, 0, none⟩), .int .i64 0]) ∧ ∃ a, NegIn w' w.heap.size b a (newN ask own peer cf tm fails wait) ∧ OwnI w' w.heap.size a.vu must ∧ Kept (fun _ => False) w w' := by
  unfold setupV
  have hk0 := (Kept.refl (fun _ => False) w).alloc (.cells #[va, vo, vp, vu, .int .i64 cf, .int .i64 tm, .int .i64 fails, .int .i64 wait] 63)
  have c := cells8_new w 63 va vo vp vu (.int .i64 cf) (.int .i64 tm) (.int .i64 fails) (.int .i64 wait)
  have HS : Hid (SetK w (w.alloc (.cells #[va, vo, vp, vu, .int .i64 cf, .int .i64 tm, .int .i64 fails, .int .i64 wait] 63)) va vo vp vu cf tm fails wait (w.alloc (.cells #[va, vo, vp, vu, .int .i64 cf, .int .i64 tm, .int .i64 fails, .int .i64 wait] 63))) :=
    ⟨c 0 _ rfl, c 1 _ rfl, c 2 _ rfl, c 3 _ rfl, c 4 _ rfl, c 5 _ rfl, c 6 _ rfl, c 7 _ rfl, Kept.refl _ _⟩
  obtain ⟨pa, ca, hva⟩ := ha.1.slice
  obtain ⟨po, co, hvo⟩ := ho.slice
  obtain ⟨pp, cp, hvp⟩ := hp.slice
  obtain ⟨pm, cm, hvu⟩ := hu.slice
  have HCi := hid (fun (W : World) (k : Kept (fun _ => False) w W) => cloneI_any base vu must W (hu.kept0 k) (by omega))
  have HAu := hid (new_any cf tm hcf htm)
  have HPut := hid (fun (W : World) (k : Kept (fun _ => False) w W) => putOpts_any va ask W (ha.1.kept0 k) hask.2.2)
  rw [hput] at HPut
  generalize (⟨(putOptsF ask).1.toArray⟩ : ByteArray) = PB at HPut
  have HTw := hid (fun (W : World) (k : Kept (fun _ => False) w W) => hasTwins_no va ask W (ha.1.kept0 k) hask.1 hask.2.2 hal)
  have HGo := hid (fun (W : World) (k : Kept (fun _ => False) w W) => areGood_yes vo own W (ho.kept0 k) hgo)
  have HGp := hid (fun (W : World) (k : Kept (fun _ => False) w W) => areGood_yes vp peer W (hp.kept0 k) hgp)
  have HCl := hid (fun (W : World) (k : Kept (fun _ => False) w W) => cloneO_any va ask W (ha.kept0 k) (by have := hask.1; omega))
  have HBo := hid (fun (W : World) (k : Kept (fun _ => False) w W) => byType_any vo own W (ho.kept0 k) (by have := hgo.1; omega) (fun r hr => (hgo.2 r hr).1))
  have HBp := hid (fun (W : World) (k : Kept (fun _ => False) w W) => byType_any vp peer W (hp.kept0 k) (by have := hgp.1; omega) (fun r hr => (hgp.2 r hr).1))
  have HMk := hid (fun (A w1 w2 w3 w4 : World) (am m1 m2 : Nat) (vr vu : Value) (hA : Kept (fun _ => False) w A) (ham : w.heap.size ≤ am) (ha : AutoIn A am (newA cf tm)) (k1 : Kept (fun _ => False) A w1) (ho : OwnO w1 A.heap.size vr ask) (k2 : Kept (fun _ => False) w1 w2) (b1 : BookIs w2 (.map (some m1)) own) (k3 : Kept (fun _ => False) w2 w3) (b2 : BookIs w3 (.map (some m2)) peer) (k4 : Kept (fun _ => False) w3 w4) => new_in (vu := vu) (fails := fails) (wait := wait) hA ham ha hcf htm hf hw hask k1 ho k2 b1 k3 b2 k4)
  obtain ⟨hf1, hf2⟩ := hf
  obtain ⟨hw1, hw2⟩ := hw
  have z1 : ¬ fails < 0 := by omega
  have z2 : ¬ 20 < fails := by omega
  have z3 : ¬ wait < 1 := by omega
  have z4 : ¬ 100 < wait := by omega
  have HK0 := hid hk0
  subst hva hvo hvp hvu
  generalize hA : w.alloc (.cells #[.slice pa ask.length ca, .slice po own.length co, .slice pp peer.length cp, .slice pm must.length cm, .int .i64 cf, .int .i64 tm, .int .i64 fails, .int .i64 wait] 63) = A at *
  have HA := hid hA
  obtain ⟨s0, s1, s2, s3, s4, s5, s6, s7, _⟩ := HS.out
  clear ha ho hp hu hcf htm hask hput hal hgo hgp hA hk0 c hf1 hf2 hw1 hw2
  go_enter Try.func25, Try.ntmps25
  go_upto_region 1 with fail
  rw [HA.out]
  clear HA
  go_wp2_with fail
  refine (HAu.out _).mono ?_
  rintro e w1 ⟨rfl, hau, hk1⟩
  have HA1 := hid hau
  have HK1 := hid (HK0.out.trans hk1)
  have S1 := hid (HS.out.kept hk1)
  have hAs := hid HK0.out.size
  generalize A.heap.size = am at HA1 hAs ⊢
  clear hau hk1 HAu s0 s1 s2 s3 s4 s5 s6 s7
  obtain ⟨s0, s1, s2, s3, s4, s5, s6, s7, _⟩ := S1.out
  go_wp2_with fail
  refine (HPut.out _ HK1.out).mono ?_
  rintro e w2 ⟨rfl, hk2⟩
  have HK2 := hid (HK1.out.trans hk2)
  have HA2 := hid (HA1.out.kept0 hk2)
  have S2 := hid (S1.out.kept hk2)
  clear hk2 HK1 S1 HA1 s0 s1 s2 s3 s4 s5 s6 s7 HPut
  obtain ⟨s0, s1, s2, s3, s4, s5, s6, s7, _⟩ := S2.out
  go_wp2_with fail
  refine (HTw.out _ HK2.out).mono ?_
  rintro e w3 ⟨rfl, hk2⟩
  have HK3 := hid (HK2.out.trans hk2)
  have HA3 := hid (HA2.out.kept0 hk2)
  have S3 := hid (S2.out.kept hk2)
  clear hk2 HK2 S2 HA2 s0 s1 s2 s3 s4 s5 s6 s7 HTw
  obtain ⟨s0, s1, s2, s3, s4, s5, s6, s7, _⟩ := S3.out
  go_wp2_with fail
  refine (HGo.out _ HK3.out).mono ?_
  rintro e w4 ⟨rfl, hk2⟩
  have HK4 := hid (HK3.out.trans hk2)
  have HA4 := hid (HA3.out.kept0 hk2)
  have S4 := hid (S3.out.kept hk2)
  clear hk2 HK3 S3 HA3 s0 s1 s2 s3 s4 s5 s6 s7 HGo
  obtain ⟨s0, s1, s2, s3, s4, s5, s6, s7, _⟩ := S4.out
  go_wp2_with fail
  refine (HGp.out _ HK4.out).mono ?_
  rintro e w5 ⟨rfl, hk2⟩
  have HK5 := hid (HK4.out.trans hk2)
  have HA5 := hid (HA4.out.kept0 hk2)
  have S5 := hid (S4.out.kept hk2)
  clear hk2 HK4 S4 HA4 s0 s1 s2 s3 s4 s5 s6 s7 HGp
  have T5 : Hid (SetK w w5 (.slice pa ask.length ca) (.slice po own.length co) (.slice pp peer.length cp) (.slice pm must.length cm) cf tm fails wait w5.drew) := by
    obtain ⟨s0, s1, s2, s3, s4, s5, s6, s7, _⟩ := S5.out
    exact ⟨s0, s1, s2, s3, s4, s5, s6, s7, (Kept.refl _ _).drew⟩
  have h0 : ∀ W, SetK w w5 (.slice pa ask.length ca) (.slice po own.length co) (.slice pp peer.length cp) (.slice pm must.length cm) cf tm fails wait W → W.cell? ⟨w.heap.size, 0, none⟩ = some (.slice pa ask.length ca) := fun W h => h.s0
  have h1 : ∀ W, SetK w w5 (.slice pa ask.length ca) (.slice po own.length co) (.slice pp peer.length cp) (.slice pm must.length cm) cf tm fails wait W → W.cell? ⟨w.heap.size, 1, none⟩ = some (.slice po own.length co) := fun W h => h.s1
  have h2 : ∀ W, SetK w w5 (.slice pa ask.length ca) (.slice po own.length co) (.slice pp peer.length cp) (.slice pm must.length cm) cf tm fails wait W → W.cell? ⟨w.heap.size, 2, none⟩ = some (.slice pp peer.length cp) := fun W h => h.s2
  have h3 : ∀ W, SetK w w5 (.slice pa ask.length ca) (.slice po own.length co) (.slice pp peer.length cp) (.slice pm must.length cm) cf tm fails wait W → W.cell? ⟨w.heap.size, 3, none⟩ = some (.slice pm must.length cm) := fun W h => h.s3
  have h6 : ∀ W, SetK w w5 (.slice pa ask.length ca) (.slice po own.length co) (.slice pp peer.length cp) (.slice pm must.length cm) cf tm fails wait W → W.cell? ⟨w.heap.size, 6, none⟩ = some (.int .i64 fails) := fun W h => h.s6
  have h7 : ∀ W, SetK w w5 (.slice pa ask.length ca) (.slice po own.length co) (.slice pp peer.length cp) (.slice pm must.length cm) cf tm fails wait W → W.cell? ⟨w.heap.size, 7, none⟩ = some (.int .i64 wait) := fun W h => h.s7
  have HC2 := hid (fun (W : World) (h : SetK w w5 (.slice pa ask.length ca) (.slice po own.length co) (.slice pp peer.length cp) (.slice pm must.length cm) cf tm fails wait W) => HCl.out W (HK5.out.trans h.k))
  have HO2 := hid (fun (W : World) (h : SetK w w5 (.slice pa ask.length ca) (.slice po own.length co) (.slice pp peer.length cp) (.slice pm must.length cm) cf tm fails wait W) => HBo.out W (HK5.out.trans h.k))
  have HP2 := hid (fun (W : World) (h : SetK w w5 (.slice pa ask.length ca) (.slice po own.length co) (.slice pp peer.length cp) (.slice pm must.length cm) cf tm fails wait W) => HBp.out W (HK5.out.trans h.k))
  have HI2 := hid (fun (W : World) (h : SetK w w5 (.slice pa ask.length ca) (.slice po own.length co) (.slice pp peer.length cp) (.slice pm must.length cm) cf tm fails wait W) => HCi.out W (HK5.out.trans h.k))
  clear S5 HCl HBo HBp HCi
  go_wp2_with fail
  have hS0 : SetK w w5 (.slice pa ask.length ca) (.slice po own.length co) (.slice pp peer.length cp) (.slice pm must.length cm) cf tm fails wait w5.drew := T5.out
  go_region_held3 (SetK w w5 (.slice pa ask.length ca) (.slice po own.length co) (.slice pp peer.length cp) (.slice pm must.length cm) cf tm fails wait) (first | assumption | exact SetK.kept hS9 ((Kept.refl _ _).alloc _)) (first
    | (go_at_call 35; refine (HC2.out _ (by assumption)).mono ?_; rintro e w6 ⟨vr, rfl, ho6, hk6⟩; obtain ⟨pr, cr, rfl⟩ := slice_of ho6; have hS6 := SetK.kept hS0 hk6; have F6 := hid ho6; have K6 := hid hk6; clear ho6 hk6)
    | (go_at_call 44; have _t := F7.out; clear _t; refine (HP2.out _ (by assumption)).mono ?_; rintro e w8 ⟨m2, rfl, _, hb8, hk8⟩; have hS8 := SetK.kept hS7 hk8; have F8 := hid hb8; have K8 := hid hk8; clear hb8 hk8)
    | (go_at_call 44; refine (HO2.out _ (by assumption)).mono ?_; rintro e w7 ⟨m1, rfl, _, hb7, hk7⟩; have hS7 := SetK.kept hS6 hk7; have F7 := hid hb7; have K7 := hid hk7; clear hb7 hk7)
    | (go_at_call 45; refine (HI2.out _ (by assumption)).mono ?_; rintro e w9 ⟨vm9, rfl, ho9, hk9⟩; obtain ⟨p9, c9, rfl⟩ := ho9.slice; have F9 := hid ho9; have hS9 := SetK.kept hS8 hk9; have K9 := hid hk9; clear ho9 hk9))
  all_goals
    go_wp2
    go_ret2
    refine ⟨_, rfl, _, HMk.out w5 w6 w7 w8 w9 am m1 m2 _ _ HK5.out hAs.out HA5.out (((Kept.refl _ w5).drew).trans K6.out) (F6.out) K7.out F7.out K8.out F8.out K9.out, ?_, ?_⟩
    · exact (F9.out.kept0 ((Kept.refl _ _).alloc _)).mono (((HK5.out.trans ((((Kept.refl (fun _ => False) w5).drew).trans K6.out))).trans (K7.out.trans K8.out)).size)
    exact ((HK5.out.trans ((((Kept.refl (fun _ => False) w5).drew).trans K6.out))).trans ((K7.out.trans K8.out).trans K9.out)).alloc _
theorem ngNew_any (va vo vp vu : Value) (must : List Int) (base : Nat) (ask : List Tg) (own peer : List Rl) (cf tm fails wait : Int) (w : World) (ha : OptsAt w va ask) (ho : RulesAt w vo own) (hp : RulesAt w vp peer) (hu : OwnI w base vu must) (hml : must.length ≤ 1000) (hcf : 1 ≤ cf ∧ cf ≤ 20) (htm : 1 ≤ tm ∧ tm ≤ 20) (hf : 0 ≤ fails ∧ fails ≤ 20) (hw : 1 ≤ wait ∧ wait ≤ 100)
    (hask : FineO ask) (hput : (putOptsF ask).2 = 0) (hal : Alone ask) (hgo : GoodR own) (hgp : GoodR peer) :
    Calls Try.prog 25 #[setupV va vo vp vu cf tm fails wait] w fun e w' => ∃ b, e = .returned (.tuple #[.pointer (some ⟨b, 0, none⟩), .int .i64 0]) ∧ ∃ a, NegIn w' w.heap.size b a (newN ask own peer cf tm fails wait) ∧ Kept (fun _ => False) w w' :=
  (ngNew_must va vo vp vu must base ask own peer cf tm fails wait w ha ho hp hu hml hcf htm hf hw hask hput hal hgo hgp).mono fun _ _ ⟨b, h1, a, h2, _, h3⟩ => ⟨b, h1, a, h2, h3⟩
end Go.Proofs.Ytcmdfcdmfdheeaa
