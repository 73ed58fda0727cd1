/- The contract of ipcp's Client. -/
import Derived.Test.YtcmdfcdmfdheeaaIpIn
import Derived.Deep.CutRange
import Derived.Deep.CutBlock
namespace Go.Proofs.Ytcmdfcdmfdheeaa
open Go.RowKit

def ad1 : Ad := ⟨0, 0, 0, 1⟩
def adT : Ad := ⟨255, 255, 255, 255⟩
/-- What a client asks for first. -/
def askC (dns : Bool) : List Tg := if dns = true then [⟨3, adB ad0⟩, ⟨129, adB ad0⟩, ⟨131, adB ad0⟩] else [⟨3, adB ad0⟩]
def clientN (dns : Bool) (cf tm fails wait : Int) : Ng := newN (askC dns) [ruleA 3 ad1 adT, ruleA 129 ad1 adT, ruleA 131 ad1 adT] [ruleA 3 ad0 adT] cf tm fails wait

theorem ownR_new3 (W : World) : OwnR (W.alloc (.cells #[.int .i64 3, .int .i64 4, .int .i64 (numAd ad1), .int .i64 (numAd adT), .string (adB ad1), .int .i64 129, .int .i64 4, .int .i64 (numAd ad1), .int .i64 (numAd adT), .string (adB ad1), .int .i64 131, .int .i64 4, .int .i64 (numAd ad1), .int .i64 (numAd adT), .string (adB ad1)] 56)) W.heap.size (.slice (some ⟨W.heap.size, 0, none⟩) 3 3) [ruleA 3 ad1 adT, ruleA 129 ad1 adT, ruleA 131 ad1 adT] :=
  ⟨rowR_length _, Or.inr ⟨W.heap.size, 3, _, rfl, Nat.le_refl _, heap_alloc_new W _, Nat.le_refl _, by decide, rfl, rfl⟩⟩
theorem ownR_new0 (W : World) : OwnR (W.alloc (.cells #[.int .i64 3, .int .i64 4, .int .i64 (numAd ad0), .int .i64 (numAd adT), .string (adB ad0)] 56)) W.heap.size (.slice (some ⟨W.heap.size, 0, none⟩) 1 1) [ruleA 3 ad0 adT] := ownR_new W 3 ad0 adT
theorem ownI_new (W : World) : OwnI (W.alloc (.cells #[.int .i64 3] 3)) W.heap.size (.slice (some ⟨W.heap.size, 0, none⟩) 1 1) [3] :=
  ⟨rfl, Or.inr ⟨W.heap.size, 1, _, rfl, Nat.le_refl _, heap_alloc_new W _, Nat.le_refl _, by decide, rfl, rfl⟩⟩
theorem own2_new (W : World) (x y : Tg) : OwnO (W.alloc (.cells #[.int .i64 x.type, .string x.value, .int .i64 y.type, .string y.value] 51)) W.heap.size (.slice (some ⟨W.heap.size, 0, none⟩) 2 2) [x, y] :=
  ⟨rfl, Or.inr ⟨W.heap.size, 2, _, rfl, Nat.le_refl _, heap_alloc_new W _, Nat.le_refl _, by decide, rfl, rfl⟩⟩
theorem OwnR.kept0 {W W' : World} {base : Nat} {v : Value} {l : List Rl} (h : OwnR W base v l) (hk : Kept (fun _ => False) W W') : OwnR W' base v l := h.kept hk
theorem MustAt.mk {W : World} {base : Nat} {v : Value} (h : OwnI W base v [3]) : MustAt W v [3] := ⟨h.mono (Nat.zero_le _), by decide⟩
theorem client_good : GoodR [ruleA 3 ad1 adT, ruleA 129 ad1 adT, ruleA 131 ad1 adT] := ⟨by decide, fun r hr => by
  have h : numAd ad1 ≤ numAd adT := by decide
  rcases List.mem_cons.1 hr with rfl | hr
  · exact goodA ⟨by decide, by decide⟩ _ _ h
  · rcases List.mem_cons.1 hr with rfl | hr
    · exact goodA ⟨by decide, by decide⟩ _ _ h
    · rw [List.mem_singleton.1 hr]; exact goodA ⟨by decide, by decide⟩ _ _ h⟩
theorem client_peer : GoodR [ruleA 3 ad0 adT] := ⟨by decide, fun r hr => by
  rw [List.mem_singleton.1 hr]
  exact goodA ⟨by decide, by decide⟩ _ _ (by decide)⟩
theorem client_short : ShortR [ruleA 3 ad0 adT] := fun r hr => by
  have := (client_peer.2 r hr).2.1
  omega
theorem askC_fine (dns : Bool) : FineO (askC dns) := by
  cases dns with
  | false => exact fineAd 3 ⟨by decide, by decide⟩ ad0
  | true =>
    refine ⟨by decide, fun x hx => ?_, fun x hx => ?_⟩
    · simp [askC] at hx
      rcases hx with rfl | rfl | rfl <;> exact ⟨by decide, by decide⟩
    · simp [askC] at hx
      rcases hx with rfl | rfl | rfl <;> (show (adB ad0).size ≤ _; rw [adB_size]; omega)
theorem askC_put (dns : Bool) : (putOptsF (askC dns)).2 = 0 := by cases dns <;> kernel_rfl
theorem askC_alone (dns : Bool) : Alone (askC dns) := by
  cases dns with
  | false => exact aloneO _
  | true =>
    intro j x hj
    match j, hj with
    | 0, hj => simp [askC] at hj; subst hj; rfl
    | 1, hj => simp [askC] at hj; subst hj; rfl
    | 2, hj => simp [askC] at hj; subst hj; rfl
    | j + 3, hj => simp [askC] at hj

/-- The boxes of three addresses. -/
structure ClK (g : Nat) (W : World) : Prop where
  o : Four4 W g (.int .u8 0) (.int .u8 0) (.int .u8 0) (.int .u8 0)
  p : Four4 W (g + 1) (.int .u8 0) (.int .u8 0) (.int .u8 0) (.int .u8 1)
  t : Four4 W (g + 2) (.int .u8 255) (.int .u8 255) (.int .u8 255) (.int .u8 255)
theorem ClK.kept {g : Nat} {W W' : World} (h : ClK g W) (hk : Kept (fun _ => False) W W') : ClK g W' := ⟨h.o.kept hk id, h.p.kept hk id, h.t.kept hk id⟩

theorem ClK.new (w : World) : ClK w.heap.size (((w.alloc (.cells #[.int .u8 0, .int .u8 0, .int .u8 0, .int .u8 0] 24)).alloc (.cells #[.int .u8 0, .int .u8 0, .int .u8 0, .int .u8 1] 24)).alloc (.cells #[.int .u8 255, .int .u8 255, .int .u8 255, .int .u8 255] 24)) := by
  have k1 := (Kept.refl (fun _ => False) (w.alloc (.cells #[.int .u8 0, .int .u8 0, .int .u8 0, .int .u8 0] 24))).alloc (.cells #[.int .u8 0, .int .u8 0, .int .u8 0, .int .u8 1] 24)
  have k2 := (Kept.refl (fun _ => False) ((w.alloc (.cells #[.int .u8 0, .int .u8 0, .int .u8 0, .int .u8 0] 24)).alloc (.cells #[.int .u8 0, .int .u8 0, .int .u8 0, .int .u8 1] 24))).alloc (.cells #[.int .u8 255, .int .u8 255, .int .u8 255, .int .u8 255] 24)
  have h0 := four4_new w 24 (.int .u8 0) (.int .u8 0) (.int .u8 0) (.int .u8 0)
  have h1 := four4_new (w.alloc (.cells #[.int .u8 0, .int .u8 0, .int .u8 0, .int .u8 0] 24)) 24 (.int .u8 0) (.int .u8 0) (.int .u8 0) (.int .u8 1)
  have h2 := four4_new ((w.alloc (.cells #[.int .u8 0, .int .u8 0, .int .u8 0, .int .u8 0] 24)).alloc (.cells #[.int .u8 0, .int .u8 0, .int .u8 0, .int .u8 1] 24)) 24 (.int .u8 255) (.int .u8 255) (.int .u8 255) (.int .u8 255)
  have s1 : (w.alloc (.cells #[.int .u8 0, .int .u8 0, .int .u8 0, .int .u8 0] 24)).heap.size = w.heap.size + 1 := by simp
  have s2 : ((w.alloc (.cells #[.int .u8 0, .int .u8 0, .int .u8 0, .int .u8 0] 24)).alloc (.cells #[.int .u8 0, .int .u8 0, .int .u8 0, .int .u8 1] 24)).heap.size = w.heap.size + 2 := by simp
  rw [s1] at h1
  rw [s2] at h2
  exact ⟨(h0.kept k1 id).kept k2 id, h1.kept k2 id, h2⟩

set_option maxHeartbeats 32000000 in
set_option maxRecDepth 100000 in
theorem client_any (dns : Bool) (cf tm fails wait : Int) (hcf : 1 ≤ cf ∧ cf ≤ 20) (htm : 1 ≤ tm ∧ tm ≤ 20) (hf : 0 ≤ fails ∧ fails ≤ 20) (hw : 1 ≤ wait ∧ wait ≤ 100) (w : World) :
    Calls Try.prog 14 #[.int .i64 cf, .int .i64 tm, .int .i64 fails, .int .i64 wait, .bool dns] w fun r w' => ∃ b, r = .returned (.tuple #[.pointer (some ⟨b, 0, none⟩), .int .i64 0]) ∧ ∃ a, NegIn w' w.heap.size b a (clientN dns cf tm fails wait) ∧ MustAt w' a.vu [3] ∧ Kept (fun _ => False) w w' := by
  have HNw := hid (fun (va vo vp vu : Value) (W : World) (ha : OptsAt W va (askC dns)) (ho : RulesAt W vo [ruleA 3 ad1 adT, ruleA 129 ad1 adT, ruleA 131 ad1 adT]) (hp : RulesAt W vp [ruleA 3 ad0 adT]) (hu : OwnI W 0 vu [3]) => ngNew_must va vo vp vu [3] 0 (askC dns) [ruleA 3 ad1 adT, ruleA 129 ad1 adT, ruleA 131 ad1 adT] [ruleA 3 ad0 adT] cf tm fails wait W ha ho hp hu (by decide) hcf htm hf hw (askC_fine dns) (askC_put dns) (askC_alone dns) client_good client_peer)
  unfold clientN
  unfold setupV at HNw
  have HR3 := hid (rule_any 3 ad1 adT)
  have HR129 := hid (rule_any 129 ad1 adT)
  have HR131 := hid (rule_any 131 ad1 adT)
  have HR0 := hid (rule_any 3 ad0 adT)
  have HO3 := hid (option_any 3 ad0)
  have HO129 := hid (option_any 129 ad0)
  have HO131 := hid (option_any 131 ad0)
  unfold rlV ruleA at HR3 HR129 HR131 HR0
  simp only at HR3 HR129 HR131 HR0
  rw [show adV ad1 = .agg #[.int .u8 0, .int .u8 0, .int .u8 0, .int .u8 1] from rfl, show adV adT = .agg #[.int .u8 255, .int .u8 255, .int .u8 255, .int .u8 255] from rfl] at HR3 HR129 HR131
  rw [show adV ad0 = .agg #[.int .u8 0, .int .u8 0, .int .u8 0, .int .u8 0] from rfl] at HR0 HO3 HO129 HO131
  rw [show adV adT = .agg #[.int .u8 255, .int .u8 255, .int .u8 255, .int .u8 255] from rfl] at HR0
  clear hcf htm hf hw
  have HC := hid (ClK.new w)
  have K0 := hid ((((Kept.refl (fun _ => False) w).alloc (.cells #[.int .u8 0, .int .u8 0, .int .u8 0, .int .u8 0] 24)).alloc (.cells #[.int .u8 0, .int .u8 0, .int .u8 0, .int .u8 1] 24)).alloc (.cells #[.int .u8 255, .int .u8 255, .int .u8 255, .int .u8 255] 24))
  go_enter Try.func14, Try.ntmps14
  go_upto_region 2 with fail
  generalize (((w.alloc (.cells #[.int .u8 0, .int .u8 0, .int .u8 0, .int .u8 0] 24)).alloc (.cells #[.int .u8 0, .int .u8 0, .int .u8 0, .int .u8 1] 24)).alloc (.cells #[.int .u8 255, .int .u8 255, .int .u8 255, .int .u8 255] 24)) = A at *
  obtain ⟨⟨c0, c1, c2, c3⟩, _⟩ := HC.out.o
  go_wp2_with fail
  refine (HO3.out _).mono ?_
  rintro e w1 ⟨rfl, hk⟩
  have K1 := hid hk
  clear hk c0 c1 c2 c3
  go_upto_if 22 with fail
  go_cut [15] from 23 to 29 (fun v wx => ∃ pa ca, v = .slice pa (askC dns).length ca ∧ Hid (OptsAt wx (.slice pa (askC dns).length ca) (askC dns) ∧ Kept (fun _ => False) A wx))
  case first =>
    have KA1 := hid (K1.out.alloc (.cells #[.int .i64 3, .string (adB ad0)] 51))
    have O1 := hid ((one_opt (BoxO.new w1 ⟨3, adB ad0⟩) (Nat.le_refl _)).mono K1.out.size)
    cases dns with
    | false =>
      go_wp2
      go_meet
      exact ⟨_, _, rfl, O1.out.at, KA1.out⟩
    | true =>
      generalize World.alloc w1 (.cells #[.int .i64 3, .string (adB ad0)] 51) = w2 at *
      have o0 : ∀ W, Kept (fun _ => False) A W → W.cell? ⟨w.heap.size, 0, none⟩ = some (.int .u8 0) := fun W h => (HC.out.kept h).o.1.1
      have o1 : ∀ W, Kept (fun _ => False) A W → W.cell? ⟨w.heap.size, 1, none⟩ = some (.int .u8 0) := fun W h => (HC.out.kept h).o.1.2.1
      have o2 : ∀ W, Kept (fun _ => False) A W → W.cell? ⟨w.heap.size, 2, none⟩ = some (.int .u8 0) := fun W h => (HC.out.kept h).o.1.2.2.1
      have o3 : ∀ W, Kept (fun _ => False) A W → W.cell? ⟨w.heap.size, 3, none⟩ = some (.int .u8 0) := fun W h => (HC.out.kept h).o.1.2.2.2
      have p0 : ∀ W, Kept (fun _ => False) A W → W.cell? ⟨w.heap.size + 1, 0, none⟩ = some (.int .u8 0) := fun W h => (HC.out.kept h).p.1.1
      have p1 : ∀ W, Kept (fun _ => False) A W → W.cell? ⟨w.heap.size + 1, 1, none⟩ = some (.int .u8 0) := fun W h => (HC.out.kept h).p.1.2.1
      have p2 : ∀ W, Kept (fun _ => False) A W → W.cell? ⟨w.heap.size + 1, 2, none⟩ = some (.int .u8 0) := fun W h => (HC.out.kept h).p.1.2.2.1
      have p3 : ∀ W, Kept (fun _ => False) A W → W.cell? ⟨w.heap.size + 1, 3, none⟩ = some (.int .u8 1) := fun W h => (HC.out.kept h).p.1.2.2.2
      have t0 : ∀ W, Kept (fun _ => False) A W → W.cell? ⟨w.heap.size + 2, 0, none⟩ = some (.int .u8 255) := fun W h => (HC.out.kept h).t.1.1
      have t1 : ∀ W, Kept (fun _ => False) A W → W.cell? ⟨w.heap.size + 2, 1, none⟩ = some (.int .u8 255) := fun W h => (HC.out.kept h).t.1.2.1
      have t2 : ∀ W, Kept (fun _ => False) A W → W.cell? ⟨w.heap.size + 2, 2, none⟩ = some (.int .u8 255) := fun W h => (HC.out.kept h).t.1.2.2.1
      have t3 : ∀ W, Kept (fun _ => False) A W → W.cell? ⟨w.heap.size + 2, 3, none⟩ = some (.int .u8 255) := fun W h => (HC.out.kept h).t.1.2.2.2
      have O1d := hid (O1.out.kept (Kept.refl _ w2).drew)
      go_upto_region 4 with fail
      refine wp_region_held_drew (S := Kept (fun _ => False) A) (by kernel_rfl) (KA1.out.drew) (fun hSd => ?_)
      refine wpAnyH_take (i := 0) (v := ?_) rfl (by kernel_rfl) (by kernel_rfl) (by kernel_rfl) (fun _ _ _ h => h) (Or.inl ⟨by kernel_rfl, fun W hSW => by go_simp; try with_reducible rfl⟩) (by assumption) ?_
      try simp only [List.getElem_toArray]
      try simp only [List.getElem_cons_succ]
      try simp only [List.getElem_cons_zero]
      try simp only [Act.put]
      try simp only [List.setIfInBounds_toArray]
      try simp only [List.set_cons_succ]
      try simp only [List.set_cons_zero]
      refine wpAnyH_take (i := 1) (v := ?_) rfl (by kernel_rfl) (by kernel_rfl) (by kernel_rfl) (fun _ _ _ h => h) (Or.inl ⟨by kernel_rfl, fun W hSW => by go_simp; try with_reducible rfl⟩) (by assumption) ?_
      try simp only [List.getElem_toArray]
      try simp only [List.getElem_cons_succ]
      try simp only [List.getElem_cons_zero]
      try simp only [Act.put]
      try simp only [List.setIfInBounds_toArray]
      try simp only [List.set_cons_succ]
      try simp only [List.set_cons_zero]
      refine wpAnyH_take (i := 3) (v := ?_) rfl (by kernel_rfl) (by kernel_rfl) (by kernel_rfl) (fun _ _ _ h => h) (Or.inl ⟨by kernel_rfl, fun W hSW => by go_simp; try with_reducible rfl⟩) (by assumption) ?_
      try simp only [List.getElem_toArray]
      try simp only [List.getElem_cons_succ]
      try simp only [List.getElem_cons_zero]
      try simp only [Act.put]
      try simp only [List.setIfInBounds_toArray]
      try simp only [List.set_cons_succ]
      try simp only [List.set_cons_zero]
      refine wpAnyH_ready (rs := [2]) (by kernel_rfl) (by simp) ?_
      refine AllReadyH.cons rfl (fun K hK => ?_) AllReadyH.nil
      go_simp
      refine (HO129.out _).mono ?_
      rintro e w3 ⟨rfl, hk⟩
      have hS3 : Kept (fun _ => False) A w3 := hSd.trans hk
      have O13 := hid (O1d.out.kept hk)
      clear hk
      refine hK.out _ _ (hS3) (fun _ => ?_)
      clear hK K
      try simp only [List.getElem_toArray]
      try simp only [List.getElem_cons_succ]
      try simp only [List.getElem_cons_zero]
      try simp only [Act.put]
      try simp only [List.setIfInBounds_toArray]
      try simp only [List.set_cons_succ]
      try simp only [List.set_cons_zero]
      refine wpAnyH_ready (rs := [4]) (by kernel_rfl) (by simp) ?_
      refine AllReadyH.cons rfl (fun K hK => ?_) AllReadyH.nil
      go_simp
      refine (HO131.out _).mono ?_
      rintro e w4 ⟨rfl, hk⟩
      have hS4 : Kept (fun _ => False) A w4 := hS3.trans hk
      have O14 := hid (O13.out.kept hk)
      clear hk
      refine hK.out _ _ (hS4) (fun _ => ?_)
      clear hK K
      try simp only [List.getElem_toArray]
      try simp only [List.getElem_cons_succ]
      try simp only [List.getElem_cons_zero]
      try simp only [Act.put]
      try simp only [List.setIfInBounds_toArray]
      try simp only [List.set_cons_succ]
      try simp only [List.set_cons_zero]
      refine wpAnyH_ready (rs := [5]) (by kernel_rfl) (by simp) ?_
      refine AllReadyH.cons rfl (fun K hK => ?_) AllReadyH.nil
      go_simp
      have hk := (Kept.refl (fun _ => False) w4).alloc (.cells #[.int .i64 129, .string (adB ad0), .int .i64 131, .string (adB ad0)] 51)
      have hS5 := hS4.trans hk
      have O2 := hid (own2_new w4 ⟨129, adB ad0⟩ ⟨131, adB ad0⟩)
      have O15 := hid (O14.out.kept hk)
      clear hk
      refine hK.out _ _ (hS5) (fun _ => ?_)
      clear hK K
      try simp only [List.getElem_toArray]
      try simp only [List.getElem_cons_succ]
      try simp only [List.getElem_cons_zero]
      try simp only [Act.put]
      try simp only [List.setIfInBounds_toArray]
      try simp only [List.set_cons_succ]
      try simp only [List.set_cons_zero]
      obtain ⟨v6, w6, hr6, ho6, hS6⟩ := appendO_run hS5 O15.out O2.out.tags (by simp)
      obtain ⟨p6, c6, e6⟩ := slice_of ho6
      subst e6
      unfold AppO at hr6
      have HF := hid (And.intro ho6.at hS6)
      generalize World.alloc w4 (.cells #[.int .i64 129, .string (adB ad0), .int .i64 131, .string (adB ad0)] 51) = w5 at *
      refine wpAnyH_ready (rs := [6]) (by kernel_rfl) (by simp) ?_
      refine AllReadyH.cons rfl (fun K hK => ?_) AllReadyH.nil
      refine step_append_run rfl (.tmp 23) (.tmp 28) 22 rfl _ _ rfl rfl (hr6 _) ?_
      refine hK.out _ _ (hS6) (fun _ => ?_)
      clear hK K
      try simp only [List.getElem_toArray]
      try simp only [List.getElem_cons_succ]
      try simp only [List.getElem_cons_zero]
      try simp only [Act.put]
      try simp only [List.setIfInBounds_toArray]
      try simp only [List.set_cons_succ]
      try simp only [List.set_cons_zero]
      refine wpAnyH_take (i := 7) (v := ?_) rfl (by kernel_rfl) (by kernel_rfl) (by kernel_rfl) (fun _ _ _ h => h) (Or.inl ⟨by kernel_rfl, fun W hSW => by go_simp; try with_reducible rfl⟩) (by assumption) ?_
      try simp only [List.getElem_toArray]
      try simp only [List.getElem_cons_succ]
      try simp only [List.getElem_cons_zero]
      try simp only [Act.put]
      try simp only [List.setIfInBounds_toArray]
      try simp only [List.set_cons_succ]
      try simp only [List.set_cons_zero]
      refine wpAnyH_done (by kernel_rfl) ?_ _
      clear hr6 ho6
      go_wp2
      go_meet
      exact ⟨_, _, rfl, HF.out⟩
  case rest =>
    obtain ⟨pa, ca, rfl, HA0⟩ := hcut
    have o0 : ∀ W, Kept (fun _ => False) wc W → W.cell? ⟨w.heap.size, 0, none⟩ = some (.int .u8 0) := fun W h => (HC.out.kept (HA0.out.2.trans h)).o.1.1
    have o1 : ∀ W, Kept (fun _ => False) wc W → W.cell? ⟨w.heap.size, 1, none⟩ = some (.int .u8 0) := fun W h => (HC.out.kept (HA0.out.2.trans h)).o.1.2.1
    have o2 : ∀ W, Kept (fun _ => False) wc W → W.cell? ⟨w.heap.size, 2, none⟩ = some (.int .u8 0) := fun W h => (HC.out.kept (HA0.out.2.trans h)).o.1.2.2.1
    have o3 : ∀ W, Kept (fun _ => False) wc W → W.cell? ⟨w.heap.size, 3, none⟩ = some (.int .u8 0) := fun W h => (HC.out.kept (HA0.out.2.trans h)).o.1.2.2.2
    have p0 : ∀ W, Kept (fun _ => False) wc W → W.cell? ⟨w.heap.size + 1, 0, none⟩ = some (.int .u8 0) := fun W h => (HC.out.kept (HA0.out.2.trans h)).p.1.1
    have p1 : ∀ W, Kept (fun _ => False) wc W → W.cell? ⟨w.heap.size + 1, 1, none⟩ = some (.int .u8 0) := fun W h => (HC.out.kept (HA0.out.2.trans h)).p.1.2.1
    have p2 : ∀ W, Kept (fun _ => False) wc W → W.cell? ⟨w.heap.size + 1, 2, none⟩ = some (.int .u8 0) := fun W h => (HC.out.kept (HA0.out.2.trans h)).p.1.2.2.1
    have p3 : ∀ W, Kept (fun _ => False) wc W → W.cell? ⟨w.heap.size + 1, 3, none⟩ = some (.int .u8 1) := fun W h => (HC.out.kept (HA0.out.2.trans h)).p.1.2.2.2
    have t0 : ∀ W, Kept (fun _ => False) wc W → W.cell? ⟨w.heap.size + 2, 0, none⟩ = some (.int .u8 255) := fun W h => (HC.out.kept (HA0.out.2.trans h)).t.1.1
    have t1 : ∀ W, Kept (fun _ => False) wc W → W.cell? ⟨w.heap.size + 2, 1, none⟩ = some (.int .u8 255) := fun W h => (HC.out.kept (HA0.out.2.trans h)).t.1.2.1
    have t2 : ∀ W, Kept (fun _ => False) wc W → W.cell? ⟨w.heap.size + 2, 2, none⟩ = some (.int .u8 255) := fun W h => (HC.out.kept (HA0.out.2.trans h)).t.1.2.2.1
    have t3 : ∀ W, Kept (fun _ => False) wc W → W.cell? ⟨w.heap.size + 2, 3, none⟩ = some (.int .u8 255) := fun W h => (HC.out.kept (HA0.out.2.trans h)).t.1.2.2.2
    have HA := hid (HA0.out.1.kept0 (Kept.refl _ wc).drew)
    have KW := hid (K0.out.trans HA0.out.2)
    generalize (askC dns).length = na at *
    go_upto_region 5 with fail
    refine wp_region_held_drew (S := Kept (fun _ => False) wc) (by kernel_rfl) ((Kept.refl _ wc).drew) (fun hSd => ?_)
    refine wpAnyH_take (i := 0) (v := ?_) rfl (by kernel_rfl) (by kernel_rfl) (by kernel_rfl) (fun _ _ _ h => h) (Or.inl ⟨by kernel_rfl, fun W hSW => by go_simp; try with_reducible rfl⟩) (by assumption) ?_
    try simp only [List.getElem_toArray]
    try simp only [List.getElem_cons_succ]
    try simp only [List.getElem_cons_zero]
    try simp only [Act.put]
    try simp only [List.setIfInBounds_toArray]
    try simp only [List.set_cons_succ]
    try simp only [List.set_cons_zero]
    refine wpAnyH_take (i := 1) (v := ?_) rfl (by kernel_rfl) (by kernel_rfl) (by kernel_rfl) (fun _ _ _ h => h) (Or.inl ⟨by kernel_rfl, fun W hSW => by go_simp; try with_reducible rfl⟩) (by assumption) ?_
    try simp only [List.getElem_toArray]
    try simp only [List.getElem_cons_succ]
    try simp only [List.getElem_cons_zero]
    try simp only [Act.put]
    try simp only [List.setIfInBounds_toArray]
    try simp only [List.set_cons_succ]
    try simp only [List.set_cons_zero]
    refine wpAnyH_take (i := 2) (v := ?_) rfl (by kernel_rfl) (by kernel_rfl) (by kernel_rfl) (fun _ _ _ h => h) (Or.inl ⟨by kernel_rfl, fun W hSW => by go_simp; try with_reducible rfl⟩) (by assumption) ?_
    try simp only [List.getElem_toArray]
    try simp only [List.getElem_cons_succ]
    try simp only [List.getElem_cons_zero]
    try simp only [Act.put]
    try simp only [List.setIfInBounds_toArray]
    try simp only [List.set_cons_succ]
    try simp only [List.set_cons_zero]
    refine wpAnyH_take (i := 4) (v := ?_) rfl (by kernel_rfl) (by kernel_rfl) (by kernel_rfl) (fun _ _ _ h => h) (Or.inl ⟨by kernel_rfl, fun W hSW => by go_simp; try with_reducible rfl⟩) (by assumption) ?_
    try simp only [List.getElem_toArray]
    try simp only [List.getElem_cons_succ]
    try simp only [List.getElem_cons_zero]
    try simp only [Act.put]
    try simp only [List.setIfInBounds_toArray]
    try simp only [List.set_cons_succ]
    try simp only [List.set_cons_zero]
    refine wpAnyH_take (i := 5) (v := ?_) rfl (by kernel_rfl) (by kernel_rfl) (by kernel_rfl) (fun _ _ _ h => h) (Or.inl ⟨by kernel_rfl, fun W hSW => by go_simp; try with_reducible rfl⟩) (by assumption) ?_
    try simp only [List.getElem_toArray]
    try simp only [List.getElem_cons_succ]
    try simp only [List.getElem_cons_zero]
    try simp only [Act.put]
    try simp only [List.setIfInBounds_toArray]
    try simp only [List.set_cons_succ]
    try simp only [List.set_cons_zero]
    refine wpAnyH_take (i := 7) (v := ?_) rfl (by kernel_rfl) (by kernel_rfl) (by kernel_rfl) (fun _ _ _ h => h) (Or.inl ⟨by kernel_rfl, fun W hSW => by go_simp; try with_reducible rfl⟩) (by assumption) ?_
    try simp only [List.getElem_toArray]
    try simp only [List.getElem_cons_succ]
    try simp only [List.getElem_cons_zero]
    try simp only [Act.put]
    try simp only [List.setIfInBounds_toArray]
    try simp only [List.set_cons_succ]
    try simp only [List.set_cons_zero]
    refine wpAnyH_take (i := 8) (v := ?_) rfl (by kernel_rfl) (by kernel_rfl) (by kernel_rfl) (fun _ _ _ h => h) (Or.inl ⟨by kernel_rfl, fun W hSW => by go_simp; try with_reducible rfl⟩) (by assumption) ?_
    try simp only [List.getElem_toArray]
    try simp only [List.getElem_cons_succ]
    try simp only [List.getElem_cons_zero]
    try simp only [Act.put]
    try simp only [List.setIfInBounds_toArray]
    try simp only [List.set_cons_succ]
    try simp only [List.set_cons_zero]
    refine wpAnyH_take (i := 11) (v := ?_) rfl (by kernel_rfl) (by kernel_rfl) (by kernel_rfl) (fun _ _ _ h => h) (Or.inl ⟨by kernel_rfl, fun W hSW => by go_simp; try with_reducible rfl⟩) (by assumption) ?_
    try simp only [List.getElem_toArray]
    try simp only [List.getElem_cons_succ]
    try simp only [List.getElem_cons_zero]
    try simp only [Act.put]
    try simp only [List.setIfInBounds_toArray]
    try simp only [List.set_cons_succ]
    try simp only [List.set_cons_zero]
    refine wpAnyH_take (i := 12) (v := ?_) rfl (by kernel_rfl) (by kernel_rfl) (by kernel_rfl) (fun _ _ _ h => h) (Or.inl ⟨by kernel_rfl, fun W hSW => by go_simp; try with_reducible rfl⟩) (by assumption) ?_
    try simp only [List.getElem_toArray]
    try simp only [List.getElem_cons_succ]
    try simp only [List.getElem_cons_zero]
    try simp only [Act.put]
    try simp only [List.setIfInBounds_toArray]
    try simp only [List.set_cons_succ]
    try simp only [List.set_cons_zero]
    refine wpAnyH_take (i := 16) (v := ?_) rfl (by kernel_rfl) (by kernel_rfl) (by kernel_rfl) (fun _ _ _ h => h) (Or.inl ⟨by kernel_rfl, fun W hSW => by go_simp; try with_reducible rfl⟩) (by assumption) ?_
    try simp only [List.getElem_toArray]
    try simp only [List.getElem_cons_succ]
    try simp only [List.getElem_cons_zero]
    try simp only [Act.put]
    try simp only [List.setIfInBounds_toArray]
    try simp only [List.set_cons_succ]
    try simp only [List.set_cons_zero]
    refine wpAnyH_take (i := 17) (v := ?_) rfl (by kernel_rfl) (by kernel_rfl) (by kernel_rfl) (fun _ _ _ h => h) (Or.inl ⟨by kernel_rfl, fun W hSW => by go_simp; try with_reducible rfl⟩) (by assumption) ?_
    try simp only [List.getElem_toArray]
    try simp only [List.getElem_cons_succ]
    try simp only [List.getElem_cons_zero]
    try simp only [Act.put]
    try simp only [List.setIfInBounds_toArray]
    try simp only [List.set_cons_succ]
    try simp only [List.set_cons_zero]
    refine wpAnyH_take (i := 18) (v := ?_) rfl (by kernel_rfl) (by kernel_rfl) (by kernel_rfl) (fun _ _ _ h => h) (Or.inl ⟨by kernel_rfl, fun W hSW => by go_simp; try with_reducible rfl⟩) (by assumption) ?_
    try simp only [List.getElem_toArray]
    try simp only [List.getElem_cons_succ]
    try simp only [List.getElem_cons_zero]
    try simp only [Act.put]
    try simp only [List.setIfInBounds_toArray]
    try simp only [List.set_cons_succ]
    try simp only [List.set_cons_zero]
    refine wpAnyH_take (i := 19) (v := ?_) rfl (by kernel_rfl) (by kernel_rfl) (by kernel_rfl) (fun _ _ _ h => h) (Or.inl ⟨by kernel_rfl, fun W hSW => by go_simp; try with_reducible rfl⟩) (by assumption) ?_
    try simp only [List.getElem_toArray]
    try simp only [List.getElem_cons_succ]
    try simp only [List.getElem_cons_zero]
    try simp only [Act.put]
    try simp only [List.setIfInBounds_toArray]
    try simp only [List.set_cons_succ]
    try simp only [List.set_cons_zero]
    refine wpAnyH_ready (rs := [3, 15]) (by kernel_rfl) (by simp) ?_
    refine AllReadyH.cons rfl (fun K hK => ?_) (AllReadyH.cons rfl (fun K hK => ?_) AllReadyH.nil)
    · skip
      go_simp
      refine (HR3.out _).mono ?_
      rintro e w1 ⟨rfl, hk⟩
      have hS1 : Kept (fun _ => False) wc w1 := hSd.trans hk
      have HA' := hid (HA.out.kept0 hk)
      clear hk
      refine hK.out _ _ (hS1) (fun _ => ?_)
      clear hK K
      try simp only [List.getElem_toArray]
      try simp only [List.getElem_cons_succ]
      try simp only [List.getElem_cons_zero]
      try simp only [Act.put]
      try simp only [List.setIfInBounds_toArray]
      try simp only [List.set_cons_succ]
      try simp only [List.set_cons_zero]
      refine wpAnyH_ready (rs := [6, 15]) (by kernel_rfl) (by simp) ?_
      refine AllReadyH.cons rfl (fun K hK => ?_) (AllReadyH.cons rfl (fun K hK => ?_) AllReadyH.nil)
      · skip
        go_simp
        refine (HR129.out _).mono ?_
        rintro e w2 ⟨rfl, hk⟩
        have hS2 : Kept (fun _ => False) wc w2 := hS1.trans hk
        have HA'' := hid (HA'.out.kept0 hk)
        clear hk
        refine hK.out _ _ (hS2) (fun _ => ?_)
        clear hK K
        try simp only [List.getElem_toArray]
        try simp only [List.getElem_cons_succ]
        try simp only [List.getElem_cons_zero]
        try simp only [Act.put]
        try simp only [List.setIfInBounds_toArray]
        try simp only [List.set_cons_succ]
        try simp only [List.set_cons_zero]
        refine wpAnyH_ready (rs := [9, 15]) (by kernel_rfl) (by simp) ?_
        refine AllReadyH.cons rfl (fun K hK => ?_) (AllReadyH.cons rfl (fun K hK => ?_) AllReadyH.nil)
        · skip
          go_simp
          refine (HR131.out _).mono ?_
          rintro e w3 ⟨rfl, hk⟩
          have hS3 : Kept (fun _ => False) wc w3 := hS2.trans hk
          have HA''' := hid (HA''.out.kept0 hk)
          clear hk
          refine hK.out _ _ (hS3) (fun _ => ?_)
          clear hK K
          try simp only [List.getElem_toArray]
          try simp only [List.getElem_cons_succ]
          try simp only [List.getElem_cons_zero]
          try simp only [Act.put]
          try simp only [List.setIfInBounds_toArray]
          try simp only [List.set_cons_succ]
          try simp only [List.set_cons_zero]
          refine wpAnyH_ready (rs := [10, 13, 15]) (by kernel_rfl) (by simp) ?_
          refine AllReadyH.cons rfl (fun K hK => ?_) (AllReadyH.cons rfl (fun K hK => ?_) (AllReadyH.cons rfl (fun K hK => ?_) AllReadyH.nil))
          · skip
            go_simp
            have hk := (Kept.refl (fun _ => False) w3).alloc (.cells #[.int .i64 3, .int .i64 4, .int .i64 (numAd ad1), .int .i64 (numAd adT), .string (adB ad1), .int .i64 129, .int .i64 4, .int .i64 (numAd ad1), .int .i64 (numAd adT), .string (adB ad1), .int .i64 131, .int .i64 4, .int .i64 (numAd ad1), .int .i64 (numAd adT), .string (adB ad1)] 56)
            have hS4 := hS3.trans hk
            have HA'''' := hid (HA'''.out.kept0 hk)
            have R3 := hid (ownR_new3 w3)
            clear hk
            refine hK.out _ _ (hS4) (fun _ => ?_)
            clear hK K
            try simp only [List.getElem_toArray]
            try simp only [List.getElem_cons_succ]
            try simp only [List.getElem_cons_zero]
            try simp only [Act.put]
            try simp only [List.setIfInBounds_toArray]
            try simp only [List.set_cons_succ]
            try simp only [List.set_cons_zero]
            generalize World.alloc w3 (.cells #[.int .i64 3, .int .i64 4, .int .i64 (numAd ad1), .int .i64 (numAd adT), .string (adB ad1), .int .i64 129, .int .i64 4, .int .i64 (numAd ad1), .int .i64 (numAd adT), .string (adB ad1), .int .i64 131, .int .i64 4, .int .i64 (numAd ad1), .int .i64 (numAd adT), .string (adB ad1)] 56) = w4 at *
            refine wpAnyH_ready (rs := [13, 15]) (by kernel_rfl) (by simp) ?_
            refine AllReadyH.cons rfl (fun K hK => ?_) (AllReadyH.cons rfl (fun K hK => ?_) AllReadyH.nil)
            · skip
              go_simp
              refine (HR0.out _).mono ?_
              rintro e w5 ⟨rfl, hk⟩
              have hS5 : Kept (fun _ => False) wc w5 := hS4.trans hk
              have HA''''' := hid (HA''''.out.kept0 hk)
              have R3' := hid (R3.out.kept0 hk)
              clear hk
              refine hK.out _ _ (hS5) (fun _ => ?_)
              clear hK K
              try simp only [List.getElem_toArray]
              try simp only [List.getElem_cons_succ]
              try simp only [List.getElem_cons_zero]
              try simp only [Act.put]
              try simp only [List.setIfInBounds_toArray]
              try simp only [List.set_cons_succ]
              try simp only [List.set_cons_zero]
              refine wpAnyH_ready (rs := [14, 15]) (by kernel_rfl) (by simp) ?_
              refine AllReadyH.cons rfl (fun K hK => ?_) (AllReadyH.cons rfl (fun K hK => ?_) AllReadyH.nil)
              · skip
                go_simp
                have hk := (Kept.refl (fun _ => False) w5).alloc (.cells #[.int .i64 3, .int .i64 4, .int .i64 (numAd ad0), .int .i64 (numAd adT), .string (adB ad0)] 56)
                have hS6 := hS5.trans hk
                have HA'''''' := hid (HA'''''.out.kept0 hk)
                have R3'' := hid (R3'.out.kept0 hk)
                have R1 := hid (ownR_new0 w5)
                clear hk
                refine hK.out _ _ (hS6) (fun _ => ?_)
                clear hK K
                try simp only [List.getElem_toArray]
                try simp only [List.getElem_cons_succ]
                try simp only [List.getElem_cons_zero]
                try simp only [Act.put]
                try simp only [List.setIfInBounds_toArray]
                try simp only [List.set_cons_succ]
                try simp only [List.set_cons_zero]
                generalize World.alloc w5 (.cells #[.int .i64 3, .int .i64 4, .int .i64 (numAd ad0), .int .i64 (numAd adT), .string (adB ad0)] 56) = w6 at *
                refine wpAnyH_ready (rs := [15]) (by kernel_rfl) (by simp) ?_
                refine AllReadyH.cons rfl (fun K hK => ?_) AllReadyH.nil
                go_simp
                have hk := (Kept.refl (fun _ => False) w6).alloc (.cells #[.int .i64 3] 3)
                have hS7 := hS6.trans hk
                have HA''''''' := hid (HA''''''.out.kept0 hk)
                have R3''' := hid (R3''.out.kept0 hk)
                have R1' := hid (R1.out.kept0 hk)
                have I1 := hid (ownI_new w6)
                clear hk
                refine hK.out _ _ (hS7) (fun _ => ?_)
                clear hK K
                try simp only [List.getElem_toArray]
                try simp only [List.getElem_cons_succ]
                try simp only [List.getElem_cons_zero]
                try simp only [Act.put]
                try simp only [List.setIfInBounds_toArray]
                try simp only [List.set_cons_succ]
                try simp only [List.set_cons_zero]
                generalize World.alloc w6 (.cells #[.int .i64 3] 3) = w7 at *
                refine wpAnyH_take (i := 20) (v := ?_) rfl (by kernel_rfl) (by kernel_rfl) (by kernel_rfl) (fun _ _ _ h => h) (Or.inl ⟨by kernel_rfl, fun W hSW => by go_simp; try with_reducible rfl⟩) (by assumption) ?_
                try simp only [List.getElem_toArray]
                try simp only [List.getElem_cons_succ]
                try simp only [List.getElem_cons_zero]
                try simp only [Act.put]
                try simp only [List.setIfInBounds_toArray]
                try simp only [List.set_cons_succ]
                try simp only [List.set_cons_zero]
                refine wpAnyH_ready (rs := [21]) (by kernel_rfl) (by simp) ?_
                refine AllReadyH.cons rfl (fun K hK => ?_) AllReadyH.nil
                go_simp
                refine (HNw.out _ _ _ _ w7 HA'''''''.out R3'''.out.rules R1'.out.rules (I1.out.mono (Nat.zero_le _))).mono ?_
                rintro e wz ⟨b, rfl, a, hn, hm, hk⟩
                have hSz : Kept (fun _ => False) wc wz := hS7.trans hk
                have HF := hid (And.intro (hn.lower (KW.out.trans hS7).size) (And.intro (MustAt.mk hm) (KW.out.trans hSz)))
                clear hn hm hk
                refine hK.out _ _ (hSz) (fun _ => ?_)
                clear hK K
                try simp only [List.getElem_toArray]
                try simp only [List.getElem_cons_succ]
                try simp only [List.getElem_cons_zero]
                try simp only [Act.put]
                try simp only [List.setIfInBounds_toArray]
                try simp only [List.set_cons_succ]
                try simp only [List.set_cons_zero]
                refine wpAnyH_take (i := 22) (v := ?_) rfl (by kernel_rfl) (by kernel_rfl) (by kernel_rfl) (fun _ _ _ h => h) (Or.inl ⟨by kernel_rfl, fun W hSW => by go_simp; try with_reducible rfl⟩) (by assumption) ?_
                try simp only [List.getElem_toArray]
                try simp only [List.getElem_cons_succ]
                try simp only [List.getElem_cons_zero]
                try simp only [Act.put]
                try simp only [List.setIfInBounds_toArray]
                try simp only [List.set_cons_succ]
                try simp only [List.set_cons_zero]
                refine wpAnyH_take (i := 23) (v := ?_) rfl (by kernel_rfl) (by kernel_rfl) (by kernel_rfl) (fun _ _ _ h => h) (Or.inl ⟨by kernel_rfl, fun W hSW => by go_simp; try with_reducible rfl⟩) (by assumption) ?_
                try simp only [List.getElem_toArray]
                try simp only [List.getElem_cons_succ]
                try simp only [List.getElem_cons_zero]
                try simp only [Act.put]
                try simp only [List.setIfInBounds_toArray]
                try simp only [List.set_cons_succ]
                try simp only [List.set_cons_zero]
                refine wpAnyH_take (i := 24) (v := ?_) rfl (by kernel_rfl) (by kernel_rfl) (by kernel_rfl) (fun _ _ _ h => h) (Or.inl ⟨by kernel_rfl, fun W hSW => by go_simp; try with_reducible rfl⟩) (by assumption) ?_
                try simp only [List.getElem_toArray]
                try simp only [List.getElem_cons_succ]
                try simp only [List.getElem_cons_zero]
                try simp only [Act.put]
                try simp only [List.setIfInBounds_toArray]
                try simp only [List.set_cons_succ]
                try simp only [List.set_cons_zero]
                refine wpAnyH_take (i := 25) (v := ?_) rfl (by kernel_rfl) (by kernel_rfl) (by kernel_rfl) (fun _ _ _ h => h) (Or.inl ⟨by kernel_rfl, fun W hSW => by go_simp; try with_reducible rfl⟩) (by assumption) ?_
                try simp only [List.getElem_toArray]
                try simp only [List.getElem_cons_succ]
                try simp only [List.getElem_cons_zero]
                try simp only [Act.put]
                try simp only [List.setIfInBounds_toArray]
                try simp only [List.set_cons_succ]
                try simp only [List.set_cons_zero]
                refine wpAnyH_done (by kernel_rfl) ?_ _
                clear hSz
                go_wp2
                go_ret2
                exact ⟨b, rfl, a, HF.out.1, HF.out.2.1, HF.out.2.2⟩
              · skip
                go_simp
                have hk := (Kept.refl (fun _ => False) w5).alloc (.cells #[.int .i64 3] 3)
                have hS8 := hS5.trans hk
                have HA'''''' := hid (HA'''''.out.kept0 hk)
                have R3'' := hid (R3'.out.kept0 hk)
                have I1 := hid (ownI_new w5)
                clear hk
                refine hK.out _ _ (hS8) (fun _ => ?_)
                clear hK K
                try simp only [List.getElem_toArray]
                try simp only [List.getElem_cons_succ]
                try simp only [List.getElem_cons_zero]
                try simp only [Act.put]
                try simp only [List.setIfInBounds_toArray]
                try simp only [List.set_cons_succ]
                try simp only [List.set_cons_zero]
                generalize World.alloc w5 (.cells #[.int .i64 3] 3) = w8 at *
                refine wpAnyH_ready (rs := [14]) (by kernel_rfl) (by simp) ?_
                refine AllReadyH.cons rfl (fun K hK => ?_) AllReadyH.nil
                go_simp
                have hk := (Kept.refl (fun _ => False) w8).alloc (.cells #[.int .i64 3, .int .i64 4, .int .i64 (numAd ad0), .int .i64 (numAd adT), .string (adB ad0)] 56)
                have hS9 := hS8.trans hk
                have HA''''''' := hid (HA''''''.out.kept0 hk)
                have R3''' := hid (R3''.out.kept0 hk)
                have I1' := hid (I1.out.kept0 hk)
                have R1 := hid (ownR_new0 w8)
                clear hk
                refine hK.out _ _ (hS9) (fun _ => ?_)
                clear hK K
                try simp only [List.getElem_toArray]
                try simp only [List.getElem_cons_succ]
                try simp only [List.getElem_cons_zero]
                try simp only [Act.put]
                try simp only [List.setIfInBounds_toArray]
                try simp only [List.set_cons_succ]
                try simp only [List.set_cons_zero]
                generalize World.alloc w8 (.cells #[.int .i64 3, .int .i64 4, .int .i64 (numAd ad0), .int .i64 (numAd adT), .string (adB ad0)] 56) = w9 at *
                refine wpAnyH_take (i := 20) (v := ?_) rfl (by kernel_rfl) (by kernel_rfl) (by kernel_rfl) (fun _ _ _ h => h) (Or.inl ⟨by kernel_rfl, fun W hSW => by go_simp; try with_reducible rfl⟩) (by assumption) ?_
                try simp only [List.getElem_toArray]
                try simp only [List.getElem_cons_succ]
                try simp only [List.getElem_cons_zero]
                try simp only [Act.put]
                try simp only [List.setIfInBounds_toArray]
                try simp only [List.set_cons_succ]
                try simp only [List.set_cons_zero]
                refine wpAnyH_ready (rs := [21]) (by kernel_rfl) (by simp) ?_
                refine AllReadyH.cons rfl (fun K hK => ?_) AllReadyH.nil
                go_simp
                refine (HNw.out _ _ _ _ w9 HA'''''''.out R3'''.out.rules R1.out.rules (I1'.out.mono (Nat.zero_le _))).mono ?_
                rintro e wz ⟨b, rfl, a, hn, hm, hk⟩
                have hSz : Kept (fun _ => False) wc wz := hS9.trans hk
                have HF := hid (And.intro (hn.lower (KW.out.trans hS9).size) (And.intro (MustAt.mk hm) (KW.out.trans hSz)))
                clear hn hm hk
                refine hK.out _ _ (hSz) (fun _ => ?_)
                clear hK K
                try simp only [List.getElem_toArray]
                try simp only [List.getElem_cons_succ]
                try simp only [List.getElem_cons_zero]
                try simp only [Act.put]
                try simp only [List.setIfInBounds_toArray]
                try simp only [List.set_cons_succ]
                try simp only [List.set_cons_zero]
                refine wpAnyH_take (i := 22) (v := ?_) rfl (by kernel_rfl) (by kernel_rfl) (by kernel_rfl) (fun _ _ _ h => h) (Or.inl ⟨by kernel_rfl, fun W hSW => by go_simp; try with_reducible rfl⟩) (by assumption) ?_
                try simp only [List.getElem_toArray]
                try simp only [List.getElem_cons_succ]
                try simp only [List.getElem_cons_zero]
                try simp only [Act.put]
                try simp only [List.setIfInBounds_toArray]
                try simp only [List.set_cons_succ]
                try simp only [List.set_cons_zero]
                refine wpAnyH_take (i := 23) (v := ?_) rfl (by kernel_rfl) (by kernel_rfl) (by kernel_rfl) (fun _ _ _ h => h) (Or.inl ⟨by kernel_rfl, fun W hSW => by go_simp; try with_reducible rfl⟩) (by assumption) ?_
                try simp only [List.getElem_toArray]
                try simp only [List.getElem_cons_succ]
                try simp only [List.getElem_cons_zero]
                try simp only [Act.put]
                try simp only [List.setIfInBounds_toArray]
                try simp only [List.set_cons_succ]
                try simp only [List.set_cons_zero]
                refine wpAnyH_take (i := 24) (v := ?_) rfl (by kernel_rfl) (by kernel_rfl) (by kernel_rfl) (fun _ _ _ h => h) (Or.inl ⟨by kernel_rfl, fun W hSW => by go_simp; try with_reducible rfl⟩) (by assumption) ?_
                try simp only [List.getElem_toArray]
                try simp only [List.getElem_cons_succ]
                try simp only [List.getElem_cons_zero]
                try simp only [Act.put]
                try simp only [List.setIfInBounds_toArray]
                try simp only [List.set_cons_succ]
                try simp only [List.set_cons_zero]
                refine wpAnyH_take (i := 25) (v := ?_) rfl (by kernel_rfl) (by kernel_rfl) (by kernel_rfl) (fun _ _ _ h => h) (Or.inl ⟨by kernel_rfl, fun W hSW => by go_simp; try with_reducible rfl⟩) (by assumption) ?_
                try simp only [List.getElem_toArray]
                try simp only [List.getElem_cons_succ]
                try simp only [List.getElem_cons_zero]
                try simp only [Act.put]
                try simp only [List.setIfInBounds_toArray]
                try simp only [List.set_cons_succ]
                try simp only [List.set_cons_zero]
                refine wpAnyH_done (by kernel_rfl) ?_ _
                clear hSz
                go_wp2
                go_ret2
                exact ⟨b, rfl, a, HF.out.1, HF.out.2.1, HF.out.2.2⟩
            · skip
              go_simp
              have hk := (Kept.refl (fun _ => False) w4).alloc (.cells #[.int .i64 3] 3)
              have hS10 := hS4.trans hk
              have HA''''' := hid (HA''''.out.kept0 hk)
              have R3' := hid (R3.out.kept0 hk)
              have I1 := hid (ownI_new w4)
              clear hk
              refine hK.out _ _ (hS10) (fun _ => ?_)
              clear hK K
              try simp only [List.getElem_toArray]
              try simp only [List.getElem_cons_succ]
              try simp only [List.getElem_cons_zero]
              try simp only [Act.put]
              try simp only [List.setIfInBounds_toArray]
              try simp only [List.set_cons_succ]
              try simp only [List.set_cons_zero]
              generalize World.alloc w4 (.cells #[.int .i64 3] 3) = w10 at *
              refine wpAnyH_ready (rs := [13]) (by kernel_rfl) (by simp) ?_
              refine AllReadyH.cons rfl (fun K hK => ?_) AllReadyH.nil
              go_simp
              refine (HR0.out _).mono ?_
              rintro e w11 ⟨rfl, hk⟩
              have hS11 : Kept (fun _ => False) wc w11 := hS10.trans hk
              have HA'''''' := hid (HA'''''.out.kept0 hk)
              have R3'' := hid (R3'.out.kept0 hk)
              have I1' := hid (I1.out.kept0 hk)
              clear hk
              refine hK.out _ _ (hS11) (fun _ => ?_)
              clear hK K
              try simp only [List.getElem_toArray]
              try simp only [List.getElem_cons_succ]
              try simp only [List.getElem_cons_zero]
              try simp only [Act.put]
              try simp only [List.setIfInBounds_toArray]
              try simp only [List.set_cons_succ]
              try simp only [List.set_cons_zero]
              refine wpAnyH_ready (rs := [14]) (by kernel_rfl) (by simp) ?_
              refine AllReadyH.cons rfl (fun K hK => ?_) AllReadyH.nil
              go_simp
              have hk := (Kept.refl (fun _ => False) w11).alloc (.cells #[.int .i64 3, .int .i64 4, .int .i64 (numAd ad0), .int .i64 (numAd adT), .string (adB ad0)] 56)
              have hS12 := hS11.trans hk
              have HA''''''' := hid (HA''''''.out.kept0 hk)
              have R3''' := hid (R3''.out.kept0 hk)
              have I1'' := hid (I1'.out.kept0 hk)
              have R1 := hid (ownR_new0 w11)
              clear hk
              refine hK.out _ _ (hS12) (fun _ => ?_)
              clear hK K
              try simp only [List.getElem_toArray]
              try simp only [List.getElem_cons_succ]
              try simp only [List.getElem_cons_zero]
              try simp only [Act.put]
              try simp only [List.setIfInBounds_toArray]
              try simp only [List.set_cons_succ]
              try simp only [List.set_cons_zero]
              generalize World.alloc w11 (.cells #[.int .i64 3, .int .i64 4, .int .i64 (numAd ad0), .int .i64 (numAd adT), .string (adB ad0)] 56) = w12 at *
              refine wpAnyH_take (i := 20) (v := ?_) rfl (by kernel_rfl) (by kernel_rfl) (by kernel_rfl) (fun _ _ _ h => h) (Or.inl ⟨by kernel_rfl, fun W hSW => by go_simp; try with_reducible rfl⟩) (by assumption) ?_
              try simp only [List.getElem_toArray]
              try simp only [List.getElem_cons_succ]
              try simp only [List.getElem_cons_zero]
              try simp only [Act.put]
              try simp only [List.setIfInBounds_toArray]
              try simp only [List.set_cons_succ]
              try simp only [List.set_cons_zero]
              refine wpAnyH_ready (rs := [21]) (by kernel_rfl) (by simp) ?_
              refine AllReadyH.cons rfl (fun K hK => ?_) AllReadyH.nil
              go_simp
              refine (HNw.out _ _ _ _ w12 HA'''''''.out R3'''.out.rules R1.out.rules (I1''.out.mono (Nat.zero_le _))).mono ?_
              rintro e wz ⟨b, rfl, a, hn, hm, hk⟩
              have hSz : Kept (fun _ => False) wc wz := hS12.trans hk
              have HF := hid (And.intro (hn.lower (KW.out.trans hS12).size) (And.intro (MustAt.mk hm) (KW.out.trans hSz)))
              clear hn hm hk
              refine hK.out _ _ (hSz) (fun _ => ?_)
              clear hK K
              try simp only [List.getElem_toArray]
              try simp only [List.getElem_cons_succ]
              try simp only [List.getElem_cons_zero]
              try simp only [Act.put]
              try simp only [List.setIfInBounds_toArray]
              try simp only [List.set_cons_succ]
              try simp only [List.set_cons_zero]
              refine wpAnyH_take (i := 22) (v := ?_) rfl (by kernel_rfl) (by kernel_rfl) (by kernel_rfl) (fun _ _ _ h => h) (Or.inl ⟨by kernel_rfl, fun W hSW => by go_simp; try with_reducible rfl⟩) (by assumption) ?_
              try simp only [List.getElem_toArray]
              try simp only [List.getElem_cons_succ]
              try simp only [List.getElem_cons_zero]
              try simp only [Act.put]
              try simp only [List.setIfInBounds_toArray]
              try simp only [List.set_cons_succ]
              try simp only [List.set_cons_zero]
              refine wpAnyH_take (i := 23) (v := ?_) rfl (by kernel_rfl) (by kernel_rfl) (by kernel_rfl) (fun _ _ _ h => h) (Or.inl ⟨by kernel_rfl, fun W hSW => by go_simp; try with_reducible rfl⟩) (by assumption) ?_
              try simp only [List.getElem_toArray]
              try simp only [List.getElem_cons_succ]
              try simp only [List.getElem_cons_zero]
              try simp only [Act.put]
              try simp only [List.setIfInBounds_toArray]
              try simp only [List.set_cons_succ]
              try simp only [List.set_cons_zero]
              refine wpAnyH_take (i := 24) (v := ?_) rfl (by kernel_rfl) (by kernel_rfl) (by kernel_rfl) (fun _ _ _ h => h) (Or.inl ⟨by kernel_rfl, fun W hSW => by go_simp; try with_reducible rfl⟩) (by assumption) ?_
              try simp only [List.getElem_toArray]
              try simp only [List.getElem_cons_succ]
              try simp only [List.getElem_cons_zero]
              try simp only [Act.put]
              try simp only [List.setIfInBounds_toArray]
              try simp only [List.set_cons_succ]
              try simp only [List.set_cons_zero]
              refine wpAnyH_take (i := 25) (v := ?_) rfl (by kernel_rfl) (by kernel_rfl) (by kernel_rfl) (fun _ _ _ h => h) (Or.inl ⟨by kernel_rfl, fun W hSW => by go_simp; try with_reducible rfl⟩) (by assumption) ?_
              try simp only [List.getElem_toArray]
              try simp only [List.getElem_cons_succ]
              try simp only [List.getElem_cons_zero]
              try simp only [Act.put]
              try simp only [List.setIfInBounds_toArray]
              try simp only [List.set_cons_succ]
              try simp only [List.set_cons_zero]
              refine wpAnyH_done (by kernel_rfl) ?_ _
              clear hSz
              go_wp2
              go_ret2
              exact ⟨b, rfl, a, HF.out.1, HF.out.2.1, HF.out.2.2⟩
          · skip
            go_simp
            refine (HR0.out _).mono ?_
            rintro e w13 ⟨rfl, hk⟩
            have hS13 : Kept (fun _ => False) wc w13 := hS3.trans hk
            have HA'''' := hid (HA'''.out.kept0 hk)
            clear hk
            refine hK.out _ _ (hS13) (fun _ => ?_)
            clear hK K
            try simp only [List.getElem_toArray]
            try simp only [List.getElem_cons_succ]
            try simp only [List.getElem_cons_zero]
            try simp only [Act.put]
            try simp only [List.setIfInBounds_toArray]
            try simp only [List.set_cons_succ]
            try simp only [List.set_cons_zero]
            refine wpAnyH_ready (rs := [10, 14, 15]) (by kernel_rfl) (by simp) ?_
            refine AllReadyH.cons rfl (fun K hK => ?_) (AllReadyH.cons rfl (fun K hK => ?_) (AllReadyH.cons rfl (fun K hK => ?_) AllReadyH.nil))
            · skip
              go_simp
              have hk := (Kept.refl (fun _ => False) w13).alloc (.cells #[.int .i64 3, .int .i64 4, .int .i64 (numAd ad1), .int .i64 (numAd adT), .string (adB ad1), .int .i64 129, .int .i64 4, .int .i64 (numAd ad1), .int .i64 (numAd adT), .string (adB ad1), .int .i64 131, .int .i64 4, .int .i64 (numAd ad1), .int .i64 (numAd adT), .string (adB ad1)] 56)
              have hS14 := hS13.trans hk
              have HA''''' := hid (HA''''.out.kept0 hk)
              have R3 := hid (ownR_new3 w13)
              clear hk
              refine hK.out _ _ (hS14) (fun _ => ?_)
              clear hK K
              try simp only [List.getElem_toArray]
              try simp only [List.getElem_cons_succ]
              try simp only [List.getElem_cons_zero]
              try simp only [Act.put]
              try simp only [List.setIfInBounds_toArray]
              try simp only [List.set_cons_succ]
              try simp only [List.set_cons_zero]
              generalize World.alloc w13 (.cells #[.int .i64 3, .int .i64 4, .int .i64 (numAd ad1), .int .i64 (numAd adT), .string (adB ad1), .int .i64 129, .int .i64 4, .int .i64 (numAd ad1), .int .i64 (numAd adT), .string (adB ad1), .int .i64 131, .int .i64 4, .int .i64 (numAd ad1), .int .i64 (numAd adT), .string (adB ad1)] 56) = w14 at *
              refine wpAnyH_ready (rs := [14, 15]) (by kernel_rfl) (by simp) ?_
              refine AllReadyH.cons rfl (fun K hK => ?_) (AllReadyH.cons rfl (fun K hK => ?_) AllReadyH.nil)
              · skip
                go_simp
                have hk := (Kept.refl (fun _ => False) w14).alloc (.cells #[.int .i64 3, .int .i64 4, .int .i64 (numAd ad0), .int .i64 (numAd adT), .string (adB ad0)] 56)
                have hS15 := hS14.trans hk
                have HA'''''' := hid (HA'''''.out.kept0 hk)
                have R3' := hid (R3.out.kept0 hk)
                have R1 := hid (ownR_new0 w14)
                clear hk
                refine hK.out _ _ (hS15) (fun _ => ?_)
                clear hK K
                try simp only [List.getElem_toArray]
                try simp only [List.getElem_cons_succ]
                try simp only [List.getElem_cons_zero]
                try simp only [Act.put]
                try simp only [List.setIfInBounds_toArray]
                try simp only [List.set_cons_succ]
                try simp only [List.set_cons_zero]
                generalize World.alloc w14 (.cells #[.int .i64 3, .int .i64 4, .int .i64 (numAd ad0), .int .i64 (numAd adT), .string (adB ad0)] 56) = w15 at *
                refine wpAnyH_ready (rs := [15]) (by kernel_rfl) (by simp) ?_
                refine AllReadyH.cons rfl (fun K hK => ?_) AllReadyH.nil
                go_simp
                have hk := (Kept.refl (fun _ => False) w15).alloc (.cells #[.int .i64 3] 3)
                have hS16 := hS15.trans hk
                have HA''''''' := hid (HA''''''.out.kept0 hk)
                have R3'' := hid (R3'.out.kept0 hk)
                have R1' := hid (R1.out.kept0 hk)
                have I1 := hid (ownI_new w15)
                clear hk
                refine hK.out _ _ (hS16) (fun _ => ?_)
                clear hK K
                try simp only [List.getElem_toArray]
                try simp only [List.getElem_cons_succ]
                try simp only [List.getElem_cons_zero]
                try simp only [Act.put]
                try simp only [List.setIfInBounds_toArray]
                try simp only [List.set_cons_succ]
                try simp only [List.set_cons_zero]
                generalize World.alloc w15 (.cells #[.int .i64 3] 3) = w16 at *
                refine wpAnyH_take (i := 20) (v := ?_) rfl (by kernel_rfl) (by kernel_rfl) (by kernel_rfl) (fun _ _ _ h => h) (Or.inl ⟨by kernel_rfl, fun W hSW => by go_simp; try with_reducible rfl⟩) (by assumption) ?_
                try simp only [List.getElem_toArray]
                try simp only [List.getElem_cons_succ]
                try simp only [List.getElem_cons_zero]
                try simp only [Act.put]
                try simp only [List.setIfInBounds_toArray]
                try simp only [List.set_cons_succ]
                try simp only [List.set_cons_zero]
                refine wpAnyH_ready (rs := [21]) (by kernel_rfl) (by simp) ?_
                refine AllReadyH.cons rfl (fun K hK => ?_) AllReadyH.nil
                go_simp
                refine (HNw.out _ _ _ _ w16 HA'''''''.out R3''.out.rules R1'.out.rules (I1.out.mono (Nat.zero_le _))).mono ?_
                rintro e wz ⟨b, rfl, a, hn, hm, hk⟩
                have hSz : Kept (fun _ => False) wc wz := hS16.trans hk
                have HF := hid (And.intro (hn.lower (KW.out.trans hS16).size) (And.intro (MustAt.mk hm) (KW.out.trans hSz)))
                clear hn hm hk
                refine hK.out _ _ (hSz) (fun _ => ?_)
                clear hK K
                try simp only [List.getElem_toArray]
                try simp only [List.getElem_cons_succ]
                try simp only [List.getElem_cons_zero]
                try simp only [Act.put]
                try simp only [List.setIfInBounds_toArray]
                try simp only [List.set_cons_succ]
                try simp only [List.set_cons_zero]
                refine wpAnyH_take (i := 22) (v := ?_) rfl (by kernel_rfl) (by kernel_rfl) (by kernel_rfl) (fun _ _ _ h => h) (Or.inl ⟨by kernel_rfl, fun W hSW => by go_simp; try with_reducible rfl⟩) (by assumption) ?_
                try simp only [List.getElem_toArray]
                try simp only [List.getElem_cons_succ]
                try simp only [List.getElem_cons_zero]
                try simp only [Act.put]
                try simp only [List.setIfInBounds_toArray]
                try simp only [List.set_cons_succ]
                try simp only [List.set_cons_zero]
                refine wpAnyH_take (i := 23) (v := ?_) rfl (by kernel_rfl) (by kernel_rfl) (by kernel_rfl) (fun _ _ _ h => h) (Or.inl ⟨by kernel_rfl, fun W hSW => by go_simp; try with_reducible rfl⟩) (by assumption) ?_
                try simp only [List.getElem_toArray]
                try simp only [List.getElem_cons_succ]
                try simp only [List.getElem_cons_zero]
                try simp only [Act.put]
                try simp only [List.setIfInBounds_toArray]
                try simp only [List.set_cons_succ]
                try simp only [List.set_cons_zero]
                refine wpAnyH_take (i := 24) (v := ?_) rfl (by kernel_rfl) (by kernel_rfl) (by kernel_rfl) (fun _ _ _ h => h) (Or.inl ⟨by kernel_rfl, fun W hSW => by go_simp; try with_reducible rfl⟩) (by assumption) ?_
                try simp only [List.getElem_toArray]
                try simp only [List.getElem_cons_succ]
                try simp only [List.getElem_cons_zero]
                try simp only [Act.put]
                try simp only [List.setIfInBounds_toArray]
                try simp only [List.set_cons_succ]
                try simp only [List.set_cons_zero]
                refine wpAnyH_take (i := 25) (v := ?_) rfl (by kernel_rfl) (by kernel_rfl) (by kernel_rfl) (fun _ _ _ h => h) (Or.inl ⟨by kernel_rfl, fun W hSW => by go_simp; try with_reducible rfl⟩) (by assumption) ?_
                try simp only [List.getElem_toArray]
                try simp only [List.getElem_cons_succ]
                try simp only [List.getElem_cons_zero]
                try simp only [Act.put]
                try simp only [List.setIfInBounds_toArray]
                try simp only [List.set_cons_succ]
                try simp only [List.set_cons_zero]
                refine wpAnyH_done (by kernel_rfl) ?_ _
                clear hSz
                go_wp2
                go_ret2
                exact ⟨b, rfl, a, HF.out.1, HF.out.2.1, HF.out.2.2⟩
              · skip
                go_simp
                have hk := (Kept.refl (fun _ => False) w14).alloc (.cells #[.int .i64 3] 3)
                have hS17 := hS14.trans hk
                have HA'''''' := hid (HA'''''.out.kept0 hk)
                have R3' := hid (R3.out.kept0 hk)
                have I1 := hid (ownI_new w14)
                clear hk
                refine hK.out _ _ (hS17) (fun _ => ?_)
                clear hK K
                try simp only [List.getElem_toArray]
                try simp only [List.getElem_cons_succ]
                try simp only [List.getElem_cons_zero]
                try simp only [Act.put]
                try simp only [List.setIfInBounds_toArray]
                try simp only [List.set_cons_succ]
                try simp only [List.set_cons_zero]
                generalize World.alloc w14 (.cells #[.int .i64 3] 3) = w17 at *
                refine wpAnyH_ready (rs := [14]) (by kernel_rfl) (by simp) ?_
                refine AllReadyH.cons rfl (fun K hK => ?_) AllReadyH.nil
                go_simp
                have hk := (Kept.refl (fun _ => False) w17).alloc (.cells #[.int .i64 3, .int .i64 4, .int .i64 (numAd ad0), .int .i64 (numAd adT), .string (adB ad0)] 56)
                have hS18 := hS17.trans hk
                have HA''''''' := hid (HA''''''.out.kept0 hk)
                have R3'' := hid (R3'.out.kept0 hk)
                have I1' := hid (I1.out.kept0 hk)
                have R1 := hid (ownR_new0 w17)
                clear hk
                refine hK.out _ _ (hS18) (fun _ => ?_)
                clear hK K
                try simp only [List.getElem_toArray]
                try simp only [List.getElem_cons_succ]
                try simp only [List.getElem_cons_zero]
                try simp only [Act.put]
                try simp only [List.setIfInBounds_toArray]
                try simp only [List.set_cons_succ]
                try simp only [List.set_cons_zero]
                generalize World.alloc w17 (.cells #[.int .i64 3, .int .i64 4, .int .i64 (numAd ad0), .int .i64 (numAd adT), .string (adB ad0)] 56) = w18 at *
                refine wpAnyH_take (i := 20) (v := ?_) rfl (by kernel_rfl) (by kernel_rfl) (by kernel_rfl) (fun _ _ _ h => h) (Or.inl ⟨by kernel_rfl, fun W hSW => by go_simp; try with_reducible rfl⟩) (by assumption) ?_
                try simp only [List.getElem_toArray]
                try simp only [List.getElem_cons_succ]
                try simp only [List.getElem_cons_zero]
                try simp only [Act.put]
                try simp only [List.setIfInBounds_toArray]
                try simp only [List.set_cons_succ]
                try simp only [List.set_cons_zero]
                refine wpAnyH_ready (rs := [21]) (by kernel_rfl) (by simp) ?_
                refine AllReadyH.cons rfl (fun K hK => ?_) AllReadyH.nil
                go_simp
                refine (HNw.out _ _ _ _ w18 HA'''''''.out R3''.out.rules R1.out.rules (I1'.out.mono (Nat.zero_le _))).mono ?_
                rintro e wz ⟨b, rfl, a, hn, hm, hk⟩
                have hSz : Kept (fun _ => False) wc wz := hS18.trans hk
                have HF := hid (And.intro (hn.lower (KW.out.trans hS18).size) (And.intro (MustAt.mk hm) (KW.out.trans hSz)))
                clear hn hm hk
                refine hK.out _ _ (hSz) (fun _ => ?_)
                clear hK K
                try simp only [List.getElem_toArray]
                try simp only [List.getElem_cons_succ]
                try simp only [List.getElem_cons_zero]
                try simp only [Act.put]
                try simp only [List.setIfInBounds_toArray]
                try simp only [List.set_cons_succ]
                try simp only [List.set_cons_zero]
                refine wpAnyH_take (i := 22) (v := ?_) rfl (by kernel_rfl) (by kernel_rfl) (by kernel_rfl) (fun _ _ _ h => h) (Or.inl ⟨by kernel_rfl, fun W hSW => by go_simp; try with_reducible rfl⟩) (by assumption) ?_
                try simp only [List.getElem_toArray]
                try simp only [List.getElem_cons_succ]
                try simp only [List.getElem_cons_zero]
                try simp only [Act.put]
                try simp only [List.setIfInBounds_toArray]
                try simp only [List.set_cons_succ]
                try simp only [List.set_cons_zero]
                refine wpAnyH_take (i := 23) (v := ?_) rfl (by kernel_rfl) (by kernel_rfl) (by kernel_rfl) (fun _ _ _ h => h) (Or.inl ⟨by kernel_rfl, fun W hSW => by go_simp; try with_reducible rfl⟩) (by assumption) ?_
                try simp only [List.getElem_toArray]
                try simp only [List.getElem_cons_succ]
                try simp only [List.getElem_cons_zero]
                try simp only [Act.put]
                try simp only [List.setIfInBounds_toArray]
                try simp only [List.set_cons_succ]
                try simp only [List.set_cons_zero]
                refine wpAnyH_take (i := 24) (v := ?_) rfl (by kernel_rfl) (by kernel_rfl) (by kernel_rfl) (fun _ _ _ h => h) (Or.inl ⟨by kernel_rfl, fun W hSW => by go_simp; try with_reducible rfl⟩) (by assumption) ?_
                try simp only [List.getElem_toArray]
                try simp only [List.getElem_cons_succ]
                try simp only [List.getElem_cons_zero]
                try simp only [Act.put]
                try simp only [List.setIfInBounds_toArray]
                try simp only [List.set_cons_succ]
                try simp only [List.set_cons_zero]
                refine wpAnyH_take (i := 25) (v := ?_) rfl (by kernel_rfl) (by kernel_rfl) (by kernel_rfl) (fun _ _ _ h => h) (Or.inl ⟨by kernel_rfl, fun W hSW => by go_simp; try with_reducible rfl⟩) (by assumption) ?_
                try simp only [List.getElem_toArray]
                try simp only [List.getElem_cons_succ]
                try simp only [List.getElem_cons_zero]
                try simp only [Act.put]
                try simp only [List.setIfInBounds_toArray]
                try simp only [List.set_cons_succ]
                try simp only [List.set_cons_zero]
                refine wpAnyH_done (by kernel_rfl) ?_ _
                clear hSz
                go_wp2
                go_ret2
                exact ⟨b, rfl, a, HF.out.1, HF.out.2.1, HF.out.2.2⟩
            · skip
              go_simp
              have hk := (Kept.refl (fun _ => False) w13).alloc (.cells #[.int .i64 3, .int .i64 4, .int .i64 (numAd ad0), .int .i64 (numAd adT), .string (adB ad0)] 56)
              have hS19 := hS13.trans hk
              have HA''''' := hid (HA''''.out.kept0 hk)
              have R1 := hid (ownR_new0 w13)
              clear hk
              refine hK.out _ _ (hS19) (fun _ => ?_)
              clear hK K
              try simp only [List.getElem_toArray]
              try simp only [List.getElem_cons_succ]
              try simp only [List.getElem_cons_zero]
              try simp only [Act.put]
              try simp only [List.setIfInBounds_toArray]
              try simp only [List.set_cons_succ]
              try simp only [List.set_cons_zero]
              generalize World.alloc w13 (.cells #[.int .i64 3, .int .i64 4, .int .i64 (numAd ad0), .int .i64 (numAd adT), .string (adB ad0)] 56) = w19 at *
              refine wpAnyH_ready (rs := [10, 15]) (by kernel_rfl) (by simp) ?_
              refine AllReadyH.cons rfl (fun K hK => ?_) (AllReadyH.cons rfl (fun K hK => ?_) AllReadyH.nil)
              · skip
                go_simp
                have hk := (Kept.refl (fun _ => False) w19).alloc (.cells #[.int .i64 3, .int .i64 4, .int .i64 (numAd ad1), .int .i64 (numAd adT), .string (adB ad1), .int .i64 129, .int .i64 4, .int .i64 (numAd ad1), .int .i64 (numAd adT), .string (adB ad1), .int .i64 131, .int .i64 4, .int .i64 (numAd ad1), .int .i64 (numAd adT), .string (adB ad1)] 56)
                have hS20 := hS19.trans hk
                have HA'''''' := hid (HA'''''.out.kept0 hk)
                have R1' := hid (R1.out.kept0 hk)
                have R3 := hid (ownR_new3 w19)
                clear hk
                refine hK.out _ _ (hS20) (fun _ => ?_)
                clear hK K
                try simp only [List.getElem_toArray]
                try simp only [List.getElem_cons_succ]
                try simp only [List.getElem_cons_zero]
                try simp only [Act.put]
                try simp only [List.setIfInBounds_toArray]
                try simp only [List.set_cons_succ]
                try simp only [List.set_cons_zero]
                generalize World.alloc w19 (.cells #[.int .i64 3, .int .i64 4, .int .i64 (numAd ad1), .int .i64 (numAd adT), .string (adB ad1), .int .i64 129, .int .i64 4, .int .i64 (numAd ad1), .int .i64 (numAd adT), .string (adB ad1), .int .i64 131, .int .i64 4, .int .i64 (numAd ad1), .int .i64 (numAd adT), .string (adB ad1)] 56) = w20 at *
                refine wpAnyH_ready (rs := [15]) (by kernel_rfl) (by simp) ?_
                refine AllReadyH.cons rfl (fun K hK => ?_) AllReadyH.nil
                go_simp
                have hk := (Kept.refl (fun _ => False) w20).alloc (.cells #[.int .i64 3] 3)
                have hS21 := hS20.trans hk
                have HA''''''' := hid (HA''''''.out.kept0 hk)
                have R1'' := hid (R1'.out.kept0 hk)
                have R3' := hid (R3.out.kept0 hk)
                have I1 := hid (ownI_new w20)
                clear hk
                refine hK.out _ _ (hS21) (fun _ => ?_)
                clear hK K
                try simp only [List.getElem_toArray]
                try simp only [List.getElem_cons_succ]
                try simp only [List.getElem_cons_zero]
                try simp only [Act.put]
                try simp only [List.setIfInBounds_toArray]
                try simp only [List.set_cons_succ]
                try simp only [List.set_cons_zero]
                generalize World.alloc w20 (.cells #[.int .i64 3] 3) = w21 at *
                refine wpAnyH_take (i := 20) (v := ?_) rfl (by kernel_rfl) (by kernel_rfl) (by kernel_rfl) (fun _ _ _ h => h) (Or.inl ⟨by kernel_rfl, fun W hSW => by go_simp; try with_reducible rfl⟩) (by assumption) ?_
                try simp only [List.getElem_toArray]
                try simp only [List.getElem_cons_succ]
                try simp only [List.getElem_cons_zero]
                try simp only [Act.put]
                try simp only [List.setIfInBounds_toArray]
                try simp only [List.set_cons_succ]
                try simp only [List.set_cons_zero]
                refine wpAnyH_ready (rs := [21]) (by kernel_rfl) (by simp) ?_
                refine AllReadyH.cons rfl (fun K hK => ?_) AllReadyH.nil
                go_simp
                refine (HNw.out _ _ _ _ w21 HA'''''''.out R3'.out.rules R1''.out.rules (I1.out.mono (Nat.zero_le _))).mono ?_
                rintro e wz ⟨b, rfl, a, hn, hm, hk⟩
                have hSz : Kept (fun _ => False) wc wz := hS21.trans hk
                have HF := hid (And.intro (hn.lower (KW.out.trans hS21).size) (And.intro (MustAt.mk hm) (KW.out.trans hSz)))
                clear hn hm hk
                refine hK.out _ _ (hSz) (fun _ => ?_)
                clear hK K
                try simp only [List.getElem_toArray]
                try simp only [List.getElem_cons_succ]
                try simp only [List.getElem_cons_zero]
                try simp only [Act.put]
                try simp only [List.setIfInBounds_toArray]
                try simp only [List.set_cons_succ]
                try simp only [List.set_cons_zero]
                refine wpAnyH_take (i := 22) (v := ?_) rfl (by kernel_rfl) (by kernel_rfl) (by kernel_rfl) (fun _ _ _ h => h) (Or.inl ⟨by kernel_rfl, fun W hSW => by go_simp; try with_reducible rfl⟩) (by assumption) ?_
                try simp only [List.getElem_toArray]
                try simp only [List.getElem_cons_succ]
                try simp only [List.getElem_cons_zero]
                try simp only [Act.put]
                try simp only [List.setIfInBounds_toArray]
                try simp only [List.set_cons_succ]
                try simp only [List.set_cons_zero]
                refine wpAnyH_take (i := 23) (v := ?_) rfl (by kernel_rfl) (by kernel_rfl) (by kernel_rfl) (fun _ _ _ h => h) (Or.inl ⟨by kernel_rfl, fun W hSW => by go_simp; try with_reducible rfl⟩) (by assumption) ?_
                try simp only [List.getElem_toArray]
                try simp only [List.getElem_cons_succ]
                try simp only [List.getElem_cons_zero]
                try simp only [Act.put]
                try simp only [List.setIfInBounds_toArray]
                try simp only [List.set_cons_succ]
                try simp only [List.set_cons_zero]
                refine wpAnyH_take (i := 24) (v := ?_) rfl (by kernel_rfl) (by kernel_rfl) (by kernel_rfl) (fun _ _ _ h => h) (Or.inl ⟨by kernel_rfl, fun W hSW => by go_simp; try with_reducible rfl⟩) (by assumption) ?_
                try simp only [List.getElem_toArray]
                try simp only [List.getElem_cons_succ]
                try simp only [List.getElem_cons_zero]
                try simp only [Act.put]
                try simp only [List.setIfInBounds_toArray]
                try simp only [List.set_cons_succ]
                try simp only [List.set_cons_zero]
                refine wpAnyH_take (i := 25) (v := ?_) rfl (by kernel_rfl) (by kernel_rfl) (by kernel_rfl) (fun _ _ _ h => h) (Or.inl ⟨by kernel_rfl, fun W hSW => by go_simp; try with_reducible rfl⟩) (by assumption) ?_
                try simp only [List.getElem_toArray]
                try simp only [List.getElem_cons_succ]
                try simp only [List.getElem_cons_zero]
                try simp only [Act.put]
                try simp only [List.setIfInBounds_toArray]
                try simp only [List.set_cons_succ]
                try simp only [List.set_cons_zero]
                refine wpAnyH_done (by kernel_rfl) ?_ _
                clear hSz
                go_wp2
                go_ret2
                exact ⟨b, rfl, a, HF.out.1, HF.out.2.1, HF.out.2.2⟩
              · skip
                go_simp
                have hk := (Kept.refl (fun _ => False) w19).alloc (.cells #[.int .i64 3] 3)
                have hS22 := hS19.trans hk
                have HA'''''' := hid (HA'''''.out.kept0 hk)
                have R1' := hid (R1.out.kept0 hk)
                have I1 := hid (ownI_new w19)
                clear hk
                refine hK.out _ _ (hS22) (fun _ => ?_)
                clear hK K
                try simp only [List.getElem_toArray]
                try simp only [List.getElem_cons_succ]
                try simp only [List.getElem_cons_zero]
                try simp only [Act.put]
                try simp only [List.setIfInBounds_toArray]
                try simp only [List.set_cons_succ]
                try simp only [List.set_cons_zero]
                generalize World.alloc w19 (.cells #[.int .i64 3] 3) = w22 at *
                refine wpAnyH_ready (rs := [10]) (by kernel_rfl) (by simp) ?_
                refine AllReadyH.cons rfl (fun K hK => ?_) AllReadyH.nil
                go_simp
                have hk := (Kept.refl (fun _ => False) w22).alloc (.cells #[.int .i64 3, .int .i64 4, .int .i64 (numAd ad1), .int .i64 (numAd adT), .string (adB ad1), .int .i64 129, .int .i64 4, .int .i64 (numAd ad1), .int .i64 (numAd adT), .string (adB ad1), .int .i64 131, .int .i64 4, .int .i64 (numAd ad1), .int .i64 (numAd adT), .string (adB ad1)] 56)
                have hS23 := hS22.trans hk
                have HA''''''' := hid (HA''''''.out.kept0 hk)
                have R1'' := hid (R1'.out.kept0 hk)
                have I1' := hid (I1.out.kept0 hk)
                have R3 := hid (ownR_new3 w22)
                clear hk
                refine hK.out _ _ (hS23) (fun _ => ?_)
                clear hK K
                try simp only [List.getElem_toArray]
                try simp only [List.getElem_cons_succ]
                try simp only [List.getElem_cons_zero]
                try simp only [Act.put]
                try simp only [List.setIfInBounds_toArray]
                try simp only [List.set_cons_succ]
                try simp only [List.set_cons_zero]
                generalize World.alloc w22 (.cells #[.int .i64 3, .int .i64 4, .int .i64 (numAd ad1), .int .i64 (numAd adT), .string (adB ad1), .int .i64 129, .int .i64 4, .int .i64 (numAd ad1), .int .i64 (numAd adT), .string (adB ad1), .int .i64 131, .int .i64 4, .int .i64 (numAd ad1), .int .i64 (numAd adT), .string (adB ad1)] 56) = w23 at *
                refine wpAnyH_take (i := 20) (v := ?_) rfl (by kernel_rfl) (by kernel_rfl) (by kernel_rfl) (fun _ _ _ h => h) (Or.inl ⟨by kernel_rfl, fun W hSW => by go_simp; try with_reducible rfl⟩) (by assumption) ?_
                try simp only [List.getElem_toArray]
                try simp only [List.getElem_cons_succ]
                try simp only [List.getElem_cons_zero]
                try simp only [Act.put]
                try simp only [List.setIfInBounds_toArray]
                try simp only [List.set_cons_succ]
                try simp only [List.set_cons_zero]
                refine wpAnyH_ready (rs := [21]) (by kernel_rfl) (by simp) ?_
                refine AllReadyH.cons rfl (fun K hK => ?_) AllReadyH.nil
                go_simp
                refine (HNw.out _ _ _ _ w23 HA'''''''.out R3.out.rules R1''.out.rules (I1'.out.mono (Nat.zero_le _))).mono ?_
                rintro e wz ⟨b, rfl, a, hn, hm, hk⟩
                have hSz : Kept (fun _ => False) wc wz := hS23.trans hk
                have HF := hid (And.intro (hn.lower (KW.out.trans hS23).size) (And.intro (MustAt.mk hm) (KW.out.trans hSz)))
                clear hn hm hk
                refine hK.out _ _ (hSz) (fun _ => ?_)
                clear hK K
                try simp only [List.getElem_toArray]
                try simp only [List.getElem_cons_succ]
                try simp only [List.getElem_cons_zero]
                try simp only [Act.put]
                try simp only [List.setIfInBounds_toArray]
                try simp only [List.set_cons_succ]
                try simp only [List.set_cons_zero]
                refine wpAnyH_take (i := 22) (v := ?_) rfl (by kernel_rfl) (by kernel_rfl) (by kernel_rfl) (fun _ _ _ h => h) (Or.inl ⟨by kernel_rfl, fun W hSW => by go_simp; try with_reducible rfl⟩) (by assumption) ?_
                try simp only [List.getElem_toArray]
                try simp only [List.getElem_cons_succ]
                try simp only [List.getElem_cons_zero]
                try simp only [Act.put]
                try simp only [List.setIfInBounds_toArray]
                try simp only [List.set_cons_succ]
                try simp only [List.set_cons_zero]
                refine wpAnyH_take (i := 23) (v := ?_) rfl (by kernel_rfl) (by kernel_rfl) (by kernel_rfl) (fun _ _ _ h => h) (Or.inl ⟨by kernel_rfl, fun W hSW => by go_simp; try with_reducible rfl⟩) (by assumption) ?_
                try simp only [List.getElem_toArray]
                try simp only [List.getElem_cons_succ]
                try simp only [List.getElem_cons_zero]
                try simp only [Act.put]
                try simp only [List.setIfInBounds_toArray]
                try simp only [List.set_cons_succ]
                try simp only [List.set_cons_zero]
                refine wpAnyH_take (i := 24) (v := ?_) rfl (by kernel_rfl) (by kernel_rfl) (by kernel_rfl) (fun _ _ _ h => h) (Or.inl ⟨by kernel_rfl, fun W hSW => by go_simp; try with_reducible rfl⟩) (by assumption) ?_
                try simp only [List.getElem_toArray]
                try simp only [List.getElem_cons_succ]
                try simp only [List.getElem_cons_zero]
                try simp only [Act.put]
                try simp only [List.setIfInBounds_toArray]
                try simp only [List.set_cons_succ]
                try simp only [List.set_cons_zero]
                refine wpAnyH_take (i := 25) (v := ?_) rfl (by kernel_rfl) (by kernel_rfl) (by kernel_rfl) (fun _ _ _ h => h) (Or.inl ⟨by kernel_rfl, fun W hSW => by go_simp; try with_reducible rfl⟩) (by assumption) ?_
                try simp only [List.getElem_toArray]
                try simp only [List.getElem_cons_succ]
                try simp only [List.getElem_cons_zero]
                try simp only [Act.put]
                try simp only [List.setIfInBounds_toArray]
                try simp only [List.set_cons_succ]
                try simp only [List.set_cons_zero]
                refine wpAnyH_done (by kernel_rfl) ?_ _
                clear hSz
                go_wp2
                go_ret2
                exact ⟨b, rfl, a, HF.out.1, HF.out.2.1, HF.out.2.2⟩
            · skip
              go_simp
              have hk := (Kept.refl (fun _ => False) w13).alloc (.cells #[.int .i64 3] 3)
              have hS24 := hS13.trans hk
              have HA''''' := hid (HA''''.out.kept0 hk)
              have I1 := hid (ownI_new w13)
              clear hk
              refine hK.out _ _ (hS24) (fun _ => ?_)
              clear hK K
              try simp only [List.getElem_toArray]
              try simp only [List.getElem_cons_succ]
              try simp only [List.getElem_cons_zero]
              try simp only [Act.put]
              try simp only [List.setIfInBounds_toArray]
              try simp only [List.set_cons_succ]
              try simp only [List.set_cons_zero]
              generalize World.alloc w13 (.cells #[.int .i64 3] 3) = w24 at *
              refine wpAnyH_ready (rs := [10, 14]) (by kernel_rfl) (by simp) ?_
              refine AllReadyH.cons rfl (fun K hK => ?_) (AllReadyH.cons rfl (fun K hK => ?_) AllReadyH.nil)
              · skip
                go_simp
                have hk := (Kept.refl (fun _ => False) w24).alloc (.cells #[.int .i64 3, .int .i64 4, .int .i64 (numAd ad1), .int .i64 (numAd adT), .string (adB ad1), .int .i64 129, .int .i64 4, .int .i64 (numAd ad1), .int .i64 (numAd adT), .string (adB ad1), .int .i64 131, .int .i64 4, .int .i64 (numAd ad1), .int .i64 (numAd adT), .string (adB ad1)] 56)
                have hS25 := hS24.trans hk
                have HA'''''' := hid (HA'''''.out.kept0 hk)
                have I1' := hid (I1.out.kept0 hk)
                have R3 := hid (ownR_new3 w24)
                clear hk
                refine hK.out _ _ (hS25) (fun _ => ?_)
                clear hK K
                try simp only [List.getElem_toArray]
                try simp only [List.getElem_cons_succ]
                try simp only [List.getElem_cons_zero]
                try simp only [Act.put]
                try simp only [List.setIfInBounds_toArray]
                try simp only [List.set_cons_succ]
                try simp only [List.set_cons_zero]
                generalize World.alloc w24 (.cells #[.int .i64 3, .int .i64 4, .int .i64 (numAd ad1), .int .i64 (numAd adT), .string (adB ad1), .int .i64 129, .int .i64 4, .int .i64 (numAd ad1), .int .i64 (numAd adT), .string (adB ad1), .int .i64 131, .int .i64 4, .int .i64 (numAd ad1), .int .i64 (numAd adT), .string (adB ad1)] 56) = w25 at *
                refine wpAnyH_ready (rs := [14]) (by kernel_rfl) (by simp) ?_
                refine AllReadyH.cons rfl (fun K hK => ?_) AllReadyH.nil
                go_simp
                have hk := (Kept.refl (fun _ => False) w25).alloc (.cells #[.int .i64 3, .int .i64 4, .int .i64 (numAd ad0), .int .i64 (numAd adT), .string (adB ad0)] 56)
                have hS26 := hS25.trans hk
                have HA''''''' := hid (HA''''''.out.kept0 hk)
                have I1'' := hid (I1'.out.kept0 hk)
                have R3' := hid (R3.out.kept0 hk)
                have R1 := hid (ownR_new0 w25)
                clear hk
                refine hK.out _ _ (hS26) (fun _ => ?_)
                clear hK K
                try simp only [List.getElem_toArray]
                try simp only [List.getElem_cons_succ]
                try simp only [List.getElem_cons_zero]
                try simp only [Act.put]
                try simp only [List.setIfInBounds_toArray]
                try simp only [List.set_cons_succ]
                try simp only [List.set_cons_zero]
                generalize World.alloc w25 (.cells #[.int .i64 3, .int .i64 4, .int .i64 (numAd ad0), .int .i64 (numAd adT), .string (adB ad0)] 56) = w26 at *
                refine wpAnyH_take (i := 20) (v := ?_) rfl (by kernel_rfl) (by kernel_rfl) (by kernel_rfl) (fun _ _ _ h => h) (Or.inl ⟨by kernel_rfl, fun W hSW => by go_simp; try with_reducible rfl⟩) (by assumption) ?_
                try simp only [List.getElem_toArray]
                try simp only [List.getElem_cons_succ]
                try simp only [List.getElem_cons_zero]
                try simp only [Act.put]
                try simp only [List.setIfInBounds_toArray]
                try simp only [List.set_cons_succ]
                try simp only [List.set_cons_zero]
                refine wpAnyH_ready (rs := [21]) (by kernel_rfl) (by simp) ?_
                refine AllReadyH.cons rfl (fun K hK => ?_) AllReadyH.nil
                go_simp
                refine (HNw.out _ _ _ _ w26 HA'''''''.out R3'.out.rules R1.out.rules (I1''.out.mono (Nat.zero_le _))).mono ?_
                rintro e wz ⟨b, rfl, a, hn, hm, hk⟩
                have hSz : Kept (fun _ => False) wc wz := hS26.trans hk
                have HF := hid (And.intro (hn.lower (KW.out.trans hS26).size) (And.intro (MustAt.mk hm) (KW.out.trans hSz)))
                clear hn hm hk
                refine hK.out _ _ (hSz) (fun _ => ?_)
                clear hK K
                try simp only [List.getElem_toArray]
                try simp only [List.getElem_cons_succ]
                try simp only [List.getElem_cons_zero]
                try simp only [Act.put]
                try simp only [List.setIfInBounds_toArray]
                try simp only [List.set_cons_succ]
                try simp only [List.set_cons_zero]
                refine wpAnyH_take (i := 22) (v := ?_) rfl (by kernel_rfl) (by kernel_rfl) (by kernel_rfl) (fun _ _ _ h => h) (Or.inl ⟨by kernel_rfl, fun W hSW => by go_simp; try with_reducible rfl⟩) (by assumption) ?_
                try simp only [List.getElem_toArray]
                try simp only [List.getElem_cons_succ]
                try simp only [List.getElem_cons_zero]
                try simp only [Act.put]
                try simp only [List.setIfInBounds_toArray]
                try simp only [List.set_cons_succ]
                try simp only [List.set_cons_zero]
                refine wpAnyH_take (i := 23) (v := ?_) rfl (by kernel_rfl) (by kernel_rfl) (by kernel_rfl) (fun _ _ _ h => h) (Or.inl ⟨by kernel_rfl, fun W hSW => by go_simp; try with_reducible rfl⟩) (by assumption) ?_
                try simp only [List.getElem_toArray]
                try simp only [List.getElem_cons_succ]
                try simp only [List.getElem_cons_zero]
                try simp only [Act.put]
                try simp only [List.setIfInBounds_toArray]
                try simp only [List.set_cons_succ]
                try simp only [List.set_cons_zero]
                refine wpAnyH_take (i := 24) (v := ?_) rfl (by kernel_rfl) (by kernel_rfl) (by kernel_rfl) (fun _ _ _ h => h) (Or.inl ⟨by kernel_rfl, fun W hSW => by go_simp; try with_reducible rfl⟩) (by assumption) ?_
                try simp only [List.getElem_toArray]
                try simp only [List.getElem_cons_succ]
                try simp only [List.getElem_cons_zero]
                try simp only [Act.put]
                try simp only [List.setIfInBounds_toArray]
                try simp only [List.set_cons_succ]
                try simp only [List.set_cons_zero]
                refine wpAnyH_take (i := 25) (v := ?_) rfl (by kernel_rfl) (by kernel_rfl) (by kernel_rfl) (fun _ _ _ h => h) (Or.inl ⟨by kernel_rfl, fun W hSW => by go_simp; try with_reducible rfl⟩) (by assumption) ?_
                try simp only [List.getElem_toArray]
                try simp only [List.getElem_cons_succ]
                try simp only [List.getElem_cons_zero]
                try simp only [Act.put]
                try simp only [List.setIfInBounds_toArray]
                try simp only [List.set_cons_succ]
                try simp only [List.set_cons_zero]
                refine wpAnyH_done (by kernel_rfl) ?_ _
                clear hSz
                go_wp2
                go_ret2
                exact ⟨b, rfl, a, HF.out.1, HF.out.2.1, HF.out.2.2⟩
              · skip
                go_simp
                have hk := (Kept.refl (fun _ => False) w24).alloc (.cells #[.int .i64 3, .int .i64 4, .int .i64 (numAd ad0), .int .i64 (numAd adT), .string (adB ad0)] 56)
                have hS27 := hS24.trans hk
                have HA'''''' := hid (HA'''''.out.kept0 hk)
                have I1' := hid (I1.out.kept0 hk)
                have R1 := hid (ownR_new0 w24)
                clear hk
                refine hK.out _ _ (hS27) (fun _ => ?_)
                clear hK K
                try simp only [List.getElem_toArray]
                try simp only [List.getElem_cons_succ]
                try simp only [List.getElem_cons_zero]
                try simp only [Act.put]
                try simp only [List.setIfInBounds_toArray]
                try simp only [List.set_cons_succ]
                try simp only [List.set_cons_zero]
                generalize World.alloc w24 (.cells #[.int .i64 3, .int .i64 4, .int .i64 (numAd ad0), .int .i64 (numAd adT), .string (adB ad0)] 56) = w27 at *
                refine wpAnyH_ready (rs := [10]) (by kernel_rfl) (by simp) ?_
                refine AllReadyH.cons rfl (fun K hK => ?_) AllReadyH.nil
                go_simp
                have hk := (Kept.refl (fun _ => False) w27).alloc (.cells #[.int .i64 3, .int .i64 4, .int .i64 (numAd ad1), .int .i64 (numAd adT), .string (adB ad1), .int .i64 129, .int .i64 4, .int .i64 (numAd ad1), .int .i64 (numAd adT), .string (adB ad1), .int .i64 131, .int .i64 4, .int .i64 (numAd ad1), .int .i64 (numAd adT), .string (adB ad1)] 56)
                have hS28 := hS27.trans hk
                have HA''''''' := hid (HA''''''.out.kept0 hk)
                have I1'' := hid (I1'.out.kept0 hk)
                have R1' := hid (R1.out.kept0 hk)
                have R3 := hid (ownR_new3 w27)
                clear hk
                refine hK.out _ _ (hS28) (fun _ => ?_)
                clear hK K
                try simp only [List.getElem_toArray]
                try simp only [List.getElem_cons_succ]
                try simp only [List.getElem_cons_zero]
                try simp only [Act.put]
                try simp only [List.setIfInBounds_toArray]
                try simp only [List.set_cons_succ]
                try simp only [List.set_cons_zero]
                generalize World.alloc w27 (.cells #[.int .i64 3, .int .i64 4, .int .i64 (numAd ad1), .int .i64 (numAd adT), .string (adB ad1), .int .i64 129, .int .i64 4, .int .i64 (numAd ad1), .int .i64 (numAd adT), .string (adB ad1), .int .i64 131, .int .i64 4, .int .i64 (numAd ad1), .int .i64 (numAd adT), .string (adB ad1)] 56) = w28 at *
                refine wpAnyH_take (i := 20) (v := ?_) rfl (by kernel_rfl) (by kernel_rfl) (by kernel_rfl) (fun _ _ _ h => h) (Or.inl ⟨by kernel_rfl, fun W hSW => by go_simp; try with_reducible rfl⟩) (by assumption) ?_
                try simp only [List.getElem_toArray]
                try simp only [List.getElem_cons_succ]
                try simp only [List.getElem_cons_zero]
                try simp only [Act.put]
                try simp only [List.setIfInBounds_toArray]
                try simp only [List.set_cons_succ]
                try simp only [List.set_cons_zero]
                refine wpAnyH_ready (rs := [21]) (by kernel_rfl) (by simp) ?_
                refine AllReadyH.cons rfl (fun K hK => ?_) AllReadyH.nil
                go_simp
                refine (HNw.out _ _ _ _ w28 HA'''''''.out R3.out.rules R1'.out.rules (I1''.out.mono (Nat.zero_le _))).mono ?_
                rintro e wz ⟨b, rfl, a, hn, hm, hk⟩
                have hSz : Kept (fun _ => False) wc wz := hS28.trans hk
                have HF := hid (And.intro (hn.lower (KW.out.trans hS28).size) (And.intro (MustAt.mk hm) (KW.out.trans hSz)))
                clear hn hm hk
                refine hK.out _ _ (hSz) (fun _ => ?_)
                clear hK K
                try simp only [List.getElem_toArray]
                try simp only [List.getElem_cons_succ]
                try simp only [List.getElem_cons_zero]
                try simp only [Act.put]
                try simp only [List.setIfInBounds_toArray]
                try simp only [List.set_cons_succ]
                try simp only [List.set_cons_zero]
                refine wpAnyH_take (i := 22) (v := ?_) rfl (by kernel_rfl) (by kernel_rfl) (by kernel_rfl) (fun _ _ _ h => h) (Or.inl ⟨by kernel_rfl, fun W hSW => by go_simp; try with_reducible rfl⟩) (by assumption) ?_
                try simp only [List.getElem_toArray]
                try simp only [List.getElem_cons_succ]
                try simp only [List.getElem_cons_zero]
                try simp only [Act.put]
                try simp only [List.setIfInBounds_toArray]
                try simp only [List.set_cons_succ]
                try simp only [List.set_cons_zero]
                refine wpAnyH_take (i := 23) (v := ?_) rfl (by kernel_rfl) (by kernel_rfl) (by kernel_rfl) (fun _ _ _ h => h) (Or.inl ⟨by kernel_rfl, fun W hSW => by go_simp; try with_reducible rfl⟩) (by assumption) ?_
                try simp only [List.getElem_toArray]
                try simp only [List.getElem_cons_succ]
                try simp only [List.getElem_cons_zero]
                try simp only [Act.put]
                try simp only [List.setIfInBounds_toArray]
                try simp only [List.set_cons_succ]
                try simp only [List.set_cons_zero]
                refine wpAnyH_take (i := 24) (v := ?_) rfl (by kernel_rfl) (by kernel_rfl) (by kernel_rfl) (fun _ _ _ h => h) (Or.inl ⟨by kernel_rfl, fun W hSW => by go_simp; try with_reducible rfl⟩) (by assumption) ?_
                try simp only [List.getElem_toArray]
                try simp only [List.getElem_cons_succ]
                try simp only [List.getElem_cons_zero]
                try simp only [Act.put]
                try simp only [List.setIfInBounds_toArray]
                try simp only [List.set_cons_succ]
                try simp only [List.set_cons_zero]
                refine wpAnyH_take (i := 25) (v := ?_) rfl (by kernel_rfl) (by kernel_rfl) (by kernel_rfl) (fun _ _ _ h => h) (Or.inl ⟨by kernel_rfl, fun W hSW => by go_simp; try with_reducible rfl⟩) (by assumption) ?_
                try simp only [List.getElem_toArray]
                try simp only [List.getElem_cons_succ]
                try simp only [List.getElem_cons_zero]
                try simp only [Act.put]
                try simp only [List.setIfInBounds_toArray]
                try simp only [List.set_cons_succ]
                try simp only [List.set_cons_zero]
                refine wpAnyH_done (by kernel_rfl) ?_ _
                clear hSz
                go_wp2
                go_ret2
                exact ⟨b, rfl, a, HF.out.1, HF.out.2.1, HF.out.2.2⟩
          · skip
            go_simp
            have hk := (Kept.refl (fun _ => False) w3).alloc (.cells #[.int .i64 3] 3)
            have hS29 := hS3.trans hk
            have HA'''' := hid (HA'''.out.kept0 hk)
            have I1 := hid (ownI_new w3)
            clear hk
            refine hK.out _ _ (hS29) (fun _ => ?_)
            clear hK K
            try simp only [List.getElem_toArray]
            try simp only [List.getElem_cons_succ]
            try simp only [List.getElem_cons_zero]
            try simp only [Act.put]
            try simp only [List.setIfInBounds_toArray]
            try simp only [List.set_cons_succ]
            try simp only [List.set_cons_zero]
            generalize World.alloc w3 (.cells #[.int .i64 3] 3) = w29 at *
            refine wpAnyH_ready (rs := [10, 13]) (by kernel_rfl) (by simp) ?_
            refine AllReadyH.cons rfl (fun K hK => ?_) (AllReadyH.cons rfl (fun K hK => ?_) AllReadyH.nil)
            · skip
              go_simp
              have hk := (Kept.refl (fun _ => False) w29).alloc (.cells #[.int .i64 3, .int .i64 4, .int .i64 (numAd ad1), .int .i64 (numAd adT), .string (adB ad1), .int .i64 129, .int .i64 4, .int .i64 (numAd ad1), .int .i64 (numAd adT), .string (adB ad1), .int .i64 131, .int .i64 4, .int .i64 (numAd ad1), .int .i64 (numAd adT), .string (adB ad1)] 56)
              have hS30 := hS29.trans hk
              have HA''''' := hid (HA''''.out.kept0 hk)
              have I1' := hid (I1.out.kept0 hk)
              have R3 := hid (ownR_new3 w29)
              clear hk
              refine hK.out _ _ (hS30) (fun _ => ?_)
              clear hK K
              try simp only [List.getElem_toArray]
              try simp only [List.getElem_cons_succ]
              try simp only [List.getElem_cons_zero]
              try simp only [Act.put]
              try simp only [List.setIfInBounds_toArray]
              try simp only [List.set_cons_succ]
              try simp only [List.set_cons_zero]
              generalize World.alloc w29 (.cells #[.int .i64 3, .int .i64 4, .int .i64 (numAd ad1), .int .i64 (numAd adT), .string (adB ad1), .int .i64 129, .int .i64 4, .int .i64 (numAd ad1), .int .i64 (numAd adT), .string (adB ad1), .int .i64 131, .int .i64 4, .int .i64 (numAd ad1), .int .i64 (numAd adT), .string (adB ad1)] 56) = w30 at *
              refine wpAnyH_ready (rs := [13]) (by kernel_rfl) (by simp) ?_
              refine AllReadyH.cons rfl (fun K hK => ?_) AllReadyH.nil
              go_simp
              refine (HR0.out _).mono ?_
              rintro e w31 ⟨rfl, hk⟩
              have hS31 : Kept (fun _ => False) wc w31 := hS30.trans hk
              have HA'''''' := hid (HA'''''.out.kept0 hk)
              have I1'' := hid (I1'.out.kept0 hk)
              have R3' := hid (R3.out.kept0 hk)
              clear hk
              refine hK.out _ _ (hS31) (fun _ => ?_)
              clear hK K
              try simp only [List.getElem_toArray]
              try simp only [List.getElem_cons_succ]
              try simp only [List.getElem_cons_zero]
              try simp only [Act.put]
              try simp only [List.setIfInBounds_toArray]
              try simp only [List.set_cons_succ]
              try simp only [List.set_cons_zero]
              refine wpAnyH_ready (rs := [14]) (by kernel_rfl) (by simp) ?_
              refine AllReadyH.cons rfl (fun K hK => ?_) AllReadyH.nil
              go_simp
              have hk := (Kept.refl (fun _ => False) w31).alloc (.cells #[.int .i64 3, .int .i64 4, .int .i64 (numAd ad0), .int .i64 (numAd adT), .string (adB ad0)] 56)
              have hS32 := hS31.trans hk
              have HA''''''' := hid (HA''''''.out.kept0 hk)
              have I1''' := hid (I1''.out.kept0 hk)
              have R3'' := hid (R3'.out.kept0 hk)
              have R1 := hid (ownR_new0 w31)
              clear hk
              refine hK.out _ _ (hS32) (fun _ => ?_)
              clear hK K
              try simp only [List.getElem_toArray]
              try simp only [List.getElem_cons_succ]
              try simp only [List.getElem_cons_zero]
              try simp only [Act.put]
              try simp only [List.setIfInBounds_toArray]
              try simp only [List.set_cons_succ]
              try simp only [List.set_cons_zero]
              generalize World.alloc w31 (.cells #[.int .i64 3, .int .i64 4, .int .i64 (numAd ad0), .int .i64 (numAd adT), .string (adB ad0)] 56) = w32 at *
              refine wpAnyH_take (i := 20) (v := ?_) rfl (by kernel_rfl) (by kernel_rfl) (by kernel_rfl) (fun _ _ _ h => h) (Or.inl ⟨by kernel_rfl, fun W hSW => by go_simp; try with_reducible rfl⟩) (by assumption) ?_
              try simp only [List.getElem_toArray]
              try simp only [List.getElem_cons_succ]
              try simp only [List.getElem_cons_zero]
              try simp only [Act.put]
              try simp only [List.setIfInBounds_toArray]
              try simp only [List.set_cons_succ]
              try simp only [List.set_cons_zero]
              refine wpAnyH_ready (rs := [21]) (by kernel_rfl) (by simp) ?_
              refine AllReadyH.cons rfl (fun K hK => ?_) AllReadyH.nil
              go_simp
              refine (HNw.out _ _ _ _ w32 HA'''''''.out R3''.out.rules R1.out.rules (I1'''.out.mono (Nat.zero_le _))).mono ?_
              rintro e wz ⟨b, rfl, a, hn, hm, hk⟩
              have hSz : Kept (fun _ => False) wc wz := hS32.trans hk
              have HF := hid (And.intro (hn.lower (KW.out.trans hS32).size) (And.intro (MustAt.mk hm) (KW.out.trans hSz)))
              clear hn hm hk
              refine hK.out _ _ (hSz) (fun _ => ?_)
              clear hK K
              try simp only [List.getElem_toArray]
              try simp only [List.getElem_cons_succ]
              try simp only [List.getElem_cons_zero]
              try simp only [Act.put]
              try simp only [List.setIfInBounds_toArray]
              try simp only [List.set_cons_succ]
              try simp only [List.set_cons_zero]
              refine wpAnyH_take (i := 22) (v := ?_) rfl (by kernel_rfl) (by kernel_rfl) (by kernel_rfl) (fun _ _ _ h => h) (Or.inl ⟨by kernel_rfl, fun W hSW => by go_simp; try with_reducible rfl⟩) (by assumption) ?_
              try simp only [List.getElem_toArray]
              try simp only [List.getElem_cons_succ]
              try simp only [List.getElem_cons_zero]
              try simp only [Act.put]
              try simp only [List.setIfInBounds_toArray]
              try simp only [List.set_cons_succ]
              try simp only [List.set_cons_zero]
              refine wpAnyH_take (i := 23) (v := ?_) rfl (by kernel_rfl) (by kernel_rfl) (by kernel_rfl) (fun _ _ _ h => h) (Or.inl ⟨by kernel_rfl, fun W hSW => by go_simp; try with_reducible rfl⟩) (by assumption) ?_
              try simp only [List.getElem_toArray]
              try simp only [List.getElem_cons_succ]
              try simp only [List.getElem_cons_zero]
              try simp only [Act.put]
              try simp only [List.setIfInBounds_toArray]
              try simp only [List.set_cons_succ]
              try simp only [List.set_cons_zero]
              refine wpAnyH_take (i := 24) (v := ?_) rfl (by kernel_rfl) (by kernel_rfl) (by kernel_rfl) (fun _ _ _ h => h) (Or.inl ⟨by kernel_rfl, fun W hSW => by go_simp; try with_reducible rfl⟩) (by assumption) ?_
              try simp only [List.getElem_toArray]
              try simp only [List.getElem_cons_succ]
              try simp only [List.getElem_cons_zero]
              try simp only [Act.put]
              try simp only [List.setIfInBounds_toArray]
              try simp only [List.set_cons_succ]
              try simp only [List.set_cons_zero]
              refine wpAnyH_take (i := 25) (v := ?_) rfl (by kernel_rfl) (by kernel_rfl) (by kernel_rfl) (fun _ _ _ h => h) (Or.inl ⟨by kernel_rfl, fun W hSW => by go_simp; try with_reducible rfl⟩) (by assumption) ?_
              try simp only [List.getElem_toArray]
              try simp only [List.getElem_cons_succ]
              try simp only [List.getElem_cons_zero]
              try simp only [Act.put]
              try simp only [List.setIfInBounds_toArray]
              try simp only [List.set_cons_succ]
              try simp only [List.set_cons_zero]
              refine wpAnyH_done (by kernel_rfl) ?_ _
              clear hSz
              go_wp2
              go_ret2
              exact ⟨b, rfl, a, HF.out.1, HF.out.2.1, HF.out.2.2⟩
            · skip
              go_simp
              refine (HR0.out _).mono ?_
              rintro e w33 ⟨rfl, hk⟩
              have hS33 : Kept (fun _ => False) wc w33 := hS29.trans hk
              have HA''''' := hid (HA''''.out.kept0 hk)
              have I1' := hid (I1.out.kept0 hk)
              clear hk
              refine hK.out _ _ (hS33) (fun _ => ?_)
              clear hK K
              try simp only [List.getElem_toArray]
              try simp only [List.getElem_cons_succ]
              try simp only [List.getElem_cons_zero]
              try simp only [Act.put]
              try simp only [List.setIfInBounds_toArray]
              try simp only [List.set_cons_succ]
              try simp only [List.set_cons_zero]
              refine wpAnyH_ready (rs := [10, 14]) (by kernel_rfl) (by simp) ?_
              refine AllReadyH.cons rfl (fun K hK => ?_) (AllReadyH.cons rfl (fun K hK => ?_) AllReadyH.nil)
              · skip
                go_simp
                have hk := (Kept.refl (fun _ => False) w33).alloc (.cells #[.int .i64 3, .int .i64 4, .int .i64 (numAd ad1), .int .i64 (numAd adT), .string (adB ad1), .int .i64 129, .int .i64 4, .int .i64 (numAd ad1), .int .i64 (numAd adT), .string (adB ad1), .int .i64 131, .int .i64 4, .int .i64 (numAd ad1), .int .i64 (numAd adT), .string (adB ad1)] 56)
                have hS34 := hS33.trans hk
                have HA'''''' := hid (HA'''''.out.kept0 hk)
                have I1'' := hid (I1'.out.kept0 hk)
                have R3 := hid (ownR_new3 w33)
                clear hk
                refine hK.out _ _ (hS34) (fun _ => ?_)
                clear hK K
                try simp only [List.getElem_toArray]
                try simp only [List.getElem_cons_succ]
                try simp only [List.getElem_cons_zero]
                try simp only [Act.put]
                try simp only [List.setIfInBounds_toArray]
                try simp only [List.set_cons_succ]
                try simp only [List.set_cons_zero]
                generalize World.alloc w33 (.cells #[.int .i64 3, .int .i64 4, .int .i64 (numAd ad1), .int .i64 (numAd adT), .string (adB ad1), .int .i64 129, .int .i64 4, .int .i64 (numAd ad1), .int .i64 (numAd adT), .string (adB ad1), .int .i64 131, .int .i64 4, .int .i64 (numAd ad1), .int .i64 (numAd adT), .string (adB ad1)] 56) = w34 at *
                refine wpAnyH_ready (rs := [14]) (by kernel_rfl) (by simp) ?_
                refine AllReadyH.cons rfl (fun K hK => ?_) AllReadyH.nil
                go_simp
                have hk := (Kept.refl (fun _ => False) w34).alloc (.cells #[.int .i64 3, .int .i64 4, .int .i64 (numAd ad0), .int .i64 (numAd adT), .string (adB ad0)] 56)
                have hS35 := hS34.trans hk
                have HA''''''' := hid (HA''''''.out.kept0 hk)
                have I1''' := hid (I1''.out.kept0 hk)
                have R3' := hid (R3.out.kept0 hk)
                have R1 := hid (ownR_new0 w34)
                clear hk
                refine hK.out _ _ (hS35) (fun _ => ?_)
                clear hK K
                try simp only [List.getElem_toArray]
                try simp only [List.getElem_cons_succ]
                try simp only [List.getElem_cons_zero]
                try simp only [Act.put]
                try simp only [List.setIfInBounds_toArray]
                try simp only [List.set_cons_succ]
                try simp only [List.set_cons_zero]
                generalize World.alloc w34 (.cells #[.int .i64 3, .int .i64 4, .int .i64 (numAd ad0), .int .i64 (numAd adT), .string (adB ad0)] 56) = w35 at *
                refine wpAnyH_take (i := 20) (v := ?_) rfl (by kernel_rfl) (by kernel_rfl) (by kernel_rfl) (fun _ _ _ h => h) (Or.inl ⟨by kernel_rfl, fun W hSW => by go_simp; try with_reducible rfl⟩) (by assumption) ?_
                try simp only [List.getElem_toArray]
                try simp only [List.getElem_cons_succ]
                try simp only [List.getElem_cons_zero]
                try simp only [Act.put]
                try simp only [List.setIfInBounds_toArray]
                try simp only [List.set_cons_succ]
                try simp only [List.set_cons_zero]
                refine wpAnyH_ready (rs := [21]) (by kernel_rfl) (by simp) ?_
                refine AllReadyH.cons rfl (fun K hK => ?_) AllReadyH.nil
                go_simp
                refine (HNw.out _ _ _ _ w35 HA'''''''.out R3'.out.rules R1.out.rules (I1'''.out.mono (Nat.zero_le _))).mono ?_
                rintro e wz ⟨b, rfl, a, hn, hm, hk⟩
                have hSz : Kept (fun _ => False) wc wz := hS35.trans hk
                have HF := hid (And.intro (hn.lower (KW.out.trans hS35).size) (And.intro (MustAt.mk hm) (KW.out.trans hSz)))
                clear hn hm hk
                refine hK.out _ _ (hSz) (fun _ => ?_)
                clear hK K
                try simp only [List.getElem_toArray]
                try simp only [List.getElem_cons_succ]
                try simp only [List.getElem_cons_zero]
                try simp only [Act.put]
                try simp only [List.setIfInBounds_toArray]
                try simp only [List.set_cons_succ]
                try simp only [List.set_cons_zero]
                refine wpAnyH_take (i := 22) (v := ?_) rfl (by kernel_rfl) (by kernel_rfl) (by kernel_rfl) (fun _ _ _ h => h) (Or.inl ⟨by kernel_rfl, fun W hSW => by go_simp; try with_reducible rfl⟩) (by assumption) ?_
                try simp only [List.getElem_toArray]
                try simp only [List.getElem_cons_succ]
                try simp only [List.getElem_cons_zero]
                try simp only [Act.put]
                try simp only [List.setIfInBounds_toArray]
                try simp only [List.set_cons_succ]
                try simp only [List.set_cons_zero]
                refine wpAnyH_take (i := 23) (v := ?_) rfl (by kernel_rfl) (by kernel_rfl) (by kernel_rfl) (fun _ _ _ h => h) (Or.inl ⟨by kernel_rfl, fun W hSW => by go_simp; try with_reducible rfl⟩) (by assumption) ?_
                try simp only [List.getElem_toArray]
                try simp only [List.getElem_cons_succ]
                try simp only [List.getElem_cons_zero]
                try simp only [Act.put]
                try simp only [List.setIfInBounds_toArray]
                try simp only [List.set_cons_succ]
                try simp only [List.set_cons_zero]
                refine wpAnyH_take (i := 24) (v := ?_) rfl (by kernel_rfl) (by kernel_rfl) (by kernel_rfl) (fun _ _ _ h => h) (Or.inl ⟨by kernel_rfl, fun W hSW => by go_simp; try with_reducible rfl⟩) (by assumption) ?_
                try simp only [List.getElem_toArray]
                try simp only [List.getElem_cons_succ]
                try simp only [List.getElem_cons_zero]
                try simp only [Act.put]
                try simp only [List.setIfInBounds_toArray]
                try simp only [List.set_cons_succ]
                try simp only [List.set_cons_zero]
                refine wpAnyH_take (i := 25) (v := ?_) rfl (by kernel_rfl) (by kernel_rfl) (by kernel_rfl) (fun _ _ _ h => h) (Or.inl ⟨by kernel_rfl, fun W hSW => by go_simp; try with_reducible rfl⟩) (by assumption) ?_
                try simp only [List.getElem_toArray]
                try simp only [List.getElem_cons_succ]
                try simp only [List.getElem_cons_zero]
                try simp only [Act.put]
                try simp only [List.setIfInBounds_toArray]
                try simp only [List.set_cons_succ]
                try simp only [List.set_cons_zero]
                refine wpAnyH_done (by kernel_rfl) ?_ _
                clear hSz
                go_wp2
                go_ret2
                exact ⟨b, rfl, a, HF.out.1, HF.out.2.1, HF.out.2.2⟩
              · skip
                go_simp
                have hk := (Kept.refl (fun _ => False) w33).alloc (.cells #[.int .i64 3, .int .i64 4, .int .i64 (numAd ad0), .int .i64 (numAd adT), .string (adB ad0)] 56)
                have hS36 := hS33.trans hk
                have HA'''''' := hid (HA'''''.out.kept0 hk)
                have I1'' := hid (I1'.out.kept0 hk)
                have R1 := hid (ownR_new0 w33)
                clear hk
                refine hK.out _ _ (hS36) (fun _ => ?_)
                clear hK K
                try simp only [List.getElem_toArray]
                try simp only [List.getElem_cons_succ]
                try simp only [List.getElem_cons_zero]
                try simp only [Act.put]
                try simp only [List.setIfInBounds_toArray]
                try simp only [List.set_cons_succ]
                try simp only [List.set_cons_zero]
                generalize World.alloc w33 (.cells #[.int .i64 3, .int .i64 4, .int .i64 (numAd ad0), .int .i64 (numAd adT), .string (adB ad0)] 56) = w36 at *
                refine wpAnyH_ready (rs := [10]) (by kernel_rfl) (by simp) ?_
                refine AllReadyH.cons rfl (fun K hK => ?_) AllReadyH.nil
                go_simp
                have hk := (Kept.refl (fun _ => False) w36).alloc (.cells #[.int .i64 3, .int .i64 4, .int .i64 (numAd ad1), .int .i64 (numAd adT), .string (adB ad1), .int .i64 129, .int .i64 4, .int .i64 (numAd ad1), .int .i64 (numAd adT), .string (adB ad1), .int .i64 131, .int .i64 4, .int .i64 (numAd ad1), .int .i64 (numAd adT), .string (adB ad1)] 56)
                have hS37 := hS36.trans hk
                have HA''''''' := hid (HA''''''.out.kept0 hk)
                have I1''' := hid (I1''.out.kept0 hk)
                have R1' := hid (R1.out.kept0 hk)
                have R3 := hid (ownR_new3 w36)
                clear hk
                refine hK.out _ _ (hS37) (fun _ => ?_)
                clear hK K
                try simp only [List.getElem_toArray]
                try simp only [List.getElem_cons_succ]
                try simp only [List.getElem_cons_zero]
                try simp only [Act.put]
                try simp only [List.setIfInBounds_toArray]
                try simp only [List.set_cons_succ]
                try simp only [List.set_cons_zero]
                generalize World.alloc w36 (.cells #[.int .i64 3, .int .i64 4, .int .i64 (numAd ad1), .int .i64 (numAd adT), .string (adB ad1), .int .i64 129, .int .i64 4, .int .i64 (numAd ad1), .int .i64 (numAd adT), .string (adB ad1), .int .i64 131, .int .i64 4, .int .i64 (numAd ad1), .int .i64 (numAd adT), .string (adB ad1)] 56) = w37 at *
                refine wpAnyH_take (i := 20) (v := ?_) rfl (by kernel_rfl) (by kernel_rfl) (by kernel_rfl) (fun _ _ _ h => h) (Or.inl ⟨by kernel_rfl, fun W hSW => by go_simp; try with_reducible rfl⟩) (by assumption) ?_
                try simp only [List.getElem_toArray]
                try simp only [List.getElem_cons_succ]
                try simp only [List.getElem_cons_zero]
                try simp only [Act.put]
                try simp only [List.setIfInBounds_toArray]
                try simp only [List.set_cons_succ]
                try simp only [List.set_cons_zero]
                refine wpAnyH_ready (rs := [21]) (by kernel_rfl) (by simp) ?_
                refine AllReadyH.cons rfl (fun K hK => ?_) AllReadyH.nil
                go_simp
                refine (HNw.out _ _ _ _ w37 HA'''''''.out R3.out.rules R1'.out.rules (I1'''.out.mono (Nat.zero_le _))).mono ?_
                rintro e wz ⟨b, rfl, a, hn, hm, hk⟩
                have hSz : Kept (fun _ => False) wc wz := hS37.trans hk
                have HF := hid (And.intro (hn.lower (KW.out.trans hS37).size) (And.intro (MustAt.mk hm) (KW.out.trans hSz)))
                clear hn hm hk
                refine hK.out _ _ (hSz) (fun _ => ?_)
                clear hK K
                try simp only [List.getElem_toArray]
                try simp only [List.getElem_cons_succ]
                try simp only [List.getElem_cons_zero]
                try simp only [Act.put]
                try simp only [List.setIfInBounds_toArray]
                try simp only [List.set_cons_succ]
                try simp only [List.set_cons_zero]
                refine wpAnyH_take (i := 22) (v := ?_) rfl (by kernel_rfl) (by kernel_rfl) (by kernel_rfl) (fun _ _ _ h => h) (Or.inl ⟨by kernel_rfl, fun W hSW => by go_simp; try with_reducible rfl⟩) (by assumption) ?_
                try simp only [List.getElem_toArray]
                try simp only [List.getElem_cons_succ]
                try simp only [List.getElem_cons_zero]
                try simp only [Act.put]
                try simp only [List.setIfInBounds_toArray]
                try simp only [List.set_cons_succ]
                try simp only [List.set_cons_zero]
                refine wpAnyH_take (i := 23) (v := ?_) rfl (by kernel_rfl) (by kernel_rfl) (by kernel_rfl) (fun _ _ _ h => h) (Or.inl ⟨by kernel_rfl, fun W hSW => by go_simp; try with_reducible rfl⟩) (by assumption) ?_
                try simp only [List.getElem_toArray]
                try simp only [List.getElem_cons_succ]
                try simp only [List.getElem_cons_zero]
                try simp only [Act.put]
                try simp only [List.setIfInBounds_toArray]
                try simp only [List.set_cons_succ]
                try simp only [List.set_cons_zero]
                refine wpAnyH_take (i := 24) (v := ?_) rfl (by kernel_rfl) (by kernel_rfl) (by kernel_rfl) (fun _ _ _ h => h) (Or.inl ⟨by kernel_rfl, fun W hSW => by go_simp; try with_reducible rfl⟩) (by assumption) ?_
                try simp only [List.getElem_toArray]
                try simp only [List.getElem_cons_succ]
                try simp only [List.getElem_cons_zero]
                try simp only [Act.put]
                try simp only [List.setIfInBounds_toArray]
                try simp only [List.set_cons_succ]
                try simp only [List.set_cons_zero]
                refine wpAnyH_take (i := 25) (v := ?_) rfl (by kernel_rfl) (by kernel_rfl) (by kernel_rfl) (fun _ _ _ h => h) (Or.inl ⟨by kernel_rfl, fun W hSW => by go_simp; try with_reducible rfl⟩) (by assumption) ?_
                try simp only [List.getElem_toArray]
                try simp only [List.getElem_cons_succ]
                try simp only [List.getElem_cons_zero]
                try simp only [Act.put]
                try simp only [List.setIfInBounds_toArray]
                try simp only [List.set_cons_succ]
                try simp only [List.set_cons_zero]
                refine wpAnyH_done (by kernel_rfl) ?_ _
                clear hSz
                go_wp2
                go_ret2
                exact ⟨b, rfl, a, HF.out.1, HF.out.2.1, HF.out.2.2⟩
        · skip
          go_simp
          have hk := (Kept.refl (fun _ => False) w2).alloc (.cells #[.int .i64 3] 3)
          have hS38 := hS2.trans hk
          have HA''' := hid (HA''.out.kept0 hk)
          have I1 := hid (ownI_new w2)
          clear hk
          refine hK.out _ _ (hS38) (fun _ => ?_)
          clear hK K
          try simp only [List.getElem_toArray]
          try simp only [List.getElem_cons_succ]
          try simp only [List.getElem_cons_zero]
          try simp only [Act.put]
          try simp only [List.setIfInBounds_toArray]
          try simp only [List.set_cons_succ]
          try simp only [List.set_cons_zero]
          generalize World.alloc w2 (.cells #[.int .i64 3] 3) = w38 at *
          refine wpAnyH_ready (rs := [9]) (by kernel_rfl) (by simp) ?_
          refine AllReadyH.cons rfl (fun K hK => ?_) AllReadyH.nil
          go_simp
          refine (HR131.out _).mono ?_
          rintro e w39 ⟨rfl, hk⟩
          have hS39 : Kept (fun _ => False) wc w39 := hS38.trans hk
          have HA'''' := hid (HA'''.out.kept0 hk)
          have I1' := hid (I1.out.kept0 hk)
          clear hk
          refine hK.out _ _ (hS39) (fun _ => ?_)
          clear hK K
          try simp only [List.getElem_toArray]
          try simp only [List.getElem_cons_succ]
          try simp only [List.getElem_cons_zero]
          try simp only [Act.put]
          try simp only [List.setIfInBounds_toArray]
          try simp only [List.set_cons_succ]
          try simp only [List.set_cons_zero]
          refine wpAnyH_ready (rs := [10, 13]) (by kernel_rfl) (by simp) ?_
          refine AllReadyH.cons rfl (fun K hK => ?_) (AllReadyH.cons rfl (fun K hK => ?_) AllReadyH.nil)
          · skip
            go_simp
            have hk := (Kept.refl (fun _ => False) w39).alloc (.cells #[.int .i64 3, .int .i64 4, .int .i64 (numAd ad1), .int .i64 (numAd adT), .string (adB ad1), .int .i64 129, .int .i64 4, .int .i64 (numAd ad1), .int .i64 (numAd adT), .string (adB ad1), .int .i64 131, .int .i64 4, .int .i64 (numAd ad1), .int .i64 (numAd adT), .string (adB ad1)] 56)
            have hS40 := hS39.trans hk
            have HA''''' := hid (HA''''.out.kept0 hk)
            have I1'' := hid (I1'.out.kept0 hk)
            have R3 := hid (ownR_new3 w39)
            clear hk
            refine hK.out _ _ (hS40) (fun _ => ?_)
            clear hK K
            try simp only [List.getElem_toArray]
            try simp only [List.getElem_cons_succ]
            try simp only [List.getElem_cons_zero]
            try simp only [Act.put]
            try simp only [List.setIfInBounds_toArray]
            try simp only [List.set_cons_succ]
            try simp only [List.set_cons_zero]
            generalize World.alloc w39 (.cells #[.int .i64 3, .int .i64 4, .int .i64 (numAd ad1), .int .i64 (numAd adT), .string (adB ad1), .int .i64 129, .int .i64 4, .int .i64 (numAd ad1), .int .i64 (numAd adT), .string (adB ad1), .int .i64 131, .int .i64 4, .int .i64 (numAd ad1), .int .i64 (numAd adT), .string (adB ad1)] 56) = w40 at *
            refine wpAnyH_ready (rs := [13]) (by kernel_rfl) (by simp) ?_
            refine AllReadyH.cons rfl (fun K hK => ?_) AllReadyH.nil
            go_simp
            refine (HR0.out _).mono ?_
            rintro e w41 ⟨rfl, hk⟩
            have hS41 : Kept (fun _ => False) wc w41 := hS40.trans hk
            have HA'''''' := hid (HA'''''.out.kept0 hk)
            have I1''' := hid (I1''.out.kept0 hk)
            have R3' := hid (R3.out.kept0 hk)
            clear hk
            refine hK.out _ _ (hS41) (fun _ => ?_)
            clear hK K
            try simp only [List.getElem_toArray]
            try simp only [List.getElem_cons_succ]
            try simp only [List.getElem_cons_zero]
            try simp only [Act.put]
            try simp only [List.setIfInBounds_toArray]
            try simp only [List.set_cons_succ]
            try simp only [List.set_cons_zero]
            refine wpAnyH_ready (rs := [14]) (by kernel_rfl) (by simp) ?_
            refine AllReadyH.cons rfl (fun K hK => ?_) AllReadyH.nil
            go_simp
            have hk := (Kept.refl (fun _ => False) w41).alloc (.cells #[.int .i64 3, .int .i64 4, .int .i64 (numAd ad0), .int .i64 (numAd adT), .string (adB ad0)] 56)
            have hS42 := hS41.trans hk
            have HA''''''' := hid (HA''''''.out.kept0 hk)
            have I1'''' := hid (I1'''.out.kept0 hk)
            have R3'' := hid (R3'.out.kept0 hk)
            have R1 := hid (ownR_new0 w41)
            clear hk
            refine hK.out _ _ (hS42) (fun _ => ?_)
            clear hK K
            try simp only [List.getElem_toArray]
            try simp only [List.getElem_cons_succ]
            try simp only [List.getElem_cons_zero]
            try simp only [Act.put]
            try simp only [List.setIfInBounds_toArray]
            try simp only [List.set_cons_succ]
            try simp only [List.set_cons_zero]
            generalize World.alloc w41 (.cells #[.int .i64 3, .int .i64 4, .int .i64 (numAd ad0), .int .i64 (numAd adT), .string (adB ad0)] 56) = w42 at *
            refine wpAnyH_take (i := 20) (v := ?_) rfl (by kernel_rfl) (by kernel_rfl) (by kernel_rfl) (fun _ _ _ h => h) (Or.inl ⟨by kernel_rfl, fun W hSW => by go_simp; try with_reducible rfl⟩) (by assumption) ?_
            try simp only [List.getElem_toArray]
            try simp only [List.getElem_cons_succ]
            try simp only [List.getElem_cons_zero]
            try simp only [Act.put]
            try simp only [List.setIfInBounds_toArray]
            try simp only [List.set_cons_succ]
            try simp only [List.set_cons_zero]
            refine wpAnyH_ready (rs := [21]) (by kernel_rfl) (by simp) ?_
            refine AllReadyH.cons rfl (fun K hK => ?_) AllReadyH.nil
            go_simp
            refine (HNw.out _ _ _ _ w42 HA'''''''.out R3''.out.rules R1.out.rules (I1''''.out.mono (Nat.zero_le _))).mono ?_
            rintro e wz ⟨b, rfl, a, hn, hm, hk⟩
            have hSz : Kept (fun _ => False) wc wz := hS42.trans hk
            have HF := hid (And.intro (hn.lower (KW.out.trans hS42).size) (And.intro (MustAt.mk hm) (KW.out.trans hSz)))
            clear hn hm hk
            refine hK.out _ _ (hSz) (fun _ => ?_)
            clear hK K
            try simp only [List.getElem_toArray]
            try simp only [List.getElem_cons_succ]
            try simp only [List.getElem_cons_zero]
            try simp only [Act.put]
            try simp only [List.setIfInBounds_toArray]
            try simp only [List.set_cons_succ]
            try simp only [List.set_cons_zero]
            refine wpAnyH_take (i := 22) (v := ?_) rfl (by kernel_rfl) (by kernel_rfl) (by kernel_rfl) (fun _ _ _ h => h) (Or.inl ⟨by kernel_rfl, fun W hSW => by go_simp; try with_reducible rfl⟩) (by assumption) ?_
            try simp only [List.getElem_toArray]
            try simp only [List.getElem_cons_succ]
            try simp only [List.getElem_cons_zero]
            try simp only [Act.put]
            try simp only [List.setIfInBounds_toArray]
            try simp only [List.set_cons_succ]
            try simp only [List.set_cons_zero]
            refine wpAnyH_take (i := 23) (v := ?_) rfl (by kernel_rfl) (by kernel_rfl) (by kernel_rfl) (fun _ _ _ h => h) (Or.inl ⟨by kernel_rfl, fun W hSW => by go_simp; try with_reducible rfl⟩) (by assumption) ?_
            try simp only [List.getElem_toArray]
            try simp only [List.getElem_cons_succ]
            try simp only [List.getElem_cons_zero]
            try simp only [Act.put]
            try simp only [List.setIfInBounds_toArray]
            try simp only [List.set_cons_succ]
            try simp only [List.set_cons_zero]
            refine wpAnyH_take (i := 24) (v := ?_) rfl (by kernel_rfl) (by kernel_rfl) (by kernel_rfl) (fun _ _ _ h => h) (Or.inl ⟨by kernel_rfl, fun W hSW => by go_simp; try with_reducible rfl⟩) (by assumption) ?_
            try simp only [List.getElem_toArray]
            try simp only [List.getElem_cons_succ]
            try simp only [List.getElem_cons_zero]
            try simp only [Act.put]
            try simp only [List.setIfInBounds_toArray]
            try simp only [List.set_cons_succ]
            try simp only [List.set_cons_zero]
            refine wpAnyH_take (i := 25) (v := ?_) rfl (by kernel_rfl) (by kernel_rfl) (by kernel_rfl) (fun _ _ _ h => h) (Or.inl ⟨by kernel_rfl, fun W hSW => by go_simp; try with_reducible rfl⟩) (by assumption) ?_
            try simp only [List.getElem_toArray]
            try simp only [List.getElem_cons_succ]
            try simp only [List.getElem_cons_zero]
            try simp only [Act.put]
            try simp only [List.setIfInBounds_toArray]
            try simp only [List.set_cons_succ]
            try simp only [List.set_cons_zero]
            refine wpAnyH_done (by kernel_rfl) ?_ _
            clear hSz
            go_wp2
            go_ret2
            exact ⟨b, rfl, a, HF.out.1, HF.out.2.1, HF.out.2.2⟩
          · skip
            go_simp
            refine (HR0.out _).mono ?_
            rintro e w43 ⟨rfl, hk⟩
            have hS43 : Kept (fun _ => False) wc w43 := hS39.trans hk
            have HA''''' := hid (HA''''.out.kept0 hk)
            have I1'' := hid (I1'.out.kept0 hk)
            clear hk
            refine hK.out _ _ (hS43) (fun _ => ?_)
            clear hK K
            try simp only [List.getElem_toArray]
            try simp only [List.getElem_cons_succ]
            try simp only [List.getElem_cons_zero]
            try simp only [Act.put]
            try simp only [List.setIfInBounds_toArray]
            try simp only [List.set_cons_succ]
            try simp only [List.set_cons_zero]
            refine wpAnyH_ready (rs := [10, 14]) (by kernel_rfl) (by simp) ?_
            refine AllReadyH.cons rfl (fun K hK => ?_) (AllReadyH.cons rfl (fun K hK => ?_) AllReadyH.nil)
            · skip
              go_simp
              have hk := (Kept.refl (fun _ => False) w43).alloc (.cells #[.int .i64 3, .int .i64 4, .int .i64 (numAd ad1), .int .i64 (numAd adT), .string (adB ad1), .int .i64 129, .int .i64 4, .int .i64 (numAd ad1), .int .i64 (numAd adT), .string (adB ad1), .int .i64 131, .int .i64 4, .int .i64 (numAd ad1), .int .i64 (numAd adT), .string (adB ad1)] 56)
              have hS44 := hS43.trans hk
              have HA'''''' := hid (HA'''''.out.kept0 hk)
              have I1''' := hid (I1''.out.kept0 hk)
              have R3 := hid (ownR_new3 w43)
              clear hk
              refine hK.out _ _ (hS44) (fun _ => ?_)
              clear hK K
              try simp only [List.getElem_toArray]
              try simp only [List.getElem_cons_succ]
              try simp only [List.getElem_cons_zero]
              try simp only [Act.put]
              try simp only [List.setIfInBounds_toArray]
              try simp only [List.set_cons_succ]
              try simp only [List.set_cons_zero]
              generalize World.alloc w43 (.cells #[.int .i64 3, .int .i64 4, .int .i64 (numAd ad1), .int .i64 (numAd adT), .string (adB ad1), .int .i64 129, .int .i64 4, .int .i64 (numAd ad1), .int .i64 (numAd adT), .string (adB ad1), .int .i64 131, .int .i64 4, .int .i64 (numAd ad1), .int .i64 (numAd adT), .string (adB ad1)] 56) = w44 at *
              refine wpAnyH_ready (rs := [14]) (by kernel_rfl) (by simp) ?_
              refine AllReadyH.cons rfl (fun K hK => ?_) AllReadyH.nil
              go_simp
              have hk := (Kept.refl (fun _ => False) w44).alloc (.cells #[.int .i64 3, .int .i64 4, .int .i64 (numAd ad0), .int .i64 (numAd adT), .string (adB ad0)] 56)
              have hS45 := hS44.trans hk
              have HA''''''' := hid (HA''''''.out.kept0 hk)
              have I1'''' := hid (I1'''.out.kept0 hk)
              have R3' := hid (R3.out.kept0 hk)
              have R1 := hid (ownR_new0 w44)
              clear hk
              refine hK.out _ _ (hS45) (fun _ => ?_)
              clear hK K
              try simp only [List.getElem_toArray]
              try simp only [List.getElem_cons_succ]
              try simp only [List.getElem_cons_zero]
              try simp only [Act.put]
              try simp only [List.setIfInBounds_toArray]
              try simp only [List.set_cons_succ]
              try simp only [List.set_cons_zero]
              generalize World.alloc w44 (.cells #[.int .i64 3, .int .i64 4, .int .i64 (numAd ad0), .int .i64 (numAd adT), .string (adB ad0)] 56) = w45 at *
              refine wpAnyH_take (i := 20) (v := ?_) rfl (by kernel_rfl) (by kernel_rfl) (by kernel_rfl) (fun _ _ _ h => h) (Or.inl ⟨by kernel_rfl, fun W hSW => by go_simp; try with_reducible rfl⟩) (by assumption) ?_
              try simp only [List.getElem_toArray]
              try simp only [List.getElem_cons_succ]
              try simp only [List.getElem_cons_zero]
              try simp only [Act.put]
              try simp only [List.setIfInBounds_toArray]
              try simp only [List.set_cons_succ]
              try simp only [List.set_cons_zero]
              refine wpAnyH_ready (rs := [21]) (by kernel_rfl) (by simp) ?_
              refine AllReadyH.cons rfl (fun K hK => ?_) AllReadyH.nil
              go_simp
              refine (HNw.out _ _ _ _ w45 HA'''''''.out R3'.out.rules R1.out.rules (I1''''.out.mono (Nat.zero_le _))).mono ?_
              rintro e wz ⟨b, rfl, a, hn, hm, hk⟩
              have hSz : Kept (fun _ => False) wc wz := hS45.trans hk
              have HF := hid (And.intro (hn.lower (KW.out.trans hS45).size) (And.intro (MustAt.mk hm) (KW.out.trans hSz)))
              clear hn hm hk
              refine hK.out _ _ (hSz) (fun _ => ?_)
              clear hK K
              try simp only [List.getElem_toArray]
              try simp only [List.getElem_cons_succ]
              try simp only [List.getElem_cons_zero]
              try simp only [Act.put]
              try simp only [List.setIfInBounds_toArray]
              try simp only [List.set_cons_succ]
              try simp only [List.set_cons_zero]
              refine wpAnyH_take (i := 22) (v := ?_) rfl (by kernel_rfl) (by kernel_rfl) (by kernel_rfl) (fun _ _ _ h => h) (Or.inl ⟨by kernel_rfl, fun W hSW => by go_simp; try with_reducible rfl⟩) (by assumption) ?_
              try simp only [List.getElem_toArray]
              try simp only [List.getElem_cons_succ]
              try simp only [List.getElem_cons_zero]
              try simp only [Act.put]
              try simp only [List.setIfInBounds_toArray]
              try simp only [List.set_cons_succ]
              try simp only [List.set_cons_zero]
              refine wpAnyH_take (i := 23) (v := ?_) rfl (by kernel_rfl) (by kernel_rfl) (by kernel_rfl) (fun _ _ _ h => h) (Or.inl ⟨by kernel_rfl, fun W hSW => by go_simp; try with_reducible rfl⟩) (by assumption) ?_
              try simp only [List.getElem_toArray]
              try simp only [List.getElem_cons_succ]
              try simp only [List.getElem_cons_zero]
              try simp only [Act.put]
              try simp only [List.setIfInBounds_toArray]
              try simp only [List.set_cons_succ]
              try simp only [List.set_cons_zero]
              refine wpAnyH_take (i := 24) (v := ?_) rfl (by kernel_rfl) (by kernel_rfl) (by kernel_rfl) (fun _ _ _ h => h) (Or.inl ⟨by kernel_rfl, fun W hSW => by go_simp; try with_reducible rfl⟩) (by assumption) ?_
              try simp only [List.getElem_toArray]
              try simp only [List.getElem_cons_succ]
              try simp only [List.getElem_cons_zero]
              try simp only [Act.put]
              try simp only [List.setIfInBounds_toArray]
              try simp only [List.set_cons_succ]
              try simp only [List.set_cons_zero]
              refine wpAnyH_take (i := 25) (v := ?_) rfl (by kernel_rfl) (by kernel_rfl) (by kernel_rfl) (fun _ _ _ h => h) (Or.inl ⟨by kernel_rfl, fun W hSW => by go_simp; try with_reducible rfl⟩) (by assumption) ?_
              try simp only [List.getElem_toArray]
              try simp only [List.getElem_cons_succ]
              try simp only [List.getElem_cons_zero]
              try simp only [Act.put]
              try simp only [List.setIfInBounds_toArray]
              try simp only [List.set_cons_succ]
              try simp only [List.set_cons_zero]
              refine wpAnyH_done (by kernel_rfl) ?_ _
              clear hSz
              go_wp2
              go_ret2
              exact ⟨b, rfl, a, HF.out.1, HF.out.2.1, HF.out.2.2⟩
            · skip
              go_simp
              have hk := (Kept.refl (fun _ => False) w43).alloc (.cells #[.int .i64 3, .int .i64 4, .int .i64 (numAd ad0), .int .i64 (numAd adT), .string (adB ad0)] 56)
              have hS46 := hS43.trans hk
              have HA'''''' := hid (HA'''''.out.kept0 hk)
              have I1''' := hid (I1''.out.kept0 hk)
              have R1 := hid (ownR_new0 w43)
              clear hk
              refine hK.out _ _ (hS46) (fun _ => ?_)
              clear hK K
              try simp only [List.getElem_toArray]
              try simp only [List.getElem_cons_succ]
              try simp only [List.getElem_cons_zero]
              try simp only [Act.put]
              try simp only [List.setIfInBounds_toArray]
              try simp only [List.set_cons_succ]
              try simp only [List.set_cons_zero]
              generalize World.alloc w43 (.cells #[.int .i64 3, .int .i64 4, .int .i64 (numAd ad0), .int .i64 (numAd adT), .string (adB ad0)] 56) = w46 at *
              refine wpAnyH_ready (rs := [10]) (by kernel_rfl) (by simp) ?_
              refine AllReadyH.cons rfl (fun K hK => ?_) AllReadyH.nil
              go_simp
              have hk := (Kept.refl (fun _ => False) w46).alloc (.cells #[.int .i64 3, .int .i64 4, .int .i64 (numAd ad1), .int .i64 (numAd adT), .string (adB ad1), .int .i64 129, .int .i64 4, .int .i64 (numAd ad1), .int .i64 (numAd adT), .string (adB ad1), .int .i64 131, .int .i64 4, .int .i64 (numAd ad1), .int .i64 (numAd adT), .string (adB ad1)] 56)
              have hS47 := hS46.trans hk
              have HA''''''' := hid (HA''''''.out.kept0 hk)
              have I1'''' := hid (I1'''.out.kept0 hk)
              have R1' := hid (R1.out.kept0 hk)
              have R3 := hid (ownR_new3 w46)
              clear hk
              refine hK.out _ _ (hS47) (fun _ => ?_)
              clear hK K
              try simp only [List.getElem_toArray]
              try simp only [List.getElem_cons_succ]
              try simp only [List.getElem_cons_zero]
              try simp only [Act.put]
              try simp only [List.setIfInBounds_toArray]
              try simp only [List.set_cons_succ]
              try simp only [List.set_cons_zero]
              generalize World.alloc w46 (.cells #[.int .i64 3, .int .i64 4, .int .i64 (numAd ad1), .int .i64 (numAd adT), .string (adB ad1), .int .i64 129, .int .i64 4, .int .i64 (numAd ad1), .int .i64 (numAd adT), .string (adB ad1), .int .i64 131, .int .i64 4, .int .i64 (numAd ad1), .int .i64 (numAd adT), .string (adB ad1)] 56) = w47 at *
              refine wpAnyH_take (i := 20) (v := ?_) rfl (by kernel_rfl) (by kernel_rfl) (by kernel_rfl) (fun _ _ _ h => h) (Or.inl ⟨by kernel_rfl, fun W hSW => by go_simp; try with_reducible rfl⟩) (by assumption) ?_
              try simp only [List.getElem_toArray]
              try simp only [List.getElem_cons_succ]
              try simp only [List.getElem_cons_zero]
              try simp only [Act.put]
              try simp only [List.setIfInBounds_toArray]
              try simp only [List.set_cons_succ]
              try simp only [List.set_cons_zero]
              refine wpAnyH_ready (rs := [21]) (by kernel_rfl) (by simp) ?_
              refine AllReadyH.cons rfl (fun K hK => ?_) AllReadyH.nil
              go_simp
              refine (HNw.out _ _ _ _ w47 HA'''''''.out R3.out.rules R1'.out.rules (I1''''.out.mono (Nat.zero_le _))).mono ?_
              rintro e wz ⟨b, rfl, a, hn, hm, hk⟩
              have hSz : Kept (fun _ => False) wc wz := hS47.trans hk
              have HF := hid (And.intro (hn.lower (KW.out.trans hS47).size) (And.intro (MustAt.mk hm) (KW.out.trans hSz)))
              clear hn hm hk
              refine hK.out _ _ (hSz) (fun _ => ?_)
              clear hK K
              try simp only [List.getElem_toArray]
              try simp only [List.getElem_cons_succ]
              try simp only [List.getElem_cons_zero]
              try simp only [Act.put]
              try simp only [List.setIfInBounds_toArray]
              try simp only [List.set_cons_succ]
              try simp only [List.set_cons_zero]
              refine wpAnyH_take (i := 22) (v := ?_) rfl (by kernel_rfl) (by kernel_rfl) (by kernel_rfl) (fun _ _ _ h => h) (Or.inl ⟨by kernel_rfl, fun W hSW => by go_simp; try with_reducible rfl⟩) (by assumption) ?_
              try simp only [List.getElem_toArray]
              try simp only [List.getElem_cons_succ]
              try simp only [List.getElem_cons_zero]
              try simp only [Act.put]
              try simp only [List.setIfInBounds_toArray]
              try simp only [List.set_cons_succ]
              try simp only [List.set_cons_zero]
              refine wpAnyH_take (i := 23) (v := ?_) rfl (by kernel_rfl) (by kernel_rfl) (by kernel_rfl) (fun _ _ _ h => h) (Or.inl ⟨by kernel_rfl, fun W hSW => by go_simp; try with_reducible rfl⟩) (by assumption) ?_
              try simp only [List.getElem_toArray]
              try simp only [List.getElem_cons_succ]
              try simp only [List.getElem_cons_zero]
              try simp only [Act.put]
              try simp only [List.setIfInBounds_toArray]
              try simp only [List.set_cons_succ]
              try simp only [List.set_cons_zero]
              refine wpAnyH_take (i := 24) (v := ?_) rfl (by kernel_rfl) (by kernel_rfl) (by kernel_rfl) (fun _ _ _ h => h) (Or.inl ⟨by kernel_rfl, fun W hSW => by go_simp; try with_reducible rfl⟩) (by assumption) ?_
              try simp only [List.getElem_toArray]
              try simp only [List.getElem_cons_succ]
              try simp only [List.getElem_cons_zero]
              try simp only [Act.put]
              try simp only [List.setIfInBounds_toArray]
              try simp only [List.set_cons_succ]
              try simp only [List.set_cons_zero]
              refine wpAnyH_take (i := 25) (v := ?_) rfl (by kernel_rfl) (by kernel_rfl) (by kernel_rfl) (fun _ _ _ h => h) (Or.inl ⟨by kernel_rfl, fun W hSW => by go_simp; try with_reducible rfl⟩) (by assumption) ?_
              try simp only [List.getElem_toArray]
              try simp only [List.getElem_cons_succ]
              try simp only [List.getElem_cons_zero]
              try simp only [Act.put]
              try simp only [List.setIfInBounds_toArray]
              try simp only [List.set_cons_succ]
              try simp only [List.set_cons_zero]
              refine wpAnyH_done (by kernel_rfl) ?_ _
              clear hSz
              go_wp2
              go_ret2
              exact ⟨b, rfl, a, HF.out.1, HF.out.2.1, HF.out.2.2⟩
      · skip
        go_simp
        have hk := (Kept.refl (fun _ => False) w1).alloc (.cells #[.int .i64 3] 3)
        have hS48 := hS1.trans hk
        have HA'' := hid (HA'.out.kept0 hk)
        have I1 := hid (ownI_new w1)
        clear hk
        refine hK.out _ _ (hS48) (fun _ => ?_)
        clear hK K
        try simp only [List.getElem_toArray]
        try simp only [List.getElem_cons_succ]
        try simp only [List.getElem_cons_zero]
        try simp only [Act.put]
        try simp only [List.setIfInBounds_toArray]
        try simp only [List.set_cons_succ]
        try simp only [List.set_cons_zero]
        generalize World.alloc w1 (.cells #[.int .i64 3] 3) = w48 at *
        refine wpAnyH_ready (rs := [6]) (by kernel_rfl) (by simp) ?_
        refine AllReadyH.cons rfl (fun K hK => ?_) AllReadyH.nil
        go_simp
        refine (HR129.out _).mono ?_
        rintro e w49 ⟨rfl, hk⟩
        have hS49 : Kept (fun _ => False) wc w49 := hS48.trans hk
        have HA''' := hid (HA''.out.kept0 hk)
        have I1' := hid (I1.out.kept0 hk)
        clear hk
        refine hK.out _ _ (hS49) (fun _ => ?_)
        clear hK K
        try simp only [List.getElem_toArray]
        try simp only [List.getElem_cons_succ]
        try simp only [List.getElem_cons_zero]
        try simp only [Act.put]
        try simp only [List.setIfInBounds_toArray]
        try simp only [List.set_cons_succ]
        try simp only [List.set_cons_zero]
        refine wpAnyH_ready (rs := [9]) (by kernel_rfl) (by simp) ?_
        refine AllReadyH.cons rfl (fun K hK => ?_) AllReadyH.nil
        go_simp
        refine (HR131.out _).mono ?_
        rintro e w50 ⟨rfl, hk⟩
        have hS50 : Kept (fun _ => False) wc w50 := hS49.trans hk
        have HA'''' := hid (HA'''.out.kept0 hk)
        have I1'' := hid (I1'.out.kept0 hk)
        clear hk
        refine hK.out _ _ (hS50) (fun _ => ?_)
        clear hK K
        try simp only [List.getElem_toArray]
        try simp only [List.getElem_cons_succ]
        try simp only [List.getElem_cons_zero]
        try simp only [Act.put]
        try simp only [List.setIfInBounds_toArray]
        try simp only [List.set_cons_succ]
        try simp only [List.set_cons_zero]
        refine wpAnyH_ready (rs := [10, 13]) (by kernel_rfl) (by simp) ?_
        refine AllReadyH.cons rfl (fun K hK => ?_) (AllReadyH.cons rfl (fun K hK => ?_) AllReadyH.nil)
        · skip
          go_simp
          have hk := (Kept.refl (fun _ => False) w50).alloc (.cells #[.int .i64 3, .int .i64 4, .int .i64 (numAd ad1), .int .i64 (numAd adT), .string (adB ad1), .int .i64 129, .int .i64 4, .int .i64 (numAd ad1), .int .i64 (numAd adT), .string (adB ad1), .int .i64 131, .int .i64 4, .int .i64 (numAd ad1), .int .i64 (numAd adT), .string (adB ad1)] 56)
          have hS51 := hS50.trans hk
          have HA''''' := hid (HA''''.out.kept0 hk)
          have I1''' := hid (I1''.out.kept0 hk)
          have R3 := hid (ownR_new3 w50)
          clear hk
          refine hK.out _ _ (hS51) (fun _ => ?_)
          clear hK K
          try simp only [List.getElem_toArray]
          try simp only [List.getElem_cons_succ]
          try simp only [List.getElem_cons_zero]
          try simp only [Act.put]
          try simp only [List.setIfInBounds_toArray]
          try simp only [List.set_cons_succ]
          try simp only [List.set_cons_zero]
          generalize World.alloc w50 (.cells #[.int .i64 3, .int .i64 4, .int .i64 (numAd ad1), .int .i64 (numAd adT), .string (adB ad1), .int .i64 129, .int .i64 4, .int .i64 (numAd ad1), .int .i64 (numAd adT), .string (adB ad1), .int .i64 131, .int .i64 4, .int .i64 (numAd ad1), .int .i64 (numAd adT), .string (adB ad1)] 56) = w51 at *
          refine wpAnyH_ready (rs := [13]) (by kernel_rfl) (by simp) ?_
          refine AllReadyH.cons rfl (fun K hK => ?_) AllReadyH.nil
          go_simp
          refine (HR0.out _).mono ?_
          rintro e w52 ⟨rfl, hk⟩
          have hS52 : Kept (fun _ => False) wc w52 := hS51.trans hk
          have HA'''''' := hid (HA'''''.out.kept0 hk)
          have I1'''' := hid (I1'''.out.kept0 hk)
          have R3' := hid (R3.out.kept0 hk)
          clear hk
          refine hK.out _ _ (hS52) (fun _ => ?_)
          clear hK K
          try simp only [List.getElem_toArray]
          try simp only [List.getElem_cons_succ]
          try simp only [List.getElem_cons_zero]
          try simp only [Act.put]
          try simp only [List.setIfInBounds_toArray]
          try simp only [List.set_cons_succ]
          try simp only [List.set_cons_zero]
          refine wpAnyH_ready (rs := [14]) (by kernel_rfl) (by simp) ?_
          refine AllReadyH.cons rfl (fun K hK => ?_) AllReadyH.nil
          go_simp
          have hk := (Kept.refl (fun _ => False) w52).alloc (.cells #[.int .i64 3, .int .i64 4, .int .i64 (numAd ad0), .int .i64 (numAd adT), .string (adB ad0)] 56)
          have hS53 := hS52.trans hk
          have HA''''''' := hid (HA''''''.out.kept0 hk)
          have I1''''' := hid (I1''''.out.kept0 hk)
          have R3'' := hid (R3'.out.kept0 hk)
          have R1 := hid (ownR_new0 w52)
          clear hk
          refine hK.out _ _ (hS53) (fun _ => ?_)
          clear hK K
          try simp only [List.getElem_toArray]
          try simp only [List.getElem_cons_succ]
          try simp only [List.getElem_cons_zero]
          try simp only [Act.put]
          try simp only [List.setIfInBounds_toArray]
          try simp only [List.set_cons_succ]
          try simp only [List.set_cons_zero]
          generalize World.alloc w52 (.cells #[.int .i64 3, .int .i64 4, .int .i64 (numAd ad0), .int .i64 (numAd adT), .string (adB ad0)] 56) = w53 at *
          refine wpAnyH_take (i := 20) (v := ?_) rfl (by kernel_rfl) (by kernel_rfl) (by kernel_rfl) (fun _ _ _ h => h) (Or.inl ⟨by kernel_rfl, fun W hSW => by go_simp; try with_reducible rfl⟩) (by assumption) ?_
          try simp only [List.getElem_toArray]
          try simp only [List.getElem_cons_succ]
          try simp only [List.getElem_cons_zero]
          try simp only [Act.put]
          try simp only [List.setIfInBounds_toArray]
          try simp only [List.set_cons_succ]
          try simp only [List.set_cons_zero]
          refine wpAnyH_ready (rs := [21]) (by kernel_rfl) (by simp) ?_
          refine AllReadyH.cons rfl (fun K hK => ?_) AllReadyH.nil
          go_simp
          refine (HNw.out _ _ _ _ w53 HA'''''''.out R3''.out.rules R1.out.rules (I1'''''.out.mono (Nat.zero_le _))).mono ?_
          rintro e wz ⟨b, rfl, a, hn, hm, hk⟩
          have hSz : Kept (fun _ => False) wc wz := hS53.trans hk
          have HF := hid (And.intro (hn.lower (KW.out.trans hS53).size) (And.intro (MustAt.mk hm) (KW.out.trans hSz)))
          clear hn hm hk
          refine hK.out _ _ (hSz) (fun _ => ?_)
          clear hK K
          try simp only [List.getElem_toArray]
          try simp only [List.getElem_cons_succ]
          try simp only [List.getElem_cons_zero]
          try simp only [Act.put]
          try simp only [List.setIfInBounds_toArray]
          try simp only [List.set_cons_succ]
          try simp only [List.set_cons_zero]
          refine wpAnyH_take (i := 22) (v := ?_) rfl (by kernel_rfl) (by kernel_rfl) (by kernel_rfl) (fun _ _ _ h => h) (Or.inl ⟨by kernel_rfl, fun W hSW => by go_simp; try with_reducible rfl⟩) (by assumption) ?_
          try simp only [List.getElem_toArray]
          try simp only [List.getElem_cons_succ]
          try simp only [List.getElem_cons_zero]
          try simp only [Act.put]
          try simp only [List.setIfInBounds_toArray]
          try simp only [List.set_cons_succ]
          try simp only [List.set_cons_zero]
          refine wpAnyH_take (i := 23) (v := ?_) rfl (by kernel_rfl) (by kernel_rfl) (by kernel_rfl) (fun _ _ _ h => h) (Or.inl ⟨by kernel_rfl, fun W hSW => by go_simp; try with_reducible rfl⟩) (by assumption) ?_
          try simp only [List.getElem_toArray]
          try simp only [List.getElem_cons_succ]
          try simp only [List.getElem_cons_zero]
          try simp only [Act.put]
          try simp only [List.setIfInBounds_toArray]
          try simp only [List.set_cons_succ]
          try simp only [List.set_cons_zero]
          refine wpAnyH_take (i := 24) (v := ?_) rfl (by kernel_rfl) (by kernel_rfl) (by kernel_rfl) (fun _ _ _ h => h) (Or.inl ⟨by kernel_rfl, fun W hSW => by go_simp; try with_reducible rfl⟩) (by assumption) ?_
          try simp only [List.getElem_toArray]
          try simp only [List.getElem_cons_succ]
          try simp only [List.getElem_cons_zero]
          try simp only [Act.put]
          try simp only [List.setIfInBounds_toArray]
          try simp only [List.set_cons_succ]
          try simp only [List.set_cons_zero]
          refine wpAnyH_take (i := 25) (v := ?_) rfl (by kernel_rfl) (by kernel_rfl) (by kernel_rfl) (fun _ _ _ h => h) (Or.inl ⟨by kernel_rfl, fun W hSW => by go_simp; try with_reducible rfl⟩) (by assumption) ?_
          try simp only [List.getElem_toArray]
          try simp only [List.getElem_cons_succ]
          try simp only [List.getElem_cons_zero]
          try simp only [Act.put]
          try simp only [List.setIfInBounds_toArray]
          try simp only [List.set_cons_succ]
          try simp only [List.set_cons_zero]
          refine wpAnyH_done (by kernel_rfl) ?_ _
          clear hSz
          go_wp2
          go_ret2
          exact ⟨b, rfl, a, HF.out.1, HF.out.2.1, HF.out.2.2⟩
        · skip
          go_simp
          refine (HR0.out _).mono ?_
          rintro e w54 ⟨rfl, hk⟩
          have hS54 : Kept (fun _ => False) wc w54 := hS50.trans hk
          have HA''''' := hid (HA''''.out.kept0 hk)
          have I1''' := hid (I1''.out.kept0 hk)
          clear hk
          refine hK.out _ _ (hS54) (fun _ => ?_)
          clear hK K
          try simp only [List.getElem_toArray]
          try simp only [List.getElem_cons_succ]
          try simp only [List.getElem_cons_zero]
          try simp only [Act.put]
          try simp only [List.setIfInBounds_toArray]
          try simp only [List.set_cons_succ]
          try simp only [List.set_cons_zero]
          refine wpAnyH_ready (rs := [10, 14]) (by kernel_rfl) (by simp) ?_
          refine AllReadyH.cons rfl (fun K hK => ?_) (AllReadyH.cons rfl (fun K hK => ?_) AllReadyH.nil)
          · skip
            go_simp
            have hk := (Kept.refl (fun _ => False) w54).alloc (.cells #[.int .i64 3, .int .i64 4, .int .i64 (numAd ad1), .int .i64 (numAd adT), .string (adB ad1), .int .i64 129, .int .i64 4, .int .i64 (numAd ad1), .int .i64 (numAd adT), .string (adB ad1), .int .i64 131, .int .i64 4, .int .i64 (numAd ad1), .int .i64 (numAd adT), .string (adB ad1)] 56)
            have hS55 := hS54.trans hk
            have HA'''''' := hid (HA'''''.out.kept0 hk)
            have I1'''' := hid (I1'''.out.kept0 hk)
            have R3 := hid (ownR_new3 w54)
            clear hk
            refine hK.out _ _ (hS55) (fun _ => ?_)
            clear hK K
            try simp only [List.getElem_toArray]
            try simp only [List.getElem_cons_succ]
            try simp only [List.getElem_cons_zero]
            try simp only [Act.put]
            try simp only [List.setIfInBounds_toArray]
            try simp only [List.set_cons_succ]
            try simp only [List.set_cons_zero]
            generalize World.alloc w54 (.cells #[.int .i64 3, .int .i64 4, .int .i64 (numAd ad1), .int .i64 (numAd adT), .string (adB ad1), .int .i64 129, .int .i64 4, .int .i64 (numAd ad1), .int .i64 (numAd adT), .string (adB ad1), .int .i64 131, .int .i64 4, .int .i64 (numAd ad1), .int .i64 (numAd adT), .string (adB ad1)] 56) = w55 at *
            refine wpAnyH_ready (rs := [14]) (by kernel_rfl) (by simp) ?_
            refine AllReadyH.cons rfl (fun K hK => ?_) AllReadyH.nil
            go_simp
            have hk := (Kept.refl (fun _ => False) w55).alloc (.cells #[.int .i64 3, .int .i64 4, .int .i64 (numAd ad0), .int .i64 (numAd adT), .string (adB ad0)] 56)
            have hS56 := hS55.trans hk
            have HA''''''' := hid (HA''''''.out.kept0 hk)
            have I1''''' := hid (I1''''.out.kept0 hk)
            have R3' := hid (R3.out.kept0 hk)
            have R1 := hid (ownR_new0 w55)
            clear hk
            refine hK.out _ _ (hS56) (fun _ => ?_)
            clear hK K
            try simp only [List.getElem_toArray]
            try simp only [List.getElem_cons_succ]
            try simp only [List.getElem_cons_zero]
            try simp only [Act.put]
            try simp only [List.setIfInBounds_toArray]
            try simp only [List.set_cons_succ]
            try simp only [List.set_cons_zero]
            generalize World.alloc w55 (.cells #[.int .i64 3, .int .i64 4, .int .i64 (numAd ad0), .int .i64 (numAd adT), .string (adB ad0)] 56) = w56 at *
            refine wpAnyH_take (i := 20) (v := ?_) rfl (by kernel_rfl) (by kernel_rfl) (by kernel_rfl) (fun _ _ _ h => h) (Or.inl ⟨by kernel_rfl, fun W hSW => by go_simp; try with_reducible rfl⟩) (by assumption) ?_
            try simp only [List.getElem_toArray]
            try simp only [List.getElem_cons_succ]
            try simp only [List.getElem_cons_zero]
            try simp only [Act.put]
            try simp only [List.setIfInBounds_toArray]
            try simp only [List.set_cons_succ]
            try simp only [List.set_cons_zero]
            refine wpAnyH_ready (rs := [21]) (by kernel_rfl) (by simp) ?_
            refine AllReadyH.cons rfl (fun K hK => ?_) AllReadyH.nil
            go_simp
            refine (HNw.out _ _ _ _ w56 HA'''''''.out R3'.out.rules R1.out.rules (I1'''''.out.mono (Nat.zero_le _))).mono ?_
            rintro e wz ⟨b, rfl, a, hn, hm, hk⟩
            have hSz : Kept (fun _ => False) wc wz := hS56.trans hk
            have HF := hid (And.intro (hn.lower (KW.out.trans hS56).size) (And.intro (MustAt.mk hm) (KW.out.trans hSz)))
            clear hn hm hk
            refine hK.out _ _ (hSz) (fun _ => ?_)
            clear hK K
            try simp only [List.getElem_toArray]
            try simp only [List.getElem_cons_succ]
            try simp only [List.getElem_cons_zero]
            try simp only [Act.put]
            try simp only [List.setIfInBounds_toArray]
            try simp only [List.set_cons_succ]
            try simp only [List.set_cons_zero]
            refine wpAnyH_take (i := 22) (v := ?_) rfl (by kernel_rfl) (by kernel_rfl) (by kernel_rfl) (fun _ _ _ h => h) (Or.inl ⟨by kernel_rfl, fun W hSW => by go_simp; try with_reducible rfl⟩) (by assumption) ?_
            try simp only [List.getElem_toArray]
            try simp only [List.getElem_cons_succ]
            try simp only [List.getElem_cons_zero]
            try simp only [Act.put]
            try simp only [List.setIfInBounds_toArray]
            try simp only [List.set_cons_succ]
            try simp only [List.set_cons_zero]
            refine wpAnyH_take (i := 23) (v := ?_) rfl (by kernel_rfl) (by kernel_rfl) (by kernel_rfl) (fun _ _ _ h => h) (Or.inl ⟨by kernel_rfl, fun W hSW => by go_simp; try with_reducible rfl⟩) (by assumption) ?_
            try simp only [List.getElem_toArray]
            try simp only [List.getElem_cons_succ]
            try simp only [List.getElem_cons_zero]
            try simp only [Act.put]
            try simp only [List.setIfInBounds_toArray]
            try simp only [List.set_cons_succ]
            try simp only [List.set_cons_zero]
            refine wpAnyH_take (i := 24) (v := ?_) rfl (by kernel_rfl) (by kernel_rfl) (by kernel_rfl) (fun _ _ _ h => h) (Or.inl ⟨by kernel_rfl, fun W hSW => by go_simp; try with_reducible rfl⟩) (by assumption) ?_
            try simp only [List.getElem_toArray]
            try simp only [List.getElem_cons_succ]
            try simp only [List.getElem_cons_zero]
            try simp only [Act.put]
            try simp only [List.setIfInBounds_toArray]
            try simp only [List.set_cons_succ]
            try simp only [List.set_cons_zero]
            refine wpAnyH_take (i := 25) (v := ?_) rfl (by kernel_rfl) (by kernel_rfl) (by kernel_rfl) (fun _ _ _ h => h) (Or.inl ⟨by kernel_rfl, fun W hSW => by go_simp; try with_reducible rfl⟩) (by assumption) ?_
            try simp only [List.getElem_toArray]
            try simp only [List.getElem_cons_succ]
            try simp only [List.getElem_cons_zero]
            try simp only [Act.put]
            try simp only [List.setIfInBounds_toArray]
            try simp only [List.set_cons_succ]
            try simp only [List.set_cons_zero]
            refine wpAnyH_done (by kernel_rfl) ?_ _
            clear hSz
            go_wp2
            go_ret2
            exact ⟨b, rfl, a, HF.out.1, HF.out.2.1, HF.out.2.2⟩
          · skip
            go_simp
            have hk := (Kept.refl (fun _ => False) w54).alloc (.cells #[.int .i64 3, .int .i64 4, .int .i64 (numAd ad0), .int .i64 (numAd adT), .string (adB ad0)] 56)
            have hS57 := hS54.trans hk
            have HA'''''' := hid (HA'''''.out.kept0 hk)
            have I1'''' := hid (I1'''.out.kept0 hk)
            have R1 := hid (ownR_new0 w54)
            clear hk
            refine hK.out _ _ (hS57) (fun _ => ?_)
            clear hK K
            try simp only [List.getElem_toArray]
            try simp only [List.getElem_cons_succ]
            try simp only [List.getElem_cons_zero]
            try simp only [Act.put]
            try simp only [List.setIfInBounds_toArray]
            try simp only [List.set_cons_succ]
            try simp only [List.set_cons_zero]
            generalize World.alloc w54 (.cells #[.int .i64 3, .int .i64 4, .int .i64 (numAd ad0), .int .i64 (numAd adT), .string (adB ad0)] 56) = w57 at *
            refine wpAnyH_ready (rs := [10]) (by kernel_rfl) (by simp) ?_
            refine AllReadyH.cons rfl (fun K hK => ?_) AllReadyH.nil
            go_simp
            have hk := (Kept.refl (fun _ => False) w57).alloc (.cells #[.int .i64 3, .int .i64 4, .int .i64 (numAd ad1), .int .i64 (numAd adT), .string (adB ad1), .int .i64 129, .int .i64 4, .int .i64 (numAd ad1), .int .i64 (numAd adT), .string (adB ad1), .int .i64 131, .int .i64 4, .int .i64 (numAd ad1), .int .i64 (numAd adT), .string (adB ad1)] 56)
            have hS58 := hS57.trans hk
            have HA''''''' := hid (HA''''''.out.kept0 hk)
            have I1''''' := hid (I1''''.out.kept0 hk)
            have R1' := hid (R1.out.kept0 hk)
            have R3 := hid (ownR_new3 w57)
            clear hk
            refine hK.out _ _ (hS58) (fun _ => ?_)
            clear hK K
            try simp only [List.getElem_toArray]
            try simp only [List.getElem_cons_succ]
            try simp only [List.getElem_cons_zero]
            try simp only [Act.put]
            try simp only [List.setIfInBounds_toArray]
            try simp only [List.set_cons_succ]
            try simp only [List.set_cons_zero]
            generalize World.alloc w57 (.cells #[.int .i64 3, .int .i64 4, .int .i64 (numAd ad1), .int .i64 (numAd adT), .string (adB ad1), .int .i64 129, .int .i64 4, .int .i64 (numAd ad1), .int .i64 (numAd adT), .string (adB ad1), .int .i64 131, .int .i64 4, .int .i64 (numAd ad1), .int .i64 (numAd adT), .string (adB ad1)] 56) = w58 at *
            refine wpAnyH_take (i := 20) (v := ?_) rfl (by kernel_rfl) (by kernel_rfl) (by kernel_rfl) (fun _ _ _ h => h) (Or.inl ⟨by kernel_rfl, fun W hSW => by go_simp; try with_reducible rfl⟩) (by assumption) ?_
            try simp only [List.getElem_toArray]
            try simp only [List.getElem_cons_succ]
            try simp only [List.getElem_cons_zero]
            try simp only [Act.put]
            try simp only [List.setIfInBounds_toArray]
            try simp only [List.set_cons_succ]
            try simp only [List.set_cons_zero]
            refine wpAnyH_ready (rs := [21]) (by kernel_rfl) (by simp) ?_
            refine AllReadyH.cons rfl (fun K hK => ?_) AllReadyH.nil
            go_simp
            refine (HNw.out _ _ _ _ w58 HA'''''''.out R3.out.rules R1'.out.rules (I1'''''.out.mono (Nat.zero_le _))).mono ?_
            rintro e wz ⟨b, rfl, a, hn, hm, hk⟩
            have hSz : Kept (fun _ => False) wc wz := hS58.trans hk
            have HF := hid (And.intro (hn.lower (KW.out.trans hS58).size) (And.intro (MustAt.mk hm) (KW.out.trans hSz)))
            clear hn hm hk
            refine hK.out _ _ (hSz) (fun _ => ?_)
            clear hK K
            try simp only [List.getElem_toArray]
            try simp only [List.getElem_cons_succ]
            try simp only [List.getElem_cons_zero]
            try simp only [Act.put]
            try simp only [List.setIfInBounds_toArray]
            try simp only [List.set_cons_succ]
            try simp only [List.set_cons_zero]
            refine wpAnyH_take (i := 22) (v := ?_) rfl (by kernel_rfl) (by kernel_rfl) (by kernel_rfl) (fun _ _ _ h => h) (Or.inl ⟨by kernel_rfl, fun W hSW => by go_simp; try with_reducible rfl⟩) (by assumption) ?_
            try simp only [List.getElem_toArray]
            try simp only [List.getElem_cons_succ]
            try simp only [List.getElem_cons_zero]
            try simp only [Act.put]
            try simp only [List.setIfInBounds_toArray]
            try simp only [List.set_cons_succ]
            try simp only [List.set_cons_zero]
            refine wpAnyH_take (i := 23) (v := ?_) rfl (by kernel_rfl) (by kernel_rfl) (by kernel_rfl) (fun _ _ _ h => h) (Or.inl ⟨by kernel_rfl, fun W hSW => by go_simp; try with_reducible rfl⟩) (by assumption) ?_
            try simp only [List.getElem_toArray]
            try simp only [List.getElem_cons_succ]
            try simp only [List.getElem_cons_zero]
            try simp only [Act.put]
            try simp only [List.setIfInBounds_toArray]
            try simp only [List.set_cons_succ]
            try simp only [List.set_cons_zero]
            refine wpAnyH_take (i := 24) (v := ?_) rfl (by kernel_rfl) (by kernel_rfl) (by kernel_rfl) (fun _ _ _ h => h) (Or.inl ⟨by kernel_rfl, fun W hSW => by go_simp; try with_reducible rfl⟩) (by assumption) ?_
            try simp only [List.getElem_toArray]
            try simp only [List.getElem_cons_succ]
            try simp only [List.getElem_cons_zero]
            try simp only [Act.put]
            try simp only [List.setIfInBounds_toArray]
            try simp only [List.set_cons_succ]
            try simp only [List.set_cons_zero]
            refine wpAnyH_take (i := 25) (v := ?_) rfl (by kernel_rfl) (by kernel_rfl) (by kernel_rfl) (fun _ _ _ h => h) (Or.inl ⟨by kernel_rfl, fun W hSW => by go_simp; try with_reducible rfl⟩) (by assumption) ?_
            try simp only [List.getElem_toArray]
            try simp only [List.getElem_cons_succ]
            try simp only [List.getElem_cons_zero]
            try simp only [Act.put]
            try simp only [List.setIfInBounds_toArray]
            try simp only [List.set_cons_succ]
            try simp only [List.set_cons_zero]
            refine wpAnyH_done (by kernel_rfl) ?_ _
            clear hSz
            go_wp2
            go_ret2
            exact ⟨b, rfl, a, HF.out.1, HF.out.2.1, HF.out.2.2⟩
    · skip
      go_simp
      have hS59 : Kept (fun _ => False) wc (World.alloc wc (.cells #[.int .i64 3] 3)).drew := ((Kept.refl (fun _ => False) wc).alloc _).drew
      have HA' := hid (HA0.out.1.kept0 hS59)
      have I1 := hid ((ownI_new wc).kept0 (Kept.refl (fun _ => False) (World.alloc wc (.cells #[.int .i64 3] 3))).drew)
      refine hK.out _ _ (hS59) (fun _ => ?_)
      clear hK K
      try simp only [List.getElem_toArray]
      try simp only [List.getElem_cons_succ]
      try simp only [List.getElem_cons_zero]
      try simp only [Act.put]
      try simp only [List.setIfInBounds_toArray]
      try simp only [List.set_cons_succ]
      try simp only [List.set_cons_zero]
      generalize (World.alloc wc (.cells #[.int .i64 3] 3)).drew = w59 at *
      refine wpAnyH_ready (rs := [3]) (by kernel_rfl) (by simp) ?_
      refine AllReadyH.cons rfl (fun K hK => ?_) AllReadyH.nil
      go_simp
      refine (HR3.out _).mono ?_
      rintro e w60 ⟨rfl, hk⟩
      have hS60 : Kept (fun _ => False) wc w60 := hS59.trans hk
      have HA'' := hid (HA'.out.kept0 hk)
      have I1' := hid (I1.out.kept0 hk)
      clear hk
      refine hK.out _ _ (hS60) (fun _ => ?_)
      clear hK K
      try simp only [List.getElem_toArray]
      try simp only [List.getElem_cons_succ]
      try simp only [List.getElem_cons_zero]
      try simp only [Act.put]
      try simp only [List.setIfInBounds_toArray]
      try simp only [List.set_cons_succ]
      try simp only [List.set_cons_zero]
      refine wpAnyH_ready (rs := [6]) (by kernel_rfl) (by simp) ?_
      refine AllReadyH.cons rfl (fun K hK => ?_) AllReadyH.nil
      go_simp
      refine (HR129.out _).mono ?_
      rintro e w61 ⟨rfl, hk⟩
      have hS61 : Kept (fun _ => False) wc w61 := hS60.trans hk
      have HA''' := hid (HA''.out.kept0 hk)
      have I1'' := hid (I1'.out.kept0 hk)
      clear hk
      refine hK.out _ _ (hS61) (fun _ => ?_)
      clear hK K
      try simp only [List.getElem_toArray]
      try simp only [List.getElem_cons_succ]
      try simp only [List.getElem_cons_zero]
      try simp only [Act.put]
      try simp only [List.setIfInBounds_toArray]
      try simp only [List.set_cons_succ]
      try simp only [List.set_cons_zero]
      refine wpAnyH_ready (rs := [9]) (by kernel_rfl) (by simp) ?_
      refine AllReadyH.cons rfl (fun K hK => ?_) AllReadyH.nil
      go_simp
      refine (HR131.out _).mono ?_
      rintro e w62 ⟨rfl, hk⟩
      have hS62 : Kept (fun _ => False) wc w62 := hS61.trans hk
      have HA'''' := hid (HA'''.out.kept0 hk)
      have I1''' := hid (I1''.out.kept0 hk)
      clear hk
      refine hK.out _ _ (hS62) (fun _ => ?_)
      clear hK K
      try simp only [List.getElem_toArray]
      try simp only [List.getElem_cons_succ]
      try simp only [List.getElem_cons_zero]
      try simp only [Act.put]
      try simp only [List.setIfInBounds_toArray]
      try simp only [List.set_cons_succ]
      try simp only [List.set_cons_zero]
      refine wpAnyH_ready (rs := [10, 13]) (by kernel_rfl) (by simp) ?_
      refine AllReadyH.cons rfl (fun K hK => ?_) (AllReadyH.cons rfl (fun K hK => ?_) AllReadyH.nil)
      · skip
        go_simp
        have hk := (Kept.refl (fun _ => False) w62).alloc (.cells #[.int .i64 3, .int .i64 4, .int .i64 (numAd ad1), .int .i64 (numAd adT), .string (adB ad1), .int .i64 129, .int .i64 4, .int .i64 (numAd ad1), .int .i64 (numAd adT), .string (adB ad1), .int .i64 131, .int .i64 4, .int .i64 (numAd ad1), .int .i64 (numAd adT), .string (adB ad1)] 56)
        have hS63 := hS62.trans hk
        have HA''''' := hid (HA''''.out.kept0 hk)
        have I1'''' := hid (I1'''.out.kept0 hk)
        have R3 := hid (ownR_new3 w62)
        clear hk
        refine hK.out _ _ (hS63) (fun _ => ?_)
        clear hK K
        try simp only [List.getElem_toArray]
        try simp only [List.getElem_cons_succ]
        try simp only [List.getElem_cons_zero]
        try simp only [Act.put]
        try simp only [List.setIfInBounds_toArray]
        try simp only [List.set_cons_succ]
        try simp only [List.set_cons_zero]
        generalize World.alloc w62 (.cells #[.int .i64 3, .int .i64 4, .int .i64 (numAd ad1), .int .i64 (numAd adT), .string (adB ad1), .int .i64 129, .int .i64 4, .int .i64 (numAd ad1), .int .i64 (numAd adT), .string (adB ad1), .int .i64 131, .int .i64 4, .int .i64 (numAd ad1), .int .i64 (numAd adT), .string (adB ad1)] 56) = w63 at *
        refine wpAnyH_ready (rs := [13]) (by kernel_rfl) (by simp) ?_
        refine AllReadyH.cons rfl (fun K hK => ?_) AllReadyH.nil
        go_simp
        refine (HR0.out _).mono ?_
        rintro e w64 ⟨rfl, hk⟩
        have hS64 : Kept (fun _ => False) wc w64 := hS63.trans hk
        have HA'''''' := hid (HA'''''.out.kept0 hk)
        have I1''''' := hid (I1''''.out.kept0 hk)
        have R3' := hid (R3.out.kept0 hk)
        clear hk
        refine hK.out _ _ (hS64) (fun _ => ?_)
        clear hK K
        try simp only [List.getElem_toArray]
        try simp only [List.getElem_cons_succ]
        try simp only [List.getElem_cons_zero]
        try simp only [Act.put]
        try simp only [List.setIfInBounds_toArray]
        try simp only [List.set_cons_succ]
        try simp only [List.set_cons_zero]
        refine wpAnyH_ready (rs := [14]) (by kernel_rfl) (by simp) ?_
        refine AllReadyH.cons rfl (fun K hK => ?_) AllReadyH.nil
        go_simp
        have hk := (Kept.refl (fun _ => False) w64).alloc (.cells #[.int .i64 3, .int .i64 4, .int .i64 (numAd ad0), .int .i64 (numAd adT), .string (adB ad0)] 56)
        have hS65 := hS64.trans hk
        have HA''''''' := hid (HA''''''.out.kept0 hk)
        have I1'''''' := hid (I1'''''.out.kept0 hk)
        have R3'' := hid (R3'.out.kept0 hk)
        have R1 := hid (ownR_new0 w64)
        clear hk
        refine hK.out _ _ (hS65) (fun _ => ?_)
        clear hK K
        try simp only [List.getElem_toArray]
        try simp only [List.getElem_cons_succ]
        try simp only [List.getElem_cons_zero]
        try simp only [Act.put]
        try simp only [List.setIfInBounds_toArray]
        try simp only [List.set_cons_succ]
        try simp only [List.set_cons_zero]
        generalize World.alloc w64 (.cells #[.int .i64 3, .int .i64 4, .int .i64 (numAd ad0), .int .i64 (numAd adT), .string (adB ad0)] 56) = w65 at *
        refine wpAnyH_take (i := 20) (v := ?_) rfl (by kernel_rfl) (by kernel_rfl) (by kernel_rfl) (fun _ _ _ h => h) (Or.inl ⟨by kernel_rfl, fun W hSW => by go_simp; try with_reducible rfl⟩) (by assumption) ?_
        try simp only [List.getElem_toArray]
        try simp only [List.getElem_cons_succ]
        try simp only [List.getElem_cons_zero]
        try simp only [Act.put]
        try simp only [List.setIfInBounds_toArray]
        try simp only [List.set_cons_succ]
        try simp only [List.set_cons_zero]
        refine wpAnyH_ready (rs := [21]) (by kernel_rfl) (by simp) ?_
        refine AllReadyH.cons rfl (fun K hK => ?_) AllReadyH.nil
        go_simp
        refine (HNw.out _ _ _ _ w65 HA'''''''.out R3''.out.rules R1.out.rules (I1''''''.out.mono (Nat.zero_le _))).mono ?_
        rintro e wz ⟨b, rfl, a, hn, hm, hk⟩
        have hSz : Kept (fun _ => False) wc wz := hS65.trans hk
        have HF := hid (And.intro (hn.lower (KW.out.trans hS65).size) (And.intro (MustAt.mk hm) (KW.out.trans hSz)))
        clear hn hm hk
        refine hK.out _ _ (hSz) (fun _ => ?_)
        clear hK K
        try simp only [List.getElem_toArray]
        try simp only [List.getElem_cons_succ]
        try simp only [List.getElem_cons_zero]
        try simp only [Act.put]
        try simp only [List.setIfInBounds_toArray]
        try simp only [List.set_cons_succ]
        try simp only [List.set_cons_zero]
        refine wpAnyH_take (i := 22) (v := ?_) rfl (by kernel_rfl) (by kernel_rfl) (by kernel_rfl) (fun _ _ _ h => h) (Or.inl ⟨by kernel_rfl, fun W hSW => by go_simp; try with_reducible rfl⟩) (by assumption) ?_
        try simp only [List.getElem_toArray]
        try simp only [List.getElem_cons_succ]
        try simp only [List.getElem_cons_zero]
        try simp only [Act.put]
        try simp only [List.setIfInBounds_toArray]
        try simp only [List.set_cons_succ]
        try simp only [List.set_cons_zero]
        refine wpAnyH_take (i := 23) (v := ?_) rfl (by kernel_rfl) (by kernel_rfl) (by kernel_rfl) (fun _ _ _ h => h) (Or.inl ⟨by kernel_rfl, fun W hSW => by go_simp; try with_reducible rfl⟩) (by assumption) ?_
        try simp only [List.getElem_toArray]
        try simp only [List.getElem_cons_succ]
        try simp only [List.getElem_cons_zero]
        try simp only [Act.put]
        try simp only [List.setIfInBounds_toArray]
        try simp only [List.set_cons_succ]
        try simp only [List.set_cons_zero]
        refine wpAnyH_take (i := 24) (v := ?_) rfl (by kernel_rfl) (by kernel_rfl) (by kernel_rfl) (fun _ _ _ h => h) (Or.inl ⟨by kernel_rfl, fun W hSW => by go_simp; try with_reducible rfl⟩) (by assumption) ?_
        try simp only [List.getElem_toArray]
        try simp only [List.getElem_cons_succ]
        try simp only [List.getElem_cons_zero]
        try simp only [Act.put]
        try simp only [List.setIfInBounds_toArray]
        try simp only [List.set_cons_succ]
        try simp only [List.set_cons_zero]
        refine wpAnyH_take (i := 25) (v := ?_) rfl (by kernel_rfl) (by kernel_rfl) (by kernel_rfl) (fun _ _ _ h => h) (Or.inl ⟨by kernel_rfl, fun W hSW => by go_simp; try with_reducible rfl⟩) (by assumption) ?_
        try simp only [List.getElem_toArray]
        try simp only [List.getElem_cons_succ]
        try simp only [List.getElem_cons_zero]
        try simp only [Act.put]
        try simp only [List.setIfInBounds_toArray]
        try simp only [List.set_cons_succ]
        try simp only [List.set_cons_zero]
        refine wpAnyH_done (by kernel_rfl) ?_ _
        clear hSz
        go_wp2
        go_ret2
        exact ⟨b, rfl, a, HF.out.1, HF.out.2.1, HF.out.2.2⟩
      · skip
        go_simp
        refine (HR0.out _).mono ?_
        rintro e w66 ⟨rfl, hk⟩
        have hS66 : Kept (fun _ => False) wc w66 := hS62.trans hk
        have HA''''' := hid (HA''''.out.kept0 hk)
        have I1'''' := hid (I1'''.out.kept0 hk)
        clear hk
        refine hK.out _ _ (hS66) (fun _ => ?_)
        clear hK K
        try simp only [List.getElem_toArray]
        try simp only [List.getElem_cons_succ]
        try simp only [List.getElem_cons_zero]
        try simp only [Act.put]
        try simp only [List.setIfInBounds_toArray]
        try simp only [List.set_cons_succ]
        try simp only [List.set_cons_zero]
        refine wpAnyH_ready (rs := [10, 14]) (by kernel_rfl) (by simp) ?_
        refine AllReadyH.cons rfl (fun K hK => ?_) (AllReadyH.cons rfl (fun K hK => ?_) AllReadyH.nil)
        · skip
          go_simp
          have hk := (Kept.refl (fun _ => False) w66).alloc (.cells #[.int .i64 3, .int .i64 4, .int .i64 (numAd ad1), .int .i64 (numAd adT), .string (adB ad1), .int .i64 129, .int .i64 4, .int .i64 (numAd ad1), .int .i64 (numAd adT), .string (adB ad1), .int .i64 131, .int .i64 4, .int .i64 (numAd ad1), .int .i64 (numAd adT), .string (adB ad1)] 56)
          have hS67 := hS66.trans hk
          have HA'''''' := hid (HA'''''.out.kept0 hk)
          have I1''''' := hid (I1''''.out.kept0 hk)
          have R3 := hid (ownR_new3 w66)
          clear hk
          refine hK.out _ _ (hS67) (fun _ => ?_)
          clear hK K
          try simp only [List.getElem_toArray]
          try simp only [List.getElem_cons_succ]
          try simp only [List.getElem_cons_zero]
          try simp only [Act.put]
          try simp only [List.setIfInBounds_toArray]
          try simp only [List.set_cons_succ]
          try simp only [List.set_cons_zero]
          generalize World.alloc w66 (.cells #[.int .i64 3, .int .i64 4, .int .i64 (numAd ad1), .int .i64 (numAd adT), .string (adB ad1), .int .i64 129, .int .i64 4, .int .i64 (numAd ad1), .int .i64 (numAd adT), .string (adB ad1), .int .i64 131, .int .i64 4, .int .i64 (numAd ad1), .int .i64 (numAd adT), .string (adB ad1)] 56) = w67 at *
          refine wpAnyH_ready (rs := [14]) (by kernel_rfl) (by simp) ?_
          refine AllReadyH.cons rfl (fun K hK => ?_) AllReadyH.nil
          go_simp
          have hk := (Kept.refl (fun _ => False) w67).alloc (.cells #[.int .i64 3, .int .i64 4, .int .i64 (numAd ad0), .int .i64 (numAd adT), .string (adB ad0)] 56)
          have hS68 := hS67.trans hk
          have HA''''''' := hid (HA''''''.out.kept0 hk)
          have I1'''''' := hid (I1'''''.out.kept0 hk)
          have R3' := hid (R3.out.kept0 hk)
          have R1 := hid (ownR_new0 w67)
          clear hk
          refine hK.out _ _ (hS68) (fun _ => ?_)
          clear hK K
          try simp only [List.getElem_toArray]
          try simp only [List.getElem_cons_succ]
          try simp only [List.getElem_cons_zero]
          try simp only [Act.put]
          try simp only [List.setIfInBounds_toArray]
          try simp only [List.set_cons_succ]
          try simp only [List.set_cons_zero]
          generalize World.alloc w67 (.cells #[.int .i64 3, .int .i64 4, .int .i64 (numAd ad0), .int .i64 (numAd adT), .string (adB ad0)] 56) = w68 at *
          refine wpAnyH_take (i := 20) (v := ?_) rfl (by kernel_rfl) (by kernel_rfl) (by kernel_rfl) (fun _ _ _ h => h) (Or.inl ⟨by kernel_rfl, fun W hSW => by go_simp; try with_reducible rfl⟩) (by assumption) ?_
          try simp only [List.getElem_toArray]
          try simp only [List.getElem_cons_succ]
          try simp only [List.getElem_cons_zero]
          try simp only [Act.put]
          try simp only [List.setIfInBounds_toArray]
          try simp only [List.set_cons_succ]
          try simp only [List.set_cons_zero]
          refine wpAnyH_ready (rs := [21]) (by kernel_rfl) (by simp) ?_
          refine AllReadyH.cons rfl (fun K hK => ?_) AllReadyH.nil
          go_simp
          refine (HNw.out _ _ _ _ w68 HA'''''''.out R3'.out.rules R1.out.rules (I1''''''.out.mono (Nat.zero_le _))).mono ?_
          rintro e wz ⟨b, rfl, a, hn, hm, hk⟩
          have hSz : Kept (fun _ => False) wc wz := hS68.trans hk
          have HF := hid (And.intro (hn.lower (KW.out.trans hS68).size) (And.intro (MustAt.mk hm) (KW.out.trans hSz)))
          clear hn hm hk
          refine hK.out _ _ (hSz) (fun _ => ?_)
          clear hK K
          try simp only [List.getElem_toArray]
          try simp only [List.getElem_cons_succ]
          try simp only [List.getElem_cons_zero]
          try simp only [Act.put]
          try simp only [List.setIfInBounds_toArray]
          try simp only [List.set_cons_succ]
          try simp only [List.set_cons_zero]
          refine wpAnyH_take (i := 22) (v := ?_) rfl (by kernel_rfl) (by kernel_rfl) (by kernel_rfl) (fun _ _ _ h => h) (Or.inl ⟨by kernel_rfl, fun W hSW => by go_simp; try with_reducible rfl⟩) (by assumption) ?_
          try simp only [List.getElem_toArray]
          try simp only [List.getElem_cons_succ]
          try simp only [List.getElem_cons_zero]
          try simp only [Act.put]
          try simp only [List.setIfInBounds_toArray]
          try simp only [List.set_cons_succ]
          try simp only [List.set_cons_zero]
          refine wpAnyH_take (i := 23) (v := ?_) rfl (by kernel_rfl) (by kernel_rfl) (by kernel_rfl) (fun _ _ _ h => h) (Or.inl ⟨by kernel_rfl, fun W hSW => by go_simp; try with_reducible rfl⟩) (by assumption) ?_
          try simp only [List.getElem_toArray]
          try simp only [List.getElem_cons_succ]
          try simp only [List.getElem_cons_zero]
          try simp only [Act.put]
          try simp only [List.setIfInBounds_toArray]
          try simp only [List.set_cons_succ]
          try simp only [List.set_cons_zero]
          refine wpAnyH_take (i := 24) (v := ?_) rfl (by kernel_rfl) (by kernel_rfl) (by kernel_rfl) (fun _ _ _ h => h) (Or.inl ⟨by kernel_rfl, fun W hSW => by go_simp; try with_reducible rfl⟩) (by assumption) ?_
          try simp only [List.getElem_toArray]
          try simp only [List.getElem_cons_succ]
          try simp only [List.getElem_cons_zero]
          try simp only [Act.put]
          try simp only [List.setIfInBounds_toArray]
          try simp only [List.set_cons_succ]
          try simp only [List.set_cons_zero]
          refine wpAnyH_take (i := 25) (v := ?_) rfl (by kernel_rfl) (by kernel_rfl) (by kernel_rfl) (fun _ _ _ h => h) (Or.inl ⟨by kernel_rfl, fun W hSW => by go_simp; try with_reducible rfl⟩) (by assumption) ?_
          try simp only [List.getElem_toArray]
          try simp only [List.getElem_cons_succ]
          try simp only [List.getElem_cons_zero]
          try simp only [Act.put]
          try simp only [List.setIfInBounds_toArray]
          try simp only [List.set_cons_succ]
          try simp only [List.set_cons_zero]
          refine wpAnyH_done (by kernel_rfl) ?_ _
          clear hSz
          go_wp2
          go_ret2
          exact ⟨b, rfl, a, HF.out.1, HF.out.2.1, HF.out.2.2⟩
        · skip
          go_simp
          have hk := (Kept.refl (fun _ => False) w66).alloc (.cells #[.int .i64 3, .int .i64 4, .int .i64 (numAd ad0), .int .i64 (numAd adT), .string (adB ad0)] 56)
          have hS69 := hS66.trans hk
          have HA'''''' := hid (HA'''''.out.kept0 hk)
          have I1''''' := hid (I1''''.out.kept0 hk)
          have R1 := hid (ownR_new0 w66)
          clear hk
          refine hK.out _ _ (hS69) (fun _ => ?_)
          clear hK K
          try simp only [List.getElem_toArray]
          try simp only [List.getElem_cons_succ]
          try simp only [List.getElem_cons_zero]
          try simp only [Act.put]
          try simp only [List.setIfInBounds_toArray]
          try simp only [List.set_cons_succ]
          try simp only [List.set_cons_zero]
          generalize World.alloc w66 (.cells #[.int .i64 3, .int .i64 4, .int .i64 (numAd ad0), .int .i64 (numAd adT), .string (adB ad0)] 56) = w69 at *
          refine wpAnyH_ready (rs := [10]) (by kernel_rfl) (by simp) ?_
          refine AllReadyH.cons rfl (fun K hK => ?_) AllReadyH.nil
          go_simp
          have hk := (Kept.refl (fun _ => False) w69).alloc (.cells #[.int .i64 3, .int .i64 4, .int .i64 (numAd ad1), .int .i64 (numAd adT), .string (adB ad1), .int .i64 129, .int .i64 4, .int .i64 (numAd ad1), .int .i64 (numAd adT), .string (adB ad1), .int .i64 131, .int .i64 4, .int .i64 (numAd ad1), .int .i64 (numAd adT), .string (adB ad1)] 56)
          have hS70 := hS69.trans hk
          have HA''''''' := hid (HA''''''.out.kept0 hk)
          have I1'''''' := hid (I1'''''.out.kept0 hk)
          have R1' := hid (R1.out.kept0 hk)
          have R3 := hid (ownR_new3 w69)
          clear hk
          refine hK.out _ _ (hS70) (fun _ => ?_)
          clear hK K
          try simp only [List.getElem_toArray]
          try simp only [List.getElem_cons_succ]
          try simp only [List.getElem_cons_zero]
          try simp only [Act.put]
          try simp only [List.setIfInBounds_toArray]
          try simp only [List.set_cons_succ]
          try simp only [List.set_cons_zero]
          generalize World.alloc w69 (.cells #[.int .i64 3, .int .i64 4, .int .i64 (numAd ad1), .int .i64 (numAd adT), .string (adB ad1), .int .i64 129, .int .i64 4, .int .i64 (numAd ad1), .int .i64 (numAd adT), .string (adB ad1), .int .i64 131, .int .i64 4, .int .i64 (numAd ad1), .int .i64 (numAd adT), .string (adB ad1)] 56) = w70 at *
          refine wpAnyH_take (i := 20) (v := ?_) rfl (by kernel_rfl) (by kernel_rfl) (by kernel_rfl) (fun _ _ _ h => h) (Or.inl ⟨by kernel_rfl, fun W hSW => by go_simp; try with_reducible rfl⟩) (by assumption) ?_
          try simp only [List.getElem_toArray]
          try simp only [List.getElem_cons_succ]
          try simp only [List.getElem_cons_zero]
          try simp only [Act.put]
          try simp only [List.setIfInBounds_toArray]
          try simp only [List.set_cons_succ]
          try simp only [List.set_cons_zero]
          refine wpAnyH_ready (rs := [21]) (by kernel_rfl) (by simp) ?_
          refine AllReadyH.cons rfl (fun K hK => ?_) AllReadyH.nil
          go_simp
          refine (HNw.out _ _ _ _ w70 HA'''''''.out R3.out.rules R1'.out.rules (I1''''''.out.mono (Nat.zero_le _))).mono ?_
          rintro e wz ⟨b, rfl, a, hn, hm, hk⟩
          have hSz : Kept (fun _ => False) wc wz := hS70.trans hk
          have HF := hid (And.intro (hn.lower (KW.out.trans hS70).size) (And.intro (MustAt.mk hm) (KW.out.trans hSz)))
          clear hn hm hk
          refine hK.out _ _ (hSz) (fun _ => ?_)
          clear hK K
          try simp only [List.getElem_toArray]
          try simp only [List.getElem_cons_succ]
          try simp only [List.getElem_cons_zero]
          try simp only [Act.put]
          try simp only [List.setIfInBounds_toArray]
          try simp only [List.set_cons_succ]
          try simp only [List.set_cons_zero]
          refine wpAnyH_take (i := 22) (v := ?_) rfl (by kernel_rfl) (by kernel_rfl) (by kernel_rfl) (fun _ _ _ h => h) (Or.inl ⟨by kernel_rfl, fun W hSW => by go_simp; try with_reducible rfl⟩) (by assumption) ?_
          try simp only [List.getElem_toArray]
          try simp only [List.getElem_cons_succ]
          try simp only [List.getElem_cons_zero]
          try simp only [Act.put]
          try simp only [List.setIfInBounds_toArray]
          try simp only [List.set_cons_succ]
          try simp only [List.set_cons_zero]
          refine wpAnyH_take (i := 23) (v := ?_) rfl (by kernel_rfl) (by kernel_rfl) (by kernel_rfl) (fun _ _ _ h => h) (Or.inl ⟨by kernel_rfl, fun W hSW => by go_simp; try with_reducible rfl⟩) (by assumption) ?_
          try simp only [List.getElem_toArray]
          try simp only [List.getElem_cons_succ]
          try simp only [List.getElem_cons_zero]
          try simp only [Act.put]
          try simp only [List.setIfInBounds_toArray]
          try simp only [List.set_cons_succ]
          try simp only [List.set_cons_zero]
          refine wpAnyH_take (i := 24) (v := ?_) rfl (by kernel_rfl) (by kernel_rfl) (by kernel_rfl) (fun _ _ _ h => h) (Or.inl ⟨by kernel_rfl, fun W hSW => by go_simp; try with_reducible rfl⟩) (by assumption) ?_
          try simp only [List.getElem_toArray]
          try simp only [List.getElem_cons_succ]
          try simp only [List.getElem_cons_zero]
          try simp only [Act.put]
          try simp only [List.setIfInBounds_toArray]
          try simp only [List.set_cons_succ]
          try simp only [List.set_cons_zero]
          refine wpAnyH_take (i := 25) (v := ?_) rfl (by kernel_rfl) (by kernel_rfl) (by kernel_rfl) (fun _ _ _ h => h) (Or.inl ⟨by kernel_rfl, fun W hSW => by go_simp; try with_reducible rfl⟩) (by assumption) ?_
          try simp only [List.getElem_toArray]
          try simp only [List.getElem_cons_succ]
          try simp only [List.getElem_cons_zero]
          try simp only [Act.put]
          try simp only [List.setIfInBounds_toArray]
          try simp only [List.set_cons_succ]
          try simp only [List.set_cons_zero]
          refine wpAnyH_done (by kernel_rfl) ?_ _
          clear hSz
          go_wp2
          go_ret2
          exact ⟨b, rfl, a, HF.out.1, HF.out.2.1, HF.out.2.2⟩
end Go.Proofs.Ytcmdfcdmfdheeaa
