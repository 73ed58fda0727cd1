/- The contract of refuse: the nak or the reject of a request. -/
import Derived.Test.YtcmdfcdmfdheeaaNgReply
namespace Go.Proofs.Ytcmdfcdmfdheeaa
open Go.RowKit

def refuseF (n : Ng) (c : Cz) : Ng × Pk0 :=
  if c.ans.code ≠ 3 ∨ n.fails = 0 then (n, c.ans) else if n.naks < n.fails then ({ n with naks := n.naks + 1 }, c.ans) else (n, ⟨4, c.came.id, misF c.rules c.came.opts, ⟨#[]⟩⟩)

/-- The eight cells of a boxed cause. -/
def Box8 (w : World) (r : Nat) (c : Cz) (v u : Value) (mr : Option Nat) : Prop := ∀ j x, [Value.int .i64 c.came.code, .int .i64 c.came.id, v, .string c.came.data, .int .i64 c.ans.code, .int .i64 c.ans.id, u, .string c.ans.data, .map mr][j]? = some x → w.cell? ⟨r, j, none⟩ = some x
theorem Box8.kept {S : Nat → Prop} {w w1 : World} {r : Nat} {c : Cz} {v u : Value} {mr : Option Nat} (h : Box8 w r c v u mr) (hk : Kept S w w1) (hS : ¬ S r) : Box8 w1 r c v u mr := fun j x hj => by
  have hlt : r < w.heap.size := lt_of_cell (h 0 _ rfl)
  exact (hk.cell (p := ⟨r, j, none⟩) hlt hS).trans (h j x hj)
/-- What a packet that is told may be: a list of the caller's or a new one. -/
structure Told (w w' : World) (base : Nat) (u u' : Value) (l : List Tg) : Prop where
  own : OwnO w' base u' l
  fresh : ∀ i, u'.ownBlock = some i → u.ownBlock = some i ∨ w.heap.size ≤ i

theorem misF_fine {rs : List Rl} {l : List Tg} (h : FineO l) : FineO (misF rs l) :=
  ⟨Nat.le_trans (List.length_filter_le _ _) h.1, fun x hx => h.2.1 x (misF_sub hx), fun x hx => h.2.2 x (misF_sub hx)⟩

set_option maxHeartbeats 4000000 in
set_option maxRecDepth 100000 in
theorem refuse_any {base b : Nat} {a : Nm} {n : Ng} (c : Cz) (v u : Value) (mr : Option Nat) (w : World) (h : NegIn w base b a n) (hc : CzAt w base b a c v u mr) :
    Calls Try.prog 62 #[.pointer (some ⟨b, 0, none⟩), czV c.came.code c.came.id v c.came.data c.ans.code c.ans.id u c.ans.data mr] w fun e w' => ∃ u', e = .returned (pkV (refuseF n c).2.code (refuseF n c).2.id u' (refuseF n c).2.data) ∧ NNext w w' base b a a (refuseF n c).1 ∧ Told w w' base u u' (refuseF n c).2.opts := by
  unfold czV pkV
  obtain ⟨pv, cv, hv⟩ := hc.came.1.slice
  obtain ⟨pu, cu, hu⟩ := slice_of hc.ans
  have hk0 := (Kept.refl (fun _ => False) w).alloc (.cells #[.int .i64 c.came.code, .int .i64 c.came.id, v, .string c.came.data, .int .i64 c.ans.code, .int .i64 c.ans.id, u, .string c.ans.data, .map mr] 68)
  have hk1 := hk0.alloc (.cells #[.int .i64 0, .int .i64 0, .slice none 0 0, .string ⟨#[]⟩] 40)
  have X0 : Box8 (w.alloc (.cells #[.int .i64 c.came.code, .int .i64 c.came.id, v, .string c.came.data, .int .i64 c.ans.code, .int .i64 c.ans.id, u, .string c.ans.data, .map mr] 68)) w.heap.size c v u mr := cells9_new _ _ _ _ _ _ _ _ _ _ _
  have X1 := hid (X0.kept ((Kept.refl (fun _ => False) _).alloc (.cells #[.int .i64 0, .int .i64 0, .slice none 0 0, .string ⟨#[]⟩] 40)) id)
  have hsz : (w.alloc (.cells #[.int .i64 c.came.code, .int .i64 c.came.id, v, .string c.came.data, .int .i64 c.ans.code, .int .i64 c.ans.id, u, .string c.ans.data, .map mr] 68)).heap.size = w.heap.size + 1 := by simp
  have O1 := own4_new (w.alloc (.cells #[.int .i64 c.came.code, .int .i64 c.came.id, v, .string c.came.data, .int .i64 c.ans.code, .int .i64 c.ans.id, u, .string c.ans.data, .map mr] 68)) 40 (.int .i64 0) (.int .i64 0) (.slice none 0 0) (.string ⟨#[]⟩)
  have B1 := PkBlk.new (w.alloc (.cells #[.int .i64 c.came.code, .int .i64 c.came.id, v, .string c.came.data, .int .i64 c.ans.code, .int .i64 c.ans.id, u, .string c.ans.data, .map mr] 68)) #[.int .i64 0, .int .i64 0, .slice none 0 0, .string ⟨#[]⟩]
  rw [hsz] at O1 B1
  have hnS : ∀ r, w.heap.size ≤ r → ¬ Sn b a r := fun r hr s => by have := h.sn_lt _ s; omega
  have h1 := h.kept0 hk1
  have N1 := NNext.of0 h hk1
  have C1 := hc.kept0 hk1
  generalize hA : (w.alloc (.cells #[.int .i64 c.came.code, .int .i64 c.came.id, v, .string c.came.data, .int .i64 c.ans.code, .int .i64 c.ans.id, u, .string c.ans.data, .map mr] 68)).alloc (.cells #[.int .i64 0, .int .i64 0, .slice none 0 0, .string ⟨#[]⟩] 40) = A at *
  have x0 := X1.out 0 _ rfl
  have x1 := X1.out 1 _ rfl
  have x2 := X1.out 2 _ rfl
  have x4 := X1.out 4 _ rfl
  have x5 := X1.out 5 _ rfl
  have x6 := X1.out 6 _ rfl
  have x7 := X1.out 7 _ rfl
  have x8 := X1.out 8 _ rfl
  have d5 := h1.n5
  have d10 := h1.n10
  have f10 := h1.fz 10
  obtain ⟨⟨c0, c1, c2, c3⟩, f0⟩ := O1
  have BR := hid B1
  have g := h1.good
  have HT := hid hc
  have HA := hid hA
  have NT := hid N1
  have HC := hid C1
  subst hv hu
  clear hsz hk0 X0 h hc
  by_cases hq : c.ans.code ≠ 3 ∨ n.fails = 0
  · have hR : refuseF n c = (n, c.ans) := by unfold refuseF; rw [if_pos hq]
    rw [hR]
    have hcase : (c.ans.code != 3) = true ∨ ((c.ans.code != 3) = false ∧ n.fails = 0) := by
      by_cases h3 : c.ans.code = 3
      · rcases hq with hq | hq
        · exact absurd h3 hq
        · exact Or.inr ⟨by simp [h3], hq⟩
      · exact Or.inl (by simpa using h3)
    clear hq hR hA h1 N1 C1 B1 g X1 HT
    rcases hcase with e1 | ⟨e1, e2⟩
    · go_enter Try.func62, Try.ntmps62
      go_upto_region 1 with fail
      rw [HA.out]
      go_wp2
      refine bodyPost_ret (v := .agg #[.int .i64 c.ans.code, .int .i64 c.ans.id, .slice pu c.ans.opts.length cu, .string c.ans.data]) (by simp [results, Try.results62, go_sem, c0, c1, c2, c3]) rfl ⟨_, rfl, NT.out.setPk4 (by omega) BR.out _ _ _ _, HC.out.ans.setPk4 BR.out _ _ _ _, fun i hi => Or.inl hi⟩
    · rw [e2] at d5
      go_enter Try.func62, Try.ntmps62
      go_upto_region 1 with fail
      rw [HA.out]
      go_wp2
      refine bodyPost_ret (v := .agg #[.int .i64 c.ans.code, .int .i64 c.ans.id, .slice pu c.ans.opts.length cu, .string c.ans.data]) (by simp [results, Try.results62, go_sem, c0, c1, c2, c3]) rfl ⟨_, rfl, NT.out.setPk4 (by omega) BR.out _ _ _ _, HC.out.ans.setPk4 BR.out _ _ _ _, fun i hi => Or.inl hi⟩
  · have hq3 : c.ans.code = 3 := by
      by_cases h3 : c.ans.code = 3
      · exact h3
      · exact absurd (Or.inl h3) hq
    have hqf : n.fails ≠ 0 := fun h0 => hq (Or.inr h0)
    have e1 : (c.ans.code != 3) = false := by simp [hq3]
    have e2 : (n.fails == 0) = false := by simpa using hqf
    by_cases hn : n.naks < n.fails
    · have hR : refuseF n c = ({ n with naks := n.naks + 1 }, c.ans) := by unfold refuseF; rw [if_neg hq, if_pos hn]
      rw [hR]
      have hw : IntKind.i64.wrap (n.naks + 1) = n.naks + 1 := by rw [IntKind.wrap_i64]; have := g.naks; omega
      have N2 := h1.set (n' := { n with naks := n.naks + 1 }) 10 (.int .i64 (n.naks + 1)) rfl ⟨g.au, g.fails, g.wait, g.id, (by have := g.naks; have := g.fails; simp only; omega), g.ticks, g.ups, g.downs, g.req, g.mine, g.theirs⟩ rfl rfl rfl rfl rfl rfl
      have hkd := (Kept.refl (fun _ => False) (A.setCell ⟨b, 10, none⟩ (.int .i64 (n.naks + 1)))).drew
      have NT2 := hid ((NT.out.trans N2).then0 hkd)
      have BR2 := hid ((BR.out.kept N2.kept (hnS _ (by omega))).kept hkd id)
      have OR2 := hid (((show Own4 A (w.heap.size + 1) _ _ _ _ from ⟨⟨c0, c1, c2, c3⟩, f0⟩).keptS N2.kept (hnS _ (by omega))).kept hkd)
      have X2 := hid ((X1.out.kept N2.kept (hnS _ (Nat.le_refl _))).kept hkd id)
      have HC2 := hid ((HC.out.step h1 N2).kept0 hkd)
      clear hq hR hA h1 N1 C1 B1 g X1 HT N2 hkd hq3 hqf BR NT HC
      go_enter Try.func62, Try.ntmps62
      go_upto_region 1 with fail
      rw [HA.out]
      clear HA
      go_wp2_with fail
      go_region
      go_upto_region 5 with fail
      generalize (A.setCell ⟨b, 10, none⟩ (.int .i64 (n.naks + 1))).drew = w4 at *
      clear x0 x1 x2 x4 x5 x6 x7 c0 c1 c2 c3 f0
      have x4 := X2.out 4 _ rfl
      have x5 := X2.out 5 _ rfl
      have x6 := X2.out 6 _ rfl
      have x7 := X2.out 7 _ rfl
      obtain ⟨⟨c0, c1, c2, c3⟩, f0⟩ := OR2.out
      go_wp2
      refine bodyPost_ret (v := .agg #[.int .i64 c.ans.code, .int .i64 c.ans.id, .slice pu c.ans.opts.length cu, .string c.ans.data]) (by simp [results, Try.results62, go_sem, c0, c1, c2, c3]) rfl ⟨_, rfl, NT2.out.setPk4 (by omega) BR2.out _ _ _ _, HC2.out.ans.setPk4 BR2.out _ _ _ _, fun i hi => Or.inl hi⟩
    · have hR : refuseF n c = (n, ⟨4, c.came.id, misF c.rules c.came.opts, ⟨#[]⟩⟩) := by unfold refuseF; rw [if_neg hq, if_neg hn]
      rw [hR]
      have hkd := ((Kept.refl (fun _ => False) A).drew).drew
      have hb3 := (HC.out.kept0 hkd).book hq3
      have HM := hid (misfits_any (.map mr) c.rules (.slice pv c.came.opts.length cv) c.came.opts _ hb3 ((HC.out.kept0 hkd).came.1) HC.out.fine.1 HC.out.fine.2.1 HC.out.fine.2.2)
      obtain ⟨mb, L, hvp, _⟩ := hb3
      cases hvp
      have OR := hid (show Own4 A (w.heap.size + 1) _ _ _ _ from ⟨⟨c0, c1, c2, c3⟩, f0⟩)
      have HKd := hid hkd
      have hAs : w.heap.size ≤ A.heap.size := NT.out.kept.size
      clear hq hR hA h1 N1 C1 B1 g HT hkd hq3 hqf c0 c1 c2 c3 f0
      go_enter Try.func62, Try.ntmps62
      go_upto_region 1 with fail
      rw [HA.out]
      clear HA
      go_wp2_with fail
      go_region
      go_wp2_with fail
      go_region_with (first
        | (go_at_call 68; refine HM.out.mono ?_; rintro e w5 ⟨u5, rfl, ho, hk5⟩; obtain ⟨p5, c5, rfl⟩ := slice_of ho; have hk6 := HKd.out.trans hk5; obtain ⟨⟨c0, c1, c2, c3⟩, f0⟩ := OR.out.kept hk6; have x1' := (X1.out.kept hk6 id) 1 _ rfl; have NT5 := hid (NT.out.then0 hk6); have B5 := hid (BR.out.kept hk6 id); have HO := hid ho; clear ho hk5 hk6))
      all_goals
        go_wp2
        refine bodyPost_ret (v := .agg #[.int .i64 4, .int .i64 c.came.id, .slice p5 (misF c.rules c.came.opts).length c5, .string ⟨#[]⟩]) (by simp [results, Try.results62, go_sem, c0, c1, c2, c3]) rfl ⟨_, rfl, NT5.out.setPk4 (by omega) B5.out _ _ _ _, (HO.out.mono ?_).setPk4 B5.out _ _ _ _, fun i hi => Or.inr ?_⟩
        · have := NT5.out.neg.lo
          have := hnS
          have h9 : base ≤ w.heap.size := by
            have := NT.out.neg.lo
            by_cases hb : b < w.heap.size
            · omega
            · exact absurd (Or.inl rfl) (hnS b (by omega))
          have h8 : A.drew.drew.heap.size = A.heap.size := rfl
          omega
        · have h1 := HO.out.baseB hi
          have h8 : A.drew.drew.heap.size = A.heap.size := rfl
          omega
end Go.Proofs.Ytcmdfcdmfdheeaa
