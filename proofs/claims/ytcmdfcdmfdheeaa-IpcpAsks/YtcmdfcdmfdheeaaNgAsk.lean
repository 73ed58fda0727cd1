/- The contracts of ask, agree and end: the packets that are sent. -/
import Derived.Test.YtcmdfcdmfdheeaaNgSmall
import Derived.Deep.RegionWith
import Derived.Deep.DeepCutAuto
namespace Go.Proofs.Ytcmdfcdmfdheeaa
open Go.RowKit

/-- A packet's block. -/
def PkBlk (W : World) (r : Nat) : Prop := ∃ cur, W.heap[r]? = some (.cells cur 40 (0, 0))
theorem PkBlk.set {W : World} {r : Nat} (h : PkBlk W r) (j : Nat) (u : Value) : PkBlk (W.setCell ⟨r, j, none⟩ u) r := by
  obtain ⟨cur, hc⟩ := h
  exact ⟨_, Joins.block_setCell hc u⟩
theorem PkBlk.kept {S : Nat → Prop} {W W' : World} {r : Nat} (h : PkBlk W r) (hk : Kept S W W') (hS : ¬ S r) : PkBlk W' r := by
  obtain ⟨cur, hc⟩ := h
  exact ⟨cur, (hk.block r (Array.getElem?_eq_some_iff.1 hc).1 hS).trans hc⟩
theorem PkBlk.new (w : World) (cur : Array Value) : PkBlk (w.alloc (.cells cur 40)) w.heap.size := ⟨cur, heap_alloc_new w _⟩
theorem PkBlk.lt {W : World} {r : Nat} (h : PkBlk W r) : r < W.heap.size := by
  obtain ⟨cur, hc⟩ := h
  exact (Array.getElem?_eq_some_iff.1 hc).1

section
variable {W W' : World} {base b r : Nat} {a a' : Nm} {n n' : Ng}
/-- A packet's block is none of its own. -/
theorem NegIn.not_pk (h : NegIn W base b a n) (hp : PkBlk W r) : r ≠ b ∧ r ≠ a.am ∧ ∀ (v : Value) (l : List Tg), OwnO W base v l → v.ownBlock ≠ some r := by
  obtain ⟨cur, hc⟩ := hp
  refine ⟨fun e => ?_, fun e => ?_, fun v l ho e => ?_⟩
  · subst e; rw [h.cells] at hc; simp at hc
  · have h1 := h.auto
    unfold AutoIn at h1
    subst e; rw [h1] at hc; simp at hc
  · obtain ⟨c, h1⟩ := ho.cellsB e
    rw [h1] at hc; simp at hc
theorem NegIn.setPk (h : NegIn W base b a n) (hp : PkBlk W r) (j : Nat) (u : Value) : NegIn (W.setCell ⟨r, j, none⟩ u) base b a n := by
  obtain ⟨h1, h2, h3⟩ := h.not_pk hp
  refine h.keptS (kept_cell W r j u) (fun i e _ => ?_) (fun e => h1 e.symm) (fun e => h2 e.symm) (fun i hi e => ?_) (fun i hi e => ?_) (fun i hi e => ?_)
  · obtain ⟨cur, hc⟩ := hp
    exact ⟨_, _, _, by rw [e]; exact hc⟩
  · exact h3 _ _ h.req (by rw [← e]; exact hi)
  · exact h3 _ _ h.mine (by rw [← e]; exact hi)
  · exact h3 _ _ h.theirs (by rw [← e]; exact hi)
theorem NNext.setPk (h : NNext W W' base b a a' n') (hr : W.heap.size ≤ r) (hp : PkBlk W' r) (j : Nat) (u : Value) : NNext W (W'.setCell ⟨r, j, none⟩ u) base b a a' n' :=
  ⟨h.neg.setPk hp j u, h.am, h.vu, h.fr, h.fm, h.ft, h.kept.setCell (p := ⟨r, j, none⟩) (Or.inl hr) u⟩
/-- A packet laid into its block. -/
theorem NNext.setPk4 (h : NNext W W' base b a a' n') (hr : W.heap.size ≤ r) (hp : PkBlk W' r) (x y z u : Value) :
    NNext W ((((W'.setCell ⟨r, 0, none⟩ x).setCell ⟨r, 1, none⟩ y).setCell ⟨r, 2, none⟩ z).setCell ⟨r, 3, none⟩ u) base b a a' n' :=
  (((h.setPk hr hp 0 x).setPk hr (hp.set 0 x) 1 y).setPk hr ((hp.set 0 x).set 1 y) 2 z).setPk hr (((hp.set 0 x).set 1 y).set 2 z) 3 u
theorem OwnO.setPk {W : World} {base r : Nat} {v : Value} {l : List Tg} (h : OwnO W base v l) (hp : PkBlk W r) (j : Nat) (u : Value) : OwnO (W.setCell ⟨r, j, none⟩ u) base v l :=
  h.keptS (kept_cell W r j u) (fun i hi e => by
    subst e
    obtain ⟨cur, hc⟩ := hp
    obtain ⟨c, h1⟩ := h.cellsB hi
    rw [h1] at hc; simp at hc)
theorem OwnO.setPk4 {W : World} {base r : Nat} {v : Value} {l : List Tg} (h : OwnO W base v l) (hp : PkBlk W r) (x y z u : Value) :
    OwnO ((((W.setCell ⟨r, 0, none⟩ x).setCell ⟨r, 1, none⟩ y).setCell ⟨r, 2, none⟩ z).setCell ⟨r, 3, none⟩ u) base v l :=
  (((h.setPk hp 0 x).setPk (hp.set 0 x) 1 y).setPk ((hp.set 0 x).set 1 y) 2 z).setPk (((hp.set 0 x).set 1 y).set 2 z) 3 u
end

theorem Own4.keptS {S : Nat → Prop} {w w1 : World} {b : Nat} {x y z u : Value} (h : Own4 w b x y z u) (hk : Kept S w w1) (hS : ¬ S b) : Own4 w1 b x y z u := by
  have hlt : b < w.heap.size := lt_of_cell h.1.1
  exact ⟨h.1.kept hk hS, fun j => (hk.frozen (p := ⟨b, j, none⟩) hlt hS).trans (h.2 j)⟩

def askN (n : Ng) : Ng := { n with ticks := 0, id := nextId n.id, last := nextId n.id, begun := true }
def endN (n : Ng) : Ng := { n with ticks := 0, id := nextId n.id }

set_option maxHeartbeats 2000000 in
set_option maxRecDepth 100000 in
theorem ask_any {base b : Nat} {a : Nm} {n : Ng} (w : World) (h : NegIn w base b a n) : Calls Try.prog 60 #[.pointer (some ⟨b, 0, none⟩)] w fun e w' => ∃ u, e = .returned (pkV 1 (nextId n.id) u ⟨#[]⟩) ∧ NNext w w' base b a a (askN n) ∧ OwnO w' w.heap.size u n.req := by
  unfold pkV
  have g := h.good
  have hk0 := (Kept.refl (fun _ => False) w).alloc (.cells #[.int .i64 0, .int .i64 0, .slice none 0 0, .string ⟨#[]⟩] 40)
  have h1 := h.kept0 hk0
  have f11 := h1.fz 11
  have d11 := h1.n11
  have N1 := h1.set (n' := { n with ticks := 0 }) 11 (.int .i64 0) rfl ⟨g.au, g.fails, g.wait, g.id, g.naks, ⟨by simp, by simp⟩, g.ups, g.downs, g.req, g.mine, g.theirs⟩ rfl rfl rfl rfl rfl rfl
  have HI := hid (nextId_any _ N1.neg)
  have N1' := hid (NNext.before0 hk0 N1)
  have O0 := own4_new w 40 (.int .i64 0) (.int .i64 0) (.slice none 0 0) (.string ⟨#[]⟩)
  have B0 := PkBlk.new w #[.int .i64 0, .int .i64 0, .slice none 0 0, .string ⟨#[]⟩]
  have hSn : ∀ i, Sn b a i → i < w.heap.size := h.sn_lt
  have hnS : ¬ Sn b a w.heap.size := fun s => by have := hSn _ s; omega
  have O1 := hid (O0.keptS N1.kept hnS)
  have B1 := hid (B0.kept N1.kept hnS)
  have G := hid g
  obtain ⟨p, cap, hv⟩ := slice_of h.req
  have hl := g.req.1
  clear h h1 N1 O0 B0 hk0 g
  simp only at HI
  go_enter Try.func60, Try.ntmps60
  go_wp2_with fail
  refine HI.out.mono ?_
  rintro e w2 ⟨rfl, N2⟩
  have g := G.out
  have f8 := N2.neg.fz 8
  have d8 := N2.neg.n8
  have d9 := N2.neg.n9
  have N3 := N2.neg.set (n' := { n with ticks := 0, id := nextId n.id, last := nextId n.id }) 8 (.int .i64 (nextId n.id)) rfl ⟨g.au, g.fails, g.wait, nextId_range _, g.naks, ⟨by simp, by simp⟩, g.ups, g.downs, g.req, g.mine, g.theirs⟩ rfl rfl rfl rfl rfl rfl
  have f9 := N3.neg.fz 9
  have N4 := N3.neg.set (n' := askN n) 9 (.bool true) rfl ⟨g.au, g.fails, g.wait, nextId_range _, g.naks, ⟨by simp [askN], by simp [askN]⟩, g.ups, g.downs, g.req, g.mine, g.theirs⟩ rfl rfl rfl rfl rfl rfl
  have NT := hid (((N1'.out.trans N2).trans N3).trans N4)
  have O4 := hid (((O1.out.keptS N2.kept hnS).keptS N3.kept hnS).keptS N4.kept hnS)
  have B4 := hid (((B1.out.kept N2.kept hnS).kept N3.kept hnS).kept N4.kept hnS)
  clear N2 N3 N4 N1' O1 B1 HI g G
  go_upto_region 3 with fail
  generalize hW : (w2.setCell ⟨b, 8, none⟩ (.int .i64 (nextId n.id))).setCell ⟨b, 9, none⟩ (.bool true) = w4 at *
  clear hW f8 f9 d8 d9 f11 d11
  have c8 := NT.out.neg.n8
  have c1 := NT.out.neg.n1
  have HC := hid (fun (W : World) (hW : Kept (fun _ => False) w4 W) => cloneO_any a.vr n.req W (NT.out.neg.req.at.kept0 hW) (by omega))
  rw [hv] at c1 HC
  simp only [askN] at c8
  have D1 := (Kept.refl (fun _ => False) w4).drew
  go_wp2_with fail
  go_region_with (first
    | (go_at_call 35; refine (HC.out _ (by assumption)).mono ?_; rintro e w5 ⟨u, rfl, ho, hk5⟩; obtain ⟨pu, cu, rfl⟩ := slice_of ho; obtain ⟨⟨c0, c1, c2, c3⟩, f0⟩ := O4.out.kept (D1.trans hk5); have c8' := (NT.out.neg.kept0 (D1.trans hk5)).n8; simp only [askN] at c8'; have HO := hid ho; have HK := hid (D1.trans hk5); clear ho hk5))
  all_goals
    have B5 := hid (B4.out.kept HK.out id)
    go_wp2
    refine bodyPost_ret (v := .agg #[.int .i64 1, .int .i64 (nextId n.id), .slice pu n.req.length cu, .string ⟨#[]⟩]) (by simp [results, Try.results60, go_sem, c0, c1, c2, c3]) rfl ⟨_, rfl, (NT.out.then0 HK.out).setPk4 (Nat.le_refl _) B5.out _ _ _ _, ?_⟩
    exact (HO.out.mono (by have := NT.out.kept.size; simpa using this)).setPk4 B5.out _ _ _ _
end Go.Proofs.Ytcmdfcdmfdheeaa
