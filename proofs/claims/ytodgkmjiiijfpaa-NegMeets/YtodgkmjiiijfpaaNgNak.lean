/- The contracts of slices.IndexFunc with the closure of change, of change where the peer's value fits or the request has no such option, and of takeAnswer of a nak, whatever change does. -/
import Derived.Test.YtodgkmjiiijfpaaNgAlive
namespace Go.Proofs.Ytodgkmjiiijfpaa
open Go.RowKit

set_option maxHeartbeats 1000000 in
set_option maxRecDepth 100000 in
theorem change_fn (ob : Nat) (o r : Tg) (w : World) (hb : BoxO w ob o) : Calls Try.prog 70 #[.agg #[.int .i64 r.type, .string r.value], .pointer (some ⟨ob, 0, none⟩)] w fun e w' => e = .returned (.bool (r.type == o.type)) ∧ Kept (fun _ => False) w w' := by
  have k0 := (Kept.refl (fun _ => False) w).alloc (.cells #[.int .i64 r.type, .string r.value] 62)
  have b0 := (BoxO.new w r).c0
  have hb1 : BoxO (w.alloc (.cells #[.int .i64 r.type, .string r.value] 62)) ob o := (k0.block _ hb.lt id).trans hb
  have c0 := hb1.c0
  have HK := hid k0
  clear k0 hb hb1
  cases hq : (r.type == o.type) with
  | true =>
    go_enter Try.func70, Try.ntmps70
    go_wp2
    go_ret
    exact ⟨by rw [← hq]; rfl, HK.out⟩
  | false =>
    go_enter Try.func70, Try.ntmps70
    go_wp2
    go_ret
    exact ⟨by rw [← hq]; rfl, HK.out⟩

/-- The place of the first option of a type; -1, if there is none. -/
def FoundO (l : List Tg) (t : Int) (r : Int) : Prop := (r = -1 ∧ ∀ x ∈ l, (x.type == t) = false) ∨ ∃ (j : Nat) (x : Tg), r = (j : Int) ∧ l[j]? = some x ∧ (x.type == t) = true ∧ ∀ y ∈ l.take j, (y.type == t) = false

set_option maxHeartbeats 2000000 in
set_option maxRecDepth 100000 in
theorem indexO_any (v : Value) (l : List Tg) (ob : Nat) (o : Tg) (w : World) (hv : TagsAt w v l) (hl : l.length ≤ 1000000) (hb : BoxO w ob o) :
    Calls Try.prog 69 #[v, .func (.func 70) #[] #[.pointer (some ⟨ob, 0, none⟩)]] w fun e w' => ∃ r, e = .returned (.int .i64 r) ∧ FoundO l o.type r ∧ Kept (fun _ => False) w w' := by
  obtain ⟨p, cap, rfl⟩ := hv.slice
  have HT := hid (fun (W : World) (k : Kept (fun _ => False) w W) => hv.kept0 k)
  have HF := hid (fun (r : Tg) (W : World) (k : Kept (fun _ => False) w W) => change_fn ob o r W ((k.block _ hb.lt id).trans hb))
  clear hv hb
  go_enter Try.func69, Try.ntmps69
  go_wp2
  go_loopw [5, 8] (fun _ s wr => ∃ j : Nat, j ≤ l.length ∧ s = .int .i64 (j : Int) ∧ Hid (∀ y ∈ l.take j, (y.type == o.type) = false) ∧ Hid (Kept (fun _ => False) w wr)) (fun _ s _ => l.length - (intOf s).toNat)
  case atStart => exact ⟨0, Nat.zero_le _, rfl, (fun y hy => by simp at hy), Kept.refl _ _⟩
  case round =>
    obtain ⟨j, hj, rfl, HA, HK⟩ := hrel
    by_cases hlt : j < l.length
    · obtain ⟨x, hx⟩ : ∃ x, l[j]? = some x := ⟨l[j], by simp [hlt]⟩
      have hltz : (j : Int) < (l.length : Int) := by omega
      obtain ⟨g, of, rfl, hcap, c0, c1⟩ := (HT.out wr HK.out).at hx
      have Hx := hid hx
      have Hc := hid (HF.out x wr HK.out)
      have hst := hid (take_next hx)
      clear hx
      generalize hqq : (x.type == o.type) = q at Hc
      have Hq := hid hqq
      clear hqq
      go_wp2_with fail
      refine Hc.out.mono ?_
      rintro e w2 ⟨rfl, hk2⟩
      have HK2 := hid (HK.out.trans hk2)
      clear hk2 c0 c1 Hc
      cases q with
      | true =>
        go_wp2
        go_ret
        exact ⟨_, rfl, Or.inr ⟨j, x, rfl, Hx.out, Hq.out, HA.out⟩, HK2.out⟩
      | false =>
        go_wp2
        refine ⟨⟨j + 1, hlt, by go_num, fun y hy => ?_, HK2.out⟩, by simp [intOf]; omega⟩
        rw [hst.out, List.mem_append] at hy
        rcases hy with hy | hy
        · exact HA.out y hy
        · rw [List.mem_singleton] at hy
          rw [hy]
          exact Hq.out
    · obtain rfl : j = l.length := by omega
      have hltz : ¬ (l.length : Int) < (l.length : Int) := by omega
      go_wp2
      go_ret
      refine ⟨_, rfl, Or.inl ⟨rfl, fun y hy => HA.out y (by rw [List.take_of_length_le (Nat.le_refl _)]; exact hy)⟩, HK.out⟩

theorem rowT_set {l : List Tg} {j : Nat} {x : Tg} (hj : l[j]? = some x) (s : ByteArray) : rowT (l.set j ⟨x.type, s⟩) = (rowT l).set (j * 2 + 1) (.string s) := by
  induction l generalizing j with
  | nil => simp at hj
  | cons y l ih =>
    cases j with
    | zero =>
      have : y = x := by simpa using hj
      subst this
      simp [rowT, tgCells]
    | succ j =>
      have e := ih (j := j) (by simpa using hj)
      have e1 : rowT (y :: l) = .int .i64 y.type :: .string y.value :: rowT l := by simp [rowT, tgCells]
      have e2 : rowT (y :: l.set j ⟨x.type, s⟩) = .int .i64 y.type :: .string y.value :: rowT (l.set j ⟨x.type, s⟩) := by simp [rowT, tgCells]
      rw [List.set_cons_succ, e2, e, e1, show (j + 1) * 2 + 1 = (j * 2 + 1) + 1 + 1 by omega, List.set_cons_succ, List.set_cons_succ]

theorem OwnO.setVal {W : World} {base g n cap j : Nat} {l : List Tg} {x : Tg} (h : OwnO W base (.slice (some ⟨g, 0, none⟩) n cap) l) (hj : l[j]? = some x) (s : ByteArray) : OwnO (W.setCell ⟨g, j * 2 + 1, none⟩ (.string s)) base (.slice (some ⟨g, 0, none⟩) n cap) (l.set j ⟨x.type, s⟩) := by
  rcases h.2 with ⟨h', _⟩ | ⟨g', cap', cur, e, hb, hg, h1, h2, h3, h4⟩
  · simp at h'
  · simp only [Value.slice.injEq, Option.some.injEq, Addr.mk.injEq, and_true] at e
    obtain ⟨rfl, rfl, rfl⟩ := e
    refine ⟨by rw [rowT_length], Or.inr ⟨g, cap, cur.setIfInBounds (j * 2 + 1) (.string s), by rw [List.length_set], hb, Joins.block_setCell hg _, by rw [List.length_set]; exact h1, h2, by simpa using h3, ?_⟩⟩
    rw [List.length_set, rowT_set hj, ← h4, Array.toList_setIfInBounds, List.take_set]

section
variable {W W' : World} {base b : Nat} {a : Nm} {n : Ng}
/-- The request's own row has turned. -/
theorem NegIn.setRow (h : NegIn W base b a n) {l : List Tg} (hk : Kept (fun i => a.vr.ownBlock = some i) W W') (ho : OwnO W' base a.vr l) (hf : FineO l) : NNext W W' base b a a { n with req := l } := by
  have hc : ∀ j, a.vr.ownBlock = some j → j < W.heap.size → ∃ cur e fz, W.heap[j]? = some (.cells cur e fz) := fun j e _ => by
    obtain ⟨cur, hc⟩ := h.req.cellsB e
    exact ⟨_, _, _, hc⟩
  refine ⟨⟨(hk.block b h.lt (fun e => h.ne_b h.req e rfl)).trans h.cells, h.auto.kept hk (fun e => h.ne_a h.req e rfl), ho, h.own.kept hk hc, h.peer.kept hk hc, h.mine.keptS hk (fun i hi e => h.far1 i e hi), h.theirs.keptS hk (fun i hi e => h.far2 i e hi), h.far1, h.far2, h.lo, h.lo2, ?_⟩, rfl, fun _ h => Or.inl h, fun _ h => Or.inl h, fun _ h => Or.inl h, hk.mono (fun j _ e => Or.inr (Or.inr e))⟩
  have g := h.good
  exact ⟨g.au, g.fails, g.wait, g.id, g.naks, g.ticks, g.ups, g.downs, hf, g.mine, g.theirs⟩
end

set_option maxHeartbeats 4000000 in
set_option maxRecDepth 100000 in
theorem change_none {base b : Nat} {a : Nm} {n : Ng} (o : Tg) (w : World) (h : NegIn w base b a n) (hn : ∀ x ∈ n.req, (x.type == o.type) = false) :
    Calls Try.prog 53 #[.pointer (some ⟨b, 0, none⟩), .agg #[.int .i64 o.type, .string o.value]] w fun e w' => e = .returned (.tuple #[]) ∧ NNext w w' base b a a n := by
  have k0 := (Kept.refl (fun _ => False) w).alloc (.cells #[.int .i64 o.type, .string o.value] 62)
  have hA := h.kept0 k0
  have HIx := hid (indexO_any a.vr n.req w.heap.size o _ hA.req.tags (by have := hA.good.req.1; omega) (BoxO.new w o))
  obtain ⟨pr, cr, hvr⟩ := slice_of h.req
  have d1 := hA.n1
  rw [hvr] at HIx d1
  have HN := hid hA
  have HK := hid k0
  have HNo := hid hn
  clear h k0 hA hn
  go_enter Try.func53, Try.ntmps53
  go_wp2_with fail
  refine HIx.out.mono ?_
  rintro e w1 ⟨r, rfl, hF, hk1⟩
  rcases hF with ⟨rfl, _⟩ | ⟨j, x, rfl, hj, hx, _⟩
  · have NF := hid (NNext.before0 HK.out (NNext.of0 HN.out hk1))
    clear hk1
    go_wp2
    exact bodyPost_ret (v := .tuple #[]) (by simp [results, Try.results53]) rfl ⟨rfl, NF.out⟩
  · have := HNo.out x (List.mem_of_getElem? hj)
    rw [this] at hx
    cases hx

set_option maxHeartbeats 4000000 in
set_option maxRecDepth 100000 in
theorem change_fits {base b : Nat} {a : Nm} {n : Ng} (o : Tg) (w : World) (h : NegIn w base b a n) (ho64 : In64 o.type) (hos : o.value.size ≤ 140737488351232) (r : Tg) (hr : n.req = [r]) (ht : r.type = o.type) (hl : letsB n.own o = true) :
    Calls Try.prog 53 #[.pointer (some ⟨b, 0, none⟩), .agg #[.int .i64 o.type, .string o.value]] w fun e w' => e = .returned (.tuple #[]) ∧ NNext w w' base b a a { n with req := [⟨r.type, o.value⟩] } := by
  have k0 := (Kept.refl (fun _ => False) w).alloc (.cells #[.int .i64 o.type, .string o.value] 62)
  have hA := h.kept0 k0
  have HIx := hid (indexO_any a.vr n.req w.heap.size o _ hA.req.tags (by have := hA.good.req.1; omega) (BoxO.new w o))
  have hB := BoxO.new w o
  generalize hAe : w.alloc (.cells #[.int .i64 o.type, .string o.value] 62) = A at *
  have HAe := hid hAe
  obtain ⟨pr, cr, hvr⟩ := slice_of hA.req
  have hTg : TagsAt A (.slice pr n.req.length cr) n.req := by
    have := hA.req.tags
    rw [hvr] at this
    exact this
  obtain ⟨g, og, hpr, hcap, _, _⟩ := hTg.at (j := 0) (x := r) (by rw [hr]; rfl)
  clear hTg
  have hg0 : og = 0 := by
    rcases hA.req.2 with ⟨e, _⟩ | ⟨g', cap', cur, e, _⟩
    · rw [hvr] at e; simp at e; rw [e.1] at hpr; cases hpr
    · rw [hvr] at e
      simp only [Value.slice.injEq] at e
      rw [e.1] at hpr
      simp at hpr
      exact hpr.2.symm
  subst hg0
  subst hpr
  rw [hr, List.length_singleton] at hvr hcap
  have d1 := hA.n1
  have d2 := hA.n2
  rw [hvr] at HIx d1
  obtain ⟨mb, L, hvo, _⟩ := id hA.own
  rw [hvo] at d2
  have HN := hid hA
  have HK := hid k0
  have HBo := hid hB
  have HR := hid hr
  have HT := hid ht
  have HL := hid hl
  have HV := hid hvr
  have HVo := hid hvo
  clear h k0 hA hB hr ht hl hAe hvr hvo
  go_enter Try.func53, Try.ntmps53
  go_upto_region 1 with fail
  rw [HAe.out]
  clear HAe
  go_wp2_with fail
  refine HIx.out.mono ?_
  rintro e w1 ⟨i, rfl, hF, hk1⟩
  have hi0 : i = 0 := by
    rcases hF with ⟨rfl, h9⟩ | ⟨j, x, rfl, hj, _, _⟩
    · have := h9 r (by rw [HR.out]; simp)
      rw [HT.out] at this
      simp at this
    · have := (List.getElem?_eq_some_iff.1 hj).1
      rw [HR.out, List.length_singleton] at this
      omega
  subst hi0
  have N1 := HN.out.kept0 hk1
  have hB1 : BoxO w1 w.heap.size o := (hk1.block _ HBo.out.lt id).trans HBo.out
  have kd := (Kept.refl (fun _ => False) w1).drew
  have HFi := hid (bookFits_any a.vo n.own o w1.drew (N1.kept0 kd).own ho64 hos)
  rw [HL.out, HVo.out] at HFi
  unfold tgV at HFi
  have b0 := hB1.c0
  have b1 := hB1.c1
  have e1 := N1.n1
  have e2 := N1.n2
  rw [HV.out] at e1
  rw [HVo.out] at e2
  have HN1 := hid N1
  have HB1 := hid hB1
  have HK1 := hid (HK.out.trans hk1)
  clear hF hk1 N1 hB1 d1 d2 HIx
  go_wp2_with fail
  go_region_with (first | (go_at_call 71; refine HFi.out.mono ?_; rintro e w2 ⟨rfl, hk2⟩; have K2 := hid (kd.trans hk2); clear hk2))
  all_goals
    have N2 := hid (HN1.out.kept0 K2.out)
    have hB2 : BoxO w2 w.heap.size o := (K2.out.block _ HB1.out.lt id).trans HB1.out
    clear e1 e2 b0 b1
    have b0 := hB2.c0
    have b1 := hB2.c1
    have e1 := N2.out.n1
    rw [HV.out] at e1
    have O2 := N2.out.req
    rw [HV.out] at O2
    have hrow : w2.cell? ⟨g, 1, none⟩ = some (.string r.value) := by
      have h5 : TagsAt w2 (.slice (some ⟨g, 0, none⟩) 1 cr) n.req := O2.tags
      obtain ⟨g', o', e5, _, _, q1⟩ := h5.at (j := 0) (x := r) (by rw [HR.out]; rfl)
      simp only [Option.some.injEq, Addr.mk.injEq, and_true] at e5
      obtain ⟨rfl, rfl⟩ := e5
      exact q1
    have hfrz : w2.frozen? ⟨g, 1, none⟩ = false := by
      obtain ⟨cur, hcur⟩ := O2.cellsB (i := g) rfl
      exact frozen_of_row _ g 1 _ _ hcur
    have O3 := OwnO.setVal (j := 0) (x := r) O2 (by rw [HR.out]; rfl) o.value
    have NF : Hid (NNext w ((w2.setCell ⟨g, 1, none⟩ (.string o.value)).drew) base b a a { n with req := [⟨r.type, o.value⟩] }) := by
      have h6 : NNext w2 (w2.setCell ⟨g, 1, none⟩ (.string o.value)) base b a a { n with req := [⟨r.type, o.value⟩] } := by
        refine N2.out.setRow ((kept_cell w2 g 1 (.string o.value)).mono (fun i _ e => by rw [HV.out, e]; rfl)) ?_ (fine1 ?_ hos)
        · rw [HV.out]
          rw [HR.out] at O3
          exact O3
        · exact (N2.out.good.req.2.1 r (by rw [HR.out]; simp))
      exact ((NNext.before0 HK1.out (NNext.of0 HN1.out K2.out)).trans h6).then0 (Kept.refl _ _).drew
    clear O2 O3
    go_wp2_with fail
    go_region
    all_goals
      go_wp2
      go_end0
      exact ⟨rfl, NF.out⟩

set_option maxHeartbeats 4000000 in
set_option maxRecDepth 100000 in
theorem takeAnswer_3 {base b : Nat} {a : Nm} {n : Ng} (p : Pk0) (v : Value) (w : World) (h : NegIn w base b a n) (hp : PkIn w b a p v) (hc : p.code = 3) (ch : Ng → Tg → Ng) (Inv : Ng → Prop) (h0 : Inv n) (hI : ∀ m o, o ∈ p.opts → Inv m → Inv (ch m o))
    (hch : ∀ (W : World) (a1 : Nm) (m : Ng) (o : Tg), o ∈ p.opts → Inv m → NegIn W base b a1 m → Calls Try.prog 53 #[.pointer (some ⟨b, 0, none⟩), .agg #[.int .i64 o.type, .string o.value]] W fun e w' => e = .returned (.tuple #[]) ∧ ∃ a2, NNext W w' base b a1 a2 (ch m o)) :
    Calls Try.prog 31 #[.pointer (some ⟨b, 0, none⟩), pkV p.code p.id v p.data] w fun e w' => ∃ vo, e = .returned vo ∧ Sent w w' base b a (happenF ⟨p, pk00⟩ (p.opts.foldl ch n) 9) vo := by
  unfold pkV
  obtain ⟨pv, cv, hv⟩ := hp.at_.1.slice
  have T := TakeA.of h hp
  have B0 := PkBlk.new w #[.int .i64 p.code, .int .i64 p.id, v, .string p.data]
  generalize hAe : w.alloc (.cells #[.int .i64 p.code, .int .i64 p.id, v, .string p.data] 24) = A at *
  have HAe := hid hAe
  obtain ⟨⟨q0, q1, q2, q3⟩, _⟩ := T.own
  have HO := hid T.own
  have HCo := hid hc
  rw [hc] at q0
  rw [hc] at hAe HAe ⊢
  have HT := hid T
  have HB := hid B0
  have HCh := hid hch
  have HIn := hid hI
  have H0 := hid h0
  have hll := hp.fine.1
  subst hv
  clear hAe h hp T hc hch hI h0 B0
  go_enter Try.func31, Try.ntmps31
  go_upto_region 1 with fail
  rw [HAe.out]
  clear HAe
  go_wp2
  go_loopw [19] (fun vi wr => ∃ j : Nat, j ≤ p.opts.length ∧ vi = .int .i64 (j : Int) ∧ Hid (∃ a', Inv ((p.opts.take j).foldl ch n) ∧ NNext A wr base b a a' ((p.opts.take j).foldl ch n))) (fun vi _ => p.opts.length - (intOf vi).toNat)
  case atStart => exact ⟨0, Nat.zero_le _, rfl, a, H0.out, NNext.refl HT.out.neg⟩
  case round =>
    obtain ⟨j, hj, rfl, HI⟩ := hrel
    obtain ⟨a', hInv, N1⟩ := HI.out
    have P1 := HT.out.pk.step N1
    by_cases hlt : j < p.opts.length
    · have hltz : (j : Int) < (p.opts.length : Int) := by omega
      obtain ⟨x, hx⟩ : ∃ x, p.opts[j]? = some x := ⟨p.opts[j], by simp [hlt]⟩
      obtain ⟨g, o, rfl, hcap, c0, c1⟩ := P1.at_.1.at hx
      have ka := (Kept.refl (fun _ => False) wr).alloc (.cells #[.int .i64 x.type, .string x.value] 62)
      have b0 := (BoxO.new wr x).c0
      have b1 := (BoxO.new wr x).c1
      have eT : (p.opts.take (j + 1)).foldl ch n = ch ((p.opts.take j).foldl ch n) x := by
        rw [take_next hx, List.foldl_append]
        rfl
      have HC := hid (HCh.out _ a' _ x (List.mem_of_getElem? hx) hInv (N1.neg.kept0 ka))
      have HI2 := hid (HIn.out _ x (List.mem_of_getElem? hx) hInv)
      have HNa := hid (N1.then0 ka)
      have ET := hid eT
      clear hx eT hInv N1 P1 HI ka
      go_wp2_with fail
      refine HC.out.mono ?_
      rintro e w2 ⟨rfl, a2, N2⟩
      have R : Hid (∃ a', Inv ((p.opts.take (j + 1)).foldl ch n) ∧ NNext A w2 base b a a' ((p.opts.take (j + 1)).foldl ch n)) := by
        refine ⟨a2, ?_, ?_⟩
        · rw [ET.out]; exact HI2.out
        · rw [ET.out]; exact HNa.out.trans N2
      clear N2 HC
      go_wp2
      exact ⟨⟨j + 1, hlt, by go_num, R.out⟩, by simp [intOf]; omega⟩
    · obtain rfl : j = p.opts.length := by omega
      have hltz : ¬ (p.opts.length : Int) < (p.opts.length : Int) := by omega
      rw [List.take_length] at N1
      have hnS : ¬ Sn b a w.heap.size := pk_far HT.out.neg HB.out
      have O1 := HO.out.keptS N1.kept hnS
      rw [HCo.out] at O1
      clear q0 q1 q2 q3
      obtain ⟨⟨q0, q1, q2, q3⟩, _⟩ := O1
      have HH := hid (happen_any ⟨p, pk00⟩ (.slice pv p.opts.length cv) (.slice none 0 0) 9 ⟨by decide, by decide⟩ wr N1.neg P1.cz)
      unfold czV pk00 at HH
      simp only at HH
      rw [HCo.out] at HH
      have NT := hid (NNext.before0 HT.out.k N1)
      clear hInv N1 P1 HI hlt
      go_wp2_with fail
      refine HH.out.mono ?_
      rintro e w4 ⟨vo, rfl, vt, l, w5, N5, U⟩
      have HS := hid (Sent.of (NT.out.trans N5) U (fun i hi => by cases hi))
      obtain ⟨po, co, rfl⟩ := slice_of U.out.row
      clear U N5
      go_wp2
      go_ret
      exact ⟨_, rfl, HS.out⟩
end Go.Proofs.Ytodgkmjiiijfpaa
