/- The contracts of happen, Do and Tick: what is sent, and what the negotiation comes to. -/
import Derived.Test.YtcmdfcdmfdheeaaNgAct
namespace Go.Proofs.Ytcmdfcdmfdheeaa
open Go.RowKit

/-- What a call sends, all of it its own; what it leaves. -/
structure SentBy (w w' : World) (base b : Nat) (a a' : Nm) (n' : Ng) (v : Value) (l : List (Pk0 × Value)) : Prop where
  nx : NNext w w' base b a a' n'
  row : w'.ownsRow w.heap.size 40 4 v l.length (rowP l)
  opts : ∀ q ∈ l, OwnO w' w.heap.size q.2 q.1.opts
  far : ∀ q ∈ l, ∀ i, q.2.ownBlock = some i → ¬ Sn b a' i
def Sent (w w' : World) (base b : Nat) (a : Nm) (s : Ng × List Pk0) (v : Value) : Prop := ∃ a' l, SentBy w w' base b a a' s.1 v l ∧ l.map (·.1) = s.2

theorem OwnO.rebase {W : World} {base B : Nat} {v : Value} {l : List Tg} (h : OwnO W base v l) (hb : ∀ i, v.ownBlock = some i → B ≤ i) : OwnO W B v l := by
  rcases h.2 with ⟨rfl, h0⟩ | ⟨g, cap, cur, rfl, _, r⟩
  · exact ⟨h.1, Or.inl ⟨rfl, h0⟩⟩
  · exact ⟨h.1, Or.inr ⟨g, cap, cur, rfl, hb g rfl, r⟩⟩
theorem row_rebase {W : World} {base B n k : Nat} {t : TypeId} {v : Value} {xs : List Value} (h : W.ownsRow base t k v n xs) (hb : B ≤ base) : W.ownsRow B t k v n xs := by
  rcases h.2 with ⟨rfl, h0⟩ | ⟨g, cap, cur, rfl, h1, r⟩
  · exact ⟨h.1, Or.inl ⟨rfl, h0⟩⟩
  · exact ⟨h.1, Or.inr ⟨g, cap, cur, rfl, Nat.le_trans hb h1, r⟩⟩

theorem Sent.of {w w1 w' : World} {base b : Nat} {a a1 : Nm} {n1 : Ng} {u vt vo : Value} {s : Ng × List Pk0} {l : List (Pk0 × Value)} (k : NNext w w1 base b a a1 n1) (U : ActU w1 w' base b a1 u s vt vo l) (hu : ∀ i, u.ownBlock = some i → w.heap.size ≤ i) : Sent w w' base b a s vo := by
  have hs := k.kept.size
  refine ⟨{ a1 with vt := vt }, l, ⟨k.trans U.nx, row_rebase U.out.row hs, fun q hq => (U.out.opts q hq).rebase fun i hi => ?_, fun q hq i hi => U.out.far q hq i hi⟩, U.is⟩
  rcases U.out.fresh q hq i hi with h1 | h1
  · exact hu i h1
  · omega
theorem Sent.none {w w' : World} {base b : Nat} {a a' : Nm} {n' : Ng} (k : NNext w w' base b a a' n') : Sent w w' base b a (n', []) (.slice none 0 0) :=
  ⟨a', [], ⟨k, World.ownsRow_nil _ _ _ _, fun _ hq => absurd hq List.not_mem_nil, fun _ hq => absurd hq List.not_mem_nil⟩, rfl⟩
theorem Sent.slice {w w' : World} {base b : Nat} {a : Nm} {s : Ng × List Pk0} {v : Value} (h : Sent w w' base b a s v) : ∃ p cap, v = .slice p s.2.length cap := by
  obtain ⟨a', l, hs, e⟩ := h
  obtain ⟨p, cap, hv⟩ := slice_of hs.row
  exact ⟨p, cap, by rw [hv, ← e, List.length_map]⟩
theorem Sent.before0 {w0 w w' : World} {base b : Nat} {a : Nm} {s : Ng × List Pk0} {v : Value} (hk : Kept (fun _ => False) w0 w) (h : Sent w w' base b a s v) : Sent w0 w' base b a s v := by
  obtain ⟨a', l, hs, e⟩ := h
  have := hk.size
  exact ⟨a', l, ⟨NNext.before0 hk hs.nx, row_rebase hs.row this, fun q hq => (hs.opts q hq).mono this, hs.far⟩, e⟩
theorem Sent.before {w0 w w' : World} {base b : Nat} {a0 a : Nm} {n : Ng} {s : Ng × List Pk0} {v : Value} (k : NNext w0 w base b a0 a n) (h : Sent w w' base b a s v) : Sent w0 w' base b a0 s v := by
  obtain ⟨a', l, hs, e⟩ := h
  have := k.kept.size
  exact ⟨a', l, ⟨k.trans hs.nx, row_rebase hs.row this, fun q hq => (hs.opts q hq).mono this, hs.far⟩, e⟩
theorem Sent.then0 {w w' w'' : World} {base b : Nat} {a : Nm} {s : Ng × List Pk0} {v : Value} (h : Sent w w' base b a s v) (hk : Kept (fun _ => False) w' w'') : Sent w w'' base b a s v := by
  obtain ⟨a', l, hs, e⟩ := h
  exact ⟨a', l, ⟨hs.nx.then0 hk, row_kept hs.row hk (fun _ _ => id), fun q hq => (hs.opts q hq).kept hk, hs.far⟩, e⟩

def happenF (c : Cz) (n : Ng) (e : Int) : Ng × List Pk0 := actsF c { n with au := (doF n.au e).2 } (doF n.au e).1

set_option maxHeartbeats 4000000 in
set_option maxRecDepth 100000 in
theorem happen_any {base b : Nat} {a : Nm} {n : Ng} (c : Cz) (v u : Value) (mr : Option Nat) (ev : Int) (hev : In64 ev) (w : World) (h : NegIn w base b a n) (hc : CzAt w base b a c v u mr) :
    Calls Try.prog 28 #[.pointer (some ⟨b, 0, none⟩), .int .i64 ev, czV c.came.code c.came.id v c.came.data c.ans.code c.ans.id u c.ans.data mr] w fun e w' => ∃ vo, e = .returned vo ∧ ∃ vt l w1, NNext w w1 base b a a { n with au := (doF n.au ev).2 } ∧ ActU w1 w' base b a u (happenF c n ev) vt vo l := by
  unfold czV
  obtain ⟨pv, cv, hv⟩ := hc.came.1.slice
  obtain ⟨pu, cu, hu⟩ := slice_of hc.ans
  have hk0 := ((Kept.refl (fun _ => False) w).alloc (.cells #[.int .i64 c.came.code, .int .i64 c.came.id, v, .string c.came.data, .int .i64 c.ans.code, .int .i64 c.ans.id, u, .string c.ans.data, .map mr] 68))
  have X0 : Box8 (w.alloc (.cells #[.int .i64 c.came.code, .int .i64 c.came.id, v, .string c.came.data, .int .i64 c.ans.code, .int .i64 c.ans.id, u, .string c.ans.data, .map mr] 68)) w.heap.size c v u mr := cells9_new _ _ _ _ _ _ _ _ _ _ _
  have hA0 := h.kept0 hk0
  have hnS : ¬ Sn b a w.heap.size := fun s => by have := h.sn_lt _ s; omega
  have HC := hid (hc.kept0 hk0)
  generalize hA : w.alloc (.cells #[.int .i64 c.came.code, .int .i64 c.came.id, v, .string c.came.data, .int .i64 c.ans.code, .int .i64 c.ans.id, u, .string c.ans.data, .map mr] 68) = A at *
  have HA := hid hA
  have HK := hid hk0
  have kd := (Kept.refl (fun _ => False) A).drew
  have n0 := hA0.n0
  have HD := hid (do_any a.am n.au hA0.good.au ev hev A.drew (hA0.auto.kept0 kd))
  have x0 := X0 0 _ rfl
  have x1 := X0 1 _ rfl
  have x2 := X0 2 _ rfl
  have x3 := X0 3 _ rfl
  have x4 := X0 4 _ rfl
  have x5 := X0 5 _ rfl
  have x6 := X0 6 _ rfl
  have x7 := X0 7 _ rfl
  have x8 := X0 8 _ rfl
  have HX := hid X0
  have HN := hid hA0
  have HS := hid (next_short n.au.st ev)
  have HG := hid (hA0.good.au.do ev)
  subst hv hu
  unfold happenF
  have eL : Hid ((doF n.au ev).1.length ≤ 100) := by
    show (doF n.au ev).1.length ≤ 100
    have := HS.out
    unfold doF
    simp only
    omega
  generalize doF n.au ev = D at *
  clear hA h hc hk0 X0 hA0 HS kd
  go_enter Try.func28, Try.ntmps28
  go_upto_region 1 with fail
  rw [HA.out]
  clear HA
  go_wp2_with fail
  go_region_with (first
    | (go_at_call 47; refine HD.out.mono ?_; rintro e w1 ⟨vd, rfl, ha, ho, hk⟩; have N1 := hid ((NNext.of0 HN.out ((Kept.refl (fun _ => False) A).drew)).trans ((HN.out.kept0 ((Kept.refl (fun _ => False) A).drew)).step ha HG.out hk)); have Z1 := hid (HC.out.step HN.out N1.out); have HAc := hid (act_any c _ _ vd mr D.1 eL.out w1 N1.out.neg Z1.out ho); have X1 := HX.out.kept N1.out.kept hnS; have y0 := X1 0 _ rfl; have y1 := X1 1 _ rfl; have y2 := X1 2 _ rfl; have y3 := X1 3 _ rfl; have y4 := X1 4 _ rfl; have y5 := X1 5 _ rfl; have y6 := X1 6 _ rfl; have y7 := X1 7 _ rfl; have y8 := X1 8 _ rfl; obtain ⟨pd, cd, rfl⟩ := ho.slice; clear ha ho hk X1; unfold czV at HAc)
    | (go_at_call 46; refine HAc.out.mono ?_; rintro e w2 ⟨vo, rfl, vt, l, U⟩; obtain ⟨po, co, rfl⟩ := slice_of U.out.row; have HU := hid U; clear U))
  all_goals
    go_wp2
    go_ret
    exact ⟨_, rfl, vt, l, w1, NNext.before0 HK.out N1.out, HU.out⟩
end Go.Proofs.Ytcmdfcdmfdheeaa
