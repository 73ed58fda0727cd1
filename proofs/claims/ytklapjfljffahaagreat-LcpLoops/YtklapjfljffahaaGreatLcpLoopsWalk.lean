/- The walk of LcpLoops. -/
import Derived.Test.YtklapjfljffahaaGreatLpUp
namespace Go.Proofs.YtklapjfljffahaaGreat
open Go.RowKit

theorem Ph.short {l : Lp} {pks : List Pk0} (h : Ph l pks) : pks = [] ∨ ∃ pk, pks = [pk] := by
  rcases h with ⟨k, V, i, _, h, _⟩ | ⟨k, D, i, _, h, _⟩ | ⟨_, _, i, h⟩ | ⟨_, _, i, h⟩ | ⟨_, _, h⟩
  · exact Or.inr ⟨_, h⟩
  · exact Or.inr ⟨_, h⟩
  · exact Or.inr ⟨_, h⟩
  · exact Or.inr ⟨_, h⟩
  · exact Or.inl h
theorem fine5 {V : ByteArray} (h : V.size = 4) : FineO [⟨5, V⟩] := fine1 ⟨by simp, by simp⟩ (by simp only; omega)

/-- Its own packet comes back to it. -/
theorem take_ph {W : World} {base base' b : Nat} {m : Lm} {l : Lp} (pk : Pk0) (u : Value) (h : LcpIn W base b m l) (hP : Ph l [pk]) (hu : OwnO W base' u pk.opts) (hfar : ∀ i, u.ownBlock = some i → ¬ Sl b m i) :
    Calls Tryz.prog 12 #[.pointer (some ⟨b, 0, none⟩), .agg #[.int .i64 pk.code, .int .i64 pk.id, u, .string pk.data]] W fun e w' => ∃ vo s, e = .returned vo ∧ LSent W w' base b m s vo ∧ Ph s.1 s.2 := by
  have d0 : (⟨#[]⟩ : ByteArray).size ≤ 140737488351232 := by decide
  rcases hP with ⟨k, V, i, hk, e, h1⟩ | ⟨k, D, i, hk, e, h1⟩ | ⟨h1, h2, i, e⟩ | ⟨h1, h2, i, e⟩ | ⟨_, _, e⟩
  · obtain rfl := (List.cons.inj e).1
    exact (lcpTake_req ⟨1, i, [⟨5, V⟩], ⟨#[]⟩⟩ u W h (by have := h1.asked; omega) ⟨hu.at, Or.inr hfar, fine5 h1.size, d0⟩ rfl).mono fun _ _ ⟨vo, h2, h3⟩ => ⟨vo, _, h2, h3, ph_req hk h1⟩
  · obtain rfl := (List.cons.inj e).1
    obtain ⟨V, hV⟩ := h1.req
    exact (lcpTake_nak i u D ⟨#[]⟩ V W h ⟨hu.at, Or.inr hfar, fine5 h1.size, d0⟩ h1.begun h1.last.symm hV (lets5 h1.own h1.size h1.fits) h1.size).mono fun _ _ ⟨vo, h2, h3⟩ => ⟨vo, _, h2, h3, ph_nak hk h1⟩
  · obtain rfl := (List.cons.inj e).1
    exact (lcpTake_5 i [] ⟨#[]⟩ u W h ⟨hu.at, Or.inr hfar, fineNil, d0⟩).mono fun _ _ ⟨vo, h3, h4⟩ => ⟨vo, _, h3, h4, ph_5 h1 h2⟩
  · obtain rfl := (List.cons.inj e).1
    exact (lcpTake_6 i [] ⟨#[]⟩ u W h ⟨hu.at, Or.inr hfar, fineNil, d0⟩).mono fun _ _ ⟨vo, h3, h4⟩ => ⟨vo, _, h3, h4, ph_6 h1 h2⟩
  · cases e

/-- A link and what it said last. -/
structure OutI (w : World) (b : Nat) (v : Value) (W : World) (n g cap : Nat) (m : Lm) (l : Lp) (pk : Pk0) (u : Value) : Prop where
  mine : LMine w W b m l
  zero : n = 0 → Ph l [] ∧ ∃ p, v = .slice p 0 cap
  one : n = 1 → Ph l [pk] ∧ v = .slice (some ⟨g, 0, none⟩) 1 cap ∧ 1 ≤ cap ∧ RowK W g pk.code pk.id u pk.data ∧ OwnO W w.heap.size u pk.opts ∧ ∀ i, u.ownBlock = some i → ¬ Sl b m i
def Outs (w : World) (b : Nat) (v : Value) (W : World) : Prop := ∃ n g cap m l pk u, n ≤ 1 ∧ OutI w b v W n g cap m l pk u
theorem outs_of {w W W' : World} {b : Nat} {m : Lm} {l : Lp} {s : Lp × List Pk0} {v : Value} (hM : LMine w W b m l) (hS : LSent W W' w.heap.size b m s v) (hP : Ph s.1 s.2) : Outs w b v W' := by
  obtain ⟨l', pks⟩ := s
  have hP : Ph l' pks := hP
  rcases hP.short with rfl | ⟨pk, rfl⟩
  · obtain ⟨m', p, cap, rfl, N⟩ := lsent_zero hS
    exact ⟨0, 0, cap, m', l', pk00, .slice none 0 0, by decide, hM.next N, fun _ => ⟨hP, p, rfl⟩, fun h => absurd h (by decide)⟩
  · obtain ⟨m', g, cap, u, rfl, hc, N, R, ho, hf, _⟩ := lsent_one hS
    exact ⟨1, g, cap, m', l', pk, u, by decide, hM.next N, (fun h => absurd h (by decide)), fun _ => ⟨hP, rfl, hc, R, ho.mono hM.kept.size, hf⟩⟩

theorem OutI.slice {w W : World} {b n g cap : Nat} {v u : Value} {m : Lm} {l : Lp} {pk : Pk0} (h : OutI w b v W n g cap m l pk u) (hn : n ≤ 1) : ∃ p, v = .slice p n cap ∧ (n = 1 → p = some ⟨g, 0, none⟩ ∧ 1 ≤ cap) := by
  by_cases h0 : n = 0
  · obtain ⟨_, p, e⟩ := h.zero h0
    exact ⟨p, by rw [e, h0], fun h1 => absurd h1 (by omega)⟩
  · obtain ⟨_, e, hc, _⟩ := h.one (by omega)
    exact ⟨_, by rw [e, show n = 1 by omega], fun _ => ⟨rfl, hc⟩⟩
theorem OutI.ok {w W : World} {b n g cap : Nat} {v u : Value} {m : Lm} {l : Lp} {pk : Pk0} (h : OutI w b v W n g cap m l pk u) (hn : n ≤ 1) : ¬ l.ng.au.st = 9 ∧ l.loops ≤ 4 := by
  by_cases h0 : n = 0
  · exact (h.zero h0).1.ok
  · exact (h.one (by omega)).1.ok

def cL (x : Int) : Cf := ⟨1492, 0, x, 0, 5, 2, 5, 3⟩
theorem goodL (x : Int) (h1 : 0 ≤ x) (h2 : x ≤ 4294967295) : GoodC (cL x) := ⟨by simp [cL], by simp [cL], Or.inl rfl, h1, h2, by simp [cL], by simp [cL]⟩
theorem askL1 (x : Int) (h : x ≠ 0) : askF (cL x) = [⟨5, numF x 4⟩] := by simp [askF, cL, h]
theorem open_up (n : Ng) (h : n.au.st = 0) : (doN n 2).2 = [] ∧ (doN (doN n 2).1 0).2 = [⟨1, nextId n.id, n.req, ⟨#[]⟩⟩] ∧ (doN (doN n 2).1 0).1.au.st = 6 ∧ (doN (doN n 2).1 0).1.begun = true ∧ (doN (doN n 2).1 0).1.last = nextId n.id ∧ (doN (doN n 2).1 0).1.req = n.req ∧ (doN (doN n 2).1 0).1.own = n.own ∧ (doN (doN n 2).1 0).1.naks = n.naks ∧ (doN (doN n 2).1 0).1.fails = n.fails := by
  obtain ⟨⟨cf, tm, st, ct⟩, req, own, peer, fails, wait, id, last, begun, naks, ticks, mine, theirs, ups, downs⟩ := n
  have h : st = 0 := h
  subst h
  exact ⟨by kernel_rfl, by kernel_rfl, by kernel_rfl, by kernel_rfl, by kernel_rfl, by kernel_rfl, by kernel_rfl, by kernel_rfl, by kernel_rfl⟩
def lL0 (x : Int) (d : List Int) : Lp := newL (cL x) d 0
theorem start_no (x : Int) (d : List Int) : (doL (lL0 x d) 2).2 = [] := (open_up (lL0 x d).ng rfl).1
theorem start_ph (x : Int) (d : List Int) (hx : 1 ≤ x) : Ph (doL (doL (lL0 x d) 2).1 0).1 (doL (doL (lL0 x d) 2).1 0).2 := by
  obtain ⟨_, s1, s2, s3, s4, s5, s6, s7, s8⟩ := open_up (lL0 x d).ng rfl
  have hr : (lL0 x d).ng.req = [⟨5, numF x 4⟩] := askL1 x (by omega)
  rw [hr] at s1 s5
  exact Or.inl ⟨0, numF x 4, _, by decide, s1, ⟨s2, s3, s4, s5, s6, numF_size x 4, rfl, by show x ≠ 0; omega, rfl, s7, s8, Nat.le_refl _⟩⟩

set_option maxHeartbeats 16000000 in
set_option maxRecDepth 100000 in
theorem lcpLoops_walk (x : Int) (v : Value) (d : List Int) (rn : Int) (w : World) (_h1 : In64 x) (hd : IntsAt w v d ∧ ∀ y ∈ d, In64 y) (_h2 : In64 rn) :
    Calls Tryz.prog 5 #[.int .i64 x, v, .int .i64 rn] w fun e w' => e = .returned (.bool true) ∧ Below w.heap.size w w' := by
  have Ha := hid lawAlive_any
  have HCf := hid lawConfig_any
  unfold cfV at HCf
  simp only [show cA.mru = 1492 from rfl, show cA.auth = 49699 from rfl, show cA.magic = 7 from rfl, show cA.echo = 0 from rfl, show cA.cf = 5 from rfl, show cA.tm = 2 from rfl, show cA.fails = 5 from rfl, show cA.wait = 3 from rfl] at HCf
  have HD := hid hd.1
  obtain ⟨pv, cv, hv, _⟩ := hd.1.form
  subst hv
  clear hd
  by_cases hx : 1 ≤ x ∧ x < 4294967296 ∧ 0 ≤ rn ∧ rn ≤ 40 ∧ d.length ≤ 200
  case neg =>
    have hc : x < 1 ∨ (¬ x < 1 ∧ 4294967296 ≤ x) ∨ (¬ x < 1 ∧ ¬ 4294967296 ≤ x ∧ rn < 0) ∨ (¬ x < 1 ∧ ¬ 4294967296 ≤ x ∧ ¬ rn < 0 ∧ 40 < rn) ∨ (¬ x < 1 ∧ ¬ 4294967296 ≤ x ∧ ¬ rn < 0 ∧ ¬ 40 < rn ∧ (200 : Int) < (d.length : Int)) := by omega
    clear hx
    rcases hc with h1 | ⟨h1, h2⟩ | ⟨h1, h2, h3⟩ | ⟨h1, h2, h3, h4⟩ | ⟨h1, h2, h3, h4, h5⟩
    all_goals
      go_enter Tryz.func5, Tryz.ntmps5
      go_wp2_with fail
      refine (HCf.out _).mono ?_
      rintro e w1 ⟨rfl, hk1⟩
      have K1 := hid (hk1.alloc (.cells #[.int .i64 1492, .int .i64 0, .int .i64 x, .int .i64 0, .int .i64 5, .int .i64 2, .int .i64 5, .int .i64 3] 43))
      clear hk1
      go_wp2_with fail
      refine (Ha.out _).mono ?_
      rintro e w2 ⟨rfl, hk2⟩
      have K2 := hid (K1.out.trans hk2)
      clear hk2
      go_wp2
      go_ret
      exact ⟨rfl, below_kept K2.out⟩
  obtain ⟨hx1, hx2, hr1, hr2, hdl⟩ := hx
  obtain ⟨n, rfl⟩ : ∃ n : Nat, rn = (n : Int) := ⟨rn.toNat, by omega⟩
  have z1 : ¬ x < 1 := by omega
  have z2 : ¬ 4294967296 ≤ x := by omega
  have z3 : ¬ (n : Int) < 0 := by omega
  have z4 : ¬ 40 < (n : Int) := by omega
  have z5 : ¬ (200 : Int) < (d.length : Int) := by omega
  have HTp : Hid (∀ W, Kept (fun _ => False) w W → Calls Tryz.prog 20 #[.slice pv d.length cv] W fun e w' => Tp.NewTape W w' e d) := fun W k => by
    rcases HD.out with ⟨e1, rfl⟩ | ⟨ad, cap, e1, _, _, hc⟩
    · simp only [List.length_nil] at e1 ⊢
      rw [e1]
      exact Tp.new_nil W
    · rw [e1]
      exact Tp.new_some ad cap d (by omega) W (fun j u hj => (k.cell (lt_of_cell (hc j u hj)) id).trans (hc j u hj))
  have HNw := hid (fun (tb cap : Nat) (tp : Option Addr) (W : World) (hb : w.heap.size ≤ W.heap.size) (ht : Tp.IsTape W tb tp cap d 0) (htb : w.heap.size ≤ tb) (hon : ∀ i, Tp.onTape tp d i → w.heap.size ≤ i) => lcpNew_some (cL x) (goodL x (by omega) (by omega)) ⟨by simp [cL], by simp [cL]⟩ ⟨by simp [cL], by simp [cL]⟩ ⟨by simp [cL], by simp [cL]⟩ ⟨by simp [cL], by simp [cL]⟩ tb cap 0 tp d w.heap.size W hb ht htb hon)
  unfold cfV at HNw
  simp only [show (cL x).mru = 1492 from rfl, show (cL x).auth = 0 from rfl, show (cL x).magic = x from rfl, show (cL x).echo = 0 from rfl, show (cL x).cf = 5 from rfl, show (cL x).tm = 2 from rfl, show (cL x).fails = 5 from rfl, show (cL x).wait = 3 from rfl] at HNw
  go_enter Tryz.func5, Tryz.ntmps5
  go_wp2_with fail
  refine (HCf.out _).mono ?_
  rintro e w1 ⟨rfl, hk1⟩
  have K1 := hid (hk1.alloc (.cells #[.int .i64 1492, .int .i64 0, .int .i64 x, .int .i64 0, .int .i64 5, .int .i64 2, .int .i64 5, .int .i64 3] 43))
  have C1 := CfgAt.new w1 (cL x)
  clear hk1 HCf
  go_upto_region 5 with fail
  simp only [show (cL x).mru = 1492 from rfl, show (cL x).auth = 0 from rfl, show (cL x).magic = x from rfl, show (cL x).echo = 0 from rfl, show (cL x).cf = 5 from rfl, show (cL x).tm = 2 from rfl, show (cL x).fails = 5 from rfl, show (cL x).wait = 3 from rfl] at C1
  generalize w1.alloc (.cells #[.int .i64 1492, .int .i64 0, .int .i64 x, .int .i64 0, .int .i64 5, .int .i64 2, .int .i64 5, .int .i64 3] 43) = A at *
  have HC1 := hid C1
  clear C1
  have B0 : CfgK A w1.heap.size (cL x) A.drew := ⟨HC1.out.kept0 ((Kept.refl _ _).drew), (Kept.refl _ _).drew⟩
  have x0 : ∀ W, CfgK A w1.heap.size (cL x) W → W.cell? ⟨w1.heap.size, 0, none⟩ = some (.int .i64 1492) := fun W h => h.at_ 0 _ rfl
  have x1 : ∀ W, CfgK A w1.heap.size (cL x) W → W.cell? ⟨w1.heap.size, 1, none⟩ = some (.int .i64 0) := fun W h => h.at_ 1 _ rfl
  have x2 : ∀ W, CfgK A w1.heap.size (cL x) W → W.cell? ⟨w1.heap.size, 2, none⟩ = some (.int .i64 x) := fun W h => h.at_ 2 _ rfl
  have x3 : ∀ W, CfgK A w1.heap.size (cL x) W → W.cell? ⟨w1.heap.size, 3, none⟩ = some (.int .i64 0) := fun W h => h.at_ 3 _ rfl
  have x4 : ∀ W, CfgK A w1.heap.size (cL x) W → W.cell? ⟨w1.heap.size, 4, none⟩ = some (.int .i64 5) := fun W h => h.at_ 4 _ rfl
  have x5 : ∀ W, CfgK A w1.heap.size (cL x) W → W.cell? ⟨w1.heap.size, 5, none⟩ = some (.int .i64 2) := fun W h => h.at_ 5 _ rfl
  have x6 : ∀ W, CfgK A w1.heap.size (cL x) W → W.cell? ⟨w1.heap.size, 6, none⟩ = some (.int .i64 5) := fun W h => h.at_ 6 _ rfl
  have x7 : ∀ W, CfgK A w1.heap.size (cL x) W → W.cell? ⟨w1.heap.size, 7, none⟩ = some (.int .i64 3) := fun W h => h.at_ 7 _ rfl
  refine wp_region_held_drew (S := CfgK A w1.heap.size (cL x)) (by kernel_rfl) (B0) (fun hSd => ?_)
  refine wpAnyH_take (i := 0) (v := ?_) rfl (by kernel_rfl) (by kernel_rfl) (by kernel_rfl) (fun _ _ _ h => h) (Or.inl ⟨by kernel_rfl, fun W hSW => by go_simp; try with_reducible rfl⟩) (by assumption) ?_
  try simp only [List.getElem_toArray]
  try simp only [List.getElem_cons_succ]
  try simp only [List.getElem_cons_zero]
  try simp only [Act.put]
  try simp only [List.setIfInBounds_toArray]
  try simp only [List.set_cons_succ]
  try simp only [List.set_cons_zero]
  refine wpAnyH_take (i := 1) (v := ?_) rfl (by kernel_rfl) (by kernel_rfl) (by kernel_rfl) (fun _ _ _ h => h) (Or.inl ⟨by kernel_rfl, fun W hSW => by go_simp; try with_reducible rfl⟩) (by assumption) ?_
  try simp only [List.getElem_toArray]
  try simp only [List.getElem_cons_succ]
  try simp only [List.getElem_cons_zero]
  try simp only [Act.put]
  try simp only [List.setIfInBounds_toArray]
  try simp only [List.set_cons_succ]
  try simp only [List.set_cons_zero]
  refine wpAnyH_ready (rs := [2]) (by kernel_rfl) (by simp) ?_
  refine AllReadyH.cons rfl (fun K hK => ?_) AllReadyH.nil
  go_simp
  refine (HTp.out _ (K1.out.trans ((Kept.refl _ _).drew))).mono ?_
  rintro e w2 ⟨tb, tp, cap, rfl, htb, hon, hT, hk2⟩
  have B2 := CfgK.kept B0 hk2
  have K2 := hid (K1.out.trans B2.k)
  have hsA := K1.out.size
  have hsd : A.drew.heap.size = A.heap.size := rfl
  have HN := hid (HNw.out tb cap tp w2 K2.out.size hT (by omega) (fun i hi => by have := hon i hi; omega))
  clear htb hon hT hk2
  refine hK.out _ _ (B2) (fun _ => ?_)
  clear hK K
  try simp only [List.getElem_toArray]
  try simp only [List.getElem_cons_succ]
  try simp only [List.getElem_cons_zero]
  try simp only [Act.put]
  try simp only [List.setIfInBounds_toArray]
  try simp only [List.set_cons_succ]
  try simp only [List.set_cons_zero]
  refine wpAnyH_ready (rs := [3]) (by kernel_rfl) (by simp) ?_
  refine AllReadyH.cons rfl (fun K hK => ?_) AllReadyH.nil
  go_simp
  refine HN.out.mono ?_
  rintro e w3 ⟨b, m, rfl, hL, hk3, _⟩
  have B3 := CfgK.kept B2 hk3
  have M3 : Hid (LMine w w3 b m (lL0 x d)) := ⟨hL, K2.out.trans hk3⟩
  have hE := eqLcpSome ⟨b, 0, none⟩
  clear hL hk3 HN
  refine hK.out _ _ (B3) (fun _ => ?_)
  clear hK K
  try simp only [List.getElem_toArray]
  try simp only [List.getElem_cons_succ]
  try simp only [List.getElem_cons_zero]
  try simp only [Act.put]
  try simp only [List.setIfInBounds_toArray]
  try simp only [List.set_cons_succ]
  try simp only [List.set_cons_zero]
  refine wpAnyH_take (i := 4) (v := ?_) rfl (by kernel_rfl) (by kernel_rfl) (by kernel_rfl) (fun _ _ _ h => h) (Or.inl ⟨by kernel_rfl, fun W hSW => by go_simp; try with_reducible rfl⟩) (by assumption) ?_
  try simp only [List.getElem_toArray]
  try simp only [List.getElem_cons_succ]
  try simp only [List.getElem_cons_zero]
  try simp only [Act.put]
  try simp only [List.setIfInBounds_toArray]
  try simp only [List.set_cons_succ]
  try simp only [List.set_cons_zero]
  refine wpAnyH_take (i := 5) (v := ?_) rfl (by kernel_rfl) (by kernel_rfl) (by kernel_rfl) (fun _ _ _ h => h) (Or.inl ⟨by kernel_rfl, fun W hSW => by go_simp; try with_reducible rfl⟩) (by assumption) ?_
  try simp only [List.getElem_toArray]
  try simp only [List.getElem_cons_succ]
  try simp only [List.getElem_cons_zero]
  try simp only [Act.put]
  try simp only [List.setIfInBounds_toArray]
  try simp only [List.set_cons_succ]
  try simp only [List.set_cons_zero]
  refine wpAnyH_take (i := 6) (v := ?_) rfl (by kernel_rfl) (by kernel_rfl) (by kernel_rfl) (fun _ _ _ h => h) (Or.inl ⟨by kernel_rfl, fun W hSW => by go_simp; try with_reducible rfl⟩) (by assumption) ?_
  try simp only [List.getElem_toArray]
  try simp only [List.getElem_cons_succ]
  try simp only [List.getElem_cons_zero]
  try simp only [Act.put]
  try simp only [List.setIfInBounds_toArray]
  try simp only [List.set_cons_succ]
  try simp only [List.set_cons_zero]
  refine wpAnyH_take (i := 7) (v := ?_) rfl (by kernel_rfl) (by kernel_rfl) (by kernel_rfl) (fun _ _ _ h => h) (Or.inl ⟨by kernel_rfl, fun W hSW => by go_simp; try with_reducible rfl⟩) (by assumption) ?_
  try simp only [List.getElem_toArray]
  try simp only [List.getElem_cons_succ]
  try simp only [List.getElem_cons_zero]
  try simp only [Act.put]
  try simp only [List.setIfInBounds_toArray]
  try simp only [List.set_cons_succ]
  try simp only [List.set_cons_zero]
  refine wpAnyH_take (i := 8) (v := ?_) rfl (by kernel_rfl) (by kernel_rfl) (by kernel_rfl) (fun _ _ _ h => h) (Or.inl ⟨by kernel_rfl, fun W hSW => by go_simp; try with_reducible rfl⟩) (by assumption) ?_
  try simp only [List.getElem_toArray]
  try simp only [List.getElem_cons_succ]
  try simp only [List.getElem_cons_zero]
  try simp only [Act.put]
  try simp only [List.setIfInBounds_toArray]
  try simp only [List.set_cons_succ]
  try simp only [List.set_cons_zero]
  refine wpAnyH_done (by kernel_rfl) ?_ _
  clear B0 B2 B3 x0 x1 x2 x3 x4 x5 x6 x7 HC1 K1 K2 HNw HTp hsA hsd
  have HDo := hid (lcpDo_any 2 w3 M3.out.lcp)
  go_wp2_with fail
  refine HDo.out.mono ?_
  rintro e w4 ⟨vo, rfl, S4⟩
  obtain ⟨p4, c4, hv4⟩ := S4.slice
  rw [start_no] at hv4
  subst hv4
  obtain ⟨m4, q4, hs4, _⟩ := S4
  have M4 := hid (M3.out.next hs4.nx)
  clear hs4 HDo M3
  have HDo := hid (lcpDo_any 0 w4 M4.out.lcp)
  go_wp2_with fail
  refine HDo.out.mono ?_
  rintro e w5 ⟨vo, rfl, S5⟩
  have I0 := hid (outs_of M4.out S5 (start_ph x d hx1))
  obtain ⟨p5, c5, rfl⟩ := S5.slice
  clear S5 HDo M4
  generalize (doL (doL (lL0 x d) 2).1 0).2.length = n5 at *
  go_wp2
  go_loopw [10, 11, 12, 13] (fun v10 v11 _ _ wr => ∃ i : Nat, i ≤ n ∧ v11 = .int .i64 (i : Int) ∧ Hid (Outs w b v10 wr)) (fun _ v11 _ _ _ => n - (intOf v11).toNat)
  case atStart => exact ⟨0, Nat.zero_le _, rfl, I0.out⟩
  case round =>
    obtain ⟨i, hi, rfl, HI⟩ := hrel
    clear I0
    by_cases hlt : i < n
    · have hltz : (i : Int) < (n : Int) := by omega
      obtain ⟨nn, g, cap, m, l, pk, u, hn, hO⟩ := HI.out
      obtain ⟨p, rfl, hp⟩ := hO.slice hn
      have HO := hid hO
      have HP := hid hp
      have J0 : Hid ((0 < nn → (Value.slice none 0 0 = .slice none 0 0 ∧ OutI w b (.slice p nn cap) wr nn g cap m l pk u)) ∧ (0 = nn → Outs w b (.slice none 0 0) wr)) :=
        ⟨fun _ => ⟨rfl, hO⟩, fun h0 => ⟨0, 0, 0, m, l, pk, u, by decide, hO.mine, fun _ => ⟨(hO.zero h0.symm).1, none, rfl⟩, fun h => absurd h (by decide)⟩⟩
      clear hO HI hp HO
      go_wp2
      go_loopw [12, 13] (fun v12 v13 wr => ∃ k : Nat, k ≤ nn ∧ v13 = .int .i64 (k : Int) ∧ Hid ((k < nn → (v12 = .slice none 0 0 ∧ OutI w b (.slice p nn cap) wr nn g cap m l pk u)) ∧ (k = nn → Outs w b v12 wr))) (fun _ v13 _ => nn - (intOf v13).toNat)
      case atStart => exact ⟨0, Nat.zero_le _, rfl, ⟨fun h => ⟨rfl, (J0.out.1 h).2⟩, J0.out.2⟩⟩
      case round =>
        obtain ⟨k, hk, rfl, HJ⟩ := hrel
        clear J0
        by_cases hkn : k < nn
        · have hkz : (k : Int) < (nn : Int) := by omega
          obtain rfl : k = 0 := by omega
          obtain rfl : nn = 1 := by omega
          obtain ⟨rfl, hO⟩ := HJ.out.1 hkn
          obtain ⟨rfl, hcap⟩ := HP.out rfl
          obtain ⟨hPh, _, _, hRow, hu, hf⟩ := hO.one rfl
          have HTk := hid (take_ph pk u hO.mine.lcp hPh hu hf)
          obtain ⟨pu, cu, rfl⟩ := slice_of hu
          have r0 := hRow.r0
          have r1 := hRow.r1
          have r2 := hRow.r2
          have r3 := hRow.r3
          have HM := hid hO.mine
          clear hPh hRow hu hf hO HJ hkn
          go_wp2_with fail
          refine HTk.out.mono ?_
          rintro e w6 ⟨vo, s, rfl, S, hPs⟩
          obtain ⟨v', w7, hr, S2⟩ := appendP S (by rcases hPs.short with h | ⟨_, h⟩ <;> rw [h] <;> simp)
          have HF := hid (outs_of HM.out S2 hPs)
          obtain ⟨po, co, rfl⟩ := S.slice
          obtain ⟨pq, cq, rfl⟩ := S2.slice
          unfold AppP at hr
          clear S S2 hPs HTk
          generalize s.2.length = sl at *
          go_wp2_with (at_builtin; refine Lib.wpList_append_run _ rfl _ _ _ _ rfl _ _ rfl rfl _ _ (hr _) ?_)
          exact ⟨⟨1, Nat.le_refl _, by go_num, ⟨fun h => absurd h (by decide), fun _ => HF.out⟩⟩, by simp [intOf]⟩
        · have hkz : ¬ (k : Int) < (nn : Int) := by omega
          have HOu := hid (HJ.out.2 (by omega))
          obtain ⟨n2, g2, cap2, m2, l2, pk2, u2, hn2, hO2⟩ := HOu.out
          obtain ⟨p2, rfl, _⟩ := hO2.slice hn2
          have HSt := hid (lcpState_any wr hO2.mine.lcp)
          have HLo := hid (loops_any wr hO2.mine.lcp)
          obtain ⟨h9, h4⟩ := hO2.ok hn2
          have h9z : (l2.ng.au.st == 9) = false := by simpa using h9
          have h4z : ¬ 4 < l2.loops := by omega
          have hwi : IntKind.i64.wrap ((i : Int) + 1) = (i : Int) + 1 := by rw [IntKind.wrap_i64]; omega
          clear hO2 HJ h9 h4 hkn HP
          go_wp2_with (first
            | (go_at_call 15; refine HSt.out.mono ?_; rintro e w' ⟨rfl, hw⟩; rw [hw]; clear hw w')
            | (go_at_call 16; refine HLo.out.mono ?_; rintro e w' ⟨rfl, hw⟩; rw [hw]; clear hw w'))
          exact ⟨⟨i + 1, by omega, by go_num, HOu.out⟩, by simp [intOf]; omega⟩
    · have hltz : ¬ (i : Int) < (n : Int) := by omega
      obtain ⟨_, _, _, m, l, _, _, _, hO⟩ := HI.out
      have HKw := hid hO.mine.kept
      clear hO HI
      go_wp2_with fail
      refine (Ha.out _).mono ?_
      rintro e w6 ⟨rfl, hk6⟩
      have KF := hid (HKw.out.trans hk6)
      clear hk6
      go_wp2
      go_ret
      exact ⟨rfl, below_kept KF.out⟩
end Go.Proofs.YtklapjfljffahaaGreat
