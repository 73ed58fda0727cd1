/- The laws' alive. -/
import Derived.Test.YtodgkmjiiijfpaaGreatNgLaw
namespace Go.Proofs.YtodgkmjiiijfpaaGreat
open Go.RowKit

/-- A law's own negotiation, made behind w; nothing of w has turned. -/
structure NMine (w W : World) (b : Nat) (a : Nm) (n : Ng) : Prop where
  neg : NegIn W w.heap.size b a n
  kept : Kept (fun _ => False) w W
theorem NMine.still {w W W' : World} {b : Nat} {a : Nm} {n : Ng} (h : NMine w W b a n) (hk : Kept (fun _ => False) W W') : NMine w W' b a n := ⟨h.neg.kept0 hk, h.kept.trans hk⟩
theorem NMine.next {w W W' : World} {b : Nat} {a a' : Nm} {n n' : Ng} (h : NMine w W b a n) (k : NNext W W' w.heap.size b a a' n') : NMine w W' b a' n' :=
  ⟨k.neg, h.kept.andThen k.kept (fun i hi s => by have := h.neg.sn_lo i s; omega)⟩

/-- The first packet of a list that was sent, as it is read. -/
theorem SentBy.cells {w w' : World} {base b : Nat} {a a' : Nm} {n' : Ng} {p : Option Addr} {m cap : Nat} {l : List (Pk0 × Value)} (h : SentBy w w' base b a a' n' (.slice p m cap) l) {j : Nat} {q : Pk0 × Value} (hj : l[j]? = some q) :
    ∃ g, p = some ⟨g, 0, none⟩ ∧ l.length ≤ cap ∧ w'.cell? ⟨g, j * 4, none⟩ = some (.int .i64 q.1.code) ∧ w'.cell? ⟨g, j * 4 + 1, none⟩ = some (.int .i64 q.1.id) ∧ w'.cell? ⟨g, j * 4 + 2, none⟩ = some q.2 ∧ w'.cell? ⟨g, j * 4 + 3, none⟩ = some (.string q.1.data) ∧ w.heap.size ≤ g ∧ PkBlk w' g := by
  rcases h.row.2 with ⟨e, h0⟩ | ⟨g, cap', cur, e, hb, hg, h1, h2, h3, h4⟩
  · have := (List.getElem?_eq_some_iff.1 hj).1
    omega
  · simp only [Value.slice.injEq] at e
    obtain ⟨rfl, rfl, rfl⟩ := e
    have hlt := (List.getElem?_eq_some_iff.1 hj).1
    have hc : ∀ i, i < 4 → w'.cell? ⟨g, j * 4 + i, none⟩ = (pkCells q)[i]? := fun i hi => by
      rw [← rowP_get hj i hi, ← h4, List.getElem?_take_of_lt (by omega)]
      simp [World.cell?, hg]
    exact ⟨g, rfl, h1, hc 0 (by omega), hc 1 (by omega), hc 2 (by omega), hc 3 (by omega), hb, cur, hg⟩

def optA : Tg := ⟨1, ⟨#[5, 0]⟩⟩
def nA0 : Ng := newN [optA] [] [rule1] 3 2 0 3
def nA1 : Ng := { nA0 with au := ⟨3, 2, 1, 0⟩ }
def nA2 : Ng := { nA0 with au := ⟨3, 2, 6, 2⟩, id := 1, last := 1, begun := true }
def nA3 : Ng := { nA2 with au := ⟨3, 2, 8, 2⟩ }
def nA4 : Ng := { nA3 with au := ⟨3, 2, 9, 3⟩, mine := [optA], ups := 1 }
theorem stepA1 : doN nA0 2 = (nA1, []) := by kernel_rfl
theorem stepA2 : doN nA1 0 = (nA2, [⟨1, 1, [optA], ⟨#[]⟩⟩]) := by kernel_rfl
theorem stepA3 : reqN nA2 ⟨1, 7, [], ⟨#[]⟩⟩ = (nA3, [⟨2, 7, [], ⟨#[]⟩⟩]) := by kernel_rfl
theorem stepA4 : ackN nA3 ⟨2, 1, [optA], ⟨#[]⟩⟩ = (nA4, []) := by kernel_rfl
theorem stepA5 : judgeF [rule1] [⟨1, ⟨#[7, 208]⟩⟩] = (3, [⟨1, ⟨#[5, 212]⟩⟩]) := by kernel_rfl

theorem NegIn.lower {W : World} {base B b : Nat} {a : Nm} {n : Ng} (h : NegIn W base b a n) (hB : B ≤ base) : NegIn W B b a n :=
  ⟨h.cells, h.auto, h.req.mono hB, h.own, h.peer, h.mine.mono hB, h.theirs.mono hB, h.far1, h.far2, Nat.le_trans hB h.lo, Nat.le_trans hB h.lo2, h.good⟩

/-- The cells of one packet in a row that was sent. -/
structure RowK (W : World) (g : Nat) (c i : Int) (u : Value) (s : ByteArray) : Prop where
  blk : PkBlk W g
  r0 : W.cell? ⟨g, 0, none⟩ = some (.int .i64 c)
  r1 : W.cell? ⟨g, 1, none⟩ = some (.int .i64 i)
  r2 : W.cell? ⟨g, 2, none⟩ = some u
  r3 : W.cell? ⟨g, 3, none⟩ = some (.string s)
theorem RowK.kept {S : Nat → Prop} {W W' : World} {g : Nat} {c i : Int} {u : Value} {s : ByteArray} (h : RowK W g c i u s) (hk : Kept S W W') (hS : ¬ S g) : RowK W' g c i u s :=
  ⟨h.blk.kept hk hS, (hk.cell (p := ⟨g, 0, none⟩) h.blk.lt hS).trans h.r0, (hk.cell (p := ⟨g, 1, none⟩) h.blk.lt hS).trans h.r1, (hk.cell (p := ⟨g, 2, none⟩) h.blk.lt hS).trans h.r2, (hk.cell (p := ⟨g, 3, none⟩) h.blk.lt hS).trans h.r3⟩
theorem pk_far {W : World} {base b g : Nat} {a : Nm} {n : Ng} (h : NegIn W base b a n) (hp : PkBlk W g) : ¬ Sn b a g := by
  obtain ⟨h1, h2, h3⟩ := h.not_pk hp
  rintro (e | e | e)
  · exact h1 e
  · exact h2 e
  · exact h3 _ _ h.req e
theorem RowK.step {W W' : World} {base b g : Nat} {a a' : Nm} {n n' : Ng} {c i : Int} {u : Value} {s : ByteArray} (h : RowK W g c i u s) (hn : NegIn W base b a n) (k : NNext W W' base b a a' n') : RowK W' g c i u s := h.kept k.kept (pk_far hn h.blk)

/-- What a call sent was one packet. -/
theorem sent_one {w w' : World} {base b : Nat} {a : Nm} {n' : Ng} {q : Pk0} {v : Value} (h : Sent w w' base b a (n', [q]) v) : ∃ a' g cap u, v = .slice (some ⟨g, 0, none⟩) 1 cap ∧ 1 ≤ cap ∧ NNext w w' base b a a' n' ∧ RowK w' g q.code q.id u q.data ∧ OwnO w' w.heap.size u q.opts ∧ (∀ i, u.ownBlock = some i → ¬ Sn b a' i) ∧ w.heap.size ≤ g := by
  obtain ⟨a', l, hs, e⟩ := h
  obtain ⟨q', rfl⟩ : ∃ q', l = [q'] := by
    cases l with
    | nil => cases e
    | cons x l =>
      cases l with
      | nil => exact ⟨x, rfl⟩
      | cons y l => simp at e
  have e' : q'.1 = q := by simpa using e
  subst e'
  obtain ⟨p, cap, rfl⟩ := slice_of hs.row
  obtain ⟨g, rfl, h1, c0, c1, c2, c3, h2, h3⟩ := hs.cells (j := 0) rfl
  exact ⟨a', g, cap, q'.2, rfl, h1, hs.nx, ⟨h3, c0, c1, c2, c3⟩, hs.opts q' (by simp), hs.far q' (by simp), h2⟩
theorem sent_zero {w w' : World} {base b : Nat} {a : Nm} {n' : Ng} {v : Value} (h : Sent w w' base b a (n', []) v) : ∃ a' p cap, v = .slice p 0 cap ∧ NNext w w' base b a a' n' := by
  obtain ⟨a', l, hs, e⟩ := h
  have : l = [] := by simpa using e
  subst this
  obtain ⟨p, cap, rfl⟩ := slice_of hs.row
  exact ⟨a', p, cap, rfl, hs.nx⟩

theorem nilPk {W : World} {b : Nat} {a : Nm} (c i : Int) (s : ByteArray) (hs : s.size ≤ 140737488351232) : PkIn W b a ⟨c, i, [], s⟩ (.slice none 0 0) := ⟨OptsAt.nil W, Or.inl rfl, fineNil, hs⟩

set_option maxHeartbeats 8000000 in
set_option maxRecDepth 100000 in
theorem lawAlive_any (w : World) : Calls Tryz.prog 6 #[] w fun e w' => e = .returned (.bool true) ∧ Kept (fun _ => False) w w' := by
  have HRu := hid lawRule_any
  unfold rlV rule1 at HRu
  simp only at HRu
  have k0 := hid ((Kept.refl (fun _ => False) w).alloc (.cells #[.int .i64 1, .string ⟨#[5, 0]⟩] 60))
  have B0 := hid (BoxO.new w optA)
  go_enter Tryz.func6, Tryz.ntmps6
  go_wp2_with fail
  refine (HRu.out _).mono ?_
  rintro e w1 ⟨rfl, hk1⟩
  have K1 := hid (k0.out.trans hk1)
  have B1 : Hid (BoxO w1 w.heap.size optA) := (hk1.block _ (BoxO.lt B0.out) id).trans B0.out
  clear hk1 k0 B0
  have ka := (Kept.refl (fun _ => False) w1).alloc (.cells #[.int .i64 1, .int .i64 2, .int .i64 64, .int .i64 1492, .string ⟨#[5, 212]⟩] 25)
  have B2 : BoxO _ w.heap.size optA := (ka.block _ (BoxO.lt B1.out) id).trans B1.out
  have HNew := hid (ngNew_any (.slice (some ⟨w.heap.size, 0, none⟩) 1 1) (.slice none 0 0) (.slice (some ⟨w1.heap.size, 0, none⟩) 1 1) [optA] [] [rule1] 3 2 0 3 _ (one_opt (base := 0) B2 (Nat.zero_le _)).at (RulesAt.nil _) (one_rule (show BoxRl (w1.alloc (.cells #[.int .i64 1, .int .i64 2, .int .i64 64, .int .i64 1492, .string ⟨#[5, 212]⟩] 25)) w1.heap.size rule1 from heap_alloc_new w1 _)) (by decide) (by decide) (by decide) (by decide) (fine1 ⟨by decide, by decide⟩ (by decide)) (by kernel_rfl) (alone1 _) goodNil good1)
  unfold setupV at HNew
  have K2 := hid (K1.out.trans ka)
  clear ka B2 B1 K1
  go_wp2_with fail
  refine HNew.out.mono ?_
  rintro e w3 ⟨b, rfl, a, hn, hk3⟩
  have M3 : Hid (NMine w w3 b a nA0) := ⟨hn.lower K2.out.size, K2.out.trans hk3⟩
  have hE := eqNegSome ⟨b, 0, none⟩
  clear hn hk3 K2 HNew
  have HD := hid (ngDo_any 2 w3 M3.out.neg)
  rw [stepA1] at HD
  go_wp2_with fail
  refine HD.out.mono ?_
  rintro e w4 ⟨vo, rfl, S4⟩
  obtain ⟨a4, p4, c4, rfl, N4⟩ := sent_zero S4
  have M4 := hid (M3.out.next N4)
  clear S4 N4 HD M3
  have HD := hid (ngDo_any 0 w4 M4.out.neg)
  rw [stepA2] at HD
  go_wp2_with fail
  refine HD.out.mono ?_
  rintro e w5 ⟨vo, rfl, S5⟩
  obtain ⟨a5, g5, c5, u5, rfl, hc5, N5, R5, _, _, _⟩ := sent_one S5
  have M5 := hid (M4.out.next N5)
  have R5 := hid R5
  clear S5 N5 HD M4
  have HTk := hid (take_req ⟨1, 7, [], ⟨#[]⟩⟩ (.slice none 0 0) w5 M5.out.neg (nilPk _ _ _ (by decide)) rfl short1)
  rw [stepA3] at HTk
  unfold pkV at HTk
  go_wp2_with fail
  refine HTk.out.mono ?_
  rintro e w6 ⟨vo, rfl, S6⟩
  obtain ⟨a6, g6, c6, u6, rfl, hc6, N6, R6, _, _, _⟩ := sent_one S6
  have M6 := hid (M5.out.next N6)
  have R5' := hid (R5.out.step M5.out.neg N6)
  have R6 := hid R6
  clear S6 N6 HTk M5 R5
  have ka := (Kept.refl (fun _ => False) w6).alloc (.cells #[.int .i64 1, .string ⟨#[5, 0]⟩] 60)
  have B6 := BoxO.new w6 optA
  have hm := M6.out.still ka
  have R5a := hid (R5'.out.kept ka id)
  have R6a := hid (R6.out.kept ka id)
  have HTk := hid (take_ans2 ⟨2, 1, [optA], ⟨#[]⟩⟩ (.slice (some ⟨w6.heap.size, 0, none⟩) 1 1) _ hm.neg ⟨(one_opt (base := 0) B6 (Nat.zero_le _)).at, Or.inr (fun i hi s => by
    have h1 : w6.heap.size = i := by simpa [Value.ownBlock] using hi
    have h2 := M6.out.neg.sn_lt i s
    omega), fine1 ⟨by decide, by decide⟩ (by decide), by decide⟩ rfl rfl rfl (ackN nA3 ⟨2, 1, [optA], ⟨#[]⟩⟩) (fun W h1 h2 => takeAnswer_2 _ _ W h1 h2 rfl))
  rw [stepA4] at HTk
  unfold pkV at HTk
  have HM := hid hm
  clear hm ka B6 M6 R5' R6
  go_wp2_with fail
  refine HTk.out.mono ?_
  rintro e w7 ⟨vo, rfl, S7⟩
  obtain ⟨a7, p7, c7, rfl, N7⟩ := sent_zero S7
  have M7 := hid (HM.out.next N7)
  have R5b := hid (R5a.out.step HM.out.neg N7)
  have R6b := hid (R6a.out.step HM.out.neg N7)
  clear S7 N7 HTk HM R5a R6a
  go_wp2_with fail
  refine (HRu.out _).mono ?_
  rintro e w8 ⟨rfl, hk8⟩
  have kr := (Kept.refl (fun _ => False) w8).alloc (.cells #[.int .i64 1, .int .i64 2, .int .i64 64, .int .i64 1492, .string ⟨#[5, 212]⟩] 25)
  have ko := (Kept.refl (fun _ => False) (w8.alloc (.cells #[.int .i64 1, .int .i64 2, .int .i64 64, .int .i64 1492, .string ⟨#[5, 212]⟩] 25))).alloc (.cells #[.int .i64 1, .string ⟨#[7, 208]⟩] 60)
  have hs8 : (w8.alloc (.cells #[.int .i64 1, .int .i64 2, .int .i64 64, .int .i64 1492, .string ⟨#[5, 212]⟩] 25)).heap.size = w8.heap.size + 1 := by simp
  have BR : BoxRl (w8.alloc (.cells #[.int .i64 1, .int .i64 2, .int .i64 64, .int .i64 1492, .string ⟨#[5, 212]⟩] 25)) w8.heap.size rule1 := heap_alloc_new w8 _
  have BO := BoxO.new (w8.alloc (.cells #[.int .i64 1, .int .i64 2, .int .i64 64, .int .i64 1492, .string ⟨#[5, 212]⟩] 25)) ⟨1, ⟨#[7, 208]⟩⟩
  rw [hs8] at BO
  have BR' : BoxRl _ w8.heap.size rule1 := (ko.block _ (Array.getElem?_eq_some_iff.1 BR).1 id).trans BR
  have HJ := hid (judgeR_any (.slice (some ⟨w8.heap.size, 0, none⟩) 1 1) [rule1] (.slice (some ⟨w8.heap.size + 1, 0, none⟩) 1 1) [⟨1, ⟨#[7, 208]⟩⟩] _ (one_rule BR') (by decide) (fun r hr => (good1.2 r hr).1) (one_opt (base := 0) BO (Nat.zero_le _)).at (by decide) (fun x hx => by rw [List.mem_singleton.1 hx]; exact ⟨by decide, by decide⟩) (fun x hx => by rw [List.mem_singleton.1 hx]; decide))
  rw [stepA5] at HJ
  have K8 := hid ((hk8.trans kr).trans ko)
  clear hk8 kr ko hs8 BR BO BR'
  go_wp2_with fail
  refine HJ.out.mono ?_
  rintro e w9 ⟨u9, rfl, ho9, hk9⟩
  have hk79 := K8.out.trans hk9
  have M9 := hid (M7.out.still hk79)
  obtain ⟨_, t0, t1, _, _⟩ := R5b.out.kept hk79 id
  obtain ⟨_, s0, s1, _, _⟩ := R6b.out.kept hk79 id
  obtain ⟨p9, c9, rfl⟩ := slice_of ho9
  obtain ⟨g9, o9, rfl, hc9, y0, y1⟩ := ho9.tags.at (j := 0) rfl
  have HSt := hid (ngState_any w9 M9.out.neg)
  have HMi := hid (ngMine_any w9 M9.out.neg)
  rw [show mineF nA4 = [optA] from by kernel_rfl] at HMi
  rw [show nA4.au.st = 9 from rfl] at HSt
  clear ho9 hk9 hk79 HJ K8 M7 R5b R6b
  go_wp2_with (first
    | (go_at_call 22; refine HSt.out.mono ?_; rintro e w' ⟨rfl, hw⟩; rw [hw]; clear hw w'))
  refine HMi.out.mono ?_
  rintro e w10 ⟨u10, rfl, ho10, hk10⟩
  obtain ⟨p10, c10, rfl⟩ := slice_of ho10
  have y1' := (hk10.cell (p := ⟨g9, o9 + 0 * 2 + 1, none⟩) (lt_of_cell y1) id).trans y1
  have KF := hid (M9.out.kept.trans hk10)
  clear ho10 hk10
  go_wp2
  go_ret
  exact ⟨rfl, KF.out⟩
end Go.Proofs.YtodgkmjiiijfpaaGreat
