/- The contract of Net.Send, for every net, a nil one too. -/
import Derived.Test.YtegofkpiipomfaaNetPlain
import Derived.Deep.AppendLies
import Derived.Deep.RegionLaw
namespace Go.Proofs.Ytegofkpiipomfaa
open Go.RowKit

theorem send_nil (k i : Int) (x : ByteArray) (w : World) : Calls Try.prog 6 #[.pointer none, .agg #[.int .i64 k, .int .i64 i, .string x]] w fun e w' => e = .returned (.int .i64 1) ∧ Kept (fun _ => False) w w' := by
  go_enter Try.func6, Try.ntmps6
  go_wp2
  go_ret
  exact ⟨rfl, (Kept.refl _ w).alloc _⟩

theorem send_long (b : Nat) (k i : Int) (x : ByteArray) (hx : 1514 < x.size) (hx2 : x.size ≤ 140737488351232) (w : World) : Calls Try.prog 6 #[.pointer (some ⟨b, 0, none⟩), .agg #[.int .i64 k, .int .i64 i, .string x]] w fun e w' => e = .returned (.int .i64 2) ∧ Kept (fun _ => False) w w' := by
  go_enter Try.func6, Try.ntmps6
  go_wp2
  go_ret
  exact ⟨rfl, (Kept.refl _ w).alloc _⟩

/-- A net under way, and boxes of the call's own beside it. -/
def Mid (S : Nat → Prop) (w W : World) (b : Nat) (s : NetSt) (B : Nat → Prop) : Prop := ∃ S1, NetAt S1 W b s ∧ (∀ j, B j → ¬ S1 j ∧ w.heap.size ≤ j ∧ j < W.heap.size) ∧ (∀ j, S1 j → S j ∨ w.heap.size ≤ j) ∧ Kept S w W

section
variable {S B : Nat → Prop} {w W : World} {b : Nat} {s s' : NetSt}

theorem Mid.call {f : FuncId} {args : Array Value} {r : Ending} (h : Mid S w W b s B) (hc : ∀ S1, NetAt S1 W b s → Calls Try.prog f args W fun e w' => e = r ∧ Next S1 W w' b s') :
    Calls Try.prog f args W fun e w' => e = r ∧ Mid S w w' b s' B ∧ ∀ j, B j → w'.heap[j]? = W.heap[j]? := by
  obtain ⟨S1, h1, h2, h3, h4⟩ := h
  refine (hc S1 h1).mono ?_
  rintro e w' ⟨rfl, S2, h5, h6, h7⟩
  refine ⟨rfl, ⟨S2, h5, fun j hj => ⟨fun h => ?_, (h2 j hj).2.1, Nat.lt_of_lt_of_le (h2 j hj).2.2 h7.size⟩, fun j hj => ?_, h4.andThen h7 (fun j hj t => ?_)⟩, fun j hj => h7.block j (h2 j hj).2.2 (h2 j hj).1⟩
  · rcases h6 j h with h | h
    · exact (h2 j hj).1 h
    · have := (h2 j hj).2.2
      omega
  · rcases h6 j hj with h | h
    · exact h3 j h
    · exact Or.inr (Nat.le_trans h4.size h)
  · rcases h3 j t with h | h
    · exact h
    · omega

theorem Mid.kept {w' : World} (h : Mid S w W b s B) (hk : Kept (fun _ => False) W w') : Mid S w w' b s B ∧ ∀ j, B j → w'.heap[j]? = W.heap[j]? := by
  obtain ⟨S1, h1, h2, h3, h4⟩ := h
  exact ⟨⟨S1, h1.kept0 hk, fun j hj => ⟨(h2 j hj).1, (h2 j hj).2.1, Nat.lt_of_lt_of_le (h2 j hj).2.2 hk.size⟩, h3, h4.andThen hk (fun _ _ h => h.elim)⟩, fun j hj => hk.block j (h2 j hj).2.2 id⟩

theorem Mid.call0 {f : FuncId} {args : Array Value} {r : Ending} (h : Mid S w W b s B) (hc : ∀ S1, NetAt S1 W b s → Calls Try.prog f args W fun e w' => e = r ∧ Kept (fun _ => False) W w') :
    Calls Try.prog f args W fun e w' => e = r ∧ Mid S w w' b s B ∧ ∀ j, B j → w'.heap[j]? = W.heap[j]? := by
  obtain ⟨S1, h1, h2, h3, h4⟩ := h
  refine (hc S1 h1).mono ?_
  rintro e w' ⟨rfl, hk⟩
  exact ⟨rfl, Mid.kept ⟨S1, h1, h2, h3, h4⟩ hk⟩

theorem Mid.next (h : Mid S w W b s B) : Next S w W b s := by
  obtain ⟨S1, h1, _, h3, h4⟩ := h
  exact ⟨S1, h1, h3, h4⟩

theorem Mid.drew (h : Mid S w W b s B) : Mid S w W.drew b s B := (h.kept (Kept.refl _ W).drew).1

/-- A box of the call's own is written. -/
theorem Mid.box {a : Addr} (h : Mid S w W b s B) (ha : B a.block) (v : Value) : Mid S w (W.setCell a v) b s B := by
  obtain ⟨S1, h1, h2, h3, h4⟩ := h
  have hk : Kept (fun i => i = a.block) W (W.setCell a v) := (Kept.refl (fun i => i = a.block) W).setCell (Or.inr rfl) v
  refine ⟨S1, h1.kept hk (fun i hi e => (h2 _ ha).1 (e ▸ hi)), fun j hj => ⟨(h2 j hj).1, (h2 j hj).2.1, Nat.lt_of_lt_of_le (h2 j hj).2.2 hk.size⟩, h3, h4.andThen hk (fun i hi e => ?_)⟩
  have := (h2 _ ha).2.1
  omega

end

/-- The boxes of Send: the pair's and the datagram's. -/
def SBox (w : World) (pb gb : Nat) (k i : Int) (x : ByteArray) (t : Int) : Prop :=
  w.cell? ⟨pb, 0, none⟩ = some (.int .i64 k) ∧ w.cell? ⟨pb, 1, none⟩ = some (.int .i64 i) ∧ w.cell? ⟨gb, 0, none⟩ = some (.int .i64 k) ∧ w.cell? ⟨gb, 1, none⟩ = some (.int .i64 i) ∧ w.cell? ⟨gb, 2, none⟩ = some (.string x) ∧ w.cell? ⟨gb, 3, none⟩ = some (.int .i64 t) ∧ w.frozen? ⟨gb, 3, none⟩ = false

theorem SBox.same {w w' : World} {pb gb : Nat} {k i : Int} {x : ByteArray} {t : Int} (h : SBox w pb gb k i x t) (hp : w'.heap[pb]? = w.heap[pb]?) (hg : w'.heap[gb]? = w.heap[gb]?) : SBox w' pb gb k i x t :=
  ⟨(World.cell?_of_block hp).trans h.1, (World.cell?_of_block hp).trans h.2.1, (World.cell?_of_block hg).trans h.2.2.1, (World.cell?_of_block hg).trans h.2.2.2.1, (World.cell?_of_block hg).trans h.2.2.2.2.1, (World.cell?_of_block hg).trans h.2.2.2.2.2.1, (World.frozen?_of_block hg).trans h.2.2.2.2.2.2⟩

/-- The datagram's box has its number. -/
def Sent2 (S : Nat → Prop) (w W : World) (b : Nat) (s : NetSt) (gb : Nat) (k i : Int) (x : ByteArray) (t : Int) : Prop :=
  ∃ gv tm cm, NetIn W b gv tm cm s ∧ (∀ j, ofNet b gv tm cm j → S j ∨ w.heap.size ≤ j) ∧ Kept S w W ∧ ¬ ofNet b gv tm cm gb ∧ gb < W.heap.size ∧
    W.cell? ⟨gb, 0, none⟩ = some (.int .i64 k) ∧ W.cell? ⟨gb, 1, none⟩ = some (.int .i64 i) ∧ W.cell? ⟨gb, 2, none⟩ = some (.string x) ∧ W.cell? ⟨gb, 3, none⟩ = some (.int .i64 t)

theorem send_end {S : Nat → Prop} {w W w6 : World} {b : Nat} {gv : Value} {tm cm : Option Nat} {s : NetSt} {o : Obj} {g cap : Nat} (hN : NetIn W b gv tm cm s) (hS1 : ∀ j, ofNet b gv tm cm j → S j ∨ w.heap.size ≤ j) (hK : Kept S w W) (y : Gr) (hgrow : (W.alloc o).drew.grownBy w6 gv.ownBlock)
    (hown : w6.ownsRow 0 56 4 (.slice (some ⟨g, 0, none⟩) (s.grams.length + 1) cap) (s.grams.length + 1) (rowCells s.grams ++ grCells y)) (hg : gv.ownBlock = some g ∨ g = (W.alloc o).drew.heap.size) :
    Next S w (w6.setCell ⟨b, 0, none⟩ (.slice (some ⟨g, 0, none⟩) (s.grams.length + 1) cap)) b { s with grams := s.grams ++ [y] } := by
  have hown' : OwnG w6 0 (.slice (some ⟨g, 0, none⟩) (s.grams.length + 1) cap) (s.grams ++ [y]) := by
    unfold OwnG
    rw [rowCells_append, rowCells_one, List.length_append]
    exact hown
  have hk6 : Kept (fun i => gv.ownBlock = some i) (W.alloc o).drew w6 := (Kept.refl _ _).grown hgrow (fun j hj => Or.inr hj)
  have hr := (hN.alloc o).drew.rerow hk6 hown' (fun i hi => by
    cases hi
    rcases hg with h | h
    · exact Or.inl h
    · exact Or.inr (Nat.le_of_eq h.symm))
  refine ⟨_, ⟨_, _, _, hr, fun _ => Iff.rfl⟩, fun j hj => ?_, ?_⟩
  · rcases hj with hj | hj | hj | hj
    · exact hS1 j (Or.inl hj)
    · cases hj
      rcases hg with h | h
      · exact hS1 _ (Or.inr (Or.inl h))
      · have h1 := hK.size
        have h2 : (W.alloc o).drew.heap.size = W.heap.size + 1 := World.size_alloc ..
        exact Or.inr (by show w.heap.size ≤ g; omega)
    · exact hS1 j (Or.inr (Or.inr (Or.inl hj)))
    · exact hS1 j (Or.inr (Or.inr (Or.inr hj)))
  · refine Kept.setCell ?_ ((hS1 b (Or.inl rfl)).symm) _
    exact (hK.alloc o).drew.grown hgrow (fun j hj => (hS1 j (Or.inr (Or.inl hj))).symm)

/-- Send under way. -/
def Sending (S : Nat → Prop) (w W : World) (b : Nat) (s : NetSt) (pb gb : Nat) (k i : Int) (x : ByteArray) : Prop := Mid S w W b s (fun j => j = pb ∨ j = gb) ∧ SBox W pb gb k i x 0 ∧ pb ≠ gb

section
variable {S : Nat → Prop} {w W : World} {b : Nat} {s s' : NetSt} {pb gb : Nat} {k i : Int} {x : ByteArray}

theorem Sending.call {f : FuncId} {args : Array Value} {r : Ending} (h : Sending S w W b s pb gb k i x) (hc : ∀ S1, NetAt S1 W b s → Calls Try.prog f args W fun e w' => e = r ∧ Next S1 W w' b s') :
    Calls Try.prog f args W fun e w' => e = r ∧ Sending S w w' b s' pb gb k i x := by
  refine (h.1.call hc).mono ?_
  rintro e w' ⟨rfl, hm, hb⟩
  exact ⟨rfl, hm, h.2.1.same (hb pb (Or.inl rfl)) (hb gb (Or.inr rfl)), h.2.2⟩
theorem Sending.call0 {f : FuncId} {args : Array Value} {r : Ending} (h : Sending S w W b s pb gb k i x) (hc : ∀ S1, NetAt S1 W b s → Calls Try.prog f args W fun e w' => e = r ∧ Kept (fun _ => False) W w') :
    Calls Try.prog f args W fun e w' => e = r ∧ Sending S w w' b s pb gb k i x := by
  refine (h.1.call0 hc).mono ?_
  rintro e w' ⟨rfl, hm, hb⟩
  exact ⟨rfl, hm, h.2.1.same (hb pb (Or.inl rfl)) (hb gb (Or.inr rfl)), h.2.2⟩

set_option maxHeartbeats 2000000 in
set_option maxRecDepth 100000 in
theorem send_in (h : NetAt S w b s) (hG : Good s) (hroom : s.tals.length + 3 < 1000000) (hk : In64 k) (hi : In64 i) (hx : x.size ≤ 1514) :
    Calls Try.prog 6 #[.pointer (some ⟨b, 0, none⟩), .agg #[.int .i64 k, .int .i64 i, .string x]] w fun e w' => e = .returned (.int .i64 0) ∧ Next S w w' b (sendS s k i x) := by
  obtain ⟨sF, hF⟩ : ∃ sF, sF = sendS s k i x := ⟨_, rfl⟩
  rw [← hF]
  have HF := hid hF
  clear hF
  have H := hid h
  have HK := hid (⟨hk, hi, hG, hroom⟩ : In64 k ∧ In64 i ∧ Good s ∧ s.tals.length + 3 < 1000000)
  have hp := hid (fun W => pair_any ⟨k, i, x, 0⟩ W)
  have Hlt : Hid (∀ j, S j → j < w.heap.size) := fun j hj => h.lt hj
  clear h hG hroom hk hi
  unfold grV keyV at hp
  simp only at hp
  go_enter Try.func6, Try.ntmps6
  go_wp2_with (go_at_call 25; refine (hp.out _).mono ?_; rintro e w1 ⟨rfl, hk1⟩)
  have hlt := hk1.size
  simp only [World.size_alloc] at hlt
  have hk0 := (((Kept.refl (fun _ => False) w).alloc (.cells #[.int .i64 k, .int .i64 i, .string x] 39)).alloc (.cells #[.int .i64 k, .int .i64 i, .string x, .int .i64 0] 56)).trans hk1
  have hS0 : Hid (Sending S w (w1.alloc (.cells #[.int .i64 k, .int .i64 i] 48)) b s w1.heap.size (w.heap.size + 1) k i x) := by
    have hgb : (w1.alloc (.cells #[.int .i64 k, .int .i64 i] 48)).heap[w.heap.size + 1]? = some (.cells #[.int .i64 k, .int .i64 i, .string x, .int .i64 0] 56 (0, 0)) :=
      (((Kept.refl (fun _ => False) w1).alloc _).block (w.heap.size + 1) (by omega) id).trans ((hk1.block (w.heap.size + 1) (by simp) id).trans (by have := heap_alloc_new (w.alloc (.cells #[.int .i64 k, .int .i64 i, .string x] 39)) (.cells #[.int .i64 k, .int .i64 i, .string x, .int .i64 0] 56); rwa [World.size_alloc] at this))
    have hpb : (w1.alloc (.cells #[.int .i64 k, .int .i64 i] 48)).heap[w1.heap.size]? = some (.cells #[.int .i64 k, .int .i64 i] 48 (0, 0)) := heap_alloc_new w1 _
    refine ⟨⟨S, H.out.kept0 (hk0.alloc _), fun j hj => ?_, fun j hj => Or.inl hj, (hk0.alloc _).mono (fun _ _ h => h.elim)⟩, ?_, by omega⟩
    · rcases hj with rfl | rfl
      · exact ⟨fun h => by have := Hlt.out _ h; omega, by omega, by simp⟩
      · exact ⟨fun h => by have := Hlt.out _ h; omega, by omega, by simp; omega⟩
    · unfold SBox
      simp only [World.cell?, World.frozen?, hgb, hpb]
      simp
  clear hk0 hk1 hlt
  generalize w1.alloc (.cells #[.int .i64 k, .int .i64 i] 48) = W0 at *
  generalize w1.heap.size = pb at *
  generalize w.heap.size + 1 = gb at *
  obtain ⟨hk, hi, hG, hroom⟩ := HK.out
  have hG1 := hG.count k i (a := 1) (l := 0) ⟨by omega, by omega⟩ ⟨by omega, by omega⟩
  have hr1 := tals_count s k i 1 0
  have C1 := hid (hS0.out.call (fun S1 h => count_any h hk hi (hG.sent k i) (hG.lost k i) (a := 1) (l := 0) ⟨by omega, by omega⟩ ⟨by omega, by omega⟩ (by omega)))
  have C2 := hid (fun W (hS : Sending S w W b (countS s k i 1 0) pb gb k i x) => hS.call (fun S1 h => loseOld_any h hk hi (hG1.sent k i) (hG1.lost k i) hG1.ok (by omega)))
  have hG2 := hG1.lose k i
  have hr2 := tals_lose (countS s k i 1 0) k i
  unfold sendS at HF
  simp only at HF
  generalize loseS (countS s k i 1 0) k i = s2 at *
  have C3 := hid (fun W (hS : Sending S w W b s2 pb gb k i x) => hS.call0 (fun S1 h => isCut_any h hk hi))
  have C4 := hid (fun W (hS : Sending S w W b s2 pb gb k i x) => hS.call0 (fun S1 h => (isFull_any h).mono (fun e w' h => ⟨h.1, h.2 ▸ Kept.refl _ _⟩)))
  have C5 := hid (fun W (hS : Sending S w W b s2 pb gb k i x) => hS.call (fun S1 h => count_any h hk hi (hG2.sent k i) (hG2.lost k i) (a := 0) (l := 1) ⟨by omega, by omega⟩ ⟨by omega, by omega⟩ (by omega)))
  have HG2 := hid hG2
  clear hG hG1 hG2 hr1 hr2 hroom hS0 HK H
  unfold keyV at C1 C2 C3 C5
  generalize countS s k i 1 0 = s1 at *
  generalize countS s2 k i 0 1 = s3 at *
  generalize isCut s2.cuts k i = q1 at *
  generalize hq2 : decide (600 ≤ s2.grams.length) = q2 at *
  have Hq2 := hid hq2
  clear hq2
  refine C1.out.mono ?_
  rintro e w2 ⟨rfl, hS2⟩
  obtain ⟨p0, p1, -⟩ := hS2.2.1
  have HS2 := hid hS2
  clear hS2 C1
  go_wp2_with fail
  refine (C2.out _ HS2.out).mono ?_
  rintro e w3 ⟨rfl, hS3⟩
  clear p0 p1 HS2 C2
  obtain ⟨p0, p1, -⟩ := hS3.2.1
  have HS3 := hid hS3
  clear hS3
  go_wp2_with fail
  refine (C3.out _ HS3.out).mono ?_
  rintro e w4 ⟨rfl, hS4⟩
  clear p0 p1 HS3 C3
  obtain ⟨p0, p1, -⟩ := hS4.2.1
  have HS4 := hid hS4
  clear hS4
  cases q1 with
  | true =>
    rw [Bool.true_or, if_pos rfl] at HF
    go_wp2_with fail
    refine (C5.out _ HS4.out).mono ?_
    rintro e w5 ⟨rfl, hS5⟩
    have HS5 := hid hS5
    clear hS5 p0 p1
    go_wp2
    go_ret
    exact ⟨rfl, HF.out ▸ HS5.out.1.next⟩
  | false =>
    rw [Bool.false_or] at HF
    go_wp2_with fail
    refine (C4.out _ HS4.out).mono ?_
    rintro e w5 ⟨rfl, hS5⟩
    clear p0 p1 HS4 C4
    obtain ⟨p0, p1, -⟩ := hS5.2.1
    have HS5 := hid hS5
    clear hS5
    cases q2 with
    | true =>
      rw [if_pos rfl] at HF
      go_wp2_with fail
      refine (C5.out _ HS5.out).mono ?_
      rintro e w6 ⟨rfl, hS6⟩
      have HS6 := hid hS6
      clear hS6 p0 p1
      go_wp2
      go_ret
      exact ⟨rfl, HF.out ▸ HS6.out.1.next⟩
    | false =>
      rw [if_neg (by simp)] at HF
      clear C5 p0 p1
      obtain ⟨⟨S1, ⟨gv, tm, cm, hN, hSS⟩, hB, hS1, hKp⟩, hbx, hpg⟩ := HS5.out
      obtain ⟨p0, p1, g0, g1, g2, g3, gf⟩ := hbx
      have hN' : Hid (Sent2 S w (w5.setCell ⟨gb, 3, none⟩ (.int .i64 (sentS s2 k i))).drew b s2 gb k i x (sentS s2 k i)) := by
        have hk5 : Kept (fun i => i = gb) w5 (w5.setCell ⟨gb, 3, none⟩ (.int .i64 (sentS s2 k i))) := (Kept.refl (fun i => i = gb) w5).setCell (p := ⟨gb, 3, none⟩) (Or.inr rfl) _
        have hng : ¬ ofNet b gv tm cm gb := fun h => (hB gb (Or.inr rfl)).1 ((hSS gb).2 h)
        refine ⟨gv, tm, cm, (hN.kept hk5 (fun i hi e => hng (e ▸ hi))).drew, fun j hj => hS1 j ((hSS j).2 hj), (hKp.setCell (p := ⟨gb, 3, none⟩) (Or.inl (hB gb (Or.inr rfl)).2.1) _).drew, hng, ?_, ?_, ?_, ?_, ?_⟩
        · exact Nat.lt_of_lt_of_le (hB gb (Or.inr rfl)).2.2 hk5.size
        · exact (World.cell?_setCell_other _ _ _ _ (by simp)).trans g0
        · exact (World.cell?_setCell_other _ _ _ _ (by simp)).trans g1
        · exact (World.cell?_setCell_other _ _ _ _ (by simp)).trans g2
        · exact World.cell?_setCell_same _ _ _ g3
      have hl1 : Sem.run Try.prog (Instr.lookup 32 (.map tm) (.agg #[.int .i64 k, .int .i64 i]) false) w5.drew = _ := hN.drew.ts.look false hk hi
      simp only [Bool.false_eq_true, if_false] at hl1
      have es : sentOf (findT s2.tals k i) = sentS s2 k i := rfl
      have el : lostOf (findT s2.tals k i) = lostS s2 k i := rfl
      simp only [es, el] at hl1
      have hf := field0 (sentS s2 k i) (lostS s2 k i)
      have c1 := hN.c1
      clear es el hN hSS hB hS1 hKp hpg HS5 hk hi
      generalize lostS s2 k i = lo at *
      generalize sentS s2 k i = t at *
      go_upto_region 12 with fail
      go_cut [40] (fun _ wx => Sent2 S w wx b s2 gb k i x t)
      case first =>
        go_region
        all_goals (go_wp2; go_meet)
        all_goals exact hN'.out
      case rest =>
        clear hN' hl1 hf c1 p0 p1 g0 g1 g2 g3 gf
        obtain ⟨gv, tm, cm, hN, hS1, hKp, hng, hgl, g0, g1, g2, g3⟩ := hcut
        obtain ⟨p, c, rfl⟩ := slice_of_net hN
        obtain ⟨i0, hi0, hz0, hz1, hz2⟩ := info_parts infoGram
        have c0 := hN.c0
        have c0' := fun o => (hN.alloc o).c0
        have h600 : s2.grams.length < 600 := by have := Hq2.out; simpa using this
        have hlt := hN.lt (Or.inl rfl)
        have hbne : some b ≠ (Value.slice p s2.grams.length c).ownBlock := fun e => hN.ng e.symm
        have HN := hid hN
        have HKp := hid hKp
        have HS1 := hid hS1
        clear hN hKp hng hS1
        have k1 : ∀ o, (wc.alloc o).cell? ⟨gb, 0, none⟩ = some (.int .i64 k) := fun o => (((Kept.refl (fun _ => False) wc).alloc o).cell (p := ⟨gb, 0, none⟩) hgl id).trans g0
        have k2 : ∀ o, (wc.alloc o).cell? ⟨gb, 1, none⟩ = some (.int .i64 i) := fun o => (((Kept.refl (fun _ => False) wc).alloc o).cell (p := ⟨gb, 1, none⟩) hgl id).trans g1
        have k3 : ∀ o, (wc.alloc o).cell? ⟨gb, 2, none⟩ = some (.string x) := fun o => (((Kept.refl (fun _ => False) wc).alloc o).cell (p := ⟨gb, 2, none⟩) hgl id).trans g2
        have k4 : ∀ o, (wc.alloc o).cell? ⟨gb, 3, none⟩ = some (.int .i64 t) := fun o => (((Kept.refl (fun _ => False) wc).alloc o).cell (p := ⟨gb, 3, none⟩) hgl id).trans g3
        go_wp2
        go_region_law (refine step_append_lies _ rfl (.tmp 45) (.tmp 47) 31 rfl 0 56 i0 (.agg #[.int .i64 0, .int .i64 0, .string ⟨#[]⟩, .int .i64 0]) 4 40 Try.underlying31 hi0 hz0 hz1 hz2 rfl (by decide) _ s2.grams.length (rowCells s2.grams) rfl (HN.out.alloc _).drew.own ⟨wc.heap.size, 0, none⟩ 1 1 [.int .i64 k, .int .i64 i, .string x, .int .i64 t] rfl rfl (World.news_of_block (heap_alloc_new wc _)) (by intro u hu; simp at hu; rcases hu with rfl | rfl | rfl | rfl <;> rfl) (by decide) (by unfold maxLen; omega) (by omega) (Nat.zero_le _) _ rfl ?_; intro g cap w6 hown' hgrow hgg hgl'; have d0 := (hgrow.cell_far ⟨b, 0, none⟩ (by simp; omega) hbne).trans (c0' _); have f0 := (hgrow.frozen_far ⟨b, 0, none⟩ (by simp; omega) hbne).trans ((HN.out.alloc _).f 0))
        all_goals have fin := hid (send_end HN.out HS1.out HKp.out ⟨k, i, x, t⟩ hgrow hown' hgg)
        all_goals clear hgrow hown' hgg d0 f0 g0 g1 g2 g3 k1 k2 k3 k4 c0 c0'
        all_goals go_wp2
        all_goals go_ret
        all_goals exact ⟨rfl, HF.out ▸ fin.out⟩

/-- What Send answers, and what it makes. -/
theorem send_any (h : NetAt S w b s) (hG : Good s) (hroom : s.tals.length + 3 < 1000000) (hk : In64 k) (hi : In64 i) (hx : x.size ≤ 140737488351232) :
    Calls Try.prog 6 #[.pointer (some ⟨b, 0, none⟩), .agg #[.int .i64 k, .int .i64 i, .string x]] w fun e w' => e = .returned (.int .i64 (if 1514 < x.size then 2 else 0)) ∧ Next S w w' b (if 1514 < x.size then s else sendS s k i x) := by
  by_cases hl : 1514 < x.size
  · rw [if_pos hl, if_pos hl]
    refine (send_long b k i x hl hx w).mono ?_
    rintro e w' ⟨rfl, hk⟩
    exact ⟨rfl, h.next.still0 hk⟩
  · rw [if_neg hl, if_neg hl]
    exact send_in h hG hroom hk hi (by omega)

end
end Go.Proofs.Ytegofkpiipomfaa
