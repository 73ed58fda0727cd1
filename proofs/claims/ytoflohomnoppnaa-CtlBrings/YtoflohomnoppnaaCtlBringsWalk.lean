/- CtlBrings, walked: whatever is lost, doubled or comes in another order, what each end is told is a first part of what the other end was given. (Written by gen_ctlbrings.py.) -/
import Derived.Test.YtoflohomnoppnaaBrKit
import Derived.Test.YtoflohomnoppnaaCnArgN
namespace Go.Proofs.Ytoflohomnoppnaa
open Go.RowKit

/-- What is known between two rounds. -/
structure BrS (first window : Int) (w wr : World) (ad : Nat → Nat) (be bs bg bx at_ i : Nat) (col : Nat → Nat) (c : Nat → Cn) (p q vs vg vx : Nat → Value) (S G : Nat → List ByteArray) (W : Nat → List Ite) (a h : Nat → Nat) : Prop where
  e : BrE col w wr ad c p q vs vg vx S G W be bs bg bx
  inv : InvB first window c S G W a h
  few : ∀ k, k < 2 → (S k).length ≤ at_
  ways : ∀ k, k < 2 → (W k).length ≤ 100 * i
  at60 : at_ ≤ 60
def BrX (first window : Int) (w wr : World) (ad : Nat → Nat) (be bs bg bx at_ i : Nat) : Prop := ∃ col c p q vs vg vx S G W a h, BrS first window w wr ad be bs bg bx at_ i col c p q vs vg vx S G W a h
theorem half_new (window first : Int) (hf : 0 ≤ first ∧ first ≤ 65535) : Half first (newN window 40 10 3 first) (newN window 40 10 3 first) [] [] 0 0 := by
  have e : first = wrapN (first + ((0 : Nat) : Int)) := by unfold wrapN; omega
  exact ⟨rfl, e, e, rfl, Nat.le_refl _, Nat.le_refl _, Nat.le_refl _, fun x hx => by simp at hx⟩
def msg3 (j y : Nat) : ByteArray := ⟨#[109, UInt8.ofNat j, UInt8.ofNat y]⟩
theorem own_three (w : World) (u y : Nat) (hu : u < 256) (hy : y < 256) : (w.alloc (.cells #[.int .u8 109, .int .u8 (u : Int), .int .u8 (y : Int)] 5)).ownsRow 0 5 1 (.slice (some ⟨w.heap.size, 0, none⟩) 3 3) 3 (Lib.byteCells [109, UInt8.ofNat u, UInt8.ofNat y]) := by
  refine ⟨rfl, Or.inr ⟨w.heap.size, 3, _, rfl, Nat.zero_le _, heap_alloc_new w _, Nat.le_refl _, by unfold maxLen; omega, rfl, ?_⟩⟩
  simp [Lib.byteCells]
  omega
theorem conv_three (w : World) (u y : Nat) (hu : u < 256) (hy : y < 256) : (convert 50 9 (.slice (some ⟨w.heap.size, 0, none⟩) 3 3)).run Try.prog (w.alloc (.cells #[.int .u8 109, .int .u8 (u : Int), .int .u8 (y : Int)] 5)) = .ok (.string (msg3 u y)) (w.alloc (.cells #[.int .u8 109, .int .u8 (u : Int), .int .u8 (y : Int)] 5)) := put_conv (own_three w u y hu hy)
theorem flyN_few : ∀ (n : Nat) (c : Cn) (O : List Ite), (flyN n c O).2.length ≤ O.length + n
  | 0, c, O => Nat.le_refl _
  | n + 1, c, O => by
    unfold flyN
    split
    · show O.length ≤ _
      omega
    · rename_i x r _
      split
      · have := flyN_few n (launchN c x r) (O ++ [⟨c.next, c.come, x⟩])
        simp only [List.length_append, List.length_cons, List.length_nil] at this
        omega
      · show O.length ≤ _
        omega
theorem outN_few {c : Cn} (h : GoodN c) : (outN c).2.length ≤ 50 := by
  have h1 := h.waits.1
  have h2 := h.queue
  unfold outN
  split
  · simp
  · have h3 := flyN_few c.waits.length c (againN c)
    have h4 := againN_few c
    unfold ackOf
    split
    · simp
    · exact Nat.le_trans h3 (by omega)

def pairN (a b : Nat) : Nat → Nat := fun i => if i = 0 then a else b
def colB (a b be bs bg bx : Nat) : Nat → Nat := fun i => if i = a then 0 else if i = b then 1 else if i = be then 8 else if i = bs then 9 else if i = bg then 10 else if i = bx then 11 else 12
theorem br_start {window first : Int} (hok : newOkN window 40 10 3 first = true) {w wr : World} {a b be bs bg bx : Nat} (hA : CnIn wr a (newN window 40 10 3 first) (.slice none 0 0) (.slice none 0 0)) (hB : CnIn wr b (newN window 40 10 3 first) (.slice none 0 0) (.slice none 0 0))
    (ze : wr.heap[be]? = some (.cells #[.pointer (some ⟨a, 0, none⟩), .pointer (some ⟨b, 0, none⟩)] 44 (0, 0))) (zs : wr.heap[bs]? = some (.cells #[.slice none 0 0, .slice none 0 0] 45 (0, 0))) (zg : wr.heap[bg]? = some (.cells #[.slice none 0 0, .slice none 0 0] 45 (0, 0))) (zx : wr.heap[bx]? = some (.cells #[.slice none 0 0, .slice none 0 0] 48 (0, 0)))
    (la : w.heap.size ≤ a) (lab : a < b) (lbe : b < be) (les : be < bs) (lsg : bs < bg) (lgx : bg < bx) (hk : Kept (fun _ => False) w wr) : BrX first window w wr (pairN a b) be bs bg bx 0 0 := by
  have hg := good_newN hok
  have hf : 0 ≤ first ∧ first ≤ 65535 := by
    simp only [newOkN, Bool.and_eq_true, decide_eq_true_eq] at hok
    omega
  have hh := half_new window first hf
  have hw0 : WinQ window (newN window 40 10 3 first) := ⟨hg, rfl, by
    have := hg.win
    simp only [newN] at this ⊢
    simp
    omega⟩
  refine ⟨colB a b be bs bg bx, fun _ => newN window 40 10 3 first, fun _ => .slice none 0 0, fun _ => .slice none 0 0, fun _ => .slice none 0 0, fun _ => .slice none 0 0, fun _ => .slice none 0 0, fun _ => [], fun _ => [], fun _ => [], fun _ => 0, fun _ => 0, ⟨?_, fun _ _ => OwnG.nil _ _, fun _ _ => OwnG.nil _ _, fun _ _ => OwnG.nil _ _, ?_, fun _ _ i hi => (by cases hi), fun _ _ i hi => (by cases hi), fun _ _ i hi => (by cases hi), ze, zs, zg, zx, ?_, ?_, ?_, ?_, hk⟩, ⟨fun _ _ => hh, fun _ _ => hw0, fun _ _ x hx => by simp at hx⟩, fun _ _ => by simp, fun _ _ => by simp, by omega⟩
  · intro k h2
    rcases (by omega : k = 0 ∨ k = 1) with rfl | rfl
    · exact hA
    · exact hB
  · intro k h2 i hi
    rcases (by omega : k = 0 ∨ k = 1) with rfl | rfl
    · rcases hi with rfl | g | g
      · exact ⟨if_pos rfl, la⟩
      · cases g
      · cases g
    · rcases hi with rfl | g | g
      · refine ⟨?_, by omega⟩
        unfold colB
        rw [if_neg (by omega), if_pos rfl]
      · cases g
      · cases g
  · refine ⟨?_, by omega⟩
    unfold colB
    rw [if_neg (by omega), if_neg (by omega), if_pos rfl]
  · refine ⟨?_, by omega⟩
    unfold colB
    rw [if_neg (by omega), if_neg (by omega), if_neg (by omega), if_pos rfl]
  · refine ⟨?_, by omega⟩
    unfold colB
    rw [if_neg (by omega), if_neg (by omega), if_neg (by omega), if_neg (by omega), if_pos rfl]
  · refine ⟨?_, by omega⟩
    unfold colB
    rw [if_neg (by omega), if_neg (by omega), if_neg (by omega), if_neg (by omega), if_neg (by omega), if_pos rfl]

set_option maxHeartbeats 16000000 in
set_option maxRecDepth 100000 in
theorem ctlBrings_walk (window first : Int) (v2 : Value) (l2 : List Int) (v3 : Value) (l3 : List Int) (w : World) (_h0 : -9223372036854775808 ≤ window ∧ window ≤ 9223372036854775807) (_h1 : -9223372036854775808 ≤ first ∧ first ≤ 9223372036854775807) (hl2 : IntsAt w v2 l2) (_hi2 : ∀ x ∈ l2, -9223372036854775808 ≤ x ∧ x ≤ 9223372036854775807) (hl3 : IntsAt w v3 l3) (_hi3 : ∀ x ∈ l3, -9223372036854775808 ≤ x ∧ x ≤ 9223372036854775807) :
    Calls Try.prog 5 #[.int .i64 window, .int .i64 first, v2, v3] w fun e w' => e = .returned (.bool true) ∧ Below w.heap.size w w' := by
  have HA := hid (fun W => aliveN_any W)
  obtain ⟨p2, cap2, rfl, -⟩ := hl2.form
  obtain ⟨p3, cap3, rfl, -⟩ := hl3.form
  have HL2 := hid hl2
  have HL3 := hid hl3
  clear _h0 _h1 hl2 hl3 _hi2 _hi3
  by_cases b0 : window < 1
  · go_enter Try.func5, Try.ntmps5
    go_wp2_with fail
    refine (HA.out _).mono ?_
    rintro e w1 ⟨rfl, hk⟩
    have HK := hid hk
    clear hk HA
    go_wp2
    go_returns
    exact ⟨rfl, HK.out.below (Nat.le_refl _) (fun _ f => f.elim)⟩
  by_cases b1 : 8 < window
  · go_enter Try.func5, Try.ntmps5
    go_wp2_with fail
    refine (HA.out _).mono ?_
    rintro e w1 ⟨rfl, hk⟩
    have HK := hid hk
    clear hk HA
    go_wp2
    go_returns
    exact ⟨rfl, HK.out.below (Nat.le_refl _) (fun _ f => f.elim)⟩
  by_cases b2 : first < 0
  · go_enter Try.func5, Try.ntmps5
    go_wp2_with fail
    refine (HA.out _).mono ?_
    rintro e w1 ⟨rfl, hk⟩
    have HK := hid hk
    clear hk HA
    go_wp2
    go_returns
    exact ⟨rfl, HK.out.below (Nat.le_refl _) (fun _ f => f.elim)⟩
  by_cases b3 : 65535 < first
  · go_enter Try.func5, Try.ntmps5
    go_wp2_with fail
    refine (HA.out _).mono ?_
    rintro e w1 ⟨rfl, hk⟩
    have HK := hid hk
    clear hk HA
    go_wp2
    go_returns
    exact ⟨rfl, HK.out.below (Nat.le_refl _) (fun _ f => f.elim)⟩
  by_cases b4 : (60 : Int) < (l2.length : Int)
  · go_enter Try.func5, Try.ntmps5
    go_wp2_with fail
    refine (HA.out _).mono ?_
    rintro e w1 ⟨rfl, hk⟩
    have HK := hid hk
    clear hk HA
    go_wp2
    go_returns
    exact ⟨rfl, HK.out.below (Nat.le_refl _) (fun _ f => f.elim)⟩
  by_cases b5 : (400 : Int) < (l3.length : Int)
  · go_enter Try.func5, Try.ntmps5
    go_wp2_with fail
    refine (HA.out _).mono ?_
    rintro e w1 ⟨rfl, hk⟩
    have HK := hid hk
    clear hk HA
    go_wp2
    go_returns
    exact ⟨rfl, HK.out.below (Nat.le_refl _) (fun _ f => f.elim)⟩
  have hok : newOkN window 40 10 3 first = true := by
    simp only [newOkN, Bool.and_eq_true, decide_eq_true_eq]
    omega
  have HNew1 := hid (new_any window 40 10 3 first w)
  have HNew2 := hid (fun W => new_any window 40 10 3 first W)
  have HOK := hid hok
  have hn2 : l2.length ≤ 60 := by omega
  have hn3 : l3.length ≤ 400 := by omega
  clear hok
  go_enter Try.func5, Try.ntmps5
  go_wp2_with fail
  refine (HNew1.out).mono ?_
  rintro e w1 (⟨hb0, _⟩ | ⟨-, a, rfl, hcA, ha, hk1⟩)
  · exact absurd (hb0.symm.trans HOK.out) (by decide)
  go_wp2_with fail
  refine (HNew2.out w1).mono ?_
  rintro e w2 (⟨hb0, _⟩ | ⟨-, b, rfl, hcB, hb, hk2⟩)
  · exact absurd (hb0.symm.trans HOK.out) (by decide)
  have halt := hcA.blk.lt
  have hblt := hcB.blk.lt
  have HC := hid (And.intro hcA (And.intro hcB (And.intro hk1 hk2)))
  have HLT : Hid (w.heap.size ≤ a ∧ a < b ∧ b < w2.heap.size) := ⟨ha, by omega, hblt⟩
  clear hcA hcB hk1 hk2 ha hb halt hblt HNew1 HNew2
  have hbx : BrX first window w ((((w2.alloc (.cells #[.pointer (some ⟨a, 0, none⟩), .pointer (some ⟨b, 0, none⟩)] 44)).alloc (.cells #[.slice none 0 0, .slice none 0 0] 45)).alloc (.cells #[.slice none 0 0, .slice none 0 0] 45)).alloc (.cells #[.slice none 0 0, .slice none 0 0] 48)) (pairN a b) w2.heap.size (w2.heap.size + 1) (w2.heap.size + 1 + 1) (w2.heap.size + 1 + 1 + 1) 0 0 := by
    obtain ⟨hcA, hcB, hk1, hk2⟩ := HC.out
    obtain ⟨q1, q2, q3⟩ := HLT.out
    have z1 := heap_alloc_new w2 (.cells #[.pointer (some ⟨a, 0, none⟩), .pointer (some ⟨b, 0, none⟩)] 44)
    have k1 := (Kept.refl (fun _ => False) w2).alloc (.cells #[.pointer (some ⟨a, 0, none⟩), .pointer (some ⟨b, 0, none⟩)] 44)
    generalize hX1 : w2.alloc (.cells #[.pointer (some ⟨a, 0, none⟩), .pointer (some ⟨b, 0, none⟩)] 44) = X1 at *
    have s1 : X1.heap.size = w2.heap.size + 1 := by rw [← hX1]; simp
    have z2 := heap_alloc_new X1 (.cells #[.slice none 0 0, .slice none 0 0] 45)
    have k2 := (Kept.refl (fun _ => False) X1).alloc (.cells #[.slice none 0 0, .slice none 0 0] 45)
    generalize hX2 : X1.alloc (.cells #[.slice none 0 0, .slice none 0 0] 45) = X2 at *
    have s2 : X2.heap.size = w2.heap.size + 1 + 1 := by rw [← hX2, ← s1]; simp
    have z3 := heap_alloc_new X2 (.cells #[.slice none 0 0, .slice none 0 0] 45)
    have k3 := (Kept.refl (fun _ => False) X2).alloc (.cells #[.slice none 0 0, .slice none 0 0] 45)
    generalize hX3 : X2.alloc (.cells #[.slice none 0 0, .slice none 0 0] 45) = X3 at *
    have s3 : X3.heap.size = w2.heap.size + 1 + 1 + 1 := by rw [← hX3, ← s2]; simp
    have z4 := heap_alloc_new X3 (.cells #[.slice none 0 0, .slice none 0 0] 48)
    have k4 := (Kept.refl (fun _ => False) X3).alloc (.cells #[.slice none 0 0, .slice none 0 0] 48)
    generalize X3.alloc (.cells #[.slice none 0 0, .slice none 0 0] 48) = X4 at *
    rw [s1] at z2
    rw [s2] at z3
    rw [s3] at z4
    have k34 := k3.trans k4
    have k24 := k2.trans k34
    have k14 := k1.trans k24
    have g1 : X4.heap[w2.heap.size]? = X1.heap[w2.heap.size]? := k24.block _ (by omega) id
    have g2 : X4.heap[w2.heap.size + 1]? = X2.heap[w2.heap.size + 1]? := k34.block _ (by omega) id
    have g3 : X4.heap[w2.heap.size + 1 + 1]? = X3.heap[w2.heap.size + 1 + 1]? := k4.block _ (by omega) id
    exact br_start HOK.out (hcA.kept0 (hk2.trans k14)) (hcB.kept0 k14) (g1.trans z1) (g2.trans z2) (g3.trans z3) z4 q1 q2 q3 (by omega) (by omega) (by omega) (hk1.trans (hk2.trans k14))
  have HBX := hid hbx
  clear hbx HC
  go_upto_region 12 with fail
  generalize ((((w2.alloc (.cells #[.pointer (some ⟨a, 0, none⟩), .pointer (some ⟨b, 0, none⟩)] 44)).alloc (.cells #[.slice none 0 0, .slice none 0 0] 45)).alloc (.cells #[.slice none 0 0, .slice none 0 0] 45)).alloc (.cells #[.slice none 0 0, .slice none 0 0] 48)) = X at *
  generalize w2.heap.size + 1 + 1 + 1 = bx at *
  generalize w2.heap.size + 1 + 1 = bg at *
  generalize w2.heap.size + 1 = bs at *
  generalize w2.heap.size = be at *
  generalize pairN a b = ad at *
  clear HLT
  go_loopw [17, 18] (fun va vi wr => ∃ at_ i : Nat, i ≤ l3.length ∧ vi = .int .i64 (i : Int) ∧ va = .int .i64 (at_ : Int) ∧ at_ ≤ l2.length ∧ Hid (BrX first window w wr ad be bs bg bx at_ i)) (fun _ vi _ => l3.length - (intOf vi).toNat)
  case atStart => exact ⟨0, 0, Nat.zero_le _, rfl, rfl, Nat.zero_le _, HBX.out⟩
  case round =>
    obtain ⟨at_, i, hi, rfl, rfl, hat, HB⟩ := hrel
    clear HBX
    by_cases hlt : i < l3.length
    · have hltz : (i : Int) < (l3.length : Int) := by omega
      obtain ⟨col, c, p, q, vs, vg, vx, S, G, W, aa, hh, H0⟩ := HB.out
      have H := hid H0
      obtain ⟨P, hP⟩ : ∃ P, l3[i]? = some P := ⟨l3[i], by simp [hlt]⟩
      obtain ⟨p', cap', he, hc3⟩ := (HL3.out.kept H0.e.kept).form
      simp only [Value.slice.injEq] at he
      obtain ⟨rfl, -, rfl⟩ := he
      obtain ⟨g3, o3, rfl, hle3, hp3⟩ := hc3 i P hP
      obtain ⟨kz, hKe⟩ : ∃ kz : Nat, (P / 8) % 2 = (kz : Int) := ⟨((P / 8) % 2).toNat, by omega⟩
      obtain ⟨D, hDe⟩ : ∃ D : Nat, P % 8 = (D : Int) := ⟨(P % 8).toNat, by omega⟩
      have hkz : kz < 2 := by omega
      have hD : D < 8 := by omega
      have m1 : bits .and .i64 (P / 8) 1 = (kz : Int) := by rw [and_1, hKe]
      have m7 : bits .and .i64 P 7 = (D : Int) := by rw [and_7, hDe]
      have hKz : (kz : Int) < 2 := by omega
      have hK0 : (0 : Int) ≤ (kz : Int) := by omega
      have cE : wr.cell? ⟨be, kz, none⟩ = some (.pointer (some ⟨ad kz, 0, none⟩)) := by
        rw [blk_cell H0.e.ze kz]
        exact two_at (fun j => Value.pointer (some ⟨ad j, 0, none⟩)) hkz
      have hmE := hid (H0.e.m kz hkz)
      have hgE := hid (H0.inv.win kz hkz).good
      clear HB H0 hP hc3 hKe hDe
      have cX : wr.cell? ⟨bx, kz, none⟩ = some (vx kz) := by
        rw [blk_cell H.out.e.zx kz]
        exact two_at vx hkz
      obtain ⟨pk, ck, hvx⟩ := own_slice (H.out.e.x kz hkz)
      rw [hvx] at cX
      have HVX := hid hvx
      have HWl := hid (H.out.ways kz hkz)
      clear hvx
      by_cases hcont : 5 ≤ D ∧ W kz = []
      · have hz : (W kz).length = 0 := by rw [hcont.2]; rfl
        have HD5 := hid hcont.1
        rw [hz] at cX
        have hn0 : ((D : Int) == 0) = false := by rw [beq_eq_false_iff_ne]; have := HD5.out; omega
        have hn1 : ((D : Int) == 1) = false := by rw [beq_eq_false_iff_ne]; have := HD5.out; omega
        have hn2 : ((D : Int) == 2) = false := by rw [beq_eq_false_iff_ne]; have := HD5.out; omega
        have hn3 : ((D : Int) == 3) = false := by rw [beq_eq_false_iff_ne]; have := HD5.out; omega
        have hn4 : ((D : Int) == 4) = false := by rw [beq_eq_false_iff_ne]; have := HD5.out; omega
        have HF : Hid (BrX first window w wr ad be bs bg bx at_ (i + 1)) := ⟨_, _, _, _, _, _, _, _, _, _, _, _, H.out.e, H.out.inv, H.out.few, fun j hj => by have := H.out.ways j hj; omega, H.out.at60⟩
        clear hcont hz H
        go_wp2
        exact ⟨⟨at_, i + 1, hlt, by go_num, rfl, hat, HF⟩, by simp [intOf]; omega⟩
      · go_upto_block 2 with fail
        go_cut [17, 21, 22, 23] from 94 to 208 (fun va _ _ _ wx => ∃ at' : Nat, va = .int .i64 (at' : Int) ∧ at' ≤ l2.length ∧ Hid (BrX first window w wx ad be bs bg bx at' (i + 1)))
        case first =>
         by_cases hD5 : 5 ≤ D
         · as_aux_lemma =>
           have hW0 : ¬ W kz = [] := fun e => hcont ⟨hD5, e⟩
           obtain ⟨nw, hnw⟩ : ∃ nw : Nat, nw = (W kz).length := ⟨_, rfl⟩
           have HNW := hid hnw
           have hn : 0 < nw := by rw [hnw]; exact List.length_pos_iff.2 hW0
           rw [← hnw] at cX HVX HWl
           have HD5 := hid hD5
           have hn0 : ((D : Int) == 0) = false := by rw [beq_eq_false_iff_ne]; omega
           have hn1 : ((D : Int) == 1) = false := by rw [beq_eq_false_iff_ne]; omega
           have hn2 : ((D : Int) == 2) = false := by rw [beq_eq_false_iff_ne]; omega
           have hn3 : ((D : Int) == 3) = false := by rw [beq_eq_false_iff_ne]; omega
           have hn4 : ((D : Int) == 4) = false := by rw [beq_eq_false_iff_ne]; omega
           have hne0 : ((nw : Int) == 0) = false := by rw [beq_eq_false_iff_ne]; omega
           have hnez : ¬ (nw : Int) = 0 := by omega
           obtain ⟨M, hM⟩ : ∃ M : Nat, (P / 16) % 1024 = (M : Int) := ⟨((P / 16) % 1024).toNat, by omega⟩
           have m10 : bits .and .i64 (P / 16) 1023 = (M : Int) := by rw [and_1023, hM]
           obtain ⟨kk, hkk⟩ : ∃ kk : Nat, kk = M % nw := ⟨_, rfl⟩
           have hkl : kk < nw := by rw [hkk]; exact Nat.mod_lt _ hn
           have ht : Int.tmod (M : Int) (nw : Int) = (kk : Int) := by rw [hkk, Int.tmod_eq_emod_of_nonneg (by omega)]; rfl
           obtain ⟨x, hx⟩ : ∃ x, (W kz)[kk]? = some x := ⟨(W kz)[kk]'(by rw [← hnw]; exact hkl), by simp⟩
           have hklz : (kk : Int) < (nw : Int) := by omega
           have hOk := hid (H.out.inv.items kz hkz x (List.mem_of_getElem? hx))
           have hxK : OwnI wr w.heap.size (.slice pk nw ck) (W kz) := by
             have := H.out.e.x kz hkz
             rw [HVX.out] at this
             exact this
           obtain ⟨gx, rfl, hxc, x0, x1, x2⟩ := item_at hxK hx
           rw [Nat.add_zero] at x0
           have HXK := hid hxK
           obtain ⟨L3, hL3⟩ : ∃ L3 : Nat, (P / 16384) % 4 = (L3 : Int) := ⟨((P / 16384) % 4).toNat, by omega⟩
           have m14 : bits .and .i64 (P / 16384) 3 = (L3 : Int) := by rw [and_3, hL3]
           have ka := (Kept.refl (fun _ => False) wr).alloc (.cells #[.int .i64 x.ns, .int .i64 x.nr, .string x.body] 25)
           have KA := hid ka
           have BA := hid (IteB.new wr x)
           have HNL := hid hn
           have HKL := hid hkl
           clear hW0 hcont hD5 hM hkk hL3 hn hx hxK hnw
           go_upto_region 20 with fail
           generalize wr.alloc (.cells #[.int .i64 x.ns, .int .i64 x.nr, .string x.body] 25) = Y at *
           have HY := hid (H.out.e.kept0 KA.out)
           generalize hgb : wr.heap.size = gb at *
           clear hgb
           have cXY : Y.cell? ⟨bx, kz, none⟩ = some (.slice (some ⟨gx, 0, none⟩) nw ck) := (KA.out.cell (p := ⟨bx, kz, none⟩) (blk_lt H.out.e.zx) id).trans cX
           clear x0 x1 x2 cX cE
           obtain ⟨b7, hb7⟩ : ∃ b7 : Bool, b7 = ((D : Int) != 7) := ⟨_, rfl⟩
           have h7 := hb7.symm
           have HB7 := hid h7
           clear hb7
           go_upto_if 118 with fail
           clear h7
           go_cut [] from 119 to 137 (fun wx => Hid (∃ col c p q vs vg vx S G Z aa hh, BrS first window w wx ad be bs bg bx at_ (i + 1) col c p q vs vg vx S G Z aa hh ∧ ItemOk first (S kz) (aa kz + (c kz).flies.length) (hh (1 - kz)) x) ∧ Hid (IteB wx gb x))
           case first =>
             cases b7 with
             | false =>
               have HF : Hid (∃ col c p q vs vg vx S G Z aa hh, BrS first window w Y ad be bs bg bx at_ (i + 1) col c p q vs vg vx S G Z aa hh ∧ ItemOk first (S kz) (aa kz + (c kz).flies.length) (hh (1 - kz)) x) := ⟨_, _, _, _, _, _, _, _, _, _, _, _, ⟨HY.out, H.out.inv, H.out.few, fun j hj => by have := H.out.ways j hj; omega, H.out.at60⟩, hOk.out⟩
               clear cXY H HY hOk
               go_wp2
               go_meet
               exact ⟨HF, BA⟩
             | true =>
               have wk1 : IntKind.i64.wrap ((kk : Int) + 1) = (kk : Int) + 1 := by rw [IntKind.wrap_i64]; have := HWl.out; omega
               have hbnd := HWl.out
               have hkl := HKL.out
               have hnw := HNW.out
               have hcell : Hid (∀ U, Kept (fun _ => False) Y U → ∀ j, j < nw * 3 → U.cell? ⟨gx, j, none⟩ = (rowG encI (W kz))[j]?) := fun U hk => by
                 obtain ⟨g', cap', e', _, _, _, hc, _⟩ := ((HXK.out.kept0 KA.out).kept0 hk).lies (fun e => by rw [e] at hnw; simp at hnw; omega)
                 cases e'
                 rw [hnw]
                 exact hc
               have kd : Kept (fun _ => False) Y Y.drew := (Kept.refl _ Y).drew
               have htl : ((W kz).take kk).length = kk := by rw [List.length_take]; omega
               have hdl : ((W kz).drop (kk + 1)).length = nw - (kk + 1) := by rw [List.length_drop, hnw]
               obtain ⟨v2, w2, hrun2, hown2, hk2⟩ := (OwnG.nil (enc := encI) (k := 3) (e := 25) Y.drew Y.drew.heap.size).appendList tyI encI_ok (Nat.le_refl _) (some ⟨gx, 0, none⟩) ck ((W kz).take kk) (fun _ => ⟨_, rfl, fun j u hu => by
                 have hj := (List.getElem?_eq_some_iff.1 hu).1
                 rw [encI_ok.length, htl] at hj
                 rw [addr_add, hcell.out _ kd j (by omega), ← hu, ← encI_ok.take, List.getElem?_take_of_lt hj]⟩) (by rw [htl]; simp; omega)
               have hK2 : Kept (fun _ => False) Y.drew w2 := hk2.mono (fun j _ e => by cases e)
               obtain ⟨v3, w3, hrun3, hown3, hk3⟩ := hown2.appendList tyI encI_ok hK2.size (some ⟨gx, if ck = kk + 1 then 0 else (kk + 1) * 3, none⟩) (ck - (kk + 1)) ((W kz).drop (kk + 1)) (fun hne => ⟨_, rfl, fun j u hu => by
                 have hj := (List.getElem?_eq_some_iff.1 hu).1
                 rw [encI_ok.length, hdl] at hj
                 have hc0 : ¬ ck = kk + 1 := by omega
                 rw [if_neg hc0, Addr.add_lit, hcell.out _ (kd.trans hK2) _ (by omega), ← hu, ← encI_ok.drop, List.getElem?_drop]⟩) (by rw [List.nil_append, htl, hdl]; omega)
               have hlow : ∀ j, v2.ownBlock = some j → Y.heap.size ≤ j := fun j hj => (hown2.block hj).2.1
               have hK3 : Kept (fun _ => False) Y.drew w3 := hK2.andThen hk3 (fun j hj e => absurd (hlow j e) (by show ¬ Y.heap.size ≤ j; exact Nat.not_le.2 hj))
               rw [List.nil_append] at hown2 hown3
               have hown3' : OwnI w3 Y.drew.heap.size v3 ((W kz).take kk ++ (W kz).drop (kk + 1)) := hown3
               rw [htl] at hrun2
               rw [hdl] at hrun3
               obtain ⟨pa2, ca2, hp2⟩ := own_slice hown2
               subst hp2
               obtain ⟨pa3, ca3, hp3⟩ := own_slice hown3'
               subst hp3
               have hEd := HY.out.kept0 kd
               have hE3 := hEd.growX hkz (hown3'.mono HY.out.kept.size) (hK3.mono (fun _ _ f => f.elim)) (fun j hj => Or.inr (hown3'.block hj).2.1)
               have hzx3 := (hK3.block _ (blk_lt hEd.zx) id).trans hEd.zx
               have fx : w3.frozen? ⟨bx, kz, none⟩ = false := frozen_of_row w3 bx kz _ _ hzx3
               have ex : w3.cell? ⟨bx, kz, none⟩ = some (.slice (some ⟨gx, 0, none⟩) nw ck) := (hK3.cell (p := ⟨bx, kz, none⟩) (blk_lt hEd.zx) id).trans ((kd.cell (p := ⟨bx, kz, none⟩) (blk_lt HY.out.zx) id).trans cXY)
               have hqx : ∀ U, Kept (fun _ => False) Y U → U.cell? ⟨bx, kz, none⟩ = some (.slice (some ⟨gx, 0, none⟩) nw ck) := fun U hk => (hk.cell (p := ⟨bx, kz, none⟩) (blk_lt HY.out.zx) id).trans cXY
               have hlen3 : ((W kz).take kk ++ (W kz).drop (kk + 1)).length ≤ nw := by rw [List.length_append, htl, hdl]; omega
               have hInv3 := H.out.inv.lose (k := kz) (L := (W kz).take kk ++ (W kz).drop (kk + 1)) (fun y hy => (List.mem_append.1 hy).elim (fun g => List.mem_of_mem_take g) (fun g => List.mem_of_mem_drop g))
               have hways : ∀ j, j < 2 → (upd W kz ((W kz).take kk ++ (W kz).drop (kk + 1)) j).length ≤ 100 * (i + 1) := fun j hj => by
                 by_cases e : j = kz
                 · rw [e, upd_at]
                   omega
                 · rw [upd_far _ _ e]
                   have := H.out.ways j hj
                   omega
               have hBS := BrS.mk hE3 hInv3 H.out.few hways H.out.at60
               have HF : Hid (∃ col c p q vs vg vx S G Z aa hh, BrS first window w (w3.setCell ⟨bx, kz, none⟩ (.slice pa3 ((W kz).take kk ++ (W kz).drop (kk + 1)).length ca3)) ad be bs bg bx at_ (i + 1) col c p q vs vg vx S G Z aa hh ∧ ItemOk first (S kz) (aa kz + (c kz).flies.length) (hh (1 - kz)) x) := by
                 refine ⟨_, _, _, _, _, _, _, _, _, _, _, _, hBS, ?_⟩
                 exact hOk.out
               clear hInv3 hways hBS
               have hgbx : gb ≠ bx := fun e => by
                 have h1 := (show Y.heap[gb]? = _ from BA.out)
                 rw [e] at h1
                 have h2 := h1.symm.trans HY.out.zx
                 simp at h2
               have HB3 : Hid (IteB (w3.setCell ⟨bx, kz, none⟩ (.slice pa3 ((W kz).take kk ++ (W kz).drop (kk + 1)).length ca3)) gb x) := ((BA.out.kept kd id).kept hK3 id).kept (S := fun j => j = bx) ((Kept.refl (fun j => j = bx) w3).setCell (p := ⟨bx, kz, none⟩) (Or.inr rfl) _) hgbx
               have hb1 : kk ≤ ck := by omega
               have hb2 : (kk : Int) ≤ (kk : Int) + 1 := by omega
               have hb3 : (kk : Int) + 1 ≤ (nw : Int) := by omega
               have hb4 : (0 : Int) ≤ (kk : Int) + 1 := by omega
               have hb5 : ((kk : Int) + 1).toNat = kk + 1 := by omega
               have hb6 : kk + 1 ≤ nw := hkl
               have hS1 : Kept (fun _ => False) Y w2 := kd.trans hK2
               have hS2 : Kept (fun _ => False) Y w3 := kd.trans hK3
               have hS0 : Kept (fun _ => False) Y Y.drew := kd
               clear hown2 hown3 hown3' hk2 hk3 hlow hcell hE3 hEd hzx3 hgbx hK2 hK3 kd hlen3 hbnd cXY
               rw [htl] at hrun2 hrun3
               generalize ((W kz).take kk ++ (W kz).drop (kk + 1)).length = n3 at *
               clear hnw
               clear htl hdl
               go_upto_region 21 with fail
               by_cases hcap0 : ck = kk + 1
               · rw [if_pos hcap0] at hrun3
                 subst hcap0
                 rw [Nat.sub_self] at hrun3
                 refine wp_region_but (S := Kept (fun _ => False) Y) 18 (by kernel_rfl) (hS0) (fun hSd => ?_)
                 refine wpAnyB_take (i := 0) (v := ?_) rfl (by kernel_rfl) (by kernel_rfl) (by kernel_rfl) (by kernel_rfl) (by kernel_rfl) (fun _ _ _ h => h) (Or.inl ⟨by kernel_rfl, fun W hSW => by go_simp; try with_reducible rfl⟩) (by assumption) ?_
                 try simp only [List.getElem_toArray]
                 try simp only [List.getElem_cons_succ]
                 try simp only [List.getElem_cons_zero]
                 try simp only [Act.put]
                 try simp only [List.setIfInBounds_toArray]
                 try simp only [List.set_cons_succ]
                 try simp only [List.set_cons_zero]
                 refine wpAnyB_take (i := 1) (v := ?_) rfl (by kernel_rfl) (by kernel_rfl) (by kernel_rfl) (by kernel_rfl) (by kernel_rfl) (fun _ _ _ h => h) (Or.inl ⟨by kernel_rfl, fun W hSW => by go_simp; try with_reducible rfl⟩) (by assumption) ?_
                 try simp only [List.getElem_toArray]
                 try simp only [List.getElem_cons_succ]
                 try simp only [List.getElem_cons_zero]
                 try simp only [Act.put]
                 try simp only [List.setIfInBounds_toArray]
                 try simp only [List.set_cons_succ]
                 try simp only [List.set_cons_zero]
                 refine wpAnyB_take (i := 2) (v := ?_) rfl (by kernel_rfl) (by kernel_rfl) (by kernel_rfl) (by kernel_rfl) (by kernel_rfl) (fun _ _ _ h => h) (Or.inl ⟨by kernel_rfl, fun W hSW => by go_simp; try with_reducible rfl⟩) (by assumption) ?_
                 try simp only [List.getElem_toArray]
                 try simp only [List.getElem_cons_succ]
                 try simp only [List.getElem_cons_zero]
                 try simp only [Act.put]
                 try simp only [List.setIfInBounds_toArray]
                 try simp only [List.set_cons_succ]
                 try simp only [List.set_cons_zero]
                 refine wpAnyB_take (i := 3) (v := ?_) rfl (by kernel_rfl) (by kernel_rfl) (by kernel_rfl) (by kernel_rfl) (by kernel_rfl) (fun _ _ _ h => h) (Or.inl ⟨by kernel_rfl, fun W hSW => by go_simp; try with_reducible rfl⟩) (by assumption) ?_
                 try simp only [List.getElem_toArray]
                 try simp only [List.getElem_cons_succ]
                 try simp only [List.getElem_cons_zero]
                 try simp only [Act.put]
                 try simp only [List.setIfInBounds_toArray]
                 try simp only [List.set_cons_succ]
                 try simp only [List.set_cons_zero]
                 refine wpAnyB_take (i := 4) (v := ?_) rfl (by kernel_rfl) (by kernel_rfl) (by kernel_rfl) (by kernel_rfl) (by kernel_rfl) (fun _ _ _ h => h) (Or.inl ⟨by kernel_rfl, fun W hSW => by go_simp; try with_reducible rfl⟩) (by assumption) ?_
                 try simp only [List.getElem_toArray]
                 try simp only [List.getElem_cons_succ]
                 try simp only [List.getElem_cons_zero]
                 try simp only [Act.put]
                 try simp only [List.setIfInBounds_toArray]
                 try simp only [List.set_cons_succ]
                 try simp only [List.set_cons_zero]
                 refine wpAnyB_take (i := 5) (v := ?_) rfl (by kernel_rfl) (by kernel_rfl) (by kernel_rfl) (by kernel_rfl) (by kernel_rfl) (fun _ _ _ h => h) (Or.inl ⟨by kernel_rfl, fun W hSW => by go_simp; try with_reducible rfl⟩) (by assumption) ?_
                 try simp only [List.getElem_toArray]
                 try simp only [List.getElem_cons_succ]
                 try simp only [List.getElem_cons_zero]
                 try simp only [Act.put]
                 try simp only [List.setIfInBounds_toArray]
                 try simp only [List.set_cons_succ]
                 try simp only [List.set_cons_zero]
                 refine wpAnyB_take (i := 6) (v := (.slice (some ⟨gx, 0, none⟩) kk (kk + 1))) rfl (by kernel_rfl) (by kernel_rfl) (by kernel_rfl) (by kernel_rfl) (by kernel_rfl) (fun _ _ _ h => h) (Or.inl ⟨by kernel_rfl, fun W hSW => by go_simp; try with_reducible rfl⟩) (by assumption) ?_
                 try simp only [List.getElem_toArray]
                 try simp only [List.getElem_cons_succ]
                 try simp only [List.getElem_cons_zero]
                 try simp only [Act.put]
                 try simp only [List.setIfInBounds_toArray]
                 try simp only [List.set_cons_succ]
                 try simp only [List.set_cons_zero]
                 refine wpAnyB_take (i := 8) (v := ?_) rfl (by kernel_rfl) (by kernel_rfl) (by kernel_rfl) (by kernel_rfl) (by kernel_rfl) (fun _ _ _ h => h) (Or.inl ⟨by kernel_rfl, fun W hSW => by go_simp; try with_reducible rfl⟩) (by assumption) ?_
                 try simp only [List.getElem_toArray]
                 try simp only [List.getElem_cons_succ]
                 try simp only [List.getElem_cons_zero]
                 try simp only [Act.put]
                 try simp only [List.setIfInBounds_toArray]
                 try simp only [List.set_cons_succ]
                 try simp only [List.set_cons_zero]
                 refine wpAnyB_take (i := 9) (v := ?_) rfl (by kernel_rfl) (by kernel_rfl) (by kernel_rfl) (by kernel_rfl) (by kernel_rfl) (fun _ _ _ h => h) (Or.inl ⟨by kernel_rfl, fun W hSW => by go_simp; try with_reducible rfl⟩) (by assumption) ?_
                 try simp only [List.getElem_toArray]
                 try simp only [List.getElem_cons_succ]
                 try simp only [List.getElem_cons_zero]
                 try simp only [Act.put]
                 try simp only [List.setIfInBounds_toArray]
                 try simp only [List.set_cons_succ]
                 try simp only [List.set_cons_zero]
                 refine wpAnyB_take (i := 10) (v := ?_) rfl (by kernel_rfl) (by kernel_rfl) (by kernel_rfl) (by kernel_rfl) (by kernel_rfl) (fun _ _ _ h => h) (Or.inl ⟨by kernel_rfl, fun W hSW => by go_simp; try with_reducible rfl⟩) (by assumption) ?_
                 try simp only [List.getElem_toArray]
                 try simp only [List.getElem_cons_succ]
                 try simp only [List.getElem_cons_zero]
                 try simp only [Act.put]
                 try simp only [List.setIfInBounds_toArray]
                 try simp only [List.set_cons_succ]
                 try simp only [List.set_cons_zero]
                 refine wpAnyB_take (i := 11) (v := ?_) rfl (by kernel_rfl) (by kernel_rfl) (by kernel_rfl) (by kernel_rfl) (by kernel_rfl) (fun _ _ _ h => h) (Or.inl ⟨by kernel_rfl, fun W hSW => by go_simp; try with_reducible rfl⟩) (by assumption) ?_
                 try simp only [List.getElem_toArray]
                 try simp only [List.getElem_cons_succ]
                 try simp only [List.getElem_cons_zero]
                 try simp only [Act.put]
                 try simp only [List.setIfInBounds_toArray]
                 try simp only [List.set_cons_succ]
                 try simp only [List.set_cons_zero]
                 refine wpAnyB_take (i := 12) (v := ?_) rfl (by kernel_rfl) (by kernel_rfl) (by kernel_rfl) (by kernel_rfl) (by kernel_rfl) (fun _ _ _ h => h) (Or.inl ⟨by kernel_rfl, fun W hSW => by go_simp; try with_reducible rfl⟩) (by assumption) ?_
                 try simp only [List.getElem_toArray]
                 try simp only [List.getElem_cons_succ]
                 try simp only [List.getElem_cons_zero]
                 try simp only [Act.put]
                 try simp only [List.setIfInBounds_toArray]
                 try simp only [List.set_cons_succ]
                 try simp only [List.set_cons_zero]
                 refine wpAnyB_take (i := 13) (v := ?_) rfl (by kernel_rfl) (by kernel_rfl) (by kernel_rfl) (by kernel_rfl) (by kernel_rfl) (fun _ _ _ h => h) (Or.inl ⟨by kernel_rfl, fun W hSW => by go_simp; try with_reducible rfl⟩) (by assumption) ?_
                 try simp only [List.getElem_toArray]
                 try simp only [List.getElem_cons_succ]
                 try simp only [List.getElem_cons_zero]
                 try simp only [Act.put]
                 try simp only [List.setIfInBounds_toArray]
                 try simp only [List.set_cons_succ]
                 try simp only [List.set_cons_zero]
                 refine wpAnyB_take (i := 14) (v := (.slice (some ⟨gx, 0, none⟩) (nw - (kk + 1)) 0)) rfl (by kernel_rfl) (by kernel_rfl) (by kernel_rfl) (by kernel_rfl) (by kernel_rfl) (fun _ _ _ h => h) (Or.inl ⟨by kernel_rfl, fun W hSW => by go_simp; try with_reducible rfl⟩) (by assumption) ?_
                 try simp only [List.getElem_toArray]
                 try simp only [List.getElem_cons_succ]
                 try simp only [List.getElem_cons_zero]
                 try simp only [Act.put]
                 try simp only [List.setIfInBounds_toArray]
                 try simp only [List.set_cons_succ]
                 try simp only [List.set_cons_zero]
                 refine wpAnyB_ready (rs := [7]) (by kernel_rfl) (by simp) ?_
                 refine AllReadyB.cons rfl (fun K hK => ?_) AllReadyB.nil
                 refine stepG_append rfl (.const (.slice none 0 0)) (.tmp 125) 37 rfl (.slice none 0 0) (.slice (some ⟨gx, 0, none⟩) kk (kk + 1)) rfl rfl (hrun2 _) ?_
                 refine hK.out _ _ (hS1) (fun _ => ?_)
                 clear hK K
                 try simp only [List.getElem_toArray]
                 try simp only [List.getElem_cons_succ]
                 try simp only [List.getElem_cons_zero]
                 try simp only [Act.put]
                 try simp only [List.setIfInBounds_toArray]
                 try simp only [List.set_cons_succ]
                 try simp only [List.set_cons_zero]
                 refine wpAnyB_ready (rs := [15]) (by kernel_rfl) (by simp) ?_
                 refine AllReadyB.cons rfl (fun K hK => ?_) AllReadyB.nil
                 refine stepG_append rfl (.tmp 126) (.tmp 133) 37 rfl (.slice pa2 kk ca2) (.slice (some ⟨gx, 0, none⟩) (nw - (kk + 1)) 0) rfl rfl (hrun3 _) ?_
                 refine hK.out _ _ (hS2) (fun _ => ?_)
                 clear hK K
                 try simp only [List.getElem_toArray]
                 try simp only [List.getElem_cons_succ]
                 try simp only [List.getElem_cons_zero]
                 try simp only [Act.put]
                 try simp only [List.setIfInBounds_toArray]
                 try simp only [List.set_cons_succ]
                 try simp only [List.set_cons_zero]
                 refine wpAnyB_take (i := 16) (v := ?_) rfl (by kernel_rfl) (by kernel_rfl) (by kernel_rfl) (by kernel_rfl) (by kernel_rfl) (fun _ _ _ h => h) (Or.inl ⟨by kernel_rfl, fun W hSW => by go_simp; try with_reducible rfl⟩) (by assumption) ?_
                 try simp only [List.getElem_toArray]
                 try simp only [List.getElem_cons_succ]
                 try simp only [List.getElem_cons_zero]
                 try simp only [Act.put]
                 try simp only [List.setIfInBounds_toArray]
                 try simp only [List.set_cons_succ]
                 try simp only [List.set_cons_zero]
                 refine wpAnyB_take (i := 17) (v := ?_) rfl (by kernel_rfl) (by kernel_rfl) (by kernel_rfl) (by kernel_rfl) (by kernel_rfl) (fun _ _ _ h => h) (Or.inl ⟨by kernel_rfl, fun W hSW => by go_simp; try with_reducible rfl⟩) (by assumption) ?_
                 try simp only [List.getElem_toArray]
                 try simp only [List.getElem_cons_succ]
                 try simp only [List.getElem_cons_zero]
                 try simp only [Act.put]
                 try simp only [List.setIfInBounds_toArray]
                 try simp only [List.set_cons_succ]
                 try simp only [List.set_cons_zero]
                 refine wpAnyB_ready (rs := [18]) (by kernel_rfl) (by simp) ?_
                 refine AllReadyB.end rfl (fun K hK => ?_)
                 go_simp
                 refine hK.out _ _ (trivial) (fun _ => ?_)
                 clear hK K
                 try simp only [List.getElem_toArray]
                 try simp only [List.getElem_cons_succ]
                 try simp only [List.getElem_cons_zero]
                 try simp only [Act.put]
                 try simp only [List.setIfInBounds_toArray]
                 try simp only [List.set_cons_succ]
                 try simp only [List.set_cons_zero]
                 refine wpAnyB_done (by kernel_rfl) ?_ _
                 clear hrun2 hrun3 hS0 hS1 hS2 fx ex hqx H HY hOk
                 go_wp2
                 go_meet
                 exact ⟨HF, HB3⟩
               · rw [if_neg hcap0] at hrun3
                 refine wp_region_but (S := Kept (fun _ => False) Y) 18 (by kernel_rfl) (hS0) (fun hSd => ?_)
                 refine wpAnyB_take (i := 0) (v := ?_) rfl (by kernel_rfl) (by kernel_rfl) (by kernel_rfl) (by kernel_rfl) (by kernel_rfl) (fun _ _ _ h => h) (Or.inl ⟨by kernel_rfl, fun W hSW => by go_simp; try with_reducible rfl⟩) (by assumption) ?_
                 try simp only [List.getElem_toArray]
                 try simp only [List.getElem_cons_succ]
                 try simp only [List.getElem_cons_zero]
                 try simp only [Act.put]
                 try simp only [List.setIfInBounds_toArray]
                 try simp only [List.set_cons_succ]
                 try simp only [List.set_cons_zero]
                 refine wpAnyB_take (i := 1) (v := ?_) rfl (by kernel_rfl) (by kernel_rfl) (by kernel_rfl) (by kernel_rfl) (by kernel_rfl) (fun _ _ _ h => h) (Or.inl ⟨by kernel_rfl, fun W hSW => by go_simp; try with_reducible rfl⟩) (by assumption) ?_
                 try simp only [List.getElem_toArray]
                 try simp only [List.getElem_cons_succ]
                 try simp only [List.getElem_cons_zero]
                 try simp only [Act.put]
                 try simp only [List.setIfInBounds_toArray]
                 try simp only [List.set_cons_succ]
                 try simp only [List.set_cons_zero]
                 refine wpAnyB_take (i := 2) (v := ?_) rfl (by kernel_rfl) (by kernel_rfl) (by kernel_rfl) (by kernel_rfl) (by kernel_rfl) (fun _ _ _ h => h) (Or.inl ⟨by kernel_rfl, fun W hSW => by go_simp; try with_reducible rfl⟩) (by assumption) ?_
                 try simp only [List.getElem_toArray]
                 try simp only [List.getElem_cons_succ]
                 try simp only [List.getElem_cons_zero]
                 try simp only [Act.put]
                 try simp only [List.setIfInBounds_toArray]
                 try simp only [List.set_cons_succ]
                 try simp only [List.set_cons_zero]
                 refine wpAnyB_take (i := 3) (v := ?_) rfl (by kernel_rfl) (by kernel_rfl) (by kernel_rfl) (by kernel_rfl) (by kernel_rfl) (fun _ _ _ h => h) (Or.inl ⟨by kernel_rfl, fun W hSW => by go_simp; try with_reducible rfl⟩) (by assumption) ?_
                 try simp only [List.getElem_toArray]
                 try simp only [List.getElem_cons_succ]
                 try simp only [List.getElem_cons_zero]
                 try simp only [Act.put]
                 try simp only [List.setIfInBounds_toArray]
                 try simp only [List.set_cons_succ]
                 try simp only [List.set_cons_zero]
                 refine wpAnyB_take (i := 4) (v := ?_) rfl (by kernel_rfl) (by kernel_rfl) (by kernel_rfl) (by kernel_rfl) (by kernel_rfl) (fun _ _ _ h => h) (Or.inl ⟨by kernel_rfl, fun W hSW => by go_simp; try with_reducible rfl⟩) (by assumption) ?_
                 try simp only [List.getElem_toArray]
                 try simp only [List.getElem_cons_succ]
                 try simp only [List.getElem_cons_zero]
                 try simp only [Act.put]
                 try simp only [List.setIfInBounds_toArray]
                 try simp only [List.set_cons_succ]
                 try simp only [List.set_cons_zero]
                 refine wpAnyB_take (i := 5) (v := ?_) rfl (by kernel_rfl) (by kernel_rfl) (by kernel_rfl) (by kernel_rfl) (by kernel_rfl) (fun _ _ _ h => h) (Or.inl ⟨by kernel_rfl, fun W hSW => by go_simp; try with_reducible rfl⟩) (by assumption) ?_
                 try simp only [List.getElem_toArray]
                 try simp only [List.getElem_cons_succ]
                 try simp only [List.getElem_cons_zero]
                 try simp only [Act.put]
                 try simp only [List.setIfInBounds_toArray]
                 try simp only [List.set_cons_succ]
                 try simp only [List.set_cons_zero]
                 refine wpAnyB_take (i := 6) (v := (.slice (some ⟨gx, 0, none⟩) kk ck)) rfl (by kernel_rfl) (by kernel_rfl) (by kernel_rfl) (by kernel_rfl) (by kernel_rfl) (fun _ _ _ h => h) (Or.inl ⟨by kernel_rfl, fun W hSW => by go_simp; try with_reducible rfl⟩) (by assumption) ?_
                 try simp only [List.getElem_toArray]
                 try simp only [List.getElem_cons_succ]
                 try simp only [List.getElem_cons_zero]
                 try simp only [Act.put]
                 try simp only [List.setIfInBounds_toArray]
                 try simp only [List.set_cons_succ]
                 try simp only [List.set_cons_zero]
                 refine wpAnyB_take (i := 8) (v := ?_) rfl (by kernel_rfl) (by kernel_rfl) (by kernel_rfl) (by kernel_rfl) (by kernel_rfl) (fun _ _ _ h => h) (Or.inl ⟨by kernel_rfl, fun W hSW => by go_simp; try with_reducible rfl⟩) (by assumption) ?_
                 try simp only [List.getElem_toArray]
                 try simp only [List.getElem_cons_succ]
                 try simp only [List.getElem_cons_zero]
                 try simp only [Act.put]
                 try simp only [List.setIfInBounds_toArray]
                 try simp only [List.set_cons_succ]
                 try simp only [List.set_cons_zero]
                 refine wpAnyB_take (i := 9) (v := ?_) rfl (by kernel_rfl) (by kernel_rfl) (by kernel_rfl) (by kernel_rfl) (by kernel_rfl) (fun _ _ _ h => h) (Or.inl ⟨by kernel_rfl, fun W hSW => by go_simp; try with_reducible rfl⟩) (by assumption) ?_
                 try simp only [List.getElem_toArray]
                 try simp only [List.getElem_cons_succ]
                 try simp only [List.getElem_cons_zero]
                 try simp only [Act.put]
                 try simp only [List.setIfInBounds_toArray]
                 try simp only [List.set_cons_succ]
                 try simp only [List.set_cons_zero]
                 refine wpAnyB_take (i := 10) (v := ?_) rfl (by kernel_rfl) (by kernel_rfl) (by kernel_rfl) (by kernel_rfl) (by kernel_rfl) (fun _ _ _ h => h) (Or.inl ⟨by kernel_rfl, fun W hSW => by go_simp; try with_reducible rfl⟩) (by assumption) ?_
                 try simp only [List.getElem_toArray]
                 try simp only [List.getElem_cons_succ]
                 try simp only [List.getElem_cons_zero]
                 try simp only [Act.put]
                 try simp only [List.setIfInBounds_toArray]
                 try simp only [List.set_cons_succ]
                 try simp only [List.set_cons_zero]
                 refine wpAnyB_take (i := 11) (v := ?_) rfl (by kernel_rfl) (by kernel_rfl) (by kernel_rfl) (by kernel_rfl) (by kernel_rfl) (fun _ _ _ h => h) (Or.inl ⟨by kernel_rfl, fun W hSW => by go_simp; try with_reducible rfl⟩) (by assumption) ?_
                 try simp only [List.getElem_toArray]
                 try simp only [List.getElem_cons_succ]
                 try simp only [List.getElem_cons_zero]
                 try simp only [Act.put]
                 try simp only [List.setIfInBounds_toArray]
                 try simp only [List.set_cons_succ]
                 try simp only [List.set_cons_zero]
                 refine wpAnyB_take (i := 12) (v := ?_) rfl (by kernel_rfl) (by kernel_rfl) (by kernel_rfl) (by kernel_rfl) (by kernel_rfl) (fun _ _ _ h => h) (Or.inl ⟨by kernel_rfl, fun W hSW => by go_simp; try with_reducible rfl⟩) (by assumption) ?_
                 try simp only [List.getElem_toArray]
                 try simp only [List.getElem_cons_succ]
                 try simp only [List.getElem_cons_zero]
                 try simp only [Act.put]
                 try simp only [List.setIfInBounds_toArray]
                 try simp only [List.set_cons_succ]
                 try simp only [List.set_cons_zero]
                 refine wpAnyB_take (i := 13) (v := ?_) rfl (by kernel_rfl) (by kernel_rfl) (by kernel_rfl) (by kernel_rfl) (by kernel_rfl) (fun _ _ _ h => h) (Or.inl ⟨by kernel_rfl, fun W hSW => by go_simp; try with_reducible rfl⟩) (by assumption) ?_
                 try simp only [List.getElem_toArray]
                 try simp only [List.getElem_cons_succ]
                 try simp only [List.getElem_cons_zero]
                 try simp only [Act.put]
                 try simp only [List.setIfInBounds_toArray]
                 try simp only [List.set_cons_succ]
                 try simp only [List.set_cons_zero]
                 refine wpAnyB_take (i := 14) (v := (.slice (some ⟨gx, (kk + 1) * 3, none⟩) (nw - (kk + 1)) (ck - (kk + 1)))) rfl (by kernel_rfl) (by kernel_rfl) (by kernel_rfl) (by kernel_rfl) (by kernel_rfl) (fun _ _ _ h => h) (Or.inl ⟨by kernel_rfl, fun W hSW => by go_simp; try with_reducible rfl⟩) (by assumption) ?_
                 try simp only [List.getElem_toArray]
                 try simp only [List.getElem_cons_succ]
                 try simp only [List.getElem_cons_zero]
                 try simp only [Act.put]
                 try simp only [List.setIfInBounds_toArray]
                 try simp only [List.set_cons_succ]
                 try simp only [List.set_cons_zero]
                 refine wpAnyB_ready (rs := [7]) (by kernel_rfl) (by simp) ?_
                 refine AllReadyB.cons rfl (fun K hK => ?_) AllReadyB.nil
                 refine stepG_append rfl (.const (.slice none 0 0)) (.tmp 125) 37 rfl (.slice none 0 0) (.slice (some ⟨gx, 0, none⟩) kk ck) rfl rfl (hrun2 _) ?_
                 refine hK.out _ _ (hS1) (fun _ => ?_)
                 clear hK K
                 try simp only [List.getElem_toArray]
                 try simp only [List.getElem_cons_succ]
                 try simp only [List.getElem_cons_zero]
                 try simp only [Act.put]
                 try simp only [List.setIfInBounds_toArray]
                 try simp only [List.set_cons_succ]
                 try simp only [List.set_cons_zero]
                 refine wpAnyB_ready (rs := [15]) (by kernel_rfl) (by simp) ?_
                 refine AllReadyB.cons rfl (fun K hK => ?_) AllReadyB.nil
                 refine stepG_append rfl (.tmp 126) (.tmp 133) 37 rfl (.slice pa2 kk ca2) (.slice (some ⟨gx, (kk + 1) * 3, none⟩) (nw - (kk + 1)) (ck - (kk + 1))) rfl rfl (hrun3 _) ?_
                 refine hK.out _ _ (hS2) (fun _ => ?_)
                 clear hK K
                 try simp only [List.getElem_toArray]
                 try simp only [List.getElem_cons_succ]
                 try simp only [List.getElem_cons_zero]
                 try simp only [Act.put]
                 try simp only [List.setIfInBounds_toArray]
                 try simp only [List.set_cons_succ]
                 try simp only [List.set_cons_zero]
                 refine wpAnyB_take (i := 16) (v := ?_) rfl (by kernel_rfl) (by kernel_rfl) (by kernel_rfl) (by kernel_rfl) (by kernel_rfl) (fun _ _ _ h => h) (Or.inl ⟨by kernel_rfl, fun W hSW => by go_simp; try with_reducible rfl⟩) (by assumption) ?_
                 try simp only [List.getElem_toArray]
                 try simp only [List.getElem_cons_succ]
                 try simp only [List.getElem_cons_zero]
                 try simp only [Act.put]
                 try simp only [List.setIfInBounds_toArray]
                 try simp only [List.set_cons_succ]
                 try simp only [List.set_cons_zero]
                 refine wpAnyB_take (i := 17) (v := ?_) rfl (by kernel_rfl) (by kernel_rfl) (by kernel_rfl) (by kernel_rfl) (by kernel_rfl) (fun _ _ _ h => h) (Or.inl ⟨by kernel_rfl, fun W hSW => by go_simp; try with_reducible rfl⟩) (by assumption) ?_
                 try simp only [List.getElem_toArray]
                 try simp only [List.getElem_cons_succ]
                 try simp only [List.getElem_cons_zero]
                 try simp only [Act.put]
                 try simp only [List.setIfInBounds_toArray]
                 try simp only [List.set_cons_succ]
                 try simp only [List.set_cons_zero]
                 refine wpAnyB_ready (rs := [18]) (by kernel_rfl) (by simp) ?_
                 refine AllReadyB.end rfl (fun K hK => ?_)
                 go_simp
                 refine hK.out _ _ (trivial) (fun _ => ?_)
                 clear hK K
                 try simp only [List.getElem_toArray]
                 try simp only [List.getElem_cons_succ]
                 try simp only [List.getElem_cons_zero]
                 try simp only [Act.put]
                 try simp only [List.setIfInBounds_toArray]
                 try simp only [List.set_cons_succ]
                 try simp only [List.set_cons_zero]
                 refine wpAnyB_done (by kernel_rfl) ?_ _
                 clear hrun2 hrun3 hS0 hS1 hS2 fx ex hqx H HY hOk
                 go_wp2
                 go_meet
                 exact ⟨HF, HB3⟩
           obtain ⟨HYS, HXB⟩ := hcut
           clear H HY hmE hgE HVX HWl HXK HNW hOk BA KA HNL HKL HB7 cXY
           obtain ⟨col, c, p, q, vs, vg, vx, S, G, Z, aa, hh, hS0, hItm⟩ := HYS.out
           have HS := hid hS0
           have HItm := hid hItm
           clear HYS hS0 hItm
           by_cases hL0 : L3 = 0
           · have hl3 : ((L3 : Int) != 0) = false := by rw [hL0]; rfl
             have HF : Hid (BrX first window w wc ad be bs bg bx at_ (i + 1)) := ⟨_, _, _, _, _, _, _, _, _, _, _, _, HS.out⟩
             clear hL0 HS HItm
             go_wp2
             go_meet
             exact ⟨at_, rfl, hat, HF⟩
           · have hl3 : ((L3 : Int) != 0) = true := by rw [bne_iff_ne]; omega
             obtain ⟨O, hO⟩ : ∃ O : Nat, O = 1 - kz := ⟨_, rfl⟩
             have wO : IntKind.i64.wrap (1 - (kz : Int)) = (O : Int) := by rw [IntKind.wrap_i64]; omega
             have hO2 : O < 2 := by omega
             have hOz : (O : Int) < 2 := by omega
             have hO0 : (0 : Int) ≤ (O : Int) := by omega
             obtain ⟨pg, cg, hvg⟩ := own_slice (HS.out.e.g O hO2)
             have hgr : OwnS wc w.heap.size (.slice pg (G O).length cg) (G O) := by
               have := HS.out.e.g O hO2
               rw [hvg] at this
               exact this
             have zg : wc.cell? ⟨bg, O, none⟩ = some (.slice pg (G O).length cg) := by
               rw [blk_cell HS.out.e.zg O, ← hvg]
               exact two_at vg hO2
             have ze : wc.cell? ⟨be, O, none⟩ = some (.pointer (some ⟨ad O, 0, none⟩)) := by
               rw [blk_cell HS.out.e.ze O]
               exact two_at (fun j => Value.pointer (some ⟨ad j, 0, none⟩)) hO2
             have nb : ∀ {b e : Nat}, col b = e → e ≠ O → e ≠ 4 + O → ¬ (Sn (ad O) (p O) (q O) b ∨ (vg O).ownBlock = some b) := fun {b e} h3 h4 h5 g => by
               rcases g with g | g
               · have := (HS.out.e.cm O hO2 b g).1
                 omega
               · have := HS.out.e.cg O hO2 b g
                 omega
             have ng : ¬ (Sn (ad O) (p O) (q O) gb ∨ (vg O).ownBlock = some gb) := fun g => by
               rcases g with g | g
               · exact (HS.out.e.m O hO2).unlikeB HXB.out g
               · obtain ⟨⟨cur, hg⟩, _⟩ := (HS.out.e.g O hO2).block g
                 have h2 := hg.symm.trans (show wc.heap[gb]? = _ from HXB.out)
                 simp at h2
             have hqg : ∀ U, Kept (fun j => Sn (ad O) (p O) (q O) j ∨ (vg O).ownBlock = some j) wc U → U.cell? ⟨bg, O, none⟩ = some (.slice pg (G O).length cg) := fun U hk => (hk.cell (p := ⟨bg, O, none⟩) (blk_lt HS.out.e.zg) (nb HS.out.e.kg.1 (by omega) (by omega))).trans zg
             have hqe : ∀ U, Kept (fun j => Sn (ad O) (p O) (q O) j ∨ (vg O).ownBlock = some j) wc U → U.cell? ⟨be, O, none⟩ = some (.pointer (some ⟨ad O, 0, none⟩)) := fun U hk => (hk.cell (p := ⟨be, O, none⟩) (blk_lt HS.out.e.ze) (nb HS.out.e.ke.1 (by omega) (by omega))).trans ze
             have y0 : ∀ U, Kept (fun j => Sn (ad O) (p O) (q O) j ∨ (vg O).ownBlock = some j) wc U → U.cell? ⟨gb, 0, none⟩ = some (.int .i64 x.ns) := fun U hk => (HXB.out.kept hk ng).c0
             have y1 : ∀ U, Kept (fun j => Sn (ad O) (p O) (q O) j ∨ (vg O).ownBlock = some j) wc U → U.cell? ⟨gb, 1, none⟩ = some (.int .i64 x.nr) := fun U hk => (HXB.out.kept hk ng).c1
             have y2 : ∀ U, Kept (fun j => Sn (ad O) (p O) (q O) j ∨ (vg O).ownBlock = some j) wc U → U.cell? ⟨gb, 2, none⟩ = some (.string x.body) := fun U hk => (HXB.out.kept hk ng).c2
             have hdr : Kept (fun _ => False) wc wc.drew := (Kept.refl _ wc).drew
             have hS0 : Kept (fun j => Sn (ad O) (p O) (q O) j ∨ (vg O).ownBlock = some j) wc wc.drew := hdr.mono (fun _ _ f => f.elim)
             have hEd := HS.out.e.kept0 hdr
             have hTk := take_any (hEd.m O hO2) (HS.out.inv.win O hO2).good x
             have hTf : (takeN (c O) x).2.length ≤ 1 := by
               unfold takeN
               split
               · simp
               · split
                 · simp
                 · split <;> simp
             obtain ⟨a2, h2, hInv⟩ := HS.out.inv.take hkz (fun j hj => Nat.le_trans (HS.out.few j hj) HS.out.at60) HItm.out
             rw [← hO] at hInv
             clear hO
             obtain ⟨TK, hTK⟩ : ∃ TK, TK = takeN (c O) x := ⟨_, rfl⟩
             rw [← hTK] at hTk hTf hInv
             clear hTK
             obtain ⟨B6, L6⟩ := TK
             dsimp only at hTk hTf hInv
             unfold iteV at hTk
             have HTk := hid hTk
             have HInv := hid hInv
             have hGl : (G O).length ≤ 60 := by
               have h1 := (HS.out.inv.told (show 1 - O < 2 by omega)).1
               rw [show 1 - (1 - O) = O by omega] at h1
               have := HS.out.few (1 - O) (by omega)
               have := HS.out.at60
               omega
             have HVG := hid hvg
             clear hTk hInv hL0 zg ze hvg
             go_upto_region 23 with fail
             refine wp_region_but (S := Kept (fun j => Sn (ad O) (p O) (q O) j ∨ (vg O).ownBlock = some j) wc) 14 (by kernel_rfl) (hS0) (fun hSd => ?_)
             refine wpAnyB_take (i := 0) (v := ?_) rfl (by kernel_rfl) (by kernel_rfl) (by kernel_rfl) (by kernel_rfl) (by kernel_rfl) (fun _ _ _ h => h) (Or.inl ⟨by kernel_rfl, fun W hSW => by go_simp; try with_reducible rfl⟩) (by assumption) ?_
             try simp only [List.getElem_toArray]
             try simp only [List.getElem_cons_succ]
             try simp only [List.getElem_cons_zero]
             try simp only [Act.put]
             try simp only [List.setIfInBounds_toArray]
             try simp only [List.set_cons_succ]
             try simp only [List.set_cons_zero]
             refine wpAnyB_take (i := 1) (v := ?_) rfl (by kernel_rfl) (by kernel_rfl) (by kernel_rfl) (by kernel_rfl) (by kernel_rfl) (fun _ _ _ h => h) (Or.inl ⟨by kernel_rfl, fun W hSW => by go_simp; try with_reducible rfl⟩) (by assumption) ?_
             try simp only [List.getElem_toArray]
             try simp only [List.getElem_cons_succ]
             try simp only [List.getElem_cons_zero]
             try simp only [Act.put]
             try simp only [List.setIfInBounds_toArray]
             try simp only [List.set_cons_succ]
             try simp only [List.set_cons_zero]
             refine wpAnyB_take (i := 2) (v := ?_) rfl (by kernel_rfl) (by kernel_rfl) (by kernel_rfl) (by kernel_rfl) (by kernel_rfl) (fun _ _ _ h => h) (Or.inl ⟨by kernel_rfl, fun W hSW => by go_simp; try with_reducible rfl⟩) (by assumption) ?_
             try simp only [List.getElem_toArray]
             try simp only [List.getElem_cons_succ]
             try simp only [List.getElem_cons_zero]
             try simp only [Act.put]
             try simp only [List.setIfInBounds_toArray]
             try simp only [List.set_cons_succ]
             try simp only [List.set_cons_zero]
             refine wpAnyB_take (i := 3) (v := ?_) rfl (by kernel_rfl) (by kernel_rfl) (by kernel_rfl) (by kernel_rfl) (by kernel_rfl) (fun _ _ _ h => h) (Or.inl ⟨by kernel_rfl, fun W hSW => by go_simp; try with_reducible rfl⟩) (by assumption) ?_
             try simp only [List.getElem_toArray]
             try simp only [List.getElem_cons_succ]
             try simp only [List.getElem_cons_zero]
             try simp only [Act.put]
             try simp only [List.setIfInBounds_toArray]
             try simp only [List.set_cons_succ]
             try simp only [List.set_cons_zero]
             refine wpAnyB_take (i := 4) (v := ?_) rfl (by kernel_rfl) (by kernel_rfl) (by kernel_rfl) (by kernel_rfl) (by kernel_rfl) (fun _ _ _ h => h) (Or.inl ⟨by kernel_rfl, fun W hSW => by go_simp; try with_reducible rfl⟩) (by assumption) ?_
             try simp only [List.getElem_toArray]
             try simp only [List.getElem_cons_succ]
             try simp only [List.getElem_cons_zero]
             try simp only [Act.put]
             try simp only [List.setIfInBounds_toArray]
             try simp only [List.set_cons_succ]
             try simp only [List.set_cons_zero]
             refine wpAnyB_take (i := 5) (v := ?_) rfl (by kernel_rfl) (by kernel_rfl) (by kernel_rfl) (by kernel_rfl) (by kernel_rfl) (fun _ _ _ h => h) (Or.inl ⟨by kernel_rfl, fun W hSW => by go_simp; try with_reducible rfl⟩) (by assumption) ?_
             try simp only [List.getElem_toArray]
             try simp only [List.getElem_cons_succ]
             try simp only [List.getElem_cons_zero]
             try simp only [Act.put]
             try simp only [List.setIfInBounds_toArray]
             try simp only [List.set_cons_succ]
             try simp only [List.set_cons_zero]
             refine wpAnyB_take (i := 6) (v := ?_) rfl (by kernel_rfl) (by kernel_rfl) (by kernel_rfl) (by kernel_rfl) (by kernel_rfl) (fun _ _ _ h => h) (Or.inl ⟨by kernel_rfl, fun W hSW => by go_simp; try with_reducible rfl⟩) (by assumption) ?_
             try simp only [List.getElem_toArray]
             try simp only [List.getElem_cons_succ]
             try simp only [List.getElem_cons_zero]
             try simp only [Act.put]
             try simp only [List.setIfInBounds_toArray]
             try simp only [List.set_cons_succ]
             try simp only [List.set_cons_zero]
             refine wpAnyB_take (i := 7) (v := ?_) rfl (by kernel_rfl) (by kernel_rfl) (by kernel_rfl) (by kernel_rfl) (by kernel_rfl) (fun _ _ _ h => h) (Or.inl ⟨by kernel_rfl, fun W hSW => by go_simp; try with_reducible rfl⟩) (by assumption) ?_
             try simp only [List.getElem_toArray]
             try simp only [List.getElem_cons_succ]
             try simp only [List.getElem_cons_zero]
             try simp only [Act.put]
             try simp only [List.setIfInBounds_toArray]
             try simp only [List.set_cons_succ]
             try simp only [List.set_cons_zero]
             refine wpAnyB_take (i := 8) (v := ?_) rfl (by kernel_rfl) (by kernel_rfl) (by kernel_rfl) (by kernel_rfl) (by kernel_rfl) (fun _ _ _ h => h) (Or.inl ⟨by kernel_rfl, fun W hSW => by go_simp; try with_reducible rfl⟩) (by assumption) ?_
             try simp only [List.getElem_toArray]
             try simp only [List.getElem_cons_succ]
             try simp only [List.getElem_cons_zero]
             try simp only [Act.put]
             try simp only [List.setIfInBounds_toArray]
             try simp only [List.set_cons_succ]
             try simp only [List.set_cons_zero]
             refine wpAnyB_take (i := 9) (v := ?_) rfl (by kernel_rfl) (by kernel_rfl) (by kernel_rfl) (by kernel_rfl) (by kernel_rfl) (fun _ _ _ h => h) (Or.inl ⟨by kernel_rfl, fun W hSW => by go_simp; try with_reducible rfl⟩) (by assumption) ?_
             try simp only [List.getElem_toArray]
             try simp only [List.getElem_cons_succ]
             try simp only [List.getElem_cons_zero]
             try simp only [Act.put]
             try simp only [List.setIfInBounds_toArray]
             try simp only [List.set_cons_succ]
             try simp only [List.set_cons_zero]
             refine wpAnyB_take (i := 10) (v := ?_) rfl (by kernel_rfl) (by kernel_rfl) (by kernel_rfl) (by kernel_rfl) (by kernel_rfl) (fun _ _ _ h => h) (Or.inl ⟨by kernel_rfl, fun W hSW => by go_simp; try with_reducible rfl⟩) (by assumption) ?_
             try simp only [List.getElem_toArray]
             try simp only [List.getElem_cons_succ]
             try simp only [List.getElem_cons_zero]
             try simp only [Act.put]
             try simp only [List.setIfInBounds_toArray]
             try simp only [List.set_cons_succ]
             try simp only [List.set_cons_zero]
             refine wpAnyB_ready (rs := [11]) (by kernel_rfl) (by simp) ?_
             refine AllReadyB.cons rfl (fun K hK => ?_) AllReadyB.nil
             go_simp
             refine (HTk.out).mono ?_
             rintro e w6 ⟨vo, pa6, qa6, rfl, hn6, ho6, -⟩
             have hE6 := hEd.call hO2 hn6
             obtain ⟨po, co, hvo⟩ := own_slice ho6
             subst hvo
             have hg6 : OwnS w6 w.heap.size (.slice pg (G O).length cg) (G O) := by
               have := hE6.g O hO2
               rw [HVG.out] at this
               exact this
             obtain ⟨v7, w7, happ, ho7, hk7, hn7⟩ := push_list tyS encS_ok hg6 hE6.kept.size ho6 (by omega)
             obtain ⟨p7, c7, hv7⟩ := own_slice ho7
             subst hv7
             have hE7 := hE6.growG hO2 ho7 (by rw [HVG.out]; exact hk7) (by rw [HVG.out]; exact hn7)
             have hb6 : Kept (fun j => Sn (ad O) (p O) (q O) j ∨ (vg O).ownBlock = some j) wc w6 := hS0.andThen hn6.kept (fun j _ g => Or.inl g)
             have hb7 : Kept (fun j => Sn (ad O) (p O) (q O) j ∨ (vg O).ownBlock = some j) wc w7 := hb6.andThen hk7 (fun j hj g => Or.inr (by rw [HVG.out]; exact g))
             have fx : w7.frozen? ⟨bg, O, none⟩ = false := frozen_of_row w7 bg O _ _ ((hk7.block _ (blk_lt hE6.zg) (fun g => by have h1 := hE6.cg O hO2 bg (by rw [HVG.out]; exact g); have h2 := hE6.kg.1; omega)).trans hE6.zg)
             have ex : w7.cell? ⟨bg, O, none⟩ = some (.slice pg (G O).length cg) := hqg w7 hb7
             have hrun : ∀ ty, (Builtin.append_ #[29, 29] ty #[.slice pg (G O).length cg, .slice po L6.length co]).run Try.prog w6 = .ok (.slice p7 (G O ++ L6).length c7) w7 := happ
             have hBS := BrS.mk hE7 HInv.out HS.out.few HS.out.ways HS.out.at60
             have HF : Hid (BrX first window w (w7.setCell ⟨bg, O, none⟩ (.slice p7 (G O ++ L6).length c7)) ad be bs bg bx at_ (i + 1)) := ⟨_, _, _, _, _, _, _, _, _, _, _, _, hBS⟩
             generalize (G O ++ L6).length = n7 at *
             generalize (G O).length = ng0 at *
             generalize L6.length = nl at *
             clear happ ho7 hk7 hn7 hg6 hn6 ho6 hE6 hE7 hBS
             refine hK.out _ _ (hb6) (fun _ => ?_)
             clear hK K
             try simp only [List.getElem_toArray]
             try simp only [List.getElem_cons_succ]
             try simp only [List.getElem_cons_zero]
             try simp only [Act.put]
             try simp only [List.setIfInBounds_toArray]
             try simp only [List.set_cons_succ]
             try simp only [List.set_cons_zero]
             refine wpAnyB_ready (rs := [12]) (by kernel_rfl) (by simp) ?_
             refine AllReadyB.cons rfl (fun K hK => ?_) AllReadyB.nil
             refine stepG_append rfl (.tmp 146) (.tmp 152) 29 rfl (.slice pg ng0 cg) (.slice po nl co) rfl rfl (hrun _) ?_
             refine hK.out _ _ (hb7) (fun _ => ?_)
             clear hK K
             try simp only [List.getElem_toArray]
             try simp only [List.getElem_cons_succ]
             try simp only [List.getElem_cons_zero]
             try simp only [Act.put]
             try simp only [List.setIfInBounds_toArray]
             try simp only [List.set_cons_succ]
             try simp only [List.set_cons_zero]
             refine wpAnyB_take (i := 13) (v := ?_) rfl (by kernel_rfl) (by kernel_rfl) (by kernel_rfl) (by kernel_rfl) (by kernel_rfl) (fun _ _ _ h => h) (Or.inl ⟨by kernel_rfl, fun W hSW => by go_simp; try with_reducible rfl⟩) (by assumption) ?_
             try simp only [List.getElem_toArray]
             try simp only [List.getElem_cons_succ]
             try simp only [List.getElem_cons_zero]
             try simp only [Act.put]
             try simp only [List.setIfInBounds_toArray]
             try simp only [List.set_cons_succ]
             try simp only [List.set_cons_zero]
             refine wpAnyB_ready (rs := [14]) (by kernel_rfl) (by simp) ?_
             refine AllReadyB.end rfl (fun K hK => ?_)
             go_simp
             refine hK.out _ _ (trivial) (fun _ => ?_)
             clear hK K
             try simp only [List.getElem_toArray]
             try simp only [List.getElem_cons_succ]
             try simp only [List.getElem_cons_zero]
             try simp only [Act.put]
             try simp only [List.setIfInBounds_toArray]
             try simp only [List.set_cons_succ]
             try simp only [List.set_cons_zero]
             refine wpAnyB_done (by kernel_rfl) ?_ _
             clear hqg hqe y0 y1 y2 fx ex hrun hb6 hb7
             go_wp2
             go_meet
             exact ⟨at_, rfl, hat, HF⟩
         · skip
           clear hcont
           by_cases hd2 : D = 2
           · subst hd2
             have HT := hid (tick_any hmE.out hgE.out)
             go_wp2_with fail
             refine (HT.out).mono ?_
             rintro e w5 ⟨rfl, hn5⟩
             have HF : Hid (BrX first window w w5 ad be bs bg bx at_ (i + 1)) := ⟨_, _, _, _, _, _, _, _, _, _, _, _, H.out.e.call hkz hn5, H.out.inv.tick hkz, H.out.few, fun j hj => by have := H.out.ways j hj; omega, H.out.at60⟩
             clear hn5 HT H
             go_wp2
             go_meet
             exact ⟨at_, rfl, hat, HF⟩
           · by_cases hd34 : D = 3 ∨ D = 4
             · have hgo : Hid (D = 3 ∨ D = 4) := hd34
               clear hd34 hd2
               obtain ⟨XO, hXO⟩ : ∃ XO, XO = outN (c kz) := ⟨_, rfl⟩
               have hX := fun W (hk : Kept (fun _ => False) wr W) => out_any (hmE.out.kept0 hk) hgE.out
               have hXf := outN_few hgE.out
               have hIn := H.out.inv.out hkz
               rw [← hXO] at hX hXf hIn
               obtain ⟨C1, X⟩ := XO
               dsimp only at hX hXf hIn
               have HX := hid hX
               have HIn := hid hIn
               clear hX hIn hXO
               have hor : ((D : Int) == 3) = true ∨ ((D : Int) == 3) = false ∧ ((D : Int) == 4) = true := by
                 rcases hgo.out with rfl | rfl
                 · exact Or.inl rfl
                 · exact Or.inr ⟨rfl, rfl⟩
               have hn0 : ((D : Int) == 0) = false := by rcases hgo.out with rfl | rfl <;> rfl
               have hn1 : ((D : Int) == 1) = false := by rcases hgo.out with rfl | rfl <;> rfl
               have hn2 : ((D : Int) == 2) = false := by rcases hgo.out with rfl | rfl <;> rfl
               have hSx : ∀ U, Kept (fun j => col j = kz ∨ col j = 6 + kz) wr U → U.cell? ⟨bx, kz, none⟩ = some (.slice pk (W kz).length ck) := fun U hk => (hk.cell (p := ⟨bx, kz, none⟩) (blk_lt H.out.e.zx) (fun g => by have := H.out.e.kx.1; simp only at g; omega)).trans cX
               have hSe : ∀ U, Kept (fun j => col j = kz ∨ col j = 6 + kz) wr U → U.cell? ⟨be, kz, none⟩ = some (.pointer (some ⟨ad kz, 0, none⟩)) := fun U hk => (hk.cell (p := ⟨be, kz, none⟩) (blk_lt H.out.e.ze) (fun g => by have := H.out.e.ke.1; simp only at g; omega)).trans cE
               have hdr : Kept (fun _ => False) wr wr.drew := (Kept.refl _ wr).drew
               have HXd := hid (HX.out wr.drew hdr)
               have hS0 : Kept (fun j => col j = kz ∨ col j = 6 + kz) wr wr.drew := hdr.mono (fun _ _ f => f.elim)
               clear cX cE HX
               rcases hor with hd3 | ⟨hd3, hd4⟩
               · as_aux_lemma =>
                 go_upto_region 35 with fail
                 refine wp_region_but (S := Kept (fun j => col j = kz ∨ col j = 6 + kz) wr) 12 (by kernel_rfl) (hS0) (fun hSd => ?_)
                 refine wpAnyB_take (i := 0) (v := ?_) rfl (by kernel_rfl) (by kernel_rfl) (by kernel_rfl) (by kernel_rfl) (by kernel_rfl) (fun _ _ _ h => h) (Or.inl ⟨by kernel_rfl, fun W hSW => by go_simp; try with_reducible rfl⟩) (by assumption) ?_
                 try simp only [List.getElem_toArray]
                 try simp only [List.getElem_cons_succ]
                 try simp only [List.getElem_cons_zero]
                 try simp only [Act.put]
                 try simp only [List.setIfInBounds_toArray]
                 try simp only [List.set_cons_succ]
                 try simp only [List.set_cons_zero]
                 refine wpAnyB_take (i := 1) (v := ?_) rfl (by kernel_rfl) (by kernel_rfl) (by kernel_rfl) (by kernel_rfl) (by kernel_rfl) (fun _ _ _ h => h) (Or.inl ⟨by kernel_rfl, fun W hSW => by go_simp; try with_reducible rfl⟩) (by assumption) ?_
                 try simp only [List.getElem_toArray]
                 try simp only [List.getElem_cons_succ]
                 try simp only [List.getElem_cons_zero]
                 try simp only [Act.put]
                 try simp only [List.setIfInBounds_toArray]
                 try simp only [List.set_cons_succ]
                 try simp only [List.set_cons_zero]
                 refine wpAnyB_take (i := 2) (v := ?_) rfl (by kernel_rfl) (by kernel_rfl) (by kernel_rfl) (by kernel_rfl) (by kernel_rfl) (fun _ _ _ h => h) (Or.inl ⟨by kernel_rfl, fun W hSW => by go_simp; try with_reducible rfl⟩) (by assumption) ?_
                 try simp only [List.getElem_toArray]
                 try simp only [List.getElem_cons_succ]
                 try simp only [List.getElem_cons_zero]
                 try simp only [Act.put]
                 try simp only [List.setIfInBounds_toArray]
                 try simp only [List.set_cons_succ]
                 try simp only [List.set_cons_zero]
                 refine wpAnyB_take (i := 3) (v := ?_) rfl (by kernel_rfl) (by kernel_rfl) (by kernel_rfl) (by kernel_rfl) (by kernel_rfl) (fun _ _ _ h => h) (Or.inl ⟨by kernel_rfl, fun W hSW => by go_simp; try with_reducible rfl⟩) (by assumption) ?_
                 try simp only [List.getElem_toArray]
                 try simp only [List.getElem_cons_succ]
                 try simp only [List.getElem_cons_zero]
                 try simp only [Act.put]
                 try simp only [List.setIfInBounds_toArray]
                 try simp only [List.set_cons_succ]
                 try simp only [List.set_cons_zero]
                 refine wpAnyB_take (i := 4) (v := ?_) rfl (by kernel_rfl) (by kernel_rfl) (by kernel_rfl) (by kernel_rfl) (by kernel_rfl) (fun _ _ _ h => h) (Or.inl ⟨by kernel_rfl, fun W hSW => by go_simp; try with_reducible rfl⟩) (by assumption) ?_
                 try simp only [List.getElem_toArray]
                 try simp only [List.getElem_cons_succ]
                 try simp only [List.getElem_cons_zero]
                 try simp only [Act.put]
                 try simp only [List.setIfInBounds_toArray]
                 try simp only [List.set_cons_succ]
                 try simp only [List.set_cons_zero]
                 refine wpAnyB_take (i := 5) (v := ?_) rfl (by kernel_rfl) (by kernel_rfl) (by kernel_rfl) (by kernel_rfl) (by kernel_rfl) (fun _ _ _ h => h) (Or.inl ⟨by kernel_rfl, fun W hSW => by go_simp; try with_reducible rfl⟩) (by assumption) ?_
                 try simp only [List.getElem_toArray]
                 try simp only [List.getElem_cons_succ]
                 try simp only [List.getElem_cons_zero]
                 try simp only [Act.put]
                 try simp only [List.setIfInBounds_toArray]
                 try simp only [List.set_cons_succ]
                 try simp only [List.set_cons_zero]
                 refine wpAnyB_take (i := 6) (v := ?_) rfl (by kernel_rfl) (by kernel_rfl) (by kernel_rfl) (by kernel_rfl) (by kernel_rfl) (fun _ _ _ h => h) (Or.inl ⟨by kernel_rfl, fun W hSW => by go_simp; try with_reducible rfl⟩) (by assumption) ?_
                 try simp only [List.getElem_toArray]
                 try simp only [List.getElem_cons_succ]
                 try simp only [List.getElem_cons_zero]
                 try simp only [Act.put]
                 try simp only [List.setIfInBounds_toArray]
                 try simp only [List.set_cons_succ]
                 try simp only [List.set_cons_zero]
                 refine wpAnyB_take (i := 7) (v := ?_) rfl (by kernel_rfl) (by kernel_rfl) (by kernel_rfl) (by kernel_rfl) (by kernel_rfl) (fun _ _ _ h => h) (Or.inl ⟨by kernel_rfl, fun W hSW => by go_simp; try with_reducible rfl⟩) (by assumption) ?_
                 try simp only [List.getElem_toArray]
                 try simp only [List.getElem_cons_succ]
                 try simp only [List.getElem_cons_zero]
                 try simp only [Act.put]
                 try simp only [List.setIfInBounds_toArray]
                 try simp only [List.set_cons_succ]
                 try simp only [List.set_cons_zero]
                 refine wpAnyB_ready (rs := [8]) (by kernel_rfl) (by simp) ?_
                 refine AllReadyB.cons rfl (fun K hK => ?_) AllReadyB.nil
                 go_simp
                 refine (HXd.out).mono ?_
                 rintro e w6 ⟨vo, pa6, qa6, rfl, hn6, ho6⟩
                 have hE6 := (H.out.e.kept0 hdr).call hkz hn6
                 obtain ⟨po, co, hvo⟩ := own_slice ho6
                 subst hvo
                 have hx6 : OwnI w6 w.heap.size (.slice pk (W kz).length ck) (W kz) := by
                   have := hE6.x kz hkz
                   rw [HVX.out] at this
                   exact this
                 obtain ⟨v7, w7, happ, ho7, hk7, hn7⟩ := push_list tyI encI_ok hx6 hE6.kept.size ho6 (by have := HWl.out; omega)
                 obtain ⟨p7, c7, hv7⟩ := own_slice ho7
                 subst hv7
                 have hE7 := hE6.growX hkz ho7 (by rw [HVX.out]; exact hk7) (by rw [HVX.out]; exact hn7)
                 have hb6 : Kept (fun j => col j = kz ∨ col j = 6 + kz) wr w6 := (hS0.andThen hn6.kept (fun j _ g => Or.inl (H.out.e.cm kz hkz j g).1))
                 have hb7 : Kept (fun j => col j = kz ∨ col j = 6 + kz) wr w7 := hb6.andThen hk7 (fun j hj g => Or.inr (H.out.e.cx kz hkz j (by rw [HVX.out]; exact g)))
                 have fx : w7.frozen? ⟨bx, kz, none⟩ = false := frozen_of_row w7 bx kz _ _ ((hk7.block _ (blk_lt hE6.zx) (fun g => by have h1 := hE6.cx kz hkz bx (by rw [HVX.out]; exact g); have h2 := hE6.kx.1; omega)).trans hE6.zx)
                 have ex : w7.cell? ⟨bx, kz, none⟩ = some (.slice pk (W kz).length ck) := hSx w7 hb7
                 have hrun : ∀ ty, (Builtin.append_ #[37, 37] ty #[.slice pk (W kz).length ck, .slice po X.length co]).run Try.prog w6 = .ok (.slice p7 (W kz ++ X).length c7) w7 := happ
                 have HF : Hid (BrX first window w (w7.setCell ⟨bx, kz, none⟩ (.slice p7 (W kz ++ X).length c7)) ad be bs bg bx at_ (i + 1)) := ⟨_, _, _, _, _, _, _, _, _, _, _, _, hE7, HIn.out, H.out.few, (fun j hj => by
                   by_cases e : j = kz
                   · subst e
                     rw [upd_at, List.length_append]
                     have := HWl.out
                     omega
                   · rw [upd_far _ _ e]
                     have := H.out.ways j hj
                     omega), H.out.at60⟩
                 generalize (W kz ++ X).length = n7 at *
                 generalize (W kz).length = nk at *
                 generalize X.length = nx at *
                 clear happ ho7 hk7 hn7 hx6 hn6 ho6 hE6 hE7
                 refine hK.out _ _ (hb6) (fun _ => ?_)
                 clear hK K
                 try simp only [List.getElem_toArray]
                 try simp only [List.getElem_cons_succ]
                 try simp only [List.getElem_cons_zero]
                 try simp only [Act.put]
                 try simp only [List.setIfInBounds_toArray]
                 try simp only [List.set_cons_succ]
                 try simp only [List.set_cons_zero]
                 refine wpAnyB_ready (rs := [9]) (by kernel_rfl) (by simp) ?_
                 refine AllReadyB.cons rfl (fun K hK => ?_) AllReadyB.nil
                 refine stepG_append rfl (.tmp 200) (.tmp 204) 37 rfl (.slice pk nk ck) (.slice po nx co) rfl rfl (hrun _) ?_
                 refine hK.out _ _ (hb7) (fun _ => ?_)
                 clear hK K
                 try simp only [List.getElem_toArray]
                 try simp only [List.getElem_cons_succ]
                 try simp only [List.getElem_cons_zero]
                 try simp only [Act.put]
                 try simp only [List.setIfInBounds_toArray]
                 try simp only [List.set_cons_succ]
                 try simp only [List.set_cons_zero]
                 refine wpAnyB_take (i := 10) (v := ?_) rfl (by kernel_rfl) (by kernel_rfl) (by kernel_rfl) (by kernel_rfl) (by kernel_rfl) (fun _ _ _ h => h) (Or.inl ⟨by kernel_rfl, fun W hSW => by go_simp; try with_reducible rfl⟩) (by assumption) ?_
                 try simp only [List.getElem_toArray]
                 try simp only [List.getElem_cons_succ]
                 try simp only [List.getElem_cons_zero]
                 try simp only [Act.put]
                 try simp only [List.setIfInBounds_toArray]
                 try simp only [List.set_cons_succ]
                 try simp only [List.set_cons_zero]
                 refine wpAnyB_take (i := 11) (v := ?_) rfl (by kernel_rfl) (by kernel_rfl) (by kernel_rfl) (by kernel_rfl) (by kernel_rfl) (fun _ _ _ h => h) (Or.inl ⟨by kernel_rfl, fun W hSW => by go_simp; try with_reducible rfl⟩) (by assumption) ?_
                 try simp only [List.getElem_toArray]
                 try simp only [List.getElem_cons_succ]
                 try simp only [List.getElem_cons_zero]
                 try simp only [Act.put]
                 try simp only [List.setIfInBounds_toArray]
                 try simp only [List.set_cons_succ]
                 try simp only [List.set_cons_zero]
                 refine wpAnyB_ready (rs := [12]) (by kernel_rfl) (by simp) ?_
                 refine AllReadyB.end rfl (fun K hK => ?_)
                 go_simp
                 refine hK.out _ _ (trivial) (fun _ => ?_)
                 clear hK K
                 try simp only [List.getElem_toArray]
                 try simp only [List.getElem_cons_succ]
                 try simp only [List.getElem_cons_zero]
                 try simp only [Act.put]
                 try simp only [List.setIfInBounds_toArray]
                 try simp only [List.set_cons_succ]
                 try simp only [List.set_cons_zero]
                 refine wpAnyB_done (by kernel_rfl) ?_ _
                 clear hSx hSe fx ex hrun hb6 hb7
                 go_wp2
                 go_meet
                 exact ⟨at_, rfl, hat, HF⟩
               · as_aux_lemma =>
                 go_upto_region 35 with fail
                 refine wp_region_but (S := Kept (fun j => col j = kz ∨ col j = 6 + kz) wr) 12 (by kernel_rfl) (hS0) (fun hSd => ?_)
                 refine wpAnyB_take (i := 0) (v := ?_) rfl (by kernel_rfl) (by kernel_rfl) (by kernel_rfl) (by kernel_rfl) (by kernel_rfl) (fun _ _ _ h => h) (Or.inl ⟨by kernel_rfl, fun W hSW => by go_simp; try with_reducible rfl⟩) (by assumption) ?_
                 try simp only [List.getElem_toArray]
                 try simp only [List.getElem_cons_succ]
                 try simp only [List.getElem_cons_zero]
                 try simp only [Act.put]
                 try simp only [List.setIfInBounds_toArray]
                 try simp only [List.set_cons_succ]
                 try simp only [List.set_cons_zero]
                 refine wpAnyB_take (i := 1) (v := ?_) rfl (by kernel_rfl) (by kernel_rfl) (by kernel_rfl) (by kernel_rfl) (by kernel_rfl) (fun _ _ _ h => h) (Or.inl ⟨by kernel_rfl, fun W hSW => by go_simp; try with_reducible rfl⟩) (by assumption) ?_
                 try simp only [List.getElem_toArray]
                 try simp only [List.getElem_cons_succ]
                 try simp only [List.getElem_cons_zero]
                 try simp only [Act.put]
                 try simp only [List.setIfInBounds_toArray]
                 try simp only [List.set_cons_succ]
                 try simp only [List.set_cons_zero]
                 refine wpAnyB_take (i := 2) (v := ?_) rfl (by kernel_rfl) (by kernel_rfl) (by kernel_rfl) (by kernel_rfl) (by kernel_rfl) (fun _ _ _ h => h) (Or.inl ⟨by kernel_rfl, fun W hSW => by go_simp; try with_reducible rfl⟩) (by assumption) ?_
                 try simp only [List.getElem_toArray]
                 try simp only [List.getElem_cons_succ]
                 try simp only [List.getElem_cons_zero]
                 try simp only [Act.put]
                 try simp only [List.setIfInBounds_toArray]
                 try simp only [List.set_cons_succ]
                 try simp only [List.set_cons_zero]
                 refine wpAnyB_take (i := 3) (v := ?_) rfl (by kernel_rfl) (by kernel_rfl) (by kernel_rfl) (by kernel_rfl) (by kernel_rfl) (fun _ _ _ h => h) (Or.inl ⟨by kernel_rfl, fun W hSW => by go_simp; try with_reducible rfl⟩) (by assumption) ?_
                 try simp only [List.getElem_toArray]
                 try simp only [List.getElem_cons_succ]
                 try simp only [List.getElem_cons_zero]
                 try simp only [Act.put]
                 try simp only [List.setIfInBounds_toArray]
                 try simp only [List.set_cons_succ]
                 try simp only [List.set_cons_zero]
                 refine wpAnyB_take (i := 4) (v := ?_) rfl (by kernel_rfl) (by kernel_rfl) (by kernel_rfl) (by kernel_rfl) (by kernel_rfl) (fun _ _ _ h => h) (Or.inl ⟨by kernel_rfl, fun W hSW => by go_simp; try with_reducible rfl⟩) (by assumption) ?_
                 try simp only [List.getElem_toArray]
                 try simp only [List.getElem_cons_succ]
                 try simp only [List.getElem_cons_zero]
                 try simp only [Act.put]
                 try simp only [List.setIfInBounds_toArray]
                 try simp only [List.set_cons_succ]
                 try simp only [List.set_cons_zero]
                 refine wpAnyB_take (i := 5) (v := ?_) rfl (by kernel_rfl) (by kernel_rfl) (by kernel_rfl) (by kernel_rfl) (by kernel_rfl) (fun _ _ _ h => h) (Or.inl ⟨by kernel_rfl, fun W hSW => by go_simp; try with_reducible rfl⟩) (by assumption) ?_
                 try simp only [List.getElem_toArray]
                 try simp only [List.getElem_cons_succ]
                 try simp only [List.getElem_cons_zero]
                 try simp only [Act.put]
                 try simp only [List.setIfInBounds_toArray]
                 try simp only [List.set_cons_succ]
                 try simp only [List.set_cons_zero]
                 refine wpAnyB_take (i := 6) (v := ?_) rfl (by kernel_rfl) (by kernel_rfl) (by kernel_rfl) (by kernel_rfl) (by kernel_rfl) (fun _ _ _ h => h) (Or.inl ⟨by kernel_rfl, fun W hSW => by go_simp; try with_reducible rfl⟩) (by assumption) ?_
                 try simp only [List.getElem_toArray]
                 try simp only [List.getElem_cons_succ]
                 try simp only [List.getElem_cons_zero]
                 try simp only [Act.put]
                 try simp only [List.setIfInBounds_toArray]
                 try simp only [List.set_cons_succ]
                 try simp only [List.set_cons_zero]
                 refine wpAnyB_take (i := 7) (v := ?_) rfl (by kernel_rfl) (by kernel_rfl) (by kernel_rfl) (by kernel_rfl) (by kernel_rfl) (fun _ _ _ h => h) (Or.inl ⟨by kernel_rfl, fun W hSW => by go_simp; try with_reducible rfl⟩) (by assumption) ?_
                 try simp only [List.getElem_toArray]
                 try simp only [List.getElem_cons_succ]
                 try simp only [List.getElem_cons_zero]
                 try simp only [Act.put]
                 try simp only [List.setIfInBounds_toArray]
                 try simp only [List.set_cons_succ]
                 try simp only [List.set_cons_zero]
                 refine wpAnyB_ready (rs := [8]) (by kernel_rfl) (by simp) ?_
                 refine AllReadyB.cons rfl (fun K hK => ?_) AllReadyB.nil
                 go_simp
                 refine (HXd.out).mono ?_
                 rintro e w6 ⟨vo, pa6, qa6, rfl, hn6, ho6⟩
                 have hE6 := (H.out.e.kept0 hdr).call hkz hn6
                 obtain ⟨po, co, hvo⟩ := own_slice ho6
                 subst hvo
                 have hx6 : OwnI w6 w.heap.size (.slice pk (W kz).length ck) (W kz) := by
                   have := hE6.x kz hkz
                   rw [HVX.out] at this
                   exact this
                 obtain ⟨v7, w7, happ, ho7, hk7, hn7⟩ := push_list tyI encI_ok hx6 hE6.kept.size ho6 (by have := HWl.out; omega)
                 obtain ⟨p7, c7, hv7⟩ := own_slice ho7
                 subst hv7
                 have hE7 := hE6.growX hkz ho7 (by rw [HVX.out]; exact hk7) (by rw [HVX.out]; exact hn7)
                 have hb6 : Kept (fun j => col j = kz ∨ col j = 6 + kz) wr w6 := (hS0.andThen hn6.kept (fun j _ g => Or.inl (H.out.e.cm kz hkz j g).1))
                 have hb7 : Kept (fun j => col j = kz ∨ col j = 6 + kz) wr w7 := hb6.andThen hk7 (fun j hj g => Or.inr (H.out.e.cx kz hkz j (by rw [HVX.out]; exact g)))
                 have fx : w7.frozen? ⟨bx, kz, none⟩ = false := frozen_of_row w7 bx kz _ _ ((hk7.block _ (blk_lt hE6.zx) (fun g => by have h1 := hE6.cx kz hkz bx (by rw [HVX.out]; exact g); have h2 := hE6.kx.1; omega)).trans hE6.zx)
                 have ex : w7.cell? ⟨bx, kz, none⟩ = some (.slice pk (W kz).length ck) := hSx w7 hb7
                 have hrun : ∀ ty, (Builtin.append_ #[37, 37] ty #[.slice pk (W kz).length ck, .slice po X.length co]).run Try.prog w6 = .ok (.slice p7 (W kz ++ X).length c7) w7 := happ
                 have HF : Hid (BrX first window w (w7.setCell ⟨bx, kz, none⟩ (.slice p7 (W kz ++ X).length c7)) ad be bs bg bx at_ (i + 1)) := ⟨_, _, _, _, _, _, _, _, _, _, _, _, hE7, HIn.out, H.out.few, (fun j hj => by
                   by_cases e : j = kz
                   · subst e
                     rw [upd_at, List.length_append]
                     have := HWl.out
                     omega
                   · rw [upd_far _ _ e]
                     have := H.out.ways j hj
                     omega), H.out.at60⟩
                 generalize (W kz ++ X).length = n7 at *
                 generalize (W kz).length = nk at *
                 generalize X.length = nx at *
                 clear happ ho7 hk7 hn7 hx6 hn6 ho6 hE6 hE7
                 refine hK.out _ _ (hb6) (fun _ => ?_)
                 clear hK K
                 try simp only [List.getElem_toArray]
                 try simp only [List.getElem_cons_succ]
                 try simp only [List.getElem_cons_zero]
                 try simp only [Act.put]
                 try simp only [List.setIfInBounds_toArray]
                 try simp only [List.set_cons_succ]
                 try simp only [List.set_cons_zero]
                 refine wpAnyB_ready (rs := [9]) (by kernel_rfl) (by simp) ?_
                 refine AllReadyB.cons rfl (fun K hK => ?_) AllReadyB.nil
                 refine stepG_append rfl (.tmp 200) (.tmp 204) 37 rfl (.slice pk nk ck) (.slice po nx co) rfl rfl (hrun _) ?_
                 refine hK.out _ _ (hb7) (fun _ => ?_)
                 clear hK K
                 try simp only [List.getElem_toArray]
                 try simp only [List.getElem_cons_succ]
                 try simp only [List.getElem_cons_zero]
                 try simp only [Act.put]
                 try simp only [List.setIfInBounds_toArray]
                 try simp only [List.set_cons_succ]
                 try simp only [List.set_cons_zero]
                 refine wpAnyB_take (i := 10) (v := ?_) rfl (by kernel_rfl) (by kernel_rfl) (by kernel_rfl) (by kernel_rfl) (by kernel_rfl) (fun _ _ _ h => h) (Or.inl ⟨by kernel_rfl, fun W hSW => by go_simp; try with_reducible rfl⟩) (by assumption) ?_
                 try simp only [List.getElem_toArray]
                 try simp only [List.getElem_cons_succ]
                 try simp only [List.getElem_cons_zero]
                 try simp only [Act.put]
                 try simp only [List.setIfInBounds_toArray]
                 try simp only [List.set_cons_succ]
                 try simp only [List.set_cons_zero]
                 refine wpAnyB_take (i := 11) (v := ?_) rfl (by kernel_rfl) (by kernel_rfl) (by kernel_rfl) (by kernel_rfl) (by kernel_rfl) (fun _ _ _ h => h) (Or.inl ⟨by kernel_rfl, fun W hSW => by go_simp; try with_reducible rfl⟩) (by assumption) ?_
                 try simp only [List.getElem_toArray]
                 try simp only [List.getElem_cons_succ]
                 try simp only [List.getElem_cons_zero]
                 try simp only [Act.put]
                 try simp only [List.setIfInBounds_toArray]
                 try simp only [List.set_cons_succ]
                 try simp only [List.set_cons_zero]
                 refine wpAnyB_ready (rs := [12]) (by kernel_rfl) (by simp) ?_
                 refine AllReadyB.end rfl (fun K hK => ?_)
                 go_simp
                 refine hK.out _ _ (trivial) (fun _ => ?_)
                 clear hK K
                 try simp only [List.getElem_toArray]
                 try simp only [List.getElem_cons_succ]
                 try simp only [List.getElem_cons_zero]
                 try simp only [Act.put]
                 try simp only [List.setIfInBounds_toArray]
                 try simp only [List.set_cons_succ]
                 try simp only [List.set_cons_zero]
                 refine wpAnyB_done (by kernel_rfl) ?_ _
                 clear hSx hSe fx ex hrun hb6 hb7
                 go_wp2
                 go_meet
                 exact ⟨at_, rfl, hat, HF⟩
             · have hor : ((D : Int) == 0) = true ∨ ((D : Int) == 0) = false ∧ ((D : Int) == 1) = true := by
                 rcases (by omega : D = 0 ∨ D = 1) with rfl | rfl
                 · exact Or.inl rfl
                 · exact Or.inr ⟨rfl, rfl⟩
               clear hd34 hd2
               have hat60 : at_ ≤ 60 := H.out.at60
               by_cases hsl : at_ < l2.length
               · have hslz : (at_ : Int) < (l2.length : Int) := by omega
                 obtain ⟨z, hz⟩ : ∃ z, l2[at_]? = some z := ⟨l2[at_], by simp [hsl]⟩
                 obtain ⟨p2', cap2', he2, hc2⟩ := (HL2.out.kept H.out.e.kept).form
                 simp only [Value.slice.injEq] at he2
                 obtain ⟨rfl, -, rfl⟩ := he2
                 obtain ⟨g2, o2, rfl, hle2, hz2⟩ := hc2 at_ z hz
                 obtain ⟨y, hy⟩ : ∃ y : Nat, IntKind.u8.wrap z = (y : Int) := ⟨(IntKind.u8.wrap z).toNat, by rw [IntKind.wrap_u8]; omega⟩
                 have hy256 : y < 256 := by rw [IntKind.wrap_u8] at hy; omega
                 have wu : IntKind.u8.wrap (at_ : Int) = (at_ : Int) := by rw [IntKind.wrap_u8]; omega
                 have wa : IntKind.i64.wrap ((at_ : Int) + 1) = (at_ : Int) + 1 := by rw [IntKind.wrap_i64]; omega
                 have hcv := conv_three wr at_ y (by omega) hy256
                 have ka := (Kept.refl (fun _ => False) wr).alloc (.cells #[.int .u8 109, .int .u8 (at_ : Int), .int .u8 (y : Int)] 5)
                 have hms : ¬ (msg3 at_ y).size = 0 := by rw [show (msg3 at_ y).size = 3 from rfl]; decide
                 have HMs := hid hms
                 have hEa := hid (H.out.e.kept0 ka)
                 have hEk : Hid ((wr.alloc (.cells #[.int .u8 109, .int .u8 (at_ : Int), .int .u8 (y : Int)] 5)).cell? ⟨be, kz, none⟩ = some (.pointer (some ⟨ad kz, 0, none⟩))) := (ka.cell (p := ⟨be, kz, none⟩) (blk_lt H.out.e.ze) id).trans cE
                 clear hz hc2 ka hms
                 rcases hor with hd0 | ⟨hd0, hd1⟩
                 · as_aux_lemma =>
                   go_upto_region 28 with fail
                   clear hcv wu hy hz2
                   generalize wr.alloc (.cells #[.int .u8 109, .int .u8 (at_ : Int), .int .u8 (y : Int)] 5) = Xa at *
                   have cEa := hEk.out
                   have hSd := send_any (hEa.out.m kz hkz) hgE.out (msg3 at_ y)
                   obtain ⟨R, hR⟩ : ∃ R, R = giveN (c kz) (msg3 at_ y) := ⟨_, rfl⟩
                   have HR := hid hR
                   rw [← hR] at hSd
                   clear hR
                   obtain ⟨C1, r⟩ := R
                   dsimp only at hSd
                   have HSd := hid hSd
                   clear hSd
                   go_wp2_with fail
                   refine (HSd.out).mono ?_
                   rintro e w6 ⟨rfl, pa6, hn6⟩
                   have hE6 := hid (hEa.out.call hkz hn6)
                   clear hn6 HSd cEa
                   by_cases hr : r = 0
                   · have hrz : (r == 0) = true := beq_iff_eq.2 hr
                     have hInv := H.out.inv.give0 hkz HMs.out (by rw [← HR.out]; exact hr)
                     rw [← HR.out] at hInv
                     dsimp only at hInv
                     have HInv := hid hInv
                     have cS : w6.cell? ⟨bs, kz, none⟩ = some (vs kz) := by
                       rw [blk_cell hE6.out.zs kz]
                       exact two_at vs hkz
                     obtain ⟨ps, cs, hvs⟩ := own_slice (hE6.out.s kz hkz)
                     have hs6 : OwnS w6 w.heap.size (.slice ps (S kz).length cs) (S kz) := by
                       have := hE6.out.s kz hkz
                       rw [hvs] at this
                       exact this
                     rw [hvs] at cS
                     have hSf := H.out.few kz hkz
                     obtain ⟨v7, w7, happ, ho7, hk7, hn7⟩ := push_one tyS encS_ok hs6 hE6.out.kept.size (msg3 at_ y) (by omega)
                     obtain ⟨p7, c7, hv7⟩ := own_slice ho7
                     subst hv7
                     have hE7 := hE6.out.growS hkz ho7 (by rw [hvs]; exact hk7) (by rw [hvs]; exact hn7)
                     have zb := (hk7.block _ (blk_lt hE6.out.zs) (fun g => by have h1 := hE6.out.cs kz hkz bs (by rw [hvs]; exact g); have h2 := hE6.out.ks.1; omega)).trans hE6.out.zs
                     have fx : w7.frozen? ⟨bs, kz, none⟩ = false := frozen_of_row w7 bs kz _ _ zb
                     have ex : w7.cell? ⟨bs, kz, none⟩ = some (.slice ps (S kz).length cs) := by
                       rw [blk_cell zb kz, ← hvs]
                       exact two_at vs hkz
                     have Happ : Hid (∀ ty, (Builtin.append_ #[29, 29] ty #[.slice ps (S kz).length cs, .slice (some ⟨w6.heap.size, 0, none⟩) 1 1]).run Try.prog (w6.alloc (.cells #[.string (msg3 at_ y)] 9)) = .ok (.slice p7 (S kz ++ [msg3 at_ y]).length c7) w7) := happ
                     have HF : Hid (BrX first window w (w7.setCell ⟨bs, kz, none⟩ (.slice p7 (S kz ++ [msg3 at_ y]).length c7)) ad be bs bg bx (at_ + 1) (i + 1)) := ⟨_, _, _, _, _, _, _, _, _, _, _, _, hE7, HInv.out, (fun j hj => by
                       by_cases e : j = kz
                       · subst e
                         rw [upd_at, List.length_append]
                         simp only [List.length_cons, List.length_nil]
                         omega
                       · rw [upd_far _ _ e]
                         have := H.out.few j hj
                         omega), (fun j hj => by have := H.out.ways j hj; omega), by omega⟩
                     generalize (S kz ++ [msg3 at_ y]).length = n7 at *
                     generalize (S kz).length = ns at *
                     clear happ ho7 hk7 hn7 hs6 hE7 zb hInv hr hvs hSf
                     go_wp2_with (at_builtin; refine Lib.wpList_append_run _ rfl _ _ _ _ rfl _ _ rfl rfl _ _ (Happ.out _) ?_)
                     go_wp2
                     go_meet
                     exact ⟨at_ + 1, by go_num, hsl, HF⟩
                   · have hrz : (r == 0) = false := by rw [beq_eq_false_iff_ne]; exact hr
                     have hno : C1 = c kz := by
                       have h1 : (giveN (c kz) (msg3 at_ y)).1 = c kz := giveN_no (by rw [← HR.out]; exact hr)
                       rw [← HR.out] at h1
                       exact h1
                     have HF : Hid (BrX first window w w6 ad be bs bg bx (at_ + 1) (i + 1)) := ⟨_, _, _, _, _, _, _, _, _, _, _, _, hE6.out, by rw [hno, upd_self]; exact H.out.inv, (fun j hj => by have := H.out.few j hj; omega), (fun j hj => by have := H.out.ways j hj; omega), by omega⟩
                     clear hno hr
                     go_wp2
                     go_meet
                     exact ⟨at_ + 1, by go_num, hsl, HF⟩
                 · as_aux_lemma =>
                   go_upto_region 28 with fail
                   clear hcv wu hy hz2
                   generalize wr.alloc (.cells #[.int .u8 109, .int .u8 (at_ : Int), .int .u8 (y : Int)] 5) = Xa at *
                   have cEa := hEk.out
                   have hSd := send_any (hEa.out.m kz hkz) hgE.out (msg3 at_ y)
                   obtain ⟨R, hR⟩ : ∃ R, R = giveN (c kz) (msg3 at_ y) := ⟨_, rfl⟩
                   have HR := hid hR
                   rw [← hR] at hSd
                   clear hR
                   obtain ⟨C1, r⟩ := R
                   dsimp only at hSd
                   have HSd := hid hSd
                   clear hSd
                   go_wp2_with fail
                   refine (HSd.out).mono ?_
                   rintro e w6 ⟨rfl, pa6, hn6⟩
                   have hE6 := hid (hEa.out.call hkz hn6)
                   clear hn6 HSd cEa
                   by_cases hr : r = 0
                   · have hrz : (r == 0) = true := beq_iff_eq.2 hr
                     have hInv := H.out.inv.give0 hkz HMs.out (by rw [← HR.out]; exact hr)
                     rw [← HR.out] at hInv
                     dsimp only at hInv
                     have HInv := hid hInv
                     have cS : w6.cell? ⟨bs, kz, none⟩ = some (vs kz) := by
                       rw [blk_cell hE6.out.zs kz]
                       exact two_at vs hkz
                     obtain ⟨ps, cs, hvs⟩ := own_slice (hE6.out.s kz hkz)
                     have hs6 : OwnS w6 w.heap.size (.slice ps (S kz).length cs) (S kz) := by
                       have := hE6.out.s kz hkz
                       rw [hvs] at this
                       exact this
                     rw [hvs] at cS
                     have hSf := H.out.few kz hkz
                     obtain ⟨v7, w7, happ, ho7, hk7, hn7⟩ := push_one tyS encS_ok hs6 hE6.out.kept.size (msg3 at_ y) (by omega)
                     obtain ⟨p7, c7, hv7⟩ := own_slice ho7
                     subst hv7
                     have hE7 := hE6.out.growS hkz ho7 (by rw [hvs]; exact hk7) (by rw [hvs]; exact hn7)
                     have zb := (hk7.block _ (blk_lt hE6.out.zs) (fun g => by have h1 := hE6.out.cs kz hkz bs (by rw [hvs]; exact g); have h2 := hE6.out.ks.1; omega)).trans hE6.out.zs
                     have fx : w7.frozen? ⟨bs, kz, none⟩ = false := frozen_of_row w7 bs kz _ _ zb
                     have ex : w7.cell? ⟨bs, kz, none⟩ = some (.slice ps (S kz).length cs) := by
                       rw [blk_cell zb kz, ← hvs]
                       exact two_at vs hkz
                     have Happ : Hid (∀ ty, (Builtin.append_ #[29, 29] ty #[.slice ps (S kz).length cs, .slice (some ⟨w6.heap.size, 0, none⟩) 1 1]).run Try.prog (w6.alloc (.cells #[.string (msg3 at_ y)] 9)) = .ok (.slice p7 (S kz ++ [msg3 at_ y]).length c7) w7) := happ
                     have HF : Hid (BrX first window w (w7.setCell ⟨bs, kz, none⟩ (.slice p7 (S kz ++ [msg3 at_ y]).length c7)) ad be bs bg bx (at_ + 1) (i + 1)) := ⟨_, _, _, _, _, _, _, _, _, _, _, _, hE7, HInv.out, (fun j hj => by
                       by_cases e : j = kz
                       · subst e
                         rw [upd_at, List.length_append]
                         simp only [List.length_cons, List.length_nil]
                         omega
                       · rw [upd_far _ _ e]
                         have := H.out.few j hj
                         omega), (fun j hj => by have := H.out.ways j hj; omega), by omega⟩
                     generalize (S kz ++ [msg3 at_ y]).length = n7 at *
                     generalize (S kz).length = ns at *
                     clear happ ho7 hk7 hn7 hs6 hE7 zb hInv hr hvs hSf
                     go_wp2_with (at_builtin; refine Lib.wpList_append_run _ rfl _ _ _ _ rfl _ _ rfl rfl _ _ (Happ.out _) ?_)
                     go_wp2
                     go_meet
                     exact ⟨at_ + 1, by go_num, hsl, HF⟩
                   · have hrz : (r == 0) = false := by rw [beq_eq_false_iff_ne]; exact hr
                     have hno : C1 = c kz := by
                       have h1 : (giveN (c kz) (msg3 at_ y)).1 = c kz := giveN_no (by rw [← HR.out]; exact hr)
                       rw [← HR.out] at h1
                       exact h1
                     have HF : Hid (BrX first window w w6 ad be bs bg bx (at_ + 1) (i + 1)) := ⟨_, _, _, _, _, _, _, _, _, _, _, _, hE6.out, by rw [hno, upd_self]; exact H.out.inv, (fun j hj => by have := H.out.few j hj; omega), (fun j hj => by have := H.out.ways j hj; omega), by omega⟩
                     clear hno hr
                     go_wp2
                     go_meet
                     exact ⟨at_ + 1, by go_num, hsl, HF⟩
               · have hslz : ¬ (at_ : Int) < (l2.length : Int) := by omega
                 have HF : Hid (BrX first window w wr ad be bs bg bx at_ (i + 1)) := ⟨_, _, _, _, _, _, _, _, _, _, _, _, H.out.e, H.out.inv, H.out.few, fun j hj => by have := H.out.ways j hj; omega, H.out.at60⟩
                 clear H
                 rcases hor with hd0 | ⟨hd0, hd1⟩
                 · go_wp2
                   go_meet
                   exact ⟨at_, rfl, hat, HF⟩
                 · go_wp2
                   go_meet
                   exact ⟨at_, rfl, hat, HF⟩
        as_aux_lemma =>
        obtain ⟨at', rfl, hat', HB2⟩ := hcut
        clear H hmE hgE HVX HWl cX cE hcont
        obtain ⟨col, c, p, q, vs, vg, vx, S, G, Z, aa, hh, hS1⟩ := HB2.out
        have HS := hid hS1
        clear hS1
        go_upto_region 37 with fail
        go_loopw [24] (fun vk wx => ∃ k2 : Nat, k2 ≤ 2 ∧ vk = .int .i64 (k2 : Int) ∧ Hid (Kept (fun _ => False) wc wx)) (fun vk _ => 2 - (intOf vk).toNat)
        case atStart => exact ⟨0, by omega, rfl, Kept.refl _ _⟩
        case round =>
          obtain ⟨k2, hk2, rfl, HKx⟩ := hrel
          by_cases h2 : k2 < 2
          · have h2z : (k2 : Int) < 2 := by omega
            have h20 : (0 : Int) ≤ (k2 : Int) := by omega
            obtain ⟨O, hO⟩ : ∃ O : Nat, O = 1 - k2 := ⟨_, rfl⟩
            have wO : IntKind.i64.wrap (1 - (k2 : Int)) = (O : Int) := by rw [IntKind.wrap_i64]; omega
            have hO2 : O < 2 := by omega
            have hOz : (O : Int) < 2 := by omega
            have hO0 : (0 : Int) ≤ (O : Int) := by omega
            have HE := hid (HS.out.e.kept0 HKx.out)
            have htold := HS.out.inv.told h2
            rw [← hO] at htold
            clear hO
            obtain ⟨t1, t2, t3⟩ := htold
            obtain ⟨pg, cg, hvg⟩ := own_slice (HE.out.g O hO2)
            obtain ⟨ps, cs, hvs⟩ := own_slice (HE.out.s k2 h2)
            have rg := OwnG.rd (HE.out.g O hO2)
            have rs := OwnG.rd (HE.out.s k2 h2)
            rw [hvg] at rg
            rw [hvs] at rs
            have rs2 := rs.first (G O).length t1
            rw [t2] at rs2
            have hfew := HS.out.few k2 h2
            have h60 := HS.out.at60
            have HSm := hid (fun W (hk : Kept (fun _ => False) wr W) => sameTexts_eq _ _ (G O) W (rg.kept hk) (rs2.kept hk) (by omega))
            obtain ⟨pf, cf, hvf⟩ := own_slice (HE.out.m k2 h2).rf
            have HFl := hid (fun W (hk : Kept (fun _ => False) wr W) => flying_at (ad k2) (c k2).flies.length pf cf W (by
              have := ((HE.out.m k2 h2).kept0 hk).blk.cell 10
              rw [hvf] at this
              exact this))
            have hcs : (G O).length ≤ cs := by
              rcases rs with ⟨e0, _⟩ | ⟨g, cap', e1, h1, _⟩
              · have h0 : (S k2).length = 0 := by rw [e0]; rfl
                omega
              · simp only [Value.slice.injEq] at e1
                obtain ⟨_, _, rfl⟩ := e1
                omega
            have zg : ∀ U, Kept (fun _ => False) wr U → U.cell? ⟨bg, O, none⟩ = some (.slice pg (G O).length cg) := fun U hk => by
              rw [blk_cell (HE.out.kept0 hk).zg O, ← hvg]
              exact two_at vg hO2
            have zs : ∀ U, Kept (fun _ => False) wr U → U.cell? ⟨bs, k2, none⟩ = some (.slice ps (S k2).length cs) := fun U hk => by
              rw [blk_cell (HE.out.kept0 hk).zs k2, ← hvs]
              exact two_at vs h2
            have ze : ∀ U, Kept (fun _ => False) wr U → U.cell? ⟨be, k2, none⟩ = some (.pointer (some ⟨ad k2, 0, none⟩)) := fun U hk => by
              rw [blk_cell (HE.out.kept0 hk).ze k2]
              exact two_at (fun j => Value.pointer (some ⟨ad j, 0, none⟩)) h2
            generalize (G O).length = ng at *
            generalize (S k2).length = ns at *
            generalize (c k2).flies.length = nf at *
            have f1 : ¬ (ns : Int) < (ng : Int) := by omega
            have f2 : (ng : Int) ≤ (ns : Int) := by omega
            have f3 : ¬ window < (nf : Int) := by omega
            clear rg rs rs2 hvg hvs hvf t1 t2 hfew h60
            go_upto_region 39 with fail
            refine wp_region_held_drew (S := Kept (fun _ => False) wr) (by kernel_rfl) ((Kept.refl _ wr).drew) (fun hSd => ?_)
            refine wpAnyH_take (i := 0) (v := ?_) rfl (by kernel_rfl) (by kernel_rfl) (by kernel_rfl) (fun _ _ _ h => h) (Or.inl ⟨by kernel_rfl, fun W hSW => by go_simp; try with_reducible rfl⟩) (by assumption) ?_
            try simp only [List.getElem_toArray]
            try simp only [List.getElem_cons_succ]
            try simp only [List.getElem_cons_zero]
            try simp only [Act.put]
            try simp only [List.setIfInBounds_toArray]
            try simp only [List.set_cons_succ]
            try simp only [List.set_cons_zero]
            refine wpAnyH_take (i := 1) (v := ?_) rfl (by kernel_rfl) (by kernel_rfl) (by kernel_rfl) (fun _ _ _ h => h) (Or.inl ⟨by kernel_rfl, fun W hSW => by go_simp; try with_reducible rfl⟩) (by assumption) ?_
            try simp only [List.getElem_toArray]
            try simp only [List.getElem_cons_succ]
            try simp only [List.getElem_cons_zero]
            try simp only [Act.put]
            try simp only [List.setIfInBounds_toArray]
            try simp only [List.set_cons_succ]
            try simp only [List.set_cons_zero]
            refine wpAnyH_take (i := 2) (v := ?_) rfl (by kernel_rfl) (by kernel_rfl) (by kernel_rfl) (fun _ _ _ h => h) (Or.inl ⟨by kernel_rfl, fun W hSW => by go_simp; try with_reducible rfl⟩) (by assumption) ?_
            try simp only [List.getElem_toArray]
            try simp only [List.getElem_cons_succ]
            try simp only [List.getElem_cons_zero]
            try simp only [Act.put]
            try simp only [List.setIfInBounds_toArray]
            try simp only [List.set_cons_succ]
            try simp only [List.set_cons_zero]
            refine wpAnyH_take (i := 3) (v := ?_) rfl (by kernel_rfl) (by kernel_rfl) (by kernel_rfl) (fun _ _ _ h => h) (Or.inl ⟨by kernel_rfl, fun W hSW => by go_simp; try with_reducible rfl⟩) (by assumption) ?_
            try simp only [List.getElem_toArray]
            try simp only [List.getElem_cons_succ]
            try simp only [List.getElem_cons_zero]
            try simp only [Act.put]
            try simp only [List.setIfInBounds_toArray]
            try simp only [List.set_cons_succ]
            try simp only [List.set_cons_zero]
            refine wpAnyH_take (i := 4) (v := ?_) rfl (by kernel_rfl) (by kernel_rfl) (by kernel_rfl) (fun _ _ _ h => h) (Or.inl ⟨by kernel_rfl, fun W hSW => by go_simp; try with_reducible rfl⟩) (by assumption) ?_
            try simp only [List.getElem_toArray]
            try simp only [List.getElem_cons_succ]
            try simp only [List.getElem_cons_zero]
            try simp only [Act.put]
            try simp only [List.setIfInBounds_toArray]
            try simp only [List.set_cons_succ]
            try simp only [List.set_cons_zero]
            refine wpAnyH_take (i := 5) (v := ?_) rfl (by kernel_rfl) (by kernel_rfl) (by kernel_rfl) (fun _ _ _ h => h) (Or.inl ⟨by kernel_rfl, fun W hSW => by go_simp; try with_reducible rfl⟩) (by assumption) ?_
            try simp only [List.getElem_toArray]
            try simp only [List.getElem_cons_succ]
            try simp only [List.getElem_cons_zero]
            try simp only [Act.put]
            try simp only [List.setIfInBounds_toArray]
            try simp only [List.set_cons_succ]
            try simp only [List.set_cons_zero]
            refine wpAnyH_take (i := 6) (v := ?_) rfl (by kernel_rfl) (by kernel_rfl) (by kernel_rfl) (fun _ _ _ h => h) (Or.inl ⟨by kernel_rfl, fun W hSW => by go_simp; try with_reducible rfl⟩) (by assumption) ?_
            try simp only [List.getElem_toArray]
            try simp only [List.getElem_cons_succ]
            try simp only [List.getElem_cons_zero]
            try simp only [Act.put]
            try simp only [List.setIfInBounds_toArray]
            try simp only [List.set_cons_succ]
            try simp only [List.set_cons_zero]
            refine wpAnyH_take (i := 7) (v := ?_) rfl (by kernel_rfl) (by kernel_rfl) (by kernel_rfl) (fun _ _ _ h => h) (Or.inl ⟨by kernel_rfl, fun W hSW => by go_simp; try with_reducible rfl⟩) (by assumption) ?_
            try simp only [List.getElem_toArray]
            try simp only [List.getElem_cons_succ]
            try simp only [List.getElem_cons_zero]
            try simp only [Act.put]
            try simp only [List.setIfInBounds_toArray]
            try simp only [List.set_cons_succ]
            try simp only [List.set_cons_zero]
            refine wpAnyH_take (i := 8) (v := ?_) rfl (by kernel_rfl) (by kernel_rfl) (by kernel_rfl) (fun _ _ _ h => h) (Or.inl ⟨by kernel_rfl, fun W hSW => by go_simp; try with_reducible rfl⟩) (by assumption) ?_
            try simp only [List.getElem_toArray]
            try simp only [List.getElem_cons_succ]
            try simp only [List.getElem_cons_zero]
            try simp only [Act.put]
            try simp only [List.setIfInBounds_toArray]
            try simp only [List.set_cons_succ]
            try simp only [List.set_cons_zero]
            refine wpAnyH_take (i := 9) (v := ?_) rfl (by kernel_rfl) (by kernel_rfl) (by kernel_rfl) (fun _ _ _ h => h) (Or.inl ⟨by kernel_rfl, fun W hSW => by go_simp; try with_reducible rfl⟩) (by assumption) ?_
            try simp only [List.getElem_toArray]
            try simp only [List.getElem_cons_succ]
            try simp only [List.getElem_cons_zero]
            try simp only [Act.put]
            try simp only [List.setIfInBounds_toArray]
            try simp only [List.set_cons_succ]
            try simp only [List.set_cons_zero]
            refine wpAnyH_take (i := 10) (v := ?_) rfl (by kernel_rfl) (by kernel_rfl) (by kernel_rfl) (fun _ _ _ h => h) (Or.inl ⟨by kernel_rfl, fun W hSW => by go_simp; try with_reducible rfl⟩) (by assumption) ?_
            try simp only [List.getElem_toArray]
            try simp only [List.getElem_cons_succ]
            try simp only [List.getElem_cons_zero]
            try simp only [Act.put]
            try simp only [List.setIfInBounds_toArray]
            try simp only [List.set_cons_succ]
            try simp only [List.set_cons_zero]
            refine wpAnyH_take (i := 11) (v := ?_) rfl (by kernel_rfl) (by kernel_rfl) (by kernel_rfl) (fun _ _ _ h => h) (Or.inl ⟨by kernel_rfl, fun W hSW => by go_simp; try with_reducible rfl⟩) (by assumption) ?_
            try simp only [List.getElem_toArray]
            try simp only [List.getElem_cons_succ]
            try simp only [List.getElem_cons_zero]
            try simp only [Act.put]
            try simp only [List.setIfInBounds_toArray]
            try simp only [List.set_cons_succ]
            try simp only [List.set_cons_zero]
            refine wpAnyH_take (i := 12) (v := ?_) rfl (by kernel_rfl) (by kernel_rfl) (by kernel_rfl) (fun _ _ _ h => h) (Or.inl ⟨by kernel_rfl, fun W hSW => by go_simp; try with_reducible rfl⟩) (by assumption) ?_
            try simp only [List.getElem_toArray]
            try simp only [List.getElem_cons_succ]
            try simp only [List.getElem_cons_zero]
            try simp only [Act.put]
            try simp only [List.setIfInBounds_toArray]
            try simp only [List.set_cons_succ]
            try simp only [List.set_cons_zero]
            refine wpAnyH_take (i := 13) (v := ?_) rfl (by kernel_rfl) (by kernel_rfl) (by kernel_rfl) (fun _ _ _ h => h) (Or.inl ⟨by kernel_rfl, fun W hSW => by go_simp; try with_reducible rfl⟩) (by assumption) ?_
            try simp only [List.getElem_toArray]
            try simp only [List.getElem_cons_succ]
            try simp only [List.getElem_cons_zero]
            try simp only [Act.put]
            try simp only [List.setIfInBounds_toArray]
            try simp only [List.set_cons_succ]
            try simp only [List.set_cons_zero]
            refine wpAnyH_take (i := 14) (v := ?_) rfl (by kernel_rfl) (by kernel_rfl) (by kernel_rfl) (fun _ _ _ h => h) (Or.inl ⟨by kernel_rfl, fun W hSW => by go_simp; try with_reducible rfl⟩) (by assumption) ?_
            try simp only [List.getElem_toArray]
            try simp only [List.getElem_cons_succ]
            try simp only [List.getElem_cons_zero]
            try simp only [Act.put]
            try simp only [List.setIfInBounds_toArray]
            try simp only [List.set_cons_succ]
            try simp only [List.set_cons_zero]
            refine wpAnyH_take (i := 15) (v := ?_) rfl (by kernel_rfl) (by kernel_rfl) (by kernel_rfl) (fun _ _ _ h => h) (Or.inl ⟨by kernel_rfl, fun W hSW => by go_simp; try with_reducible rfl⟩) (by assumption) ?_
            try simp only [List.getElem_toArray]
            try simp only [List.getElem_cons_succ]
            try simp only [List.getElem_cons_zero]
            try simp only [Act.put]
            try simp only [List.setIfInBounds_toArray]
            try simp only [List.set_cons_succ]
            try simp only [List.set_cons_zero]
            refine wpAnyH_take (i := 16) (v := ?_) rfl (by kernel_rfl) (by kernel_rfl) (by kernel_rfl) (fun _ _ _ h => h) (Or.inl ⟨by kernel_rfl, fun W hSW => by go_simp; try with_reducible rfl⟩) (by assumption) ?_
            try simp only [List.getElem_toArray]
            try simp only [List.getElem_cons_succ]
            try simp only [List.getElem_cons_zero]
            try simp only [Act.put]
            try simp only [List.setIfInBounds_toArray]
            try simp only [List.set_cons_succ]
            try simp only [List.set_cons_zero]
            refine wpAnyH_take (i := 17) (v := ?_) rfl (by kernel_rfl) (by kernel_rfl) (by kernel_rfl) (fun _ _ _ h => h) (Or.inl ⟨by kernel_rfl, fun W hSW => by go_simp; try with_reducible rfl⟩) (by assumption) ?_
            try simp only [List.getElem_toArray]
            try simp only [List.getElem_cons_succ]
            try simp only [List.getElem_cons_zero]
            try simp only [Act.put]
            try simp only [List.setIfInBounds_toArray]
            try simp only [List.set_cons_succ]
            try simp only [List.set_cons_zero]
            refine wpAnyH_take (i := 18) (v := ?_) rfl (by kernel_rfl) (by kernel_rfl) (by kernel_rfl) (fun _ _ _ h => h) (Or.inl ⟨by kernel_rfl, fun W hSW => by go_simp; try with_reducible rfl⟩) (by assumption) ?_
            try simp only [List.getElem_toArray]
            try simp only [List.getElem_cons_succ]
            try simp only [List.getElem_cons_zero]
            try simp only [Act.put]
            try simp only [List.setIfInBounds_toArray]
            try simp only [List.set_cons_succ]
            try simp only [List.set_cons_zero]
            refine wpAnyH_take (i := 19) (v := ?_) rfl (by kernel_rfl) (by kernel_rfl) (by kernel_rfl) (fun _ _ _ h => h) (Or.inl ⟨by kernel_rfl, fun W hSW => by go_simp; try with_reducible rfl⟩) (by assumption) ?_
            try simp only [List.getElem_toArray]
            try simp only [List.getElem_cons_succ]
            try simp only [List.getElem_cons_zero]
            try simp only [Act.put]
            try simp only [List.setIfInBounds_toArray]
            try simp only [List.set_cons_succ]
            try simp only [List.set_cons_zero]
            refine wpAnyH_take (i := 20) (v := ?_) rfl (by kernel_rfl) (by kernel_rfl) (by kernel_rfl) (fun _ _ _ h => h) (Or.inl ⟨by kernel_rfl, fun W hSW => by go_simp; try with_reducible rfl⟩) (by assumption) ?_
            try simp only [List.getElem_toArray]
            try simp only [List.getElem_cons_succ]
            try simp only [List.getElem_cons_zero]
            try simp only [Act.put]
            try simp only [List.setIfInBounds_toArray]
            try simp only [List.set_cons_succ]
            try simp only [List.set_cons_zero]
            refine wpAnyH_take (i := 21) (v := ?_) rfl (by kernel_rfl) (by kernel_rfl) (by kernel_rfl) (fun _ _ _ h => h) (Or.inl ⟨by kernel_rfl, fun W hSW => by go_simp; try with_reducible rfl⟩) (by assumption) ?_
            try simp only [List.getElem_toArray]
            try simp only [List.getElem_cons_succ]
            try simp only [List.getElem_cons_zero]
            try simp only [Act.put]
            try simp only [List.setIfInBounds_toArray]
            try simp only [List.set_cons_succ]
            try simp only [List.set_cons_zero]
            refine wpAnyH_take (i := 22) (v := ?_) rfl (by kernel_rfl) (by kernel_rfl) (by kernel_rfl) (fun _ _ _ h => h) (Or.inl ⟨by kernel_rfl, fun W hSW => by go_simp; try with_reducible rfl⟩) (by assumption) ?_
            try simp only [List.getElem_toArray]
            try simp only [List.getElem_cons_succ]
            try simp only [List.getElem_cons_zero]
            try simp only [Act.put]
            try simp only [List.setIfInBounds_toArray]
            try simp only [List.set_cons_succ]
            try simp only [List.set_cons_zero]
            refine wpAnyH_take (i := 23) (v := (.slice ps ng cs)) rfl (by kernel_rfl) (by kernel_rfl) (by kernel_rfl) (fun _ _ _ h => h) (Or.inl ⟨by kernel_rfl, fun W hSW => by go_simp; try with_reducible rfl⟩) (by assumption) ?_
            try simp only [List.getElem_toArray]
            try simp only [List.getElem_cons_succ]
            try simp only [List.getElem_cons_zero]
            try simp only [Act.put]
            try simp only [List.setIfInBounds_toArray]
            try simp only [List.set_cons_succ]
            try simp only [List.set_cons_zero]
            refine wpAnyH_ready (rs := [24]) (by kernel_rfl) (by simp) ?_
            refine AllReadyH.cons rfl (fun K hK => ?_) AllReadyH.nil
            go_simp
            refine (HSm.out _ hSd).mono ?_
            rintro e x1 ⟨rfl, hk⟩
            have kk1 : Kept (fun _ => False) wr x1 := hSd.trans hk
            clear hk
            refine hK.out _ _ (kk1) (fun _ => ?_)
            clear hK K
            try simp only [List.getElem_toArray]
            try simp only [List.getElem_cons_succ]
            try simp only [List.getElem_cons_zero]
            try simp only [Act.put]
            try simp only [List.setIfInBounds_toArray]
            try simp only [List.set_cons_succ]
            try simp only [List.set_cons_zero]
            refine wpAnyH_take (i := 25) (v := ?_) rfl (by kernel_rfl) (by kernel_rfl) (by kernel_rfl) (fun _ _ _ h => h) (Or.inl ⟨by kernel_rfl, fun W hSW => by go_simp; try with_reducible rfl⟩) (by assumption) ?_
            try simp only [List.getElem_toArray]
            try simp only [List.getElem_cons_succ]
            try simp only [List.getElem_cons_zero]
            try simp only [Act.put]
            try simp only [List.setIfInBounds_toArray]
            try simp only [List.set_cons_succ]
            try simp only [List.set_cons_zero]
            refine wpAnyH_take (i := 26) (v := ?_) rfl (by kernel_rfl) (by kernel_rfl) (by kernel_rfl) (fun _ _ _ h => h) (Or.inl ⟨by kernel_rfl, fun W hSW => by go_simp; try with_reducible rfl⟩) (by assumption) ?_
            try simp only [List.getElem_toArray]
            try simp only [List.getElem_cons_succ]
            try simp only [List.getElem_cons_zero]
            try simp only [Act.put]
            try simp only [List.setIfInBounds_toArray]
            try simp only [List.set_cons_succ]
            try simp only [List.set_cons_zero]
            refine wpAnyH_take (i := 27) (v := ?_) rfl (by kernel_rfl) (by kernel_rfl) (by kernel_rfl) (fun _ _ _ h => h) (Or.inl ⟨by kernel_rfl, fun W hSW => by go_simp; try with_reducible rfl⟩) (by assumption) ?_
            try simp only [List.getElem_toArray]
            try simp only [List.getElem_cons_succ]
            try simp only [List.getElem_cons_zero]
            try simp only [Act.put]
            try simp only [List.setIfInBounds_toArray]
            try simp only [List.set_cons_succ]
            try simp only [List.set_cons_zero]
            refine wpAnyH_take (i := 28) (v := ?_) rfl (by kernel_rfl) (by kernel_rfl) (by kernel_rfl) (fun _ _ _ h => h) (Or.inl ⟨by kernel_rfl, fun W hSW => by go_simp; try with_reducible rfl⟩) (by assumption) ?_
            try simp only [List.getElem_toArray]
            try simp only [List.getElem_cons_succ]
            try simp only [List.getElem_cons_zero]
            try simp only [Act.put]
            try simp only [List.setIfInBounds_toArray]
            try simp only [List.set_cons_succ]
            try simp only [List.set_cons_zero]
            refine wpAnyH_take (i := 29) (v := ?_) rfl (by kernel_rfl) (by kernel_rfl) (by kernel_rfl) (fun _ _ _ h => h) (Or.inl ⟨by kernel_rfl, fun W hSW => by go_simp; try with_reducible rfl⟩) (by assumption) ?_
            try simp only [List.getElem_toArray]
            try simp only [List.getElem_cons_succ]
            try simp only [List.getElem_cons_zero]
            try simp only [Act.put]
            try simp only [List.setIfInBounds_toArray]
            try simp only [List.set_cons_succ]
            try simp only [List.set_cons_zero]
            refine wpAnyH_take (i := 30) (v := ?_) rfl (by kernel_rfl) (by kernel_rfl) (by kernel_rfl) (fun _ _ _ h => h) (Or.inl ⟨by kernel_rfl, fun W hSW => by go_simp; try with_reducible rfl⟩) (by assumption) ?_
            try simp only [List.getElem_toArray]
            try simp only [List.getElem_cons_succ]
            try simp only [List.getElem_cons_zero]
            try simp only [Act.put]
            try simp only [List.setIfInBounds_toArray]
            try simp only [List.set_cons_succ]
            try simp only [List.set_cons_zero]
            refine wpAnyH_take (i := 32) (v := ?_) rfl (by kernel_rfl) (by kernel_rfl) (by kernel_rfl) (fun _ _ _ h => h) (Or.inl ⟨by kernel_rfl, fun W hSW => by go_simp; try with_reducible rfl⟩) (by assumption) ?_
            try simp only [List.getElem_toArray]
            try simp only [List.getElem_cons_succ]
            try simp only [List.getElem_cons_zero]
            try simp only [Act.put]
            try simp only [List.setIfInBounds_toArray]
            try simp only [List.set_cons_succ]
            try simp only [List.set_cons_zero]
            refine wpAnyH_ready (rs := [31]) (by kernel_rfl) (by simp) ?_
            refine AllReadyH.cons rfl (fun K hK => ?_) AllReadyH.nil
            go_simp
            refine (HFl.out _ kk1).mono ?_
            rintro e x2 ⟨rfl, hq⟩
            have kk2 : Kept (fun _ => False) wr x2 := by rw [hq]; exact kk1
            clear hq
            refine hK.out _ _ (kk2) (fun _ => ?_)
            clear hK K
            try simp only [List.getElem_toArray]
            try simp only [List.getElem_cons_succ]
            try simp only [List.getElem_cons_zero]
            try simp only [Act.put]
            try simp only [List.setIfInBounds_toArray]
            try simp only [List.set_cons_succ]
            try simp only [List.set_cons_zero]
            refine wpAnyH_take (i := 33) (v := ?_) rfl (by kernel_rfl) (by kernel_rfl) (by kernel_rfl) (fun _ _ _ h => h) (Or.inl ⟨by kernel_rfl, fun W hSW => by go_simp; try with_reducible rfl⟩) (by assumption) ?_
            try simp only [List.getElem_toArray]
            try simp only [List.getElem_cons_succ]
            try simp only [List.getElem_cons_zero]
            try simp only [Act.put]
            try simp only [List.setIfInBounds_toArray]
            try simp only [List.set_cons_succ]
            try simp only [List.set_cons_zero]
            refine wpAnyH_take (i := 34) (v := ?_) rfl (by kernel_rfl) (by kernel_rfl) (by kernel_rfl) (fun _ _ _ h => h) (Or.inl ⟨by kernel_rfl, fun W hSW => by go_simp; try with_reducible rfl⟩) (by assumption) ?_
            try simp only [List.getElem_toArray]
            try simp only [List.getElem_cons_succ]
            try simp only [List.getElem_cons_zero]
            try simp only [Act.put]
            try simp only [List.setIfInBounds_toArray]
            try simp only [List.set_cons_succ]
            try simp only [List.set_cons_zero]
            refine wpAnyH_done (by kernel_rfl) ?_ _
            have HKn := hid (HKx.out.trans kk2)
            clear zg zs ze kk1 kk2 HSm HFl HE
            go_wp2
            exact ⟨⟨k2 + 1, by omega, by go_num, HKn⟩, by simp [intOf]; omega⟩
          · have h2z : ¬ (k2 : Int) < 2 := by omega
            have HF : Hid (BrX first window w wr ad be bs bg bx at' (i + 1)) := ⟨_, _, _, _, _, _, _, _, _, _, _, _, ⟨HS.out.e.kept0 HKx.out, HS.out.inv, HS.out.few, HS.out.ways, HS.out.at60⟩⟩
            clear HS HKx HB2
            go_wp2
            exact ⟨⟨at', i + 1, hlt, by go_num, rfl, hat', HF⟩, by simp [intOf]; omega⟩
    · have hltz : ¬ (i : Int) < (l3.length : Int) := by omega
      obtain ⟨col, c, p, q, vs, vg, vx, S, G, W, aa, hh, H⟩ := HB.out
      have HK := hid H.e.kept
      clear HB H
      go_wp2_with fail
      refine (HA.out _).mono ?_
      rintro e w5 ⟨rfl, hk⟩
      have HK2 := hid (HK.out.trans hk)
      clear hk HA
      go_wp2
      go_returns
      exact ⟨rfl, HK2.out.below (Nat.le_refl _) (fun _ f => f.elim)⟩
end Go.Proofs.Ytoflohomnoppnaa
