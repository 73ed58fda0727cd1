/- The document's own NewPap, Take, Serve and Answer (tollgateref13). -/
import Derived.Test.YtifkiiplknkgnaaGreatPaRefC
namespace Go.Proofs.YtifkiiplknkgnaaGreat
open Go.RowKit

set_option maxHeartbeats 2000000 in
set_option maxRecDepth 100000 in
theorem rTake_any (b : Nat) (nm sc : ByteArray) (c : Pc) (code id : Int) (p : Option Addr) (n cap : Nat) (s : ByteArray) (w : World) (h : RpIn w b (rpOf nm sc c)) :
    Calls Tryz.prog 13 #[.pointer (some ⟨b, 0, none⟩), pkV code id (.slice p n cap) s] w fun e w' => e = .returned (.tuple #[]) ∧ RpIn w' b (rpOf nm sc (takeC c code id)) ∧ Kept (fun i => i = b) w w' := by
  unfold pkV
  have hk := (Kept.refl (fun _ => False) w).alloc (.cells #[.int .i64 code, .int .i64 id, .slice p n cap, .string s] 56)
  have h1 := h.kept0 hk
  have H1 := hid h1
  have K1 := hid (Kept.ofNone (b := b) hk)
  obtain ⟨d0, d1, d2, d3⟩ := (PkAt.new w code id (.slice p n cap) s).cells
  have c4 := h1.c4
  have c7 := h1.c7
  have f7 := h1.fz 7
  simp only [rpOf] at c4 c7
  unfold takeC
  by_cases hs : c.st = 1
  · rw [show (c.st == 1) = true by simp [hs]] at c7
    by_cases hi : id = c.id
    · rw [if_pos ⟨hs, hi⟩]
      have hid' : (id == c.id) = true := by simp [hi]
      by_cases e2 : code = 2
      · rw [if_pos e2]
        have HR : Hid (rpOf nm sc { c with st := 2 } = { { { rpOf nm sc c with asks := false } with done := true } with good := true }) := rfl
        have e2' : (code == 2) = true := by simp [e2]
        have e2'' : (Value.bool (code == 2)) = .bool true := by rw [e2']
        clear hs hi h h1 hk e2
        go_enter Tryz.func13, Tryz.ntmps13
        go_upto_region 1 with fail
        generalize hW : w.alloc (.cells #[.int .i64 code, .int .i64 id, .slice p n cap, .string s] 56) = W at *
        clear hW
        have c8 := H1.out.c8
        have f8 := H1.out.fz 8
        have c9 := H1.out.c9
        have f9 := H1.out.fz 9
        have H2 := hid (H1.out.set7 false)
        have H3 := hid (H2.out.set8 true)
        have H4 := hid (H3.out.set9 true)
        have K4 := hid (((K1.out.own 7 (.bool false)).own 8 (.bool true)).own 9 (.bool true))
        simp only [rpOf] at c8 c9
        go_quiet (fail)
        go_wp2
        go_region
        all_goals
          go_wp2
          go_end0
          exact ⟨rfl, by rw [HR.out]; exact H4.out, (K4.out.drewN _).drew⟩
      · rw [if_neg e2]
        have e2' : (code == 2) = false := by simpa using e2
        by_cases e3 : code = 3
        · rw [if_pos e3]
          have HR : Hid (rpOf nm sc { c with st := 3 } = { { { rpOf nm sc c with asks := false } with done := true } with good := false }) := rfl
          have e3' : (code == 3) = true := by simp [e3]
          clear hs hi h h1 hk e2 e3
          go_enter Tryz.func13, Tryz.ntmps13
          go_upto_region 1 with fail
          generalize hW : w.alloc (.cells #[.int .i64 code, .int .i64 id, .slice p n cap, .string s] 56) = W at *
          clear hW
          have c8 := H1.out.c8
          have f8 := H1.out.fz 8
          have c9 := H1.out.c9
          have f9 := H1.out.fz 9
          have H2 := hid (H1.out.set7 false)
          have H3 := hid (H2.out.set8 true)
          have H4 := hid (H3.out.set9 false)
          have K4 := hid (((K1.out.own 7 (.bool false)).own 8 (.bool true)).own 9 (.bool false))
          simp only [rpOf] at c8 c9
          go_quiet (fail)
          go_wp2
          go_region
          all_goals
            go_wp2
            go_end0
            exact ⟨rfl, by rw [HR.out]; exact H4.out, (K4.out.drewN _).drew⟩
        · rw [if_neg e3]
          have e3' : (code == 3) = false := by simpa using e3
          clear hs hi h h1 hk e2 e3
          go_enter Tryz.func13, Tryz.ntmps13
          go_upto_region 1 with fail
          generalize hW : w.alloc (.cells #[.int .i64 code, .int .i64 id, .slice p n cap, .string s] 56) = W at *
          clear hW
          go_quiet (fail)
          go_wp2
          go_end0
          exact ⟨rfl, H1.out, K1.out.drewN _⟩
    · rw [if_neg (fun h => hi h.2)]
      have hid' : (id == c.id) = false := by simpa using hi
      clear hs hi h h1 hk
      go_enter Tryz.func13, Tryz.ntmps13
      go_upto_region 1 with fail
      generalize hW : w.alloc (.cells #[.int .i64 code, .int .i64 id, .slice p n cap, .string s] 56) = W at *
      clear hW
      go_quiet (fail)
      go_wp2
      go_end0
      exact ⟨rfl, H1.out, K1.out.drewN _⟩
  · rw [if_neg (fun h => hs h.1)]
    rw [show (c.st == 1) = false by simpa using hs] at c7
    clear hs h h1 hk
    go_enter Tryz.func13, Tryz.ntmps13
    go_upto_region 1 with fail
    generalize hW : w.alloc (.cells #[.int .i64 code, .int .i64 id, .slice p n cap, .string s] 56) = W at *
    clear hW
    go_quiet (fail)
    go_wp2
    go_end0
    exact ⟨rfl, H1.out, K1.out.drewN _⟩

set_option maxHeartbeats 1000000 in
set_option maxRecDepth 100000 in
theorem rServe_any (code id : Int) (p : Option Addr) (n cap : Nat) (s : ByteArray) (hs : s.size ≤ 140737488351232) (w : World) :
    Calls Tryz.prog 17 #[pkV code id (.slice p n cap) s] w fun e w' => e = .returned (.tuple #[.string (serveF code n s).1, .string (serveF code n s).2.1, .bool (serveF code n s).2.2]) ∧ Kept (fun _ => False) w w' := by
  unfold pkV
  have K1 := hid ((Kept.refl (fun _ => False) w).alloc (.cells #[.int .i64 code, .int .i64 id, .slice p n cap, .string s] 56))
  obtain ⟨d0, d1, d2, d3⟩ := (PkAt.new w code id (.slice p n cap) s).cells
  unfold serveF
  by_cases h1 : code = 1
  · have h1' : (code != 1) = false := by simp [h1]
    by_cases h2 : 0 < n
    · rw [if_pos (Or.inr h2)]
      have h2z : (0 : Int) < (n : Int) := by omega
      clear h1 h2
      go_enter Tryz.func17, Tryz.ntmps17
      go_wp2
      go_ret3
      exact ⟨rfl, K1.out⟩
    · rw [if_neg (by rintro (h | h); exact h h1; exact h2 h)]
      have h2z : ¬ (0 : Int) < (n : Int) := by omega
      have HG := hid (rGetReq_any s hs)
      generalize getReqF s = R at *
      obtain ⟨x, y, E⟩ := R
      simp only at HG ⊢
      clear h1 h2
      go_enter Tryz.func17, Tryz.ntmps17
      go_wp2_with fail
      refine (HG.out _).mono ?_
      rintro e w1 ⟨rfl, hk1⟩
      go_wp2
      go_ret3
      exact ⟨rfl, K1.out.trans hk1⟩
  · rw [if_pos (Or.inl h1)]
    have h1' : (code != 1) = true := by simpa using h1
    clear h1
    go_enter Tryz.func17, Tryz.ntmps17
    go_wp2
    go_ret3
    exact ⟨rfl, K1.out⟩

set_option maxHeartbeats 1000000 in
set_option maxRecDepth 100000 in
theorem rAnswer_any (code id : Int) (p : Option Addr) (n cap : Nat) (s : ByteArray) (good : Bool) (w : World) :
    Calls Tryz.prog 20 #[pkV code id (.slice p n cap) s, .bool good] w fun e w' => e = .returned (pqV (answerQ id good)) ∧ Kept (fun _ => False) w w' := by
  unfold pkV pqV
  have P1 := (PkAt.new w code id (.slice p n cap) s).kept ((Kept.refl (fun _ => False) _).alloc (.cells #[.int .i64 0, .int .i64 0, .slice none 0 0, .string ⟨#[]⟩] 56)) (fun h => h)
  have K0 := hid ((Kept.refl (fun _ => False) w).alloc (.cells #[.int .i64 code, .int .i64 id, .slice p n cap, .string s] 56))
  obtain ⟨d0, d1, d2, d3⟩ := P1.cells
  clear P1
  cases good with
  | false =>
    go_enter Tryz.func20, Tryz.ntmps20
    go_wp2
    refine bodyPost_ret (v := .agg #[.int .i64 3, .int .i64 id, .slice none 0 0, .string ⟨#[2, 110, 111]⟩]) (by simp [results, Tryz.results20, go_sem]) rfl ⟨rfl, ?_⟩
    exact K0.out.alloc _
  | true =>
    go_enter Tryz.func20, Tryz.ntmps20
    go_wp2
    refine bodyPost_ret (v := .agg #[.int .i64 2, .int .i64 id, .slice none 0 0, .string ⟨#[2, 111, 107]⟩]) (by simp [results, Tryz.results20, go_sem]) rfl ⟨rfl, ?_⟩
    exact K0.out.alloc _

/-- NewPap, where the program's New answers a client, and where it answers an error. -/
def RNewIs (n s : ByteArray) (R : ByteArray × Int) (retry wait : Int) (w : World) (e : Ending) (w' : World) : Prop :=
  ((∃ E : Int, E ≠ 0 ∧ R.2 = E ∧ e = .returned (.tuple #[.pointer none, .int .i64 E])) ∨
   (R.2 = 0 ∧ ¬ (0 ≤ retry ∧ retry ≤ 10 ∧ 1 ≤ wait ∧ wait ≤ 100) ∧ e = .returned (.tuple #[.pointer none, .int .i64 1])) ∨
   (R.2 = 0 ∧ (0 ≤ retry ∧ retry ≤ 10 ∧ 1 ≤ wait ∧ wait ≤ 100) ∧ e = .returned (.tuple #[.pointer (some ⟨w.heap.size, 0, none⟩), .int .i64 0]) ∧ RpIn w' w.heap.size (rpOf n s (newC R.1 retry wait)))) ∧ Kept (fun _ => False) w w'

set_option maxHeartbeats 1000000 in
set_option maxRecDepth 100000 in
theorem rNew_any (n s : ByteArray) (hn : n.size ≤ 140737488351232) (hs : s.size ≤ 140737488351232) (retry wait : Int) (w : World) :
    Calls Tryz.prog 7 #[.string n, .string s, .int .i64 retry, .int .i64 wait] w (RNewIs n s (putReqF n s) retry wait w) := by
  have hp : putReqF n s = if (longB n || longB s) = true then (⟨#[]⟩, 2) else (layF n ++ layF s, 0) := rfl
  rw [hp]
  clear hp
  cases h1 : longB n with
  | true =>
    rw [if_pos (by rfl)]
    have h1z : (60 : Int) < (n.size : Int) := by have := longB_yes h1; omega
    clear h1
    go_enter Tryz.func7, Tryz.ntmps7
    go_wp2
    go_ret2
    exact ⟨Or.inl ⟨2, by decide, rfl, rfl⟩, Kept.refl _ _⟩
  | false =>
    have h1z : ¬ (60 : Int) < (n.size : Int) := by have := longB_no h1; omega
    cases h2 : longB s with
    | true =>
      rw [if_pos (by rfl)]
      have h2z : (60 : Int) < (s.size : Int) := by have := longB_yes h2; omega
      clear h1 h2
      go_enter Tryz.func7, Tryz.ntmps7
      go_wp2
      go_ret2
      exact ⟨Or.inl ⟨2, by decide, rfl, rfl⟩, Kept.refl _ _⟩
    | false =>
      rw [if_neg (by simp)]
      have h2z : ¬ (60 : Int) < (s.size : Int) := by have := longB_no h2; omega
      clear h1 h2
      generalize layF n ++ layF s = D
      by_cases q1 : retry < 0
      · go_enter Tryz.func7, Tryz.ntmps7
        go_wp2
        go_ret2
        exact ⟨Or.inr (Or.inl ⟨rfl, by omega, rfl⟩), Kept.refl _ _⟩
      · by_cases q2 : 10 < retry
        · go_enter Tryz.func7, Tryz.ntmps7
          go_wp2
          go_ret2
          exact ⟨Or.inr (Or.inl ⟨rfl, by omega, rfl⟩), Kept.refl _ _⟩
        · by_cases q3 : wait < 1
          · go_enter Tryz.func7, Tryz.ntmps7
            go_wp2
            go_ret2
            exact ⟨Or.inr (Or.inl ⟨rfl, by omega, rfl⟩), Kept.refl _ _⟩
          · by_cases q4 : 100 < wait
            · go_enter Tryz.func7, Tryz.ntmps7
              go_wp2
              go_ret2
              exact ⟨Or.inr (Or.inl ⟨rfl, by omega, rfl⟩), Kept.refl _ _⟩
            · go_enter Tryz.func7, Tryz.ntmps7
              go_wp2
              go_ret2
              exact ⟨Or.inr (Or.inr ⟨rfl, by omega, rfl, heap_alloc_new w _⟩), (Kept.refl _ w).alloc _⟩
end Go.Proofs.YtifkiiplknkgnaaGreat
