/- The document's own store (tollgateref13): shut, judge, Wrong, Pap. -/
import Derived.Test.YtmbdjgfbhblifaaDoorStRef
namespace Go.Proofs.YtmbdjgfbhblifaaDoor
open Go.RowKit

/-- The store at b, wherever its row lies; and what a call leaves of it: nothing else has turned. -/
def SrAt (w : World) (base b : Nat) (limit calm : Int) (l : List Kn) : Prop := ∃ v, SrIn w base b v limit calm l
/-- From w to w' nothing has turned but the store at b and rows of names at base or behind. -/
def SrK (base b : Nat) (w w' : World) : Prop := Kept (fun i => i = b ∨ (base ≤ i ∧ ∃ cur, w.heap[i]? = some (.cells cur 58 (0, 0)))) w w'
theorem SrK.none {base b : Nat} {w w' : World} (h : Kept (fun _ => False) w w') : SrK base b w w' := h.mono (fun _ _ h => h.elim)
theorem SrK.trans {base b : Nat} {a c w : World} (h : SrK base b a w) (k : SrK base b w c) : SrK base b a c := by
  refine ⟨k.os.trans h.os, k.tape.trans h.tape, k.output.trans h.output, Nat.le_trans h.size k.size, fun i hi hn => ?_⟩
  have e := h.block i hi hn
  refine (k.block i (Nat.lt_of_lt_of_le hi h.size) (fun hh => hn ?_)).trans e
  rcases hh with hh | ⟨h1, cur, h2⟩
  · exact Or.inl hh
  · exact Or.inr ⟨h1, cur, by rw [← e]; exact h2⟩

section
variable {w : World} {base b : Nat} {limit calm : Int} {l : List Kn}

set_option maxHeartbeats 2000000 in
set_option maxRecDepth 100000 in
theorem rShut_any {v : Value} (h : SrIn w base b v limit calm l) (hc : 1 ≤ calm ∧ calm ≤ 1000000) (hl : FewK l) (i : Nat) (k : Kn) (hi : l[i]? = some k) (time : Int) (ht : -9223372036854775808 ≤ time ∧ time ≤ 9223372036854775807) :
    Calls Tryd.prog 34 #[.pointer (some ⟨b, 0, none⟩), .int .i64 (i : Int), .int .i64 time] w fun e w' => e = .returned (.bool (shutK limit calm k time)) ∧ Kept (fun _ => False) w w' := by
  obtain ⟨p, cap, rfl⟩ := slice_of h.own
  have hlt := (List.getElem?_eq_some_iff.1 hi).1
  obtain ⟨_, _, _, _, _, hb1, hb2⟩ := hl.2 k (List.mem_of_getElem? hi)
  have hlen := hl.1
  obtain ⟨g, rfl, _, _, hcap, hcm, hcs, _⟩ := h.own.at encK hi
  have n0 := hcs 0 _ rfl
  have n1 := hcs 1 _ rfl
  have n2 := hcs 2 _ rfl
  have n3 := hcs 3 _ rfl
  have n4 := hcs 4 _ rfl
  rw [Nat.add_zero] at n0
  have c2 := h.c2
  have hiz : (0 : Int) ≤ (i : Int) := by omega
  have hiz2 : (i : Int) < (l.length : Int) := by omega
  obtain ⟨kn, kr, ks, kw, kl⟩ := k
  simp only at n0 n1 n2 n3 n4 hb1 hb2
  have B5 : Hid ((w.alloc (.cells #[.string kn, .string kr, .string ks, .int .i64 kw, .int .i64 kl] 58)).heap[w.heap.size]? = some (.cells #[.string kn, .string kr, .string ks, .int .i64 kw, .int .i64 kl] 58 (0, 0))) := heap_alloc_new w _
  have K1 := hid ((Kept.refl (fun _ => False) w).alloc (.cells #[.string kn, .string kr, .string ks, .int .i64 kw, .int .i64 kl] 58))
  have H1 := hid (h.kept0 K1.out)
  unfold shutK
  simp only
  clear h hi hl hcs
  have fin : ∀ q : Bool, decide (limit ≠ 0 ∧ limit ≤ kw ∧ time - kl < calm) = q → Calls Tryd.prog 34 #[.pointer (some ⟨b, 0, none⟩), .int .i64 (i : Int), .int .i64 time] w fun e w' => e = .returned (.bool q) ∧ Kept (fun _ => False) w w' := by
    intro q hq
    have HQ := hid hq
    clear hq
    go_enter Tryd.func34, Tryd.ntmps34
    go_upto_region 2 with fail
    generalize w.alloc (.cells #[.string kn, .string kr, .string ks, .int .i64 kw, .int .i64 kl] 58) = W at *
    have m3 : W.cell? ⟨w.heap.size, 3, none⟩ = some (.int .i64 kw) := by simp [World.cell?, B5.out]
    have m4 : W.cell? ⟨w.heap.size, 4, none⟩ = some (.int .i64 kl) := by simp [World.cell?, B5.out]
    have q0 := H1.out.c0
    have q1 := H1.out.c1
    clear n0 n1 n2 n3 n4 c2
    by_cases e0 : limit = 0
    · have e0' : (limit == 0) = true := by simp [e0]
      have hq : q = false := by rw [← HQ.out]; simp [e0]
      subst hq
      clear HQ e0
      go_quiet (fail)
      go_wp2
      go_ret
      exact ⟨rfl, K1.out.drewN _⟩
    · have e0' : (limit == 0) = false := by simpa using e0
      by_cases e1 : kw < limit
      · have hq : q = false := by rw [← HQ.out]; simp; intro _ h; omega
        subst hq
        clear HQ e0
        go_quiet (fail)
        go_wp2
        go_ret
        exact ⟨rfl, K1.out.drewN _⟩
      · by_cases e2 : time < kl
        · have hq : q = true := by rw [← HQ.out]; simp; exact ⟨e0, by omega, by omega⟩
          subst hq
          clear HQ e0
          go_quiet (fail)
          go_wp2
          go_ret
          exact ⟨rfl, K1.out.drewN _⟩
        · by_cases e3 : time - kl < calm
          · have hq : q = true := by rw [← HQ.out]; simp; exact ⟨e0, by omega, by omega⟩
            subst hq
            have hw1 : IntKind.i64.wrap (time - kl) = time - kl := by rw [IntKind.wrap_i64]; omega
            have e4 : (0 : Int) ≤ time - kl := by omega
            clear HQ e0
            go_quiet (fail)
            go_wp2
            go_ret
            exact ⟨rfl, K1.out.drewN _⟩
          · have hq : q = false := by rw [← HQ.out]; simp; intro _ _; omega
            subst hq
            by_cases e5 : time - kl ≤ 9223372036854775807
            · have hw1 : IntKind.i64.wrap (time - kl) = time - kl := by rw [IntKind.wrap_i64]; omega
              have e4 : (0 : Int) ≤ time - kl := by omega
              clear HQ e0
              go_quiet (fail)
              go_wp2
              go_ret
              exact ⟨rfl, K1.out.drewN _⟩
            · obtain ⟨d, hd⟩ : ∃ d, d = time - kl - 18446744073709551616 := ⟨_, rfl⟩
              have hw1 : IntKind.i64.wrap (time - kl) = d := by rw [IntKind.wrap_i64]; omega
              have e4 : ¬ (0 : Int) ≤ d := by omega
              clear HQ e0 hd
              go_quiet (fail)
              go_wp2
              go_ret
              exact ⟨rfl, K1.out.drewN _⟩
  exact fin _ rfl

/-- One cell of a name is written. -/
theorem SrIn.setRow {g n cap : Nat} (h : SrIn w base b (.slice (some ⟨g, 0, none⟩) n cap) limit calm l) {j : Nat} {x y : Kn} (hj : l[j]? = some x) (i : Nat) (hi : i < 5) (u : Value) (hy : knCells y = (knCells x).set i u) :
    SrIn (w.setCell ⟨g, j * 5 + i, none⟩ u) base b (.slice (some ⟨g, 0, none⟩) n cap) limit calm (l.set j y) :=
  ⟨(Below.heap_setCell w _ u b (fun e => h.ne (i := g) rfl e.symm)).trans h.blk, h.own.setAt encK hj i hi u hy⟩
theorem SrIn.inS {g n cap : Nat} (h : SrIn w base b (.slice (some ⟨g, 0, none⟩) n cap) limit calm l) : g = b ∨ (base ≤ g ∧ ∃ cur, w.heap[g]? = some (.cells cur 58 (0, 0))) :=
  Or.inr ⟨(h.own.block rfl).2.1, (h.own.block rfl).1⟩

set_option maxHeartbeats 2000000 in
set_option maxRecDepth 100000 in
theorem rJudge_any {v : Value} (h : SrIn w base b v limit calm l) (hc : 1 ≤ calm ∧ calm ≤ 1000000) (hl : FewK l) (i : Nat) (k : Kn) (hi : l[i]? = some k) (good : Bool) (time : Int) (ht : -9223372036854775808 ≤ time ∧ time ≤ 9223372036854775807) :
    Calls Tryd.prog 25 #[.pointer (some ⟨b, 0, none⟩), .int .i64 (i : Int), .bool good, .int .i64 time] w fun e w' => e = .returned (.int .i64 (judgeK limit calm l i k good time).1) ∧ SrAt w' base b limit calm (judgeK limit calm l i k good time).2 ∧ SrK base b w w' := by
  obtain ⟨p, cap, rfl⟩ := slice_of h.own
  have HS := hid (rShut_any h hc hl i k hi time ht)
  have hlt := (List.getElem?_eq_some_iff.1 hi).1
  obtain ⟨_, _, _, hk1, hk2, hb1, hb2⟩ := hl.2 k (List.mem_of_getElem? hi)
  have hlen := hl.1
  obtain ⟨g, rfl, _, _, hcap, hcm, _, _⟩ := h.own.at encK hi
  have hiz : (0 : Int) ≤ (i : Int) := by omega
  have hiz2 : (i : Int) < (l.length : Int) := by omega
  have HI := hid h
  have HX := hid hi
  unfold judgeK
  generalize hB : shutK limit calm k time = B at *
  clear h hi hl hB
  cases B with
  | true =>
    rw [if_pos rfl]
    go_enter Tryd.func25, Tryd.ntmps25
    go_wp2_with fail
    refine HS.out.mono ?_
    rintro e w1 ⟨rfl, hk⟩
    have HK := hid hk
    clear hk
    go_wp2
    go_ret
    exact ⟨rfl, ⟨_, HI.out.kept0 HK.out⟩, SrK.none HK.out⟩
  | false =>
    rw [if_neg (by simp)]
    cases good with
    | true =>
      rw [if_pos rfl]
      go_enter Tryd.func25, Tryd.ntmps25
      go_wp2_with fail
      refine HS.out.mono ?_
      rintro e w1 ⟨rfl, hk⟩
      have HK := hid hk
      have H1 := hid (HI.out.kept0 hk)
      have c2 := H1.out.c2
      obtain ⟨g', e', _, _, _, _, hcs, hfz⟩ := H1.out.own.at encK HX.out
      cases e'
      have n3 := hcs 3 _ rfl
      have f3 := hfz (i * 5 + 3)
      have H2 := hid (H1.out.setRow HX.out 3 (by decide) (.int .i64 0) (y := { k with wrong := 0 }) rfl)
      have K2 : Hid (SrK base b w (w1.setCell ⟨g, i * 5 + 3, none⟩ (.int .i64 0))) := (SrK.none HK.out).setCell (p := ⟨g, i * 5 + 3, none⟩) (Or.inr HI.out.inS) _
      clear hk hcs hfz H1 HK
      go_wp2
      go_ret
      exact ⟨rfl, ⟨_, H2.out⟩, K2.out⟩
    | false =>
      rw [if_neg (by simp)]
      have hw1 : IntKind.i64.wrap (k.wrong + 1) = k.wrong + 1 := by rw [IntKind.wrap_i64]; omega
      go_enter Tryd.func25, Tryd.ntmps25
      go_wp2_with fail
      refine HS.out.mono ?_
      rintro e w1 ⟨rfl, hk⟩
      have HK := hid hk
      have H1 := hid (HI.out.kept0 hk)
      have c2 := H1.out.c2
      obtain ⟨g', e', _, _, _, _, hcs, hfz⟩ := H1.out.own.at encK HX.out
      cases e'
      have n3 := hcs 3 _ rfl
      have f3 := hfz (i * 5 + 3)
      have H2 := hid (H1.out.setRow HX.out 3 (by decide) (.int .i64 (k.wrong + 1)) (y := { k with wrong := k.wrong + 1 }) rfl)
      have K2 : Hid (SrK base b w (w1.setCell ⟨g, i * 5 + 3, none⟩ (.int .i64 (k.wrong + 1)))) := (SrK.none HK.out).setCell (p := ⟨g, i * 5 + 3, none⟩) (Or.inr HI.out.inS) _
      have HX2 : Hid ((l.set i { k with wrong := k.wrong + 1 })[i]? = some { k with wrong := k.wrong + 1 }) := by
        show (l.set i { k with wrong := k.wrong + 1 })[i]? = some { k with wrong := k.wrong + 1 }
        simp [hlt]
      clear hk hcs hfz H1 HK
      go_upto_region 7 with fail
      generalize w1.setCell ⟨g, i * 5 + 3, none⟩ (.int .i64 (k.wrong + 1)) = W2 at *
      have q2 := H2.out.c2
      obtain ⟨g', e', hnn, _, _, _, hcs2, hfz2⟩ := H2.out.own.at encK HX2.out
      clear hnn
      cases e'
      have m4 := hcs2 4 _ rfl
      have f4 := hfz2 (i * 5 + 4)
      have H3 := H2.out.setRow HX2.out 4 (by decide) (.int .i64 time) (y := { k with wrong := k.wrong + 1, last := time }) rfl
      rw [List.set_set] at H3
      have HH3 := hid H3
      have K3 : Hid (SrK base b w (W2.setCell ⟨g, i * 5 + 4, none⟩ (.int .i64 time))) := K2.out.setCell (p := ⟨g, i * 5 + 4, none⟩) (Or.inr HI.out.inS) _
      simp only at m4
      clear H3 hcs2 hfz2 H2 K2 n3 f3 c2
      go_wp2
      go_ret
      exact ⟨rfl, ⟨_, HH3.out⟩, K3.out⟩

set_option maxHeartbeats 2000000 in
set_option maxRecDepth 100000 in
theorem rWrong_any {v : Value} (h : SrIn w base b v limit calm l) (hl : FewK l) (s : ByteArray) (hs : s.size ≤ 1000000) :
    Calls Tryd.prog 16 #[.pointer (some ⟨b, 0, none⟩), .string s] w fun e w' => e = .returned (.int .i64 (wrongK l s)) ∧ Kept (fun _ => False) w w' := by
  have HF := hid (rFind_any h hl s hs)
  have HI := hid h
  unfold wrongK
  cases hf : findK l (splitF s) with
  | none =>
    rw [hf] at HF
    clear h
    go_enter Tryd.func16, Tryd.ntmps16
    go_wp2_with fail
    refine HF.out.mono ?_
    rintro e w1 ⟨rfl, hk⟩
    have hm : idxI none = -1 := rfl
    go_wp2
    go_ret
    exact ⟨rfl, hk⟩
  | some i =>
    rw [hf] at HF
    obtain ⟨k, hk, _⟩ := findK_some hf
    have hlt := (List.getElem?_eq_some_iff.1 hk).1
    have hlen := hl.1
    obtain ⟨p, cap, rfl⟩ := slice_of h.own
    obtain ⟨g, rfl, _, _, hcap, hcm, _, _⟩ := h.own.at encK hk
    have hiz : (0 : Int) ≤ (i : Int) := by omega
    have hin : ¬ (i : Int) < 0 := by omega
    have hiz2 : (i : Int) < (l.length : Int) := by omega
    have HX := hid hk
    simp only [hk]
    have hm : idxI (some i) = (i : Int) := rfl
    rw [hm] at HF
    clear h hk hf hm hl
    go_enter Tryd.func16, Tryd.ntmps16
    go_wp2_with fail
    refine HF.out.mono ?_
    rintro e w1 ⟨rfl, hk⟩
    have HK := hid hk
    have H1 := hid (HI.out.kept0 hk)
    have c2 := H1.out.c2
    obtain ⟨g', e', _, _, _, _, hcs, hfz⟩ := H1.out.own.at encK HX.out
    cases e'
    have n3 := hcs 3 _ rfl
    clear hk hcs hfz H1
    go_wp2
    go_ret
    exact ⟨rfl, HK.out⟩

set_option maxHeartbeats 2000000 in
set_option maxRecDepth 100000 in
theorem rPap_any {v : Value} (h : SrIn w base b v limit calm l) (hc : 1 ≤ calm ∧ calm ≤ 1000000) (hl : FewK l) (s x : ByteArray) (hs : s.size ≤ 1000000) (time : Int) (ht : -9223372036854775808 ≤ time ∧ time ≤ 9223372036854775807) :
    Calls Tryd.prog 11 #[.pointer (some ⟨b, 0, none⟩), .string s, .string x, .int .i64 time] w fun e w' => e = .returned (.int .i64 (tryK limit calm l s (fun y => y.toList == x.toList) time).1) ∧ SrAt w' base b limit calm (tryK limit calm l s (fun y => y.toList == x.toList) time).2 ∧ SrK base b w w' := by
  have HF := hid (rFind_any h hl s hs)
  have HI := hid h
  unfold tryK
  cases hf : findK l (splitF s) with
  | none =>
    rw [hf] at HF
    clear h
    go_enter Tryd.func11, Tryd.ntmps11
    go_wp2_with fail
    refine HF.out.mono ?_
    rintro e w1 ⟨rfl, hk⟩
    have hm : idxI none = -1 := rfl
    have HK := hid hk
    clear hk
    go_wp2
    go_ret
    exact ⟨rfl, ⟨_, HI.out.kept0 HK.out⟩, SrK.none HK.out⟩
  | some i =>
    rw [hf] at HF
    obtain ⟨k, hk, _⟩ := findK_some hf
    have hlt := (List.getElem?_eq_some_iff.1 hk).1
    have hlen := hl.1
    obtain ⟨p, cap, rfl⟩ := slice_of h.own
    obtain ⟨g, rfl, _, _, hcap, hcm, _, _⟩ := h.own.at encK hk
    have hiz : (0 : Int) ≤ (i : Int) := by omega
    have hin : ¬ (i : Int) < 0 := by omega
    have hiz2 : (i : Int) < (l.length : Int) := by omega
    have HX := hid hk
    simp only [hk]
    have hm : idxI (some i) = (i : Int) := rfl
    rw [hm] at HF
    have HJ := hid (fun W (hW : SrIn W base b (.slice (some ⟨g, 0, none⟩) l.length cap) limit calm l) => rJudge_any hW hc hl i k hk (k.secret.toList == x.toList) time ht)
    generalize judgeK limit calm l i k (k.secret.toList == x.toList) time = R at *
    clear h hk hf hm hl
    go_enter Tryd.func11, Tryd.ntmps11
    go_wp2_with fail
    refine HF.out.mono ?_
    rintro e w1 ⟨rfl, hk⟩
    have HK := hid hk
    have H1 := hid (HI.out.kept0 hk)
    have c2 := H1.out.c2
    obtain ⟨g', e', _, _, _, _, hcs, hfz⟩ := H1.out.own.at encK HX.out
    cases e'
    have n2 := hcs 2 _ rfl
    clear hk hcs hfz
    go_wp2_with fail
    refine (HJ.out _ H1.out).mono ?_
    rintro e w2 ⟨rfl, hA, hK2⟩
    have HA := hid hA
    have HK2 := hid ((SrK.none HK.out).trans hK2)
    clear hA hK2
    go_wp2
    go_ret
    exact ⟨rfl, HA.out, HK2.out⟩

set_option maxHeartbeats 2000000 in
set_option maxRecDepth 100000 in
theorem rChap_any {K : Int → ByteArray → ByteArray → ByteArray} (hK : ∀ i (s v : ByteArray) W, s.size ≤ 1000000 → v.size ≤ 1000000 → Calls Tryd.prog 27 #[.int .i64 i, .string s, .string v] W fun e w' => e = .returned (.string (K i s v)) ∧ Kept (fun _ => False) W w')
    {v : Value} (h : SrIn w base b v limit calm l) (hc : 1 ≤ calm ∧ calm ≤ 1000000) (hl : FewK l) (s x y : ByteArray) (hs : s.size ≤ 1000000) (hx : x.size ≤ 1000000) (id : Int) (time : Int) (ht : -9223372036854775808 ≤ time ∧ time ≤ 9223372036854775807) :
    Calls Tryd.prog 13 #[.pointer (some ⟨b, 0, none⟩), .string s, .int .i64 id, .string x, .string y, .int .i64 time] w fun e w' => e = .returned (.int .i64 (tryK limit calm l s (fun z => (K id z x).toList == y.toList) time).1) ∧ SrAt w' base b limit calm (tryK limit calm l s (fun z => (K id z x).toList == y.toList) time).2 ∧ SrK base b w w' := by
  have HF := hid (rFind_any h hl s hs)
  have HI := hid h
  unfold tryK
  cases hf : findK l (splitF s) with
  | none =>
    rw [hf] at HF
    clear h
    go_enter Tryd.func13, Tryd.ntmps13
    go_wp2_with fail
    refine HF.out.mono ?_
    rintro e w1 ⟨rfl, hk⟩
    have hm : idxI none = -1 := rfl
    have HK := hid hk
    clear hk
    go_wp2
    go_ret
    exact ⟨rfl, ⟨_, HI.out.kept0 HK.out⟩, SrK.none HK.out⟩
  | some i =>
    rw [hf] at HF
    obtain ⟨k, hk, _⟩ := findK_some hf
    have hlt := (List.getElem?_eq_some_iff.1 hk).1
    have hlen := hl.1
    obtain ⟨p, cap, rfl⟩ := slice_of h.own
    obtain ⟨g, rfl, _, _, hcap, hcm, _, _⟩ := h.own.at encK hk
    have hiz : (0 : Int) ≤ (i : Int) := by omega
    have hin : ¬ (i : Int) < 0 := by omega
    have hiz2 : (i : Int) < (l.length : Int) := by omega
    have HX := hid hk
    have HC := hid (fun W => hK id k.secret x W (hl.2 k (List.mem_of_getElem? hk)).2.2.1 hx)
    simp only [hk]
    have hm : idxI (some i) = (i : Int) := rfl
    rw [hm] at HF
    have HJ := hid (fun W (hW : SrIn W base b (.slice (some ⟨g, 0, none⟩) l.length cap) limit calm l) => rJudge_any hW hc hl i k hk ((K id k.secret x).toList == y.toList) time ht)
    generalize K id k.secret x = KK at *
    generalize judgeK limit calm l i k (KK.toList == y.toList) time = R at *
    clear h hk hf hm hl
    go_enter Tryd.func13, Tryd.ntmps13
    go_wp2_with fail
    refine HF.out.mono ?_
    rintro e w1 ⟨rfl, hk⟩
    have HK := hid hk
    have H1 := hid (HI.out.kept0 hk)
    have c2 := H1.out.c2
    obtain ⟨g', e', _, _, _, _, hcs, hfz⟩ := H1.out.own.at encK HX.out
    cases e'
    have n2 := hcs 2 _ rfl
    clear hk hcs hfz
    go_wp2_with fail
    refine (HC.out _).mono ?_
    rintro e w2 ⟨rfl, hk2⟩
    have HK2 := hid (HK.out.trans hk2)
    have H2 := hid (H1.out.kept0 hk2)
    clear hk2 H1 HK
    go_wp2_with fail
    refine (HJ.out _ H2.out).mono ?_
    rintro e w3 ⟨rfl, hA, hK3⟩
    have HA := hid hA
    have HK3 := hid ((SrK.none HK2.out).trans hK3)
    clear hA hK3
    go_wp2
    go_ret
    exact ⟨rfl, HA.out, HK3.out⟩

/-- What NewStore answers. -/
def RNewSt (limit calm : Int) (w : World) (e : Ending) (w' : World) : Prop :=
  ((¬ (0 ≤ limit ∧ limit ≤ 100 ∧ 1 ≤ calm ∧ calm ≤ 1000) ∧ e = .returned (.tuple #[.pointer none, .int .i64 1])) ∨
   ((0 ≤ limit ∧ limit ≤ 100 ∧ 1 ≤ calm ∧ calm ≤ 1000) ∧ e = .returned (.tuple #[.pointer (some ⟨w.heap.size, 0, none⟩), .int .i64 0]) ∧ SrIn w' w.heap.size w.heap.size (.slice none 0 0) limit calm [])) ∧ Kept (fun _ => False) w w'
set_option maxHeartbeats 1000000 in
set_option maxRecDepth 100000 in
theorem rNewStore_any (limit calm : Int) (w : World) : Calls Tryd.prog 7 #[.int .i64 limit, .int .i64 calm] w (RNewSt limit calm w) := by
  by_cases q1 : limit < 0
  · go_enter Tryd.func7, Tryd.ntmps7
    go_wp2
    go_ret2
    exact ⟨Or.inl ⟨by omega, rfl⟩, Kept.refl _ _⟩
  · by_cases q2 : 100 < limit
    · go_enter Tryd.func7, Tryd.ntmps7
      go_wp2
      go_ret2
      exact ⟨Or.inl ⟨by omega, rfl⟩, Kept.refl _ _⟩
    · by_cases q3 : calm < 1
      · go_enter Tryd.func7, Tryd.ntmps7
        go_wp2
        go_ret2
        exact ⟨Or.inl ⟨by omega, rfl⟩, Kept.refl _ _⟩
      · by_cases q4 : 1000 < calm
        · go_enter Tryd.func7, Tryd.ntmps7
          go_wp2
          go_ret2
          exact ⟨Or.inl ⟨by omega, rfl⟩, Kept.refl _ _⟩
        · go_enter Tryd.func7, Tryd.ntmps7
          go_wp2
          go_ret2
          exact ⟨Or.inr ⟨by omega, rfl, heap_alloc_new w _, OwnG.nil _ _⟩, (Kept.refl _ w).alloc _⟩
end
end Go.Proofs.YtmbdjgfbhblifaaDoor
