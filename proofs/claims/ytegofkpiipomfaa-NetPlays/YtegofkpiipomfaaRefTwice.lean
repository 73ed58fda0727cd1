/- The contract of the document's Twice. -/
import Derived.Test.YtegofkpiipomfaaRefDeliver
import Derived.Test.YtegofkpiipomfaaTwice
import Derived.Test.YtegofkpiipomfaaHeldBut
namespace Go.Proofs.Ytegofkpiipomfaa
open Go.RowKit

section
variable {T : Nat → Prop} {w : World} {r : Nat} {s : RefSt}

theorem refTwice_no (h : RefAt T w r s) (i : Int) (hi : i < 0 ∨ (s.grams.length : Int) ≤ i) :
    Calls Try.prog 13 #[.pointer (some ⟨r, 0, none⟩), .int .i64 i] w fun e w' => e = .returned (.int .i64 3) ∧ w' = w := by
  have Hp := hid (refHas_any h i)
  rw [show hasB s.grams.length i = false from decide_eq_false (by omega)] at Hp
  clear h hi
  go_enter Try.func13, Try.ntmps13
  go_wp2_with fail
  refine (Hp.out).mono ?_
  rintro e' w' ⟨rfl, rfl⟩
  go_wp2
  go_ret
  exact ⟨rfl, rfl⟩

theorem refTwice_full (h : RefAt T w r s) (j : Nat) (hj : j < s.grams.length) (h6 : 600 ≤ s.grams.length) :
    Calls Try.prog 13 #[.pointer (some ⟨r, 0, none⟩), .int .i64 (j : Int)] w fun e w' => e = .returned (.int .i64 10) ∧ w' = w := by
  have Hp := hid (refHas_any h (j : Int))
  rw [show hasB s.grams.length (j : Int) = true from decide_eq_true ⟨by omega, by omega⟩] at Hp
  obtain ⟨lv, wv, h1, _⟩ := h
  obtain ⟨p, c, rfl⟩ := slice_of_ref h1
  have c0 := h1.c0
  have h6z : (600 : Int) ≤ (s.grams.length : Int) := by omega
  clear h1 hj h6
  go_enter Try.func13, Try.ntmps13
  go_wp2_with fail
  refine (Hp.out).mono ?_
  rintro e' w' ⟨rfl, rfl⟩
  go_wp2
  go_ret
  exact ⟨rfl, rfl⟩


set_option maxHeartbeats 20000000 in
set_option maxRecDepth 100000 in
theorem refTwice_ok (h : RefAt T w r s) (j : Nat) (hj : j < s.grams.length) (h6 : s.grams.length < 600) :
    Calls Try.prog 13 #[.pointer (some ⟨r, 0, none⟩), .int .i64 (j : Int)] w fun e w' => e = .returned (.int .i64 0) ∧ RNext T w w' r { s with grams := insG s.grams (j + 1) (getG s.grams j) } := by
  have Hp := hid (refHas_any h (j : Int))
  rw [show hasB s.grams.length (j : Int) = true from decide_eq_true ⟨by omega, by omega⟩] at Hp
  obtain ⟨lv, wv, hN, hT⟩ := h
  rcases hN.own.cases with ⟨_, e⟩ | ⟨g, cap, rfl, _, hr⟩
  · rw [e] at hj
    cases hj
  have hle := hr.le
  have h63 := hr.le63
  have hgl := hr.lt
  have hrl := hN.lt (Or.inl rfl)
  have hgx := getG_at hj
  obtain ⟨x, hx⟩ : ∃ x, x = getG s.grams j := ⟨_, rfl⟩
  rw [← hx] at hgx ⊢
  have htl : (s.grams.take (j + 1)).length = j + 1 := by rw [List.length_take]; omega
  have hr0 : RowR w.drew g cap s.grams := hr.same rfl
  obtain ⟨p1, cap1, w1, hrun1, hown1, hgr1, hat1⟩ := append_own (OwnR.nil w.drew 0) ⟨g, 0, none⟩ (j + 1) cap (s.grams.take (j + 1)) htl (fun q u hu => by
    have hq := (List.getElem?_eq_some_iff.1 hu).1
    rw [rowCells_length, htl] at hq
    rw [Addr.add_lit, Nat.zero_add, ← hu, ← rowCells_take, List.getElem?_take_of_lt (by omega)]
    exact World.ownsRow.cellAt hr0 q (by omega)) (by simp; omega)
  simp only [List.length_nil, Nat.zero_add, List.nil_append] at hrun1 hown1 hat1
  have hk1 : Kept (fun _ => False) w w1 := (Kept.refl _ w).drew.grown hgr1 (fun q hq => by cases hq)
  have hr1 : RowR w1 g cap s.grams := hr.same (hk1.block g hgl id)
  have hb1 : ∀ q, (Value.slice p1 (j + 1) cap1).ownBlock = some q → w.heap.size ≤ q := fun q hq => by
    rcases hat1 with h | h
    · rw [h] at hq
      cases hq
    · rw [h] at hq
      exact Nat.le_of_eq (Option.some.inj hq)
  have hka : Kept (fun _ => False) w (w1.alloc (.cells #[.int .i64 x.src, .int .i64 x.dst, .string x.data, .int .i64 x.turn] 67)) := hk1.alloc _
  have hown1a : OwnR (w1.alloc (.cells #[.int .i64 x.src, .int .i64 x.dst, .string x.data, .int .i64 x.turn] 67)) 0 (.slice p1 (j + 1) cap1) (s.grams.take (j + 1)) := World.ownsRow.alloc hown1 _
  obtain ⟨p2, cap2, w2, hrun2, hown2, hgr2, hat2⟩ := append_own hown1a ⟨w1.heap.size, 0, none⟩ 1 1 [x] rfl (fun q u hu => by
    have := World.news_of_block (heap_alloc_new w1 (.cells #[.int .i64 x.src, .int .i64 x.dst, .string x.data, .int .i64 x.turn] 67)) q u (by rw [← hu]; rfl)
    exact this) (by rw [htl]; omega)
  rw [htl] at hrun2 hown2 hat2
  have hk2 : Kept (fun _ => False) w w2 := hka.grown hgr2 (fun q hq => Or.inl (hb1 q hq))
  have hb2 : ∀ q, (Value.slice p2 (j + 1 + 1) cap2).ownBlock = some q → w.heap.size ≤ q := fun q hq => by
    rcases hat2 with h | h
    · exact hb1 q (h ▸ hq)
    · rw [h] at hq
      have := Option.some.inj hq
      have := hka.size
      omega
  have hr2 : RowR w2 g cap s.grams := hr.same (hk2.block g hgl id)
  have htl2 : (s.grams.take (j + 1) ++ [x]).length = j + 1 + 1 := by rw [List.length_append, htl]; rfl
  obtain ⟨p3, cap3, w3, hrun3, hown3, hgr3, hat3⟩ := append_own (l := s.grams.take (j + 1) ++ [x]) hown2 ⟨g, if cap = j + 1 then 0 else (j + 1) * 4, none⟩ (s.grams.length - (j + 1)) (cap - (j + 1)) (s.grams.drop (j + 1)) (by rw [List.length_drop]) (fun q u hu => by
    have hq := (List.getElem?_eq_some_iff.1 hu).1
    rw [rowCells_length, List.length_drop] at hq
    have hne : ¬ (cap = j + 1) := by omega
    rw [if_neg hne, Addr.add_lit, ← hu, ← rowCells_drop, List.getElem?_drop]
    exact World.ownsRow.cellAt hr2 _ (by omega)) (by rw [htl2]; omega)
  rw [htl2] at hrun3 hown3 hat3
  have hins : s.grams.take (j + 1) ++ [x] ++ s.grams.drop (j + 1) = insG s.grams (j + 1) x := by simp [insG]
  rw [hins] at hown3
  have hk3 : Kept (fun _ => False) w w3 := hk2.grown hgr3 (fun q hq => Or.inl (hb2 q hq))
  have hb3 : ∀ q, (Value.slice p3 (j + 1 + 1 + (s.grams.length - (j + 1))) cap3).ownBlock = some q → w.heap.size ≤ q := fun q hq => by
    rcases hat3 with h | h
    · exact hb2 q (h ▸ hq)
    · rw [h] at hq
      have := Option.some.inj hq
      have := hk2.size
      omega
  have fin : Hid (RNext T w (w3.setCell ⟨r, 0, none⟩ (.slice p3 (j + 1 + 1 + (s.grams.length - (j + 1))) cap3)) r { s with grams := insG s.grams (j + 1) x }) := by
    have hR := hN.rerow hk3 hown3 hb3
    refine ⟨_, ⟨_, _, hR, fun _ => Iff.rfl⟩, fun q hq => ?_, (hk3.mono (fun _ _ h => h.elim)).setCell (Or.inr ((hT r).2 (Or.inl rfl))) _⟩
    rcases hq with hq | hq | hq
    · exact Or.inl ((hT q).2 (Or.inl hq))
    · exact Or.inr (hb3 q hq)
    · exact Or.inl ((hT q).2 (Or.inr (Or.inr hq)))
  obtain ⟨wB, hwB⟩ : ∃ wB, wB = w.alloc (.cells #[.int .i64 x.src, .int .i64 x.dst, .string x.data, .int .i64 x.turn] 67) := ⟨_, rfl⟩
  have hkB : Kept (fun _ => False) w wB := by rw [hwB]; exact (Kept.refl _ w).alloc _
  have hszB : w.heap.size < wB.heap.size := by rw [hwB]; simp
  have hrB : RowR wB.drew g cap s.grams := hr.same (hkB.block g hgl id)
  obtain ⟨q1, cbp1, v1, krun1, kown1, kgr1, kat1⟩ := append_own (OwnR.nil wB.drew 0) ⟨g, 0, none⟩ (j + 1) cap (s.grams.take (j + 1)) htl (fun q u hu => by
    have hq := (List.getElem?_eq_some_iff.1 hu).1
    rw [rowCells_length, htl] at hq
    rw [Addr.add_lit, Nat.zero_add, ← hu, ← rowCells_take, List.getElem?_take_of_lt (by omega)]
    exact World.ownsRow.cellAt hrB q (by omega)) (by simp; omega)
  simp only [List.length_nil, Nat.zero_add, List.nil_append] at krun1 kown1 kat1
  have kk1 : Kept (fun _ => False) w v1 := hkB.drew.grown kgr1 (fun q hq => by cases hq)
  have kkB : Kept (fun _ => False) wB v1 := (Kept.refl _ wB).drew.grown kgr1 (fun q hq => by cases hq)
  have kb1 : ∀ q, (Value.slice q1 (j + 1) cbp1).ownBlock = some q → w.heap.size ≤ q := fun q hq => by
    rcases kat1 with h | h
    · rw [h] at hq
      cases hq
    · rw [h] at hq
      have := Option.some.inj hq
      have e : wB.drew.heap.size = wB.heap.size := rfl
      omega
  have hgB : ∀ q u, (rowCells [x])[q]? = some u → v1.cell? ((⟨w.heap.size, 0, none⟩ : Addr).add q) = some u := fun q u hu => by
    have h := World.news_of_block (heap_alloc_new w (.cells #[.int .i64 x.src, .int .i64 x.dst, .string x.data, .int .i64 x.turn] 67)) q u (by rw [← hu]; rfl)
    rw [← hwB] at h
    rw [Addr.add_lit] at h ⊢
    exact (kkB.cell (p := ⟨w.heap.size, 0 + q, none⟩) hszB id).trans h
  obtain ⟨q2, cbp2, v2, krun2, kown2, kgr2, kat2⟩ := append_own kown1 ⟨w.heap.size, 0, none⟩ 1 1 [x] rfl hgB (by rw [htl]; omega)
  rw [htl] at krun2 kown2 kat2
  have kk2 : Kept (fun _ => False) w v2 := kk1.grown kgr2 (fun q hq => Or.inl (kb1 q hq))
  have kb2 : ∀ q, (Value.slice q2 (j + 1 + 1) cbp2).ownBlock = some q → w.heap.size ≤ q := fun q hq => by
    rcases kat2 with h | h
    · exact kb1 q (h ▸ hq)
    · rw [h] at hq
      have := Option.some.inj hq
      have := kk1.size
      omega
  have krw2 : RowR v2 g cap s.grams := hr.same (kk2.block g hgl id)
  obtain ⟨q3, cbp3, v3, krun3, kown3, kgr3, kat3⟩ := append_own (l := s.grams.take (j + 1) ++ [x]) kown2 ⟨g, if cap = j + 1 then 0 else (j + 1) * 4, none⟩ (s.grams.length - (j + 1)) (cap - (j + 1)) (s.grams.drop (j + 1)) (by rw [List.length_drop]) (fun q u hu => by
    have hq := (List.getElem?_eq_some_iff.1 hu).1
    rw [rowCells_length, List.length_drop] at hq
    have hne : ¬ (cap = j + 1) := by omega
    rw [if_neg hne, Addr.add_lit, ← hu, ← rowCells_drop, List.getElem?_drop]
    exact World.ownsRow.cellAt krw2 _ (by omega)) (by rw [htl2]; omega)
  rw [htl2] at krun3 kown3 kat3
  rw [hins] at kown3
  have kk3 : Kept (fun _ => False) w v3 := kk2.grown kgr3 (fun q hq => Or.inl (kb2 q hq))
  have kb3 : ∀ q, (Value.slice q3 (j + 1 + 1 + (s.grams.length - (j + 1))) cbp3).ownBlock = some q → w.heap.size ≤ q := fun q hq => by
    rcases kat3 with h | h
    · exact kb2 q (h ▸ hq)
    · rw [h] at hq
      have := Option.some.inj hq
      have := kk2.size
      omega
  have finB : Hid (RNext T w (v3.setCell ⟨r, 0, none⟩ (.slice q3 (j + 1 + 1 + (s.grams.length - (j + 1))) cbp3)) r { s with grams := insG s.grams (j + 1) x }) := by
    have hR := hN.rerow kk3 kown3 kb3
    refine ⟨_, ⟨_, _, hR, fun _ => Iff.rfl⟩, fun q hq => ?_, (kk3.mono (fun _ _ h => h.elim)).setCell (Or.inr ((hT r).2 (Or.inl rfl))) _⟩
    rcases hq with hq | hq | hq
    · exact Or.inl ((hT q).2 (Or.inl hq))
    · exact Or.inr (kb3 q hq)
    · exact Or.inl ((hT q).2 (Or.inr (Or.inr hq)))
  have L0 : ∀ W, Kept (fun _ => False) w W → W.cell? ⟨r, 0, none⟩ = some (.slice (some ⟨g, 0, none⟩) s.grams.length cap) := fun W h => (h.cell (p := ⟨r, 0, none⟩) hrl id).trans hN.c0
  have F0 := fun W (h : Kept (fun _ => False) w W) => (h.frozen (p := ⟨r, 0, none⟩) hrl id).trans (hN.f 0)
  obtain ⟨y0, y1, y2, y3⟩ := hr.cells4 hgx
  have Y0 := fun W (h : Kept (fun _ => False) w W) => (h.cell hgl id).trans y0
  have Y1 := fun W (h : Kept (fun _ => False) w W) => (h.cell hgl id).trans y1
  have Y2 := fun W (h : Kept (fun _ => False) w W) => (h.cell hgl id).trans y2
  have Y3 := fun W (h : Kept (fun _ => False) w W) => (h.cell hgl id).trans y3
  have c0 := hN.c0
  subst hwB
  clear hr hr0 hr1 hr2 hN hT hown1 hown1a hown2 hown3 hgr1 hgr2 hgr3 hat1 hat2 hat3 hb1 hb2 hb3 htl htl2 hgx hx hins hgl kown1 kown2 kown3 kgr1 kgr2 kgr3 kat1 kat2 kat3 kkB kb1 kb2 kb3 hszB hrB krw2 hgB y0 y1 y2 y3
  generalize s.grams.length = n at *
  generalize j + 1 + 1 + (n - (j + 1)) = nq at hrun3 fin krun3 finB
  have h6z : ¬ (600 : Int) ≤ (n : Int) := by omega
  have hw1 : IntKind.i64.wrap ((j : Int) + 1) = (j : Int) + 1 := by rw [IntKind.wrap_i64]; omega
  have hb1 : j + 1 ≤ cap := by omega
  have hb2 : (j : Int) ≤ (j : Int) + 1 := by omega
  have hb3 : (j : Int) + 1 ≤ (n : Int) := by omega
  have hb4 : (0 : Int) ≤ (j : Int) + 1 := by omega
  have hb5 : ((j : Int) + 1).toNat = j + 1 := by omega
  have hb6 : j + 1 ≤ n := hj
  have hb7 : (j : Int) + 1 ≤ (cap : Int) := by omega
  have hb8 : (j : Int) < (n : Int) := by omega
  by_cases hcap : cap = j + 1
  · rw [if_pos hcap] at hrun3 krun3
    subst hcap
    rw [Nat.sub_self] at hrun3 krun3
    rw [show n - (j + 1) = 0 by omega] at hrun3 krun3
    go_enter Try.func13, Try.ntmps13
    go_wp2_with fail
    refine (Hp.out).mono ?_
    rintro e' w' ⟨rfl, rfl⟩
    go_wp2
    refine wp_region_but (S := Kept (fun _ => False) w') 28 (by kernel_rfl) ((Kept.refl _ w').drew) (fun hSd => ?_)
    refine wpAnyB_take (i := 0) (v := ?_) rfl (by kernel_rfl) (by kernel_rfl) (by kernel_rfl) (by kernel_rfl) (by kernel_rfl) (fun _ _ _ h => h) (Or.inl ⟨by kernel_rfl, fun W hSW => by go_simp; try with_reducible rfl⟩) (by assumption) ?_
    try simp only [List.getElem_toArray]
    try simp only [List.getElem_cons_succ]
    try simp only [List.getElem_cons_zero]
    try simp only [Act.put]
    try simp only [List.setIfInBounds_toArray]
    try simp only [List.set_cons_succ]
    try simp only [List.set_cons_zero]
    refine wpAnyB_take (i := 1) (v := ?_) rfl (by kernel_rfl) (by kernel_rfl) (by kernel_rfl) (by kernel_rfl) (by kernel_rfl) (fun _ _ _ h => h) (Or.inl ⟨by kernel_rfl, fun W hSW => by go_simp; try with_reducible rfl⟩) (by assumption) ?_
    try simp only [List.getElem_toArray]
    try simp only [List.getElem_cons_succ]
    try simp only [List.getElem_cons_zero]
    try simp only [Act.put]
    try simp only [List.setIfInBounds_toArray]
    try simp only [List.set_cons_succ]
    try simp only [List.set_cons_zero]
    refine wpAnyB_take (i := 2) (v := ?_) rfl (by kernel_rfl) (by kernel_rfl) (by kernel_rfl) (by kernel_rfl) (by kernel_rfl) (fun _ _ _ h => h) (Or.inl ⟨by kernel_rfl, fun W hSW => by go_simp; try with_reducible rfl⟩) (by assumption) ?_
    try simp only [List.getElem_toArray]
    try simp only [List.getElem_cons_succ]
    try simp only [List.getElem_cons_zero]
    try simp only [Act.put]
    try simp only [List.setIfInBounds_toArray]
    try simp only [List.set_cons_succ]
    try simp only [List.set_cons_zero]
    refine wpAnyB_take (i := 3) (v := ?_) rfl (by kernel_rfl) (by kernel_rfl) (by kernel_rfl) (by kernel_rfl) (by kernel_rfl) (fun _ _ _ h => h) (Or.inl ⟨by kernel_rfl, fun W hSW => by go_simp; try with_reducible rfl⟩) (by assumption) ?_
    try simp only [List.getElem_toArray]
    try simp only [List.getElem_cons_succ]
    try simp only [List.getElem_cons_zero]
    try simp only [Act.put]
    try simp only [List.setIfInBounds_toArray]
    try simp only [List.set_cons_succ]
    try simp only [List.set_cons_zero]
    refine wpAnyB_take (i := 4) (v := ?_) rfl (by kernel_rfl) (by kernel_rfl) (by kernel_rfl) (by kernel_rfl) (by kernel_rfl) (fun _ _ _ h => h) (Or.inl ⟨by kernel_rfl, fun W hSW => by go_simp; try with_reducible rfl⟩) (by assumption) ?_
    try simp only [List.getElem_toArray]
    try simp only [List.getElem_cons_succ]
    try simp only [List.getElem_cons_zero]
    try simp only [Act.put]
    try simp only [List.setIfInBounds_toArray]
    try simp only [List.set_cons_succ]
    try simp only [List.set_cons_zero]
    refine wpAnyB_take (i := 5) (v := ?_) rfl (by kernel_rfl) (by kernel_rfl) (by kernel_rfl) (by kernel_rfl) (by kernel_rfl) (fun _ _ _ h => h) (Or.inl ⟨by kernel_rfl, fun W hSW => by go_simp; try with_reducible rfl⟩) (by assumption) ?_
    try simp only [List.getElem_toArray]
    try simp only [List.getElem_cons_succ]
    try simp only [List.getElem_cons_zero]
    try simp only [Act.put]
    try simp only [List.setIfInBounds_toArray]
    try simp only [List.set_cons_succ]
    try simp only [List.set_cons_zero]
    refine wpAnyB_take (i := 6) (v := ?_) rfl (by kernel_rfl) (by kernel_rfl) (by kernel_rfl) (by kernel_rfl) (by kernel_rfl) (fun _ _ _ h => h) (Or.inl ⟨by kernel_rfl, fun W hSW => by go_simp; try with_reducible rfl⟩) (by assumption) ?_
    try simp only [List.getElem_toArray]
    try simp only [List.getElem_cons_succ]
    try simp only [List.getElem_cons_zero]
    try simp only [Act.put]
    try simp only [List.setIfInBounds_toArray]
    try simp only [List.set_cons_succ]
    try simp only [List.set_cons_zero]
    refine wpAnyB_take (i := 7) (v := (.slice (some ⟨g, 0, none⟩) (j + 1) (j + 1))) rfl (by kernel_rfl) (by kernel_rfl) (by kernel_rfl) (by kernel_rfl) (by kernel_rfl) (fun _ _ _ h => h) (Or.inl ⟨by kernel_rfl, fun W hSW => by go_simp; try with_reducible rfl⟩) (by assumption) ?_
    try simp only [List.getElem_toArray]
    try simp only [List.getElem_cons_succ]
    try simp only [List.getElem_cons_zero]
    try simp only [Act.put]
    try simp only [List.setIfInBounds_toArray]
    try simp only [List.set_cons_succ]
    try simp only [List.set_cons_zero]
    refine wpAnyB_take (i := 9) (v := ?_) rfl (by kernel_rfl) (by kernel_rfl) (by kernel_rfl) (by kernel_rfl) (by kernel_rfl) (fun _ _ _ h => h) (Or.inl ⟨by kernel_rfl, fun W hSW => by go_simp; try with_reducible rfl⟩) (by assumption) ?_
    try simp only [List.getElem_toArray]
    try simp only [List.getElem_cons_succ]
    try simp only [List.getElem_cons_zero]
    try simp only [Act.put]
    try simp only [List.setIfInBounds_toArray]
    try simp only [List.set_cons_succ]
    try simp only [List.set_cons_zero]
    refine wpAnyB_take (i := 10) (v := ?_) rfl (by kernel_rfl) (by kernel_rfl) (by kernel_rfl) (by kernel_rfl) (by kernel_rfl) (fun _ _ _ h => h) (Or.inl ⟨by kernel_rfl, fun W hSW => by go_simp; try with_reducible rfl⟩) (by assumption) ?_
    try simp only [List.getElem_toArray]
    try simp only [List.getElem_cons_succ]
    try simp only [List.getElem_cons_zero]
    try simp only [Act.put]
    try simp only [List.setIfInBounds_toArray]
    try simp only [List.set_cons_succ]
    try simp only [List.set_cons_zero]
    refine wpAnyB_take (i := 11) (v := ?_) rfl (by kernel_rfl) (by kernel_rfl) (by kernel_rfl) (by kernel_rfl) (by kernel_rfl) (fun _ _ _ h => h) (Or.inl ⟨by kernel_rfl, fun W hSW => by go_simp; try with_reducible rfl⟩) (by assumption) ?_
    try simp only [List.getElem_toArray]
    try simp only [List.getElem_cons_succ]
    try simp only [List.getElem_cons_zero]
    try simp only [Act.put]
    try simp only [List.setIfInBounds_toArray]
    try simp only [List.set_cons_succ]
    try simp only [List.set_cons_zero]
    refine wpAnyB_take (i := 12) (v := ?_) rfl (by kernel_rfl) (by kernel_rfl) (by kernel_rfl) (by kernel_rfl) (by kernel_rfl) (fun _ _ _ h => h) (Or.inl ⟨by kernel_rfl, fun W hSW => by go_simp; try with_reducible rfl⟩) (by assumption) ?_
    try simp only [List.getElem_toArray]
    try simp only [List.getElem_cons_succ]
    try simp only [List.getElem_cons_zero]
    try simp only [Act.put]
    try simp only [List.setIfInBounds_toArray]
    try simp only [List.set_cons_succ]
    try simp only [List.set_cons_zero]
    refine wpAnyB_take (i := 13) (v := ?_) rfl (by kernel_rfl) (by kernel_rfl) (by kernel_rfl) (by kernel_rfl) (by kernel_rfl) (fun _ _ _ h => h) (Or.inl ⟨by kernel_rfl, fun W hSW => by go_simp; try with_reducible rfl⟩) (by assumption) ?_
    try simp only [List.getElem_toArray]
    try simp only [List.getElem_cons_succ]
    try simp only [List.getElem_cons_zero]
    try simp only [Act.put]
    try simp only [List.setIfInBounds_toArray]
    try simp only [List.set_cons_succ]
    try simp only [List.set_cons_zero]
    refine wpAnyB_take (i := 14) (v := ?_) rfl (by kernel_rfl) (by kernel_rfl) (by kernel_rfl) (by kernel_rfl) (by kernel_rfl) (fun _ _ _ h => h) (Or.inl ⟨by kernel_rfl, fun W hSW => by go_simp; try with_reducible rfl⟩) (by assumption) ?_
    try simp only [List.getElem_toArray]
    try simp only [List.getElem_cons_succ]
    try simp only [List.getElem_cons_zero]
    try simp only [Act.put]
    try simp only [List.setIfInBounds_toArray]
    try simp only [List.set_cons_succ]
    try simp only [List.set_cons_zero]
    refine wpAnyB_take (i := 15) (v := (.agg #[.int .i64 x.src, .int .i64 x.dst, .string x.data, .int .i64 x.turn])) rfl (by kernel_rfl) (by kernel_rfl) (by kernel_rfl) (by kernel_rfl) (by kernel_rfl) (fun _ _ _ h => h) (Or.inl ⟨by kernel_rfl, fun W hSW => by go_simp; try with_reducible rfl⟩) (by assumption) ?_
    try simp only [List.getElem_toArray]
    try simp only [List.getElem_cons_succ]
    try simp only [List.getElem_cons_zero]
    try simp only [Act.put]
    try simp only [List.setIfInBounds_toArray]
    try simp only [List.set_cons_succ]
    try simp only [List.set_cons_zero]
    refine wpAnyB_take (i := 18) (v := ?_) rfl (by kernel_rfl) (by kernel_rfl) (by kernel_rfl) (by kernel_rfl) (by kernel_rfl) (fun _ _ _ h => h) (Or.inl ⟨by kernel_rfl, fun W hSW => by go_simp; try with_reducible rfl⟩) (by assumption) ?_
    try simp only [List.getElem_toArray]
    try simp only [List.getElem_cons_succ]
    try simp only [List.getElem_cons_zero]
    try simp only [Act.put]
    try simp only [List.setIfInBounds_toArray]
    try simp only [List.set_cons_succ]
    try simp only [List.set_cons_zero]
    refine wpAnyB_take (i := 19) (v := ?_) rfl (by kernel_rfl) (by kernel_rfl) (by kernel_rfl) (by kernel_rfl) (by kernel_rfl) (fun _ _ _ h => h) (Or.inl ⟨by kernel_rfl, fun W hSW => by go_simp; try with_reducible rfl⟩) (by assumption) ?_
    try simp only [List.getElem_toArray]
    try simp only [List.getElem_cons_succ]
    try simp only [List.getElem_cons_zero]
    try simp only [Act.put]
    try simp only [List.setIfInBounds_toArray]
    try simp only [List.set_cons_succ]
    try simp only [List.set_cons_zero]
    refine wpAnyB_take (i := 20) (v := ?_) rfl (by kernel_rfl) (by kernel_rfl) (by kernel_rfl) (by kernel_rfl) (by kernel_rfl) (fun _ _ _ h => h) (Or.inl ⟨by kernel_rfl, fun W hSW => by go_simp; try with_reducible rfl⟩) (by assumption) ?_
    try simp only [List.getElem_toArray]
    try simp only [List.getElem_cons_succ]
    try simp only [List.getElem_cons_zero]
    try simp only [Act.put]
    try simp only [List.setIfInBounds_toArray]
    try simp only [List.set_cons_succ]
    try simp only [List.set_cons_zero]
    refine wpAnyB_take (i := 21) (v := ?_) rfl (by kernel_rfl) (by kernel_rfl) (by kernel_rfl) (by kernel_rfl) (by kernel_rfl) (fun _ _ _ h => h) (Or.inl ⟨by kernel_rfl, fun W hSW => by go_simp; try with_reducible rfl⟩) (by assumption) ?_
    try simp only [List.getElem_toArray]
    try simp only [List.getElem_cons_succ]
    try simp only [List.getElem_cons_zero]
    try simp only [Act.put]
    try simp only [List.setIfInBounds_toArray]
    try simp only [List.set_cons_succ]
    try simp only [List.set_cons_zero]
    refine wpAnyB_take (i := 22) (v := ?_) rfl (by kernel_rfl) (by kernel_rfl) (by kernel_rfl) (by kernel_rfl) (by kernel_rfl) (fun _ _ _ h => h) (Or.inl ⟨by kernel_rfl, fun W hSW => by go_simp; try with_reducible rfl⟩) (by assumption) ?_
    try simp only [List.getElem_toArray]
    try simp only [List.getElem_cons_succ]
    try simp only [List.getElem_cons_zero]
    try simp only [Act.put]
    try simp only [List.setIfInBounds_toArray]
    try simp only [List.set_cons_succ]
    try simp only [List.set_cons_zero]
    refine wpAnyB_take (i := 23) (v := ?_) rfl (by kernel_rfl) (by kernel_rfl) (by kernel_rfl) (by kernel_rfl) (by kernel_rfl) (fun _ _ _ h => h) (Or.inl ⟨by kernel_rfl, fun W hSW => by go_simp; try with_reducible rfl⟩) (by assumption) ?_
    try simp only [List.getElem_toArray]
    try simp only [List.getElem_cons_succ]
    try simp only [List.getElem_cons_zero]
    try simp only [Act.put]
    try simp only [List.setIfInBounds_toArray]
    try simp only [List.set_cons_succ]
    try simp only [List.set_cons_zero]
    refine wpAnyB_take (i := 24) (v := (.slice (some ⟨g, 0, none⟩) 0 0)) rfl (by kernel_rfl) (by kernel_rfl) (by kernel_rfl) (by kernel_rfl) (by kernel_rfl) (fun _ _ _ h => h) (Or.inl ⟨by kernel_rfl, fun W hSW => by go_simp; try with_reducible rfl⟩) (by assumption) ?_
    try simp only [List.getElem_toArray]
    try simp only [List.getElem_cons_succ]
    try simp only [List.getElem_cons_zero]
    try simp only [Act.put]
    try simp only [List.setIfInBounds_toArray]
    try simp only [List.set_cons_succ]
    try simp only [List.set_cons_zero]
    refine wpAnyB_ready (rs := [8, 16]) (by kernel_rfl) (by simp) ?_
    refine AllReadyB.cons rfl (fun K hK => ?_) (AllReadyB.cons rfl (fun K hK => ?_) AllReadyB.nil)
    · refine step_append_run rfl (.const (.slice none 0 0)) (.tmp 22) 27 rfl (.slice none 0 0) (.slice (some ⟨g, 0, none⟩) (j + 1) (j + 1)) rfl rfl (hrun1 _) ?_
      refine hK.out _ _ (hk1) (fun _ => ?_)
      clear hK K
      try simp only [List.getElem_toArray]
      try simp only [List.getElem_cons_succ]
      try simp only [List.getElem_cons_zero]
      try simp only [Act.put]
      try simp only [List.setIfInBounds_toArray]
      try simp only [List.set_cons_succ]
      try simp only [List.set_cons_zero]
      refine wpAnyB_ready (rs := [16]) (by kernel_rfl) (by simp) ?_
      refine AllReadyB.cons rfl (fun K hK => ?_) AllReadyB.nil
      go_simp
      refine hK.out _ _ (hka) (fun _ => ?_)
      clear hK K
      try dsimp only
      try simp only [List.getElem_toArray]
      try simp only [List.getElem_cons_succ]
      try simp only [List.getElem_cons_zero]
      try simp only [Act.put]
      try simp only [List.setIfInBounds_toArray]
      try simp only [List.set_cons_succ]
      try simp only [List.set_cons_zero]
      refine wpAnyB_ready (rs := [17]) (by kernel_rfl) (by simp) ?_
      refine AllReadyB.cons rfl (fun K hK => ?_) AllReadyB.nil
      refine step_append_run rfl (.tmp 23) (.tmp 31) 27 rfl (.slice p1 (j + 1) cap1) (.slice (some ⟨w1.heap.size, 0, none⟩) 1 1) rfl rfl (hrun2 _) ?_
      refine hK.out _ _ (hk2) (fun _ => ?_)
      clear hK K
      try simp only [List.getElem_toArray]
      try simp only [List.getElem_cons_succ]
      try simp only [List.getElem_cons_zero]
      try simp only [Act.put]
      try simp only [List.setIfInBounds_toArray]
      try simp only [List.set_cons_succ]
      try simp only [List.set_cons_zero]
      refine wpAnyB_ready (rs := [25]) (by kernel_rfl) (by simp) ?_
      refine AllReadyB.cons rfl (fun K hK => ?_) AllReadyB.nil
      refine step_append_run rfl (.tmp 32) (.tmp 39) 27 rfl (.slice p2 (j + 1 + 1) cap2) (.slice (some ⟨g, 0, none⟩) 0 0) rfl rfl (hrun3 _) ?_
      refine hK.out _ _ (hk3) (fun _ => ?_)
      clear hK K
      try simp only [List.getElem_toArray]
      try simp only [List.getElem_cons_succ]
      try simp only [List.getElem_cons_zero]
      try simp only [Act.put]
      try simp only [List.setIfInBounds_toArray]
      try simp only [List.set_cons_succ]
      try simp only [List.set_cons_zero]
      refine wpAnyB_take (i := 26) (v := ?_) rfl (by kernel_rfl) (by kernel_rfl) (by kernel_rfl) (by kernel_rfl) (by kernel_rfl) (fun _ _ _ h => h) (Or.inl ⟨by kernel_rfl, fun W hSW => by go_simp; try with_reducible rfl⟩) (by assumption) ?_
      try simp only [List.getElem_toArray]
      try simp only [List.getElem_cons_succ]
      try simp only [List.getElem_cons_zero]
      try simp only [Act.put]
      try simp only [List.setIfInBounds_toArray]
      try simp only [List.set_cons_succ]
      try simp only [List.set_cons_zero]
      refine wpAnyB_take (i := 27) (v := ?_) rfl (by kernel_rfl) (by kernel_rfl) (by kernel_rfl) (by kernel_rfl) (by kernel_rfl) (fun _ _ _ h => h) (Or.inl ⟨by kernel_rfl, fun W hSW => by go_simp; try with_reducible rfl⟩) (by assumption) ?_
      try simp only [List.getElem_toArray]
      try simp only [List.getElem_cons_succ]
      try simp only [List.getElem_cons_zero]
      try simp only [Act.put]
      try simp only [List.setIfInBounds_toArray]
      try simp only [List.set_cons_succ]
      try simp only [List.set_cons_zero]
      refine wpAnyB_ready (rs := [28]) (by kernel_rfl) (by simp) ?_
      refine AllReadyB.end rfl (fun K hK => ?_)
      go_simp
      refine hK.out _ _ (trivial) (fun _ => ?_)
      clear hK K
      try simp only [List.getElem_toArray]
      try simp only [List.getElem_cons_succ]
      try simp only [List.getElem_cons_zero]
      try simp only [Act.put]
      try simp only [List.setIfInBounds_toArray]
      try simp only [List.set_cons_succ]
      try simp only [List.set_cons_zero]
      refine wpAnyB_done (by kernel_rfl) ?_ _
      go_wp2
      go_ret
      exact ⟨rfl, fin.out⟩
    · go_simp
      refine hK.out _ _ (hkB.drew) (fun _ => ?_)
      clear hK K
      try dsimp only
      try simp only [List.getElem_toArray]
      try simp only [List.getElem_cons_succ]
      try simp only [List.getElem_cons_zero]
      try simp only [Act.put]
      try simp only [List.setIfInBounds_toArray]
      try simp only [List.set_cons_succ]
      try simp only [List.set_cons_zero]
      refine wpAnyB_ready (rs := [8]) (by kernel_rfl) (by simp) ?_
      refine AllReadyB.cons rfl (fun K hK => ?_) AllReadyB.nil
      refine step_append_run rfl (.const (.slice none 0 0)) (.tmp 22) 27 rfl (.slice none 0 0) (.slice (some ⟨g, 0, none⟩) (j + 1) (j + 1)) rfl rfl (krun1 _) ?_
      refine hK.out _ _ (kk1) (fun _ => ?_)
      clear hK K
      try simp only [List.getElem_toArray]
      try simp only [List.getElem_cons_succ]
      try simp only [List.getElem_cons_zero]
      try simp only [Act.put]
      try simp only [List.setIfInBounds_toArray]
      try simp only [List.set_cons_succ]
      try simp only [List.set_cons_zero]
      refine wpAnyB_ready (rs := [17]) (by kernel_rfl) (by simp) ?_
      refine AllReadyB.cons rfl (fun K hK => ?_) AllReadyB.nil
      refine step_append_run rfl (.tmp 23) (.tmp 31) 27 rfl (.slice q1 (j + 1) cbp1) (.slice (some ⟨w'.heap.size, 0, none⟩) 1 1) rfl rfl (krun2 _) ?_
      refine hK.out _ _ (kk2) (fun _ => ?_)
      clear hK K
      try simp only [List.getElem_toArray]
      try simp only [List.getElem_cons_succ]
      try simp only [List.getElem_cons_zero]
      try simp only [Act.put]
      try simp only [List.setIfInBounds_toArray]
      try simp only [List.set_cons_succ]
      try simp only [List.set_cons_zero]
      refine wpAnyB_ready (rs := [25]) (by kernel_rfl) (by simp) ?_
      refine AllReadyB.cons rfl (fun K hK => ?_) AllReadyB.nil
      refine step_append_run rfl (.tmp 32) (.tmp 39) 27 rfl (.slice q2 (j + 1 + 1) cbp2) (.slice (some ⟨g, 0, none⟩) 0 0) rfl rfl (krun3 _) ?_
      refine hK.out _ _ (kk3) (fun _ => ?_)
      clear hK K
      try simp only [List.getElem_toArray]
      try simp only [List.getElem_cons_succ]
      try simp only [List.getElem_cons_zero]
      try simp only [Act.put]
      try simp only [List.setIfInBounds_toArray]
      try simp only [List.set_cons_succ]
      try simp only [List.set_cons_zero]
      refine wpAnyB_take (i := 26) (v := ?_) rfl (by kernel_rfl) (by kernel_rfl) (by kernel_rfl) (by kernel_rfl) (by kernel_rfl) (fun _ _ _ h => h) (Or.inl ⟨by kernel_rfl, fun W hSW => by go_simp; try with_reducible rfl⟩) (by assumption) ?_
      try simp only [List.getElem_toArray]
      try simp only [List.getElem_cons_succ]
      try simp only [List.getElem_cons_zero]
      try simp only [Act.put]
      try simp only [List.setIfInBounds_toArray]
      try simp only [List.set_cons_succ]
      try simp only [List.set_cons_zero]
      refine wpAnyB_take (i := 27) (v := ?_) rfl (by kernel_rfl) (by kernel_rfl) (by kernel_rfl) (by kernel_rfl) (by kernel_rfl) (fun _ _ _ h => h) (Or.inl ⟨by kernel_rfl, fun W hSW => by go_simp; try with_reducible rfl⟩) (by assumption) ?_
      try simp only [List.getElem_toArray]
      try simp only [List.getElem_cons_succ]
      try simp only [List.getElem_cons_zero]
      try simp only [Act.put]
      try simp only [List.setIfInBounds_toArray]
      try simp only [List.set_cons_succ]
      try simp only [List.set_cons_zero]
      refine wpAnyB_ready (rs := [28]) (by kernel_rfl) (by simp) ?_
      refine AllReadyB.end rfl (fun K hK => ?_)
      go_simp
      refine hK.out _ _ (trivial) (fun _ => ?_)
      clear hK K
      try simp only [List.getElem_toArray]
      try simp only [List.getElem_cons_succ]
      try simp only [List.getElem_cons_zero]
      try simp only [Act.put]
      try simp only [List.setIfInBounds_toArray]
      try simp only [List.set_cons_succ]
      try simp only [List.set_cons_zero]
      refine wpAnyB_done (by kernel_rfl) ?_ _
      go_wp2
      go_ret
      exact ⟨rfl, finB.out⟩

  · rw [if_neg hcap] at hrun3 krun3
    go_enter Try.func13, Try.ntmps13
    go_wp2_with fail
    refine (Hp.out).mono ?_
    rintro e' w' ⟨rfl, rfl⟩
    go_wp2
    refine wp_region_but (S := Kept (fun _ => False) w') 28 (by kernel_rfl) ((Kept.refl _ w').drew) (fun hSd => ?_)
    refine wpAnyB_take (i := 0) (v := ?_) rfl (by kernel_rfl) (by kernel_rfl) (by kernel_rfl) (by kernel_rfl) (by kernel_rfl) (fun _ _ _ h => h) (Or.inl ⟨by kernel_rfl, fun W hSW => by go_simp; try with_reducible rfl⟩) (by assumption) ?_
    try simp only [List.getElem_toArray]
    try simp only [List.getElem_cons_succ]
    try simp only [List.getElem_cons_zero]
    try simp only [Act.put]
    try simp only [List.setIfInBounds_toArray]
    try simp only [List.set_cons_succ]
    try simp only [List.set_cons_zero]
    refine wpAnyB_take (i := 1) (v := ?_) rfl (by kernel_rfl) (by kernel_rfl) (by kernel_rfl) (by kernel_rfl) (by kernel_rfl) (fun _ _ _ h => h) (Or.inl ⟨by kernel_rfl, fun W hSW => by go_simp; try with_reducible rfl⟩) (by assumption) ?_
    try simp only [List.getElem_toArray]
    try simp only [List.getElem_cons_succ]
    try simp only [List.getElem_cons_zero]
    try simp only [Act.put]
    try simp only [List.setIfInBounds_toArray]
    try simp only [List.set_cons_succ]
    try simp only [List.set_cons_zero]
    refine wpAnyB_take (i := 2) (v := ?_) rfl (by kernel_rfl) (by kernel_rfl) (by kernel_rfl) (by kernel_rfl) (by kernel_rfl) (fun _ _ _ h => h) (Or.inl ⟨by kernel_rfl, fun W hSW => by go_simp; try with_reducible rfl⟩) (by assumption) ?_
    try simp only [List.getElem_toArray]
    try simp only [List.getElem_cons_succ]
    try simp only [List.getElem_cons_zero]
    try simp only [Act.put]
    try simp only [List.setIfInBounds_toArray]
    try simp only [List.set_cons_succ]
    try simp only [List.set_cons_zero]
    refine wpAnyB_take (i := 3) (v := ?_) rfl (by kernel_rfl) (by kernel_rfl) (by kernel_rfl) (by kernel_rfl) (by kernel_rfl) (fun _ _ _ h => h) (Or.inl ⟨by kernel_rfl, fun W hSW => by go_simp; try with_reducible rfl⟩) (by assumption) ?_
    try simp only [List.getElem_toArray]
    try simp only [List.getElem_cons_succ]
    try simp only [List.getElem_cons_zero]
    try simp only [Act.put]
    try simp only [List.setIfInBounds_toArray]
    try simp only [List.set_cons_succ]
    try simp only [List.set_cons_zero]
    refine wpAnyB_take (i := 4) (v := ?_) rfl (by kernel_rfl) (by kernel_rfl) (by kernel_rfl) (by kernel_rfl) (by kernel_rfl) (fun _ _ _ h => h) (Or.inl ⟨by kernel_rfl, fun W hSW => by go_simp; try with_reducible rfl⟩) (by assumption) ?_
    try simp only [List.getElem_toArray]
    try simp only [List.getElem_cons_succ]
    try simp only [List.getElem_cons_zero]
    try simp only [Act.put]
    try simp only [List.setIfInBounds_toArray]
    try simp only [List.set_cons_succ]
    try simp only [List.set_cons_zero]
    refine wpAnyB_take (i := 5) (v := ?_) rfl (by kernel_rfl) (by kernel_rfl) (by kernel_rfl) (by kernel_rfl) (by kernel_rfl) (fun _ _ _ h => h) (Or.inl ⟨by kernel_rfl, fun W hSW => by go_simp; try with_reducible rfl⟩) (by assumption) ?_
    try simp only [List.getElem_toArray]
    try simp only [List.getElem_cons_succ]
    try simp only [List.getElem_cons_zero]
    try simp only [Act.put]
    try simp only [List.setIfInBounds_toArray]
    try simp only [List.set_cons_succ]
    try simp only [List.set_cons_zero]
    refine wpAnyB_take (i := 6) (v := ?_) rfl (by kernel_rfl) (by kernel_rfl) (by kernel_rfl) (by kernel_rfl) (by kernel_rfl) (fun _ _ _ h => h) (Or.inl ⟨by kernel_rfl, fun W hSW => by go_simp; try with_reducible rfl⟩) (by assumption) ?_
    try simp only [List.getElem_toArray]
    try simp only [List.getElem_cons_succ]
    try simp only [List.getElem_cons_zero]
    try simp only [Act.put]
    try simp only [List.setIfInBounds_toArray]
    try simp only [List.set_cons_succ]
    try simp only [List.set_cons_zero]
    refine wpAnyB_take (i := 7) (v := (.slice (some ⟨g, 0, none⟩) (j + 1) cap)) rfl (by kernel_rfl) (by kernel_rfl) (by kernel_rfl) (by kernel_rfl) (by kernel_rfl) (fun _ _ _ h => h) (Or.inl ⟨by kernel_rfl, fun W hSW => by go_simp; try with_reducible rfl⟩) (by assumption) ?_
    try simp only [List.getElem_toArray]
    try simp only [List.getElem_cons_succ]
    try simp only [List.getElem_cons_zero]
    try simp only [Act.put]
    try simp only [List.setIfInBounds_toArray]
    try simp only [List.set_cons_succ]
    try simp only [List.set_cons_zero]
    refine wpAnyB_take (i := 9) (v := ?_) rfl (by kernel_rfl) (by kernel_rfl) (by kernel_rfl) (by kernel_rfl) (by kernel_rfl) (fun _ _ _ h => h) (Or.inl ⟨by kernel_rfl, fun W hSW => by go_simp; try with_reducible rfl⟩) (by assumption) ?_
    try simp only [List.getElem_toArray]
    try simp only [List.getElem_cons_succ]
    try simp only [List.getElem_cons_zero]
    try simp only [Act.put]
    try simp only [List.setIfInBounds_toArray]
    try simp only [List.set_cons_succ]
    try simp only [List.set_cons_zero]
    refine wpAnyB_take (i := 10) (v := ?_) rfl (by kernel_rfl) (by kernel_rfl) (by kernel_rfl) (by kernel_rfl) (by kernel_rfl) (fun _ _ _ h => h) (Or.inl ⟨by kernel_rfl, fun W hSW => by go_simp; try with_reducible rfl⟩) (by assumption) ?_
    try simp only [List.getElem_toArray]
    try simp only [List.getElem_cons_succ]
    try simp only [List.getElem_cons_zero]
    try simp only [Act.put]
    try simp only [List.setIfInBounds_toArray]
    try simp only [List.set_cons_succ]
    try simp only [List.set_cons_zero]
    refine wpAnyB_take (i := 11) (v := ?_) rfl (by kernel_rfl) (by kernel_rfl) (by kernel_rfl) (by kernel_rfl) (by kernel_rfl) (fun _ _ _ h => h) (Or.inl ⟨by kernel_rfl, fun W hSW => by go_simp; try with_reducible rfl⟩) (by assumption) ?_
    try simp only [List.getElem_toArray]
    try simp only [List.getElem_cons_succ]
    try simp only [List.getElem_cons_zero]
    try simp only [Act.put]
    try simp only [List.setIfInBounds_toArray]
    try simp only [List.set_cons_succ]
    try simp only [List.set_cons_zero]
    refine wpAnyB_take (i := 12) (v := ?_) rfl (by kernel_rfl) (by kernel_rfl) (by kernel_rfl) (by kernel_rfl) (by kernel_rfl) (fun _ _ _ h => h) (Or.inl ⟨by kernel_rfl, fun W hSW => by go_simp; try with_reducible rfl⟩) (by assumption) ?_
    try simp only [List.getElem_toArray]
    try simp only [List.getElem_cons_succ]
    try simp only [List.getElem_cons_zero]
    try simp only [Act.put]
    try simp only [List.setIfInBounds_toArray]
    try simp only [List.set_cons_succ]
    try simp only [List.set_cons_zero]
    refine wpAnyB_take (i := 13) (v := ?_) rfl (by kernel_rfl) (by kernel_rfl) (by kernel_rfl) (by kernel_rfl) (by kernel_rfl) (fun _ _ _ h => h) (Or.inl ⟨by kernel_rfl, fun W hSW => by go_simp; try with_reducible rfl⟩) (by assumption) ?_
    try simp only [List.getElem_toArray]
    try simp only [List.getElem_cons_succ]
    try simp only [List.getElem_cons_zero]
    try simp only [Act.put]
    try simp only [List.setIfInBounds_toArray]
    try simp only [List.set_cons_succ]
    try simp only [List.set_cons_zero]
    refine wpAnyB_take (i := 14) (v := ?_) rfl (by kernel_rfl) (by kernel_rfl) (by kernel_rfl) (by kernel_rfl) (by kernel_rfl) (fun _ _ _ h => h) (Or.inl ⟨by kernel_rfl, fun W hSW => by go_simp; try with_reducible rfl⟩) (by assumption) ?_
    try simp only [List.getElem_toArray]
    try simp only [List.getElem_cons_succ]
    try simp only [List.getElem_cons_zero]
    try simp only [Act.put]
    try simp only [List.setIfInBounds_toArray]
    try simp only [List.set_cons_succ]
    try simp only [List.set_cons_zero]
    refine wpAnyB_take (i := 15) (v := (.agg #[.int .i64 x.src, .int .i64 x.dst, .string x.data, .int .i64 x.turn])) rfl (by kernel_rfl) (by kernel_rfl) (by kernel_rfl) (by kernel_rfl) (by kernel_rfl) (fun _ _ _ h => h) (Or.inl ⟨by kernel_rfl, fun W hSW => by go_simp; try with_reducible rfl⟩) (by assumption) ?_
    try simp only [List.getElem_toArray]
    try simp only [List.getElem_cons_succ]
    try simp only [List.getElem_cons_zero]
    try simp only [Act.put]
    try simp only [List.setIfInBounds_toArray]
    try simp only [List.set_cons_succ]
    try simp only [List.set_cons_zero]
    refine wpAnyB_take (i := 18) (v := ?_) rfl (by kernel_rfl) (by kernel_rfl) (by kernel_rfl) (by kernel_rfl) (by kernel_rfl) (fun _ _ _ h => h) (Or.inl ⟨by kernel_rfl, fun W hSW => by go_simp; try with_reducible rfl⟩) (by assumption) ?_
    try simp only [List.getElem_toArray]
    try simp only [List.getElem_cons_succ]
    try simp only [List.getElem_cons_zero]
    try simp only [Act.put]
    try simp only [List.setIfInBounds_toArray]
    try simp only [List.set_cons_succ]
    try simp only [List.set_cons_zero]
    refine wpAnyB_take (i := 19) (v := ?_) rfl (by kernel_rfl) (by kernel_rfl) (by kernel_rfl) (by kernel_rfl) (by kernel_rfl) (fun _ _ _ h => h) (Or.inl ⟨by kernel_rfl, fun W hSW => by go_simp; try with_reducible rfl⟩) (by assumption) ?_
    try simp only [List.getElem_toArray]
    try simp only [List.getElem_cons_succ]
    try simp only [List.getElem_cons_zero]
    try simp only [Act.put]
    try simp only [List.setIfInBounds_toArray]
    try simp only [List.set_cons_succ]
    try simp only [List.set_cons_zero]
    refine wpAnyB_take (i := 20) (v := ?_) rfl (by kernel_rfl) (by kernel_rfl) (by kernel_rfl) (by kernel_rfl) (by kernel_rfl) (fun _ _ _ h => h) (Or.inl ⟨by kernel_rfl, fun W hSW => by go_simp; try with_reducible rfl⟩) (by assumption) ?_
    try simp only [List.getElem_toArray]
    try simp only [List.getElem_cons_succ]
    try simp only [List.getElem_cons_zero]
    try simp only [Act.put]
    try simp only [List.setIfInBounds_toArray]
    try simp only [List.set_cons_succ]
    try simp only [List.set_cons_zero]
    refine wpAnyB_take (i := 21) (v := ?_) rfl (by kernel_rfl) (by kernel_rfl) (by kernel_rfl) (by kernel_rfl) (by kernel_rfl) (fun _ _ _ h => h) (Or.inl ⟨by kernel_rfl, fun W hSW => by go_simp; try with_reducible rfl⟩) (by assumption) ?_
    try simp only [List.getElem_toArray]
    try simp only [List.getElem_cons_succ]
    try simp only [List.getElem_cons_zero]
    try simp only [Act.put]
    try simp only [List.setIfInBounds_toArray]
    try simp only [List.set_cons_succ]
    try simp only [List.set_cons_zero]
    refine wpAnyB_take (i := 22) (v := ?_) rfl (by kernel_rfl) (by kernel_rfl) (by kernel_rfl) (by kernel_rfl) (by kernel_rfl) (fun _ _ _ h => h) (Or.inl ⟨by kernel_rfl, fun W hSW => by go_simp; try with_reducible rfl⟩) (by assumption) ?_
    try simp only [List.getElem_toArray]
    try simp only [List.getElem_cons_succ]
    try simp only [List.getElem_cons_zero]
    try simp only [Act.put]
    try simp only [List.setIfInBounds_toArray]
    try simp only [List.set_cons_succ]
    try simp only [List.set_cons_zero]
    refine wpAnyB_take (i := 23) (v := ?_) rfl (by kernel_rfl) (by kernel_rfl) (by kernel_rfl) (by kernel_rfl) (by kernel_rfl) (fun _ _ _ h => h) (Or.inl ⟨by kernel_rfl, fun W hSW => by go_simp; try with_reducible rfl⟩) (by assumption) ?_
    try simp only [List.getElem_toArray]
    try simp only [List.getElem_cons_succ]
    try simp only [List.getElem_cons_zero]
    try simp only [Act.put]
    try simp only [List.setIfInBounds_toArray]
    try simp only [List.set_cons_succ]
    try simp only [List.set_cons_zero]
    refine wpAnyB_take (i := 24) (v := (.slice (some ⟨g, (j + 1) * 4, none⟩) (n - (j + 1)) (cap - (j + 1)))) rfl (by kernel_rfl) (by kernel_rfl) (by kernel_rfl) (by kernel_rfl) (by kernel_rfl) (fun _ _ _ h => h) (Or.inl ⟨by kernel_rfl, fun W hSW => by go_simp; try with_reducible rfl⟩) (by assumption) ?_
    try simp only [List.getElem_toArray]
    try simp only [List.getElem_cons_succ]
    try simp only [List.getElem_cons_zero]
    try simp only [Act.put]
    try simp only [List.setIfInBounds_toArray]
    try simp only [List.set_cons_succ]
    try simp only [List.set_cons_zero]
    refine wpAnyB_ready (rs := [8, 16]) (by kernel_rfl) (by simp) ?_
    refine AllReadyB.cons rfl (fun K hK => ?_) (AllReadyB.cons rfl (fun K hK => ?_) AllReadyB.nil)
    · refine step_append_run rfl (.const (.slice none 0 0)) (.tmp 22) 27 rfl (.slice none 0 0) (.slice (some ⟨g, 0, none⟩) (j + 1) cap) rfl rfl (hrun1 _) ?_
      refine hK.out _ _ (hk1) (fun _ => ?_)
      clear hK K
      try simp only [List.getElem_toArray]
      try simp only [List.getElem_cons_succ]
      try simp only [List.getElem_cons_zero]
      try simp only [Act.put]
      try simp only [List.setIfInBounds_toArray]
      try simp only [List.set_cons_succ]
      try simp only [List.set_cons_zero]
      refine wpAnyB_ready (rs := [16]) (by kernel_rfl) (by simp) ?_
      refine AllReadyB.cons rfl (fun K hK => ?_) AllReadyB.nil
      go_simp
      refine hK.out _ _ (hka) (fun _ => ?_)
      clear hK K
      try dsimp only
      try simp only [List.getElem_toArray]
      try simp only [List.getElem_cons_succ]
      try simp only [List.getElem_cons_zero]
      try simp only [Act.put]
      try simp only [List.setIfInBounds_toArray]
      try simp only [List.set_cons_succ]
      try simp only [List.set_cons_zero]
      refine wpAnyB_ready (rs := [17]) (by kernel_rfl) (by simp) ?_
      refine AllReadyB.cons rfl (fun K hK => ?_) AllReadyB.nil
      refine step_append_run rfl (.tmp 23) (.tmp 31) 27 rfl (.slice p1 (j + 1) cap1) (.slice (some ⟨w1.heap.size, 0, none⟩) 1 1) rfl rfl (hrun2 _) ?_
      refine hK.out _ _ (hk2) (fun _ => ?_)
      clear hK K
      try simp only [List.getElem_toArray]
      try simp only [List.getElem_cons_succ]
      try simp only [List.getElem_cons_zero]
      try simp only [Act.put]
      try simp only [List.setIfInBounds_toArray]
      try simp only [List.set_cons_succ]
      try simp only [List.set_cons_zero]
      refine wpAnyB_ready (rs := [25]) (by kernel_rfl) (by simp) ?_
      refine AllReadyB.cons rfl (fun K hK => ?_) AllReadyB.nil
      refine step_append_run rfl (.tmp 32) (.tmp 39) 27 rfl (.slice p2 (j + 1 + 1) cap2) (.slice (some ⟨g, (j + 1) * 4, none⟩) (n - (j + 1)) (cap - (j + 1))) rfl rfl (hrun3 _) ?_
      refine hK.out _ _ (hk3) (fun _ => ?_)
      clear hK K
      try simp only [List.getElem_toArray]
      try simp only [List.getElem_cons_succ]
      try simp only [List.getElem_cons_zero]
      try simp only [Act.put]
      try simp only [List.setIfInBounds_toArray]
      try simp only [List.set_cons_succ]
      try simp only [List.set_cons_zero]
      refine wpAnyB_take (i := 26) (v := ?_) rfl (by kernel_rfl) (by kernel_rfl) (by kernel_rfl) (by kernel_rfl) (by kernel_rfl) (fun _ _ _ h => h) (Or.inl ⟨by kernel_rfl, fun W hSW => by go_simp; try with_reducible rfl⟩) (by assumption) ?_
      try simp only [List.getElem_toArray]
      try simp only [List.getElem_cons_succ]
      try simp only [List.getElem_cons_zero]
      try simp only [Act.put]
      try simp only [List.setIfInBounds_toArray]
      try simp only [List.set_cons_succ]
      try simp only [List.set_cons_zero]
      refine wpAnyB_take (i := 27) (v := ?_) rfl (by kernel_rfl) (by kernel_rfl) (by kernel_rfl) (by kernel_rfl) (by kernel_rfl) (fun _ _ _ h => h) (Or.inl ⟨by kernel_rfl, fun W hSW => by go_simp; try with_reducible rfl⟩) (by assumption) ?_
      try simp only [List.getElem_toArray]
      try simp only [List.getElem_cons_succ]
      try simp only [List.getElem_cons_zero]
      try simp only [Act.put]
      try simp only [List.setIfInBounds_toArray]
      try simp only [List.set_cons_succ]
      try simp only [List.set_cons_zero]
      refine wpAnyB_ready (rs := [28]) (by kernel_rfl) (by simp) ?_
      refine AllReadyB.end rfl (fun K hK => ?_)
      go_simp
      refine hK.out _ _ (trivial) (fun _ => ?_)
      clear hK K
      try simp only [List.getElem_toArray]
      try simp only [List.getElem_cons_succ]
      try simp only [List.getElem_cons_zero]
      try simp only [Act.put]
      try simp only [List.setIfInBounds_toArray]
      try simp only [List.set_cons_succ]
      try simp only [List.set_cons_zero]
      refine wpAnyB_done (by kernel_rfl) ?_ _
      go_wp2
      go_ret
      exact ⟨rfl, fin.out⟩
    · go_simp
      refine hK.out _ _ (hkB.drew) (fun _ => ?_)
      clear hK K
      try dsimp only
      try simp only [List.getElem_toArray]
      try simp only [List.getElem_cons_succ]
      try simp only [List.getElem_cons_zero]
      try simp only [Act.put]
      try simp only [List.setIfInBounds_toArray]
      try simp only [List.set_cons_succ]
      try simp only [List.set_cons_zero]
      refine wpAnyB_ready (rs := [8]) (by kernel_rfl) (by simp) ?_
      refine AllReadyB.cons rfl (fun K hK => ?_) AllReadyB.nil
      refine step_append_run rfl (.const (.slice none 0 0)) (.tmp 22) 27 rfl (.slice none 0 0) (.slice (some ⟨g, 0, none⟩) (j + 1) cap) rfl rfl (krun1 _) ?_
      refine hK.out _ _ (kk1) (fun _ => ?_)
      clear hK K
      try simp only [List.getElem_toArray]
      try simp only [List.getElem_cons_succ]
      try simp only [List.getElem_cons_zero]
      try simp only [Act.put]
      try simp only [List.setIfInBounds_toArray]
      try simp only [List.set_cons_succ]
      try simp only [List.set_cons_zero]
      refine wpAnyB_ready (rs := [17]) (by kernel_rfl) (by simp) ?_
      refine AllReadyB.cons rfl (fun K hK => ?_) AllReadyB.nil
      refine step_append_run rfl (.tmp 23) (.tmp 31) 27 rfl (.slice q1 (j + 1) cbp1) (.slice (some ⟨w'.heap.size, 0, none⟩) 1 1) rfl rfl (krun2 _) ?_
      refine hK.out _ _ (kk2) (fun _ => ?_)
      clear hK K
      try simp only [List.getElem_toArray]
      try simp only [List.getElem_cons_succ]
      try simp only [List.getElem_cons_zero]
      try simp only [Act.put]
      try simp only [List.setIfInBounds_toArray]
      try simp only [List.set_cons_succ]
      try simp only [List.set_cons_zero]
      refine wpAnyB_ready (rs := [25]) (by kernel_rfl) (by simp) ?_
      refine AllReadyB.cons rfl (fun K hK => ?_) AllReadyB.nil
      refine step_append_run rfl (.tmp 32) (.tmp 39) 27 rfl (.slice q2 (j + 1 + 1) cbp2) (.slice (some ⟨g, (j + 1) * 4, none⟩) (n - (j + 1)) (cap - (j + 1))) rfl rfl (krun3 _) ?_
      refine hK.out _ _ (kk3) (fun _ => ?_)
      clear hK K
      try simp only [List.getElem_toArray]
      try simp only [List.getElem_cons_succ]
      try simp only [List.getElem_cons_zero]
      try simp only [Act.put]
      try simp only [List.setIfInBounds_toArray]
      try simp only [List.set_cons_succ]
      try simp only [List.set_cons_zero]
      refine wpAnyB_take (i := 26) (v := ?_) rfl (by kernel_rfl) (by kernel_rfl) (by kernel_rfl) (by kernel_rfl) (by kernel_rfl) (fun _ _ _ h => h) (Or.inl ⟨by kernel_rfl, fun W hSW => by go_simp; try with_reducible rfl⟩) (by assumption) ?_
      try simp only [List.getElem_toArray]
      try simp only [List.getElem_cons_succ]
      try simp only [List.getElem_cons_zero]
      try simp only [Act.put]
      try simp only [List.setIfInBounds_toArray]
      try simp only [List.set_cons_succ]
      try simp only [List.set_cons_zero]
      refine wpAnyB_take (i := 27) (v := ?_) rfl (by kernel_rfl) (by kernel_rfl) (by kernel_rfl) (by kernel_rfl) (by kernel_rfl) (fun _ _ _ h => h) (Or.inl ⟨by kernel_rfl, fun W hSW => by go_simp; try with_reducible rfl⟩) (by assumption) ?_
      try simp only [List.getElem_toArray]
      try simp only [List.getElem_cons_succ]
      try simp only [List.getElem_cons_zero]
      try simp only [Act.put]
      try simp only [List.setIfInBounds_toArray]
      try simp only [List.set_cons_succ]
      try simp only [List.set_cons_zero]
      refine wpAnyB_ready (rs := [28]) (by kernel_rfl) (by simp) ?_
      refine AllReadyB.end rfl (fun K hK => ?_)
      go_simp
      refine hK.out _ _ (trivial) (fun _ => ?_)
      clear hK K
      try simp only [List.getElem_toArray]
      try simp only [List.getElem_cons_succ]
      try simp only [List.getElem_cons_zero]
      try simp only [Act.put]
      try simp only [List.setIfInBounds_toArray]
      try simp only [List.set_cons_succ]
      try simp only [List.set_cons_zero]
      refine wpAnyB_done (by kernel_rfl) ?_ _
      go_wp2
      go_ret
      exact ⟨rfl, finB.out⟩

end
end Go.Proofs.Ytegofkpiipomfaa
