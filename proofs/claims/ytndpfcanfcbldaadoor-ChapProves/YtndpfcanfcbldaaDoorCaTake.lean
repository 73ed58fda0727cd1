/- The contracts of a server's Take and Again. -/
import Derived.Test.YtndpfcanfcbldaaDoorCaSrv
namespace Go.Proofs.YtndpfcanfcbldaaDoor
open Go.RowKit

theorem PsIn.far {w : World} {b r : Nat} {c : Ps} (h : PsIn w b c) (hne : b ≠ r) (j : Nat) (u : Value) : PsIn (w.setCell ⟨r, j, none⟩ u) b c := h.kept ((Kept.refl (fun i => i = r) w).setCell (p := ⟨r, j, none⟩) (Or.inr (by rfl)) u) hne
theorem respB {code id cid : Int} : (code == 2 && id == cid) = decide (code = 2 ∧ id = cid) := by
  by_cases h1 : code = 2 <;> by_cases h2 : id = cid <;> simp [h1, h2]

set_option maxHeartbeats 1000000 in
set_option maxRecDepth 100000 in
theorem psAgain_any (b : Nat) (c : Ps) (code id : Int) (p : Option Addr) (n cap : Nat) (s : ByteArray) (w : World) (h : PsIn w b c) :
    Calls Tryd.prog 21 #[.pointer (some ⟨b, 0, none⟩), pkV code id (.slice p n cap) s] w fun e w' => ∃ v, e = .returned v ∧ OwnQ w' w.heap.size v (againP c code id) ∧ Kept (fun _ => False) w w' := by
  unfold pkV
  have hk := (Kept.refl (fun _ => False) w).alloc (.cells #[.int .i64 code, .int .i64 id, .slice p n cap, .string s] 40)
  have H1 := hid (h.kept0 hk)
  have K1 := hid hk
  have X1 := hid (PkAt.new w code id (.slice p n cap) s)
  clear h hk
  have A4 := hid (fun W (hW : PsIn W b c) => psIs_any b c 4 W hW)
  have A5 := hid (fun W (hW : PsIn W b c) => psIs_any b c 5 W hW)
  have HR := hid (fun W (hW : PsIn W b c) => psResp_any b c code id p n cap s W hW)
  have HS := hid (fun W (hW : PsIn W b c) => psSay_any b c W hW)
  unfold againP
  rw [respB] at HR
  by_cases e4 : c.st = 4
  · rw [show (c.st == 4) = true by simp [e4]] at A4
    by_cases e2 : code = 2 ∧ id = c.id
    · rw [if_pos ⟨Or.inl e4, e2⟩]
      rw [show decide (code = 2 ∧ id = c.id) = true by simp [e2]] at HR
      clear e4 e2
      go_enter Tryd.func21, Tryd.ntmps21
      go_upto_region 1 with fail
      generalize w.alloc (.cells #[.int .i64 code, .int .i64 id, .slice p n cap, .string s] 40) = W at *
      obtain ⟨d0, d1, d2, d3⟩ := X1.out.cells
      go_wp2_with fail
      refine (A4.out _ H1.out).mono ?_
      rintro e w1 ⟨rfl, hw⟩
      rw [hw]
      clear hw w1
      go_wp2_with fail
      refine (HR.out _ H1.out).mono ?_
      rintro e w1 ⟨rfl, hk1⟩
      have H2 := hid (H1.out.kept0 hk1)
      have K2 := hid (K1.out.trans hk1)
      clear hk1
      go_wp2_with fail
      refine (HS.out _ H2.out).mono ?_
      rintro e w2 ⟨v, rfl, ho, hk2⟩
      have HO := hid ho
      have HK := hid (K2.out.trans hk2)
      have hs := K2.out.size
      clear ho hk2
      go_wp2
      go_ret
      exact ⟨v, rfl, HO.out.mono hs, HK.out⟩
    · rw [if_neg (fun h => e2 h.2)]
      rw [show decide (code = 2 ∧ id = c.id) = false by simpa using e2] at HR
      clear e4 e2
      go_enter Tryd.func21, Tryd.ntmps21
      go_upto_region 1 with fail
      generalize w.alloc (.cells #[.int .i64 code, .int .i64 id, .slice p n cap, .string s] 40) = W at *
      obtain ⟨d0, d1, d2, d3⟩ := X1.out.cells
      go_wp2_with fail
      refine (A4.out _ H1.out).mono ?_
      rintro e w1 ⟨rfl, hw⟩
      rw [hw]
      clear hw w1
      go_wp2_with fail
      refine (HR.out _ H1.out).mono ?_
      rintro e w1 ⟨rfl, hk1⟩
      have K2 := hid (K1.out.trans hk1)
      clear hk1
      go_wp2
      go_ret
      exact ⟨_, rfl, OwnQ.nil _ _, K2.out⟩
  · rw [show (c.st == 4) = false by simpa using e4] at A4
    by_cases e5 : c.st = 5
    · rw [show (c.st == 5) = true by simp [e5]] at A5
      by_cases e2 : code = 2 ∧ id = c.id
      · rw [if_pos ⟨Or.inr e5, e2⟩]
        rw [show decide (code = 2 ∧ id = c.id) = true by simp [e2]] at HR
        clear e4 e5 e2
        go_enter Tryd.func21, Tryd.ntmps21
        go_upto_region 1 with fail
        generalize w.alloc (.cells #[.int .i64 code, .int .i64 id, .slice p n cap, .string s] 40) = W at *
        obtain ⟨d0, d1, d2, d3⟩ := X1.out.cells
        go_wp2_with fail
        refine (A4.out _ H1.out).mono ?_
        rintro e w1 ⟨rfl, hw⟩
        rw [hw]
        clear hw w1
        go_wp2_with fail
        refine (A5.out _ H1.out).mono ?_
        rintro e w1 ⟨rfl, hw⟩
        rw [hw]
        clear hw w1
        go_wp2_with fail
        refine (HR.out _ H1.out).mono ?_
        rintro e w1 ⟨rfl, hk1⟩
        have H2 := hid (H1.out.kept0 hk1)
        have K2 := hid (K1.out.trans hk1)
        clear hk1
        go_wp2_with fail
        refine (HS.out _ H2.out).mono ?_
        rintro e w2 ⟨v, rfl, ho, hk2⟩
        have HO := hid ho
        have HK := hid (K2.out.trans hk2)
        have hs := K2.out.size
        clear ho hk2
        go_wp2
        go_ret
        exact ⟨v, rfl, HO.out.mono hs, HK.out⟩
      · rw [if_neg (fun h => e2 h.2)]
        rw [show decide (code = 2 ∧ id = c.id) = false by simpa using e2] at HR
        clear e4 e5 e2
        go_enter Tryd.func21, Tryd.ntmps21
        go_upto_region 1 with fail
        generalize w.alloc (.cells #[.int .i64 code, .int .i64 id, .slice p n cap, .string s] 40) = W at *
        obtain ⟨d0, d1, d2, d3⟩ := X1.out.cells
        go_wp2_with fail
        refine (A4.out _ H1.out).mono ?_
        rintro e w1 ⟨rfl, hw⟩
        rw [hw]
        clear hw w1
        go_wp2_with fail
        refine (A5.out _ H1.out).mono ?_
        rintro e w1 ⟨rfl, hw⟩
        rw [hw]
        clear hw w1
        go_wp2_with fail
        refine (HR.out _ H1.out).mono ?_
        rintro e w1 ⟨rfl, hk1⟩
        have K2 := hid (K1.out.trans hk1)
        clear hk1
        go_wp2
        go_ret
        exact ⟨_, rfl, OwnQ.nil _ _, K2.out⟩
    · rw [show (c.st == 5) = false by simpa using e5] at A5
      rw [if_neg (fun h => h.1.elim e4 e5)]
      clear e4 e5
      go_enter Tryd.func21, Tryd.ntmps21
      go_upto_region 1 with fail
      generalize w.alloc (.cells #[.int .i64 code, .int .i64 id, .slice p n cap, .string s] 40) = W at *
      obtain ⟨d0, d1, d2, d3⟩ := X1.out.cells
      go_wp2_with fail
      refine (A4.out _ H1.out).mono ?_
      rintro e w1 ⟨rfl, hw⟩
      rw [hw]
      clear hw w1
      go_wp2_with fail
      refine (A5.out _ H1.out).mono ?_
      rintro e w1 ⟨rfl, hw⟩
      rw [hw]
      clear hw w1
      go_wp2
      go_ret
      exact ⟨_, rfl, OwnQ.nil _ _, K1.out⟩

set_option maxHeartbeats 2000000 in
set_option maxRecDepth 100000 in
theorem psTake_any (b : Nat) (c : Ps) (code id : Int) (p : Option Addr) (n cap : Nat) (s : ByteArray) (hs : s.size ≤ 140737488351232) (w : World) (h : PsIn w b c) :
    Calls Tryd.prog 16 #[.pointer (some ⟨b, 0, none⟩), pkV code id (.slice p n cap) s] w fun e w' => e = .returned (.tuple #[cmV (takeP c code id s).1, .bool (takeP c code id s).2.1]) ∧ PsIn w' b (takeP c code id s).2.2 ∧ Kept (fun i => i = b) w w' := by
  unfold pkV
  have hk1 := (Kept.refl (fun _ => False) w).alloc (.cells #[.int .i64 code, .int .i64 id, .slice p n cap, .string s] 40)
  have hk2 := (Kept.refl (fun _ => False) (w.alloc (.cells #[.int .i64 code, .int .i64 id, .slice p n cap, .string s] 40))).alloc (.cells #[.string ⟨#[]⟩, .string ⟨#[]⟩, .string ⟨#[]⟩, .int .i64 0] 42)
  have H1 := hid (h.kept0 (hk1.trans hk2))
  have K1 := hid (hk1.trans hk2)
  have X1 := hid ((PkAt.new w code id (.slice p n cap) s).kept hk2 (fun h => h))
  have O1 := hid (own4_new (w.alloc (.cells #[.int .i64 code, .int .i64 id, .slice p n cap, .string s] 40)) 42 (.string ⟨#[]⟩) (.string ⟨#[]⟩) (.string ⟨#[]⟩) (.int .i64 0))
  have hsz : (w.alloc (.cells #[.int .i64 code, .int .i64 id, .slice p n cap, .string s] 40)).heap.size = w.heap.size + 1 := by simp
  rw [hsz] at O1
  have hne : b ≠ w.heap.size + 1 := by have := h.lt; omega
  clear hk1 hk2 hsz h
  have A1 := hid (fun W (hW : PsIn W b c) => psIs_any b c 1 W hW)
  have HR := hid (fun W (hW : PsIn W b c) => psResp_any b c code id p n cap s W hW)
  rw [respB] at HR
  unfold takeP
  by_cases e0 : c.st = 1
  · rw [show (c.st == 1) = true by simp [e0]] at A1
    by_cases e1 : code = 2 ∧ id = c.id
    · rw [show decide (code = 2 ∧ id = c.id) = true by simp [e1]] at HR
      have HG := hid (getVal_any s hs)
      by_cases e3 : (getValF s).2.2 = 0
      · rw [if_pos ⟨e0, e1.1, e1.2, e3⟩]
        generalize getValF s = R at *
        obtain ⟨x, y, E⟩ := R
        simp only at HG e3
        subst e3
        clear e1 e0
        go_enter Tryd.func16, Tryd.ntmps16
        go_upto_region 1 with fail
        generalize (w.alloc (.cells #[.int .i64 code, .int .i64 id, .slice p n cap, .string s] 40)).alloc (.cells #[.string ⟨#[]⟩, .string ⟨#[]⟩, .string ⟨#[]⟩, .int .i64 0] 42) = W at *
        obtain ⟨d0, d1, d2, d3⟩ := X1.out.cells
        go_wp2_with fail
        refine (A1.out _ H1.out).mono ?_
        rintro e w1 ⟨rfl, hw⟩
        rw [hw]
        clear hw w1
        go_wp2_with fail
        refine (HR.out _ H1.out).mono ?_
        rintro e w1 ⟨rfl, hkr⟩
        obtain ⟨q0, q1, q2, q3⟩ := (X1.out.kept hkr (fun h => h)).cells
        have HKR := hid hkr
        clear hkr d0 d1 d2 d3
        go_wp2_with fail
        refine (HG.out _).mono ?_
        rintro e w2 ⟨rfl, hk⟩
        have HK := hid (HKR.out.trans hk)
        obtain ⟨⟨o0, o1, o2, o3⟩, of⟩ := O1.out.kept HK.out
        have H2 := hid (H1.out.kept0 HK.out)
        have K2 := hid (caNone (b := b) (K1.out.trans HK.out))
        clear hk HK HKR q0 q1 q2 q3
        have q5 := H2.out.c5
        have g5 := H2.out.fz 5
        have H4 := hid (H2.out.set5 2)
        have K4 := hid (caOwn K2.out 5 (.int .i64 2))
        have q3 := H4.out.c3
        have q4 := H4.out.c4
        simp only at q5 q3 q4
        have kk := hid (caOwn (Kept.refl (fun i => i = b) w2) 5 (.int .i64 2))
        have p0 := (kk.out.cell (p := ⟨w.heap.size + 1, 0, none⟩) (lt_of_cell o0) hne.symm).trans o0
        have p1 := (kk.out.cell (p := ⟨w.heap.size + 1, 1, none⟩) (lt_of_cell o1) hne.symm).trans o1
        have p2 := (kk.out.cell (p := ⟨w.heap.size + 1, 2, none⟩) (lt_of_cell o2) hne.symm).trans o2
        have p3 := (kk.out.cell (p := ⟨w.heap.size + 1, 3, none⟩) (lt_of_cell o3) hne.symm).trans o3
        have hlt0 : w.heap.size + 1 < w2.heap.size := lt_of_cell o0
        have pf : ∀ i, World.frozen? (w2.setCell ⟨b, 5, none⟩ (.int .i64 2)) ⟨w.heap.size + 1, i, none⟩ = false := fun i => (kk.out.frozen (p := ⟨w.heap.size + 1, i, none⟩) hlt0 hne.symm).trans (of i)
        go_upto_region 7 with fail
        generalize w2.setCell ⟨b, 5, none⟩ (.int .i64 2) = W4 at *
        have pf0 := pf 0
        have pf1 := pf 1
        have pf2 := pf 2
        have pf3 := pf 3
        clear o0 o1 o2 o3 of q5 g5 kk hlt0
        go_region
        all_goals
          go_wp2
          refine bodyPost_ret (v := .tuple #[.agg #[.string y, .string c.value, .string x, .int .i64 c.id], .bool true]) (by simp [results, Tryd.results16, go_sem, p0, p1, p2, p3]) rfl ⟨rfl, ?_, ?_⟩
          · exact ((((show PsIn W4.drew b _ from H4.out).far hne 0 _).far hne 1 _).far hne 2 _).far hne 3 _
          · exact ((((K4.out.drew.setCell (Or.inl (Nat.le_succ _)) _).setCell (Or.inl (Nat.le_succ _)) _).setCell (Or.inl (Nat.le_succ _)) _).setCell (Or.inl (Nat.le_succ _)) _)
      · rw [if_neg (fun h => e3 h.2.2.2)]
        have e3' : ((getValF s).2.2 != 0) = true := by simpa using e3
        generalize getValF s = R at *
        obtain ⟨x, y, E⟩ := R
        simp only at HG e3'
        clear e1 e3 e0
        go_enter Tryd.func16, Tryd.ntmps16
        go_upto_region 1 with fail
        generalize (w.alloc (.cells #[.int .i64 code, .int .i64 id, .slice p n cap, .string s] 40)).alloc (.cells #[.string ⟨#[]⟩, .string ⟨#[]⟩, .string ⟨#[]⟩, .int .i64 0] 42) = W at *
        obtain ⟨d0, d1, d2, d3⟩ := X1.out.cells
        go_wp2_with fail
        refine (A1.out _ H1.out).mono ?_
        rintro e w1 ⟨rfl, hw⟩
        rw [hw]
        clear hw w1
        go_wp2_with fail
        refine (HR.out _ H1.out).mono ?_
        rintro e w1 ⟨rfl, hkr⟩
        obtain ⟨q0, q1, q2, q3⟩ := (X1.out.kept hkr (fun h => h)).cells
        have HKR := hid hkr
        clear hkr d0 d1 d2 d3
        go_wp2_with fail
        refine (HG.out _).mono ?_
        rintro e w2 ⟨rfl, hk⟩
        have HK := hid (HKR.out.trans hk)
        obtain ⟨⟨o0, o1, o2, o3⟩, of⟩ := O1.out.kept HK.out
        have H2 := hid (H1.out.kept0 HK.out)
        have K2 := hid (caNone (b := b) (K1.out.trans HK.out))
        clear hk HK HKR q0 q1 q2 q3
        go_wp2
        refine bodyPost_ret (v := .tuple #[.agg #[.string ⟨#[]⟩, .string ⟨#[]⟩, .string ⟨#[]⟩, .int .i64 0], .bool false]) (by simp [results, Tryd.results16, go_sem, o0, o1, o2, o3]) rfl ⟨rfl, ?_, ?_⟩
        · exact (((H2.out.far hne 0 _).far hne 1 _).far hne 2 _).far hne 3 _
        · exact ((((K2.out.setCell (Or.inl (Nat.le_succ _)) _).setCell (Or.inl (Nat.le_succ _)) _).setCell (Or.inl (Nat.le_succ _)) _).setCell (Or.inl (Nat.le_succ _)) _)
    · rw [if_neg (fun h => e1 ⟨h.2.1, h.2.2.1⟩)]
      rw [show decide (code = 2 ∧ id = c.id) = false by simpa using e1] at HR
      clear e1 e0
      go_enter Tryd.func16, Tryd.ntmps16
      go_upto_region 1 with fail
      generalize (w.alloc (.cells #[.int .i64 code, .int .i64 id, .slice p n cap, .string s] 40)).alloc (.cells #[.string ⟨#[]⟩, .string ⟨#[]⟩, .string ⟨#[]⟩, .int .i64 0] 42) = W at *
      obtain ⟨d0, d1, d2, d3⟩ := X1.out.cells
      go_wp2_with fail
      refine (A1.out _ H1.out).mono ?_
      rintro e w1 ⟨rfl, hw⟩
      rw [hw]
      clear hw w1
      go_wp2_with fail
      refine (HR.out _ H1.out).mono ?_
      rintro e w2 ⟨rfl, hk⟩
      have HK := hid hk
      obtain ⟨⟨o0, o1, o2, o3⟩, of⟩ := O1.out.kept HK.out
      have H2 := hid (H1.out.kept0 HK.out)
      have K2 := hid (caNone (b := b) (K1.out.trans HK.out))
      clear hk HK d0 d1 d2 d3
      go_wp2
      refine bodyPost_ret (v := .tuple #[.agg #[.string ⟨#[]⟩, .string ⟨#[]⟩, .string ⟨#[]⟩, .int .i64 0], .bool false]) (by simp [results, Tryd.results16, go_sem, o0, o1, o2, o3]) rfl ⟨rfl, ?_, ?_⟩
      · exact (((H2.out.far hne 0 _).far hne 1 _).far hne 2 _).far hne 3 _
      · exact ((((K2.out.setCell (Or.inl (Nat.le_succ _)) _).setCell (Or.inl (Nat.le_succ _)) _).setCell (Or.inl (Nat.le_succ _)) _).setCell (Or.inl (Nat.le_succ _)) _)
  · rw [if_neg (fun h => e0 h.1)]
    rw [show (c.st == 1) = false by simpa using e0] at A1
    clear e0
    go_enter Tryd.func16, Tryd.ntmps16
    go_upto_region 1 with fail
    generalize (w.alloc (.cells #[.int .i64 code, .int .i64 id, .slice p n cap, .string s] 40)).alloc (.cells #[.string ⟨#[]⟩, .string ⟨#[]⟩, .string ⟨#[]⟩, .int .i64 0] 42) = W at *
    obtain ⟨⟨o0, o1, o2, o3⟩, of⟩ := O1.out
    go_wp2_with fail
    refine (A1.out _ H1.out).mono ?_
    rintro e w1 ⟨rfl, hw⟩
    rw [hw]
    clear hw w1
    go_wp2
    refine bodyPost_ret (v := .tuple #[.agg #[.string ⟨#[]⟩, .string ⟨#[]⟩, .string ⟨#[]⟩, .int .i64 0], .bool false]) (by simp [results, Tryd.results16, go_sem, o0, o1, o2, o3]) rfl ⟨rfl, ?_, ?_⟩
    · exact (((H1.out.far hne 0 _).far hne 1 _).far hne 2 _).far hne 3 _
    · exact ((((caNone K1.out).setCell (Or.inl (Nat.le_succ _)) _).setCell (Or.inl (Nat.le_succ _)) _).setCell (Or.inl (Nat.le_succ _)) _).setCell (Or.inl (Nat.le_succ _)) _
end Go.Proofs.YtndpfcanfcbldaaDoor
