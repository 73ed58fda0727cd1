/- The law HostIgnores: it returns true for every list of what is done, and leaves what was there. -/
import Derived.Test.YthpgmfijameddaaHsAlive
import Derived.Test.YthpgmfijameddaaHsNone
import Derived.Test.YthpgmfijameddaaHsArgs
namespace Go.Proofs.Ythpgmfijameddaa
open Go.RowKit

/-- Every law's host and what was there ahead of it. -/
theorem HSt.read2 {w W : World} {b : Nat} {c : Hs} {vs : List (Value × List Fr)} {f : FuncId} {args : Array Value} {r : Ending} (h : HSt w W b c vs) (hc : ∀ av, HostIn W b av c → Calls Try.prog f args W fun e w'' => e = r ∧ Kept (fun _ => False) W w'') :
    Calls Try.prog f args W fun e w'' => e = r ∧ HSt w w'' b c vs := h.read hc

theorem op_cells {d s : List UInt8} (h : d.length = 6) (h' : s.length = 6) (k ty : Int) (x y : ByteArray) : ∃ d0 d1 d2 d3 d4 d5 s0 s1 s2 s3 s4 s5 : Int, Lib.byteCells d = [.int .u8 d0, .int .u8 d1, .int .u8 d2, .int .u8 d3, .int .u8 d4, .int .u8 d5] ∧
    opList ⟨k, ⟨d, s, ty, x⟩, y⟩ = [.int .i64 k, .int .u8 d0, .int .u8 d1, .int .u8 d2, .int .u8 d3, .int .u8 d4, .int .u8 d5, .int .u8 s0, .int .u8 s1, .int .u8 s2, .int .u8 s3, .int .u8 s4, .int .u8 s5, .int .i64 ty, .string x, .string y] := by
  obtain ⟨d0, d1, d2, d3, d4, d5, ed⟩ := six_cells h
  obtain ⟨s0, s1, s2, s3, s4, s5, es⟩ := six_cells h'
  refine ⟨d0, d1, d2, d3, d4, d5, s0, s1, s2, s3, s4, s5, ed, ?_⟩
  unfold opList frList
  simp only []
  rw [ed, es]
  rfl

set_option maxHeartbeats 4000000 in
set_option maxRecDepth 100000 in
theorem hostIgnores_walk (v : Value) (l : List Op8) (w : World) (hv : Ops8At w v l) : Calls Try.prog 5 #[v] w fun e w' => e = .returned (.bool true) ∧ Below w.heap.size w w' := by
  have Ha := hid alive_any
  obtain ⟨p, cap, rfl, hcap, hmax⟩ : ∃ p cap, v = .slice p l.length cap ∧ (l.length ≤ 100 → True) ∧ l.length ≤ maxLen := by
    rcases hv with ⟨rfl, p, cap, rfl⟩ | ⟨g, o, cap, rfl, h1, h2, _⟩
    · exact ⟨p, cap, rfl, fun _ => trivial, Nat.zero_le _⟩
    · exact ⟨_, cap, rfl, fun _ => trivial, Nat.le_trans h1 h2⟩
  by_cases hl : l.length ≤ 100
  · have hlen : ¬ (100 : Int) < (l.length : Int) := by omega
    have CK := hid (ck_I 3 100 (by decide) (by decide) (by decide))
    have HN0 := hid (newI 3 100 (by decide) (by decide) (by decide))
    obtain ⟨wA, hwA⟩ : ∃ wA, wA = w.alloc (.cells #[.int .u8 1, .int .u8 1, .int .u8 1, .int .u8 0, .int .u8 0, .int .u8 0] 23) := ⟨_, rfl⟩
    have HwA := hid hwA
    have KA : Hid (Kept (fun _ => False) w wA) := by rw [hwA]; exact (Kept.refl _ w).alloc _
    have BA : Hid (Box6 wA w.heap.size (.int .u8 1) (.int .u8 1) (.int .u8 1) (.int .u8 0) (.int .u8 0) (.int .u8 0)) := by rw [hwA]; exact box6_new w _ _ _ _ _ _ _
    have HV := hid hv
    clear hwA hv hcap
    go_enter Try.func5, Try.ntmps5
    go_wp2_with fail
    rw [← HwA.out]
    refine (HN0.out _).mono ?_
    rintro e w1 ⟨B, rfl, h1⟩
    clear HN0
    have H1 := hid h1
    clear h1
    go_wp2_with fail
    refine (H1.out.startBy CK.out.good0 CK.out.start0).mono ?_
    rintro e w2 ⟨p2, c2, rfl, h2⟩
    have H2 := hid (h2.sub (us := []) (fun p hp => by simp at hp))
    clear h2 H1
    go_wp2_with fail
    go_loopw [6] (fun vi wr => ∃ (i : Nat), i ≤ l.length ∧ vi = .int .i64 (i : Int) ∧ Hid (HSt wA wr B (hq m111 eB uB 3 100 fI 0 0) [])) (fun vi _ => l.length - (intOf vi).toNat)
    case atStart => exact ⟨0, Nat.zero_le _, rfl, H2.out⟩
    case round =>
      obtain ⟨i, hi, rfl, HS⟩ := hrel
      clear H2
      have hG := hid (CK.out.good (k := 0) (n := 0) (Nat.zero_le _) (by decide))
      by_cases hlt : i < l.length
      · have hltz : (i : Int) < (l.length : Int) := by omega
        obtain ⟨⟨k, ⟨d, s, ty, x⟩, y⟩, hx⟩ : ∃ x, l[i]? = some x := ⟨l[i], by simp [hlt]⟩
        obtain ⟨g, o, cap', ev, h1, h2, hel⟩ : ∃ g o cap', (p = some ⟨g, o, none⟩ ∧ cap = cap') ∧ l.length ≤ cap' ∧ cap' ≤ maxLen ∧ ∀ j x, l[j]? = some x → Op8Ok x ∧ ∀ i u, (opList x)[i]? = some u → w.cell? ⟨g, o + j * 16 + i, none⟩ = some u := by
          rcases HV.out with ⟨rfl, _⟩ | ⟨g, o, cap', e, h1, h2, h3⟩
          · simp at hlt
          · simp only [Value.slice.injEq, true_and] at e
            exact ⟨g, o, cap', e, h1, h2, h3⟩
        obtain ⟨rfl, rfl⟩ := ev
        obtain ⟨hok, hcl⟩ := hel i _ hx
        obtain ⟨d0, d1, d2, d3, d4, d5, s0, s1, s2, s3, s4, s5, ed, eop⟩ := op_cells hok.six.1 hok.six.2 k ty x y
        rw [eop] at hcl
        have hclW : ∀ W, Kept (fun _ => False) w W → ∀ i' u, ([.int .i64 k, .int .u8 d0, .int .u8 d1, .int .u8 d2, .int .u8 d3, .int .u8 d4, .int .u8 d5, .int .u8 s0, .int .u8 s1, .int .u8 s2, .int .u8 s3, .int .u8 s4, .int .u8 s5, .int .i64 ty, .string x, .string y] : List Value)[i']? = some u → W.cell? ⟨g, o + i * 16 + i', none⟩ = some u := fun W hW i' u hu => (hW.cell (p := ⟨g, o + i * 16 + i', none⟩) (lt_of_cell (hcl i' u hu)) id).trans (hcl i' u hu)
        clear HV hel hx hcl eop
        by_cases hsz : x.size ≤ 3000
        · have hlz : ¬ (3000 : Int) < (x.size : Int) := by omega
          have c14 := hclW _ (KA.out.trans HS.out.kept) 14 _ rfl
          have hE := mac_eq d m111 hok.six.1 rfl
          rw [ed] at hE
          change ∀ W, Sem.run Try.prog (Op.equalIn 10000 23 (.agg #[.int .u8 d0, .int .u8 d1, .int .u8 d2, .int .u8 d3, .int .u8 d4, .int .u8 d5]) (.agg #[.int .u8 1, .int .u8 1, .int .u8 1, .int .u8 0, .int .u8 0, .int .u8 0])) W = .ok (decide (d = m111)) W at hE
          have hd6 := hok.six.1
          clear hok
          go_wp2_with fail
          clear c14
          have r0 : ∀ W, Kept (fun _ => False) wr W → W.cell? ⟨g, o + i * 16 + 1, none⟩ = some (.int .u8 d0) := fun W h => hclW W ((KA.out.trans HS.out.kept).trans h) 1 _ rfl
          have r1 : ∀ W, Kept (fun _ => False) wr W → W.cell? ⟨g, o + i * 16 + 1 + 1, none⟩ = some (.int .u8 d1) := fun W h => hclW W ((KA.out.trans HS.out.kept).trans h) 2 _ rfl
          have r2 : ∀ W, Kept (fun _ => False) wr W → W.cell? ⟨g, o + i * 16 + 1 + 2, none⟩ = some (.int .u8 d2) := fun W h => hclW W ((KA.out.trans HS.out.kept).trans h) 3 _ rfl
          have r3 : ∀ W, Kept (fun _ => False) wr W → W.cell? ⟨g, o + i * 16 + 1 + 3, none⟩ = some (.int .u8 d3) := fun W h => hclW W ((KA.out.trans HS.out.kept).trans h) 4 _ rfl
          have r4 : ∀ W, Kept (fun _ => False) wr W → W.cell? ⟨g, o + i * 16 + 1 + 4, none⟩ = some (.int .u8 d4) := fun W h => hclW W ((KA.out.trans HS.out.kept).trans h) 5 _ rfl
          have r5 : ∀ W, Kept (fun _ => False) wr W → W.cell? ⟨g, o + i * 16 + 1 + 5, none⟩ = some (.int .u8 d5) := fun W h => hclW W ((KA.out.trans HS.out.kept).trans h) 6 _ rfl
          have r6 : ∀ W, Kept (fun _ => False) wr W → W.cell? ⟨g, o + i * 16 + 1 + 6, none⟩ = some (.int .u8 s0) := fun W h => hclW W ((KA.out.trans HS.out.kept).trans h) 7 _ rfl
          have r7 : ∀ W, Kept (fun _ => False) wr W → W.cell? ⟨g, o + i * 16 + 1 + 7, none⟩ = some (.int .u8 s1) := fun W h => hclW W ((KA.out.trans HS.out.kept).trans h) 8 _ rfl
          have r8 : ∀ W, Kept (fun _ => False) wr W → W.cell? ⟨g, o + i * 16 + 1 + 8, none⟩ = some (.int .u8 s2) := fun W h => hclW W ((KA.out.trans HS.out.kept).trans h) 9 _ rfl
          have r9 : ∀ W, Kept (fun _ => False) wr W → W.cell? ⟨g, o + i * 16 + 1 + 9, none⟩ = some (.int .u8 s3) := fun W h => hclW W ((KA.out.trans HS.out.kept).trans h) 10 _ rfl
          have r10 : ∀ W, Kept (fun _ => False) wr W → W.cell? ⟨g, o + i * 16 + 1 + 10, none⟩ = some (.int .u8 s4) := fun W h => hclW W ((KA.out.trans HS.out.kept).trans h) 11 _ rfl
          have r11 : ∀ W, Kept (fun _ => False) wr W → W.cell? ⟨g, o + i * 16 + 1 + 11, none⟩ = some (.int .u8 s5) := fun W h => hclW W ((KA.out.trans HS.out.kept).trans h) 12 _ rfl
          have r12 : ∀ W, Kept (fun _ => False) wr W → W.cell? ⟨g, o + i * 16 + 1 + 12, none⟩ = some (.int .i64 ty) := fun W h => hclW W ((KA.out.trans HS.out.kept).trans h) 13 _ rfl
          have r13 : ∀ W, Kept (fun _ => False) wr W → W.cell? ⟨g, o + i * 16 + 1 + 13, none⟩ = some (.string x) := fun W h => hclW W ((KA.out.trans HS.out.kept).trans h) 14 _ rfl
          have b0 : ∀ W, Kept (fun _ => False) wr W → W.cell? ⟨w.heap.size, 0, none⟩ = some (.int .u8 1) := fun W h => (BA.out.kept (HS.out.kept.trans h)).c0
          have b1 : ∀ W, Kept (fun _ => False) wr W → W.cell? ⟨w.heap.size, 1, none⟩ = some (.int .u8 1) := fun W h => (BA.out.kept (HS.out.kept.trans h)).c1
          have b2 : ∀ W, Kept (fun _ => False) wr W → W.cell? ⟨w.heap.size, 2, none⟩ = some (.int .u8 1) := fun W h => (BA.out.kept (HS.out.kept.trans h)).c2
          have b3 : ∀ W, Kept (fun _ => False) wr W → W.cell? ⟨w.heap.size, 3, none⟩ = some (.int .u8 0) := fun W h => (BA.out.kept (HS.out.kept.trans h)).c3
          have b4 : ∀ W, Kept (fun _ => False) wr W → W.cell? ⟨w.heap.size, 4, none⟩ = some (.int .u8 0) := fun W h => (BA.out.kept (HS.out.kept.trans h)).c4
          have b5 : ∀ W, Kept (fun _ => False) wr W → W.cell? ⟨w.heap.size, 5, none⟩ = some (.int .u8 0) := fun W h => (BA.out.kept (HS.out.kept.trans h)).c5
          by_cases hdm : d = m111
          · simp only [decide_eq_true hdm] at hE
            clear hdm ed
            refine wp_region_held_drew (S := Kept (fun _ => False) wr) (by kernel_rfl) ((Kept.refl _ wr).drew) (fun hSd => ?_)
            refine wpAnyH_take (i := 0) (v := ?_) rfl (by kernel_rfl) (by kernel_rfl) (by kernel_rfl) (fun _ _ _ h => h) (Or.inl ⟨by kernel_rfl, fun W hSW => by go_simp; try with_reducible rfl⟩) (by assumption) ?_
            try simp only [List.getElem_toArray]
            try simp only [List.getElem_cons_succ]
            try simp only [List.getElem_cons_zero]
            try simp only [Act.put]
            try simp only [List.setIfInBounds_toArray]
            try simp only [List.set_cons_succ]
            try simp only [List.set_cons_zero]
            refine wpAnyH_take (i := 1) (v := ?_) rfl (by kernel_rfl) (by kernel_rfl) (by kernel_rfl) (fun _ _ _ h => h) (Or.inl ⟨by kernel_rfl, fun W hSW => by go_simp; try with_reducible rfl⟩) (by assumption) ?_
            try simp only [List.getElem_toArray]
            try simp only [List.getElem_cons_succ]
            try simp only [List.getElem_cons_zero]
            try simp only [Act.put]
            try simp only [List.setIfInBounds_toArray]
            try simp only [List.set_cons_succ]
            try simp only [List.set_cons_zero]
            refine wpAnyH_take (i := 2) (v := ?_) rfl (by kernel_rfl) (by kernel_rfl) (by kernel_rfl) (fun _ _ _ h => h) (Or.inl ⟨by kernel_rfl, fun W hSW => by go_simp; try with_reducible rfl⟩) (by assumption) ?_
            try simp only [List.getElem_toArray]
            try simp only [List.getElem_cons_succ]
            try simp only [List.getElem_cons_zero]
            try simp only [Act.put]
            try simp only [List.setIfInBounds_toArray]
            try simp only [List.set_cons_succ]
            try simp only [List.set_cons_zero]
            refine wpAnyH_take (i := 3) (v := ?_) rfl (by kernel_rfl) (by kernel_rfl) (by kernel_rfl) (fun _ _ _ h => h) (Or.inl ⟨by kernel_rfl, fun W hSW => by go_simp; try with_reducible rfl⟩) (by assumption) ?_
            try simp only [List.getElem_toArray]
            try simp only [List.getElem_cons_succ]
            try simp only [List.getElem_cons_zero]
            try simp only [Act.put]
            try simp only [List.setIfInBounds_toArray]
            try simp only [List.set_cons_succ]
            try simp only [List.set_cons_zero]
            refine wpAnyH_take (i := 4) (v := ?_) rfl (by kernel_rfl) (by kernel_rfl) (by kernel_rfl) (fun _ _ _ h => h) (Or.inl ⟨by kernel_rfl, fun W hSW => by go_simp; try with_reducible rfl⟩) (by assumption) ?_
            try simp only [List.getElem_toArray]
            try simp only [List.getElem_cons_succ]
            try simp only [List.getElem_cons_zero]
            try simp only [Act.put]
            try simp only [List.setIfInBounds_toArray]
            try simp only [List.set_cons_succ]
            try simp only [List.set_cons_zero]
            refine wpAnyH_take (i := 5) (v := ?_) rfl (by kernel_rfl) (by kernel_rfl) (by kernel_rfl) (fun _ _ _ h => h) (Or.inl ⟨by kernel_rfl, fun W hSW => by go_simp; try with_reducible rfl⟩) (by assumption) ?_
            try simp only [List.getElem_toArray]
            try simp only [List.getElem_cons_succ]
            try simp only [List.getElem_cons_zero]
            try simp only [Act.put]
            try simp only [List.setIfInBounds_toArray]
            try simp only [List.set_cons_succ]
            try simp only [List.set_cons_zero]
            refine wpAnyH_take (i := 6) (v := ?_) rfl (by kernel_rfl) (by kernel_rfl) (by kernel_rfl) (fun _ _ _ h => h) (Or.inl ⟨by kernel_rfl, fun W hSW => by go_simp; try with_reducible rfl⟩) (by assumption) ?_
            try simp only [List.getElem_toArray]
            try simp only [List.getElem_cons_succ]
            try simp only [List.getElem_cons_zero]
            try simp only [Act.put]
            try simp only [List.setIfInBounds_toArray]
            try simp only [List.set_cons_succ]
            try simp only [List.set_cons_zero]
            refine wpAnyH_take (i := 7) (v := (.bool true)) rfl (by kernel_rfl) (by kernel_rfl) (by kernel_rfl) (fun _ _ _ h => h) (Or.inl ⟨by kernel_rfl, fun W hSW => by go_simp; try with_reducible rfl⟩) (by assumption) ?_
            try simp only [List.getElem_toArray]
            try simp only [List.getElem_cons_succ]
            try simp only [List.getElem_cons_zero]
            try simp only [Act.put]
            try simp only [List.setIfInBounds_toArray]
            try simp only [List.set_cons_succ]
            try simp only [List.set_cons_zero]
            refine wpAnyH_done (by kernel_rfl) ?_ _
            clear hE r0 r1 r2 r3 r4 r5 r6 r7 r8 r9 r10 r11 r12 r13 b0 b1 b2 b3 b4 b5
            have H3 := hid (HS.out.still (Kept.refl (fun _ => False) wr).drew)
            clear HS
            go_wp2
            go_roundw
            case rel => exact ⟨i + 1, hlt, by go_num, H3.out⟩
            case measure => simp [intOf]; omega
          · simp only [decide_eq_false hdm] at hE
            have HTK := hid (fun (W : World) (av : Value) (hH : HostIn W B av (hq m111 eB uB 3 100 fI 0 0)) => take_not d0 d1 d2 d3 d4 d5 s0 s1 s2 s3 s4 s5 ty x B av _ hG.out d hd6 ed hdm W hH)
            have HDT := hid (fun (W : World) (av : Value) (hH : HostIn W B av (hq m111 eB uB 3 100 fI 0 0)) => data_not d0 d1 d2 d3 d4 d5 s0 s1 s2 s3 s4 s5 ty x B av _ hG.out (by decide) W hH)
            clear hdm ed
            refine wp_region_held_drew (S := Kept (fun _ => False) wr) (by kernel_rfl) ((Kept.refl _ wr).drew) (fun hSd => ?_)
            refine wpAnyH_take (i := 0) (v := ?_) rfl (by kernel_rfl) (by kernel_rfl) (by kernel_rfl) (fun _ _ _ h => h) (Or.inl ⟨by kernel_rfl, fun W hSW => by go_simp; try with_reducible rfl⟩) (by assumption) ?_
            try simp only [List.getElem_toArray]
            try simp only [List.getElem_cons_succ]
            try simp only [List.getElem_cons_zero]
            try simp only [Act.put]
            try simp only [List.setIfInBounds_toArray]
            try simp only [List.set_cons_succ]
            try simp only [List.set_cons_zero]
            refine wpAnyH_take (i := 1) (v := ?_) rfl (by kernel_rfl) (by kernel_rfl) (by kernel_rfl) (fun _ _ _ h => h) (Or.inl ⟨by kernel_rfl, fun W hSW => by go_simp; try with_reducible rfl⟩) (by assumption) ?_
            try simp only [List.getElem_toArray]
            try simp only [List.getElem_cons_succ]
            try simp only [List.getElem_cons_zero]
            try simp only [Act.put]
            try simp only [List.setIfInBounds_toArray]
            try simp only [List.set_cons_succ]
            try simp only [List.set_cons_zero]
            refine wpAnyH_take (i := 2) (v := ?_) rfl (by kernel_rfl) (by kernel_rfl) (by kernel_rfl) (fun _ _ _ h => h) (Or.inl ⟨by kernel_rfl, fun W hSW => by go_simp; try with_reducible rfl⟩) (by assumption) ?_
            try simp only [List.getElem_toArray]
            try simp only [List.getElem_cons_succ]
            try simp only [List.getElem_cons_zero]
            try simp only [Act.put]
            try simp only [List.setIfInBounds_toArray]
            try simp only [List.set_cons_succ]
            try simp only [List.set_cons_zero]
            refine wpAnyH_take (i := 3) (v := ?_) rfl (by kernel_rfl) (by kernel_rfl) (by kernel_rfl) (fun _ _ _ h => h) (Or.inl ⟨by kernel_rfl, fun W hSW => by go_simp; try with_reducible rfl⟩) (by assumption) ?_
            try simp only [List.getElem_toArray]
            try simp only [List.getElem_cons_succ]
            try simp only [List.getElem_cons_zero]
            try simp only [Act.put]
            try simp only [List.setIfInBounds_toArray]
            try simp only [List.set_cons_succ]
            try simp only [List.set_cons_zero]
            refine wpAnyH_take (i := 4) (v := ?_) rfl (by kernel_rfl) (by kernel_rfl) (by kernel_rfl) (fun _ _ _ h => h) (Or.inl ⟨by kernel_rfl, fun W hSW => by go_simp; try with_reducible rfl⟩) (by assumption) ?_
            try simp only [List.getElem_toArray]
            try simp only [List.getElem_cons_succ]
            try simp only [List.getElem_cons_zero]
            try simp only [Act.put]
            try simp only [List.setIfInBounds_toArray]
            try simp only [List.set_cons_succ]
            try simp only [List.set_cons_zero]
            refine wpAnyH_take (i := 5) (v := ?_) rfl (by kernel_rfl) (by kernel_rfl) (by kernel_rfl) (fun _ _ _ h => h) (Or.inl ⟨by kernel_rfl, fun W hSW => by go_simp; try with_reducible rfl⟩) (by assumption) ?_
            try simp only [List.getElem_toArray]
            try simp only [List.getElem_cons_succ]
            try simp only [List.getElem_cons_zero]
            try simp only [Act.put]
            try simp only [List.setIfInBounds_toArray]
            try simp only [List.set_cons_succ]
            try simp only [List.set_cons_zero]
            refine wpAnyH_take (i := 6) (v := ?_) rfl (by kernel_rfl) (by kernel_rfl) (by kernel_rfl) (fun _ _ _ h => h) (Or.inl ⟨by kernel_rfl, fun W hSW => by go_simp; try with_reducible rfl⟩) (by assumption) ?_
            try simp only [List.getElem_toArray]
            try simp only [List.getElem_cons_succ]
            try simp only [List.getElem_cons_zero]
            try simp only [Act.put]
            try simp only [List.setIfInBounds_toArray]
            try simp only [List.set_cons_succ]
            try simp only [List.set_cons_zero]
            refine wpAnyH_take (i := 7) (v := (.bool false)) rfl (by kernel_rfl) (by kernel_rfl) (by kernel_rfl) (fun _ _ _ h => h) (Or.inl ⟨by kernel_rfl, fun W hSW => by go_simp; try with_reducible rfl⟩) (by assumption) ?_
            try simp only [List.getElem_toArray]
            try simp only [List.getElem_cons_succ]
            try simp only [List.getElem_cons_zero]
            try simp only [Act.put]
            try simp only [List.setIfInBounds_toArray]
            try simp only [List.set_cons_succ]
            try simp only [List.set_cons_zero]
            refine wpAnyH_done (by kernel_rfl) ?_ _
            clear hE r0 r1 r2 r3 r4 r5 r6 r7 r8 r9 r10 r11 r12 r13 b0 b1 b2 b3 b4 b5
            have H3 := hid (HS.out.still (Kept.refl (fun _ => False) wr).drew)
            clear HS
            generalize wr.drew = w4 at *
            have e0 : World.cell? w4 ⟨g, o + i * 16 + 1, none⟩ = some (.int .u8 d0) := hclW w4 (KA.out.trans H3.out.kept) 1 _ rfl
            have e1 : World.cell? w4 ⟨g, o + i * 16 + 1 + 1, none⟩ = some (.int .u8 d1) := hclW w4 (KA.out.trans H3.out.kept) 2 _ rfl
            have e2 : World.cell? w4 ⟨g, o + i * 16 + 1 + 2, none⟩ = some (.int .u8 d2) := hclW w4 (KA.out.trans H3.out.kept) 3 _ rfl
            have e3 : World.cell? w4 ⟨g, o + i * 16 + 1 + 3, none⟩ = some (.int .u8 d3) := hclW w4 (KA.out.trans H3.out.kept) 4 _ rfl
            have e4 : World.cell? w4 ⟨g, o + i * 16 + 1 + 4, none⟩ = some (.int .u8 d4) := hclW w4 (KA.out.trans H3.out.kept) 5 _ rfl
            have e5 : World.cell? w4 ⟨g, o + i * 16 + 1 + 5, none⟩ = some (.int .u8 d5) := hclW w4 (KA.out.trans H3.out.kept) 6 _ rfl
            have e6 : World.cell? w4 ⟨g, o + i * 16 + 1 + 6, none⟩ = some (.int .u8 s0) := hclW w4 (KA.out.trans H3.out.kept) 7 _ rfl
            have e7 : World.cell? w4 ⟨g, o + i * 16 + 1 + 7, none⟩ = some (.int .u8 s1) := hclW w4 (KA.out.trans H3.out.kept) 8 _ rfl
            have e8 : World.cell? w4 ⟨g, o + i * 16 + 1 + 8, none⟩ = some (.int .u8 s2) := hclW w4 (KA.out.trans H3.out.kept) 9 _ rfl
            have e9 : World.cell? w4 ⟨g, o + i * 16 + 1 + 9, none⟩ = some (.int .u8 s3) := hclW w4 (KA.out.trans H3.out.kept) 10 _ rfl
            have e10 : World.cell? w4 ⟨g, o + i * 16 + 1 + 10, none⟩ = some (.int .u8 s4) := hclW w4 (KA.out.trans H3.out.kept) 11 _ rfl
            have e11 : World.cell? w4 ⟨g, o + i * 16 + 1 + 11, none⟩ = some (.int .u8 s5) := hclW w4 (KA.out.trans H3.out.kept) 12 _ rfl
            have e12 : World.cell? w4 ⟨g, o + i * 16 + 1 + 12, none⟩ = some (.int .i64 ty) := hclW w4 (KA.out.trans H3.out.kept) 13 _ rfl
            have e13 : World.cell? w4 ⟨g, o + i * 16 + 1 + 13, none⟩ = some (.string x) := hclW w4 (KA.out.trans H3.out.kept) 14 _ rfl
            go_wp2_with fail
            refine (H3.out.read (fun av hH => HTK.out _ av hH)).mono ?_
            rintro e w5 ⟨rfl, h5⟩
            have H5 := hid h5
            clear h5 H3 e0 e1 e2 e3 e4 e5 e6 e7 e8 e9 e10 e11 e12 e13
            have f0 : World.cell? w5 ⟨g, o + i * 16 + 1, none⟩ = some (.int .u8 d0) := hclW w5 (KA.out.trans H5.out.kept) 1 _ rfl
            have f1 : World.cell? w5 ⟨g, o + i * 16 + 1 + 1, none⟩ = some (.int .u8 d1) := hclW w5 (KA.out.trans H5.out.kept) 2 _ rfl
            have f2 : World.cell? w5 ⟨g, o + i * 16 + 1 + 2, none⟩ = some (.int .u8 d2) := hclW w5 (KA.out.trans H5.out.kept) 3 _ rfl
            have f3 : World.cell? w5 ⟨g, o + i * 16 + 1 + 3, none⟩ = some (.int .u8 d3) := hclW w5 (KA.out.trans H5.out.kept) 4 _ rfl
            have f4 : World.cell? w5 ⟨g, o + i * 16 + 1 + 4, none⟩ = some (.int .u8 d4) := hclW w5 (KA.out.trans H5.out.kept) 5 _ rfl
            have f5 : World.cell? w5 ⟨g, o + i * 16 + 1 + 5, none⟩ = some (.int .u8 d5) := hclW w5 (KA.out.trans H5.out.kept) 6 _ rfl
            have f6 : World.cell? w5 ⟨g, o + i * 16 + 1 + 6, none⟩ = some (.int .u8 s0) := hclW w5 (KA.out.trans H5.out.kept) 7 _ rfl
            have f7 : World.cell? w5 ⟨g, o + i * 16 + 1 + 7, none⟩ = some (.int .u8 s1) := hclW w5 (KA.out.trans H5.out.kept) 8 _ rfl
            have f8 : World.cell? w5 ⟨g, o + i * 16 + 1 + 8, none⟩ = some (.int .u8 s2) := hclW w5 (KA.out.trans H5.out.kept) 9 _ rfl
            have f9 : World.cell? w5 ⟨g, o + i * 16 + 1 + 9, none⟩ = some (.int .u8 s3) := hclW w5 (KA.out.trans H5.out.kept) 10 _ rfl
            have f10 : World.cell? w5 ⟨g, o + i * 16 + 1 + 10, none⟩ = some (.int .u8 s4) := hclW w5 (KA.out.trans H5.out.kept) 11 _ rfl
            have f11 : World.cell? w5 ⟨g, o + i * 16 + 1 + 11, none⟩ = some (.int .u8 s5) := hclW w5 (KA.out.trans H5.out.kept) 12 _ rfl
            have f12 : World.cell? w5 ⟨g, o + i * 16 + 1 + 12, none⟩ = some (.int .i64 ty) := hclW w5 (KA.out.trans H5.out.kept) 13 _ rfl
            have f13 : World.cell? w5 ⟨g, o + i * 16 + 1 + 13, none⟩ = some (.string x) := hclW w5 (KA.out.trans H5.out.kept) 14 _ rfl
            go_wp2_with fail
            refine (H5.out.read (fun av hH => HDT.out _ av hH)).mono ?_
            rintro e w6 ⟨rfl, h6⟩
            have H6 := hid h6
            clear h6 H5 f0 f1 f2 f3 f4 f5 f6 f7 f8 f9 f10 f11 f12 f13
            go_wp2_with fail
            refine (H6.out.stateBy hG.out rfl (st := 1) (ss := 0) rfl rfl).mono ?_
            rintro e w7 ⟨rfl, h7⟩
            have H7 := hid (h7.still ((Kept.refl (fun _ => False) w7).alloc (.cells #[.int .u8 0, .int .u8 0, .int .u8 0, .int .u8 0, .int .u8 0, .int .u8 0] 23)))
            clear h7 H6
            go_wp2
            go_roundw
            case rel => exact ⟨i + 1, hlt, by go_num, H7.out⟩
            case measure => simp [intOf]; omega
        · have hlz : (3000 : Int) < (x.size : Int) := by omega
          have c14 := hclW _ (KA.out.trans HS.out.kept) 14 _ rfl
          go_wp2_with fail
          refine (Ha.out _).mono ?_
          rintro e w4 ⟨rfl, hk4⟩
          have K4 := hid (KA.out.trans (HS.out.kept.trans hk4))
          go_wp2
          go_ret
          exact ⟨rfl, below_of K4.out⟩
      · obtain rfl : i = l.length := by omega
        go_wp2_with fail
        refine (Ha.out _).mono ?_
        rintro e w4 ⟨rfl, hk4⟩
        have K4 := hid (KA.out.trans (HS.out.kept.trans hk4))
        go_wp2
        go_ret
        exact ⟨rfl, below_of K4.out⟩
  · have hlen : (100 : Int) < (l.length : Int) := by omega
    clear hl hcap
    go_enter Try.func5, Try.ntmps5
    go_wp2_with fail
    refine (Ha.out _).mono ?_
    rintro e w2 ⟨rfl, hk2⟩
    go_wp2
    go_ret
    exact ⟨rfl, below_of hk2⟩
end Go.Proofs.Ythpgmfijameddaa
