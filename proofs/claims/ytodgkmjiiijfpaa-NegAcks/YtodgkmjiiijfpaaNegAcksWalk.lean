/- The law NegAcks: it returns true for every steps, and leaves what was there. -/
import Derived.Test.YtodgkmjiiijfpaaNaIn
import Derived.Deep.QuietTactic
import Derived.BigQuiet
namespace Go.Proofs.Ytodgkmjiiijfpaa
open Go.RowKit

/-- Where the law stands behind some steps. -/
def AckS (w W : World) (b : Nat) (last : Int) (vs vo : Value) : Prop := ∃ a n sl lo, AckM w W b a n vs vo sl lo ∧ Acks n (scanL (last, sl) (lo.map (·.1)))
theorem scan_next {t : Int × List Tg} {lo : List (Pk0 × Value)} {k : Nat} {q : Pk0 × Value} (h : lo[k]? = some q) : scanL t ((lo.map (·.1)).take (k + 1)) = scanP (scanL t ((lo.map (·.1)).take k)) q.1 := by
  rw [take_nextG (x := q.1) (by rw [List.getElem?_map, h]; rfl), scanL_append]
  rfl
theorem Pks.le {W : World} {base : Nat} {T : Nat → Prop} {v : Value} {l : List (Pk0 × Value)} (h : Pks W base T v l) : l.length ≤ 9223372036854775807 := by
  rcases h.row.2 with ⟨_, h0⟩ | ⟨g, cap, cur, _, _, _, h1, h2, _⟩
  · omega
  · simp only [maxLen] at h2
    omega
theorem right_theirs {n : Ng} (h : Right n.theirs) : Right (theirsF n) := by
  unfold theirsF
  split
  · exact h
  · exact fun x hx => absurd hx List.not_mem_nil

set_option maxHeartbeats 16000000 in
set_option maxRecDepth 100000 in
theorem negAcks_walk (v : Value) (l : List Op11) (w : World) (hv : OpsAt w v l) (hl : l.length ≤ maxLen) (hin : ∀ x ∈ l, OpIn w x) :
    Calls Try.prog 7 #[v] w fun e w' => e = .returned (.bool true) ∧ Below w.heap.size w w' := by
  have Ha := hid lawAlive_any
  have HSm := hid (lawSmall_any v l w hv hl hin)
  obtain ⟨p, cap, rfl⟩ := hv.slice
  have Hat := hid (fun (j : Nat) (x : Op11) (hj : l[j]? = some x) (W : World) (hW : Kept (fun _ => False) w W) => (RowsAt.kept0 hv hW).at hj)
  have HIn := hid hin
  clear hv hin hl
  go_enter Try.func7, Try.ntmps7
  go_wp2_with fail
  refine HSm.out.mono ?_
  rintro e w0 ⟨B, rfl, hB, k0⟩
  have K0 := hid k0
  have HB := hid hB
  clear k0 hB HSm
  cases B with
  | false =>
    as_aux_lemma =>
    go_wp2_with fail
    refine (Ha.out _).mono ?_
    rintro e w2 ⟨rfl, hk2⟩
    go_wp2
    go_ret
    exact ⟨rfl, below_of (K0.out.trans hk2)⟩
  | true =>
    have HLi := hid (HB.out rfl).2
    have hl2 := (HB.out rfl).1
    clear HB
    have HSu := hid (lawSetup_any ⟨#[5, 0]⟩ 3 w0)
    unfold setupV at HSu
    go_wp2_with fail
    refine HSu.out.mono ?_
    rintro e w1 ⟨va, vo, vp, rfl, hoa, hra, hrp, hk1⟩
    have HNew := hid (ngNew_any va vo vp [optA] [rule1] [rule1] 5 2 3 2 w1 hoa hra hrp (by decide) (by decide) (by decide) (by decide) (fine1 ⟨by decide, by decide⟩ (by decide)) (by kernel_rfl) (alone1 _) good1 good1)
    unfold setupV at HNew
    have K1 := hid (K0.out.trans hk1)
    obtain ⟨pa, ca, rfl⟩ := hoa.1.slice
    obtain ⟨po, co, rfl⟩ := hra.slice
    obtain ⟨pp, cp, rfl⟩ := hrp.slice
    clear hoa hra hrp hk1 HSu
    go_wp2_with fail
    refine HNew.out.mono ?_
    rintro e w3 ⟨b, rfl, a, hn, hk3⟩
    have M3 : Hid (NMine w w3 b a nK0) := ⟨hn.lower K1.out.size, K1.out.trans hk3⟩
    have hE := eqNegSome ⟨b, 0, none⟩
    clear hn hk3 K1 HNew
    have HD := hid (ngDo_any 2 w3 M3.out.neg)
    rw [stepK1] at HD
    go_wp2_with fail
    refine HD.out.mono ?_
    rintro e w4 ⟨vo, rfl, S4⟩
    obtain ⟨a4, p4, c4, rfl, N4⟩ := sent_zero S4
    have A4 : Hid (AckM w w4 b a4 nK1 (.slice none 0 0) (.slice none 0 0) [] []) := ⟨M3.out.next N4, OwnO.nil _ _, (fun i hi => by cases hi), Pks.nil _ _ _⟩
    clear S4 N4 HD M3
    have HD := hid (ngDo_any 0 w4 A4.out.mine.neg)
    rw [stepK2] at HD
    go_wp2_with fail
    refine HD.out.mono ?_
    rintro e w5 ⟨vo, rfl, S5⟩
    obtain ⟨a5, lo, A5, e5, _⟩ := A4.out.next S5
    obtain ⟨po, co, rfl⟩ := A5.out.slice
    have I0 : Hid (AckS w w5 b 0 (.slice none 0 0) (.slice po lo.length co)) := ⟨a5, nK2, [], lo, A5, by rw [e5]; exact acksK⟩
    clear S5 A5 e5 HD A4
    generalize lo.length = nlo at *
    go_wp2_with fail
    go_loopw [5, 6, 7, 8] (fun v5 v6 v7 v8 wr => ∃ i : Nat, i ≤ l.length ∧ v8 = .int .i64 (i : Int) ∧ ∃ last : Int, v5 = .int .i64 last ∧ Hid (AckS w wr b last v6 v7)) (fun _ _ _ v8 _ => l.length - (intOf v8).toNat)
    case atStart => exact ⟨0, Nat.zero_le _, rfl, 0, rfl, I0.out⟩
    case round =>
      obtain ⟨i, hi, rfl, last, rfl, HI⟩ := hrel
      clear I0
      by_cases hlt : i < l.length
      · have hltz : (i : Int) < (l.length : Int) := by omega
        obtain ⟨x, hx⟩ : ∃ x, l[i]? = some x := ⟨l[i], by simp [hlt]⟩
        obtain ⟨a, n, sl, lo, hM, hA⟩ := HI.out
        obtain ⟨ps, cs, rfl⟩ := slice_of hM.sent
        obtain ⟨pt, ct, rfl⟩ := hM.out.slice
        have HX := hid hx
        have HM := hid hM
        have HA := hid hA
        have hlm := hM.out.le
        clear HI hx hM hA
        generalize hns : sl.length = ns at *
        have Hns := hid hns
        clear hns
        go_wp2_with fail
        go_loopw [5, 6, 9] (fun v5 v6 v9 wq => ∃ k : Nat, k ≤ lo.length ∧ v9 = .int .i64 (k : Int) ∧ v5 = .int .i64 (scanL (last, sl) ((lo.map (·.1)).take k)).1 ∧ Hid (AckM w wq b a n v6 (.slice pt lo.length ct) (scanL (last, sl) ((lo.map (·.1)).take k)).2 lo)) (fun _ _ v9 _ => lo.length - (intOf v9).toNat)
        case atStart => exact ⟨0, Nat.zero_le _, rfl, rfl, HM.out⟩
        case round =>
          obtain ⟨k, hk, rfl, rfl, HJ⟩ := hrel
          clear HM
          by_cases hklt : k < lo.length
          · as_aux_lemma =>
            have hkz : (k : Int) < (lo.length : Int) := by omega
            obtain ⟨q, hq⟩ : ∃ q, lo[k]? = some q := ⟨lo[k], by simp [hklt]⟩
            have HS := hid (scan_next (t := (last, sl)) hq)
            generalize scanL (last, sl) ((lo.map (·.1)).take k) = t at *
            obtain ⟨pv, cv, rfl⟩ := slice_of HJ.out.sent
            obtain ⟨g, rfl, hcap, q0, q1, q2, q3⟩ := HJ.out.out.at hq
            obtain ⟨pq, cq, eq⟩ := slice_of (HJ.out.out.opts q (List.mem_of_getElem? hq))
            have HQ := hid (List.mem_of_getElem? hq)
            rw [eq] at q2
            have EQ := hid eq
            clear hq eq
            by_cases hc : q.1.code = 1
            · have R : Hid (∀ m, AckM w (wr.drewN m) b a n (.slice pq q.1.opts.length cq) (.slice (some ⟨g, 0, none⟩) lo.length ct) q.1.opts lo) := fun m => by
                have := (HJ.out.scan HQ.out).still ((Kept.refl (fun _ => False) wr).drewN m)
                rw [EQ.out] at this
                exact this
              have HP : Hid (scanP t q.1 = (q.1.id, q.1.opts)) := by show scanP t q.1 = _; unfold scanP; rw [if_pos hc]
              rw [hc] at q0
              clear hc HJ
              go_wp2
              go_quiet (fail)
              go_wp2
              refine ⟨⟨k + 1, hklt, by go_num, by rw [HS.out, HP.out], ?_⟩, by simp [intOf]; omega⟩
              show AckM _ _ _ _ _ _ _ _ _
              rw [HS.out, HP.out]
              exact R.out _
            · have hcz : (q.1.code == 1) = false := by simpa using hc
              have HP : Hid (scanP t q.1 = t) := by show scanP t q.1 = _; unfold scanP; rw [if_neg hc]
              clear hc
              go_wp2
              refine ⟨⟨k + 1, hklt, by go_num, by rw [HS.out, HP.out], ?_⟩, by simp [intOf]; omega⟩
              show AckM _ _ _ _ _ _ _ _ _
              rw [HS.out, HP.out]
              exact HJ.out
          · as_aux_lemma =>
            obtain rfl : k = lo.length := by omega
            have hkz : ¬ (lo.length : Int) < (lo.length : Int) := by omega
            have e9 : (lo.map (·.1)).take lo.length = lo.map (·.1) := List.take_of_length_le (by simp)
            rw [e9] at HJ
            generalize hqt : scanL (last, sl) (lo.map (·.1)) = t at *
            rw [e9, hqt]
            clear e9 hqt
            obtain ⟨pv, cv, rfl⟩ := slice_of HJ.out.sent
            have hxi := HIn.out x (List.mem_of_getElem? HX.out)
            have hlp := HLi.out x (List.mem_of_getElem? HX.out)
            obtain ⟨gx, ox, rfl, hcx, hcell⟩ := Hat.out i x HX.out wr HJ.out.mine.kept
            obtain ⟨px, kx, ex⟩ := hxi.o.at_.1.slice
            have c0 : wr.cell? ⟨gx, ox + i * 8, none⟩ = some (.int .i64 x.kind) := hcell 0 _ rfl
            have c2 := hcell 2 _ rfl
            have c3 := hcell 3 _ rfl
            have c4 := hcell 4 _ rfl
            have c5 := hcell 5 _ rfl
            rw [ex] at c4
            have EX := hid ex
            have HXi := hid hxi
            have HLp := hid hlp
            have HSt := hid (ngState_any wr HJ.out.mine.neg)
            generalize ht2 : t.2.length = nt at *
            have HT2 := hid ht2
            clear hcell ex hxi hlp ht2 HX
            by_cases hkd : x.kind = 3
            · as_aux_lemma =>
              have HTk := hid (ngTick_any wr HJ.out.mine.neg HA.out.ticks)
              rw [hkd] at c0
              clear hkd
              go_wp2_with (first | (go_at_call 14; refine HSt.out.mono ?_; rintro e w' ⟨rfl, hw⟩; rw [hw]; clear hw w'))
              refine HTk.out.mono ?_
              rintro e w6 ⟨vo', rfl, S6⟩
              obtain ⟨a', lo', hM', e', _⟩ := HJ.out.next S6
              obtain ⟨p6, k6, rfl⟩ := hM'.out.slice
              have R : Hid (AckS w w6 b t.1 (.slice pv nt cv) (.slice p6 lo'.length k6)) := ⟨a', _, t.2, lo', hM', by rw [e']; exact HA.out.tick⟩
              clear S6 hM' e' HTk
              go_wp2
              exact ⟨⟨i + 1, hlt, by go_num, _, rfl, R.out⟩, by simp [intOf]; omega⟩
            · have hkz3 : (x.kind == 3) = false := by simpa using hkd
              clear hkd
              have ka := (Kept.refl (fun _ => False) wr).alloc (.cells #[.int .i64 x.p.code, .int .i64 x.p.id, x.vo, .string x.p.data] 24)
              have hM3 := HJ.out.still ka
              have hB0 := PkBlk.new wr #[.int .i64 x.p.code, .int .i64 x.p.id, x.vo, .string x.p.data]
              have hP0 := PkAt.new wr x.p.code x.p.id x.vo x.p.data
              have HTa := hid (take_any x.p x.vo _ hM3.mine.neg (arg_pk hM3.mine HXi.out HLp.out.1) (by rw [HA.out.peer]; exact short1))
              unfold pkV at HTa
              obtain ⟨b0, b1, b2, b3⟩ := hP0.cells
              rw [EX.out] at ka hM3 hB0 hP0 HTa b0 b1 b2 b3
              have HM3 := hid hM3
              have HB0 := hid hB0
              have HP0 := hid hP0
              clear ka hM3 hB0 hP0
              go_wp2_with (first | (go_at_call 14; refine HSt.out.mono ?_; rintro e w' ⟨rfl, hw⟩; rw [hw]; clear hw w'))
              refine HTa.out.mono ?_
              rintro e w6 ⟨vo', rfl, S6⟩
              obtain ⟨a', lo', hM', e', hN⟩ := HM3.out.next S6
              obtain ⟨p6, k6, rfl⟩ := hM'.out.slice
              have hP6 := HP0.out.kept hN.kept (pk_far HM3.out.mine.neg HB0.out)
              obtain ⟨h1, h2, h3⟩ := HA.out.take x.p
              have HE' := hid e'
              generalize hpb : wr.heap.size = pb at *
              clear hpb
              clear b0 b1 b2 b3 S6 e' hN HM3 HB0 HP0 HTa c0 c2 c3 c4 c5 HSt HJ
              generalize takeN n x.p = N' at *
              have HSt := hid (ngState_any w6 hM'.mine.neg)
              have HM' := hid hM'
              have HP' := hid hP6
              have HA' := hid h1
              have HK' := hid h2
              have HO' := hid h3
              have hlm' := hM'.out.le
              have HSa := hid (sameO_any x.vo (.slice pv nt cv) x.p.opts t.2 w6 (HXi.out.o.at_.kept0 hM'.mine.kept).1 hM'.sent.tags (by have := HLp.out.1; omega))
              rw [EX.out] at HSa
              obtain ⟨b0, b1, b2, b3⟩ := hP6.cells
              have hcase : (n.au.st != 9) = false ∨ ((n.au.st != 9) = true ∧ (N'.1.au.st == 9) = false) ∨ ((n.au.st != 9) = true ∧ (N'.1.au.st == 9) = true ∧ (x.p.code == 2) = false) ∨ ((n.au.st != 9) = true ∧ (N'.1.au.st == 9) = true ∧ (x.p.code == 2) = true ∧ (x.p.id != t.1) = false ∧ sameF x.p.opts t.2 = true) := by
                by_cases z1 : n.au.st = 9
                · exact Or.inl (by simpa using z1)
                · by_cases z2 : N'.1.au.st = 9
                  · by_cases z3 : x.p.code = 2
                    · obtain ⟨z4, z5⟩ := h3 z1 z2 z3
                      exact Or.inr (Or.inr (Or.inr ⟨by simpa using z1, by simpa using z2, by simpa using z3, by simpa using z4, by rw [z5]; exact sameF_self _⟩))
                    · exact Or.inr (Or.inr (Or.inl ⟨by simpa using z1, by simpa using z2, by simpa using z3⟩))
                  · exact Or.inr (Or.inl ⟨by simpa using z1, by simpa using z2⟩)
              clear hM' hP6 h1 h2 h3
              rcases hcase with z1 | ⟨z1, z2⟩ | ⟨z1, z2, z3⟩ | ⟨z1, z2, z3, z4, z5⟩
              · as_aux_lemma =>
                go_wp2_with fail
                go_loopw [12] (fun vk wq => ∃ k : Nat, k ≤ lo'.length ∧ vk = .int .i64 (k : Int) ∧ Hid (AckM w wq b a' N'.1 (.slice pv nt cv) (.slice p6 lo'.length k6) t.2 lo' ∧ PkAt wq pb x.p.code x.p.id (.slice px x.p.opts.length kx) x.p.data)) (fun vk _ => lo'.length - (intOf vk).toNat)
                case atStart => exact ⟨0, Nat.zero_le _, rfl, HM'.out, HP'.out⟩
                case round =>
                  obtain ⟨k, hk, rfl, HL⟩ := hrel
                  obtain ⟨hM4, hP4⟩ := HL.out
                  clear b0 b1 b2 b3 HM' HP' HL
                  by_cases hklt : k < lo'.length
                  · as_aux_lemma =>
                    have hkz : (k : Int) < (lo'.length : Int) := by omega
                    obtain ⟨q, hq⟩ : ∃ q, lo'[k]? = some q := ⟨lo'[k], by simp [hklt]⟩
                    obtain ⟨g, rfl, hcap, q0, q1, q2, q3⟩ := hM4.out.at hq
                    obtain ⟨pq, cq, eq⟩ := slice_of (hM4.out.opts q (List.mem_of_getElem? hq))
                    have hqm : q.1 ∈ N'.2 := by rw [← HE'.out]; exact List.mem_map_of_mem (List.mem_of_getElem? hq)
                    have HKq := hid (HK'.out q.1 hqm)
                    rw [eq] at q2
                    obtain ⟨b0, b1, b2, b3⟩ := hP4.cells
                    have HM4 := hid hM4
                    have HP4 := hid hP4
                    have HOq := hid (hM4.out.opts q (List.mem_of_getElem? hq))
                    have EQ := hid eq
                    clear hM4 hP4 hq hqm eq
                    by_cases hc : q.1.code = 2
                    · obtain ⟨e1, e2, e3⟩ := HKq.out hc
                      have kd := (Kept.refl (fun _ => False) wr).drew
                      have HSq := hid (sameO_any q.2 x.vo q.1.opts x.p.opts wr.drew (HOq.out.kept kd).tags (HXi.out.o.at_.kept0 (HM4.out.mine.kept.trans kd)).1 (by rw [e3]; have := HLp.out.1; omega))
                      rw [EQ.out, EX.out, e3, sameF_self] at HSq
                      rw [e3] at q2
                      rw [hc] at q0
                      rw [e1] at b0
                      have e2z : (q.1.id != x.p.id) = false := by simp [e2]
                      clear e1 e2 e3 hc kd
                      have r0 : ∀ W, Kept (fun _ => False) wr W → W.cell? ⟨g, k * 4, none⟩ = some (.int .i64 2) := fun W h => (h.cell (p := ⟨g, k * 4, none⟩) (lt_of_cell q0) id).trans q0
                      have r1 : ∀ W, Kept (fun _ => False) wr W → W.cell? ⟨g, k * 4 + 1, none⟩ = some (.int .i64 q.1.id) := fun W h => (h.cell (p := ⟨g, k * 4 + 1, none⟩) (lt_of_cell q1) id).trans q1
                      have r2 : ∀ W, Kept (fun _ => False) wr W → W.cell? ⟨g, k * 4 + 2, none⟩ = some (.slice pq x.p.opts.length cq) := fun W h => (h.cell (p := ⟨g, k * 4 + 2, none⟩) (lt_of_cell q2) id).trans q2
                      have s0 : ∀ W, Kept (fun _ => False) wr W → W.cell? ⟨pb, 0, none⟩ = some (.int .i64 1) := fun W h => (h.cell (p := ⟨pb, 0, none⟩) (lt_of_cell b0) id).trans b0
                      have s1 : ∀ W, Kept (fun _ => False) wr W → W.cell? ⟨pb, 1, none⟩ = some (.int .i64 x.p.id) := fun W h => (h.cell (p := ⟨pb, 1, none⟩) (lt_of_cell b1) id).trans b1
                      have s2 : ∀ W, Kept (fun _ => False) wr W → W.cell? ⟨pb, 2, none⟩ = some (.slice px x.p.opts.length kx) := fun W h => (h.cell (p := ⟨pb, 2, none⟩) (lt_of_cell b2) id).trans b2
                      clear q0 q1 q2 q3 b0 b1 b2 b3
                      go_wp2_with fail
                      refine wp_region_held_drew (S := Kept (fun _ => False) wr) (by kernel_rfl) ((Kept.refl _ wr).drew) (fun hSd => ?_)
                      refine wpAnyH_take (i := 0) (v := ?_) rfl (by kernel_rfl) (by kernel_rfl) (by kernel_rfl) (fun _ _ _ h => h) (Or.inl ⟨by kernel_rfl, fun W hSW => by go_simp; try with_reducible rfl⟩) (by assumption) ?_
                      try simp only [List.getElem_toArray]
                      try simp only [List.getElem_cons_succ]
                      try simp only [List.getElem_cons_zero]
                      try simp only [Act.put]
                      try simp only [List.setIfInBounds_toArray]
                      try simp only [List.set_cons_succ]
                      try simp only [List.set_cons_zero]
                      refine wpAnyH_take (i := 1) (v := ?_) rfl (by kernel_rfl) (by kernel_rfl) (by kernel_rfl) (fun _ _ _ h => h) (Or.inl ⟨by kernel_rfl, fun W hSW => by go_simp; try with_reducible rfl⟩) (by assumption) ?_
                      try simp only [List.getElem_toArray]
                      try simp only [List.getElem_cons_succ]
                      try simp only [List.getElem_cons_zero]
                      try simp only [Act.put]
                      try simp only [List.setIfInBounds_toArray]
                      try simp only [List.set_cons_succ]
                      try simp only [List.set_cons_zero]
                      refine wpAnyH_take (i := 2) (v := ?_) rfl (by kernel_rfl) (by kernel_rfl) (by kernel_rfl) (fun _ _ _ h => h) (Or.inl ⟨by kernel_rfl, fun W hSW => by go_simp; try with_reducible rfl⟩) (by assumption) ?_
                      try simp only [List.getElem_toArray]
                      try simp only [List.getElem_cons_succ]
                      try simp only [List.getElem_cons_zero]
                      try simp only [Act.put]
                      try simp only [List.setIfInBounds_toArray]
                      try simp only [List.set_cons_succ]
                      try simp only [List.set_cons_zero]
                      refine wpAnyH_take (i := 3) (v := ?_) rfl (by kernel_rfl) (by kernel_rfl) (by kernel_rfl) (fun _ _ _ h => h) (Or.inl ⟨by kernel_rfl, fun W hSW => by go_simp; try with_reducible rfl⟩) (by assumption) ?_
                      try simp only [List.getElem_toArray]
                      try simp only [List.getElem_cons_succ]
                      try simp only [List.getElem_cons_zero]
                      try simp only [Act.put]
                      try simp only [List.setIfInBounds_toArray]
                      try simp only [List.set_cons_succ]
                      try simp only [List.set_cons_zero]
                      refine wpAnyH_take (i := 4) (v := ?_) rfl (by kernel_rfl) (by kernel_rfl) (by kernel_rfl) (fun _ _ _ h => h) (Or.inl ⟨by kernel_rfl, fun W hSW => by go_simp; try with_reducible rfl⟩) (by assumption) ?_
                      try simp only [List.getElem_toArray]
                      try simp only [List.getElem_cons_succ]
                      try simp only [List.getElem_cons_zero]
                      try simp only [Act.put]
                      try simp only [List.setIfInBounds_toArray]
                      try simp only [List.set_cons_succ]
                      try simp only [List.set_cons_zero]
                      refine wpAnyH_take (i := 5) (v := .bool true) rfl (by kernel_rfl) (by kernel_rfl) (by kernel_rfl) (fun _ _ _ h => h) (Or.inl ⟨by kernel_rfl, fun W hSW => by go_simp; try with_reducible rfl⟩) (by assumption) ?_
                      try simp only [List.getElem_toArray]
                      try simp only [List.getElem_cons_succ]
                      try simp only [List.getElem_cons_zero]
                      try simp only [Act.put]
                      try simp only [List.setIfInBounds_toArray]
                      try simp only [List.set_cons_succ]
                      try simp only [List.set_cons_zero]
                      refine wpAnyH_take (i := 6) (v := .bool true) rfl (by kernel_rfl) (by kernel_rfl) (by kernel_rfl) (fun _ _ _ h => h) (Or.inl ⟨by kernel_rfl, fun W hSW => by go_simp; try with_reducible rfl⟩) (by assumption) ?_
                      try simp only [List.getElem_toArray]
                      try simp only [List.getElem_cons_succ]
                      try simp only [List.getElem_cons_zero]
                      try simp only [Act.put]
                      try simp only [List.setIfInBounds_toArray]
                      try simp only [List.set_cons_succ]
                      try simp only [List.set_cons_zero]
                      refine wpAnyH_take (i := 7) (v := ?_) rfl (by kernel_rfl) (by kernel_rfl) (by kernel_rfl) (fun _ _ _ h => h) (Or.inl ⟨by kernel_rfl, fun W hSW => by go_simp; try with_reducible rfl⟩) (by assumption) ?_
                      try simp only [List.getElem_toArray]
                      try simp only [List.getElem_cons_succ]
                      try simp only [List.getElem_cons_zero]
                      try simp only [Act.put]
                      try simp only [List.setIfInBounds_toArray]
                      try simp only [List.set_cons_succ]
                      try simp only [List.set_cons_zero]
                      refine wpAnyH_take (i := 8) (v := ?_) rfl (by kernel_rfl) (by kernel_rfl) (by kernel_rfl) (fun _ _ _ h => h) (Or.inl ⟨by kernel_rfl, fun W hSW => by go_simp; try with_reducible rfl⟩) (by assumption) ?_
                      try simp only [List.getElem_toArray]
                      try simp only [List.getElem_cons_succ]
                      try simp only [List.getElem_cons_zero]
                      try simp only [Act.put]
                      try simp only [List.setIfInBounds_toArray]
                      try simp only [List.set_cons_succ]
                      try simp only [List.set_cons_zero]
                      refine wpAnyH_take (i := 9) (v := .bool false) rfl (by kernel_rfl) (by kernel_rfl) (by kernel_rfl) (fun _ _ _ h => h) (Or.inl ⟨by kernel_rfl, fun W hSW => by go_simp; try with_reducible rfl⟩) (by assumption) ?_
                      try simp only [List.getElem_toArray]
                      try simp only [List.getElem_cons_succ]
                      try simp only [List.getElem_cons_zero]
                      try simp only [Act.put]
                      try simp only [List.setIfInBounds_toArray]
                      try simp only [List.set_cons_succ]
                      try simp only [List.set_cons_zero]
                      refine wpAnyH_take (i := 10) (v := .bool false) rfl (by kernel_rfl) (by kernel_rfl) (by kernel_rfl) (fun _ _ _ h => h) (Or.inl ⟨by kernel_rfl, fun W hSW => by go_simp; try with_reducible rfl⟩) (by assumption) ?_
                      try simp only [List.getElem_toArray]
                      try simp only [List.getElem_cons_succ]
                      try simp only [List.getElem_cons_zero]
                      try simp only [Act.put]
                      try simp only [List.setIfInBounds_toArray]
                      try simp only [List.set_cons_succ]
                      try simp only [List.set_cons_zero]
                      refine wpAnyH_take (i := 11) (v := ?_) rfl (by kernel_rfl) (by kernel_rfl) (by kernel_rfl) (fun _ _ _ h => h) (Or.inl ⟨by kernel_rfl, fun W hSW => by go_simp; try with_reducible rfl⟩) (by assumption) ?_
                      try simp only [List.getElem_toArray]
                      try simp only [List.getElem_cons_succ]
                      try simp only [List.getElem_cons_zero]
                      try simp only [Act.put]
                      try simp only [List.setIfInBounds_toArray]
                      try simp only [List.set_cons_succ]
                      try simp only [List.set_cons_zero]
                      refine wpAnyH_take (i := 12) (v := ?_) rfl (by kernel_rfl) (by kernel_rfl) (by kernel_rfl) (fun _ _ _ h => h) (Or.inl ⟨by kernel_rfl, fun W hSW => by go_simp; try with_reducible rfl⟩) (by assumption) ?_
                      try simp only [List.getElem_toArray]
                      try simp only [List.getElem_cons_succ]
                      try simp only [List.getElem_cons_zero]
                      try simp only [Act.put]
                      try simp only [List.setIfInBounds_toArray]
                      try simp only [List.set_cons_succ]
                      try simp only [List.set_cons_zero]
                      refine wpAnyH_take (i := 13) (v := ?_) rfl (by kernel_rfl) (by kernel_rfl) (by kernel_rfl) (fun _ _ _ h => h) (Or.inl ⟨by kernel_rfl, fun W hSW => by go_simp; try with_reducible rfl⟩) (by assumption) ?_
                      try simp only [List.getElem_toArray]
                      try simp only [List.getElem_cons_succ]
                      try simp only [List.getElem_cons_zero]
                      try simp only [Act.put]
                      try simp only [List.setIfInBounds_toArray]
                      try simp only [List.set_cons_succ]
                      try simp only [List.set_cons_zero]
                      refine wpAnyH_take (i := 14) (v := ?_) rfl (by kernel_rfl) (by kernel_rfl) (by kernel_rfl) (fun _ _ _ h => h) (Or.inl ⟨by kernel_rfl, fun W hSW => by go_simp; try with_reducible rfl⟩) (by assumption) ?_
                      try simp only [List.getElem_toArray]
                      try simp only [List.getElem_cons_succ]
                      try simp only [List.getElem_cons_zero]
                      try simp only [Act.put]
                      try simp only [List.setIfInBounds_toArray]
                      try simp only [List.set_cons_succ]
                      try simp only [List.set_cons_zero]
                      refine wpAnyH_take (i := 15) (v := ?_) rfl (by kernel_rfl) (by kernel_rfl) (by kernel_rfl) (fun _ _ _ h => h) (Or.inl ⟨by kernel_rfl, fun W hSW => by go_simp; try with_reducible rfl⟩) (by assumption) ?_
                      try simp only [List.getElem_toArray]
                      try simp only [List.getElem_cons_succ]
                      try simp only [List.getElem_cons_zero]
                      try simp only [Act.put]
                      try simp only [List.setIfInBounds_toArray]
                      try simp only [List.set_cons_succ]
                      try simp only [List.set_cons_zero]
                      refine wpAnyH_take (i := 16) (v := ?_) rfl (by kernel_rfl) (by kernel_rfl) (by kernel_rfl) (fun _ _ _ h => h) (Or.inl ⟨by kernel_rfl, fun W hSW => by go_simp; try with_reducible rfl⟩) (by assumption) ?_
                      try simp only [List.getElem_toArray]
                      try simp only [List.getElem_cons_succ]
                      try simp only [List.getElem_cons_zero]
                      try simp only [Act.put]
                      try simp only [List.setIfInBounds_toArray]
                      try simp only [List.set_cons_succ]
                      try simp only [List.set_cons_zero]
                      refine wpAnyH_take (i := 17) (v := ?_) rfl (by kernel_rfl) (by kernel_rfl) (by kernel_rfl) (fun _ _ _ h => h) (Or.inl ⟨by kernel_rfl, fun W hSW => by go_simp; try with_reducible rfl⟩) (by assumption) ?_
                      try simp only [List.getElem_toArray]
                      try simp only [List.getElem_cons_succ]
                      try simp only [List.getElem_cons_zero]
                      try simp only [Act.put]
                      try simp only [List.setIfInBounds_toArray]
                      try simp only [List.set_cons_succ]
                      try simp only [List.set_cons_zero]
                      refine wpAnyH_take (i := 18) (v := .bool false) rfl (by kernel_rfl) (by kernel_rfl) (by kernel_rfl) (fun _ _ _ h => h) (Or.inl ⟨by kernel_rfl, fun W hSW => by go_simp; try with_reducible rfl⟩) (by assumption) ?_
                      try simp only [List.getElem_toArray]
                      try simp only [List.getElem_cons_succ]
                      try simp only [List.getElem_cons_zero]
                      try simp only [Act.put]
                      try simp only [List.setIfInBounds_toArray]
                      try simp only [List.set_cons_succ]
                      try simp only [List.set_cons_zero]
                      refine wpAnyH_take (i := 19) (v := .bool false) rfl (by kernel_rfl) (by kernel_rfl) (by kernel_rfl) (fun _ _ _ h => h) (Or.inl ⟨by kernel_rfl, fun W hSW => by go_simp; try with_reducible rfl⟩) (by assumption) ?_
                      try simp only [List.getElem_toArray]
                      try simp only [List.getElem_cons_succ]
                      try simp only [List.getElem_cons_zero]
                      try simp only [Act.put]
                      try simp only [List.setIfInBounds_toArray]
                      try simp only [List.set_cons_succ]
                      try simp only [List.set_cons_zero]
                      refine wpAnyH_take (i := 20) (v := .bool false) rfl (by kernel_rfl) (by kernel_rfl) (by kernel_rfl) (fun _ _ _ h => h) (Or.inl ⟨by kernel_rfl, fun W hSW => by go_simp; try with_reducible rfl⟩) (by assumption) ?_
                      try simp only [List.getElem_toArray]
                      try simp only [List.getElem_cons_succ]
                      try simp only [List.getElem_cons_zero]
                      try simp only [Act.put]
                      try simp only [List.setIfInBounds_toArray]
                      try simp only [List.set_cons_succ]
                      try simp only [List.set_cons_zero]
                      refine wpAnyH_take (i := 21) (v := ?_) rfl (by kernel_rfl) (by kernel_rfl) (by kernel_rfl) (fun _ _ _ h => h) (Or.inl ⟨by kernel_rfl, fun W hSW => by go_simp; try with_reducible rfl⟩) (by assumption) ?_
                      try simp only [List.getElem_toArray]
                      try simp only [List.getElem_cons_succ]
                      try simp only [List.getElem_cons_zero]
                      try simp only [Act.put]
                      try simp only [List.setIfInBounds_toArray]
                      try simp only [List.set_cons_succ]
                      try simp only [List.set_cons_zero]
                      refine wpAnyH_take (i := 22) (v := ?_) rfl (by kernel_rfl) (by kernel_rfl) (by kernel_rfl) (fun _ _ _ h => h) (Or.inl ⟨by kernel_rfl, fun W hSW => by go_simp; try with_reducible rfl⟩) (by assumption) ?_
                      try simp only [List.getElem_toArray]
                      try simp only [List.getElem_cons_succ]
                      try simp only [List.getElem_cons_zero]
                      try simp only [Act.put]
                      try simp only [List.setIfInBounds_toArray]
                      try simp only [List.set_cons_succ]
                      try simp only [List.set_cons_zero]
                      refine wpAnyH_take (i := 23) (v := ?_) rfl (by kernel_rfl) (by kernel_rfl) (by kernel_rfl) (fun _ _ _ h => h) (Or.inl ⟨by kernel_rfl, fun W hSW => by go_simp; try with_reducible rfl⟩) (by assumption) ?_
                      try simp only [List.getElem_toArray]
                      try simp only [List.getElem_cons_succ]
                      try simp only [List.getElem_cons_zero]
                      try simp only [Act.put]
                      try simp only [List.setIfInBounds_toArray]
                      try simp only [List.set_cons_succ]
                      try simp only [List.set_cons_zero]
                      refine wpAnyH_take (i := 24) (v := ?_) rfl (by kernel_rfl) (by kernel_rfl) (by kernel_rfl) (fun _ _ _ h => h) (Or.inl ⟨by kernel_rfl, fun W hSW => by go_simp; try with_reducible rfl⟩) (by assumption) ?_
                      try simp only [List.getElem_toArray]
                      try simp only [List.getElem_cons_succ]
                      try simp only [List.getElem_cons_zero]
                      try simp only [Act.put]
                      try simp only [List.setIfInBounds_toArray]
                      try simp only [List.set_cons_succ]
                      try simp only [List.set_cons_zero]
                      refine wpAnyH_take (i := 25) (v := ?_) rfl (by kernel_rfl) (by kernel_rfl) (by kernel_rfl) (fun _ _ _ h => h) (Or.inl ⟨by kernel_rfl, fun W hSW => by go_simp; try with_reducible rfl⟩) (by assumption) ?_
                      try simp only [List.getElem_toArray]
                      try simp only [List.getElem_cons_succ]
                      try simp only [List.getElem_cons_zero]
                      try simp only [Act.put]
                      try simp only [List.setIfInBounds_toArray]
                      try simp only [List.set_cons_succ]
                      try simp only [List.set_cons_zero]
                      refine wpAnyH_take (i := 26) (v := ?_) rfl (by kernel_rfl) (by kernel_rfl) (by kernel_rfl) (fun _ _ _ h => h) (Or.inl ⟨by kernel_rfl, fun W hSW => by go_simp; try with_reducible rfl⟩) (by assumption) ?_
                      try simp only [List.getElem_toArray]
                      try simp only [List.getElem_cons_succ]
                      try simp only [List.getElem_cons_zero]
                      try simp only [Act.put]
                      try simp only [List.setIfInBounds_toArray]
                      try simp only [List.set_cons_succ]
                      try simp only [List.set_cons_zero]
                      refine wpAnyH_take (i := 27) (v := ?_) rfl (by kernel_rfl) (by kernel_rfl) (by kernel_rfl) (fun _ _ _ h => h) (Or.inl ⟨by kernel_rfl, fun W hSW => by go_simp; try with_reducible rfl⟩) (by assumption) ?_
                      try simp only [List.getElem_toArray]
                      try simp only [List.getElem_cons_succ]
                      try simp only [List.getElem_cons_zero]
                      try simp only [Act.put]
                      try simp only [List.setIfInBounds_toArray]
                      try simp only [List.set_cons_succ]
                      try simp only [List.set_cons_zero]
                      refine wpAnyH_ready (rs := [28]) (by kernel_rfl) (by simp) ?_
                      refine AllReadyH.cons rfl (fun K hK => ?_) AllReadyH.nil
                      go_simp
                      refine HSq.out.mono ?_
                      rintro e w8 ⟨rfl, hk8⟩
                      refine hK.out _ _ ((Kept.refl _ wr).drew.trans hk8) (fun _ => ?_)
                      clear hK K
                      try simp only [List.getElem_toArray]
                      try simp only [List.getElem_cons_succ]
                      try simp only [List.getElem_cons_zero]
                      try simp only [Act.put]
                      try simp only [List.setIfInBounds_toArray]
                      try simp only [List.set_cons_succ]
                      try simp only [List.set_cons_zero]
                      refine wpAnyH_take (i := 29) (v := ?_) rfl (by kernel_rfl) (by kernel_rfl) (by kernel_rfl) (fun _ _ _ h => h) (Or.inl ⟨by kernel_rfl, fun W hSW => by go_simp; try with_reducible rfl⟩) (by assumption) ?_
                      try simp only [List.getElem_toArray]
                      try simp only [List.getElem_cons_succ]
                      try simp only [List.getElem_cons_zero]
                      try simp only [Act.put]
                      try simp only [List.setIfInBounds_toArray]
                      try simp only [List.set_cons_succ]
                      try simp only [List.set_cons_zero]
                      refine wpAnyH_take (i := 30) (v := .bool false) rfl (by kernel_rfl) (by kernel_rfl) (by kernel_rfl) (fun _ _ _ h => h) (Or.inl ⟨by kernel_rfl, fun W hSW => by go_simp; try with_reducible rfl⟩) (by assumption) ?_
                      try simp only [List.getElem_toArray]
                      try simp only [List.getElem_cons_succ]
                      try simp only [List.getElem_cons_zero]
                      try simp only [Act.put]
                      try simp only [List.setIfInBounds_toArray]
                      try simp only [List.set_cons_succ]
                      try simp only [List.set_cons_zero]
                      refine wpAnyH_take (i := 31) (v := .bool false) rfl (by kernel_rfl) (by kernel_rfl) (by kernel_rfl) (fun _ _ _ h => h) (Or.inl ⟨by kernel_rfl, fun W hSW => by go_simp; try with_reducible rfl⟩) (by assumption) ?_
                      try simp only [List.getElem_toArray]
                      try simp only [List.getElem_cons_succ]
                      try simp only [List.getElem_cons_zero]
                      try simp only [Act.put]
                      try simp only [List.setIfInBounds_toArray]
                      try simp only [List.set_cons_succ]
                      try simp only [List.set_cons_zero]
                      refine wpAnyH_done (by kernel_rfl) ?_ _
                      have K8 := hid (((Kept.refl (fun _ => False) wr).drew).trans hk8)
                      clear hk8 r0 r1 r2 s0 s1 s2
                      go_wp2
                      exact ⟨⟨k + 1, hklt, by go_num, HM4.out.still K8.out, HP4.out.kept K8.out id⟩, by simp [intOf]; omega⟩
                    · have hcz : (q.1.code == 2) = false := by simpa using hc
                      clear hc
                      go_wp2_with fail
                      go_quiet (fail)
                      go_wp2
                      exact ⟨⟨k + 1, hklt, by go_num, HM4.out.still ((Kept.refl _ _).drewN _), HP4.out.kept ((Kept.refl (fun _ => False) _).drewN _) id⟩, by simp [intOf]; omega⟩
                  · as_aux_lemma =>
                    obtain rfl : k = lo'.length := by omega
                    have hkz : ¬ (lo'.length : Int) < (lo'.length : Int) := by omega
                    have HTh := hid (ngTheirs_any wr hM4.mine.neg)
                    have HRt := hid (right_theirs HA'.out.theirs)
                    have HM4 := hid hM4
                    clear hM4 hP4 hklt
                    go_wp2_with fail
                    refine HTh.out.mono ?_
                    rintro e w9 ⟨u, rfl, hou, hk9⟩
                    have HM5 := hid (HM4.out.still hk9)
                    have HOu := hid hou
                    obtain ⟨pu, cu, rfl⟩ := slice_of hou
                    have hlu : (theirsF N'.1).length ≤ 9223372036854775807 := by
                      rcases hou.2 with ⟨_, h0⟩ | ⟨g, cap, cur, _, _, _, h1, h2, _⟩
                      · omega
                      · simp only [maxLen] at h2
                        omega
                    have HFt : Hid (∀ y ∈ theirsF N'.1, y.value.size ≤ 140737488351232) := fun y hy => by
                      unfold theirsF at hy
                      split at hy
                      · exact HM4.out.mine.neg.good.theirs.2.2 y hy
                      · cases hy
                    clear hou hk9 HTh HM4
                    obtain ⟨B, hB⟩ : ∃ B, B = wr.heap.size := ⟨_, rfl⟩
                    rw [← hB] at HOu
                    clear hB
                    generalize theirsF N'.1 = tl at *
                    go_wp2_with fail
                    go_loopw [14] (fun vk wq => ∃ k : Nat, k ≤ tl.length ∧ vk = .int .i64 (k : Int) ∧ Hid (AckM w wq b a' N'.1 (.slice pv nt cv) (.slice p6 lo'.length k6) t.2 lo' ∧ OwnO wq B (.slice pu tl.length cu) tl)) (fun vk _ => tl.length - (intOf vk).toNat)
                    case atStart => exact ⟨0, Nat.zero_le _, rfl, HM5.out, HOu.out⟩
                    case round =>
                      obtain ⟨k, hk, rfl, HL⟩ := hrel
                      obtain ⟨hM6, hO6⟩ := HL.out
                      clear HM5 HOu HL
                      by_cases hklt : k < tl.length
                      · as_aux_lemma =>
                        have hkz2 : (k : Int) < (tl.length : Int) := by omega
                        obtain ⟨y, hy⟩ : ∃ y, tl[k]? = some y := ⟨tl[k], by simp [hklt]⟩
                        obtain ⟨g, o, rfl, hcap, y0, y1⟩ := hO6.tags.at hy
                        obtain ⟨t1, t2⟩ := HRt.out y (List.mem_of_getElem? hy)
                        have HFi := hid (fun W => fits_any rule1 y.value (HFt.out y (List.mem_of_getElem? hy)) W)
                        rw [t1] at y0
                        rw [t2] at HFi
                        have HLR := hid lawRule_any
                        unfold rlV rule1 at HFi HLR
                        have HM6 := hid hM6
                        have HO6 := hid hO6
                        have HC0 := hid (fun W (kk : Kept (fun _ => False) wr W) => (kk.cell (p := ⟨g, o + k * 2, none⟩) (lt_of_cell y0) id).trans y0)
                        have HC1 := hid (fun W (kk : Kept (fun _ => False) wr W) => (kk.cell (p := ⟨g, o + k * 2 + 1, none⟩) (lt_of_cell y1) id).trans y1)
                        clear hM6 hO6 hy t1 t2
                        have r0 : ∀ W, Kept (fun _ => False) wr W → W.cell? ⟨g, o + k * 2, none⟩ = some (.int .i64 1) := fun W h => HC0.out W h
                        have r1 : ∀ W, Kept (fun _ => False) wr W → W.cell? ⟨g, o + k * 2 + 1, none⟩ = some (.string y.value) := fun W h => HC1.out W h
                        clear y0 y1
                        go_wp2_with fail
                        refine wp_region_held_drew (S := Kept (fun _ => False) wr) (by kernel_rfl) ((Kept.refl _ wr).drew) (fun hSd => ?_)
                        refine wpAnyH_take (i := 1) (v := ?_) rfl (by kernel_rfl) (by kernel_rfl) (by kernel_rfl) (fun _ _ _ h => h) (Or.inl ⟨by kernel_rfl, fun W hSW => by go_simp; try with_reducible rfl⟩) (by assumption) ?_
                        try simp only [List.getElem_toArray]
                        try simp only [List.getElem_cons_succ]
                        try simp only [List.getElem_cons_zero]
                        try simp only [Act.put]
                        try simp only [List.setIfInBounds_toArray]
                        try simp only [List.set_cons_succ]
                        try simp only [List.set_cons_zero]
                        refine wpAnyH_take (i := 2) (v := ?_) rfl (by kernel_rfl) (by kernel_rfl) (by kernel_rfl) (fun _ _ _ h => h) (Or.inl ⟨by kernel_rfl, fun W hSW => by go_simp; try with_reducible rfl⟩) (by assumption) ?_
                        try simp only [List.getElem_toArray]
                        try simp only [List.getElem_cons_succ]
                        try simp only [List.getElem_cons_zero]
                        try simp only [Act.put]
                        try simp only [List.setIfInBounds_toArray]
                        try simp only [List.set_cons_succ]
                        try simp only [List.set_cons_zero]
                        refine wpAnyH_take (i := 3) (v := ?_) rfl (by kernel_rfl) (by kernel_rfl) (by kernel_rfl) (fun _ _ _ h => h) (Or.inl ⟨by kernel_rfl, fun W hSW => by go_simp; try with_reducible rfl⟩) (by assumption) ?_
                        try simp only [List.getElem_toArray]
                        try simp only [List.getElem_cons_succ]
                        try simp only [List.getElem_cons_zero]
                        try simp only [Act.put]
                        try simp only [List.setIfInBounds_toArray]
                        try simp only [List.set_cons_succ]
                        try simp only [List.set_cons_zero]
                        refine wpAnyH_take (i := 4) (v := ?_) rfl (by kernel_rfl) (by kernel_rfl) (by kernel_rfl) (fun _ _ _ h => h) (Or.inl ⟨by kernel_rfl, fun W hSW => by go_simp; try with_reducible rfl⟩) (by assumption) ?_
                        try simp only [List.getElem_toArray]
                        try simp only [List.getElem_cons_succ]
                        try simp only [List.getElem_cons_zero]
                        try simp only [Act.put]
                        try simp only [List.setIfInBounds_toArray]
                        try simp only [List.set_cons_succ]
                        try simp only [List.set_cons_zero]
                        refine wpAnyH_take (i := 5) (v := ?_) rfl (by kernel_rfl) (by kernel_rfl) (by kernel_rfl) (fun _ _ _ h => h) (Or.inl ⟨by kernel_rfl, fun W hSW => by go_simp; try with_reducible rfl⟩) (by assumption) ?_
                        try simp only [List.getElem_toArray]
                        try simp only [List.getElem_cons_succ]
                        try simp only [List.getElem_cons_zero]
                        try simp only [Act.put]
                        try simp only [List.setIfInBounds_toArray]
                        try simp only [List.set_cons_succ]
                        try simp only [List.set_cons_zero]
                        refine wpAnyH_ready (rs := [0]) (by kernel_rfl) (by simp) ?_
                        refine AllReadyH.cons rfl (fun K hK => ?_) AllReadyH.nil
                        go_simp
                        refine (HLR.out _).mono ?_
                        rintro e w8 ⟨rfl, hk8⟩
                        refine hK.out _ _ ((Kept.refl _ wr).drew.trans hk8) (fun _ => ?_)
                        clear hK K
                        try simp only [List.getElem_toArray]
                        try simp only [List.getElem_cons_succ]
                        try simp only [List.getElem_cons_zero]
                        try simp only [Act.put]
                        try simp only [List.setIfInBounds_toArray]
                        try simp only [List.set_cons_succ]
                        try simp only [List.set_cons_zero]
                        refine wpAnyH_ready (rs := [6]) (by kernel_rfl) (by simp) ?_
                        refine AllReadyH.cons rfl (fun K hK => ?_) AllReadyH.nil
                        go_simp
                        refine (HFi.out _).mono ?_
                        rintro e w9 ⟨rfl, hk9⟩
                        refine hK.out _ _ (((Kept.refl _ wr).drew.trans hk8).trans hk9) (fun _ => ?_)
                        clear hK K
                        try simp only [List.getElem_toArray]
                        try simp only [List.getElem_cons_succ]
                        try simp only [List.getElem_cons_zero]
                        try simp only [Act.put]
                        try simp only [List.setIfInBounds_toArray]
                        try simp only [List.set_cons_succ]
                        try simp only [List.set_cons_zero]
                        refine wpAnyH_take (i := 7) (v := .bool false) rfl (by kernel_rfl) (by kernel_rfl) (by kernel_rfl) (fun _ _ _ h => h) (Or.inl ⟨by kernel_rfl, fun W hSW => by go_simp; try with_reducible rfl⟩) (by assumption) ?_
                        try simp only [List.getElem_toArray]
                        try simp only [List.getElem_cons_succ]
                        try simp only [List.getElem_cons_zero]
                        try simp only [Act.put]
                        try simp only [List.setIfInBounds_toArray]
                        try simp only [List.set_cons_succ]
                        try simp only [List.set_cons_zero]
                        refine wpAnyH_take (i := 8) (v := .bool false) rfl (by kernel_rfl) (by kernel_rfl) (by kernel_rfl) (fun _ _ _ h => h) (Or.inl ⟨by kernel_rfl, fun W hSW => by go_simp; try with_reducible rfl⟩) (by assumption) ?_
                        try simp only [List.getElem_toArray]
                        try simp only [List.getElem_cons_succ]
                        try simp only [List.getElem_cons_zero]
                        try simp only [Act.put]
                        try simp only [List.setIfInBounds_toArray]
                        try simp only [List.set_cons_succ]
                        try simp only [List.set_cons_zero]
                        refine wpAnyH_take (i := 9) (v := ?_) rfl (by kernel_rfl) (by kernel_rfl) (by kernel_rfl) (fun _ _ _ h => h) (Or.inl ⟨by kernel_rfl, fun W hSW => by go_simp; try with_reducible rfl⟩) (by assumption) ?_
                        try simp only [List.getElem_toArray]
                        try simp only [List.getElem_cons_succ]
                        try simp only [List.getElem_cons_zero]
                        try simp only [Act.put]
                        try simp only [List.setIfInBounds_toArray]
                        try simp only [List.set_cons_succ]
                        try simp only [List.set_cons_zero]
                        refine wpAnyH_take (i := 10) (v := ?_) rfl (by kernel_rfl) (by kernel_rfl) (by kernel_rfl) (fun _ _ _ h => h) (Or.inl ⟨by kernel_rfl, fun W hSW => by go_simp; try with_reducible rfl⟩) (by assumption) ?_
                        try simp only [List.getElem_toArray]
                        try simp only [List.getElem_cons_succ]
                        try simp only [List.getElem_cons_zero]
                        try simp only [Act.put]
                        try simp only [List.setIfInBounds_toArray]
                        try simp only [List.set_cons_succ]
                        try simp only [List.set_cons_zero]
                        refine wpAnyH_take (i := 11) (v := ?_) rfl (by kernel_rfl) (by kernel_rfl) (by kernel_rfl) (fun _ _ _ h => h) (Or.inl ⟨by kernel_rfl, fun W hSW => by go_simp; try with_reducible rfl⟩) (by assumption) ?_
                        try simp only [List.getElem_toArray]
                        try simp only [List.getElem_cons_succ]
                        try simp only [List.getElem_cons_zero]
                        try simp only [Act.put]
                        try simp only [List.setIfInBounds_toArray]
                        try simp only [List.set_cons_succ]
                        try simp only [List.set_cons_zero]
                        refine wpAnyH_take (i := 12) (v := ?_) rfl (by kernel_rfl) (by kernel_rfl) (by kernel_rfl) (fun _ _ _ h => h) (Or.inl ⟨by kernel_rfl, fun W hSW => by go_simp; try with_reducible rfl⟩) (by assumption) ?_
                        try simp only [List.getElem_toArray]
                        try simp only [List.getElem_cons_succ]
                        try simp only [List.getElem_cons_zero]
                        try simp only [Act.put]
                        try simp only [List.setIfInBounds_toArray]
                        try simp only [List.set_cons_succ]
                        try simp only [List.set_cons_zero]
                        refine wpAnyH_take (i := 13) (v := ?_) rfl (by kernel_rfl) (by kernel_rfl) (by kernel_rfl) (fun _ _ _ h => h) (Or.inl ⟨by kernel_rfl, fun W hSW => by go_simp; try with_reducible rfl⟩) (by assumption) ?_
                        try simp only [List.getElem_toArray]
                        try simp only [List.getElem_cons_succ]
                        try simp only [List.getElem_cons_zero]
                        try simp only [Act.put]
                        try simp only [List.setIfInBounds_toArray]
                        try simp only [List.set_cons_succ]
                        try simp only [List.set_cons_zero]
                        refine wpAnyH_take (i := 14) (v := .bool false) rfl (by kernel_rfl) (by kernel_rfl) (by kernel_rfl) (fun _ _ _ h => h) (Or.inl ⟨by kernel_rfl, fun W hSW => by go_simp; try with_reducible rfl⟩) (by assumption) ?_
                        try simp only [List.getElem_toArray]
                        try simp only [List.getElem_cons_succ]
                        try simp only [List.getElem_cons_zero]
                        try simp only [Act.put]
                        try simp only [List.setIfInBounds_toArray]
                        try simp only [List.set_cons_succ]
                        try simp only [List.set_cons_zero]
                        refine wpAnyH_take (i := 15) (v := .bool false) rfl (by kernel_rfl) (by kernel_rfl) (by kernel_rfl) (fun _ _ _ h => h) (Or.inl ⟨by kernel_rfl, fun W hSW => by go_simp; try with_reducible rfl⟩) (by assumption) ?_
                        try simp only [List.getElem_toArray]
                        try simp only [List.getElem_cons_succ]
                        try simp only [List.getElem_cons_zero]
                        try simp only [Act.put]
                        try simp only [List.setIfInBounds_toArray]
                        try simp only [List.set_cons_succ]
                        try simp only [List.set_cons_zero]
                        refine wpAnyH_done (by kernel_rfl) ?_ _
                        have K8 := hid ((((Kept.refl (fun _ => False) wr).drew).trans hk8).trans hk9)
                        clear hk8 hk9 r0 r1
                        go_wp2
                        exact ⟨⟨k + 1, hklt, by go_num, HM6.out.still K8.out, HO6.out.kept K8.out⟩, by simp [intOf]; omega⟩
                      · as_aux_lemma =>
                        obtain rfl : k = tl.length := by omega
                        have hkz2 : ¬ (tl.length : Int) < (tl.length : Int) := by omega
                        have R : Hid (AckS w wr b t.1 (.slice pv nt cv) (.slice p6 lo'.length k6)) := ⟨a', _, t.2, lo', hM6, by rw [HE'.out]; exact HA'.out⟩
                        clear hM6 hO6
                        go_wp2
                        exact ⟨⟨i + 1, hlt, by go_num, _, rfl, R.out⟩, by simp [intOf]; omega⟩
              · as_aux_lemma =>
                go_wp2_with (first | (go_at_call 14; refine HSt.out.mono ?_; rintro e w' ⟨rfl, hw⟩; rw [hw]; clear hw w'))
                go_loopw [12] (fun vk wq => ∃ k : Nat, k ≤ lo'.length ∧ vk = .int .i64 (k : Int) ∧ Hid (AckM w wq b a' N'.1 (.slice pv nt cv) (.slice p6 lo'.length k6) t.2 lo' ∧ PkAt wq pb x.p.code x.p.id (.slice px x.p.opts.length kx) x.p.data)) (fun vk _ => lo'.length - (intOf vk).toNat)
                case atStart => exact ⟨0, Nat.zero_le _, rfl, HM'.out, HP'.out⟩
                case round =>
                  obtain ⟨k, hk, rfl, HL⟩ := hrel
                  obtain ⟨hM4, hP4⟩ := HL.out
                  clear b0 b1 b2 b3 HM' HP' HL
                  by_cases hklt : k < lo'.length
                  · as_aux_lemma =>
                    have hkz : (k : Int) < (lo'.length : Int) := by omega
                    obtain ⟨q, hq⟩ : ∃ q, lo'[k]? = some q := ⟨lo'[k], by simp [hklt]⟩
                    obtain ⟨g, rfl, hcap, q0, q1, q2, q3⟩ := hM4.out.at hq
                    obtain ⟨pq, cq, eq⟩ := slice_of (hM4.out.opts q (List.mem_of_getElem? hq))
                    have hqm : q.1 ∈ N'.2 := by rw [← HE'.out]; exact List.mem_map_of_mem (List.mem_of_getElem? hq)
                    have HKq := hid (HK'.out q.1 hqm)
                    rw [eq] at q2
                    obtain ⟨b0, b1, b2, b3⟩ := hP4.cells
                    have HM4 := hid hM4
                    have HP4 := hid hP4
                    have HOq := hid (hM4.out.opts q (List.mem_of_getElem? hq))
                    have EQ := hid eq
                    clear hM4 hP4 hq hqm eq
                    by_cases hc : q.1.code = 2
                    · obtain ⟨e1, e2, e3⟩ := HKq.out hc
                      have kd := (Kept.refl (fun _ => False) wr).drew
                      have HSq := hid (sameO_any q.2 x.vo q.1.opts x.p.opts wr.drew (HOq.out.kept kd).tags (HXi.out.o.at_.kept0 (HM4.out.mine.kept.trans kd)).1 (by rw [e3]; have := HLp.out.1; omega))
                      rw [EQ.out, EX.out, e3, sameF_self] at HSq
                      rw [e3] at q2
                      rw [hc] at q0
                      rw [e1] at b0
                      have e2z : (q.1.id != x.p.id) = false := by simp [e2]
                      clear e1 e2 e3 hc kd
                      have r0 : ∀ W, Kept (fun _ => False) wr W → W.cell? ⟨g, k * 4, none⟩ = some (.int .i64 2) := fun W h => (h.cell (p := ⟨g, k * 4, none⟩) (lt_of_cell q0) id).trans q0
                      have r1 : ∀ W, Kept (fun _ => False) wr W → W.cell? ⟨g, k * 4 + 1, none⟩ = some (.int .i64 q.1.id) := fun W h => (h.cell (p := ⟨g, k * 4 + 1, none⟩) (lt_of_cell q1) id).trans q1
                      have r2 : ∀ W, Kept (fun _ => False) wr W → W.cell? ⟨g, k * 4 + 2, none⟩ = some (.slice pq x.p.opts.length cq) := fun W h => (h.cell (p := ⟨g, k * 4 + 2, none⟩) (lt_of_cell q2) id).trans q2
                      have s0 : ∀ W, Kept (fun _ => False) wr W → W.cell? ⟨pb, 0, none⟩ = some (.int .i64 1) := fun W h => (h.cell (p := ⟨pb, 0, none⟩) (lt_of_cell b0) id).trans b0
                      have s1 : ∀ W, Kept (fun _ => False) wr W → W.cell? ⟨pb, 1, none⟩ = some (.int .i64 x.p.id) := fun W h => (h.cell (p := ⟨pb, 1, none⟩) (lt_of_cell b1) id).trans b1
                      have s2 : ∀ W, Kept (fun _ => False) wr W → W.cell? ⟨pb, 2, none⟩ = some (.slice px x.p.opts.length kx) := fun W h => (h.cell (p := ⟨pb, 2, none⟩) (lt_of_cell b2) id).trans b2
                      clear q0 q1 q2 q3 b0 b1 b2 b3
                      go_wp2_with fail
                      refine wp_region_held_drew (S := Kept (fun _ => False) wr) (by kernel_rfl) ((Kept.refl _ wr).drew) (fun hSd => ?_)
                      refine wpAnyH_take (i := 0) (v := ?_) rfl (by kernel_rfl) (by kernel_rfl) (by kernel_rfl) (fun _ _ _ h => h) (Or.inl ⟨by kernel_rfl, fun W hSW => by go_simp; try with_reducible rfl⟩) (by assumption) ?_
                      try simp only [List.getElem_toArray]
                      try simp only [List.getElem_cons_succ]
                      try simp only [List.getElem_cons_zero]
                      try simp only [Act.put]
                      try simp only [List.setIfInBounds_toArray]
                      try simp only [List.set_cons_succ]
                      try simp only [List.set_cons_zero]
                      refine wpAnyH_take (i := 1) (v := ?_) rfl (by kernel_rfl) (by kernel_rfl) (by kernel_rfl) (fun _ _ _ h => h) (Or.inl ⟨by kernel_rfl, fun W hSW => by go_simp; try with_reducible rfl⟩) (by assumption) ?_
                      try simp only [List.getElem_toArray]
                      try simp only [List.getElem_cons_succ]
                      try simp only [List.getElem_cons_zero]
                      try simp only [Act.put]
                      try simp only [List.setIfInBounds_toArray]
                      try simp only [List.set_cons_succ]
                      try simp only [List.set_cons_zero]
                      refine wpAnyH_take (i := 2) (v := ?_) rfl (by kernel_rfl) (by kernel_rfl) (by kernel_rfl) (fun _ _ _ h => h) (Or.inl ⟨by kernel_rfl, fun W hSW => by go_simp; try with_reducible rfl⟩) (by assumption) ?_
                      try simp only [List.getElem_toArray]
                      try simp only [List.getElem_cons_succ]
                      try simp only [List.getElem_cons_zero]
                      try simp only [Act.put]
                      try simp only [List.setIfInBounds_toArray]
                      try simp only [List.set_cons_succ]
                      try simp only [List.set_cons_zero]
                      refine wpAnyH_take (i := 3) (v := ?_) rfl (by kernel_rfl) (by kernel_rfl) (by kernel_rfl) (fun _ _ _ h => h) (Or.inl ⟨by kernel_rfl, fun W hSW => by go_simp; try with_reducible rfl⟩) (by assumption) ?_
                      try simp only [List.getElem_toArray]
                      try simp only [List.getElem_cons_succ]
                      try simp only [List.getElem_cons_zero]
                      try simp only [Act.put]
                      try simp only [List.setIfInBounds_toArray]
                      try simp only [List.set_cons_succ]
                      try simp only [List.set_cons_zero]
                      refine wpAnyH_take (i := 4) (v := ?_) rfl (by kernel_rfl) (by kernel_rfl) (by kernel_rfl) (fun _ _ _ h => h) (Or.inl ⟨by kernel_rfl, fun W hSW => by go_simp; try with_reducible rfl⟩) (by assumption) ?_
                      try simp only [List.getElem_toArray]
                      try simp only [List.getElem_cons_succ]
                      try simp only [List.getElem_cons_zero]
                      try simp only [Act.put]
                      try simp only [List.setIfInBounds_toArray]
                      try simp only [List.set_cons_succ]
                      try simp only [List.set_cons_zero]
                      refine wpAnyH_take (i := 5) (v := .bool true) rfl (by kernel_rfl) (by kernel_rfl) (by kernel_rfl) (fun _ _ _ h => h) (Or.inl ⟨by kernel_rfl, fun W hSW => by go_simp; try with_reducible rfl⟩) (by assumption) ?_
                      try simp only [List.getElem_toArray]
                      try simp only [List.getElem_cons_succ]
                      try simp only [List.getElem_cons_zero]
                      try simp only [Act.put]
                      try simp only [List.setIfInBounds_toArray]
                      try simp only [List.set_cons_succ]
                      try simp only [List.set_cons_zero]
                      refine wpAnyH_take (i := 6) (v := .bool true) rfl (by kernel_rfl) (by kernel_rfl) (by kernel_rfl) (fun _ _ _ h => h) (Or.inl ⟨by kernel_rfl, fun W hSW => by go_simp; try with_reducible rfl⟩) (by assumption) ?_
                      try simp only [List.getElem_toArray]
                      try simp only [List.getElem_cons_succ]
                      try simp only [List.getElem_cons_zero]
                      try simp only [Act.put]
                      try simp only [List.setIfInBounds_toArray]
                      try simp only [List.set_cons_succ]
                      try simp only [List.set_cons_zero]
                      refine wpAnyH_take (i := 7) (v := ?_) rfl (by kernel_rfl) (by kernel_rfl) (by kernel_rfl) (fun _ _ _ h => h) (Or.inl ⟨by kernel_rfl, fun W hSW => by go_simp; try with_reducible rfl⟩) (by assumption) ?_
                      try simp only [List.getElem_toArray]
                      try simp only [List.getElem_cons_succ]
                      try simp only [List.getElem_cons_zero]
                      try simp only [Act.put]
                      try simp only [List.setIfInBounds_toArray]
                      try simp only [List.set_cons_succ]
                      try simp only [List.set_cons_zero]
                      refine wpAnyH_take (i := 8) (v := ?_) rfl (by kernel_rfl) (by kernel_rfl) (by kernel_rfl) (fun _ _ _ h => h) (Or.inl ⟨by kernel_rfl, fun W hSW => by go_simp; try with_reducible rfl⟩) (by assumption) ?_
                      try simp only [List.getElem_toArray]
                      try simp only [List.getElem_cons_succ]
                      try simp only [List.getElem_cons_zero]
                      try simp only [Act.put]
                      try simp only [List.setIfInBounds_toArray]
                      try simp only [List.set_cons_succ]
                      try simp only [List.set_cons_zero]
                      refine wpAnyH_take (i := 9) (v := .bool false) rfl (by kernel_rfl) (by kernel_rfl) (by kernel_rfl) (fun _ _ _ h => h) (Or.inl ⟨by kernel_rfl, fun W hSW => by go_simp; try with_reducible rfl⟩) (by assumption) ?_
                      try simp only [List.getElem_toArray]
                      try simp only [List.getElem_cons_succ]
                      try simp only [List.getElem_cons_zero]
                      try simp only [Act.put]
                      try simp only [List.setIfInBounds_toArray]
                      try simp only [List.set_cons_succ]
                      try simp only [List.set_cons_zero]
                      refine wpAnyH_take (i := 10) (v := .bool false) rfl (by kernel_rfl) (by kernel_rfl) (by kernel_rfl) (fun _ _ _ h => h) (Or.inl ⟨by kernel_rfl, fun W hSW => by go_simp; try with_reducible rfl⟩) (by assumption) ?_
                      try simp only [List.getElem_toArray]
                      try simp only [List.getElem_cons_succ]
                      try simp only [List.getElem_cons_zero]
                      try simp only [Act.put]
                      try simp only [List.setIfInBounds_toArray]
                      try simp only [List.set_cons_succ]
                      try simp only [List.set_cons_zero]
                      refine wpAnyH_take (i := 11) (v := ?_) rfl (by kernel_rfl) (by kernel_rfl) (by kernel_rfl) (fun _ _ _ h => h) (Or.inl ⟨by kernel_rfl, fun W hSW => by go_simp; try with_reducible rfl⟩) (by assumption) ?_
                      try simp only [List.getElem_toArray]
                      try simp only [List.getElem_cons_succ]
                      try simp only [List.getElem_cons_zero]
                      try simp only [Act.put]
                      try simp only [List.setIfInBounds_toArray]
                      try simp only [List.set_cons_succ]
                      try simp only [List.set_cons_zero]
                      refine wpAnyH_take (i := 12) (v := ?_) rfl (by kernel_rfl) (by kernel_rfl) (by kernel_rfl) (fun _ _ _ h => h) (Or.inl ⟨by kernel_rfl, fun W hSW => by go_simp; try with_reducible rfl⟩) (by assumption) ?_
                      try simp only [List.getElem_toArray]
                      try simp only [List.getElem_cons_succ]
                      try simp only [List.getElem_cons_zero]
                      try simp only [Act.put]
                      try simp only [List.setIfInBounds_toArray]
                      try simp only [List.set_cons_succ]
                      try simp only [List.set_cons_zero]
                      refine wpAnyH_take (i := 13) (v := ?_) rfl (by kernel_rfl) (by kernel_rfl) (by kernel_rfl) (fun _ _ _ h => h) (Or.inl ⟨by kernel_rfl, fun W hSW => by go_simp; try with_reducible rfl⟩) (by assumption) ?_
                      try simp only [List.getElem_toArray]
                      try simp only [List.getElem_cons_succ]
                      try simp only [List.getElem_cons_zero]
                      try simp only [Act.put]
                      try simp only [List.setIfInBounds_toArray]
                      try simp only [List.set_cons_succ]
                      try simp only [List.set_cons_zero]
                      refine wpAnyH_take (i := 14) (v := ?_) rfl (by kernel_rfl) (by kernel_rfl) (by kernel_rfl) (fun _ _ _ h => h) (Or.inl ⟨by kernel_rfl, fun W hSW => by go_simp; try with_reducible rfl⟩) (by assumption) ?_
                      try simp only [List.getElem_toArray]
                      try simp only [List.getElem_cons_succ]
                      try simp only [List.getElem_cons_zero]
                      try simp only [Act.put]
                      try simp only [List.setIfInBounds_toArray]
                      try simp only [List.set_cons_succ]
                      try simp only [List.set_cons_zero]
                      refine wpAnyH_take (i := 15) (v := ?_) rfl (by kernel_rfl) (by kernel_rfl) (by kernel_rfl) (fun _ _ _ h => h) (Or.inl ⟨by kernel_rfl, fun W hSW => by go_simp; try with_reducible rfl⟩) (by assumption) ?_
                      try simp only [List.getElem_toArray]
                      try simp only [List.getElem_cons_succ]
                      try simp only [List.getElem_cons_zero]
                      try simp only [Act.put]
                      try simp only [List.setIfInBounds_toArray]
                      try simp only [List.set_cons_succ]
                      try simp only [List.set_cons_zero]
                      refine wpAnyH_take (i := 16) (v := ?_) rfl (by kernel_rfl) (by kernel_rfl) (by kernel_rfl) (fun _ _ _ h => h) (Or.inl ⟨by kernel_rfl, fun W hSW => by go_simp; try with_reducible rfl⟩) (by assumption) ?_
                      try simp only [List.getElem_toArray]
                      try simp only [List.getElem_cons_succ]
                      try simp only [List.getElem_cons_zero]
                      try simp only [Act.put]
                      try simp only [List.setIfInBounds_toArray]
                      try simp only [List.set_cons_succ]
                      try simp only [List.set_cons_zero]
                      refine wpAnyH_take (i := 17) (v := ?_) rfl (by kernel_rfl) (by kernel_rfl) (by kernel_rfl) (fun _ _ _ h => h) (Or.inl ⟨by kernel_rfl, fun W hSW => by go_simp; try with_reducible rfl⟩) (by assumption) ?_
                      try simp only [List.getElem_toArray]
                      try simp only [List.getElem_cons_succ]
                      try simp only [List.getElem_cons_zero]
                      try simp only [Act.put]
                      try simp only [List.setIfInBounds_toArray]
                      try simp only [List.set_cons_succ]
                      try simp only [List.set_cons_zero]
                      refine wpAnyH_take (i := 18) (v := .bool false) rfl (by kernel_rfl) (by kernel_rfl) (by kernel_rfl) (fun _ _ _ h => h) (Or.inl ⟨by kernel_rfl, fun W hSW => by go_simp; try with_reducible rfl⟩) (by assumption) ?_
                      try simp only [List.getElem_toArray]
                      try simp only [List.getElem_cons_succ]
                      try simp only [List.getElem_cons_zero]
                      try simp only [Act.put]
                      try simp only [List.setIfInBounds_toArray]
                      try simp only [List.set_cons_succ]
                      try simp only [List.set_cons_zero]
                      refine wpAnyH_take (i := 19) (v := .bool false) rfl (by kernel_rfl) (by kernel_rfl) (by kernel_rfl) (fun _ _ _ h => h) (Or.inl ⟨by kernel_rfl, fun W hSW => by go_simp; try with_reducible rfl⟩) (by assumption) ?_
                      try simp only [List.getElem_toArray]
                      try simp only [List.getElem_cons_succ]
                      try simp only [List.getElem_cons_zero]
                      try simp only [Act.put]
                      try simp only [List.setIfInBounds_toArray]
                      try simp only [List.set_cons_succ]
                      try simp only [List.set_cons_zero]
                      refine wpAnyH_take (i := 20) (v := .bool false) rfl (by kernel_rfl) (by kernel_rfl) (by kernel_rfl) (fun _ _ _ h => h) (Or.inl ⟨by kernel_rfl, fun W hSW => by go_simp; try with_reducible rfl⟩) (by assumption) ?_
                      try simp only [List.getElem_toArray]
                      try simp only [List.getElem_cons_succ]
                      try simp only [List.getElem_cons_zero]
                      try simp only [Act.put]
                      try simp only [List.setIfInBounds_toArray]
                      try simp only [List.set_cons_succ]
                      try simp only [List.set_cons_zero]
                      refine wpAnyH_take (i := 21) (v := ?_) rfl (by kernel_rfl) (by kernel_rfl) (by kernel_rfl) (fun _ _ _ h => h) (Or.inl ⟨by kernel_rfl, fun W hSW => by go_simp; try with_reducible rfl⟩) (by assumption) ?_
                      try simp only [List.getElem_toArray]
                      try simp only [List.getElem_cons_succ]
                      try simp only [List.getElem_cons_zero]
                      try simp only [Act.put]
                      try simp only [List.setIfInBounds_toArray]
                      try simp only [List.set_cons_succ]
                      try simp only [List.set_cons_zero]
                      refine wpAnyH_take (i := 22) (v := ?_) rfl (by kernel_rfl) (by kernel_rfl) (by kernel_rfl) (fun _ _ _ h => h) (Or.inl ⟨by kernel_rfl, fun W hSW => by go_simp; try with_reducible rfl⟩) (by assumption) ?_
                      try simp only [List.getElem_toArray]
                      try simp only [List.getElem_cons_succ]
                      try simp only [List.getElem_cons_zero]
                      try simp only [Act.put]
                      try simp only [List.setIfInBounds_toArray]
                      try simp only [List.set_cons_succ]
                      try simp only [List.set_cons_zero]
                      refine wpAnyH_take (i := 23) (v := ?_) rfl (by kernel_rfl) (by kernel_rfl) (by kernel_rfl) (fun _ _ _ h => h) (Or.inl ⟨by kernel_rfl, fun W hSW => by go_simp; try with_reducible rfl⟩) (by assumption) ?_
                      try simp only [List.getElem_toArray]
                      try simp only [List.getElem_cons_succ]
                      try simp only [List.getElem_cons_zero]
                      try simp only [Act.put]
                      try simp only [List.setIfInBounds_toArray]
                      try simp only [List.set_cons_succ]
                      try simp only [List.set_cons_zero]
                      refine wpAnyH_take (i := 24) (v := ?_) rfl (by kernel_rfl) (by kernel_rfl) (by kernel_rfl) (fun _ _ _ h => h) (Or.inl ⟨by kernel_rfl, fun W hSW => by go_simp; try with_reducible rfl⟩) (by assumption) ?_
                      try simp only [List.getElem_toArray]
                      try simp only [List.getElem_cons_succ]
                      try simp only [List.getElem_cons_zero]
                      try simp only [Act.put]
                      try simp only [List.setIfInBounds_toArray]
                      try simp only [List.set_cons_succ]
                      try simp only [List.set_cons_zero]
                      refine wpAnyH_take (i := 25) (v := ?_) rfl (by kernel_rfl) (by kernel_rfl) (by kernel_rfl) (fun _ _ _ h => h) (Or.inl ⟨by kernel_rfl, fun W hSW => by go_simp; try with_reducible rfl⟩) (by assumption) ?_
                      try simp only [List.getElem_toArray]
                      try simp only [List.getElem_cons_succ]
                      try simp only [List.getElem_cons_zero]
                      try simp only [Act.put]
                      try simp only [List.setIfInBounds_toArray]
                      try simp only [List.set_cons_succ]
                      try simp only [List.set_cons_zero]
                      refine wpAnyH_take (i := 26) (v := ?_) rfl (by kernel_rfl) (by kernel_rfl) (by kernel_rfl) (fun _ _ _ h => h) (Or.inl ⟨by kernel_rfl, fun W hSW => by go_simp; try with_reducible rfl⟩) (by assumption) ?_
                      try simp only [List.getElem_toArray]
                      try simp only [List.getElem_cons_succ]
                      try simp only [List.getElem_cons_zero]
                      try simp only [Act.put]
                      try simp only [List.setIfInBounds_toArray]
                      try simp only [List.set_cons_succ]
                      try simp only [List.set_cons_zero]
                      refine wpAnyH_take (i := 27) (v := ?_) rfl (by kernel_rfl) (by kernel_rfl) (by kernel_rfl) (fun _ _ _ h => h) (Or.inl ⟨by kernel_rfl, fun W hSW => by go_simp; try with_reducible rfl⟩) (by assumption) ?_
                      try simp only [List.getElem_toArray]
                      try simp only [List.getElem_cons_succ]
                      try simp only [List.getElem_cons_zero]
                      try simp only [Act.put]
                      try simp only [List.setIfInBounds_toArray]
                      try simp only [List.set_cons_succ]
                      try simp only [List.set_cons_zero]
                      refine wpAnyH_ready (rs := [28]) (by kernel_rfl) (by simp) ?_
                      refine AllReadyH.cons rfl (fun K hK => ?_) AllReadyH.nil
                      go_simp
                      refine HSq.out.mono ?_
                      rintro e w8 ⟨rfl, hk8⟩
                      refine hK.out _ _ ((Kept.refl _ wr).drew.trans hk8) (fun _ => ?_)
                      clear hK K
                      try simp only [List.getElem_toArray]
                      try simp only [List.getElem_cons_succ]
                      try simp only [List.getElem_cons_zero]
                      try simp only [Act.put]
                      try simp only [List.setIfInBounds_toArray]
                      try simp only [List.set_cons_succ]
                      try simp only [List.set_cons_zero]
                      refine wpAnyH_take (i := 29) (v := ?_) rfl (by kernel_rfl) (by kernel_rfl) (by kernel_rfl) (fun _ _ _ h => h) (Or.inl ⟨by kernel_rfl, fun W hSW => by go_simp; try with_reducible rfl⟩) (by assumption) ?_
                      try simp only [List.getElem_toArray]
                      try simp only [List.getElem_cons_succ]
                      try simp only [List.getElem_cons_zero]
                      try simp only [Act.put]
                      try simp only [List.setIfInBounds_toArray]
                      try simp only [List.set_cons_succ]
                      try simp only [List.set_cons_zero]
                      refine wpAnyH_take (i := 30) (v := .bool false) rfl (by kernel_rfl) (by kernel_rfl) (by kernel_rfl) (fun _ _ _ h => h) (Or.inl ⟨by kernel_rfl, fun W hSW => by go_simp; try with_reducible rfl⟩) (by assumption) ?_
                      try simp only [List.getElem_toArray]
                      try simp only [List.getElem_cons_succ]
                      try simp only [List.getElem_cons_zero]
                      try simp only [Act.put]
                      try simp only [List.setIfInBounds_toArray]
                      try simp only [List.set_cons_succ]
                      try simp only [List.set_cons_zero]
                      refine wpAnyH_take (i := 31) (v := .bool false) rfl (by kernel_rfl) (by kernel_rfl) (by kernel_rfl) (fun _ _ _ h => h) (Or.inl ⟨by kernel_rfl, fun W hSW => by go_simp; try with_reducible rfl⟩) (by assumption) ?_
                      try simp only [List.getElem_toArray]
                      try simp only [List.getElem_cons_succ]
                      try simp only [List.getElem_cons_zero]
                      try simp only [Act.put]
                      try simp only [List.setIfInBounds_toArray]
                      try simp only [List.set_cons_succ]
                      try simp only [List.set_cons_zero]
                      refine wpAnyH_done (by kernel_rfl) ?_ _
                      have K8 := hid (((Kept.refl (fun _ => False) wr).drew).trans hk8)
                      clear hk8 r0 r1 r2 s0 s1 s2
                      go_wp2
                      exact ⟨⟨k + 1, hklt, by go_num, HM4.out.still K8.out, HP4.out.kept K8.out id⟩, by simp [intOf]; omega⟩
                    · have hcz : (q.1.code == 2) = false := by simpa using hc
                      clear hc
                      go_wp2_with fail
                      go_quiet (fail)
                      go_wp2
                      exact ⟨⟨k + 1, hklt, by go_num, HM4.out.still ((Kept.refl _ _).drewN _), HP4.out.kept ((Kept.refl (fun _ => False) _).drewN _) id⟩, by simp [intOf]; omega⟩
                  · as_aux_lemma =>
                    obtain rfl : k = lo'.length := by omega
                    have hkz : ¬ (lo'.length : Int) < (lo'.length : Int) := by omega
                    have HTh := hid (ngTheirs_any wr hM4.mine.neg)
                    have HRt := hid (right_theirs HA'.out.theirs)
                    have HM4 := hid hM4
                    clear hM4 hP4 hklt
                    go_wp2_with fail
                    refine HTh.out.mono ?_
                    rintro e w9 ⟨u, rfl, hou, hk9⟩
                    have HM5 := hid (HM4.out.still hk9)
                    have HOu := hid hou
                    obtain ⟨pu, cu, rfl⟩ := slice_of hou
                    have hlu : (theirsF N'.1).length ≤ 9223372036854775807 := by
                      rcases hou.2 with ⟨_, h0⟩ | ⟨g, cap, cur, _, _, _, h1, h2, _⟩
                      · omega
                      · simp only [maxLen] at h2
                        omega
                    have HFt : Hid (∀ y ∈ theirsF N'.1, y.value.size ≤ 140737488351232) := fun y hy => by
                      unfold theirsF at hy
                      split at hy
                      · exact HM4.out.mine.neg.good.theirs.2.2 y hy
                      · cases hy
                    clear hou hk9 HTh HM4
                    obtain ⟨B, hB⟩ : ∃ B, B = wr.heap.size := ⟨_, rfl⟩
                    rw [← hB] at HOu
                    clear hB
                    generalize theirsF N'.1 = tl at *
                    go_wp2_with fail
                    go_loopw [14] (fun vk wq => ∃ k : Nat, k ≤ tl.length ∧ vk = .int .i64 (k : Int) ∧ Hid (AckM w wq b a' N'.1 (.slice pv nt cv) (.slice p6 lo'.length k6) t.2 lo' ∧ OwnO wq B (.slice pu tl.length cu) tl)) (fun vk _ => tl.length - (intOf vk).toNat)
                    case atStart => exact ⟨0, Nat.zero_le _, rfl, HM5.out, HOu.out⟩
                    case round =>
                      obtain ⟨k, hk, rfl, HL⟩ := hrel
                      obtain ⟨hM6, hO6⟩ := HL.out
                      clear HM5 HOu HL
                      by_cases hklt : k < tl.length
                      · as_aux_lemma =>
                        have hkz2 : (k : Int) < (tl.length : Int) := by omega
                        obtain ⟨y, hy⟩ : ∃ y, tl[k]? = some y := ⟨tl[k], by simp [hklt]⟩
                        obtain ⟨g, o, rfl, hcap, y0, y1⟩ := hO6.tags.at hy
                        obtain ⟨t1, t2⟩ := HRt.out y (List.mem_of_getElem? hy)
                        have HFi := hid (fun W => fits_any rule1 y.value (HFt.out y (List.mem_of_getElem? hy)) W)
                        rw [t1] at y0
                        rw [t2] at HFi
                        have HLR := hid lawRule_any
                        unfold rlV rule1 at HFi HLR
                        have HM6 := hid hM6
                        have HO6 := hid hO6
                        have HC0 := hid (fun W (kk : Kept (fun _ => False) wr W) => (kk.cell (p := ⟨g, o + k * 2, none⟩) (lt_of_cell y0) id).trans y0)
                        have HC1 := hid (fun W (kk : Kept (fun _ => False) wr W) => (kk.cell (p := ⟨g, o + k * 2 + 1, none⟩) (lt_of_cell y1) id).trans y1)
                        clear hM6 hO6 hy t1 t2
                        have r0 : ∀ W, Kept (fun _ => False) wr W → W.cell? ⟨g, o + k * 2, none⟩ = some (.int .i64 1) := fun W h => HC0.out W h
                        have r1 : ∀ W, Kept (fun _ => False) wr W → W.cell? ⟨g, o + k * 2 + 1, none⟩ = some (.string y.value) := fun W h => HC1.out W h
                        clear y0 y1
                        go_wp2_with fail
                        refine wp_region_held_drew (S := Kept (fun _ => False) wr) (by kernel_rfl) ((Kept.refl _ wr).drew) (fun hSd => ?_)
                        refine wpAnyH_take (i := 1) (v := ?_) rfl (by kernel_rfl) (by kernel_rfl) (by kernel_rfl) (fun _ _ _ h => h) (Or.inl ⟨by kernel_rfl, fun W hSW => by go_simp; try with_reducible rfl⟩) (by assumption) ?_
                        try simp only [List.getElem_toArray]
                        try simp only [List.getElem_cons_succ]
                        try simp only [List.getElem_cons_zero]
                        try simp only [Act.put]
                        try simp only [List.setIfInBounds_toArray]
                        try simp only [List.set_cons_succ]
                        try simp only [List.set_cons_zero]
                        refine wpAnyH_take (i := 2) (v := ?_) rfl (by kernel_rfl) (by kernel_rfl) (by kernel_rfl) (fun _ _ _ h => h) (Or.inl ⟨by kernel_rfl, fun W hSW => by go_simp; try with_reducible rfl⟩) (by assumption) ?_
                        try simp only [List.getElem_toArray]
                        try simp only [List.getElem_cons_succ]
                        try simp only [List.getElem_cons_zero]
                        try simp only [Act.put]
                        try simp only [List.setIfInBounds_toArray]
                        try simp only [List.set_cons_succ]
                        try simp only [List.set_cons_zero]
                        refine wpAnyH_take (i := 3) (v := ?_) rfl (by kernel_rfl) (by kernel_rfl) (by kernel_rfl) (fun _ _ _ h => h) (Or.inl ⟨by kernel_rfl, fun W hSW => by go_simp; try with_reducible rfl⟩) (by assumption) ?_
                        try simp only [List.getElem_toArray]
                        try simp only [List.getElem_cons_succ]
                        try simp only [List.getElem_cons_zero]
                        try simp only [Act.put]
                        try simp only [List.setIfInBounds_toArray]
                        try simp only [List.set_cons_succ]
                        try simp only [List.set_cons_zero]
                        refine wpAnyH_take (i := 4) (v := ?_) rfl (by kernel_rfl) (by kernel_rfl) (by kernel_rfl) (fun _ _ _ h => h) (Or.inl ⟨by kernel_rfl, fun W hSW => by go_simp; try with_reducible rfl⟩) (by assumption) ?_
                        try simp only [List.getElem_toArray]
                        try simp only [List.getElem_cons_succ]
                        try simp only [List.getElem_cons_zero]
                        try simp only [Act.put]
                        try simp only [List.setIfInBounds_toArray]
                        try simp only [List.set_cons_succ]
                        try simp only [List.set_cons_zero]
                        refine wpAnyH_take (i := 5) (v := ?_) rfl (by kernel_rfl) (by kernel_rfl) (by kernel_rfl) (fun _ _ _ h => h) (Or.inl ⟨by kernel_rfl, fun W hSW => by go_simp; try with_reducible rfl⟩) (by assumption) ?_
                        try simp only [List.getElem_toArray]
                        try simp only [List.getElem_cons_succ]
                        try simp only [List.getElem_cons_zero]
                        try simp only [Act.put]
                        try simp only [List.setIfInBounds_toArray]
                        try simp only [List.set_cons_succ]
                        try simp only [List.set_cons_zero]
                        refine wpAnyH_ready (rs := [0]) (by kernel_rfl) (by simp) ?_
                        refine AllReadyH.cons rfl (fun K hK => ?_) AllReadyH.nil
                        go_simp
                        refine (HLR.out _).mono ?_
                        rintro e w8 ⟨rfl, hk8⟩
                        refine hK.out _ _ ((Kept.refl _ wr).drew.trans hk8) (fun _ => ?_)
                        clear hK K
                        try simp only [List.getElem_toArray]
                        try simp only [List.getElem_cons_succ]
                        try simp only [List.getElem_cons_zero]
                        try simp only [Act.put]
                        try simp only [List.setIfInBounds_toArray]
                        try simp only [List.set_cons_succ]
                        try simp only [List.set_cons_zero]
                        refine wpAnyH_ready (rs := [6]) (by kernel_rfl) (by simp) ?_
                        refine AllReadyH.cons rfl (fun K hK => ?_) AllReadyH.nil
                        go_simp
                        refine (HFi.out _).mono ?_
                        rintro e w9 ⟨rfl, hk9⟩
                        refine hK.out _ _ (((Kept.refl _ wr).drew.trans hk8).trans hk9) (fun _ => ?_)
                        clear hK K
                        try simp only [List.getElem_toArray]
                        try simp only [List.getElem_cons_succ]
                        try simp only [List.getElem_cons_zero]
                        try simp only [Act.put]
                        try simp only [List.setIfInBounds_toArray]
                        try simp only [List.set_cons_succ]
                        try simp only [List.set_cons_zero]
                        refine wpAnyH_take (i := 7) (v := .bool false) rfl (by kernel_rfl) (by kernel_rfl) (by kernel_rfl) (fun _ _ _ h => h) (Or.inl ⟨by kernel_rfl, fun W hSW => by go_simp; try with_reducible rfl⟩) (by assumption) ?_
                        try simp only [List.getElem_toArray]
                        try simp only [List.getElem_cons_succ]
                        try simp only [List.getElem_cons_zero]
                        try simp only [Act.put]
                        try simp only [List.setIfInBounds_toArray]
                        try simp only [List.set_cons_succ]
                        try simp only [List.set_cons_zero]
                        refine wpAnyH_take (i := 8) (v := .bool false) rfl (by kernel_rfl) (by kernel_rfl) (by kernel_rfl) (fun _ _ _ h => h) (Or.inl ⟨by kernel_rfl, fun W hSW => by go_simp; try with_reducible rfl⟩) (by assumption) ?_
                        try simp only [List.getElem_toArray]
                        try simp only [List.getElem_cons_succ]
                        try simp only [List.getElem_cons_zero]
                        try simp only [Act.put]
                        try simp only [List.setIfInBounds_toArray]
                        try simp only [List.set_cons_succ]
                        try simp only [List.set_cons_zero]
                        refine wpAnyH_take (i := 9) (v := ?_) rfl (by kernel_rfl) (by kernel_rfl) (by kernel_rfl) (fun _ _ _ h => h) (Or.inl ⟨by kernel_rfl, fun W hSW => by go_simp; try with_reducible rfl⟩) (by assumption) ?_
                        try simp only [List.getElem_toArray]
                        try simp only [List.getElem_cons_succ]
                        try simp only [List.getElem_cons_zero]
                        try simp only [Act.put]
                        try simp only [List.setIfInBounds_toArray]
                        try simp only [List.set_cons_succ]
                        try simp only [List.set_cons_zero]
                        refine wpAnyH_take (i := 10) (v := ?_) rfl (by kernel_rfl) (by kernel_rfl) (by kernel_rfl) (fun _ _ _ h => h) (Or.inl ⟨by kernel_rfl, fun W hSW => by go_simp; try with_reducible rfl⟩) (by assumption) ?_
                        try simp only [List.getElem_toArray]
                        try simp only [List.getElem_cons_succ]
                        try simp only [List.getElem_cons_zero]
                        try simp only [Act.put]
                        try simp only [List.setIfInBounds_toArray]
                        try simp only [List.set_cons_succ]
                        try simp only [List.set_cons_zero]
                        refine wpAnyH_take (i := 11) (v := ?_) rfl (by kernel_rfl) (by kernel_rfl) (by kernel_rfl) (fun _ _ _ h => h) (Or.inl ⟨by kernel_rfl, fun W hSW => by go_simp; try with_reducible rfl⟩) (by assumption) ?_
                        try simp only [List.getElem_toArray]
                        try simp only [List.getElem_cons_succ]
                        try simp only [List.getElem_cons_zero]
                        try simp only [Act.put]
                        try simp only [List.setIfInBounds_toArray]
                        try simp only [List.set_cons_succ]
                        try simp only [List.set_cons_zero]
                        refine wpAnyH_take (i := 12) (v := ?_) rfl (by kernel_rfl) (by kernel_rfl) (by kernel_rfl) (fun _ _ _ h => h) (Or.inl ⟨by kernel_rfl, fun W hSW => by go_simp; try with_reducible rfl⟩) (by assumption) ?_
                        try simp only [List.getElem_toArray]
                        try simp only [List.getElem_cons_succ]
                        try simp only [List.getElem_cons_zero]
                        try simp only [Act.put]
                        try simp only [List.setIfInBounds_toArray]
                        try simp only [List.set_cons_succ]
                        try simp only [List.set_cons_zero]
                        refine wpAnyH_take (i := 13) (v := ?_) rfl (by kernel_rfl) (by kernel_rfl) (by kernel_rfl) (fun _ _ _ h => h) (Or.inl ⟨by kernel_rfl, fun W hSW => by go_simp; try with_reducible rfl⟩) (by assumption) ?_
                        try simp only [List.getElem_toArray]
                        try simp only [List.getElem_cons_succ]
                        try simp only [List.getElem_cons_zero]
                        try simp only [Act.put]
                        try simp only [List.setIfInBounds_toArray]
                        try simp only [List.set_cons_succ]
                        try simp only [List.set_cons_zero]
                        refine wpAnyH_take (i := 14) (v := .bool false) rfl (by kernel_rfl) (by kernel_rfl) (by kernel_rfl) (fun _ _ _ h => h) (Or.inl ⟨by kernel_rfl, fun W hSW => by go_simp; try with_reducible rfl⟩) (by assumption) ?_
                        try simp only [List.getElem_toArray]
                        try simp only [List.getElem_cons_succ]
                        try simp only [List.getElem_cons_zero]
                        try simp only [Act.put]
                        try simp only [List.setIfInBounds_toArray]
                        try simp only [List.set_cons_succ]
                        try simp only [List.set_cons_zero]
                        refine wpAnyH_take (i := 15) (v := .bool false) rfl (by kernel_rfl) (by kernel_rfl) (by kernel_rfl) (fun _ _ _ h => h) (Or.inl ⟨by kernel_rfl, fun W hSW => by go_simp; try with_reducible rfl⟩) (by assumption) ?_
                        try simp only [List.getElem_toArray]
                        try simp only [List.getElem_cons_succ]
                        try simp only [List.getElem_cons_zero]
                        try simp only [Act.put]
                        try simp only [List.setIfInBounds_toArray]
                        try simp only [List.set_cons_succ]
                        try simp only [List.set_cons_zero]
                        refine wpAnyH_done (by kernel_rfl) ?_ _
                        have K8 := hid ((((Kept.refl (fun _ => False) wr).drew).trans hk8).trans hk9)
                        clear hk8 hk9 r0 r1
                        go_wp2
                        exact ⟨⟨k + 1, hklt, by go_num, HM6.out.still K8.out, HO6.out.kept K8.out⟩, by simp [intOf]; omega⟩
                      · as_aux_lemma =>
                        obtain rfl : k = tl.length := by omega
                        have hkz2 : ¬ (tl.length : Int) < (tl.length : Int) := by omega
                        have R : Hid (AckS w wr b t.1 (.slice pv nt cv) (.slice p6 lo'.length k6)) := ⟨a', _, t.2, lo', hM6, by rw [HE'.out]; exact HA'.out⟩
                        clear hM6 hO6
                        go_wp2
                        exact ⟨⟨i + 1, hlt, by go_num, _, rfl, R.out⟩, by simp [intOf]; omega⟩
              · as_aux_lemma =>
                go_wp2_with (first | (go_at_call 14; refine HSt.out.mono ?_; rintro e w' ⟨rfl, hw⟩; rw [hw]; clear hw w'))
                go_loopw [12] (fun vk wq => ∃ k : Nat, k ≤ lo'.length ∧ vk = .int .i64 (k : Int) ∧ Hid (AckM w wq b a' N'.1 (.slice pv nt cv) (.slice p6 lo'.length k6) t.2 lo' ∧ PkAt wq pb x.p.code x.p.id (.slice px x.p.opts.length kx) x.p.data)) (fun vk _ => lo'.length - (intOf vk).toNat)
                case atStart => exact ⟨0, Nat.zero_le _, rfl, HM'.out, HP'.out⟩
                case round =>
                  obtain ⟨k, hk, rfl, HL⟩ := hrel
                  obtain ⟨hM4, hP4⟩ := HL.out
                  clear b0 b1 b2 b3 HM' HP' HL
                  by_cases hklt : k < lo'.length
                  · as_aux_lemma =>
                    have hkz : (k : Int) < (lo'.length : Int) := by omega
                    obtain ⟨q, hq⟩ : ∃ q, lo'[k]? = some q := ⟨lo'[k], by simp [hklt]⟩
                    obtain ⟨g, rfl, hcap, q0, q1, q2, q3⟩ := hM4.out.at hq
                    obtain ⟨pq, cq, eq⟩ := slice_of (hM4.out.opts q (List.mem_of_getElem? hq))
                    have hqm : q.1 ∈ N'.2 := by rw [← HE'.out]; exact List.mem_map_of_mem (List.mem_of_getElem? hq)
                    have HKq := hid (HK'.out q.1 hqm)
                    rw [eq] at q2
                    obtain ⟨b0, b1, b2, b3⟩ := hP4.cells
                    have HM4 := hid hM4
                    have HP4 := hid hP4
                    have HOq := hid (hM4.out.opts q (List.mem_of_getElem? hq))
                    have EQ := hid eq
                    clear hM4 hP4 hq hqm eq
                    by_cases hc : q.1.code = 2
                    · obtain ⟨e1, e2, e3⟩ := HKq.out hc
                      have kd := (Kept.refl (fun _ => False) wr).drew
                      have HSq := hid (sameO_any q.2 x.vo q.1.opts x.p.opts wr.drew (HOq.out.kept kd).tags (HXi.out.o.at_.kept0 (HM4.out.mine.kept.trans kd)).1 (by rw [e3]; have := HLp.out.1; omega))
                      rw [EQ.out, EX.out, e3, sameF_self] at HSq
                      rw [e3] at q2
                      rw [hc] at q0
                      rw [e1] at b0
                      have e2z : (q.1.id != x.p.id) = false := by simp [e2]
                      clear e1 e2 e3 hc kd
                      have r0 : ∀ W, Kept (fun _ => False) wr W → W.cell? ⟨g, k * 4, none⟩ = some (.int .i64 2) := fun W h => (h.cell (p := ⟨g, k * 4, none⟩) (lt_of_cell q0) id).trans q0
                      have r1 : ∀ W, Kept (fun _ => False) wr W → W.cell? ⟨g, k * 4 + 1, none⟩ = some (.int .i64 q.1.id) := fun W h => (h.cell (p := ⟨g, k * 4 + 1, none⟩) (lt_of_cell q1) id).trans q1
                      have r2 : ∀ W, Kept (fun _ => False) wr W → W.cell? ⟨g, k * 4 + 2, none⟩ = some (.slice pq x.p.opts.length cq) := fun W h => (h.cell (p := ⟨g, k * 4 + 2, none⟩) (lt_of_cell q2) id).trans q2
                      have s0 : ∀ W, Kept (fun _ => False) wr W → W.cell? ⟨pb, 0, none⟩ = some (.int .i64 1) := fun W h => (h.cell (p := ⟨pb, 0, none⟩) (lt_of_cell b0) id).trans b0
                      have s1 : ∀ W, Kept (fun _ => False) wr W → W.cell? ⟨pb, 1, none⟩ = some (.int .i64 x.p.id) := fun W h => (h.cell (p := ⟨pb, 1, none⟩) (lt_of_cell b1) id).trans b1
                      have s2 : ∀ W, Kept (fun _ => False) wr W → W.cell? ⟨pb, 2, none⟩ = some (.slice px x.p.opts.length kx) := fun W h => (h.cell (p := ⟨pb, 2, none⟩) (lt_of_cell b2) id).trans b2
                      clear q0 q1 q2 q3 b0 b1 b2 b3
                      go_wp2_with fail
                      refine wp_region_held_drew (S := Kept (fun _ => False) wr) (by kernel_rfl) ((Kept.refl _ wr).drew) (fun hSd => ?_)
                      refine wpAnyH_take (i := 0) (v := ?_) rfl (by kernel_rfl) (by kernel_rfl) (by kernel_rfl) (fun _ _ _ h => h) (Or.inl ⟨by kernel_rfl, fun W hSW => by go_simp; try with_reducible rfl⟩) (by assumption) ?_
                      try simp only [List.getElem_toArray]
                      try simp only [List.getElem_cons_succ]
                      try simp only [List.getElem_cons_zero]
                      try simp only [Act.put]
                      try simp only [List.setIfInBounds_toArray]
                      try simp only [List.set_cons_succ]
                      try simp only [List.set_cons_zero]
                      refine wpAnyH_take (i := 1) (v := ?_) rfl (by kernel_rfl) (by kernel_rfl) (by kernel_rfl) (fun _ _ _ h => h) (Or.inl ⟨by kernel_rfl, fun W hSW => by go_simp; try with_reducible rfl⟩) (by assumption) ?_
                      try simp only [List.getElem_toArray]
                      try simp only [List.getElem_cons_succ]
                      try simp only [List.getElem_cons_zero]
                      try simp only [Act.put]
                      try simp only [List.setIfInBounds_toArray]
                      try simp only [List.set_cons_succ]
                      try simp only [List.set_cons_zero]
                      refine wpAnyH_take (i := 2) (v := ?_) rfl (by kernel_rfl) (by kernel_rfl) (by kernel_rfl) (fun _ _ _ h => h) (Or.inl ⟨by kernel_rfl, fun W hSW => by go_simp; try with_reducible rfl⟩) (by assumption) ?_
                      try simp only [List.getElem_toArray]
                      try simp only [List.getElem_cons_succ]
                      try simp only [List.getElem_cons_zero]
                      try simp only [Act.put]
                      try simp only [List.setIfInBounds_toArray]
                      try simp only [List.set_cons_succ]
                      try simp only [List.set_cons_zero]
                      refine wpAnyH_take (i := 3) (v := ?_) rfl (by kernel_rfl) (by kernel_rfl) (by kernel_rfl) (fun _ _ _ h => h) (Or.inl ⟨by kernel_rfl, fun W hSW => by go_simp; try with_reducible rfl⟩) (by assumption) ?_
                      try simp only [List.getElem_toArray]
                      try simp only [List.getElem_cons_succ]
                      try simp only [List.getElem_cons_zero]
                      try simp only [Act.put]
                      try simp only [List.setIfInBounds_toArray]
                      try simp only [List.set_cons_succ]
                      try simp only [List.set_cons_zero]
                      refine wpAnyH_take (i := 4) (v := ?_) rfl (by kernel_rfl) (by kernel_rfl) (by kernel_rfl) (fun _ _ _ h => h) (Or.inl ⟨by kernel_rfl, fun W hSW => by go_simp; try with_reducible rfl⟩) (by assumption) ?_
                      try simp only [List.getElem_toArray]
                      try simp only [List.getElem_cons_succ]
                      try simp only [List.getElem_cons_zero]
                      try simp only [Act.put]
                      try simp only [List.setIfInBounds_toArray]
                      try simp only [List.set_cons_succ]
                      try simp only [List.set_cons_zero]
                      refine wpAnyH_take (i := 5) (v := .bool true) rfl (by kernel_rfl) (by kernel_rfl) (by kernel_rfl) (fun _ _ _ h => h) (Or.inl ⟨by kernel_rfl, fun W hSW => by go_simp; try with_reducible rfl⟩) (by assumption) ?_
                      try simp only [List.getElem_toArray]
                      try simp only [List.getElem_cons_succ]
                      try simp only [List.getElem_cons_zero]
                      try simp only [Act.put]
                      try simp only [List.setIfInBounds_toArray]
                      try simp only [List.set_cons_succ]
                      try simp only [List.set_cons_zero]
                      refine wpAnyH_take (i := 6) (v := .bool true) rfl (by kernel_rfl) (by kernel_rfl) (by kernel_rfl) (fun _ _ _ h => h) (Or.inl ⟨by kernel_rfl, fun W hSW => by go_simp; try with_reducible rfl⟩) (by assumption) ?_
                      try simp only [List.getElem_toArray]
                      try simp only [List.getElem_cons_succ]
                      try simp only [List.getElem_cons_zero]
                      try simp only [Act.put]
                      try simp only [List.setIfInBounds_toArray]
                      try simp only [List.set_cons_succ]
                      try simp only [List.set_cons_zero]
                      refine wpAnyH_take (i := 7) (v := ?_) rfl (by kernel_rfl) (by kernel_rfl) (by kernel_rfl) (fun _ _ _ h => h) (Or.inl ⟨by kernel_rfl, fun W hSW => by go_simp; try with_reducible rfl⟩) (by assumption) ?_
                      try simp only [List.getElem_toArray]
                      try simp only [List.getElem_cons_succ]
                      try simp only [List.getElem_cons_zero]
                      try simp only [Act.put]
                      try simp only [List.setIfInBounds_toArray]
                      try simp only [List.set_cons_succ]
                      try simp only [List.set_cons_zero]
                      refine wpAnyH_take (i := 8) (v := ?_) rfl (by kernel_rfl) (by kernel_rfl) (by kernel_rfl) (fun _ _ _ h => h) (Or.inl ⟨by kernel_rfl, fun W hSW => by go_simp; try with_reducible rfl⟩) (by assumption) ?_
                      try simp only [List.getElem_toArray]
                      try simp only [List.getElem_cons_succ]
                      try simp only [List.getElem_cons_zero]
                      try simp only [Act.put]
                      try simp only [List.setIfInBounds_toArray]
                      try simp only [List.set_cons_succ]
                      try simp only [List.set_cons_zero]
                      refine wpAnyH_take (i := 9) (v := .bool false) rfl (by kernel_rfl) (by kernel_rfl) (by kernel_rfl) (fun _ _ _ h => h) (Or.inl ⟨by kernel_rfl, fun W hSW => by go_simp; try with_reducible rfl⟩) (by assumption) ?_
                      try simp only [List.getElem_toArray]
                      try simp only [List.getElem_cons_succ]
                      try simp only [List.getElem_cons_zero]
                      try simp only [Act.put]
                      try simp only [List.setIfInBounds_toArray]
                      try simp only [List.set_cons_succ]
                      try simp only [List.set_cons_zero]
                      refine wpAnyH_take (i := 10) (v := .bool false) rfl (by kernel_rfl) (by kernel_rfl) (by kernel_rfl) (fun _ _ _ h => h) (Or.inl ⟨by kernel_rfl, fun W hSW => by go_simp; try with_reducible rfl⟩) (by assumption) ?_
                      try simp only [List.getElem_toArray]
                      try simp only [List.getElem_cons_succ]
                      try simp only [List.getElem_cons_zero]
                      try simp only [Act.put]
                      try simp only [List.setIfInBounds_toArray]
                      try simp only [List.set_cons_succ]
                      try simp only [List.set_cons_zero]
                      refine wpAnyH_take (i := 11) (v := ?_) rfl (by kernel_rfl) (by kernel_rfl) (by kernel_rfl) (fun _ _ _ h => h) (Or.inl ⟨by kernel_rfl, fun W hSW => by go_simp; try with_reducible rfl⟩) (by assumption) ?_
                      try simp only [List.getElem_toArray]
                      try simp only [List.getElem_cons_succ]
                      try simp only [List.getElem_cons_zero]
                      try simp only [Act.put]
                      try simp only [List.setIfInBounds_toArray]
                      try simp only [List.set_cons_succ]
                      try simp only [List.set_cons_zero]
                      refine wpAnyH_take (i := 12) (v := ?_) rfl (by kernel_rfl) (by kernel_rfl) (by kernel_rfl) (fun _ _ _ h => h) (Or.inl ⟨by kernel_rfl, fun W hSW => by go_simp; try with_reducible rfl⟩) (by assumption) ?_
                      try simp only [List.getElem_toArray]
                      try simp only [List.getElem_cons_succ]
                      try simp only [List.getElem_cons_zero]
                      try simp only [Act.put]
                      try simp only [List.setIfInBounds_toArray]
                      try simp only [List.set_cons_succ]
                      try simp only [List.set_cons_zero]
                      refine wpAnyH_take (i := 13) (v := ?_) rfl (by kernel_rfl) (by kernel_rfl) (by kernel_rfl) (fun _ _ _ h => h) (Or.inl ⟨by kernel_rfl, fun W hSW => by go_simp; try with_reducible rfl⟩) (by assumption) ?_
                      try simp only [List.getElem_toArray]
                      try simp only [List.getElem_cons_succ]
                      try simp only [List.getElem_cons_zero]
                      try simp only [Act.put]
                      try simp only [List.setIfInBounds_toArray]
                      try simp only [List.set_cons_succ]
                      try simp only [List.set_cons_zero]
                      refine wpAnyH_take (i := 14) (v := ?_) rfl (by kernel_rfl) (by kernel_rfl) (by kernel_rfl) (fun _ _ _ h => h) (Or.inl ⟨by kernel_rfl, fun W hSW => by go_simp; try with_reducible rfl⟩) (by assumption) ?_
                      try simp only [List.getElem_toArray]
                      try simp only [List.getElem_cons_succ]
                      try simp only [List.getElem_cons_zero]
                      try simp only [Act.put]
                      try simp only [List.setIfInBounds_toArray]
                      try simp only [List.set_cons_succ]
                      try simp only [List.set_cons_zero]
                      refine wpAnyH_take (i := 15) (v := ?_) rfl (by kernel_rfl) (by kernel_rfl) (by kernel_rfl) (fun _ _ _ h => h) (Or.inl ⟨by kernel_rfl, fun W hSW => by go_simp; try with_reducible rfl⟩) (by assumption) ?_
                      try simp only [List.getElem_toArray]
                      try simp only [List.getElem_cons_succ]
                      try simp only [List.getElem_cons_zero]
                      try simp only [Act.put]
                      try simp only [List.setIfInBounds_toArray]
                      try simp only [List.set_cons_succ]
                      try simp only [List.set_cons_zero]
                      refine wpAnyH_take (i := 16) (v := ?_) rfl (by kernel_rfl) (by kernel_rfl) (by kernel_rfl) (fun _ _ _ h => h) (Or.inl ⟨by kernel_rfl, fun W hSW => by go_simp; try with_reducible rfl⟩) (by assumption) ?_
                      try simp only [List.getElem_toArray]
                      try simp only [List.getElem_cons_succ]
                      try simp only [List.getElem_cons_zero]
                      try simp only [Act.put]
                      try simp only [List.setIfInBounds_toArray]
                      try simp only [List.set_cons_succ]
                      try simp only [List.set_cons_zero]
                      refine wpAnyH_take (i := 17) (v := ?_) rfl (by kernel_rfl) (by kernel_rfl) (by kernel_rfl) (fun _ _ _ h => h) (Or.inl ⟨by kernel_rfl, fun W hSW => by go_simp; try with_reducible rfl⟩) (by assumption) ?_
                      try simp only [List.getElem_toArray]
                      try simp only [List.getElem_cons_succ]
                      try simp only [List.getElem_cons_zero]
                      try simp only [Act.put]
                      try simp only [List.setIfInBounds_toArray]
                      try simp only [List.set_cons_succ]
                      try simp only [List.set_cons_zero]
                      refine wpAnyH_take (i := 18) (v := .bool false) rfl (by kernel_rfl) (by kernel_rfl) (by kernel_rfl) (fun _ _ _ h => h) (Or.inl ⟨by kernel_rfl, fun W hSW => by go_simp; try with_reducible rfl⟩) (by assumption) ?_
                      try simp only [List.getElem_toArray]
                      try simp only [List.getElem_cons_succ]
                      try simp only [List.getElem_cons_zero]
                      try simp only [Act.put]
                      try simp only [List.setIfInBounds_toArray]
                      try simp only [List.set_cons_succ]
                      try simp only [List.set_cons_zero]
                      refine wpAnyH_take (i := 19) (v := .bool false) rfl (by kernel_rfl) (by kernel_rfl) (by kernel_rfl) (fun _ _ _ h => h) (Or.inl ⟨by kernel_rfl, fun W hSW => by go_simp; try with_reducible rfl⟩) (by assumption) ?_
                      try simp only [List.getElem_toArray]
                      try simp only [List.getElem_cons_succ]
                      try simp only [List.getElem_cons_zero]
                      try simp only [Act.put]
                      try simp only [List.setIfInBounds_toArray]
                      try simp only [List.set_cons_succ]
                      try simp only [List.set_cons_zero]
                      refine wpAnyH_take (i := 20) (v := .bool false) rfl (by kernel_rfl) (by kernel_rfl) (by kernel_rfl) (fun _ _ _ h => h) (Or.inl ⟨by kernel_rfl, fun W hSW => by go_simp; try with_reducible rfl⟩) (by assumption) ?_
                      try simp only [List.getElem_toArray]
                      try simp only [List.getElem_cons_succ]
                      try simp only [List.getElem_cons_zero]
                      try simp only [Act.put]
                      try simp only [List.setIfInBounds_toArray]
                      try simp only [List.set_cons_succ]
                      try simp only [List.set_cons_zero]
                      refine wpAnyH_take (i := 21) (v := ?_) rfl (by kernel_rfl) (by kernel_rfl) (by kernel_rfl) (fun _ _ _ h => h) (Or.inl ⟨by kernel_rfl, fun W hSW => by go_simp; try with_reducible rfl⟩) (by assumption) ?_
                      try simp only [List.getElem_toArray]
                      try simp only [List.getElem_cons_succ]
                      try simp only [List.getElem_cons_zero]
                      try simp only [Act.put]
                      try simp only [List.setIfInBounds_toArray]
                      try simp only [List.set_cons_succ]
                      try simp only [List.set_cons_zero]
                      refine wpAnyH_take (i := 22) (v := ?_) rfl (by kernel_rfl) (by kernel_rfl) (by kernel_rfl) (fun _ _ _ h => h) (Or.inl ⟨by kernel_rfl, fun W hSW => by go_simp; try with_reducible rfl⟩) (by assumption) ?_
                      try simp only [List.getElem_toArray]
                      try simp only [List.getElem_cons_succ]
                      try simp only [List.getElem_cons_zero]
                      try simp only [Act.put]
                      try simp only [List.setIfInBounds_toArray]
                      try simp only [List.set_cons_succ]
                      try simp only [List.set_cons_zero]
                      refine wpAnyH_take (i := 23) (v := ?_) rfl (by kernel_rfl) (by kernel_rfl) (by kernel_rfl) (fun _ _ _ h => h) (Or.inl ⟨by kernel_rfl, fun W hSW => by go_simp; try with_reducible rfl⟩) (by assumption) ?_
                      try simp only [List.getElem_toArray]
                      try simp only [List.getElem_cons_succ]
                      try simp only [List.getElem_cons_zero]
                      try simp only [Act.put]
                      try simp only [List.setIfInBounds_toArray]
                      try simp only [List.set_cons_succ]
                      try simp only [List.set_cons_zero]
                      refine wpAnyH_take (i := 24) (v := ?_) rfl (by kernel_rfl) (by kernel_rfl) (by kernel_rfl) (fun _ _ _ h => h) (Or.inl ⟨by kernel_rfl, fun W hSW => by go_simp; try with_reducible rfl⟩) (by assumption) ?_
                      try simp only [List.getElem_toArray]
                      try simp only [List.getElem_cons_succ]
                      try simp only [List.getElem_cons_zero]
                      try simp only [Act.put]
                      try simp only [List.setIfInBounds_toArray]
                      try simp only [List.set_cons_succ]
                      try simp only [List.set_cons_zero]
                      refine wpAnyH_take (i := 25) (v := ?_) rfl (by kernel_rfl) (by kernel_rfl) (by kernel_rfl) (fun _ _ _ h => h) (Or.inl ⟨by kernel_rfl, fun W hSW => by go_simp; try with_reducible rfl⟩) (by assumption) ?_
                      try simp only [List.getElem_toArray]
                      try simp only [List.getElem_cons_succ]
                      try simp only [List.getElem_cons_zero]
                      try simp only [Act.put]
                      try simp only [List.setIfInBounds_toArray]
                      try simp only [List.set_cons_succ]
                      try simp only [List.set_cons_zero]
                      refine wpAnyH_take (i := 26) (v := ?_) rfl (by kernel_rfl) (by kernel_rfl) (by kernel_rfl) (fun _ _ _ h => h) (Or.inl ⟨by kernel_rfl, fun W hSW => by go_simp; try with_reducible rfl⟩) (by assumption) ?_
                      try simp only [List.getElem_toArray]
                      try simp only [List.getElem_cons_succ]
                      try simp only [List.getElem_cons_zero]
                      try simp only [Act.put]
                      try simp only [List.setIfInBounds_toArray]
                      try simp only [List.set_cons_succ]
                      try simp only [List.set_cons_zero]
                      refine wpAnyH_take (i := 27) (v := ?_) rfl (by kernel_rfl) (by kernel_rfl) (by kernel_rfl) (fun _ _ _ h => h) (Or.inl ⟨by kernel_rfl, fun W hSW => by go_simp; try with_reducible rfl⟩) (by assumption) ?_
                      try simp only [List.getElem_toArray]
                      try simp only [List.getElem_cons_succ]
                      try simp only [List.getElem_cons_zero]
                      try simp only [Act.put]
                      try simp only [List.setIfInBounds_toArray]
                      try simp only [List.set_cons_succ]
                      try simp only [List.set_cons_zero]
                      refine wpAnyH_ready (rs := [28]) (by kernel_rfl) (by simp) ?_
                      refine AllReadyH.cons rfl (fun K hK => ?_) AllReadyH.nil
                      go_simp
                      refine HSq.out.mono ?_
                      rintro e w8 ⟨rfl, hk8⟩
                      refine hK.out _ _ ((Kept.refl _ wr).drew.trans hk8) (fun _ => ?_)
                      clear hK K
                      try simp only [List.getElem_toArray]
                      try simp only [List.getElem_cons_succ]
                      try simp only [List.getElem_cons_zero]
                      try simp only [Act.put]
                      try simp only [List.setIfInBounds_toArray]
                      try simp only [List.set_cons_succ]
                      try simp only [List.set_cons_zero]
                      refine wpAnyH_take (i := 29) (v := ?_) rfl (by kernel_rfl) (by kernel_rfl) (by kernel_rfl) (fun _ _ _ h => h) (Or.inl ⟨by kernel_rfl, fun W hSW => by go_simp; try with_reducible rfl⟩) (by assumption) ?_
                      try simp only [List.getElem_toArray]
                      try simp only [List.getElem_cons_succ]
                      try simp only [List.getElem_cons_zero]
                      try simp only [Act.put]
                      try simp only [List.setIfInBounds_toArray]
                      try simp only [List.set_cons_succ]
                      try simp only [List.set_cons_zero]
                      refine wpAnyH_take (i := 30) (v := .bool false) rfl (by kernel_rfl) (by kernel_rfl) (by kernel_rfl) (fun _ _ _ h => h) (Or.inl ⟨by kernel_rfl, fun W hSW => by go_simp; try with_reducible rfl⟩) (by assumption) ?_
                      try simp only [List.getElem_toArray]
                      try simp only [List.getElem_cons_succ]
                      try simp only [List.getElem_cons_zero]
                      try simp only [Act.put]
                      try simp only [List.setIfInBounds_toArray]
                      try simp only [List.set_cons_succ]
                      try simp only [List.set_cons_zero]
                      refine wpAnyH_take (i := 31) (v := .bool false) rfl (by kernel_rfl) (by kernel_rfl) (by kernel_rfl) (fun _ _ _ h => h) (Or.inl ⟨by kernel_rfl, fun W hSW => by go_simp; try with_reducible rfl⟩) (by assumption) ?_
                      try simp only [List.getElem_toArray]
                      try simp only [List.getElem_cons_succ]
                      try simp only [List.getElem_cons_zero]
                      try simp only [Act.put]
                      try simp only [List.setIfInBounds_toArray]
                      try simp only [List.set_cons_succ]
                      try simp only [List.set_cons_zero]
                      refine wpAnyH_done (by kernel_rfl) ?_ _
                      have K8 := hid (((Kept.refl (fun _ => False) wr).drew).trans hk8)
                      clear hk8 r0 r1 r2 s0 s1 s2
                      go_wp2
                      exact ⟨⟨k + 1, hklt, by go_num, HM4.out.still K8.out, HP4.out.kept K8.out id⟩, by simp [intOf]; omega⟩
                    · have hcz : (q.1.code == 2) = false := by simpa using hc
                      clear hc
                      go_wp2_with fail
                      go_quiet (fail)
                      go_wp2
                      exact ⟨⟨k + 1, hklt, by go_num, HM4.out.still ((Kept.refl _ _).drewN _), HP4.out.kept ((Kept.refl (fun _ => False) _).drewN _) id⟩, by simp [intOf]; omega⟩
                  · as_aux_lemma =>
                    obtain rfl : k = lo'.length := by omega
                    have hkz : ¬ (lo'.length : Int) < (lo'.length : Int) := by omega
                    have HTh := hid (ngTheirs_any wr hM4.mine.neg)
                    have HRt := hid (right_theirs HA'.out.theirs)
                    have HM4 := hid hM4
                    clear hM4 hP4 hklt
                    go_wp2_with fail
                    refine HTh.out.mono ?_
                    rintro e w9 ⟨u, rfl, hou, hk9⟩
                    have HM5 := hid (HM4.out.still hk9)
                    have HOu := hid hou
                    obtain ⟨pu, cu, rfl⟩ := slice_of hou
                    have hlu : (theirsF N'.1).length ≤ 9223372036854775807 := by
                      rcases hou.2 with ⟨_, h0⟩ | ⟨g, cap, cur, _, _, _, h1, h2, _⟩
                      · omega
                      · simp only [maxLen] at h2
                        omega
                    have HFt : Hid (∀ y ∈ theirsF N'.1, y.value.size ≤ 140737488351232) := fun y hy => by
                      unfold theirsF at hy
                      split at hy
                      · exact HM4.out.mine.neg.good.theirs.2.2 y hy
                      · cases hy
                    clear hou hk9 HTh HM4
                    obtain ⟨B, hB⟩ : ∃ B, B = wr.heap.size := ⟨_, rfl⟩
                    rw [← hB] at HOu
                    clear hB
                    generalize theirsF N'.1 = tl at *
                    go_wp2_with fail
                    go_loopw [14] (fun vk wq => ∃ k : Nat, k ≤ tl.length ∧ vk = .int .i64 (k : Int) ∧ Hid (AckM w wq b a' N'.1 (.slice pv nt cv) (.slice p6 lo'.length k6) t.2 lo' ∧ OwnO wq B (.slice pu tl.length cu) tl)) (fun vk _ => tl.length - (intOf vk).toNat)
                    case atStart => exact ⟨0, Nat.zero_le _, rfl, HM5.out, HOu.out⟩
                    case round =>
                      obtain ⟨k, hk, rfl, HL⟩ := hrel
                      obtain ⟨hM6, hO6⟩ := HL.out
                      clear HM5 HOu HL
                      by_cases hklt : k < tl.length
                      · as_aux_lemma =>
                        have hkz2 : (k : Int) < (tl.length : Int) := by omega
                        obtain ⟨y, hy⟩ : ∃ y, tl[k]? = some y := ⟨tl[k], by simp [hklt]⟩
                        obtain ⟨g, o, rfl, hcap, y0, y1⟩ := hO6.tags.at hy
                        obtain ⟨t1, t2⟩ := HRt.out y (List.mem_of_getElem? hy)
                        have HFi := hid (fun W => fits_any rule1 y.value (HFt.out y (List.mem_of_getElem? hy)) W)
                        rw [t1] at y0
                        rw [t2] at HFi
                        have HLR := hid lawRule_any
                        unfold rlV rule1 at HFi HLR
                        have HM6 := hid hM6
                        have HO6 := hid hO6
                        have HC0 := hid (fun W (kk : Kept (fun _ => False) wr W) => (kk.cell (p := ⟨g, o + k * 2, none⟩) (lt_of_cell y0) id).trans y0)
                        have HC1 := hid (fun W (kk : Kept (fun _ => False) wr W) => (kk.cell (p := ⟨g, o + k * 2 + 1, none⟩) (lt_of_cell y1) id).trans y1)
                        clear hM6 hO6 hy t1 t2
                        have r0 : ∀ W, Kept (fun _ => False) wr W → W.cell? ⟨g, o + k * 2, none⟩ = some (.int .i64 1) := fun W h => HC0.out W h
                        have r1 : ∀ W, Kept (fun _ => False) wr W → W.cell? ⟨g, o + k * 2 + 1, none⟩ = some (.string y.value) := fun W h => HC1.out W h
                        clear y0 y1
                        go_wp2_with fail
                        refine wp_region_held_drew (S := Kept (fun _ => False) wr) (by kernel_rfl) ((Kept.refl _ wr).drew) (fun hSd => ?_)
                        refine wpAnyH_take (i := 1) (v := ?_) rfl (by kernel_rfl) (by kernel_rfl) (by kernel_rfl) (fun _ _ _ h => h) (Or.inl ⟨by kernel_rfl, fun W hSW => by go_simp; try with_reducible rfl⟩) (by assumption) ?_
                        try simp only [List.getElem_toArray]
                        try simp only [List.getElem_cons_succ]
                        try simp only [List.getElem_cons_zero]
                        try simp only [Act.put]
                        try simp only [List.setIfInBounds_toArray]
                        try simp only [List.set_cons_succ]
                        try simp only [List.set_cons_zero]
                        refine wpAnyH_take (i := 2) (v := ?_) rfl (by kernel_rfl) (by kernel_rfl) (by kernel_rfl) (fun _ _ _ h => h) (Or.inl ⟨by kernel_rfl, fun W hSW => by go_simp; try with_reducible rfl⟩) (by assumption) ?_
                        try simp only [List.getElem_toArray]
                        try simp only [List.getElem_cons_succ]
                        try simp only [List.getElem_cons_zero]
                        try simp only [Act.put]
                        try simp only [List.setIfInBounds_toArray]
                        try simp only [List.set_cons_succ]
                        try simp only [List.set_cons_zero]
                        refine wpAnyH_take (i := 3) (v := ?_) rfl (by kernel_rfl) (by kernel_rfl) (by kernel_rfl) (fun _ _ _ h => h) (Or.inl ⟨by kernel_rfl, fun W hSW => by go_simp; try with_reducible rfl⟩) (by assumption) ?_
                        try simp only [List.getElem_toArray]
                        try simp only [List.getElem_cons_succ]
                        try simp only [List.getElem_cons_zero]
                        try simp only [Act.put]
                        try simp only [List.setIfInBounds_toArray]
                        try simp only [List.set_cons_succ]
                        try simp only [List.set_cons_zero]
                        refine wpAnyH_take (i := 4) (v := ?_) rfl (by kernel_rfl) (by kernel_rfl) (by kernel_rfl) (fun _ _ _ h => h) (Or.inl ⟨by kernel_rfl, fun W hSW => by go_simp; try with_reducible rfl⟩) (by assumption) ?_
                        try simp only [List.getElem_toArray]
                        try simp only [List.getElem_cons_succ]
                        try simp only [List.getElem_cons_zero]
                        try simp only [Act.put]
                        try simp only [List.setIfInBounds_toArray]
                        try simp only [List.set_cons_succ]
                        try simp only [List.set_cons_zero]
                        refine wpAnyH_take (i := 5) (v := ?_) rfl (by kernel_rfl) (by kernel_rfl) (by kernel_rfl) (fun _ _ _ h => h) (Or.inl ⟨by kernel_rfl, fun W hSW => by go_simp; try with_reducible rfl⟩) (by assumption) ?_
                        try simp only [List.getElem_toArray]
                        try simp only [List.getElem_cons_succ]
                        try simp only [List.getElem_cons_zero]
                        try simp only [Act.put]
                        try simp only [List.setIfInBounds_toArray]
                        try simp only [List.set_cons_succ]
                        try simp only [List.set_cons_zero]
                        refine wpAnyH_ready (rs := [0]) (by kernel_rfl) (by simp) ?_
                        refine AllReadyH.cons rfl (fun K hK => ?_) AllReadyH.nil
                        go_simp
                        refine (HLR.out _).mono ?_
                        rintro e w8 ⟨rfl, hk8⟩
                        refine hK.out _ _ ((Kept.refl _ wr).drew.trans hk8) (fun _ => ?_)
                        clear hK K
                        try simp only [List.getElem_toArray]
                        try simp only [List.getElem_cons_succ]
                        try simp only [List.getElem_cons_zero]
                        try simp only [Act.put]
                        try simp only [List.setIfInBounds_toArray]
                        try simp only [List.set_cons_succ]
                        try simp only [List.set_cons_zero]
                        refine wpAnyH_ready (rs := [6]) (by kernel_rfl) (by simp) ?_
                        refine AllReadyH.cons rfl (fun K hK => ?_) AllReadyH.nil
                        go_simp
                        refine (HFi.out _).mono ?_
                        rintro e w9 ⟨rfl, hk9⟩
                        refine hK.out _ _ (((Kept.refl _ wr).drew.trans hk8).trans hk9) (fun _ => ?_)
                        clear hK K
                        try simp only [List.getElem_toArray]
                        try simp only [List.getElem_cons_succ]
                        try simp only [List.getElem_cons_zero]
                        try simp only [Act.put]
                        try simp only [List.setIfInBounds_toArray]
                        try simp only [List.set_cons_succ]
                        try simp only [List.set_cons_zero]
                        refine wpAnyH_take (i := 7) (v := .bool false) rfl (by kernel_rfl) (by kernel_rfl) (by kernel_rfl) (fun _ _ _ h => h) (Or.inl ⟨by kernel_rfl, fun W hSW => by go_simp; try with_reducible rfl⟩) (by assumption) ?_
                        try simp only [List.getElem_toArray]
                        try simp only [List.getElem_cons_succ]
                        try simp only [List.getElem_cons_zero]
                        try simp only [Act.put]
                        try simp only [List.setIfInBounds_toArray]
                        try simp only [List.set_cons_succ]
                        try simp only [List.set_cons_zero]
                        refine wpAnyH_take (i := 8) (v := .bool false) rfl (by kernel_rfl) (by kernel_rfl) (by kernel_rfl) (fun _ _ _ h => h) (Or.inl ⟨by kernel_rfl, fun W hSW => by go_simp; try with_reducible rfl⟩) (by assumption) ?_
                        try simp only [List.getElem_toArray]
                        try simp only [List.getElem_cons_succ]
                        try simp only [List.getElem_cons_zero]
                        try simp only [Act.put]
                        try simp only [List.setIfInBounds_toArray]
                        try simp only [List.set_cons_succ]
                        try simp only [List.set_cons_zero]
                        refine wpAnyH_take (i := 9) (v := ?_) rfl (by kernel_rfl) (by kernel_rfl) (by kernel_rfl) (fun _ _ _ h => h) (Or.inl ⟨by kernel_rfl, fun W hSW => by go_simp; try with_reducible rfl⟩) (by assumption) ?_
                        try simp only [List.getElem_toArray]
                        try simp only [List.getElem_cons_succ]
                        try simp only [List.getElem_cons_zero]
                        try simp only [Act.put]
                        try simp only [List.setIfInBounds_toArray]
                        try simp only [List.set_cons_succ]
                        try simp only [List.set_cons_zero]
                        refine wpAnyH_take (i := 10) (v := ?_) rfl (by kernel_rfl) (by kernel_rfl) (by kernel_rfl) (fun _ _ _ h => h) (Or.inl ⟨by kernel_rfl, fun W hSW => by go_simp; try with_reducible rfl⟩) (by assumption) ?_
                        try simp only [List.getElem_toArray]
                        try simp only [List.getElem_cons_succ]
                        try simp only [List.getElem_cons_zero]
                        try simp only [Act.put]
                        try simp only [List.setIfInBounds_toArray]
                        try simp only [List.set_cons_succ]
                        try simp only [List.set_cons_zero]
                        refine wpAnyH_take (i := 11) (v := ?_) rfl (by kernel_rfl) (by kernel_rfl) (by kernel_rfl) (fun _ _ _ h => h) (Or.inl ⟨by kernel_rfl, fun W hSW => by go_simp; try with_reducible rfl⟩) (by assumption) ?_
                        try simp only [List.getElem_toArray]
                        try simp only [List.getElem_cons_succ]
                        try simp only [List.getElem_cons_zero]
                        try simp only [Act.put]
                        try simp only [List.setIfInBounds_toArray]
                        try simp only [List.set_cons_succ]
                        try simp only [List.set_cons_zero]
                        refine wpAnyH_take (i := 12) (v := ?_) rfl (by kernel_rfl) (by kernel_rfl) (by kernel_rfl) (fun _ _ _ h => h) (Or.inl ⟨by kernel_rfl, fun W hSW => by go_simp; try with_reducible rfl⟩) (by assumption) ?_
                        try simp only [List.getElem_toArray]
                        try simp only [List.getElem_cons_succ]
                        try simp only [List.getElem_cons_zero]
                        try simp only [Act.put]
                        try simp only [List.setIfInBounds_toArray]
                        try simp only [List.set_cons_succ]
                        try simp only [List.set_cons_zero]
                        refine wpAnyH_take (i := 13) (v := ?_) rfl (by kernel_rfl) (by kernel_rfl) (by kernel_rfl) (fun _ _ _ h => h) (Or.inl ⟨by kernel_rfl, fun W hSW => by go_simp; try with_reducible rfl⟩) (by assumption) ?_
                        try simp only [List.getElem_toArray]
                        try simp only [List.getElem_cons_succ]
                        try simp only [List.getElem_cons_zero]
                        try simp only [Act.put]
                        try simp only [List.setIfInBounds_toArray]
                        try simp only [List.set_cons_succ]
                        try simp only [List.set_cons_zero]
                        refine wpAnyH_take (i := 14) (v := .bool false) rfl (by kernel_rfl) (by kernel_rfl) (by kernel_rfl) (fun _ _ _ h => h) (Or.inl ⟨by kernel_rfl, fun W hSW => by go_simp; try with_reducible rfl⟩) (by assumption) ?_
                        try simp only [List.getElem_toArray]
                        try simp only [List.getElem_cons_succ]
                        try simp only [List.getElem_cons_zero]
                        try simp only [Act.put]
                        try simp only [List.setIfInBounds_toArray]
                        try simp only [List.set_cons_succ]
                        try simp only [List.set_cons_zero]
                        refine wpAnyH_take (i := 15) (v := .bool false) rfl (by kernel_rfl) (by kernel_rfl) (by kernel_rfl) (fun _ _ _ h => h) (Or.inl ⟨by kernel_rfl, fun W hSW => by go_simp; try with_reducible rfl⟩) (by assumption) ?_
                        try simp only [List.getElem_toArray]
                        try simp only [List.getElem_cons_succ]
                        try simp only [List.getElem_cons_zero]
                        try simp only [Act.put]
                        try simp only [List.setIfInBounds_toArray]
                        try simp only [List.set_cons_succ]
                        try simp only [List.set_cons_zero]
                        refine wpAnyH_done (by kernel_rfl) ?_ _
                        have K8 := hid ((((Kept.refl (fun _ => False) wr).drew).trans hk8).trans hk9)
                        clear hk8 hk9 r0 r1
                        go_wp2
                        exact ⟨⟨k + 1, hklt, by go_num, HM6.out.still K8.out, HO6.out.kept K8.out⟩, by simp [intOf]; omega⟩
                      · as_aux_lemma =>
                        obtain rfl : k = tl.length := by omega
                        have hkz2 : ¬ (tl.length : Int) < (tl.length : Int) := by omega
                        have R : Hid (AckS w wr b t.1 (.slice pv nt cv) (.slice p6 lo'.length k6)) := ⟨a', _, t.2, lo', hM6, by rw [HE'.out]; exact HA'.out⟩
                        clear hM6 hO6
                        go_wp2
                        exact ⟨⟨i + 1, hlt, by go_num, _, rfl, R.out⟩, by simp [intOf]; omega⟩
              · as_aux_lemma =>
                rw [z5] at HSa
                clear z5
                go_wp2_with (first | (go_at_call 14; refine HSt.out.mono ?_; rintro e w' ⟨rfl, hw⟩; rw [hw]; clear hw w'))
                refine HSa.out.mono ?_
                rintro e w7 ⟨rfl, hk7⟩
                have HM' := hid (HM'.out.still hk7)
                have HP' := hid (HP'.out.kept hk7 id)
                clear hk7 HSa
                go_wp2_with fail
                go_loopw [12] (fun vk wq => ∃ k : Nat, k ≤ lo'.length ∧ vk = .int .i64 (k : Int) ∧ Hid (AckM w wq b a' N'.1 (.slice pv nt cv) (.slice p6 lo'.length k6) t.2 lo' ∧ PkAt wq pb x.p.code x.p.id (.slice px x.p.opts.length kx) x.p.data)) (fun vk _ => lo'.length - (intOf vk).toNat)
                case atStart => exact ⟨0, Nat.zero_le _, rfl, HM'.out, HP'.out⟩
                case round =>
                  obtain ⟨k, hk, rfl, HL⟩ := hrel
                  obtain ⟨hM4, hP4⟩ := HL.out
                  clear b0 b1 b2 b3 HM' HP' HL
                  by_cases hklt : k < lo'.length
                  · as_aux_lemma =>
                    have hkz : (k : Int) < (lo'.length : Int) := by omega
                    obtain ⟨q, hq⟩ : ∃ q, lo'[k]? = some q := ⟨lo'[k], by simp [hklt]⟩
                    obtain ⟨g, rfl, hcap, q0, q1, q2, q3⟩ := hM4.out.at hq
                    obtain ⟨pq, cq, eq⟩ := slice_of (hM4.out.opts q (List.mem_of_getElem? hq))
                    have hqm : q.1 ∈ N'.2 := by rw [← HE'.out]; exact List.mem_map_of_mem (List.mem_of_getElem? hq)
                    have HKq := hid (HK'.out q.1 hqm)
                    rw [eq] at q2
                    obtain ⟨b0, b1, b2, b3⟩ := hP4.cells
                    have HM4 := hid hM4
                    have HP4 := hid hP4
                    have HOq := hid (hM4.out.opts q (List.mem_of_getElem? hq))
                    have EQ := hid eq
                    clear hM4 hP4 hq hqm eq
                    by_cases hc : q.1.code = 2
                    · obtain ⟨e1, e2, e3⟩ := HKq.out hc
                      have kd := (Kept.refl (fun _ => False) wr).drew
                      have HSq := hid (sameO_any q.2 x.vo q.1.opts x.p.opts wr.drew (HOq.out.kept kd).tags (HXi.out.o.at_.kept0 (HM4.out.mine.kept.trans kd)).1 (by rw [e3]; have := HLp.out.1; omega))
                      rw [EQ.out, EX.out, e3, sameF_self] at HSq
                      rw [e3] at q2
                      rw [hc] at q0
                      rw [e1] at b0
                      have e2z : (q.1.id != x.p.id) = false := by simp [e2]
                      clear e1 e2 e3 hc kd
                      have r0 : ∀ W, Kept (fun _ => False) wr W → W.cell? ⟨g, k * 4, none⟩ = some (.int .i64 2) := fun W h => (h.cell (p := ⟨g, k * 4, none⟩) (lt_of_cell q0) id).trans q0
                      have r1 : ∀ W, Kept (fun _ => False) wr W → W.cell? ⟨g, k * 4 + 1, none⟩ = some (.int .i64 q.1.id) := fun W h => (h.cell (p := ⟨g, k * 4 + 1, none⟩) (lt_of_cell q1) id).trans q1
                      have r2 : ∀ W, Kept (fun _ => False) wr W → W.cell? ⟨g, k * 4 + 2, none⟩ = some (.slice pq x.p.opts.length cq) := fun W h => (h.cell (p := ⟨g, k * 4 + 2, none⟩) (lt_of_cell q2) id).trans q2
                      have s0 : ∀ W, Kept (fun _ => False) wr W → W.cell? ⟨pb, 0, none⟩ = some (.int .i64 1) := fun W h => (h.cell (p := ⟨pb, 0, none⟩) (lt_of_cell b0) id).trans b0
                      have s1 : ∀ W, Kept (fun _ => False) wr W → W.cell? ⟨pb, 1, none⟩ = some (.int .i64 x.p.id) := fun W h => (h.cell (p := ⟨pb, 1, none⟩) (lt_of_cell b1) id).trans b1
                      have s2 : ∀ W, Kept (fun _ => False) wr W → W.cell? ⟨pb, 2, none⟩ = some (.slice px x.p.opts.length kx) := fun W h => (h.cell (p := ⟨pb, 2, none⟩) (lt_of_cell b2) id).trans b2
                      clear q0 q1 q2 q3 b0 b1 b2 b3
                      go_wp2_with fail
                      refine wp_region_held_drew (S := Kept (fun _ => False) wr) (by kernel_rfl) ((Kept.refl _ wr).drew) (fun hSd => ?_)
                      refine wpAnyH_take (i := 0) (v := ?_) rfl (by kernel_rfl) (by kernel_rfl) (by kernel_rfl) (fun _ _ _ h => h) (Or.inl ⟨by kernel_rfl, fun W hSW => by go_simp; try with_reducible rfl⟩) (by assumption) ?_
                      try simp only [List.getElem_toArray]
                      try simp only [List.getElem_cons_succ]
                      try simp only [List.getElem_cons_zero]
                      try simp only [Act.put]
                      try simp only [List.setIfInBounds_toArray]
                      try simp only [List.set_cons_succ]
                      try simp only [List.set_cons_zero]
                      refine wpAnyH_take (i := 1) (v := ?_) rfl (by kernel_rfl) (by kernel_rfl) (by kernel_rfl) (fun _ _ _ h => h) (Or.inl ⟨by kernel_rfl, fun W hSW => by go_simp; try with_reducible rfl⟩) (by assumption) ?_
                      try simp only [List.getElem_toArray]
                      try simp only [List.getElem_cons_succ]
                      try simp only [List.getElem_cons_zero]
                      try simp only [Act.put]
                      try simp only [List.setIfInBounds_toArray]
                      try simp only [List.set_cons_succ]
                      try simp only [List.set_cons_zero]
                      refine wpAnyH_take (i := 2) (v := ?_) rfl (by kernel_rfl) (by kernel_rfl) (by kernel_rfl) (fun _ _ _ h => h) (Or.inl ⟨by kernel_rfl, fun W hSW => by go_simp; try with_reducible rfl⟩) (by assumption) ?_
                      try simp only [List.getElem_toArray]
                      try simp only [List.getElem_cons_succ]
                      try simp only [List.getElem_cons_zero]
                      try simp only [Act.put]
                      try simp only [List.setIfInBounds_toArray]
                      try simp only [List.set_cons_succ]
                      try simp only [List.set_cons_zero]
                      refine wpAnyH_take (i := 3) (v := ?_) rfl (by kernel_rfl) (by kernel_rfl) (by kernel_rfl) (fun _ _ _ h => h) (Or.inl ⟨by kernel_rfl, fun W hSW => by go_simp; try with_reducible rfl⟩) (by assumption) ?_
                      try simp only [List.getElem_toArray]
                      try simp only [List.getElem_cons_succ]
                      try simp only [List.getElem_cons_zero]
                      try simp only [Act.put]
                      try simp only [List.setIfInBounds_toArray]
                      try simp only [List.set_cons_succ]
                      try simp only [List.set_cons_zero]
                      refine wpAnyH_take (i := 4) (v := ?_) rfl (by kernel_rfl) (by kernel_rfl) (by kernel_rfl) (fun _ _ _ h => h) (Or.inl ⟨by kernel_rfl, fun W hSW => by go_simp; try with_reducible rfl⟩) (by assumption) ?_
                      try simp only [List.getElem_toArray]
                      try simp only [List.getElem_cons_succ]
                      try simp only [List.getElem_cons_zero]
                      try simp only [Act.put]
                      try simp only [List.setIfInBounds_toArray]
                      try simp only [List.set_cons_succ]
                      try simp only [List.set_cons_zero]
                      refine wpAnyH_take (i := 5) (v := .bool true) rfl (by kernel_rfl) (by kernel_rfl) (by kernel_rfl) (fun _ _ _ h => h) (Or.inl ⟨by kernel_rfl, fun W hSW => by go_simp; try with_reducible rfl⟩) (by assumption) ?_
                      try simp only [List.getElem_toArray]
                      try simp only [List.getElem_cons_succ]
                      try simp only [List.getElem_cons_zero]
                      try simp only [Act.put]
                      try simp only [List.setIfInBounds_toArray]
                      try simp only [List.set_cons_succ]
                      try simp only [List.set_cons_zero]
                      refine wpAnyH_take (i := 6) (v := .bool true) rfl (by kernel_rfl) (by kernel_rfl) (by kernel_rfl) (fun _ _ _ h => h) (Or.inl ⟨by kernel_rfl, fun W hSW => by go_simp; try with_reducible rfl⟩) (by assumption) ?_
                      try simp only [List.getElem_toArray]
                      try simp only [List.getElem_cons_succ]
                      try simp only [List.getElem_cons_zero]
                      try simp only [Act.put]
                      try simp only [List.setIfInBounds_toArray]
                      try simp only [List.set_cons_succ]
                      try simp only [List.set_cons_zero]
                      refine wpAnyH_take (i := 7) (v := ?_) rfl (by kernel_rfl) (by kernel_rfl) (by kernel_rfl) (fun _ _ _ h => h) (Or.inl ⟨by kernel_rfl, fun W hSW => by go_simp; try with_reducible rfl⟩) (by assumption) ?_
                      try simp only [List.getElem_toArray]
                      try simp only [List.getElem_cons_succ]
                      try simp only [List.getElem_cons_zero]
                      try simp only [Act.put]
                      try simp only [List.setIfInBounds_toArray]
                      try simp only [List.set_cons_succ]
                      try simp only [List.set_cons_zero]
                      refine wpAnyH_take (i := 8) (v := ?_) rfl (by kernel_rfl) (by kernel_rfl) (by kernel_rfl) (fun _ _ _ h => h) (Or.inl ⟨by kernel_rfl, fun W hSW => by go_simp; try with_reducible rfl⟩) (by assumption) ?_
                      try simp only [List.getElem_toArray]
                      try simp only [List.getElem_cons_succ]
                      try simp only [List.getElem_cons_zero]
                      try simp only [Act.put]
                      try simp only [List.setIfInBounds_toArray]
                      try simp only [List.set_cons_succ]
                      try simp only [List.set_cons_zero]
                      refine wpAnyH_take (i := 9) (v := .bool false) rfl (by kernel_rfl) (by kernel_rfl) (by kernel_rfl) (fun _ _ _ h => h) (Or.inl ⟨by kernel_rfl, fun W hSW => by go_simp; try with_reducible rfl⟩) (by assumption) ?_
                      try simp only [List.getElem_toArray]
                      try simp only [List.getElem_cons_succ]
                      try simp only [List.getElem_cons_zero]
                      try simp only [Act.put]
                      try simp only [List.setIfInBounds_toArray]
                      try simp only [List.set_cons_succ]
                      try simp only [List.set_cons_zero]
                      refine wpAnyH_take (i := 10) (v := .bool false) rfl (by kernel_rfl) (by kernel_rfl) (by kernel_rfl) (fun _ _ _ h => h) (Or.inl ⟨by kernel_rfl, fun W hSW => by go_simp; try with_reducible rfl⟩) (by assumption) ?_
                      try simp only [List.getElem_toArray]
                      try simp only [List.getElem_cons_succ]
                      try simp only [List.getElem_cons_zero]
                      try simp only [Act.put]
                      try simp only [List.setIfInBounds_toArray]
                      try simp only [List.set_cons_succ]
                      try simp only [List.set_cons_zero]
                      refine wpAnyH_take (i := 11) (v := ?_) rfl (by kernel_rfl) (by kernel_rfl) (by kernel_rfl) (fun _ _ _ h => h) (Or.inl ⟨by kernel_rfl, fun W hSW => by go_simp; try with_reducible rfl⟩) (by assumption) ?_
                      try simp only [List.getElem_toArray]
                      try simp only [List.getElem_cons_succ]
                      try simp only [List.getElem_cons_zero]
                      try simp only [Act.put]
                      try simp only [List.setIfInBounds_toArray]
                      try simp only [List.set_cons_succ]
                      try simp only [List.set_cons_zero]
                      refine wpAnyH_take (i := 12) (v := ?_) rfl (by kernel_rfl) (by kernel_rfl) (by kernel_rfl) (fun _ _ _ h => h) (Or.inl ⟨by kernel_rfl, fun W hSW => by go_simp; try with_reducible rfl⟩) (by assumption) ?_
                      try simp only [List.getElem_toArray]
                      try simp only [List.getElem_cons_succ]
                      try simp only [List.getElem_cons_zero]
                      try simp only [Act.put]
                      try simp only [List.setIfInBounds_toArray]
                      try simp only [List.set_cons_succ]
                      try simp only [List.set_cons_zero]
                      refine wpAnyH_take (i := 13) (v := ?_) rfl (by kernel_rfl) (by kernel_rfl) (by kernel_rfl) (fun _ _ _ h => h) (Or.inl ⟨by kernel_rfl, fun W hSW => by go_simp; try with_reducible rfl⟩) (by assumption) ?_
                      try simp only [List.getElem_toArray]
                      try simp only [List.getElem_cons_succ]
                      try simp only [List.getElem_cons_zero]
                      try simp only [Act.put]
                      try simp only [List.setIfInBounds_toArray]
                      try simp only [List.set_cons_succ]
                      try simp only [List.set_cons_zero]
                      refine wpAnyH_take (i := 14) (v := ?_) rfl (by kernel_rfl) (by kernel_rfl) (by kernel_rfl) (fun _ _ _ h => h) (Or.inl ⟨by kernel_rfl, fun W hSW => by go_simp; try with_reducible rfl⟩) (by assumption) ?_
                      try simp only [List.getElem_toArray]
                      try simp only [List.getElem_cons_succ]
                      try simp only [List.getElem_cons_zero]
                      try simp only [Act.put]
                      try simp only [List.setIfInBounds_toArray]
                      try simp only [List.set_cons_succ]
                      try simp only [List.set_cons_zero]
                      refine wpAnyH_take (i := 15) (v := ?_) rfl (by kernel_rfl) (by kernel_rfl) (by kernel_rfl) (fun _ _ _ h => h) (Or.inl ⟨by kernel_rfl, fun W hSW => by go_simp; try with_reducible rfl⟩) (by assumption) ?_
                      try simp only [List.getElem_toArray]
                      try simp only [List.getElem_cons_succ]
                      try simp only [List.getElem_cons_zero]
                      try simp only [Act.put]
                      try simp only [List.setIfInBounds_toArray]
                      try simp only [List.set_cons_succ]
                      try simp only [List.set_cons_zero]
                      refine wpAnyH_take (i := 16) (v := ?_) rfl (by kernel_rfl) (by kernel_rfl) (by kernel_rfl) (fun _ _ _ h => h) (Or.inl ⟨by kernel_rfl, fun W hSW => by go_simp; try with_reducible rfl⟩) (by assumption) ?_
                      try simp only [List.getElem_toArray]
                      try simp only [List.getElem_cons_succ]
                      try simp only [List.getElem_cons_zero]
                      try simp only [Act.put]
                      try simp only [List.setIfInBounds_toArray]
                      try simp only [List.set_cons_succ]
                      try simp only [List.set_cons_zero]
                      refine wpAnyH_take (i := 17) (v := ?_) rfl (by kernel_rfl) (by kernel_rfl) (by kernel_rfl) (fun _ _ _ h => h) (Or.inl ⟨by kernel_rfl, fun W hSW => by go_simp; try with_reducible rfl⟩) (by assumption) ?_
                      try simp only [List.getElem_toArray]
                      try simp only [List.getElem_cons_succ]
                      try simp only [List.getElem_cons_zero]
                      try simp only [Act.put]
                      try simp only [List.setIfInBounds_toArray]
                      try simp only [List.set_cons_succ]
                      try simp only [List.set_cons_zero]
                      refine wpAnyH_take (i := 18) (v := .bool false) rfl (by kernel_rfl) (by kernel_rfl) (by kernel_rfl) (fun _ _ _ h => h) (Or.inl ⟨by kernel_rfl, fun W hSW => by go_simp; try with_reducible rfl⟩) (by assumption) ?_
                      try simp only [List.getElem_toArray]
                      try simp only [List.getElem_cons_succ]
                      try simp only [List.getElem_cons_zero]
                      try simp only [Act.put]
                      try simp only [List.setIfInBounds_toArray]
                      try simp only [List.set_cons_succ]
                      try simp only [List.set_cons_zero]
                      refine wpAnyH_take (i := 19) (v := .bool false) rfl (by kernel_rfl) (by kernel_rfl) (by kernel_rfl) (fun _ _ _ h => h) (Or.inl ⟨by kernel_rfl, fun W hSW => by go_simp; try with_reducible rfl⟩) (by assumption) ?_
                      try simp only [List.getElem_toArray]
                      try simp only [List.getElem_cons_succ]
                      try simp only [List.getElem_cons_zero]
                      try simp only [Act.put]
                      try simp only [List.setIfInBounds_toArray]
                      try simp only [List.set_cons_succ]
                      try simp only [List.set_cons_zero]
                      refine wpAnyH_take (i := 20) (v := .bool false) rfl (by kernel_rfl) (by kernel_rfl) (by kernel_rfl) (fun _ _ _ h => h) (Or.inl ⟨by kernel_rfl, fun W hSW => by go_simp; try with_reducible rfl⟩) (by assumption) ?_
                      try simp only [List.getElem_toArray]
                      try simp only [List.getElem_cons_succ]
                      try simp only [List.getElem_cons_zero]
                      try simp only [Act.put]
                      try simp only [List.setIfInBounds_toArray]
                      try simp only [List.set_cons_succ]
                      try simp only [List.set_cons_zero]
                      refine wpAnyH_take (i := 21) (v := ?_) rfl (by kernel_rfl) (by kernel_rfl) (by kernel_rfl) (fun _ _ _ h => h) (Or.inl ⟨by kernel_rfl, fun W hSW => by go_simp; try with_reducible rfl⟩) (by assumption) ?_
                      try simp only [List.getElem_toArray]
                      try simp only [List.getElem_cons_succ]
                      try simp only [List.getElem_cons_zero]
                      try simp only [Act.put]
                      try simp only [List.setIfInBounds_toArray]
                      try simp only [List.set_cons_succ]
                      try simp only [List.set_cons_zero]
                      refine wpAnyH_take (i := 22) (v := ?_) rfl (by kernel_rfl) (by kernel_rfl) (by kernel_rfl) (fun _ _ _ h => h) (Or.inl ⟨by kernel_rfl, fun W hSW => by go_simp; try with_reducible rfl⟩) (by assumption) ?_
                      try simp only [List.getElem_toArray]
                      try simp only [List.getElem_cons_succ]
                      try simp only [List.getElem_cons_zero]
                      try simp only [Act.put]
                      try simp only [List.setIfInBounds_toArray]
                      try simp only [List.set_cons_succ]
                      try simp only [List.set_cons_zero]
                      refine wpAnyH_take (i := 23) (v := ?_) rfl (by kernel_rfl) (by kernel_rfl) (by kernel_rfl) (fun _ _ _ h => h) (Or.inl ⟨by kernel_rfl, fun W hSW => by go_simp; try with_reducible rfl⟩) (by assumption) ?_
                      try simp only [List.getElem_toArray]
                      try simp only [List.getElem_cons_succ]
                      try simp only [List.getElem_cons_zero]
                      try simp only [Act.put]
                      try simp only [List.setIfInBounds_toArray]
                      try simp only [List.set_cons_succ]
                      try simp only [List.set_cons_zero]
                      refine wpAnyH_take (i := 24) (v := ?_) rfl (by kernel_rfl) (by kernel_rfl) (by kernel_rfl) (fun _ _ _ h => h) (Or.inl ⟨by kernel_rfl, fun W hSW => by go_simp; try with_reducible rfl⟩) (by assumption) ?_
                      try simp only [List.getElem_toArray]
                      try simp only [List.getElem_cons_succ]
                      try simp only [List.getElem_cons_zero]
                      try simp only [Act.put]
                      try simp only [List.setIfInBounds_toArray]
                      try simp only [List.set_cons_succ]
                      try simp only [List.set_cons_zero]
                      refine wpAnyH_take (i := 25) (v := ?_) rfl (by kernel_rfl) (by kernel_rfl) (by kernel_rfl) (fun _ _ _ h => h) (Or.inl ⟨by kernel_rfl, fun W hSW => by go_simp; try with_reducible rfl⟩) (by assumption) ?_
                      try simp only [List.getElem_toArray]
                      try simp only [List.getElem_cons_succ]
                      try simp only [List.getElem_cons_zero]
                      try simp only [Act.put]
                      try simp only [List.setIfInBounds_toArray]
                      try simp only [List.set_cons_succ]
                      try simp only [List.set_cons_zero]
                      refine wpAnyH_take (i := 26) (v := ?_) rfl (by kernel_rfl) (by kernel_rfl) (by kernel_rfl) (fun _ _ _ h => h) (Or.inl ⟨by kernel_rfl, fun W hSW => by go_simp; try with_reducible rfl⟩) (by assumption) ?_
                      try simp only [List.getElem_toArray]
                      try simp only [List.getElem_cons_succ]
                      try simp only [List.getElem_cons_zero]
                      try simp only [Act.put]
                      try simp only [List.setIfInBounds_toArray]
                      try simp only [List.set_cons_succ]
                      try simp only [List.set_cons_zero]
                      refine wpAnyH_take (i := 27) (v := ?_) rfl (by kernel_rfl) (by kernel_rfl) (by kernel_rfl) (fun _ _ _ h => h) (Or.inl ⟨by kernel_rfl, fun W hSW => by go_simp; try with_reducible rfl⟩) (by assumption) ?_
                      try simp only [List.getElem_toArray]
                      try simp only [List.getElem_cons_succ]
                      try simp only [List.getElem_cons_zero]
                      try simp only [Act.put]
                      try simp only [List.setIfInBounds_toArray]
                      try simp only [List.set_cons_succ]
                      try simp only [List.set_cons_zero]
                      refine wpAnyH_ready (rs := [28]) (by kernel_rfl) (by simp) ?_
                      refine AllReadyH.cons rfl (fun K hK => ?_) AllReadyH.nil
                      go_simp
                      refine HSq.out.mono ?_
                      rintro e w8 ⟨rfl, hk8⟩
                      refine hK.out _ _ ((Kept.refl _ wr).drew.trans hk8) (fun _ => ?_)
                      clear hK K
                      try simp only [List.getElem_toArray]
                      try simp only [List.getElem_cons_succ]
                      try simp only [List.getElem_cons_zero]
                      try simp only [Act.put]
                      try simp only [List.setIfInBounds_toArray]
                      try simp only [List.set_cons_succ]
                      try simp only [List.set_cons_zero]
                      refine wpAnyH_take (i := 29) (v := ?_) rfl (by kernel_rfl) (by kernel_rfl) (by kernel_rfl) (fun _ _ _ h => h) (Or.inl ⟨by kernel_rfl, fun W hSW => by go_simp; try with_reducible rfl⟩) (by assumption) ?_
                      try simp only [List.getElem_toArray]
                      try simp only [List.getElem_cons_succ]
                      try simp only [List.getElem_cons_zero]
                      try simp only [Act.put]
                      try simp only [List.setIfInBounds_toArray]
                      try simp only [List.set_cons_succ]
                      try simp only [List.set_cons_zero]
                      refine wpAnyH_take (i := 30) (v := .bool false) rfl (by kernel_rfl) (by kernel_rfl) (by kernel_rfl) (fun _ _ _ h => h) (Or.inl ⟨by kernel_rfl, fun W hSW => by go_simp; try with_reducible rfl⟩) (by assumption) ?_
                      try simp only [List.getElem_toArray]
                      try simp only [List.getElem_cons_succ]
                      try simp only [List.getElem_cons_zero]
                      try simp only [Act.put]
                      try simp only [List.setIfInBounds_toArray]
                      try simp only [List.set_cons_succ]
                      try simp only [List.set_cons_zero]
                      refine wpAnyH_take (i := 31) (v := .bool false) rfl (by kernel_rfl) (by kernel_rfl) (by kernel_rfl) (fun _ _ _ h => h) (Or.inl ⟨by kernel_rfl, fun W hSW => by go_simp; try with_reducible rfl⟩) (by assumption) ?_
                      try simp only [List.getElem_toArray]
                      try simp only [List.getElem_cons_succ]
                      try simp only [List.getElem_cons_zero]
                      try simp only [Act.put]
                      try simp only [List.setIfInBounds_toArray]
                      try simp only [List.set_cons_succ]
                      try simp only [List.set_cons_zero]
                      refine wpAnyH_done (by kernel_rfl) ?_ _
                      have K8 := hid (((Kept.refl (fun _ => False) wr).drew).trans hk8)
                      clear hk8 r0 r1 r2 s0 s1 s2
                      go_wp2
                      exact ⟨⟨k + 1, hklt, by go_num, HM4.out.still K8.out, HP4.out.kept K8.out id⟩, by simp [intOf]; omega⟩
                    · have hcz : (q.1.code == 2) = false := by simpa using hc
                      clear hc
                      go_wp2_with fail
                      go_quiet (fail)
                      go_wp2
                      exact ⟨⟨k + 1, hklt, by go_num, HM4.out.still ((Kept.refl _ _).drewN _), HP4.out.kept ((Kept.refl (fun _ => False) _).drewN _) id⟩, by simp [intOf]; omega⟩
                  · as_aux_lemma =>
                    obtain rfl : k = lo'.length := by omega
                    have hkz : ¬ (lo'.length : Int) < (lo'.length : Int) := by omega
                    have HTh := hid (ngTheirs_any wr hM4.mine.neg)
                    have HRt := hid (right_theirs HA'.out.theirs)
                    have HM4 := hid hM4
                    clear hM4 hP4 hklt
                    go_wp2_with fail
                    refine HTh.out.mono ?_
                    rintro e w9 ⟨u, rfl, hou, hk9⟩
                    have HM5 := hid (HM4.out.still hk9)
                    have HOu := hid hou
                    obtain ⟨pu, cu, rfl⟩ := slice_of hou
                    have hlu : (theirsF N'.1).length ≤ 9223372036854775807 := by
                      rcases hou.2 with ⟨_, h0⟩ | ⟨g, cap, cur, _, _, _, h1, h2, _⟩
                      · omega
                      · simp only [maxLen] at h2
                        omega
                    have HFt : Hid (∀ y ∈ theirsF N'.1, y.value.size ≤ 140737488351232) := fun y hy => by
                      unfold theirsF at hy
                      split at hy
                      · exact HM4.out.mine.neg.good.theirs.2.2 y hy
                      · cases hy
                    clear hou hk9 HTh HM4
                    obtain ⟨B, hB⟩ : ∃ B, B = wr.heap.size := ⟨_, rfl⟩
                    rw [← hB] at HOu
                    clear hB
                    generalize theirsF N'.1 = tl at *
                    go_wp2_with fail
                    go_loopw [14] (fun vk wq => ∃ k : Nat, k ≤ tl.length ∧ vk = .int .i64 (k : Int) ∧ Hid (AckM w wq b a' N'.1 (.slice pv nt cv) (.slice p6 lo'.length k6) t.2 lo' ∧ OwnO wq B (.slice pu tl.length cu) tl)) (fun vk _ => tl.length - (intOf vk).toNat)
                    case atStart => exact ⟨0, Nat.zero_le _, rfl, HM5.out, HOu.out⟩
                    case round =>
                      obtain ⟨k, hk, rfl, HL⟩ := hrel
                      obtain ⟨hM6, hO6⟩ := HL.out
                      clear HM5 HOu HL
                      by_cases hklt : k < tl.length
                      · as_aux_lemma =>
                        have hkz2 : (k : Int) < (tl.length : Int) := by omega
                        obtain ⟨y, hy⟩ : ∃ y, tl[k]? = some y := ⟨tl[k], by simp [hklt]⟩
                        obtain ⟨g, o, rfl, hcap, y0, y1⟩ := hO6.tags.at hy
                        obtain ⟨t1, t2⟩ := HRt.out y (List.mem_of_getElem? hy)
                        have HFi := hid (fun W => fits_any rule1 y.value (HFt.out y (List.mem_of_getElem? hy)) W)
                        rw [t1] at y0
                        rw [t2] at HFi
                        have HLR := hid lawRule_any
                        unfold rlV rule1 at HFi HLR
                        have HM6 := hid hM6
                        have HO6 := hid hO6
                        have HC0 := hid (fun W (kk : Kept (fun _ => False) wr W) => (kk.cell (p := ⟨g, o + k * 2, none⟩) (lt_of_cell y0) id).trans y0)
                        have HC1 := hid (fun W (kk : Kept (fun _ => False) wr W) => (kk.cell (p := ⟨g, o + k * 2 + 1, none⟩) (lt_of_cell y1) id).trans y1)
                        clear hM6 hO6 hy t1 t2
                        have r0 : ∀ W, Kept (fun _ => False) wr W → W.cell? ⟨g, o + k * 2, none⟩ = some (.int .i64 1) := fun W h => HC0.out W h
                        have r1 : ∀ W, Kept (fun _ => False) wr W → W.cell? ⟨g, o + k * 2 + 1, none⟩ = some (.string y.value) := fun W h => HC1.out W h
                        clear y0 y1
                        go_wp2_with fail
                        refine wp_region_held_drew (S := Kept (fun _ => False) wr) (by kernel_rfl) ((Kept.refl _ wr).drew) (fun hSd => ?_)
                        refine wpAnyH_take (i := 1) (v := ?_) rfl (by kernel_rfl) (by kernel_rfl) (by kernel_rfl) (fun _ _ _ h => h) (Or.inl ⟨by kernel_rfl, fun W hSW => by go_simp; try with_reducible rfl⟩) (by assumption) ?_
                        try simp only [List.getElem_toArray]
                        try simp only [List.getElem_cons_succ]
                        try simp only [List.getElem_cons_zero]
                        try simp only [Act.put]
                        try simp only [List.setIfInBounds_toArray]
                        try simp only [List.set_cons_succ]
                        try simp only [List.set_cons_zero]
                        refine wpAnyH_take (i := 2) (v := ?_) rfl (by kernel_rfl) (by kernel_rfl) (by kernel_rfl) (fun _ _ _ h => h) (Or.inl ⟨by kernel_rfl, fun W hSW => by go_simp; try with_reducible rfl⟩) (by assumption) ?_
                        try simp only [List.getElem_toArray]
                        try simp only [List.getElem_cons_succ]
                        try simp only [List.getElem_cons_zero]
                        try simp only [Act.put]
                        try simp only [List.setIfInBounds_toArray]
                        try simp only [List.set_cons_succ]
                        try simp only [List.set_cons_zero]
                        refine wpAnyH_take (i := 3) (v := ?_) rfl (by kernel_rfl) (by kernel_rfl) (by kernel_rfl) (fun _ _ _ h => h) (Or.inl ⟨by kernel_rfl, fun W hSW => by go_simp; try with_reducible rfl⟩) (by assumption) ?_
                        try simp only [List.getElem_toArray]
                        try simp only [List.getElem_cons_succ]
                        try simp only [List.getElem_cons_zero]
                        try simp only [Act.put]
                        try simp only [List.setIfInBounds_toArray]
                        try simp only [List.set_cons_succ]
                        try simp only [List.set_cons_zero]
                        refine wpAnyH_take (i := 4) (v := ?_) rfl (by kernel_rfl) (by kernel_rfl) (by kernel_rfl) (fun _ _ _ h => h) (Or.inl ⟨by kernel_rfl, fun W hSW => by go_simp; try with_reducible rfl⟩) (by assumption) ?_
                        try simp only [List.getElem_toArray]
                        try simp only [List.getElem_cons_succ]
                        try simp only [List.getElem_cons_zero]
                        try simp only [Act.put]
                        try simp only [List.setIfInBounds_toArray]
                        try simp only [List.set_cons_succ]
                        try simp only [List.set_cons_zero]
                        refine wpAnyH_take (i := 5) (v := ?_) rfl (by kernel_rfl) (by kernel_rfl) (by kernel_rfl) (fun _ _ _ h => h) (Or.inl ⟨by kernel_rfl, fun W hSW => by go_simp; try with_reducible rfl⟩) (by assumption) ?_
                        try simp only [List.getElem_toArray]
                        try simp only [List.getElem_cons_succ]
                        try simp only [List.getElem_cons_zero]
                        try simp only [Act.put]
                        try simp only [List.setIfInBounds_toArray]
                        try simp only [List.set_cons_succ]
                        try simp only [List.set_cons_zero]
                        refine wpAnyH_ready (rs := [0]) (by kernel_rfl) (by simp) ?_
                        refine AllReadyH.cons rfl (fun K hK => ?_) AllReadyH.nil
                        go_simp
                        refine (HLR.out _).mono ?_
                        rintro e w8 ⟨rfl, hk8⟩
                        refine hK.out _ _ ((Kept.refl _ wr).drew.trans hk8) (fun _ => ?_)
                        clear hK K
                        try simp only [List.getElem_toArray]
                        try simp only [List.getElem_cons_succ]
                        try simp only [List.getElem_cons_zero]
                        try simp only [Act.put]
                        try simp only [List.setIfInBounds_toArray]
                        try simp only [List.set_cons_succ]
                        try simp only [List.set_cons_zero]
                        refine wpAnyH_ready (rs := [6]) (by kernel_rfl) (by simp) ?_
                        refine AllReadyH.cons rfl (fun K hK => ?_) AllReadyH.nil
                        go_simp
                        refine (HFi.out _).mono ?_
                        rintro e w9 ⟨rfl, hk9⟩
                        refine hK.out _ _ (((Kept.refl _ wr).drew.trans hk8).trans hk9) (fun _ => ?_)
                        clear hK K
                        try simp only [List.getElem_toArray]
                        try simp only [List.getElem_cons_succ]
                        try simp only [List.getElem_cons_zero]
                        try simp only [Act.put]
                        try simp only [List.setIfInBounds_toArray]
                        try simp only [List.set_cons_succ]
                        try simp only [List.set_cons_zero]
                        refine wpAnyH_take (i := 7) (v := .bool false) rfl (by kernel_rfl) (by kernel_rfl) (by kernel_rfl) (fun _ _ _ h => h) (Or.inl ⟨by kernel_rfl, fun W hSW => by go_simp; try with_reducible rfl⟩) (by assumption) ?_
                        try simp only [List.getElem_toArray]
                        try simp only [List.getElem_cons_succ]
                        try simp only [List.getElem_cons_zero]
                        try simp only [Act.put]
                        try simp only [List.setIfInBounds_toArray]
                        try simp only [List.set_cons_succ]
                        try simp only [List.set_cons_zero]
                        refine wpAnyH_take (i := 8) (v := .bool false) rfl (by kernel_rfl) (by kernel_rfl) (by kernel_rfl) (fun _ _ _ h => h) (Or.inl ⟨by kernel_rfl, fun W hSW => by go_simp; try with_reducible rfl⟩) (by assumption) ?_
                        try simp only [List.getElem_toArray]
                        try simp only [List.getElem_cons_succ]
                        try simp only [List.getElem_cons_zero]
                        try simp only [Act.put]
                        try simp only [List.setIfInBounds_toArray]
                        try simp only [List.set_cons_succ]
                        try simp only [List.set_cons_zero]
                        refine wpAnyH_take (i := 9) (v := ?_) rfl (by kernel_rfl) (by kernel_rfl) (by kernel_rfl) (fun _ _ _ h => h) (Or.inl ⟨by kernel_rfl, fun W hSW => by go_simp; try with_reducible rfl⟩) (by assumption) ?_
                        try simp only [List.getElem_toArray]
                        try simp only [List.getElem_cons_succ]
                        try simp only [List.getElem_cons_zero]
                        try simp only [Act.put]
                        try simp only [List.setIfInBounds_toArray]
                        try simp only [List.set_cons_succ]
                        try simp only [List.set_cons_zero]
                        refine wpAnyH_take (i := 10) (v := ?_) rfl (by kernel_rfl) (by kernel_rfl) (by kernel_rfl) (fun _ _ _ h => h) (Or.inl ⟨by kernel_rfl, fun W hSW => by go_simp; try with_reducible rfl⟩) (by assumption) ?_
                        try simp only [List.getElem_toArray]
                        try simp only [List.getElem_cons_succ]
                        try simp only [List.getElem_cons_zero]
                        try simp only [Act.put]
                        try simp only [List.setIfInBounds_toArray]
                        try simp only [List.set_cons_succ]
                        try simp only [List.set_cons_zero]
                        refine wpAnyH_take (i := 11) (v := ?_) rfl (by kernel_rfl) (by kernel_rfl) (by kernel_rfl) (fun _ _ _ h => h) (Or.inl ⟨by kernel_rfl, fun W hSW => by go_simp; try with_reducible rfl⟩) (by assumption) ?_
                        try simp only [List.getElem_toArray]
                        try simp only [List.getElem_cons_succ]
                        try simp only [List.getElem_cons_zero]
                        try simp only [Act.put]
                        try simp only [List.setIfInBounds_toArray]
                        try simp only [List.set_cons_succ]
                        try simp only [List.set_cons_zero]
                        refine wpAnyH_take (i := 12) (v := ?_) rfl (by kernel_rfl) (by kernel_rfl) (by kernel_rfl) (fun _ _ _ h => h) (Or.inl ⟨by kernel_rfl, fun W hSW => by go_simp; try with_reducible rfl⟩) (by assumption) ?_
                        try simp only [List.getElem_toArray]
                        try simp only [List.getElem_cons_succ]
                        try simp only [List.getElem_cons_zero]
                        try simp only [Act.put]
                        try simp only [List.setIfInBounds_toArray]
                        try simp only [List.set_cons_succ]
                        try simp only [List.set_cons_zero]
                        refine wpAnyH_take (i := 13) (v := ?_) rfl (by kernel_rfl) (by kernel_rfl) (by kernel_rfl) (fun _ _ _ h => h) (Or.inl ⟨by kernel_rfl, fun W hSW => by go_simp; try with_reducible rfl⟩) (by assumption) ?_
                        try simp only [List.getElem_toArray]
                        try simp only [List.getElem_cons_succ]
                        try simp only [List.getElem_cons_zero]
                        try simp only [Act.put]
                        try simp only [List.setIfInBounds_toArray]
                        try simp only [List.set_cons_succ]
                        try simp only [List.set_cons_zero]
                        refine wpAnyH_take (i := 14) (v := .bool false) rfl (by kernel_rfl) (by kernel_rfl) (by kernel_rfl) (fun _ _ _ h => h) (Or.inl ⟨by kernel_rfl, fun W hSW => by go_simp; try with_reducible rfl⟩) (by assumption) ?_
                        try simp only [List.getElem_toArray]
                        try simp only [List.getElem_cons_succ]
                        try simp only [List.getElem_cons_zero]
                        try simp only [Act.put]
                        try simp only [List.setIfInBounds_toArray]
                        try simp only [List.set_cons_succ]
                        try simp only [List.set_cons_zero]
                        refine wpAnyH_take (i := 15) (v := .bool false) rfl (by kernel_rfl) (by kernel_rfl) (by kernel_rfl) (fun _ _ _ h => h) (Or.inl ⟨by kernel_rfl, fun W hSW => by go_simp; try with_reducible rfl⟩) (by assumption) ?_
                        try simp only [List.getElem_toArray]
                        try simp only [List.getElem_cons_succ]
                        try simp only [List.getElem_cons_zero]
                        try simp only [Act.put]
                        try simp only [List.setIfInBounds_toArray]
                        try simp only [List.set_cons_succ]
                        try simp only [List.set_cons_zero]
                        refine wpAnyH_done (by kernel_rfl) ?_ _
                        have K8 := hid ((((Kept.refl (fun _ => False) wr).drew).trans hk8).trans hk9)
                        clear hk8 hk9 r0 r1
                        go_wp2
                        exact ⟨⟨k + 1, hklt, by go_num, HM6.out.still K8.out, HO6.out.kept K8.out⟩, by simp [intOf]; omega⟩
                      · as_aux_lemma =>
                        obtain rfl : k = tl.length := by omega
                        have hkz2 : ¬ (tl.length : Int) < (tl.length : Int) := by omega
                        have R : Hid (AckS w wr b t.1 (.slice pv nt cv) (.slice p6 lo'.length k6)) := ⟨a', _, t.2, lo', hM6, by rw [HE'.out]; exact HA'.out⟩
                        clear hM6 hO6
                        go_wp2
                        exact ⟨⟨i + 1, hlt, by go_num, _, rfl, R.out⟩, by simp [intOf]; omega⟩
      · as_aux_lemma =>
        obtain rfl : i = l.length := by omega
        have hltz : ¬ (l.length : Int) < (l.length : Int) := by omega
        obtain ⟨a, n, sl, lo, hM, _⟩ := HI.out
        have K := hid hM.mine.kept
        clear hM HI
        go_wp2_with fail
        refine (Ha.out _).mono ?_
        rintro e w9 ⟨rfl, hk9⟩
        go_wp2
        go_ret
        exact ⟨rfl, below_of (K.out.trans hk9)⟩
end Go.Proofs.Ytodgkmjiiijfpaa
