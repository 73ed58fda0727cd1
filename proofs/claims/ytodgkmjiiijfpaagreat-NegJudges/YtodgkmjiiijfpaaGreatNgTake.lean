/- The contracts of takeAck, takeReject and Take. -/
import Derived.Test.YtodgkmjiiijfpaaGreatNgReq
namespace Go.Proofs.YtodgkmjiiijfpaaGreat
open Go.RowKit

def ackN (n : Ng) (p : Pk0) : Ng × List Pk0 := if sameF p.opts n.req = true then happenF ⟨p, pk00⟩ { n with mine := p.opts } 8 else (n, [])

set_option maxHeartbeats 4000000 in
set_option maxRecDepth 100000 in
theorem takeAck_any {base b : Nat} {a : Nm} {n : Ng} (p : Pk0) (v : Value) (w : World) (h : NegIn w base b a n) (hp : PkIn w b a p v) :
    Calls Tryz.prog 159 #[.pointer (some ⟨b, 0, none⟩), pkV p.code p.id v p.data] w fun e w' => ∃ vo, e = .returned vo ∧ Sent w w' base b a (ackN n p) vo := by
  unfold pkV
  obtain ⟨pv, cv, hv⟩ := hp.at_.1.slice
  have hk0 := (Kept.refl (fun _ => False) w).alloc (.cells #[.int .i64 p.code, .int .i64 p.id, v, .string p.data] 73)
  have O0 := hid (own4_new w 73 (.int .i64 p.code) (.int .i64 p.id) v (.string p.data))
  have hA := h.kept0 hk0
  have hPA := hp.kept0 hk0
  have hbase : base ≤ w.heap.size := by have := h.lo; have := h.lt; omega
  generalize hAe : w.alloc (.cells #[.int .i64 p.code, .int .i64 p.id, v, .string p.data] 73) = A at *
  have HAe := hid hAe
  have d1 := hA.n1
  obtain ⟨⟨q0, q1, q2, q3⟩, _⟩ := O0.out
  have kd := (Kept.refl (fun _ => False) A).drew
  have HJ := hid (sameO_any v a.vr p.opts n.req A.drew (hPA.kept0 kd).at_.1 (hA.kept0 kd).req.tags (by have := hPA.fine.1; omega))
  have HN := hid hA
  have HP := hid hPA
  have HK0 := hid hk0
  obtain ⟨pr, cr, hvr⟩ := slice_of hA.req
  rw [hvr] at HJ d1
  subst hv
  unfold ackN
  obtain ⟨R, hR⟩ : ∃ R, R = (if sameF p.opts n.req = true then happenF ⟨p, pk00⟩ { n with mine := p.opts } 8 else (n, [])) := ⟨_, rfl⟩
  rw [← hR]
  have HR := hid hR
  clear hAe h hp hk0 hA hPA kd hR
  cases hs : sameF p.opts n.req with
  | false =>
    rw [hs] at HJ HR
    go_enter Tryz.func159, Tryz.ntmps159
    go_upto_region 1 with fail
    rw [HAe.out]
    clear HAe
    go_wp2_with fail
    go_region_with (first | (go_at_call 178; refine HJ.out.mono ?_; rintro e w1 ⟨rfl, hk1⟩; have K1 := hid (((Kept.refl (fun _ => False) A).drew).trans hk1); clear hk1))
    all_goals
      go_wp2
      go_ret
      exact ⟨_, rfl, by rw [HR.out, if_neg (by simp)]; exact Sent.none (NNext.before0 HK0.out (NNext.of0 HN.out K1.out))⟩
  | true =>
    rw [hs] at HJ HR
    go_enter Tryz.func159, Tryz.ntmps159
    go_upto_region 1 with fail
    rw [HAe.out]
    clear HAe
    go_wp2_with fail
    go_region_with (first | (go_at_call 178; refine HJ.out.mono ?_; rintro e w1 ⟨rfl, hk1⟩; have K1 := hid (((Kept.refl (fun _ => False) A).drew).trans hk1); clear hk1))
    all_goals
      clear q0 q1 q2 q3
      obtain ⟨⟨q0, q1, q2, q3⟩, _⟩ := O0.out.kept K1.out
      have N1 := hid (NNext.of0 HN.out K1.out)
      have P1 := hid (HP.out.kept0 K1.out)
      have HC := hid (cloneO_any _ p.opts w1 P1.out.at_ (by have := P1.out.fine.1; omega))
      clear d1 HJ
      go_wp2_with fail
      refine HC.out.mono ?_
      rintro e w2 ⟨u, rfl, ho, hk2⟩
      obtain ⟨pu, cu, rfl⟩ := slice_of ho
      have NA := N1.out.neg.kept0 hk2
      have d12 := NA.n12
      have f12 := NA.fz 12
      have hs1 := K1.out.size
      have hs0 := HK0.out.size
      have NM := NA.setMine (l := p.opts) (ho.mono (by omega)) P1.out.fine (fun i hi e => by have := N1.out.neg.sn_lt i (Or.inr (Or.inr hi)); have := ho.baseB e; omega) (W0 := w1) (fun i hi => ho.baseB hi) hk2
      have NT := hid (NNext.before0 HK0.out (N1.out.trans NM))
      have P3 := hid (P1.out.step NM)
      have hnb : ∀ r, w.heap.size ≤ r → r < w1.heap.size → PkBlk w1 r → ¬ r = b := fun r _ _ hb e => (N1.out.neg.not_pk hb).1 e
      have O3 := hid (((O0.out.kept K1.out).kept hk2).keptS (kept_cell w2 b 12 (.slice pu p.opts.length cu)) (fun e => by
        have h1 := HN.out.lt
        have h2 := HN.out.lo
        have h3 : b < w.heap.size ∨ w.heap.size ≤ b := Nat.lt_or_ge _ _
        have h4 : w.heap.size = b := e
        have h5 := O0.out.1.1
        have h6 := HN.out.n0
        rw [← h4, h5] at h6
        cases h6))
      clear ho hk2 NA NM HC hnb
      go_upto_region 4 with fail
      generalize w2.setCell ⟨b, 12, none⟩ (.slice pu p.opts.length cu) = w3 at *
      clear d12 f12 q0 q1 q2 q3
      obtain ⟨⟨q0, q1, q2, q3⟩, _⟩ := O3.out
      have HH := hid (happen_any ⟨p, pk00⟩ (.slice pv p.opts.length cv) (.slice none 0 0) 8 ⟨by decide, by decide⟩ w3 NT.out.neg P3.out.cz)
      unfold czV pk00 at HH
      simp only at HH
      go_wp2_with fail
      refine HH.out.mono ?_
      rintro e w4 ⟨vo, rfl, vt, l, w5, N5, U⟩
      have HS := hid (Sent.of (NT.out.trans N5) U (fun i hi => by cases hi))
      obtain ⟨po, co, rfl⟩ := slice_of U.out.row
      clear U N5
      go_wp2
      go_ret
      exact ⟨_, rfl, by rw [HR.out]; simp only [if_true]; exact HS.out⟩

def rjN (n : Ng) (p : Pk0) : Ng × List Pk0 :=
  if p.data.size = 0 then (n, []) else if 1 ≤ (p.data.data.toList.getD 0 0).toNat ∧ (p.data.data.toList.getD 0 0).toNat ≤ 7 then happenF ⟨p, pk00⟩ n 14 else happenF ⟨p, pk00⟩ n 13

set_option maxHeartbeats 4000000 in
set_option maxRecDepth 100000 in
theorem takeReject_any {base b : Nat} {a : Nm} {n : Ng} (p : Pk0) (v : Value) (w : World) (h : NegIn w base b a n) (hp : PkIn w b a p v) :
    Calls Tryz.prog 114 #[.pointer (some ⟨b, 0, none⟩), pkV p.code p.id v p.data] w fun e w' => ∃ vo, e = .returned vo ∧ Sent w w' base b a (rjN n p) vo := by
  unfold pkV
  obtain ⟨pv, cv, hv⟩ := hp.at_.1.slice
  have hk0 := (Kept.refl (fun _ => False) w).alloc (.cells #[.int .i64 p.code, .int .i64 p.id, v, .string p.data] 73)
  have O0 := hid (own4_new w 73 (.int .i64 p.code) (.int .i64 p.id) v (.string p.data))
  have hA := h.kept0 hk0
  have hPA := hp.kept0 hk0
  generalize hAe : w.alloc (.cells #[.int .i64 p.code, .int .i64 p.id, v, .string p.data] 73) = A at *
  have HAe := hid hAe
  obtain ⟨⟨q0, q1, q2, q3⟩, _⟩ := O0.out
  have H13 := hid (happen_any ⟨p, pk00⟩ v (.slice none 0 0) 13 ⟨by decide, by decide⟩ A hA hPA.cz)
  have H14 := hid (happen_any ⟨p, pk00⟩ v (.slice none 0 0) 14 ⟨by decide, by decide⟩ A hA hPA.cz)
  unfold czV pk00 at H13 H14
  simp only at H13 H14
  have HN := hid hA
  have HK0 := hid hk0
  subst hv
  unfold rjN
  clear hAe h hp hk0 hA hPA
  by_cases h0 : p.data.size = 0
  · rw [if_pos h0]
    have hz : p.data = ⟨#[]⟩ := str_nil p.data h0
    rw [hz] at q3
    clear hz h0
    go_enter Tryz.func114, Tryz.ntmps114
    go_upto_region 1 with fail
    rw [HAe.out]
    clear HAe
    go_wp2
    go_ret
    exact ⟨_, rfl, (Sent.none (NNext.refl HN.out)).before0 HK0.out⟩
  · rw [if_neg h0]
    have hE : p.data.toList.isEmpty = false := by
      have hne := str_some h0
      cases hl : p.data.toList with
      | nil => exact absurd hl hne
      | cons x l => rfl
    have i0 := index_at p.data 0 (by omega) 0 rfl
    obtain ⟨B, hB⟩ : ∃ B, B = (p.data.data.toList.getD 0 0).toNat := ⟨_, rfl⟩
    have hB8 : B < 256 := by rw [hB]; exact UInt8.toNat_lt _
    rw [← hB] at i0 ⊢
    have hwB : IntKind.i64.wrap (B : Int) = (B : Int) := by rw [IntKind.wrap_i64]; omega
    clear hB
    by_cases h1 : 1 ≤ B
    · have h1z : (1 : Int) ≤ (B : Int) := by omega
      by_cases h7 : B ≤ 7
      · have h7z : (B : Int) ≤ 7 := by omega
        rw [if_pos ⟨h1, h7⟩]
        go_enter Tryz.func114, Tryz.ntmps114
        go_upto_region 1 with fail
        rw [HAe.out]
        clear HAe
        go_wp2_with fail
        refine H14.out.mono ?_
        rintro e w4 ⟨vo, rfl, vt, l, w5, N5, U⟩
        have HS := hid (Sent.of (NNext.before0 HK0.out N5) U (fun i hi => by cases hi))
        obtain ⟨po, co, rfl⟩ := slice_of U.out.row
        clear U N5
        go_wp2
        go_ret
        exact ⟨_, rfl, HS.out⟩
      · have h7z : ¬ (B : Int) ≤ 7 := by omega
        rw [if_neg (fun h => h7 h.2)]
        go_enter Tryz.func114, Tryz.ntmps114
        go_upto_region 1 with fail
        rw [HAe.out]
        clear HAe
        go_wp2_with fail
        refine H13.out.mono ?_
        rintro e w4 ⟨vo, rfl, vt, l, w5, N5, U⟩
        have HS := hid (Sent.of (NNext.before0 HK0.out N5) U (fun i hi => by cases hi))
        obtain ⟨po, co, rfl⟩ := slice_of U.out.row
        clear U N5
        go_wp2
        go_ret
        exact ⟨_, rfl, HS.out⟩
    · have h1z : ¬ (1 : Int) ≤ (B : Int) := by omega
      rw [if_neg (fun h => h1 h.1)]
      go_enter Tryz.func114, Tryz.ntmps114
      go_upto_region 1 with fail
      rw [HAe.out]
      clear HAe
      go_wp2_with fail
      refine H13.out.mono ?_
      rintro e w4 ⟨vo, rfl, vt, l, w5, N5, U⟩
      have HS := hid (Sent.of (NNext.before0 HK0.out N5) U (fun i hi => by cases hi))
      obtain ⟨po, co, rfl⟩ := slice_of U.out.row
      clear U N5
      go_wp2
      go_ret
      exact ⟨_, rfl, HS.out⟩
end Go.Proofs.YtodgkmjiiijfpaaGreat
