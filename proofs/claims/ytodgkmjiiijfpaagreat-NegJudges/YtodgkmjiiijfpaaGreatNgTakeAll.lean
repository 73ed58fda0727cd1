/- The contract of Take, by the packet's code; what is answered to a request's answers is a hypothesis. -/
import Derived.Test.YtodgkmjiiijfpaaGreatNgTake
namespace Go.Proofs.YtodgkmjiiijfpaaGreat
open Go.RowKit

def takeF (ans : Ng × List Pk0) (n : Ng) (p : Pk0) : Ng × List Pk0 :=
  if p.code = 1 then reqN n p
  else if p.code = 2 ∨ p.code = 3 ∨ p.code = 4 then (if n.begun = true ∧ p.id = n.last then ans else (n, []))
  else if p.code = 5 then happenF ⟨p, pk00⟩ n 10 else if p.code = 6 then happenF ⟨p, pk00⟩ n 11 else if p.code = 7 then rjN n p else happenF ⟨p, pk00⟩ n 12

/-- What a Take stands upon. -/
structure TakeA (w A : World) (base b : Nat) (a : Nm) (n : Ng) (p : Pk0) (v : Value) : Prop where
  k : Kept (fun _ => False) w A
  neg : NegIn A base b a n
  pk : PkIn A b a p v
  own : Own4 A w.heap.size (.int .i64 p.code) (.int .i64 p.id) v (.string p.data)
theorem TakeA.of {w : World} {base b : Nat} {a : Nm} {n : Ng} {p : Pk0} {v : Value} (h : NegIn w base b a n) (hp : PkIn w b a p v) : TakeA w (w.alloc (.cells #[.int .i64 p.code, .int .i64 p.id, v, .string p.data] 73)) base b a n p v := by
  have hk0 := (Kept.refl (fun _ => False) w).alloc (.cells #[.int .i64 p.code, .int .i64 p.id, v, .string p.data] 73)
  exact ⟨hk0, h.kept0 hk0, hp.kept0 hk0, own4_new w _ _ _ _ _⟩

set_option maxHeartbeats 4000000 in
set_option maxRecDepth 100000 in
theorem take_req {base b : Nat} {a : Nm} {n : Ng} (p : Pk0) (v : Value) (w : World) (h : NegIn w base b a n) (hp : PkIn w b a p v) (hc : p.code = 1) (hsr : ShortR n.peer) :
    Calls Tryz.prog 21 #[.pointer (some ⟨b, 0, none⟩), pkV p.code p.id v p.data] w fun e w' => ∃ vo, e = .returned vo ∧ Sent w w' base b a (reqN n p) vo := by
  unfold pkV
  obtain ⟨pv, cv, hv⟩ := hp.at_.1.slice
  have T := TakeA.of h hp
  generalize hAe : w.alloc (.cells #[.int .i64 p.code, .int .i64 p.id, v, .string p.data] 73) = A at *
  have HAe := hid hAe
  obtain ⟨⟨q0, q1, q2, q3⟩, _⟩ := T.own
  have n8 := T.neg.n8
  have n9 := T.neg.n9
  have HN := hid (ngNone_any A T.neg)
  have HH := hid (takeRequest_any p v A T.neg T.pk hsr)
  unfold pkV at HH
  rw [hc] at HH q0
  have HC := hid hc
  rw [hc] at hAe HAe ⊢
  clear hc
  have HT := hid T
  subst hv
  clear hAe h hp T
  go_enter Tryz.func21, Tryz.ntmps21
  go_upto_region 1 with fail
  rw [HAe.out]
  clear HAe
  go_wp2_with (first | (go_at_call 109; refine HN.out.mono ?_; rintro e w' ⟨rfl, hw⟩; rw [hw]; clear hw w'))
  refine HH.out.mono ?_
  rintro e w4 ⟨vo, rfl, HS0⟩
  have HS := hid (HS0.before0 HT.out.k)
  obtain ⟨po, co, rfl⟩ := HS0.slice
  clear HS0
  go_wp2
  go_ret
  exact ⟨_, rfl, HS.out⟩

set_option maxHeartbeats 4000000 in
set_option maxRecDepth 100000 in
theorem take_ans2 {base b : Nat} {a : Nm} {n : Ng} (p : Pk0) (v : Value) (w : World) (h : NegIn w base b a n) (hp : PkIn w b a p v) (hc : p.code = 2) (hb : n.begun = true) (hi : p.id = n.last) (ans : Ng × List Pk0) (hh : ∀ W, NegIn W base b a n → PkIn W b a p v → Calls Tryz.prog 113 #[.pointer (some ⟨b, 0, none⟩), pkV p.code p.id v p.data] W fun e w' => ∃ vo, e = .returned vo ∧ Sent W w' base b a ans vo) :
    Calls Tryz.prog 21 #[.pointer (some ⟨b, 0, none⟩), pkV p.code p.id v p.data] w fun e w' => ∃ vo, e = .returned vo ∧ Sent w w' base b a (ans) vo := by
  unfold pkV
  obtain ⟨pv, cv, hv⟩ := hp.at_.1.slice
  have T := TakeA.of h hp
  generalize hAe : w.alloc (.cells #[.int .i64 p.code, .int .i64 p.id, v, .string p.data] 73) = A at *
  have HAe := hid hAe
  obtain ⟨⟨q0, q1, q2, q3⟩, _⟩ := T.own
  have n8 := T.neg.n8
  have n9 := T.neg.n9
  have HN := hid (ngNone_any A T.neg)
  have HH := hid (fun W (k : Kept (fun _ => False) A W) => hh W (T.neg.kept0 k) (T.pk.kept0 k))
  unfold pkV at HH
  rw [hc] at HH q0
  rw [hc] at hAe HAe ⊢
  rw [hb] at n9
  rw [← hi] at n8
  have D1 := (Kept.refl (fun _ => False) A).drew
  clear hc hb hi hh
  have HT := hid T
  subst hv
  clear hAe h hp T
  go_enter Tryz.func21, Tryz.ntmps21
  go_upto_region 1 with fail
  rw [HAe.out]
  clear HAe
  go_wp2_with (first | (go_at_call 109; refine HN.out.mono ?_; rintro e w' ⟨rfl, hw⟩; rw [hw]; clear hw w'))
  go_region
  all_goals
    go_wp2_with fail
    refine (HH.out _ D1).mono ?_
    rintro e w4 ⟨vo, rfl, HS0⟩
    have HS := hid (HS0.before0 (HT.out.k.trans D1))
    obtain ⟨po, co, rfl⟩ := HS0.slice
    clear HS0
    go_wp2
    go_ret
    exact ⟨_, rfl, HS.out⟩

set_option maxHeartbeats 4000000 in
set_option maxRecDepth 100000 in
theorem take_ans3 {base b : Nat} {a : Nm} {n : Ng} (p : Pk0) (v : Value) (w : World) (h : NegIn w base b a n) (hp : PkIn w b a p v) (hc : p.code = 3) (hb : n.begun = true) (hi : p.id = n.last) (ans : Ng × List Pk0) (hh : ∀ W, NegIn W base b a n → PkIn W b a p v → Calls Tryz.prog 113 #[.pointer (some ⟨b, 0, none⟩), pkV p.code p.id v p.data] W fun e w' => ∃ vo, e = .returned vo ∧ Sent W w' base b a ans vo) :
    Calls Tryz.prog 21 #[.pointer (some ⟨b, 0, none⟩), pkV p.code p.id v p.data] w fun e w' => ∃ vo, e = .returned vo ∧ Sent w w' base b a (ans) vo := by
  unfold pkV
  obtain ⟨pv, cv, hv⟩ := hp.at_.1.slice
  have T := TakeA.of h hp
  generalize hAe : w.alloc (.cells #[.int .i64 p.code, .int .i64 p.id, v, .string p.data] 73) = A at *
  have HAe := hid hAe
  obtain ⟨⟨q0, q1, q2, q3⟩, _⟩ := T.own
  have n8 := T.neg.n8
  have n9 := T.neg.n9
  have HN := hid (ngNone_any A T.neg)
  have HH := hid (fun W (k : Kept (fun _ => False) A W) => hh W (T.neg.kept0 k) (T.pk.kept0 k))
  unfold pkV at HH
  rw [hc] at HH q0
  rw [hc] at hAe HAe ⊢
  rw [hb] at n9
  rw [← hi] at n8
  have D1 := (Kept.refl (fun _ => False) A).drew
  clear hc hb hi hh
  have HT := hid T
  subst hv
  clear hAe h hp T
  go_enter Tryz.func21, Tryz.ntmps21
  go_upto_region 1 with fail
  rw [HAe.out]
  clear HAe
  go_wp2_with (first | (go_at_call 109; refine HN.out.mono ?_; rintro e w' ⟨rfl, hw⟩; rw [hw]; clear hw w'))
  go_region
  all_goals
    go_wp2_with fail
    refine (HH.out _ D1).mono ?_
    rintro e w4 ⟨vo, rfl, HS0⟩
    have HS := hid (HS0.before0 (HT.out.k.trans D1))
    obtain ⟨po, co, rfl⟩ := HS0.slice
    clear HS0
    go_wp2
    go_ret
    exact ⟨_, rfl, HS.out⟩

set_option maxHeartbeats 4000000 in
set_option maxRecDepth 100000 in
theorem take_ans4 {base b : Nat} {a : Nm} {n : Ng} (p : Pk0) (v : Value) (w : World) (h : NegIn w base b a n) (hp : PkIn w b a p v) (hc : p.code = 4) (hb : n.begun = true) (hi : p.id = n.last) (ans : Ng × List Pk0) (hh : ∀ W, NegIn W base b a n → PkIn W b a p v → Calls Tryz.prog 113 #[.pointer (some ⟨b, 0, none⟩), pkV p.code p.id v p.data] W fun e w' => ∃ vo, e = .returned vo ∧ Sent W w' base b a ans vo) :
    Calls Tryz.prog 21 #[.pointer (some ⟨b, 0, none⟩), pkV p.code p.id v p.data] w fun e w' => ∃ vo, e = .returned vo ∧ Sent w w' base b a (ans) vo := by
  unfold pkV
  obtain ⟨pv, cv, hv⟩ := hp.at_.1.slice
  have T := TakeA.of h hp
  generalize hAe : w.alloc (.cells #[.int .i64 p.code, .int .i64 p.id, v, .string p.data] 73) = A at *
  have HAe := hid hAe
  obtain ⟨⟨q0, q1, q2, q3⟩, _⟩ := T.own
  have n8 := T.neg.n8
  have n9 := T.neg.n9
  have HN := hid (ngNone_any A T.neg)
  have HH := hid (fun W (k : Kept (fun _ => False) A W) => hh W (T.neg.kept0 k) (T.pk.kept0 k))
  unfold pkV at HH
  rw [hc] at HH q0
  rw [hc] at hAe HAe ⊢
  rw [hb] at n9
  rw [← hi] at n8
  have D1 := (Kept.refl (fun _ => False) A).drew
  clear hc hb hi hh
  have HT := hid T
  subst hv
  clear hAe h hp T
  go_enter Tryz.func21, Tryz.ntmps21
  go_upto_region 1 with fail
  rw [HAe.out]
  clear HAe
  go_wp2_with (first | (go_at_call 109; refine HN.out.mono ?_; rintro e w' ⟨rfl, hw⟩; rw [hw]; clear hw w'))
  go_region
  all_goals
    go_wp2_with fail
    refine (HH.out _ D1).mono ?_
    rintro e w4 ⟨vo, rfl, HS0⟩
    have HS := hid (HS0.before0 (HT.out.k.trans D1))
    obtain ⟨po, co, rfl⟩ := HS0.slice
    clear HS0
    go_wp2
    go_ret
    exact ⟨_, rfl, HS.out⟩

set_option maxHeartbeats 4000000 in
set_option maxRecDepth 100000 in
theorem take_not2b {base b : Nat} {a : Nm} {n : Ng} (p : Pk0) (v : Value) (w : World) (h : NegIn w base b a n) (hp : PkIn w b a p v) (hc : p.code = 2) (hb : n.begun = false) :
    Calls Tryz.prog 21 #[.pointer (some ⟨b, 0, none⟩), pkV p.code p.id v p.data] w fun e w' => ∃ vo, e = .returned vo ∧ Sent w w' base b a ((n, [])) vo := by
  unfold pkV
  obtain ⟨pv, cv, hv⟩ := hp.at_.1.slice
  have T := TakeA.of h hp
  generalize hAe : w.alloc (.cells #[.int .i64 p.code, .int .i64 p.id, v, .string p.data] 73) = A at *
  have HAe := hid hAe
  obtain ⟨⟨q0, q1, q2, q3⟩, _⟩ := T.own
  have n8 := T.neg.n8
  have n9 := T.neg.n9
  have HN := hid (ngNone_any A T.neg)
  rw [hc] at q0
  rw [hc] at hAe HAe ⊢
  rw [hb] at n9
  clear hc hb
  have HT := hid T
  subst hv
  clear hAe h hp T
  go_enter Tryz.func21, Tryz.ntmps21
  go_upto_region 1 with fail
  rw [HAe.out]
  clear HAe
  go_wp2_with (first | (go_at_call 109; refine HN.out.mono ?_; rintro e w' ⟨rfl, hw⟩; rw [hw]; clear hw w'))
  go_region
  all_goals go_wp2
  all_goals go_ret
  all_goals exact ⟨_, rfl, (Sent.none (NNext.of0 HT.out.neg (Kept.refl _ _).drew)).before0 HT.out.k⟩

set_option maxHeartbeats 4000000 in
set_option maxRecDepth 100000 in
theorem take_not2 {base b : Nat} {a : Nm} {n : Ng} (p : Pk0) (v : Value) (w : World) (h : NegIn w base b a n) (hp : PkIn w b a p v) (hc : p.code = 2) (hb : n.begun = true) (hi : ¬ p.id = n.last) :
    Calls Tryz.prog 21 #[.pointer (some ⟨b, 0, none⟩), pkV p.code p.id v p.data] w fun e w' => ∃ vo, e = .returned vo ∧ Sent w w' base b a ((n, [])) vo := by
  unfold pkV
  obtain ⟨pv, cv, hv⟩ := hp.at_.1.slice
  have T := TakeA.of h hp
  generalize hAe : w.alloc (.cells #[.int .i64 p.code, .int .i64 p.id, v, .string p.data] 73) = A at *
  have HAe := hid hAe
  obtain ⟨⟨q0, q1, q2, q3⟩, _⟩ := T.own
  have n8 := T.neg.n8
  have n9 := T.neg.n9
  have HN := hid (ngNone_any A T.neg)
  rw [hc] at q0
  rw [hc] at hAe HAe ⊢
  rw [hb] at n9
  have hiz : (p.id == n.last) = false := by simpa using hi
  clear hc hb hi
  have HT := hid T
  subst hv
  clear hAe h hp T
  go_enter Tryz.func21, Tryz.ntmps21
  go_upto_region 1 with fail
  rw [HAe.out]
  clear HAe
  go_wp2_with (first | (go_at_call 109; refine HN.out.mono ?_; rintro e w' ⟨rfl, hw⟩; rw [hw]; clear hw w'))
  go_region
  all_goals go_wp2
  all_goals go_ret
  all_goals exact ⟨_, rfl, (Sent.none (NNext.of0 HT.out.neg (Kept.refl _ _).drew)).before0 HT.out.k⟩

set_option maxHeartbeats 4000000 in
set_option maxRecDepth 100000 in
theorem take_not3b {base b : Nat} {a : Nm} {n : Ng} (p : Pk0) (v : Value) (w : World) (h : NegIn w base b a n) (hp : PkIn w b a p v) (hc : p.code = 3) (hb : n.begun = false) :
    Calls Tryz.prog 21 #[.pointer (some ⟨b, 0, none⟩), pkV p.code p.id v p.data] w fun e w' => ∃ vo, e = .returned vo ∧ Sent w w' base b a ((n, [])) vo := by
  unfold pkV
  obtain ⟨pv, cv, hv⟩ := hp.at_.1.slice
  have T := TakeA.of h hp
  generalize hAe : w.alloc (.cells #[.int .i64 p.code, .int .i64 p.id, v, .string p.data] 73) = A at *
  have HAe := hid hAe
  obtain ⟨⟨q0, q1, q2, q3⟩, _⟩ := T.own
  have n8 := T.neg.n8
  have n9 := T.neg.n9
  have HN := hid (ngNone_any A T.neg)
  rw [hc] at q0
  rw [hc] at hAe HAe ⊢
  rw [hb] at n9
  clear hc hb
  have HT := hid T
  subst hv
  clear hAe h hp T
  go_enter Tryz.func21, Tryz.ntmps21
  go_upto_region 1 with fail
  rw [HAe.out]
  clear HAe
  go_wp2_with (first | (go_at_call 109; refine HN.out.mono ?_; rintro e w' ⟨rfl, hw⟩; rw [hw]; clear hw w'))
  go_region
  all_goals go_wp2
  all_goals go_ret
  all_goals exact ⟨_, rfl, (Sent.none (NNext.of0 HT.out.neg (Kept.refl _ _).drew)).before0 HT.out.k⟩

set_option maxHeartbeats 4000000 in
set_option maxRecDepth 100000 in
theorem take_not3 {base b : Nat} {a : Nm} {n : Ng} (p : Pk0) (v : Value) (w : World) (h : NegIn w base b a n) (hp : PkIn w b a p v) (hc : p.code = 3) (hb : n.begun = true) (hi : ¬ p.id = n.last) :
    Calls Tryz.prog 21 #[.pointer (some ⟨b, 0, none⟩), pkV p.code p.id v p.data] w fun e w' => ∃ vo, e = .returned vo ∧ Sent w w' base b a ((n, [])) vo := by
  unfold pkV
  obtain ⟨pv, cv, hv⟩ := hp.at_.1.slice
  have T := TakeA.of h hp
  generalize hAe : w.alloc (.cells #[.int .i64 p.code, .int .i64 p.id, v, .string p.data] 73) = A at *
  have HAe := hid hAe
  obtain ⟨⟨q0, q1, q2, q3⟩, _⟩ := T.own
  have n8 := T.neg.n8
  have n9 := T.neg.n9
  have HN := hid (ngNone_any A T.neg)
  rw [hc] at q0
  rw [hc] at hAe HAe ⊢
  rw [hb] at n9
  have hiz : (p.id == n.last) = false := by simpa using hi
  clear hc hb hi
  have HT := hid T
  subst hv
  clear hAe h hp T
  go_enter Tryz.func21, Tryz.ntmps21
  go_upto_region 1 with fail
  rw [HAe.out]
  clear HAe
  go_wp2_with (first | (go_at_call 109; refine HN.out.mono ?_; rintro e w' ⟨rfl, hw⟩; rw [hw]; clear hw w'))
  go_region
  all_goals go_wp2
  all_goals go_ret
  all_goals exact ⟨_, rfl, (Sent.none (NNext.of0 HT.out.neg (Kept.refl _ _).drew)).before0 HT.out.k⟩

set_option maxHeartbeats 4000000 in
set_option maxRecDepth 100000 in
theorem take_not4b {base b : Nat} {a : Nm} {n : Ng} (p : Pk0) (v : Value) (w : World) (h : NegIn w base b a n) (hp : PkIn w b a p v) (hc : p.code = 4) (hb : n.begun = false) :
    Calls Tryz.prog 21 #[.pointer (some ⟨b, 0, none⟩), pkV p.code p.id v p.data] w fun e w' => ∃ vo, e = .returned vo ∧ Sent w w' base b a ((n, [])) vo := by
  unfold pkV
  obtain ⟨pv, cv, hv⟩ := hp.at_.1.slice
  have T := TakeA.of h hp
  generalize hAe : w.alloc (.cells #[.int .i64 p.code, .int .i64 p.id, v, .string p.data] 73) = A at *
  have HAe := hid hAe
  obtain ⟨⟨q0, q1, q2, q3⟩, _⟩ := T.own
  have n8 := T.neg.n8
  have n9 := T.neg.n9
  have HN := hid (ngNone_any A T.neg)
  rw [hc] at q0
  rw [hc] at hAe HAe ⊢
  rw [hb] at n9
  clear hc hb
  have HT := hid T
  subst hv
  clear hAe h hp T
  go_enter Tryz.func21, Tryz.ntmps21
  go_upto_region 1 with fail
  rw [HAe.out]
  clear HAe
  go_wp2_with (first | (go_at_call 109; refine HN.out.mono ?_; rintro e w' ⟨rfl, hw⟩; rw [hw]; clear hw w'))
  go_region
  all_goals go_wp2
  all_goals go_ret
  all_goals exact ⟨_, rfl, (Sent.none (NNext.of0 HT.out.neg (Kept.refl _ _).drew)).before0 HT.out.k⟩

set_option maxHeartbeats 4000000 in
set_option maxRecDepth 100000 in
theorem take_not4 {base b : Nat} {a : Nm} {n : Ng} (p : Pk0) (v : Value) (w : World) (h : NegIn w base b a n) (hp : PkIn w b a p v) (hc : p.code = 4) (hb : n.begun = true) (hi : ¬ p.id = n.last) :
    Calls Tryz.prog 21 #[.pointer (some ⟨b, 0, none⟩), pkV p.code p.id v p.data] w fun e w' => ∃ vo, e = .returned vo ∧ Sent w w' base b a ((n, [])) vo := by
  unfold pkV
  obtain ⟨pv, cv, hv⟩ := hp.at_.1.slice
  have T := TakeA.of h hp
  generalize hAe : w.alloc (.cells #[.int .i64 p.code, .int .i64 p.id, v, .string p.data] 73) = A at *
  have HAe := hid hAe
  obtain ⟨⟨q0, q1, q2, q3⟩, _⟩ := T.own
  have n8 := T.neg.n8
  have n9 := T.neg.n9
  have HN := hid (ngNone_any A T.neg)
  rw [hc] at q0
  rw [hc] at hAe HAe ⊢
  rw [hb] at n9
  have hiz : (p.id == n.last) = false := by simpa using hi
  clear hc hb hi
  have HT := hid T
  subst hv
  clear hAe h hp T
  go_enter Tryz.func21, Tryz.ntmps21
  go_upto_region 1 with fail
  rw [HAe.out]
  clear HAe
  go_wp2_with (first | (go_at_call 109; refine HN.out.mono ?_; rintro e w' ⟨rfl, hw⟩; rw [hw]; clear hw w'))
  go_region
  all_goals go_wp2
  all_goals go_ret
  all_goals exact ⟨_, rfl, (Sent.none (NNext.of0 HT.out.neg (Kept.refl _ _).drew)).before0 HT.out.k⟩

set_option maxHeartbeats 4000000 in
set_option maxRecDepth 100000 in
theorem take_5 {base b : Nat} {a : Nm} {n : Ng} (p : Pk0) (v : Value) (w : World) (h : NegIn w base b a n) (hp : PkIn w b a p v) (hc : p.code = 5) :
    Calls Tryz.prog 21 #[.pointer (some ⟨b, 0, none⟩), pkV p.code p.id v p.data] w fun e w' => ∃ vo, e = .returned vo ∧ Sent w w' base b a (happenF ⟨p, pk00⟩ n 10) vo := by
  unfold pkV
  obtain ⟨pv, cv, hv⟩ := hp.at_.1.slice
  have T := TakeA.of h hp
  generalize hAe : w.alloc (.cells #[.int .i64 p.code, .int .i64 p.id, v, .string p.data] 73) = A at *
  have HAe := hid hAe
  obtain ⟨⟨q0, q1, q2, q3⟩, _⟩ := T.own
  have n8 := T.neg.n8
  have n9 := T.neg.n9
  have HN := hid (ngNone_any A T.neg)
  have HH := hid (happen_any ⟨p, pk00⟩ v (.slice none 0 0) 10 ⟨by decide, by decide⟩ A T.neg T.pk.cz)
  unfold czV pk00 at HH
  simp only at HH
  have HR : Hid (({ code := 0, id := 0, opts := [], data := ⟨#[]⟩ } : Pk0) = pk00) := rfl
  rw [hc] at HH q0
  rw [hc] at hAe HAe ⊢
  clear hc
  have HT := hid T
  subst hv
  clear hAe h hp T
  go_enter Tryz.func21, Tryz.ntmps21
  go_upto_region 1 with fail
  rw [HAe.out]
  clear HAe
  go_wp2_with (first | (go_at_call 109; refine HN.out.mono ?_; rintro e w' ⟨rfl, hw⟩; rw [hw]; clear hw w'))
  refine HH.out.mono ?_
  rintro e w4 ⟨vo, rfl, vt, l, w5, N5, U⟩
  have HS := hid (Sent.of (NNext.before0 HT.out.k N5) U (fun i hi => by cases hi))
  obtain ⟨po, co, rfl⟩ := slice_of U.out.row
  clear U N5
  go_wp2
  go_ret
  exact ⟨_, rfl, HS.out⟩

set_option maxHeartbeats 4000000 in
set_option maxRecDepth 100000 in
theorem take_6 {base b : Nat} {a : Nm} {n : Ng} (p : Pk0) (v : Value) (w : World) (h : NegIn w base b a n) (hp : PkIn w b a p v) (hc : p.code = 6) :
    Calls Tryz.prog 21 #[.pointer (some ⟨b, 0, none⟩), pkV p.code p.id v p.data] w fun e w' => ∃ vo, e = .returned vo ∧ Sent w w' base b a (happenF ⟨p, pk00⟩ n 11) vo := by
  unfold pkV
  obtain ⟨pv, cv, hv⟩ := hp.at_.1.slice
  have T := TakeA.of h hp
  generalize hAe : w.alloc (.cells #[.int .i64 p.code, .int .i64 p.id, v, .string p.data] 73) = A at *
  have HAe := hid hAe
  obtain ⟨⟨q0, q1, q2, q3⟩, _⟩ := T.own
  have n8 := T.neg.n8
  have n9 := T.neg.n9
  have HN := hid (ngNone_any A T.neg)
  have HH := hid (happen_any ⟨p, pk00⟩ v (.slice none 0 0) 11 ⟨by decide, by decide⟩ A T.neg T.pk.cz)
  unfold czV pk00 at HH
  simp only at HH
  have HR : Hid (({ code := 0, id := 0, opts := [], data := ⟨#[]⟩ } : Pk0) = pk00) := rfl
  rw [hc] at HH q0
  rw [hc] at hAe HAe ⊢
  clear hc
  have HT := hid T
  subst hv
  clear hAe h hp T
  go_enter Tryz.func21, Tryz.ntmps21
  go_upto_region 1 with fail
  rw [HAe.out]
  clear HAe
  go_wp2_with (first | (go_at_call 109; refine HN.out.mono ?_; rintro e w' ⟨rfl, hw⟩; rw [hw]; clear hw w'))
  refine HH.out.mono ?_
  rintro e w4 ⟨vo, rfl, vt, l, w5, N5, U⟩
  have HS := hid (Sent.of (NNext.before0 HT.out.k N5) U (fun i hi => by cases hi))
  obtain ⟨po, co, rfl⟩ := slice_of U.out.row
  clear U N5
  go_wp2
  go_ret
  exact ⟨_, rfl, HS.out⟩

set_option maxHeartbeats 4000000 in
set_option maxRecDepth 100000 in
theorem take_7 {base b : Nat} {a : Nm} {n : Ng} (p : Pk0) (v : Value) (w : World) (h : NegIn w base b a n) (hp : PkIn w b a p v) (hc : p.code = 7) :
    Calls Tryz.prog 21 #[.pointer (some ⟨b, 0, none⟩), pkV p.code p.id v p.data] w fun e w' => ∃ vo, e = .returned vo ∧ Sent w w' base b a (rjN n p) vo := by
  unfold pkV
  obtain ⟨pv, cv, hv⟩ := hp.at_.1.slice
  have T := TakeA.of h hp
  generalize hAe : w.alloc (.cells #[.int .i64 p.code, .int .i64 p.id, v, .string p.data] 73) = A at *
  have HAe := hid hAe
  obtain ⟨⟨q0, q1, q2, q3⟩, _⟩ := T.own
  have n8 := T.neg.n8
  have n9 := T.neg.n9
  have HN := hid (ngNone_any A T.neg)
  have HH := hid (takeReject_any p v A T.neg T.pk)
  unfold pkV at HH
  rw [hc] at HH q0
  rw [hc] at hAe HAe ⊢
  clear hc
  have HT := hid T
  subst hv
  clear hAe h hp T
  go_enter Tryz.func21, Tryz.ntmps21
  go_upto_region 1 with fail
  rw [HAe.out]
  clear HAe
  go_wp2_with (first | (go_at_call 109; refine HN.out.mono ?_; rintro e w' ⟨rfl, hw⟩; rw [hw]; clear hw w'))
  refine HH.out.mono ?_
  rintro e w4 ⟨vo, rfl, HS0⟩
  have HS := hid (HS0.before0 HT.out.k)
  obtain ⟨po, co, rfl⟩ := HS0.slice
  clear HS0
  go_wp2
  go_ret
  exact ⟨_, rfl, HS.out⟩

set_option maxHeartbeats 4000000 in
set_option maxRecDepth 100000 in
theorem take_else {base b : Nat} {a : Nm} {n : Ng} (p : Pk0) (v : Value) (w : World) (h : NegIn w base b a n) (hp : PkIn w b a p v) (h1 : ¬ p.code = 1) (h2 : ¬ p.code = 2) (h3 : ¬ p.code = 3) (h4 : ¬ p.code = 4) (h5 : ¬ p.code = 5) (h6 : ¬ p.code = 6) (h7 : ¬ p.code = 7) :
    Calls Tryz.prog 21 #[.pointer (some ⟨b, 0, none⟩), pkV p.code p.id v p.data] w fun e w' => ∃ vo, e = .returned vo ∧ Sent w w' base b a (happenF ⟨p, pk00⟩ n 12) vo := by
  unfold pkV
  obtain ⟨pv, cv, hv⟩ := hp.at_.1.slice
  have T := TakeA.of h hp
  generalize hAe : w.alloc (.cells #[.int .i64 p.code, .int .i64 p.id, v, .string p.data] 73) = A at *
  have HAe := hid hAe
  obtain ⟨⟨q0, q1, q2, q3⟩, _⟩ := T.own
  have n8 := T.neg.n8
  have n9 := T.neg.n9
  have HN := hid (ngNone_any A T.neg)
  have HH := hid (happen_any ⟨p, pk00⟩ v (.slice none 0 0) 12 ⟨by decide, by decide⟩ A T.neg T.pk.cz)
  unfold czV pk00 at HH
  simp only at HH
  have HT := hid T
  subst hv
  clear hAe h hp T
  go_enter Tryz.func21, Tryz.ntmps21
  go_upto_region 1 with fail
  rw [HAe.out]
  clear HAe
  go_wp2_with (first | (go_at_call 109; refine HN.out.mono ?_; rintro e w' ⟨rfl, hw⟩; rw [hw]; clear hw w'))
  refine HH.out.mono ?_
  rintro e w4 ⟨vo, rfl, vt, l, w5, N5, U⟩
  have HS := hid (Sent.of (NNext.before0 HT.out.k N5) U (fun i hi => by cases hi))
  obtain ⟨po, co, rfl⟩ := slice_of U.out.row
  clear U N5
  go_wp2
  go_ret
  exact ⟨_, rfl, HS.out⟩

end Go.Proofs.YtodgkmjiiijfpaaGreat
