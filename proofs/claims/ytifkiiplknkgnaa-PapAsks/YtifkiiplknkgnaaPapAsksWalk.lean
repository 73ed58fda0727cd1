/- The law PapAsks: it returns true for every client, every Id and every answer, and leaves what was there. -/
import Derived.Test.YtifkiiplknkgnaaPapBackWalk
namespace Go.Proofs.Ytifkiiplknkgnaa
open Go.RowKit

/-- The client behind q whole waits and r ticks; and at its end. -/
def runC (D : ByteArray) (R K q r : Nat) : Pc := ⟨D, (R : Int), (K : Int), 1 + (q : Int), 1, (q : Int), (r : Int)⟩
def endC (D : ByteArray) (R K : Nat) : Pc := ⟨D, (R : Int), (K : Int), 1 + (R : Int), 3, (R : Int), (K : Int)⟩
/-- How far it has come behind j ticks; n packets were sent. -/
def AskAt (D : ByteArray) (R K j n : Nat) (c : Pc) : Prop :=
  (∃ q r : Nat, q ≤ R ∧ r < K ∧ j = K * q + r ∧ n = 1 + q ∧ c = runC D R K q r) ∨ (j = K * (R + 1) ∧ n = R + 1 ∧ c = endC D R K)

theorem ask_tick {D : ByteArray} {R K j n : Nat} {c : Pc} (hR : R ≤ 10) (h : AskAt D R K j n c) (hj : j < K * (R + 1)) : AskAt D R K (j + 1) (n + (tickC c).1.length) (tickC c).2 ∧ doneC c = false := by
  rcases h with ⟨q, r, hq, hr, rfl, rfl, rfl⟩ | ⟨rfl, _⟩
  · refine ⟨?_, rfl⟩
    unfold tickC
    rw [if_pos (by rfl)]
    by_cases h1 : r + 1 < K
    · rw [if_pos (by show (r : Int) + 1 < (K : Int); omega)]
      refine Or.inl ⟨q, r + 1, hq, h1, rfl, rfl, ?_⟩
      unfold runC
      simp
    · rw [if_neg (by show ¬ (r : Int) + 1 < (K : Int); omega)]
      have hrK : r + 1 = K := by omega
      by_cases h2 : q = R
      · rw [if_pos (by show (q : Int) = (R : Int); omega)]
        subst h2
        refine Or.inr ⟨by rw [Nat.mul_add, Nat.mul_one]; omega, by show 1 + q + 0 = q + 1; omega, ?_⟩
        unfold runC endC
        simp
        omega
      · rw [if_neg (by show ¬ (q : Int) = (R : Int); omega)]
        refine Or.inl ⟨q + 1, 0, by omega, by omega, by rw [Nat.mul_add, Nat.mul_one]; omega, by show 1 + q + 1 = 1 + (q + 1); omega, ?_⟩
        unfold runC askC
        simp
        omega
  · omega
theorem ask_good {D : ByteArray} {R K j n : Nat} {c : Pc} (hR : R ≤ 10) (hK : 1 ≤ K ∧ K ≤ 100) (h : AskAt D R K j n c) (hj : j < K * (R + 1)) : GoodC c := by
  rcases h with ⟨q, r, hq, hr, rfl, rfl, rfl⟩ | ⟨rfl, _⟩
  · refine ⟨?_, ?_, ?_, ?_, ?_, ?_, ?_⟩ <;> simp only [runC] <;> omega
  · omega
theorem ask_end {D : ByteArray} {R K j n : Nat} {c : Pc} (h : AskAt D R K j n c) (hj : ¬ j < K * (R + 1)) : n = R + 1 ∧ doneC c = true ∧ (c.st == 2) = false := by
  rcases h with ⟨q, r, hq, hr, rfl, rfl, rfl⟩ | ⟨rfl, rfl, rfl⟩
  · have := Nat.mul_le_mul_left K hq
    rw [Nat.mul_add, Nat.mul_one] at hj
    omega
  · exact ⟨rfl, rfl, rfl⟩
theorem ask_most {D : ByteArray} {R K j n : Nat} {c : Pc} (h : AskAt D R K j n c) : n ≤ R + 1 ∧ j ≤ K * (R + 1) := by
  rcases h with ⟨q, r, hq, hr, rfl, rfl, rfl⟩ | ⟨rfl, rfl, rfl⟩
  · have := Nat.mul_le_mul_left K hq
    rw [Nat.mul_add, Nat.mul_one]
    omega
  · exact ⟨Nat.le_refl _, Nat.le_refl _⟩

/-- The law's own client, and the packet that it sent first. -/
structure AsI (w : World) (b g : Nat) (D : ByteArray) (c : Pc) (W : World) : Prop where
  cl : ClIn W b c
  bx : Box4 W g (.int .i64 1) (.int .i64 1) (.slice none 0 0) (.string D)
  kept : Kept (fun _ => False) w W
  base : w.heap.size ≤ b
  ne : g ≠ b
theorem AsI.on {w W W' : World} {b g : Nat} {D : ByteArray} {c : Pc} (h : AsI w b g D c W) (hk : Kept (fun _ => False) W W') : AsI w b g D c W' := ⟨h.cl.kept0 hk, h.bx.kept hk (fun h => h), h.kept.trans hk, h.base, h.ne⟩
theorem AsI.go {w W W' : World} {b g : Nat} {D : ByteArray} {c c' : Pc} (h : AsI w b g D c W) (hk : Kept (fun i => i = b) W W') (hc : ClIn W' b c') : AsI w b g D c' W' :=
  ⟨hc, h.bx.kept hk h.ne, h.kept.andThen hk (fun i hi e => by have := h.base; omega), h.base, h.ne⟩

/-- New and Start. -/
theorem as_start {w W : World} {b : Nat} {D : ByteArray} {R K : Nat} (hR : R ≤ 10) (hK : 1 ≤ K ∧ K ≤ 100) (hc : ClIn W b (newC D (R : Int) (K : Int))) (hk : Kept (fun _ => False) w W) (hb : w.heap.size ≤ b) :
    Calls Try.prog 18 #[.pointer (some ⟨b, 0, none⟩)] W fun e w' => ∃ (g cap : Nat), e = .returned (.slice (some ⟨g, 0, none⟩) 1 cap) ∧ 1 ≤ cap ∧ cap ≤ maxLen ∧ AsI w b g D (runC D R K 0 0) w' := by
  refine (start_any b _ (GoodC.new ⟨by omega, by omega⟩ ⟨by omega, by omega⟩) W hc).mono ?_
  rintro e w' ⟨v, rfl, hc', ho, hk'⟩
  obtain ⟨g, cap, rfl, h1, h2, h3, bx⟩ := OwnQ.one ho
  exact ⟨g, cap, rfl, h1, h2, hc', bx, hk.andThen hk' (fun i hi e => by omega), hb, hc'.ne ho rfl⟩
theorem as_tick {w W : World} {b g : Nat} {D : ByteArray} {R K j n : Nat} {c : Pc} (hR : R ≤ 10) (hK : 1 ≤ K ∧ K ≤ 100) (ha : AskAt D R K j n c) (hj : j < K * (R + 1)) (h : AsI w b g D c W) :
    Calls Try.prog 22 #[.pointer (some ⟨b, 0, none⟩)] W fun e w' => ∃ (p : Option Addr) (m cap : Nat), e = .returned (.slice p m cap) ∧ m ≤ 1 ∧ Hid (∃ c', AskAt D R K (j + 1) (n + m) c' ∧ AsI w b g D c' w') := by
  refine (tick_any b c (ask_good hR hK ha hj) W h.cl).mono ?_
  rintro e w' ⟨v, rfl, hc', ho, hk'⟩
  obtain ⟨p, cap, hv⟩ := slice_of ho
  refine ⟨p, _, cap, by rw [hv], ?_, ⟨_, (ask_tick hR ha hj).1, h.go hk' hc'⟩⟩
  unfold tickC
  split
  · split
    · exact Nat.zero_le _
    · split
      · exact Nat.zero_le _
      · exact Nat.le_refl _
  · exact Nat.zero_le _

set_option maxHeartbeats 2000000 in
set_option maxRecDepth 100000 in
theorem papAsks_in (n s : ByteArray) (R K : Nat) (id : Int) (good : Bool) (w : World) (n6 : n.size ≤ 60) (s6 : s.size ≤ 60) (hR : R ≤ 10) (hK : 1 ≤ K ∧ K ≤ 30) :
    Calls Try.prog 5 #[.string n, .string s, .int .i64 (R : Int), .int .i64 (K : Int), .int .i64 id, .bool good] w fun e w' => e = .returned (.bool true) ∧ Below w.heap.size w w' := by
  have Ha := hid aliveP_any
  have HN := hid (newC_ok n s n6 s6 (R : Int) (K : Int) ⟨by omega, by omega⟩ ⟨by omega, by omega⟩ w)
  generalize layF n ++ layF s = D at *
  have hK30 : ¬ (30 : Int) < (K : Int) := by omega
  have HA := hid (fun W => answer_any 1 1 none 0 0 D good W)
  obtain ⟨q0, hq0⟩ : ∃ q0, q0 = answerQ 1 good := ⟨_, rfl⟩
  rw [← hq0] at HA
  obtain ⟨qc, qi, qd⟩ := q0
  have hqc : (if good then 2 else 3) = qc := by cases good <;> simp [answerQ] at hq0 <;> simp [hq0]
  unfold pkV pqV at HA
  simp only at HA
  by_cases hid' : id = 1
  · subst hid'
    have HT := hid (fun b g W (h : AsI w b g D (runC D R K 0 0) W) => takeC_any b _ qc 1 none 0 0 qd W h.cl)
    have HD := hid (fun b W (h : ClIn W b (takeC (runC D R K 0 0) qc 1)) => done_any b _ W h)
    have hd1 : doneC (takeC (runC D R K 0 0) qc 1) = true := by subst hqc; cases good <;> rfl
    have hd2 : ((takeC (runC D R K 0 0) qc 1).st == 2) = good := by subst hqc; cases good <;> rfl
    rw [hd1, hd2] at HD
    generalize takeC (runC D R K 0 0) qc 1 = c2 at *
    unfold pkV at HT
    clear hqc hq0 hd1 hd2
    go_enter Try.func5, Try.ntmps5
    go_wp2_with fail
    refine HN.out.mono ?_
    rintro e w1 ⟨b, hb, rfl, hc, hk1⟩
    have HS := hid (as_start hR ⟨hK.1, by omega⟩ hc hk1 hb)
    clear hc hk1
    go_wp2_with fail
    refine HS.out.mono ?_
    rintro e w2 ⟨g, cap, rfl, hc1, hc2, hI⟩
    have I2 := hid hI
    obtain ⟨d0, d1, d2, d3⟩ := hI.bx
    clear hI HS
    go_wp2_with fail
    refine (HA.out _).mono ?_
    rintro e w3 ⟨rfl, hk3⟩
    have I3 := hid (I2.out.on hk3)
    clear hk3 I2 d0 d1 d2 d3
    have k4 := (Kept.refl (fun _ => False) w3).alloc (.cells #[.int .i64 qc, .int .i64 1, .slice none 0 0, .string qd] 37)
    have I4 := hid (I3.out.on k4)
    obtain ⟨f0, f1, f2, f3⟩ := (PkAt.new w3 qc 1 (.slice none 0 0) qd).cells
    clear k4
    go_wp2_with fail
    refine (HT.out _ _ _ I4.out).mono ?_
    rintro e w5 ⟨rfl, hc5, hk5⟩
    have I5 := hid (I4.out.go hk5 hc5)
    clear hk5 hc5 I4 I3 f0 f1 f2 f3 HT HA
    go_wp2_with fail
    refine (HD.out _ _ I5.out.cl).mono ?_
    rintro e w6 ⟨rfl, hk6⟩
    have I6 := hid (I5.out.on hk6)
    obtain ⟨d0, d1, d2, d3⟩ := I6.out.bx
    clear hk6 I5 HD
    go_wp2_with fail
    refine (Ha.out _).mono ?_
    rintro e w7 ⟨rfl, hk7⟩
    have K7 := hid (I6.out.kept.trans hk7)
    clear hk7 I6
    go_wp2
    go_ret
    exact ⟨rfl, below_of K7.out⟩
  · have HT := hid (fun b g W (h : AsI w b g D (runC D R K 0 0) W) => takeC_any b _ qc id none 0 0 qd W h.cl)
    have ht : takeC (runC D R K 0 0) qc id = runC D R K 0 0 := by
      unfold takeC
      rw [if_neg (fun h => hid' (by have := h.2; simpa [runC] using this))]
    rw [ht] at HT
    unfold pkV at HT
    have HD := hid (fun b c W (h : ClIn W b c) => done_any b c W h)
    have HD0 := hid (fun b W (h : ClIn W b (runC D R K 0 0)) => done_any b _ W h)
    rw [show doneC (runC D R K 0 0) = false from rfl] at HD0
    have HK1 := hid hK
    have HT1 : Hid (K * (R + 1) ≤ 330) := by
      show K * (R + 1) ≤ 330
      have h1 := Nat.mul_le_mul hK.2 (show R + 1 ≤ 11 by omega)
      omega
    obtain ⟨T, hTT⟩ : ∃ T : Nat, T = K * (R + 1) := ⟨_, rfl⟩
    have hwT : wrap64 ((K : Int) * ((R : Int) + 1)) = (T : Int) := by
      have e : (K : Int) * ((R : Int) + 1) = ((K * (R + 1) : Nat) : Int) := by rw [Int.natCast_mul]; rfl
      have h3 : K * (R + 1) ≤ 330 := HT1.out
      rw [e, ← hTT]
      rw [← hTT] at h3
      unfold wrap64
      omega
    have HTT := hid hTT
    clear hTT
    have hne : (id == 1) = false := by simpa using hid'
    have hK30d : decide ((30 : Int) < (K : Int)) = false := by simp; omega
    clear hqc hq0 ht hid' hK
    go_enter Try.func5, Try.ntmps5
    go_wp2_with fail
    refine HN.out.mono ?_
    rintro e w1 ⟨b, hb, rfl, hc, hk1⟩
    have HS := hid (as_start hR ⟨HK1.out.1, by have := HK1.out.2; omega⟩ hc hk1 hb)
    clear hc hk1
    go_wp2_with fail
    refine HS.out.mono ?_
    rintro e w2 ⟨g, cap, rfl, hc1, hc2, hI⟩
    have I2 := hid hI
    obtain ⟨d0, d1, d2, d3⟩ := hI.bx
    clear hI HS
    go_wp2_with fail
    refine (HA.out _).mono ?_
    rintro e w3 ⟨rfl, hk3⟩
    have I3 := hid (I2.out.on hk3)
    clear hk3 I2 d0 d1 d2 d3
    have k4 := (Kept.refl (fun _ => False) w3).alloc (.cells #[.int .i64 qc, .int .i64 id, .slice none 0 0, .string qd] 37)
    have I4 := hid (I3.out.on k4)
    obtain ⟨f0, f1, f2, f3⟩ := (PkAt.new w3 qc id (.slice none 0 0) qd).cells
    clear k4
    go_wp2_with fail
    refine (HT.out _ _ _ I4.out).mono ?_
    rintro e w5 ⟨rfl, hc5, hk5⟩
    have I5 := hid (I4.out.go hk5 hc5)
    clear hk5 hc5 I4 I3 f0 f1 f2 f3 HT HA
    go_wp2_with fail
    refine (HD0.out _ _ I5.out.cl).mono ?_
    rintro e w6 ⟨rfl, hk6⟩
    have I6 := hid (I5.out.on hk6)
    obtain ⟨d0, d1, d2, d3⟩ := I6.out.bx
    clear hk6 I5 HD0
    go_wp2
    clear d0 d1 d2 d3
    go_loopw [17, 19, 20] (fun vd vn vi wr => ∃ (j m : Nat), vd = .bool false ∧ vn = .int .i64 (m : Int) ∧ vi = .int .i64 (j : Int) ∧ Hid (∃ c, AskAt D R K j m c ∧ AsI w b g D c wr)) (fun _ _ vi _ => K * (R + 1) - (intOf vi).toNat)
    case atStart => exact ⟨0, 1, rfl, rfl, rfl, ⟨_, Or.inl ⟨0, 0, Nat.zero_le _, HK1.out.1, rfl, rfl, rfl⟩, I6.out⟩⟩
    case round =>
      obtain ⟨j, m, rfl, rfl, rfl, HR⟩ := hrel
      obtain ⟨c, ha, hI⟩ := HR.out
      have hm := ask_most ha
      have HA1 := hid ha
      have HI1 := hid hI
      have hmz : (m : Int) ≤ 11 := by omega
      have hT330 : T ≤ 330 := by rw [HTT.out]; exact HT1.out
      clear HR ha hI I6
      by_cases hlt : j < T
      · have hlt' : j < K * (R + 1) := by rw [← HTT.out]; exact hlt
        have HDn := hid (done_any b c _ HI1.out.cl)
        rw [(ask_tick hR HA1.out hlt').2] at HDn
        have HTk := hid (fun W (h : AsI w b g D c W) => as_tick hR ⟨HK1.out.1, by have := HK1.out.2; omega⟩ HA1.out hlt' h)
        clear hm hlt'
        go_wp2_with fail
        refine HDn.out.mono ?_
        rintro e w7 ⟨rfl, hk7⟩
        have I7 := hid (HI1.out.on hk7)
        clear hk7 HI1 HDn
        go_wp2_with fail
        refine (HTk.out _ I7.out).mono ?_
        rintro e w8 ⟨p8, m8, c8, rfl, hm8, HI8⟩
        clear HTk I7
        go_wp2
        go_roundw
        case rel => exact ⟨j + 1, m + m8, rfl, by go_num, by go_num, HI8.out⟩
        case measure => rw [← HTT.out]; simp [intOf]; omega
      · have hlt' : ¬ j < K * (R + 1) := by rw [← HTT.out]; exact hlt
        have HDn := hid (done_any b c _ HI1.out.cl)
        obtain ⟨e1, e2, e3⟩ := ask_end HA1.out hlt'
        rw [e2, e3] at HDn
        subst e1
        clear hm hlt' e2 e3 hmz
        go_wp2_with fail
        refine HDn.out.mono ?_
        rintro e w7 ⟨rfl, hk7⟩
        have K7 := hid (HI1.out.kept.trans hk7)
        clear hk7 HI1 HDn
        go_wp2_with fail
        refine (Ha.out _).mono ?_
        rintro e w8 ⟨rfl, hk8⟩
        have K8 := hid (K7.out.trans hk8)
        clear hk8 K7
        go_wp2
        go_ret
        exact ⟨rfl, below_of K8.out⟩

set_option maxHeartbeats 1000000 in
set_option maxRecDepth 100000 in
theorem papAsks_walk (n s : ByteArray) (retry wait id : Int) (good : Bool) (w : World) (hn : n.size ≤ 140737488351232) (hs : s.size ≤ 140737488351232) (_ : -9223372036854775808 ≤ retry ∧ retry ≤ 9223372036854775807) (_ : -9223372036854775808 ≤ wait ∧ wait ≤ 9223372036854775807) (_ : -9223372036854775808 ≤ id ∧ id ≤ 9223372036854775807) :
    Calls Try.prog 5 #[.string n, .string s, .int .i64 retry, .int .i64 wait, .int .i64 id, .bool good] w fun e w' => e = .returned (.bool true) ∧ Below w.heap.size w w' := by
  have Ha := hid aliveP_any
  by_cases h : (putReqF n s).2 = 0 ∧ (0 ≤ retry ∧ retry ≤ 10 ∧ 1 ≤ wait ∧ wait ≤ 100)
  · obtain ⟨n6, s6, e0⟩ := putReqF_ok h.1
    obtain ⟨_, h1, h2, h3, h4⟩ := h
    by_cases h5 : 30 < wait
    · have HN := hid (newC_ok n s n6 s6 retry wait ⟨h1, h2⟩ ⟨h3, h4⟩ w)
      clear e0
      generalize layF n ++ layF s = D at *
      go_enter Try.func5, Try.ntmps5
      go_wp2_with fail
      refine HN.out.mono ?_
      rintro e w1 ⟨b, hb, rfl, hc, hk1⟩
      go_wp2_with fail
      refine (Ha.out _).mono ?_
      rintro e w2 ⟨rfl, hk2⟩
      go_wp2
      go_ret
      exact ⟨rfl, below_of (hk1.trans hk2)⟩
    · obtain ⟨R, rfl⟩ : ∃ R : Nat, retry = (R : Int) := ⟨retry.toNat, by omega⟩
      obtain ⟨K, rfl⟩ : ∃ K : Nat, wait = (K : Int) := ⟨wait.toNat, by omega⟩
      exact papAsks_in n s R K id good w n6 s6 (by omega) ⟨by omega, by omega⟩
  · have HN := hid (newC_any n s hn hs retry wait w)
    have H0 := hid h
    clear h
    go_enter Try.func5, Try.ntmps5
    go_wp2_with fail
    refine HN.out.mono ?_
    rintro e w1 ⟨h, hk1⟩
    have h0 := H0.out
    rcases h with ⟨E, h2, h3, rfl⟩ | ⟨h1, _, rfl⟩ | ⟨h1, h2, _⟩
    · have hE : (E != 0) = true := by simpa using h2
      clear h2 h3 h0
      go_wp2_with fail
      refine (Ha.out _).mono ?_
      rintro e w2 ⟨rfl, hk2⟩
      go_wp2
      go_ret
      exact ⟨rfl, below_of (hk1.trans hk2)⟩
    · clear h0 h1
      go_wp2_with fail
      refine (Ha.out _).mono ?_
      rintro e w2 ⟨rfl, hk2⟩
      go_wp2
      go_ret
      exact ⟨rfl, below_of (hk1.trans hk2)⟩
    · exact absurd ⟨h1, h2⟩ h0
end Go.Proofs.Ytifkiiplknkgnaa
