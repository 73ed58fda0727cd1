/- The law ChapAsks: it returns true for every server and every value, and leaves what was there, where digest's two tables hold what the program's text lays. -/
import Derived.Test.YtndpfcanfcbldaaDoorCaLive
import Derived.Deep.RegionHeld3
namespace Go.Proofs.YtndpfcanfcbldaaDoor
open Go.RowKit

/-- The server behind q whole waits and r ticks; and at its end. -/
def runP (srv v : ByteArray) (R K q r : Nat) : Ps := ⟨srv, (R : Int), (K : Int), v, 1, 1, (q : Int), (r : Int)⟩
def endP (srv v : ByteArray) (R K : Nat) : Ps := ⟨srv, (R : Int), (K : Int), v, 1, 3, (R : Int), (K : Int)⟩
/-- How far it has come behind j ticks; n packets were sent. -/
def AskP (srv v : ByteArray) (R K j n : Nat) (c : Ps) : Prop :=
  (∃ q r : Nat, q ≤ R ∧ r < K ∧ j = K * q + r ∧ n = 1 + q ∧ c = runP srv v R K q r) ∨ (j = K * (R + 1) ∧ n = R + 1 ∧ c = endP srv v R K)

theorem askP_tick {srv v : ByteArray} {R K j n : Nat} {c : Ps} (h : AskP srv v R K j n c) (hj : j < K * (R + 1)) : AskP srv v R K (j + 1) (n + (tickP c).1.length) (tickP c).2 ∧ doneP c = false ∧ ((tickP c).1 = [] ∨ (tickP c).1 = [⟨1, 1, layF v ++ srv⟩]) := by
  rcases h with ⟨q, r, hq, hr, rfl, rfl, rfl⟩ | ⟨rfl, _⟩
  · unfold tickP
    rw [if_pos (by rfl)]
    by_cases h1 : r + 1 < K
    · rw [if_pos (by show (r : Int) + 1 < (K : Int); omega)]
      refine ⟨Or.inl ⟨q, r + 1, hq, h1, rfl, rfl, ?_⟩, rfl, Or.inl rfl⟩
      unfold runP
      simp
    · rw [if_neg (by show ¬ (r : Int) + 1 < (K : Int); omega)]
      have hrK : r + 1 = K := by omega
      by_cases h2 : q = R
      · rw [if_pos (by show (q : Int) = (R : Int); omega)]
        subst h2
        refine ⟨Or.inr ⟨by rw [Nat.mul_add, Nat.mul_one]; omega, by show 1 + q + 0 = q + 1; omega, ?_⟩, rfl, Or.inl rfl⟩
        unfold runP endP
        simp
        omega
      · rw [if_neg (by show ¬ (q : Int) = (R : Int); omega)]
        refine ⟨Or.inl ⟨q + 1, 0, by omega, by omega, by rw [Nat.mul_add, Nat.mul_one]; omega, by show 1 + q + 1 = 1 + (q + 1); omega, ?_⟩, rfl, Or.inr rfl⟩
        unfold runP
        simp
  · omega
theorem askP_good {srv v : ByteArray} {R K j n : Nat} {c : Ps} (hs : srv.size ≤ 60) (h1 : 1 ≤ v.size) (h2 : v.size ≤ 60) (hR : R ≤ 10) (hK : 1 ≤ K ∧ K ≤ 100) (h : AskP srv v R K j n c) (hj : j < K * (R + 1)) : GoodP c := by
  rcases h with ⟨q, r, hq, hr, rfl, rfl, rfl⟩ | ⟨rfl, _⟩
  · exact ⟨hs, ⟨by simp only [runP]; omega, by simp only [runP]; omega⟩, ⟨by simp only [runP]; omega, by simp only [runP]; omega⟩, ⟨by simp [runP], by simp [runP]⟩, ⟨by simp [runP], by simp [runP]⟩, ⟨by simp only [runP]; omega, by simp only [runP]; omega⟩, ⟨by simp only [runP]; omega, by simp only [runP]; omega⟩, fun _ => ⟨by simp only [runP]; omega, h1, h2⟩⟩
  · omega
theorem askP_end {srv v : ByteArray} {R K j n : Nat} {c : Ps} (h : AskP srv v R K j n c) (hj : ¬ j < K * (R + 1)) : n = R + 1 ∧ doneP c = true ∧ (c.st == 4) = false := by
  rcases h with ⟨q, r, hq, hr, rfl, rfl, rfl⟩ | ⟨rfl, rfl, rfl⟩
  · have := Nat.mul_le_mul_left K hq
    rw [Nat.mul_add, Nat.mul_one] at hj
    omega
  · exact ⟨rfl, rfl, rfl⟩
theorem askP_most {srv v : ByteArray} {R K j n : Nat} {c : Ps} (h : AskP srv v R K j n c) : n ≤ R + 1 ∧ j ≤ K * (R + 1) := by
  rcases h with ⟨q, r, hq, hr, rfl, rfl, rfl⟩ | ⟨rfl, rfl, rfl⟩
  · have := Nat.mul_le_mul_left K hq
    rw [Nat.mul_add, Nat.mul_one]
    omega
  · exact ⟨Nat.le_refl _, Nat.le_refl _⟩

/-- The law's own server, and the packet that it sent first. -/
structure AsP (w : World) (b g : Nat) (D : ByteArray) (c : Ps) (W : World) : Prop where
  cl : PsIn W b c
  bx : Box4 W g (.int .i64 1) (.int .i64 1) (.slice none 0 0) (.string D)
  kept : Kept (fun _ => False) w W
  base : w.heap.size ≤ b
  ne : g ≠ b
theorem AsP.on {w W W' : World} {b g : Nat} {D : ByteArray} {c : Ps} (h : AsP w b g D c W) (hk : Kept (fun _ => False) W W') : AsP w b g D c W' := ⟨h.cl.kept0 hk, h.bx.kept hk (fun h => h), h.kept.trans hk, h.base, h.ne⟩
theorem AsP.go {w W W' : World} {b g : Nat} {D : ByteArray} {c c' : Ps} (h : AsP w b g D c W) (hk : Kept (fun i => i = b) W W') (hc : PsIn W' b c') : AsP w b g D c' W' :=
  ⟨hc, h.bx.kept hk h.ne, h.kept.andThen hk (fun i hi e => by have := h.base; omega), h.base, h.ne⟩

/-- What a tick tells: nothing, or the first packet anew. -/
def TickIs (w : World) (b g : Nat) (D srv v : ByteArray) (R K j n : Nat) (e : Ending) (w' : World) : Prop :=
  (∃ p cap, e = .returned (.slice p 0 cap) ∧ Hid (∃ c', AskP srv v R K (j + 1) n c' ∧ AsP w b g D c' w')) ∨
  (∃ q cap, e = .returned (.slice (some ⟨q, 0, none⟩) 1 cap) ∧ 1 ≤ cap ∧ cap ≤ maxLen ∧ Box4 w' q (.int .i64 1) (.int .i64 1) (.slice none 0 0) (.string D) ∧ Hid (∃ c', AskP srv v R K (j + 1) (n + 1) c' ∧ AsP w b g D c' w'))

theorem asP_start {w W : World} {b : Nat} {srv v : ByteArray} {R K : Nat} (hs : srv.size ≤ 60) (h1 : 1 ≤ v.size) (h2 : v.size ≤ 60) (hK : 1 ≤ K) (hc : PsIn W b (newP srv (R : Int) (K : Int))) (hk : Kept (fun _ => False) w W) (hb : w.heap.size ≤ b) :
    Calls Tryd.prog 14 #[.pointer (some ⟨b, 0, none⟩), .string v] W fun e w' => ∃ (g cap : Nat), e = .returned (.slice (some ⟨g, 0, none⟩) 1 cap) ∧ 1 ≤ cap ∧ cap ≤ maxLen ∧ AsP w b g (layF v ++ srv) (runP srv v R K 0 0) w' := by
  refine (psStart_any b _ hs ⟨Int.le_refl _, (by decide : (0 : Int) ≤ 255)⟩ v (by omega) W hc).mono ?_
  rintro e w' ⟨u, rfl, hc', ho, hk'⟩
  rw [way0 h1 h2 (by omega)] at hc' ho
  obtain ⟨g, cap, rfl, a1, a2, a3, bx⟩ := OwnQ.one ho
  exact ⟨g, cap, rfl, a1, a2, hc', bx, hk.andThen hk' (fun i hi e => by omega), hb, hc'.ne ho rfl⟩
theorem asP_tick {w W : World} {b g : Nat} {srv v : ByteArray} {R K j n : Nat} {c : Ps} (hs : srv.size ≤ 60) (h1 : 1 ≤ v.size) (h2 : v.size ≤ 60) (hR : R ≤ 10) (hK : 1 ≤ K ∧ K ≤ 100) (ha : AskP srv v R K j n c) (hj : j < K * (R + 1)) (h : AsP w b g (layF v ++ srv) c W) :
    Calls Tryd.prog 24 #[.pointer (some ⟨b, 0, none⟩)] W (TickIs w b g (layF v ++ srv) srv v R K j n) := by
  refine (psTick_any b c (askP_good hs h1 h2 hR hK ha hj) W h.cl).mono ?_
  rintro e w' ⟨u, rfl, hc', ho, hk'⟩
  obtain ⟨q1, _, q3⟩ := askP_tick ha hj
  rcases q3 with q3 | q3
  · rw [q3] at ho q1
    obtain ⟨p, cap, hv⟩ := slice_of ho
    exact Or.inl ⟨p, cap, by rw [hv]; rfl, _, q1, h.go hk' hc'⟩
  · rw [q3] at ho q1
    obtain ⟨q, cap, rfl, a1, a2, a3, bx⟩ := OwnQ.one ho
    exact Or.inr ⟨q, cap, rfl, a1, a2, bx, _, q1, h.go hk' hc'⟩

set_option maxHeartbeats 4000000 in
set_option maxRecDepth 100000 in
theorem chapAsks_in (R K : Nat) (v : ByteArray) (w : World) (h1 : 1 ≤ v.size) (h2 : v.size ≤ 60) (hR : R ≤ 10) (hK : 1 ≤ K ∧ K ≤ 30) (hT : Tables w) :
    Calls Tryd.prog 6 #[.int .i64 (R : Int), .int .i64 (K : Int), .string v] w fun e w' => e = .returned (.bool true) ∧ Below w.heap.size w w' := by
  have Ha := hid (fun W (hk : Kept (fun _ => False) w W) => aliveH_any W (tab_kept hT hk))
  have HN := hid (psNew_ok ⟨#[115, 114, 118]⟩ (by decide) (R : Int) (K : Int) ⟨by omega, by omega⟩ ⟨by omega, by omega⟩ w)
  have HS := hid (fun W b (hc : PsIn W b (newP ⟨#[115, 114, 118]⟩ (R : Int) (K : Int))) (hk : Kept (fun _ => False) w W) (hb : w.heap.size ≤ b) => asP_start (v := v) (by decide) h1 h2 hK.1 hc hk hb)
  have HTk := hid (fun W b g c j n (ha : AskP ⟨#[115, 114, 118]⟩ v R K j n c) (hj : j < K * (R + 1)) (h : AsP w b g (layF v ++ ⟨#[115, 114, 118]⟩) c W) => asP_tick (by decide) h1 h2 hR ⟨hK.1, by omega⟩ ha hj h)
  generalize layF v ++ ⟨#[115, 114, 118]⟩ = D at *
  have hK30 : ¬ (30 : Int) < (K : Int) := by omega
  have hv1 : ¬ (v.size : Int) < 1 := by omega
  have hv2 : ¬ (60 : Int) < (v.size : Int) := by omega
  have HK1 := hid hK
  have HT1 : Hid (K * (R + 1) ≤ 330) := by
    show K * (R + 1) ≤ 330
    have h1 := Nat.mul_le_mul hK.2 (show R + 1 ≤ 11 by omega)
    omega
  obtain ⟨T, hTT⟩ : ∃ T : Nat, T = K * (R + 1) := ⟨_, rfl⟩
  have hwT : wrap64 ((K : Int) * ((R : Int) + 1)) = (T : Int) := by
    have e : (K : Int) * ((R : Int) + 1) = ((K * (R + 1) : Nat) : Int) := by rw [Int.natCast_mul]; rfl
    have h3 : K * (R + 1) ≤ 330 := HT1.out
    rw [e, ← hTT]
    rw [← hTT] at h3
    unfold wrap64
    omega
  have HTT := hid hTT
  clear hTT hT hK h1 h2
  go_enter Tryd.func6, Tryd.ntmps6
  go_wp2_with fail
  refine HN.out.mono ?_
  rintro e w1 ⟨b, hb, rfl, hc, hk1⟩
  have HS1 := hid (HS.out _ _ hc hk1 hb)
  clear hc hk1 HS HN
  go_wp2_with fail
  refine HS1.out.mono ?_
  rintro e w2 ⟨g, cap, rfl, hc1, hc2, hI⟩
  have I2 := hid hI
  clear hI HS1
  go_wp2
  go_loopw [10, 11] (fun vn vi wr => ∃ (j m : Nat), vn = .int .i64 (m : Int) ∧ vi = .int .i64 (j : Int) ∧ Hid (∃ c, AskP ⟨#[115, 114, 118]⟩ v R K j m c ∧ AsP w b g D c wr)) (fun _ vi _ => K * (R + 1) - (intOf vi).toNat)
  case atStart => exact ⟨0, 1, rfl, rfl, ⟨_, Or.inl ⟨0, 0, Nat.zero_le _, HK1.out.1, rfl, rfl, rfl⟩, I2.out⟩⟩
  case round =>
    obtain ⟨j, m, rfl, rfl, HR⟩ := hrel
    obtain ⟨c, ha, hI⟩ := HR.out
    have hm := askP_most ha
    have HA1 := hid ha
    have HI1 := hid hI
    have hmz : (m : Int) ≤ 11 := by omega
    have hT330 : T ≤ 330 := by rw [HTT.out]; exact HT1.out
    clear HR ha hI I2
    by_cases hlt : j < T
    · have hlt' : j < K * (R + 1) := by rw [← HTT.out]; exact hlt
      have HDn := hid (psDone_any b c _ HI1.out.cl)
      rw [(askP_tick HA1.out hlt').2.1] at HDn
      have HT8 := hid (HTk.out _ _ _ _ _ _ HA1.out hlt' HI1.out)
      generalize (c.st == 4) = q4 at HDn
      clear hm hlt' HA1
      go_wp2_with fail
      refine HDn.out.mono ?_
      rintro e w7 ⟨rfl, hw⟩
      rw [hw]
      clear hw w7 HDn
      go_wp2_with fail
      refine HT8.out.mono ?_
      rintro e w8 h8
      clear HT8 HI1
      rcases h8 with ⟨p8, c8, rfl, HI8⟩ | ⟨q8, c8, rfl, h8a, h8b, bx8, HI8⟩
      · go_wp2
        go_loopw [10, 15] (fun vn vk wr => vn = .int .i64 (m : Int) ∧ vk = .int .i64 0 ∧ wr = w8) (fun _ _ _ => 0)
        case atStart => exact ⟨rfl, rfl, rfl⟩
        case round =>
          obtain ⟨rfl, rfl, rfl⟩ := hrel
          go_wp2
          go_roundw
          case rel => exact ⟨j + 1, m, rfl, by go_num, HI8.out⟩
          case measure => rw [← HTT.out]; simp [intOf]; omega
      · have B8 := hid bx8
        clear bx8
        go_wp2
        go_loopw [10, 15] (fun vn vk wr => (vn = .int .i64 (m : Int) ∧ vk = .int .i64 0 ∧ wr = w8) ∨ (vn = .int .i64 ((m + 1 : Nat) : Int) ∧ vk = .int .i64 1 ∧ Hid (∃ c', AskP ⟨#[115, 114, 118]⟩ v R K (j + 1) (m + 1) c' ∧ AsP w b g D c' wr))) (fun _ vk _ => 1 - (intOf vk).toNat)
        case atStart => exact Or.inl ⟨rfl, rfl, rfl⟩
        case round =>
          rcases hrel with ⟨rfl, rfl, rfl⟩ | ⟨rfl, rfl, HI9⟩
          · obtain ⟨c', ha9, hI9⟩ := HI8.out
            obtain ⟨d0, d1, d2, d3⟩ := hI9.bx
            obtain ⟨f0, f1, f2, f3⟩ := B8.out
            have HA9 := hid ha9
            have HI9 := hid hI9
            clear ha9 hI9
            go_wp2
            go_quiet (fail)
            go_wp2
            go_roundw
            case rel => exact Or.inr ⟨by go_num, rfl, ⟨c', HA9.out, HI9.out.on ((Kept.refl _ _).drewN _)⟩⟩
            case measure => simp [intOf]
          · go_wp2
            go_roundw
            case rel => exact ⟨j + 1, m + 1, rfl, by go_num, HI9.out⟩
            case measure => rw [← HTT.out]; simp [intOf]; omega
    · have hlt' : ¬ j < K * (R + 1) := by rw [← HTT.out]; exact hlt
      have HDn := hid (psDone_any b c _ HI1.out.cl)
      obtain ⟨e1, e2, e3⟩ := askP_end HA1.out hlt'
      rw [e2, e3] at HDn
      subst e1
      clear hm hlt' e2 e3 hmz
      go_wp2_with fail
      refine HDn.out.mono ?_
      rintro e w7 ⟨rfl, hw⟩
      rw [hw]
      clear hw w7 HDn
      go_wp2_with fail
      refine (Ha.out _ HI1.out.kept).mono ?_
      rintro e w8 ⟨rfl, hk8⟩
      have K8 := hid (HI1.out.kept.trans hk8)
      clear hk8
      go_wp2
      go_ret
      exact ⟨rfl, below_of K8.out⟩

set_option maxHeartbeats 1000000 in
set_option maxRecDepth 100000 in
theorem chapAsks_walk (retry wait : Int) (v : ByteArray) (w : World) (_ : -9223372036854775808 ≤ retry ∧ retry ≤ 9223372036854775807) (_ : -9223372036854775808 ≤ wait ∧ wait ≤ 9223372036854775807) (hv : v.size ≤ 140737488351232) (hT : Tables w) :
    Calls Tryd.prog 6 #[.int .i64 retry, .int .i64 wait, .string v] w fun e w' => e = .returned (.bool true) ∧ Below w.heap.size w w' := by
  have Ha := hid (fun W (hk : Kept (fun _ => False) w W) => aliveH_any W (tab_kept hT hk))
  by_cases h : 0 ≤ retry ∧ retry ≤ 10 ∧ 1 ≤ wait ∧ wait ≤ 100
  · obtain ⟨h1, h2, h3, h4⟩ := h
    by_cases h5 : 30 < wait ∨ v.size < 1 ∨ 60 < v.size
    · have HN := hid (psNew_ok ⟨#[115, 114, 118]⟩ (by decide) retry wait ⟨h1, h2⟩ ⟨h3, h4⟩ w)
      clear h1 h2 h3 h4 hT
      by_cases q1 : 30 < wait
      · go_enter Tryd.func6, Tryd.ntmps6
        go_wp2_with fail
        refine HN.out.mono ?_
        rintro e w1 ⟨b, hb, rfl, hc, hk1⟩
        go_wp2_with fail
        refine (Ha.out _ hk1).mono ?_
        rintro e w2 ⟨rfl, hk2⟩
        go_wp2
        go_ret
        exact ⟨rfl, below_of (hk1.trans hk2)⟩
      · by_cases q2 : v.size < 1
        · have q2z : (v.size : Int) < 1 := by omega
          go_enter Tryd.func6, Tryd.ntmps6
          go_wp2_with fail
          refine HN.out.mono ?_
          rintro e w1 ⟨b, hb, rfl, hc, hk1⟩
          go_wp2_with fail
          refine (Ha.out _ hk1).mono ?_
          rintro e w2 ⟨rfl, hk2⟩
          go_wp2
          go_ret
          exact ⟨rfl, below_of (hk1.trans hk2)⟩
        · have q2z : ¬ (v.size : Int) < 1 := by omega
          have q3z : (60 : Int) < (v.size : Int) := by omega
          clear h5 q2
          go_enter Tryd.func6, Tryd.ntmps6
          go_wp2_with fail
          refine HN.out.mono ?_
          rintro e w1 ⟨b, hb, rfl, hc, hk1⟩
          go_wp2_with fail
          refine (Ha.out _ hk1).mono ?_
          rintro e w2 ⟨rfl, hk2⟩
          go_wp2
          go_ret
          exact ⟨rfl, below_of (hk1.trans hk2)⟩
    · obtain ⟨R, rfl⟩ : ∃ R : Nat, retry = (R : Int) := ⟨retry.toNat, by omega⟩
      obtain ⟨K, rfl⟩ : ∃ K : Nat, wait = (K : Int) := ⟨wait.toNat, by omega⟩
      exact chapAsks_in R K v w (by omega) (by omega) (by omega) ⟨by omega, by omega⟩ hT
  · have HN := hid (psNew_any ⟨#[115, 114, 118]⟩ (by decide) retry wait w)
    have H0 := hid h
    clear h hT
    go_enter Tryd.func6, Tryd.ntmps6
    go_wp2_with fail
    refine HN.out.mono ?_
    rintro e w1 ⟨h, hk1⟩
    have h0 := H0.out
    rcases h with ⟨h3, rfl⟩ | ⟨h1, _, rfl⟩ | ⟨h1, h2, _⟩
    · exact absurd h3 (by decide)
    · clear h0 h1
      go_wp2_with fail
      refine (Ha.out _ hk1).mono ?_
      rintro e w2 ⟨rfl, hk2⟩
      go_wp2
      go_ret
      exact ⟨rfl, below_of (hk1.trans hk2)⟩
    · exact absurd h2 h0
end Go.Proofs.YtndpfcanfcbldaaDoor
