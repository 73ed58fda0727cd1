/- The walk of LcpEchoes. -/
import Derived.Test.YtklapjfljffahaaGreatLpUp
namespace Go.Proofs.YtklapjfljffahaaGreat
open Go.RowKit

def cE (e : Int) : Cf := ⟨1492, 49699, 7, e, 5, 2, 5, 3⟩
theorem askE (e : Int) : askF (cE e) = oA := askA
theorem goodE (e : Int) (h1 : 0 ≤ e) (h2 : e ≤ 100) : GoodC (cE e) := ⟨by simp [cE], by simp [cE], Or.inr (Or.inr rfl), by simp [cE], by simp [cE], h1, h2⟩
def lE0 (e : Int) : Lp := newL (cE e) [] 0
def lE1 (e : Int) : Lp := adoptL (lE0 e) oA []
theorem lE0_st (e : Int) : (lE0 e).ng.au.st = 0 := lR0_st
theorem ech_start (e : Nat) (he : 1 ≤ e) (ans : Bool) : Ech e ans 0 0 (lE1 (e : Int)) :=
  ⟨rfl, by kernel_rfl, 0, 0, by simp, he, Or.inl ⟨lR1_st, rfl, Or.inr rfl, rfl, by cases ans <;> rfl, Or.inr (by decide)⟩⟩
/-- The end of the ticks. -/
theorem ech_end {e asked : Nat} {ans : Bool} {l : Lp} (he : 1 ≤ e) (h : Ech e ans (8 * e) asked l) : asked = if ans then 8 else 3 := by
  obtain ⟨_, _, q, r, hi, hr, h⟩ := h
  have hq : q = 8 := by
    have h1 : (8 * e) / e = 8 := Nat.mul_div_cancel _ he
    have h2 : (e * q + r) / e = q := by rw [Nat.mul_add_div he, Nat.div_eq_of_lt hr]; rfl
    rw [hi] at h1
    omega
  rcases h with h | ⟨_, h⟩
  · rcases h.low with h1 | h1
    · rw [h1, h.asked, hq]; rfl
    · omega
  · rw [h.ans, h.asked]; rfl
/-- What the law asks behind each tick. -/
theorem ech_now {e asked i : Nat} {ans : Bool} {l : Lp} (h : Ech e ans i asked l) : (l.ng.au.st = 9 ∧ (ans = true ∨ i < 4 * e)) ∨ (¬ l.ng.au.st = 9 ∧ ans = false ∧ 4 * e ≤ i) := by
  obtain ⟨_, _, q, r, hi, hr, h⟩ := h
  rcases h with h | ⟨hq, h⟩
  · refine Or.inl ⟨h.st, ?_⟩
    rcases h.low with h1 | h1
    · exact Or.inl h1
    · right
      have : e * q ≤ e * 3 := Nat.mul_le_mul_left _ h1
      omega
  · refine Or.inr ⟨by have := h.st; omega, h.ans, ?_⟩
    have : e * 4 ≤ e * q := Nat.mul_le_mul_left _ hq
    omega

/-- The inner loop: nothing was sent, or one packet. -/
def Inn (w : World) (b : Nat) (e : Nat) (ans : Bool) (i n g : Nat) (c id : Int) (u : Value) (d : ByteArray) (l0 : Lp) (asked0 k asked : Nat) (W : World) : Prop :=
  ∃ m l, LMine w W b m l ∧ (k < n → RowK W g c id u d ∧ asked = asked0 ∧ l = l0) ∧ (k = n → Ech e ans (i + 1) asked l)

set_option maxHeartbeats 16000000 in
set_option maxRecDepth 100000 in
theorem lcpEchoes_walk (x : Int) (ans : Bool) (w : World) (_h1 : In64 x) : Calls Tryz.prog 6 #[.int .i64 x, .bool ans] w fun e w' => e = .returned (.bool true) ∧ Below w.heap.size w w' := by
  have Ha := hid lawAlive_any
  by_cases hx : 1 ≤ x ∧ x ≤ 20
  case neg =>
    have hc : x < 1 ∨ (¬ x < 1 ∧ 20 < x) := by omega
    clear hx
    rcases hc with h1 | ⟨h1, h2⟩
    all_goals
      go_enter Tryz.func6, Tryz.ntmps6
      go_wp2_with fail
      refine (Ha.out _).mono ?_
      rintro e w2 ⟨rfl, hk2⟩
      go_wp2
      go_ret
      exact ⟨rfl, below_kept hk2⟩
  obtain ⟨en, rfl⟩ : ∃ en : Nat, x = (en : Int) := ⟨x.toNat, by omega⟩
  have hn1 : 1 ≤ en := by omega
  have hn2 : en ≤ 20 := by omega
  have z1 : ¬ (en : Int) < 1 := by omega
  have z2 : ¬ 20 < (en : Int) := by omega
  have HCf := hid lawConfig_any
  have HOp := hid (fun W => options_any (cE en) W)
  simp only [askE] at HOp
  have HNw := hid (fun (W : World) (hb : w.heap.size ≤ W.heap.size) => lcpNew_nil (cE en) (goodE en (by omega) (by omega)) ⟨by simp [cE], by simp [cE]⟩ ⟨by simp [cE], by simp [cE]⟩ ⟨by simp [cE], by simp [cE]⟩ ⟨by simp [cE], by simp [cE]⟩ w.heap.size W hb)
  unfold cfV at HCf HOp HNw
  simp only [show cA.mru = 1492 from rfl, show cA.auth = 49699 from rfl, show cA.magic = 7 from rfl, show cA.echo = 0 from rfl, show cA.cf = 5 from rfl, show cA.tm = 2 from rfl, show cA.fails = 5 from rfl, show cA.wait = 3 from rfl] at HCf
  simp only [show (cE en).mru = 1492 from rfl, show (cE en).auth = 49699 from rfl, show (cE en).magic = 7 from rfl, show (cE en).echo = (en : Int) from rfl, show (cE en).cf = 5 from rfl, show (cE en).tm = 2 from rfl, show (cE en).fails = 5 from rfl, show (cE en).wait = 3 from rfl] at HOp HNw
  go_enter Tryz.func6, Tryz.ntmps6
  go_wp2_with fail
  refine (HCf.out _).mono ?_
  rintro e w1 ⟨rfl, hk1⟩
  have K1 := hid hk1
  clear hk1
  go_upto_region 5 with fail
  have C1 := CfgAt.new w1 (cE en)
  have ka := (Kept.refl (fun _ => False) w1).alloc (.cells #[.int .i64 1492, .int .i64 49699, .int .i64 7, .int .i64 (en : Int), .int .i64 5, .int .i64 2, .int .i64 5, .int .i64 3] 43)
  have KA := hid (K1.out.trans ka)
  simp only [show (cE en).mru = 1492 from rfl, show (cE en).auth = 49699 from rfl, show (cE en).magic = 7 from rfl, show (cE en).echo = (en : Int) from rfl, show (cE en).cf = 5 from rfl, show (cE en).tm = 2 from rfl, show (cE en).fails = 5 from rfl, show (cE en).wait = 3 from rfl] at C1
  generalize hA : w1.alloc (.cells #[.int .i64 1492, .int .i64 49699, .int .i64 7, .int .i64 (en : Int), .int .i64 5, .int .i64 2, .int .i64 5, .int .i64 3] 43) = A at *
  have HC1 := hid C1
  have x0 := C1 0 _ rfl
  have x1 := C1 1 _ rfl
  have x2 := C1 2 _ rfl
  have x3 := C1 3 _ rfl
  have x4 := C1 4 _ rfl
  have x5 := C1 5 _ rfl
  have x6 := C1 6 _ rfl
  have x7 := C1 7 _ rfl
  simp only [cE] at x0 x1 x2 x3 x4 x5 x6 x7
  have HN := hid (HNw.out A KA.out.size)
  clear hA ka C1 HNw K1
  go_wp2_with fail
  refine HN.out.mono ?_
  rintro e w2 ⟨b, m, rfl, hL, hk2, _⟩
  have M2 : Hid (LMine w w2 b m (lE0 en)) := ⟨hL, KA.out.trans hk2⟩
  have hE := eqLcpSome ⟨b, 0, none⟩
  have C2 := HC1.out.kept0 hk2
  clear x0 x1 x2 x3 x4 x5 x6 x7 hL hk2 HN
  have x0 := C2 0 _ rfl
  have x1 := C2 1 _ rfl
  have x2 := C2 2 _ rfl
  have x3 := C2 3 _ rfl
  have x4 := C2 4 _ rfl
  have x5 := C2 5 _ rfl
  have x6 := C2 6 _ rfl
  have x7 := C2 7 _ rfl
  simp only [cE] at x0 x1 x2 x3 x4 x5 x6 x7
  clear C2
  go_wp2_with fail
  refine (HOp.out _).mono ?_
  rintro e w3 ⟨u3, rfl, ho3, hk3⟩
  have M3 := hid (M2.out.still hk3)
  have HAd := hid (adoptA M3.out (lE0_st en) ho3)
  obtain ⟨p3, c3, rfl⟩ := slice_of ho3
  clear ho3 hk3 M2 x0 x1 x2 x3 x4 x5 x6 x7 HC1 KA
  go_wp2_with fail
  refine HAd.out.mono ?_
  rintro e w4 ⟨rfl, m4, hm4⟩
  have I0 : Hid (∃ m l, LMine w w4 b m l ∧ Ech en ans 0 0 l) := ⟨m4, lE1 en, hm4, ech_start en hn1 ans⟩
  clear hm4 HAd M3 HOp HCf m4
  have hw8 : IntKind.i64.wrap (8 * (en : Int)) = 8 * (en : Int) := by rw [IntKind.wrap_i64]; omega
  have hw4 : IntKind.i64.wrap (4 * (en : Int)) = 4 * (en : Int) := by rw [IntKind.wrap_i64]; omega
  go_wp2
  go_loopw [8, 9, 10, 11] (fun v8 v9 _ _ wr => ∃ i asked : Nat, i ≤ 8 * en ∧ asked ≤ i ∧ v9 = .int .i64 (i : Int) ∧ v8 = .int .i64 (asked : Int) ∧ Hid (∃ m l, LMine w wr b m l ∧ Ech en ans i asked l)) (fun _ v9 _ _ _ => 8 * en - (intOf v9).toNat)
  case atStart => exact ⟨0, 0, Nat.zero_le _, Nat.le_refl _, rfl, rfl, I0.out⟩
  case round =>
    obtain ⟨i, asked, hi, ha, rfl, rfl, HI⟩ := hrel
    clear I0
    by_cases hlt : i < 8 * en
    · have hltz : (i : Int) < 8 * (en : Int) := by omega
      obtain ⟨m, l, hM, hEc⟩ := HI.out
      have HT : Hid (∃ s, TickR en ans i asked s ∧ Calls Tryz.prog 13 #[.pointer (some ⟨b, 0, none⟩)] wr fun e w' => ∃ vo, e = .returned vo ∧ LSent wr w' w.heap.size b m s vo) := by
        obtain ⟨h1, h2, q, r, hi, hr, h⟩ := hEc
        rcases h with h | ⟨hq, h⟩
        · exact ⟨_, ech_open h1 h2 hi hr h, lcpTick_open wr hM.lcp h.st (by rw [h1]; omega) (by rw [h1, h.ticks]; omega)⟩
        · obtain ⟨s1, s2, s3⟩ := ech_shut h1 h2 hi hr hq h
          exact ⟨_, s3, lcpTick_shut wr hM.lcp s1 s2⟩
      obtain ⟨s, hR, hC⟩ := HT.out
      have HM := hid hM
      have HR := hid hR
      have HC := hid hC
      clear HT hR hC hM hEc HI
      go_wp2_with fail
      refine HC.out.mono ?_
      rintro e w5 ⟨vo, rfl, S⟩
      have HIn : ∃ (n g : Nat) (p : Option Addr) (cap : Nat) (c id : Int) (u : Value) (d : ByteArray), n ≤ 1 ∧ vo = .slice p n cap ∧ n ≤ cap ∧ (n = 1 → p = some ⟨g, 0, none⟩) ∧ Inn w b en ans i n g c id u d s.1 asked 0 asked w5 ∧ (n = 1 → ∃ pk : Pk0, pk.code = c ∧ OneP en ans i asked s.1 pk) := by
        obtain ⟨l0, pks⟩ := s
        rcases HR.out with ⟨e1, hE1⟩ | ⟨pk, e1, hO⟩
        · have e1 : pks = [] := e1
          subst e1
          obtain ⟨m', p', cap', rfl, N⟩ := lsent_zero S
          exact ⟨0, 0, p', cap', 0, 0, .slice none 0 0, ⟨#[]⟩, by decide, rfl, Nat.zero_le _, (fun h => absurd h (by decide)), ⟨m', l0, HM.out.next N, (fun h => absurd h (by omega)), fun _ => hE1⟩, fun h => absurd h (by decide)⟩
        · have e1 : pks = [pk] := e1
          subst e1
          obtain ⟨m', g', cap', u', rfl, hc', N, R', _, _, _⟩ := lsent_one S
          exact ⟨1, g', _, cap', pk.code, pk.id, u', pk.data, by decide, rfl, hc', fun _ => rfl, ⟨m', l0, HM.out.next N, fun _ => ⟨R', rfl, rfl⟩, (fun h => absurd h (by decide))⟩, fun _ => ⟨pk, rfl, hO⟩⟩
      obtain ⟨n, g, p, cap, c, id, u, d, hn, rfl, hcap, hp, hInn, hOne⟩ := HIn
      have HInn := hid hInn
      have HOne := hid hOne
      have HP := hid hp
      clear S hInn hOne HR HC HM hp
      go_wp2
      go_loopw [8, 11] (fun v8 v11 wr => ∃ k asked' : Nat, k ≤ n ∧ asked' ≤ i + 1 ∧ v11 = .int .i64 (k : Int) ∧ v8 = .int .i64 (asked' : Int) ∧ Hid (Inn w b en ans i n g c id u d s.1 asked k asked' wr)) (fun _ v11 _ => n - (intOf v11).toNat)
      case atStart => exact ⟨0, asked, Nat.zero_le _, by omega, rfl, rfl, HInn.out⟩
      case round =>
        obtain ⟨k, asked', hk, ha', rfl, rfl, HI⟩ := hrel
        clear HInn
        by_cases hkn : k < n
        · have hkz : (k : Int) < (n : Int) := by omega
          obtain rfl : k = 0 := by omega
          obtain rfl : n = 1 := by omega
          obtain rfl := HP.out rfl
          obtain ⟨m, l, hM, hB, _⟩ := HI.out
          obtain ⟨hRow, rfl, rfl⟩ := hB hkn
          obtain ⟨pk, rfl, hO⟩ := HOne.out rfl
          have r0 := hRow.r0
          have r1 := hRow.r1
          have HM := hid hM
          have HO := hid hO
          have HRow := hid hRow
          clear hM hO hRow HI hB hkn
          have hw1 : IntKind.i64.wrap ((asked' : Int) + 1) = (asked' : Int) + 1 := by rw [IntKind.wrap_i64]; omega
          by_cases hc9 : pk.code = 9
          · have hcz : (pk.code == 9) = true := by simp [hc9]
            cases ans with
            | true =>
              have hs := HO.out.said hc9 rfl
              have HTk := hid (lcpTake_rep id wr HM.out.lcp hs.1)
              have HEc := hid hs.2
              clear hs hc9 HO HRow
              go_wp2_with fail
              refine HTk.out.mono ?_
              rintro e w6 ⟨rfl, hN⟩
              have HF : Hid (Inn w b en true i 1 g pk.code id u d s.1 asked' 1 (asked' + 1) w6) := ⟨m, _, HM.out.next hN, (fun h => absurd h (by decide)), fun _ => HEc.out⟩
              clear hN HTk
              go_wp2
              exact ⟨⟨1, asked' + 1, Nat.le_refl _, by omega, by go_num, by go_num, HF.out⟩, by simp [intOf]⟩
            | false =>
              have HF : Hid (Inn w b en false i 1 g pk.code id u d s.1 asked' 1 (asked' + 1) wr) := ⟨m, _, HM.out, (fun h => absurd h (by decide)), fun _ => HO.out.still hc9 rfl⟩
              clear hc9 HO HRow HM
              go_wp2
              exact ⟨⟨1, asked' + 1, Nat.le_refl _, by omega, by go_num, by go_num, HF.out⟩, by simp [intOf]⟩
          · have hcz : (pk.code == 9) = false := by simpa using hc9
            have HF : Hid (Inn w b en ans i 1 g pk.code id u d s.1 asked' 1 asked' wr) := ⟨m, _, HM.out, (fun h => absurd h (by decide)), fun _ => HO.out.no hc9⟩
            clear hc9 HO HRow HM
            go_wp2
            exact ⟨⟨1, asked', Nat.le_refl _, ha', by go_num, rfl, HF.out⟩, by simp [intOf]⟩
        · have hkz : ¬ (k : Int) < (n : Int) := by omega
          obtain ⟨m, l, hM, _, hF⟩ := HI.out
          have hEc := hF (by omega)
          have HIF : Hid (∃ m l, LMine w wr b m l ∧ Ech en ans (i + 1) asked' l) := ⟨m, l, hM, hEc⟩
          have HSt := hid (lcpState_any wr hM.lcp)
          have hnow := ech_now hEc
          have hwi : IntKind.i64.wrap ((i : Int) + 1) = (i : Int) + 1 := by rw [IntKind.wrap_i64]; omega
          clear hF HI hM hEc HOne HP hkn
          rcases hnow with ⟨h9, hc⟩ | ⟨h9, hans, hge⟩
          · rw [h9] at HSt
            cases ans with
            | true =>
              clear hc h9
              go_wp2_with (first | (go_at_call 15; refine HSt.out.mono ?_; rintro e w' ⟨rfl, hw⟩; rw [hw]; clear hw w'))
              exact ⟨⟨i + 1, asked', by omega, ha', by go_num, rfl, HIF.out⟩, by simp [intOf]; omega⟩
            | false =>
              have hlt4 : (i : Int) + 1 < 4 * (en : Int) := by
                rcases hc with h | h
                · cases h
                · omega
              clear hc h9
              go_wp2_with (first | (go_at_call 15; refine HSt.out.mono ?_; rintro e w' ⟨rfl, hw⟩; rw [hw]; clear hw w'))
              exact ⟨⟨i + 1, asked', by omega, ha', by go_num, rfl, HIF.out⟩, by simp [intOf]; omega⟩
          · subst hans
            have h9z : (l.ng.au.st == 9) = false := by simpa using h9
            have hge4 : ¬ (i : Int) + 1 < 4 * (en : Int) := by omega
            clear h9 hge
            go_wp2_with (first | (go_at_call 15; refine HSt.out.mono ?_; rintro e w' ⟨rfl, hw⟩; rw [hw]; clear hw w'))
            exact ⟨⟨i + 1, asked', by omega, ha', by go_num, rfl, HIF.out⟩, by simp [intOf]; omega⟩
    · have hltz : ¬ (i : Int) < 8 * (en : Int) := by omega
      obtain ⟨m, l, hM, hEc⟩ := HI.out
      rw [show i = 8 * en by omega] at hEc
      have hen := ech_end hn1 hEc
      have HKw := hid hM.kept
      clear hM hEc HI hlt
      cases ans with
      | true =>
        have hen : asked = 8 := hen
        have hz : ((asked : Int) == 8) = true := by rw [hen]; rfl
        clear hen ha hi
        go_wp2_with fail
        refine (Ha.out _).mono ?_
        rintro e w6 ⟨rfl, hk6⟩
        have KF := hid (HKw.out.trans hk6)
        clear hk6
        go_wp2
        go_ret
        exact ⟨rfl, below_kept KF.out⟩
      | false =>
        have hen : asked = 3 := hen
        have hz : ((asked : Int) == 3) = true := by rw [hen]; rfl
        clear hen ha hi
        go_wp2_with fail
        refine (Ha.out _).mono ?_
        rintro e w6 ⟨rfl, hk6⟩
        have KF := hid (HKw.out.trans hk6)
        clear hk6
        go_wp2
        go_ret
        exact ⟨rfl, below_kept KF.out⟩
end Go.Proofs.YtklapjfljffahaaGreat
