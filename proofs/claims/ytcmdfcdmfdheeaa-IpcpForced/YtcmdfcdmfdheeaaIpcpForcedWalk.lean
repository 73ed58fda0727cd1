/- The walk of IpcpForced. -/
import Derived.Test.YtcmdfcdmfdheeaaFoIn
import Derived.Test.YtcmdfcdmfdheeaaIpIn
import Derived.Test.YtcmdfcdmfdheeaaNaIn
import Derived.Deep.CutRange
import Derived.Deep.CutBlock
namespace Go.Proofs.Ytcmdfcdmfdheeaa
open Go.RowKit

/-- The law's server under way. -/
structure ForM (A W : World) (b : Nat) (a : Nm) (x : Ad) (n : Ng) : Prop where
  mine : NMine A W b a n
  must : MustAt W a.vu []
  peer : n.peer = [ruleA 3 x x]
theorem ForM.next {A W W' : World} {b : Nat} {a a' : Nm} {x : Ad} {n n' : Ng} (h : ForM A W b a x n) (k : NNext W W' A.heap.size b a a' n') (hp : n'.peer = [ruleA 3 x x]) : ForM A W' b a' x n' := ⟨h.mine.next k, h.must.step h.mine.neg k, hp⟩
theorem ForM.still {A W W' : World} {b : Nat} {a : Nm} {x : Ad} {n : Ng} (h : ForM A W b a x n) (hk : Kept (fun _ => False) W W') : ForM A W' b a x n := ⟨h.mine.still hk, h.must.kept0 hk, h.peer⟩

def aF1 : Ad := ⟨1, 0, 0, 0⟩
theorem stepF1 (x : Ad) : doN (serverN aF1 x ad0 ad0 10 2 3 3) 2 = ({ serverN aF1 x ad0 ad0 10 2 3 3 with au := ⟨10, 2, 1, 0⟩ }, []) := by kernel_rfl
theorem stepF2 (x : Ad) : doN { serverN aF1 x ad0 ad0 10 2 3 3 with au := ⟨10, 2, 1, 0⟩ } 0 = ({ serverN aF1 x ad0 ad0 10 2 3 3 with au := ⟨10, 2, 6, 9⟩, id := 1, last := 1, begun := true }, [⟨1, 1, [⟨3, adB aF1⟩], ⟨#[]⟩⟩]) := by kernel_rfl

/-- What came of a Take: the packets in their row, each ack with that address alone. -/
structure OutF (W : World) (x : Ad) (po : Option Addr) (co : Nat) (lo : List (Pk0 × Value)) : Prop where
  cells : ∀ (k : Nat) (q : Pk0 × Value), lo[k]? = some q → ∃ g, po = some ⟨g, 0, none⟩ ∧ lo.length ≤ co ∧ W.cell? ⟨g, k * 4, none⟩ = some (.int .i64 q.1.code) ∧ W.cell? ⟨g, k * 4 + 2, none⟩ = some q.2
  tags : ∀ q ∈ lo, TagsAt W q.2 q.1.opts
  only : ∀ q ∈ lo, q.1.code = 2 → ∀ o ∈ q.1.opts, o.type = 3 ∧ o.value = adB x
theorem OutF.kept {W W' : World} {x : Ad} {po : Option Addr} {co : Nat} {lo : List (Pk0 × Value)} (h : OutF W x po co lo) (hk : Kept (fun _ => False) W W') : OutF W' x po co lo := by
  refine ⟨fun k q hq => ?_, fun q hq => (h.tags q hq).kept0 hk, h.only⟩
  obtain ⟨g, h1, h2, h3, h4⟩ := h.cells k q hq
  exact ⟨g, h1, h2, (hk.cell (p := ⟨g, k * 4, none⟩) (lt_of_cell h3) id).trans h3, (hk.cell (p := ⟨g, k * 4 + 2, none⟩) (lt_of_cell h4) id).trans h4⟩

theorem TagsAt.len_le {W : World} {v : Value} {l : List Tg} (h : TagsAt W v l) : l.length ≤ maxLen := by
  rcases h with ⟨rfl, _⟩ | ⟨g, o, cap, e, h1, h2, _⟩
  · exact Nat.zero_le _
  · omega
/-- One option of a list that is read. -/
theorem TagsAt.one {W : World} {g o n cap : Nat} {l : List Tg} {j : Nat} {y : Tg} (h : TagsAt W (.slice (some ⟨g, o, none⟩) n cap) l) (hj : l[j]? = some y) : TagsAt W (.slice (some ⟨g, o + j * 2, none⟩) 1 (cap - j)) [y] := by
  have hlt := (List.getElem?_eq_some_iff.1 hj).1
  rcases h with ⟨e, _⟩ | ⟨g', o', cap', e, h1, h2, hc⟩
  · rw [e] at hlt; simp at hlt
  · simp only [Value.slice.injEq, Option.some.injEq, Addr.mk.injEq, and_true] at e
    obtain ⟨⟨rfl, rfl⟩, rfl, rfl⟩ := e
    refine Or.inr ⟨g, o + j * 2, cap - j, rfl, by show 1 ≤ _; omega, by omega, fun k z hk => ?_⟩
    cases k with
    | succ k => simp at hk
    | zero =>
      obtain rfl : y = z := by simpa using hk
      have := hc j y hj
      simp only [Nat.zero_mul, Nat.add_zero]
      exact this

set_option maxHeartbeats 16000000 in
set_option maxRecDepth 100000 in
theorem ipcpForced_walk (x : Ad) (v : Value) (l : List Op11) (w : World) (hv : OpsAt w v l) (hl : l.length ≤ maxLen) (hin : ∀ x ∈ l, OpIn w x) :
    Calls Try.prog 5 #[adV x, v] w fun e w' => e = .returned (.bool true) ∧ Below w.heap.size w w' := by
  have k0 := (Kept.refl (fun _ => False) w).alloc (.cells #[.int .u8 (x.a.toNat : Int), .int .u8 (x.b.toNat : Int), .int .u8 (x.c.toNat : Int), .int .u8 (x.d.toNat : Int)] 24)
  have hin0 : ∀ y ∈ l, OpIn (w.alloc (.cells #[.int .u8 (x.a.toNat : Int), .int .u8 (x.b.toNat : Int), .int .u8 (x.c.toNat : Int), .int .u8 (x.d.toNat : Int)] 24)) y := fun y hy => by
    have h := hin y hy
    have f : ∀ {u : Value} {m : List Tg}, OptsIn w u m → OptsIn (w.alloc (.cells #[.int .u8 (x.a.toNat : Int), .int .u8 (x.b.toNat : Int), .int .u8 (x.c.toNat : Int), .int .u8 (x.d.toNat : Int)] 24)) u m := fun q => { q with at_ := q.at_.kept0 k0 }
    exact ⟨f h.o, f h.a, f h.b, h.num, h.data, h.so, h.sa, h.sb⟩
  have HSm := hid (lawSmall_any v l _ (RowsAt.kept0 hv k0) hl hin0)
  obtain ⟨p, cap, rfl⟩ := hv.slice
  have HX := hid (four4_new w 24 (.int .u8 (x.a.toNat : Int)) (.int .u8 (x.b.toNat : Int)) (.int .u8 (x.c.toNat : Int)) (.int .u8 (x.d.toNat : Int)))
  have HAl := hid lawAlive_any
  have HSv := hid (server_any aF1 x ad0 ad0 10 2 3 3 ⟨by decide, by decide⟩ ⟨by decide, by decide⟩ ⟨by decide, by decide⟩ ⟨by decide, by decide⟩)
  rw [show adV aF1 = .agg #[.int .u8 1, .int .u8 0, .int .u8 0, .int .u8 0] from rfl, show adV ad0 = .agg #[.int .u8 0, .int .u8 0, .int .u8 0, .int .u8 0] from rfl] at HSv
  have HE := hid (ad_self x)
  unfold adV at HSv HE ⊢
  have Hat := hid (fun (j : Nat) (y : Op11) (hj : l[j]? = some y) (W : World) (hW : Kept (fun _ => False) w W) => (RowsAt.kept0 hv hW).at hj)
  have HIn := hid hin0
  generalize hA : w.alloc (.cells #[.int .u8 (x.a.toNat : Int), .int .u8 (x.b.toNat : Int), .int .u8 (x.c.toNat : Int), .int .u8 (x.d.toNat : Int)] 24) = A at *
  have HA := hid hA
  have K0 := hid k0
  clear hA k0 hin0 hin hv hl
  go_enter Try.func5, Try.ntmps5
  go_upto_region 1 with fail
  rw [HA.out]
  clear HA
  go_wp2_with fail
  refine HSm.out.mono ?_
  rintro e w1 ⟨B, rfl, hsm, hk1⟩
  have K1 := hid hk1
  have HSM := hid hsm
  clear hk1 hsm HSm
  cases B with
  | false =>
    go_wp2_with fail
    refine (HAl.out _).mono ?_
    rintro e w2 ⟨rfl, hk2⟩
    have KF := hid ((K0.out.trans K1.out).trans hk2)
    clear hk2
    go_wp2
    go_ret
    exact ⟨rfl, KF.out.below (Nat.le_refl _) (fun _ h => h.elim)⟩
  | true =>
    obtain ⟨h200, hli⟩ := HSM.out rfl
    have HLi := hid hli
    clear hli HSM
    obtain ⟨⟨x0, x1, x2, x3⟩, _⟩ := HX.out.kept K1.out id
    go_wp2_with fail
    refine (HSv.out _).mono ?_
    rintro e w3 ⟨b, rfl, a3, hn, hm, hk3⟩
    have M3 : Hid (ForM A w3 b a3 x (serverN aF1 x ad0 ad0 10 2 3 3)) := ⟨⟨hn.lower K1.out.size, K1.out.trans hk3⟩, hm, by show givesF x ad0 ad0 = _; kernel_rfl⟩
    have hE := eqNegSome ⟨b, 0, none⟩
    clear hn hm hk3 HSv x0 x1 x2 x3
    have HD := hid (ngDo_any 2 w3 M3.out.mine.neg)
    rw [stepF1] at HD
    go_wp2_with fail
    refine HD.out.mono ?_
    rintro e w4 ⟨vo, rfl, S4⟩
    obtain ⟨a4, p4, c4, rfl, N4⟩ := sent_zero S4
    have M4 := hid (M3.out.next N4 M3.out.peer)
    clear S4 N4 HD
    have HD := hid (ngDo_any 0 w4 M4.out.mine.neg)
    rw [stepF2] at HD
    go_wp2_with fail
    refine HD.out.mono ?_
    rintro e w5 ⟨vo, rfl, S5⟩
    obtain ⟨a5, g5, c5, u5, rfl, hc5, N5, _, _, _, _⟩ := sent_one S5
    have M5 : Hid (∃ a n, ForM A w5 b a x n) := ⟨_, _, M4.out.next N5 M3.out.peer⟩
    clear S5 N5 HD M4 M3 hE
    go_wp2
    go_loopw [7] (fun v7 wr => ∃ i : Nat, i ≤ l.length ∧ v7 = .int .i64 (i : Int) ∧ Hid (∃ a n, ForM A wr b a x n)) (fun v7 _ => l.length - (intOf v7).toNat)
    case atStart => exact ⟨0, Nat.zero_le _, rfl, M5.out⟩
    case round =>
      obtain ⟨i, hi, rfl, HM⟩ := hrel
      clear M5
      by_cases hlt : i < l.length
      · have hltz : (i : Int) < (l.length : Int) := by omega
        obtain ⟨y, hy⟩ : ∃ y, l[i]? = some y := ⟨l[i], by simp [hlt]⟩
        obtain ⟨a, n, M⟩ := HM.out
        have hym := List.mem_of_getElem? hy
        have hio := HIn.out y hym
        have hPk : PkIn wr b a y.p y.vo := arg_pk M.mine hio (HLi.out y hym).1
        have HTk := hid (takeM_any (ms := []) y.p y.vo wr M.mine.neg hPk M.must (by rw [M.peer]; exact fun r hr => by rw [List.mem_singleton.1 hr]; show (adB x).size ≤ _; rw [adB_size]; omega))
        have HOn := hid (only_take x n M.peer y.p)
        obtain ⟨g, o, ep, hcap, hc⟩ := Hat.out i y hy wr (K0.out.trans M.mine.kept)
        obtain ⟨pv, cv, ev⟩ := hio.o.at_.1.slice
        have HMn := hid M
        rw [ev] at HTk
        have d2 := hc 2 _ rfl
        have d3 := hc 3 _ rfl
        have d4 := hc 4 _ rfl
        have d5 := hc 5 _ rfl
        rw [ev] at d4
        subst ep
        unfold pkV at HTk
        clear hc hio hPk hy hym M HM
        go_wp2_with fail
        refine HTk.out.mono ?_
        rintro e w6 ⟨vo, rfl, ⟨a', lo, S, elo⟩⟩
        obtain ⟨po, co, evo⟩ := slice_of S.row
        have HO : Hid (OutF w6 x po co lo) := by
          refine ⟨fun k q hq => ?_, fun q hq => (S.opts q hq).tags, fun q hq h2 => HOn.out.2 q.1 (by rw [← elo]; exact List.mem_map_of_mem hq) h2⟩
          have S' := S
          rw [evo] at S'
          obtain ⟨g', h1, h2, h3, _, h4, _⟩ := S'.cells hq
          exact ⟨g', h1, h2, h3, h4⟩
        have HM6 : Hid (∃ a n, ForM A w6 b a x n) := ⟨_, _, HMn.out.next S.nx HOn.out.1⟩
        have KA6 := hid ((HMn.out.next S.nx HOn.out.1).mine.kept)
        have HLo : Hid (lo.length ≤ maxLen) := by
          show _ ≤ _
          have h1 := S.row
          rcases h1.2 with ⟨_, h0⟩ | ⟨_, cap', _, _, _, _, h1, h2, _⟩
          · omega
          · omega
        subst evo
        clear S elo d2 d3 d4 d5 HTk HMn HOn
        go_wp2
        go_loopw [9] (fun v9 wr => ∃ k : Nat, k ≤ lo.length ∧ v9 = .int .i64 (k : Int) ∧ Hid (Kept (fun _ => False) w6 wr)) (fun v9 _ => lo.length - (intOf v9).toNat)
        case atStart => exact ⟨0, Nat.zero_le _, rfl, Kept.refl _ _⟩
        case round =>
          obtain ⟨k, hk, rfl, HK⟩ := hrel
          by_cases hkl : k < lo.length
          · have hkz : (k : Int) < (lo.length : Int) := by omega
            obtain ⟨q, hq⟩ : ∃ q, lo[k]? = some q := ⟨lo[k], by simp [hkl]⟩
            have hqm := List.mem_of_getElem? hq
            obtain ⟨g6, ep, hco, c0, c2⟩ := (HO.out.kept HK.out).cells k q hq
            obtain ⟨pu, cu, eu⟩ := (HO.out.tags q hqm).slice
            subst ep
            have HQ := hid (And.intro hq hqm)
            have EU := hid eu
            clear hq hqm eu
            by_cases h2 : q.1.code = 2
            · rw [h2] at c0
              have HOn := hid (HO.out.only q HQ.out.2 h2)
              clear h2
              go_wp2
              clear c0 c2
              go_loopw [10] (fun v10 wr => ∃ j : Nat, j ≤ q.1.opts.length ∧ v10 = .int .i64 (j : Int) ∧ Hid (Kept (fun _ => False) w6 wr)) (fun v10 _ => q.1.opts.length - (intOf v10).toNat)
              case atStart => exact ⟨0, Nat.zero_le _, rfl, HK.out⟩
              case round =>
                obtain ⟨j, hj, rfl, HJ⟩ := hrel
                obtain ⟨g7, ep, _, c0, c2⟩ := (HO.out.kept HJ.out).cells k q HQ.out.1
                simp only [Option.some.injEq, Addr.mk.injEq, and_true] at ep
                subst ep
                rw [EU.out] at c2
                by_cases hjl : j < q.1.opts.length
                · have hjz : (j : Int) < (q.1.opts.length : Int) := by omega
                  obtain ⟨z, hz⟩ : ∃ z, q.1.opts[j]? = some z := ⟨q.1.opts[j], by simp [hjl]⟩
                  have hT := (HO.out.kept HJ.out).tags q HQ.out.2
                  rw [EU.out] at hT
                  have hTl := hT.len_le
                  obtain ⟨gu, ou, eu, hcu, _, _⟩ := hT.at hz
                  subst eu
                  obtain ⟨hz1, hz2⟩ := HOn.out z (List.mem_of_getElem? hz)
                  have HAd := hid (iaddress_any _ [z] 3 wr (hT.one hz) (by simp) (fun t ht => by rw [List.mem_singleton.1 ht, hz2, adB_size]; omega))
                  rw [adr_one hz1 hz2] at HAd
                  unfold adV at HAd
                  have hnc : ¬ (cu = j) := by omega
                  have hjc : j ≤ cu := by omega
                  have hjc1 : (j : Int) + 1 ≤ (cu : Int) := by omega
                  have hj0 : (0 : Int) ≤ (j : Int) + 1 := by omega
                  have hjj : (j : Int) ≤ (j : Int) + 1 := by omega
                  have hjt : ((j : Int) + 1).toNat = j + 1 := by omega
                  have hjs : j + 1 - j = 1 := by omega
                  have hjw : IntKind.i64.wrap ((j : Int) + 1) = (j : Int) + 1 := by rw [IntKind.wrap_i64]; simp only [maxLen] at hTl; omega
                  clear hz hT hz1 hz2 hTl
                  go_wp2_with fail
                  refine HAd.out.mono ?_
                  rintro e w8 ⟨rfl, hk8⟩
                  have ka := (Kept.refl (fun _ => False) w8).alloc (.cells #[.int .u8 (x.a.toNat : Int), .int .u8 (x.b.toNat : Int), .int .u8 (x.c.toNat : Int), .int .u8 (x.d.toNat : Int)] 24)
                  have KJ := hid ((HJ.out.trans hk8).trans ka)
                  obtain ⟨⟨z0, z1, z2, z3⟩, _⟩ := four4_new w8 24 (.int .u8 (x.a.toNat : Int)) (.int .u8 (x.b.toNat : Int)) (.int .u8 (x.c.toNat : Int)) (.int .u8 (x.d.toNat : Int))
                  obtain ⟨⟨x0, x1, x2, x3⟩, _⟩ := HX.out.kept (KA6.out.trans KJ.out) id
                  clear hk8 ka HAd c0 c2 hnc hjc hjc1 hj0 hjj hjt hjs
                  go_upto_region 20 with fail
                  iterate 14 go_step
                  refine wpList_neq_wanted (by kernel_rfl) (by kernel_rfl) rfl (by rfl) (by rfl) (HE.out _) ?_
                  go_wp2
                  exact ⟨⟨j + 1, hjl, by go_num, KJ.out⟩, by simp [intOf]; omega⟩
                · obtain rfl : j = q.1.opts.length := by omega
                  have hjz : ¬ (q.1.opts.length : Int) < (q.1.opts.length : Int) := by omega
                  have hkw : IntKind.i64.wrap ((k : Int) + 1) = (k : Int) + 1 := by rw [IntKind.wrap_i64]; have := HLo.out; simp only [maxLen] at this; omega
                  go_wp2
                  exact ⟨⟨k + 1, hkl, by go_num, HJ.out⟩, by simp [intOf]; omega⟩
            · have h2z : (q.1.code != 2) = true := by simpa using h2
              have hkw : IntKind.i64.wrap ((k : Int) + 1) = (k : Int) + 1 := by rw [IntKind.wrap_i64]; have := HLo.out; simp only [maxLen] at this; omega
              go_wp2
              exact ⟨⟨k + 1, hkl, by go_num, HK.out⟩, by simp [intOf]; omega⟩
          · obtain rfl : k = lo.length := by omega
            have hkz : ¬ (lo.length : Int) < (lo.length : Int) := by omega
            have hiw : IntKind.i64.wrap ((i : Int) + 1) = (i : Int) + 1 := by rw [IntKind.wrap_i64]; omega
            obtain ⟨a9, n9, M9⟩ := HM6.out
            have HF : Hid (∃ a n, ForM A wr b a x n) := ⟨a9, n9, M9.still HK.out⟩
            clear M9
            go_wp2
            exact ⟨⟨i + 1, hlt, by go_num, HF.out⟩, by simp [intOf]; omega⟩
      · obtain rfl : i = l.length := by omega
        have hltz : ¬ (l.length : Int) < (l.length : Int) := by omega
        obtain ⟨a9, n9, M9⟩ := HM.out
        have KW := hid (K0.out.trans M9.mine.kept)
        clear M9
        go_wp2_with fail
        refine (HAl.out _).mono ?_
        rintro e w9 ⟨rfl, hk9⟩
        have KF := hid (KW.out.trans hk9)
        clear hk9
        go_wp2
        go_ret
        exact ⟨rfl, KF.out.below (Nat.le_refl _) (fun _ h => h.elim)⟩
end Go.Proofs.Ytcmdfcdmfdheeaa
