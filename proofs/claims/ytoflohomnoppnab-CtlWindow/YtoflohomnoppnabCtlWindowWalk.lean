/- CtlWindow, walked: never more fly than the peer's window, nor than the room; what waits and flies is what was given and not acked. -/
import Derived.Test.YtoflohomnoppnabCnAlive
import Derived.Test.YtoflohomnoppnabCnBits
import Derived.Test.YtoflohomnoppnabCnArgO
import Derived.Deep.CutBlock
import Derived.Deep.CutRange
import Derived.Deep.DeepCutAuto
import Derived.LoopTactic
namespace Go.Proofs.Ytoflohomnoppnab
open Go.RowKit

/-- What stays true of an end whose window stays: so many fly, so many wait and fly. -/
structure WinP (window gv : Int) (c : Cn) : Prop where
  good : GoodN c
  win : c.win = window
  fly : (c.flies.length : Int) ≤ window
  sum : (c.waits.length : Int) + (c.flies.length : Int) ≤ gv
theorem WinP.room {window gv : Int} {c : Cn} (h : WinP window gv c) : 1 ≤ c.room ∧ c.room ≤ window := by
  have := h.good.room
  rw [h.win] at this
  exact this
theorem WinP.give {window gv : Int} {c : Cn} (h : WinP window gv c) (x : ByteArray) : WinP window (if (giveN c x).2 = 0 then gv + 1 else gv) (giveN c x).1 := by
  have hs := h.sum
  refine ⟨good_giveN h.good x, ?_, ?_, ?_⟩ <;> unfold giveN <;> split
  · exact h.win
  · split
    · exact h.win
    · split <;> exact h.win
  · exact h.fly
  · split
    · exact h.fly
    · split <;> exact h.fly
  · simpa using hs
  · split
    · simpa using hs
    · split
      · simpa using hs
      · simp only [List.length_append, List.length_cons, List.length_nil, if_true]
        omega
theorem WinP.take {window gv : Int} {c : Cn} (h : WinP window gv c) (i : Ite) : WinP window gv (takeN c i).1 := by
  have hl : WinP window gv (landN c (ackedN c i.nr)) := by
    refine ⟨good_landN h.good _, ?_, ?_, ?_⟩ <;> unfold landN <;> split
    · exact h.win
    · obtain ⟨_, _, _, q, _⟩ := growsN_rest (ackedN c i.nr) { c with flies := c.flies.drop (ackedN c i.nr), tries := 0, ticks := 0, again := false }
      rw [q]
      exact h.win
    · exact h.fly
    · obtain ⟨_, _, _, _, _, _, _, _, q, _⟩ := growsN_rest (ackedN c i.nr) { c with flies := c.flies.drop (ackedN c i.nr), tries := 0, ticks := 0, again := false }
      rw [q]
      have := h.fly
      simp only [List.length_drop]
      omega
    · exact h.sum
    · obtain ⟨_, _, _, _, _, _, _, p, q, _⟩ := growsN_rest (ackedN c i.nr) { c with flies := c.flies.drop (ackedN c i.nr), tries := 0, ticks := 0, again := false }
      rw [p, q]
      have := h.sum
      simp only [List.length_drop]
      omega
  unfold takeN
  split
  · exact h
  · split
    · exact hl
    · split
      · exact ⟨{ hl.good with come := wrapN_in _ }, hl.win, hl.fly, hl.sum⟩
      · exact ⟨{ hl.good with }, hl.win, hl.fly, hl.sum⟩
theorem WinP.flyN {window gv : Int} : ∀ (n : Nat) {c : Cn} (o : List Ite), WinP window gv c → WinP window gv (flyN n c o).1
  | 0, _, _, h => h
  | n + 1, c, o, h => by
    unfold Go.Proofs.Ytoflohomnoppnab.flyN
    split
    · exact h
    · rename_i x r hw
      split
      · rename_i hf
        refine WinP.flyN n _ ⟨good_launchN h.good hw hf, h.win, ?_, ?_⟩
        · have := h.room
          simp only [launchN, List.length_append, List.length_cons, List.length_nil]
          omega
        · have := h.sum
          rw [hw] at this
          simp only [launchN, List.length_append, List.length_cons, List.length_nil] at this ⊢
          omega
      · exact h
theorem WinP.out {window gv : Int} {c : Cn} (h : WinP window gv c) : WinP window gv (outN c).1 := by
  unfold outN
  split
  · exact h
  · have hl := WinP.flyN c.waits.length (againN c) h
    exact ⟨good_quiet hl.good, hl.win, hl.fly, hl.sum⟩
theorem WinP.new {window first : Int} (h : newOkN window 40 10 5 first = true) : WinP window 0 (newN window 40 10 5 first) := by
  have hg := good_newN h
  refine ⟨hg, rfl, ?_, by simp [newN]⟩
  have := hg.win
  simp only [newN] at this ⊢
  simp
  omega
/-- The end and what else is known, in a world. -/
structure WinI (w : World) (b : Nat) (window gv : Int) (c : Cn) (vw vf : Value) (wr : World) : Prop where
  p : WinP window gv c
  mem : CnIn wr b c vw vf
  low : ∀ i, Sn b vw vf i → w.heap.size ≤ i
  kept : Kept (fun _ => False) w wr
theorem WinI.next {w : World} {b : Nat} {window gv gv' : Int} {c c' : Cn} {vw vf vw' vf' : Value} {wr wx : World} (h : WinI w b window gv c vw vf wr) (hn : NextN wr wx b vw vf c' vw' vf') (hp : WinP window gv' c') : WinI w b window gv' c' vw' vf' wx :=
  ⟨hp, hn.mem, fun i hi => (hn.new i hi).elim (fun g => h.low i g) (fun g => by have := h.kept.size; omega), h.kept.andThen hn.kept (fun i hi s => by have := h.low i s; omega)⟩
theorem WinI.kept0 {w : World} {b : Nat} {window gv : Int} {c : Cn} {vw vf : Value} {wr wx : World} (h : WinI w b window gv c vw vf wr) (hk : Kept (fun _ => False) wr wx) : WinI w b window gv c vw vf wx := h.next (NextN.same h.mem hk) h.p

set_option maxHeartbeats 8000000 in
set_option maxRecDepth 100000 in
theorem ctlWindow_walk (window first : Int) (v : Value) (l : List Op20) (w : World) (_hw : -9223372036854775808 ≤ window ∧ window ≤ 9223372036854775807) (_hf : -9223372036854775808 ≤ first ∧ first ≤ 9223372036854775807) (hl : Ops20 w v l) (_hln : l.length ≤ maxLen) (hfit : ∀ x ∈ l, Fit20 x) :
    Calls Try.prog 3 #[.int .i64 window, .int .i64 first, v] w fun e w' => e = .returned (.bool true) ∧ Below w.heap.size w w' := by
  have HA := hid (fun W => aliveN_any W)
  have HNew := hid (new_any window 40 10 5 first w)
  obtain ⟨p, cap, rfl⟩ := RowsAt.slice hl
  have HL := hid hl
  have HFit := hid hfit
  clear _hw _hf hl hfit _hln
  go_enter Try.func3, Try.ntmps3
  go_wp2_with fail
  refine (HNew.out).mono ?_
  rintro e w1 (⟨-, rfl, hk1⟩ | ⟨hok, b, rfl, hc0, hb, hk1⟩)
  · have HK1 := hid hk1
    clear hk1 HNew
    go_wp2_with fail
    refine (HA.out _).mono ?_
    rintro e w2 ⟨rfl, hk2⟩
    have HK2 := hid (HK1.out.trans hk2)
    clear hk2 HA
    go_wp2
    go_returns
    exact ⟨rfl, HK2.out.below (Nat.le_refl _) (fun _ f => f.elim)⟩
  clear HNew
  by_cases hlen : (200 : Int) < (l.length : Int)
  · have HK1 := hid hk1
    clear hk1 hc0 hok hb
    go_wp2_with fail
    refine (HA.out _).mono ?_
    rintro e w2 ⟨rfl, hk2⟩
    have HK2 := hid (HK1.out.trans hk2)
    clear hk2 HA
    go_wp2
    go_returns
    exact ⟨rfl, HK2.out.below (Nat.le_refl _) (fun _ f => f.elim)⟩
  have HI0 : Hid (WinI w b window 0 (newN window 40 10 5 first) (.slice none 0 0) (.slice none 0 0) w1) := ⟨WinP.new hok, hc0, (by
    rintro i (rfl | g | g)
    · exact hb
    · cases g
    · cases g), hk1⟩
  clear hk1 hc0 hok hb
  go_upto_region 8 with fail
  go_loopw [9, 10] (fun vg vi wr => ∃ (j : Nat) (gv : Int) (c : Cn) (vw vf : Value), j ≤ l.length ∧ vi = .int .i64 (j : Int) ∧ vg = .int .i64 gv ∧ 0 ≤ gv ∧ gv ≤ (j : Int) ∧ Hid (WinI w b window gv c vw vf wr)) (fun _ vi _ => l.length - (intOf vi).toNat)
  case atStart => exact ⟨0, 0, _, _, _, Nat.zero_le _, rfl, rfl, Int.le_refl _, Int.le_refl _, HI0⟩
  case round =>
    obtain ⟨j, gv, c, vw, vf, hj, rfl, rfl, hg0, hgj, HI⟩ := hrel
    clear HI0
    by_cases hlt : j < l.length
    · have hltz : (j : Int) < (l.length : Int) := by omega
      obtain ⟨x, hx⟩ : ∃ x, l[j]? = some x := ⟨l[j], by simp [hlt]⟩
      obtain ⟨xk, xn, xi⟩ := x
      have hfx := HFit.out _ (List.mem_of_getElem? hx)
      have HX := hid (fun W (hk : Kept (fun _ => False) w W) => RowsAt.at (RowsAt.kept0 HL.out hk) hx)
      have HFx := hid hfx
      obtain ⟨g, o, rfl, hcap, hc⟩ := HX.out wr HI.out.kept
      have c0 := hc 0 _ rfl
      dsimp only at c0
      have HC1 := hid (fun W (hk : Kept (fun _ => False) wr W) => (hk.cell (p := ⟨g, o + j * 5 + 1, none⟩) (lt_of_cell (hc 1 _ rfl)) id).trans (hc 1 _ rfl))
      dsimp only at HC1
      clear hc hx HX hfx
      rw [Nat.add_zero] at c0
      go_upto_block 2 with fail
      go_cut [9, 11, 12] from 40 to 68 (fun vg _ _ wx => ∃ (gv' : Int) (c' : Cn) (vw' vf' : Value), vg = .int .i64 gv' ∧ 0 ≤ gv' ∧ gv' ≤ (j : Int) + 1 ∧ Hid (WinI w b window gv' c' vw' vf' wx))
      case first =>
        by_cases hk1 : xk = 1
        · subst hk1
          have hS := send_any HI.out.mem HI.out.p.good ⟨#[109]⟩
          have hG := HI.out.p.give ⟨#[109]⟩
          obtain ⟨R, hR⟩ : ∃ R, R = giveN c ⟨#[109]⟩ := ⟨_, rfl⟩
          rw [← hR] at hS hG
          clear hR
          obtain ⟨C, r⟩ := R
          dsimp only at hS hG
          have HS := hid hS
          have HG := hid hG
          clear hS hG
          go_wp2_with fail
          refine (HS.out).mono ?_
          rintro e w5 ⟨rfl, vw5, hn5⟩
          by_cases hr : r = 0
          · have HF : Hid (WinI w b window (gv + 1) C vw5 vf w5) := HI.out.next hn5 (by have := HG.out; rw [if_pos hr] at this; exact this)
            have wg : IntKind.i64.wrap (gv + 1) = gv + 1 := by rw [IntKind.wrap_i64]; omega
            subst hr
            clear hn5 HG HS HI HC1
            go_wp2
            go_meet
            exact ⟨gv + 1, C, vw5, vf, rfl, by omega, by omega, HF⟩
          · have HF : Hid (WinI w b window gv C vw5 vf w5) := HI.out.next hn5 (by have := HG.out; rw [if_neg hr] at this; exact this)
            have hrb : (r == 0) = false := by rw [beq_eq_false_iff_ne]; exact hr
            clear hn5 HG HS HI HC1
            go_wp2
            go_meet
            exact ⟨gv, C, vw5, vf, rfl, by omega, by omega, HF⟩
        · have hk1b : (xk == 1) = false := by rw [beq_eq_false_iff_ne]; exact hk1
          by_cases hk2 : xk = 2
          · subst hk2
            have HNx := hid (next_at b c.next c.come wr (HI.out.mem.blk.cell 7) (HI.out.mem.blk.cell 8))
            have hnx := HI.out.p.good.next
            obtain ⟨nx, hnxe⟩ : ∃ nx, nx = c.next := ⟨_, rfl⟩
            rw [← hnxe] at HNx hnx
            have m3 := and_3 xn
            have m65 := and_65535 (nx - xn % 4)
            have hm : 0 ≤ xn % 4 ∧ xn % 4 ≤ 3 := by omega
            generalize xn % 4 = q at *
            have ws : IntKind.i64.wrap (nx - q) = nx - q := by rw [IntKind.wrap_i64]; omega
            generalize (nx - q) % 65536 = nr at *
            have hT := fun W (hk : Kept (fun _ => False) wr W) => take_any (HI.out.kept0 hk).mem HI.out.p.good ⟨0, nr, ⟨#[]⟩⟩
            unfold iteV at hT
            have HT := hid hT
            have HG := hid (HI.out.p.take ⟨0, nr, ⟨#[]⟩⟩)
            clear hT hnxe hk1 hk1b
            go_wp2_with fail
            refine (HNx.out).mono ?_
            rintro e w5 ⟨rfl, hk5⟩
            have c1 := HC1.out w5 hk5
            have HT5 := hid (HT.out w5 hk5)
            have HI5 := hid (HI.out.kept0 hk5)
            clear hk5 HT HNx HC1 c0
            go_wp2_with fail
            refine (HT5.out).mono ?_
            rintro e w6 ⟨vo6, vw6, vf6, rfl, hn6, -, -⟩
            have HF := hid (HI5.out.next hn6 HG.out)
            clear hn6 HT5 HI5 HI HG c1
            go_wp2
            go_meet
            exact ⟨gv, _, vw6, vf6, rfl, by omega, by omega, HF⟩
          · have hk2b : (xk == 2) = false := by rw [beq_eq_false_iff_ne]; exact hk2
            have HO := hid (out_any HI.out.mem HI.out.p.good)
            have HG := hid HI.out.p.out
            clear hk1 hk2 HC1
            go_wp2_with fail
            refine (HO.out).mono ?_
            rintro e w6 ⟨vo6, vw6, vf6, rfl, hn6, -⟩
            have HF := hid (HI.out.next hn6 HG.out)
            clear hn6 HO HI HG
            go_wp2
            go_meet
            exact ⟨gv, _, vw6, vf6, rfl, by omega, by omega, HF⟩
      obtain ⟨gv', c', vw', vf', rfl, hg0', hgj', HW⟩ := hcut
      clear HI HC1 c0
      obtain ⟨pw, cw, hvw⟩ := own_slice HW.out.mem.rw
      obtain ⟨pf, cf, hvf⟩ := own_slice HW.out.mem.rf
      subst hvw hvf
      have HFl := hid (flying_at b c'.flies.length pf cf wc (HW.out.mem.blk.cell 10))
      have HWa := hid (waiting_at b c'.waits.length pw cw wc (HW.out.mem.blk.cell 9))
      have HRo := hid (room_at b c'.room wc (HW.out.mem.blk.cell 4))
      have hp := HW.out.p
      have h1 := hp.fly
      have h2 := hp.sum
      have h3 := hp.room
      have h4 := hp.good.flies.1
      have h5 := hp.good.waits.1
      have h6 := hp.good.queue
      have HW2 := hid HW.out
      generalize c'.flies.length = nf at *
      generalize c'.waits.length = nw at *
      generalize c'.room = rm at *
      have f1 : ¬ window < (nf : Int) := by omega
      have f2 : ¬ window < rm := by omega
      have f3 : ¬ rm < 1 := by omega
      have f4 : ¬ gv' < (nw : Int) + (nf : Int) := by omega
      have wsum : IntKind.i64.wrap ((nw : Int) + (nf : Int)) = (nw : Int) + (nf : Int) := by rw [IntKind.wrap_i64]; omega
      clear hp h1 h2 h3 h4 h5 h6 HW
      go_wp2_with fail
      refine (HFl.out).mono ?_
      rintro e w7 ⟨rfl, hq⟩
      rw [hq]
      clear hq w7
      go_wp2_with fail
      refine (HRo.out).mono ?_
      rintro e w7 ⟨rfl, hq⟩
      rw [hq]
      clear hq w7
      go_wp2_with fail
      refine (HRo.out).mono ?_
      rintro e w7 ⟨rfl, hq⟩
      rw [hq]
      clear hq w7
      go_wp2_with fail
      refine (HWa.out).mono ?_
      rintro e w7 ⟨rfl, hq⟩
      rw [hq]
      clear hq w7
      go_wp2_with fail
      refine (HFl.out).mono ?_
      rintro e w7 ⟨rfl, hq⟩
      rw [hq]
      clear hq w7 HFl HWa HRo
      go_wp2
      exact ⟨⟨j + 1, gv', c', _, _, hlt, by go_num, rfl, hg0', by push_cast; exact hgj', HW2⟩, by simp [intOf]; omega⟩
    · have hltz : ¬ (j : Int) < (l.length : Int) := by omega
      have HK := hid HI.out.kept
      clear HI
      go_wp2_with fail
      refine (HA.out _).mono ?_
      rintro e w2 ⟨rfl, hk2⟩
      have HK2 := hid (HK.out.trans hk2)
      clear hk2 HA
      go_wp2
      go_returns
      exact ⟨rfl, HK2.out.below (Nat.le_refl _) (fun _ f => f.elim)⟩
end Go.Proofs.Ytoflohomnoppnab
