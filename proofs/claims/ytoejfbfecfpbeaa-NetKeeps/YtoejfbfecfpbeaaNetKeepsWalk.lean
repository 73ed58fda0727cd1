/- The law NetKeeps: it returns true for every list of what is done, and leaves what was there. -/
import Derived.Test.YtoejfbfecfpbeaaKeepsKit
import Derived.Deep.QuietTactic
import Derived.BigQuiet
import Derived.Deep.CutRange
import Derived.Deep.CutBlock
import Derived.Deep.RegionHeld3
namespace Go.Proofs.Ytoejfbfecfpbeaa
open Go.RowKit

theorem Ops4At.slice {W : World} {v : Value} {l : List Op4} (h : Ops4At W v l) : ∃ p cap, v = .slice p l.length cap := by
  rcases h with ⟨rfl, p, cap, rfl⟩ | ⟨g, o, cap, rfl, _⟩
  · exact ⟨p, cap, rfl⟩
  · exact ⟨_, cap, rfl⟩

theorem Ops4At.at {W : World} {p : Option Addr} {n cap : Nat} {l : List Op4} (h : Ops4At W (.slice p n cap) l) {j : Nat} {x : Op4} (hj : l[j]? = some x) : ∃ g o, p = some ⟨g, o, none⟩ ∧ n ≤ cap ∧ Op4Ok x ∧ op4At W g (o + j * 5) x := by
  rcases h with ⟨rfl, _⟩ | ⟨g, o, cap', e, hle, _, hc⟩
  · simp at hj
  · simp only [Value.slice.injEq] at e
    obtain ⟨rfl, rfl, rfl⟩ := e
    exact ⟨g, o, rfl, hle, hc j x hj⟩

theorem op4At.kept {w W : World} {g k : Nat} {x : Op4} (h : op4At w g k x) (hk : Kept (fun _ => False) w W) : op4At W g k x :=
  ⟨(hk.cell (lt_of_cell h.1) id).trans h.1, (hk.cell (lt_of_cell h.2.1) id).trans h.2.1, (hk.cell (lt_of_cell h.2.2.1) id).trans h.2.2.1, (hk.cell (lt_of_cell h.2.2.2.1) id).trans h.2.2.2.1, (hk.cell (lt_of_cell h.2.2.2.2) id).trans h.2.2.2.2⟩

theorem infoStr : (Try.prog.info? 9).map (fun i => (i.zero, i.size, i.bytes)) = some (some (.string ⟨#[]⟩), 1, 16) := by kernel_rfl

theorem bytes_same {a b : ByteArray} : (a.toList == b.toList) = true ↔ a = b := by
  rw [beq_iff_eq, ByteArray.toList_eq, ByteArray.toList_eq]
  constructor
  · intro h
    cases a
    cases b
    congr
    exact Array.toList_inj.1 h
  · intro h
    rw [h]

theorem in_take {l : List ByteArray} {k : Nat} {z y : ByteArray} (hz : l[k]? = some z) : y ∈ l.take (k + 1) ↔ y ∈ l.take k ∨ z = y := by
  rw [List.take_add_one, hz]
  simp [eq_comm]

set_option maxHeartbeats 1000000 in
theorem netKeeps_long (v : Value) (l : List Op4) (hl : 200 < l.length) (w : World) (hv : Ops4At w v l) : Calls Try.prog 6 #[v] w fun e w' => e = .returned (.bool true) ∧ Below w.heap.size w w' := by
  have Ha := hid alive_any
  obtain ⟨p, cap, rfl⟩ := hv.slice
  have hlz : (200 : Int) < (l.length : Int) := by omega
  clear hv hl
  go_enter Try.func6, Try.ntmps6
  go_wp2_with (go_at_call 9; refine (Ha.out _).mono ?_; rintro e w' ⟨rfl, hk⟩)
  go_ret
  exact ⟨rfl, hk.below (Nat.le_refl _) (fun _ h => h.elim)⟩

set_option maxHeartbeats 4000000 in
set_option maxRecDepth 100000 in
theorem netKeeps_in (v : Value) (L : List Op4) (hl : L.length ≤ 200) (w : World) (hv : Ops4At w v L) : Calls Try.prog 6 #[v] w fun e w' => e = .returned (.bool true) ∧ Below w.heap.size w w' := by
  have Ha := hid alive_any
  obtain ⟨p, cap, rfl⟩ := hv.slice
  have Hat : Hid (∀ (j : Nat) (x : Op4), L[j]? = some x → ∃ g o, p = some ⟨g, o, none⟩ ∧ L.length ≤ cap ∧ Op4Ok x ∧ ∀ W, Kept (fun _ => False) w W → op4At W g (o + j * 5) x) := fun j x hj => by
    obtain ⟨g, o, h1, h2, h3, h4⟩ := hv.at hj
    exact ⟨g, o, h1, h2, h3, fun W hW => h4.kept hW⟩
  have hlz : (L.length : Int) ≤ 200 := by omega
  have hbel : Hid (∀ W, Kept (fun _ => False) w W → Below w.heap.size w W) := fun W h => h.below (Nat.le_refl _) (fun _ h => h.elim)
  have Hm := hid (keep_new w)
  clear hv
  go_enter Try.func6, Try.ntmps6
  go_wp2_with (go_at_call 10; refine (new_any _).mono ?_; rintro e w1 ⟨rfl, rfl⟩)
  go_loopw [4, 5, 6] (fun v4 v5 v6 wr => ∃ (j came : Nat) (s : NetSt) (l : List ByteArray), j ≤ L.length ∧ came ≤ j ∧ v6 = .int .i64 (j : Int) ∧ v4 = .int .i64 (came : Int) ∧ Hid (Kep s j came l ∧ Keep w wr w.heap.size s v5 l)) (fun _ _ v6 _ => L.length - (intOf v6).toNat)
  case atStart => exact ⟨0, 0, s0, [], Nat.zero_le _, Nat.le_refl _, rfl, rfl, kep0, Hm.out⟩
  case round =>
    obtain ⟨j, came, s, l, hj, hcame, rfl, rfl, HI⟩ := hrel
    clear Hm
    by_cases hlt : j < L.length
    · have hltz : (j : Int) < (L.length : Int) := by omega
      obtain ⟨x, hx⟩ : ∃ x, L[j]? = some x := ⟨L[j], by simp [hlt]⟩
      obtain ⟨g, o, rfl, hcap, hok, hop⟩ := Hat.out j x hx
      have Hop := hid hop
      obtain ⟨x0, x1, x2, x3, x4⟩ := hop wr HI.out.2.kept
      clear hx hop Hat
      obtain ⟨kd, a, bb, cc, d⟩ := x
      simp only at x0 x1 x2 x3 x4
      by_cases hx5 : 1500 < d.size
      · have hx5z : (1500 : Int) < (d.size : Int) := by omega
        have HK := hid HI.out.2.kept
        clear HI
        go_wp2_with fail
        refine (Ha.out _).mono ?_
        rintro e w5 ⟨rfl, hk5⟩
        have HK5 := hid (HK.out.trans hk5)
        clear hk5
        go_wp2
        go_ret
        exact ⟨rfl, hbel.out _ HK5.out⟩
      · have hx5z : ¬ (1500 : Int) < (d.size : Int) := by omega
        have hKK := hid HI.out.2.kept
        have hl200 : l.length ≤ 200 := by have := HI.out.1.len; omega
        go_upto_block 2 with fail
        go_cut [4, 5, 7, 8, 9, 10] from 19 to 117 (fun v4 v5 _ _ _ _ wx => ∃ (came' : Nat) (s' : NetSt) (l' : List ByteArray), came' ≤ j + 1 ∧ v4 = .int .i64 (came' : Int) ∧ Hid (Kep s' (j + 1) came' l' ∧ Keep w wx w.heap.size s' v5 l'))
        case first =>
          by_cases hk2 : kd = 2
          · subst hk2
            by_cases ha : 0 ≤ a ∧ a < (s.grams.length : Int)
            · obtain ⟨t, rfl⟩ : ∃ t : Nat, a = (t : Int) := ⟨a.toNat, by omega⟩
              have htl : t < s.grams.length := by omega
              have P1 := hid (HI.out.2.call (fun S1 hA => deliver_ok hA t htl))
              have hy := HI.out.1.all _ (List.mem_of_getElem? (getG_at htl))
              unfold ansV at P1
              generalize getG s.grams t = y at *
              have Hy := hid hy.2.2
              have HKp := hid (HI.out.1.deliver htl)
              clear hy HI
              go_wp2_with fail
              refine P1.out.mono ?_
              rintro e w5 ⟨rfl, hK5⟩
              have hK6 := hK5.still ((Kept.refl (fun _ => False) w5).alloc (.cells #[.int .i64 y.src, .int .i64 y.dst, .string y.data] 39))
              obtain ⟨p5, cap5, rfl, hrow⟩ := hK6.row
              have HK6 := hid hK6
              have Hrow := hid hrow
              clear hK5 hK6 hrow P1
              generalize ({ s with grams := s.grams.eraseIdx t } : NetSt) = sD at *
              have hcz : (came : Int) + 1 ≤ 9223372036854775807 := by omega
              go_wp2
              go_loopw [9, 10] (fun v9 v10 wq => ∃ (k : Nat) (q : Bool), k ≤ l.length ∧ v10 = .int .i64 (k : Int) ∧ v9 = .bool q ∧ Hid (q = true ↔ y.data ∈ l.take k) ∧ Hid (Kept (fun _ => False) (w5.alloc (.cells #[.int .i64 y.src, .int .i64 y.dst, .string y.data] 39)) wq)) (fun _ v10 _ => l.length - (intOf v10).toNat)
              case atStart => exact ⟨0, false, Nat.zero_le _, rfl, rfl, by simp [Hid], Kept.refl _ _⟩
              case round =>
                obtain ⟨k, q, hk, rfl, rfl, Hq, HKq⟩ := hrel
                by_cases hkl : k < l.length
                · have hklz : (k : Int) < (l.length : Int) := by omega
                  obtain ⟨z, hz⟩ : ∃ z, l[k]? = some z := ⟨l[k], by simp [hkl]⟩
                  obtain ⟨g5, rfl, hle5, hc⟩ := Hrow.out k z hz
                  have hc' := (HKq.out.cell (lt_of_cell hc) id).trans hc
                  have hb' := (HKq.out.cell (p := ⟨w5.heap.size, 2, none⟩) (by simp) id).trans (World.cell?_alloc_new w5 _ _ 2)
                  simp only [List.getElem?_toArray] at hb'
                  change _ = some (Value.string y.data) at hb'
                  have Hz := hid hz
                  clear hz hc x0 x1 x2 x3 x4
                  cases q with
                  | true =>
                    have R : Hid (y.data ∈ l.take (k + 1)) := by
                      show _ ∈ _
                      rw [in_take Hz.out]
                      exact Or.inl (Hq.out.1 rfl)
                    clear Hq Hz
                    go_wp2
                    go_quiet (fail)
                    go_wp2
                    exact ⟨⟨k + 1, true, hkl, by go_num, rfl, ⟨fun _ => R.out, fun _ => rfl⟩, HKq.out.drewN _⟩, by simp [intOf]; omega⟩
                  | false =>
                    have R : Hid ((z.toList == y.data.toList) = true ↔ y.data ∈ l.take (k + 1)) := by
                      show _ ↔ _
                      rw [in_take Hz.out, bytes_same]
                      have : ¬ y.data ∈ l.take k := fun h => by have := Hq.out.2 h; cases this
                      simp [this]
                    clear Hq Hz
                    go_wp2
                    go_quiet (fail)
                    go_wp2
                    exact ⟨⟨k + 1, _, hkl, by go_num, rfl, R.out, HKq.out.drewN _⟩, by simp [intOf]; omega⟩
                · obtain rfl : k = l.length := by omega
                  have hq1 : q = true := Hq.out.2 (by rw [List.take_of_length_le (Nat.le_refl _)]; exact Hy.out)
                  subst hq1
                  clear Hq x0 x1 x2 x3 x4
                  go_wp2
                  go_meet
                  exact ⟨came + 1, sD, l, by omega, by go_num, HKp.out, HK6.out.still HKq.out⟩
            · have P1 := hid (HI.out.2.call0 (fun S1 hA => deliver_no (.pointer (some ⟨w.heap.size, 0, none⟩)) a 3 (by decide) (place_bad hA a (by omega))))
              unfold ansV g0 at P1
              have HKp := hid HI.out.1.mono
              clear HI
              go_wp2_with fail
              refine P1.out.mono ?_
              rintro e w5 ⟨rfl, hK5, _⟩
              have HK6 := hid (hK5.still ((Kept.refl (fun _ => False) w5).alloc (.cells #[.int .i64 0, .int .i64 0, .string ⟨#[]⟩] 39)))
              clear hK5 P1 x0 x1 x2 x3 x4
              go_wp2
              go_meet
              exact ⟨came, s, l, by omega, rfl, HKp.out, HK6.out⟩
          · have hk2b : ((kd : Int) == 2) = false := by rw [beq_eq_false_iff_ne]; exact hk2
            by_cases hk3 : kd = 3
            · subst hk3
              by_cases ha : 0 ≤ a ∧ a < (s.grams.length : Int)
              · obtain ⟨t, rfl⟩ : ∃ t : Nat, a = (t : Int) := ⟨a.toNat, by omega⟩
                have htl : t < s.grams.length := by omega
                have hy := HI.out.1.all _ (List.mem_of_getElem? (getG_at htl))
                have P1 := hid (HI.out.2.call (fun S1 hA => drop_ok hA HI.out.1.good (by have := HI.out.1.few; omega) t htl))
                rw [hy.1, hy.2.1] at P1
                have HKp := hid (HI.out.1.drop (by omega) htl)
                clear HI hy
                go_wp2_with fail
                refine P1.out.mono ?_
                rintro e w5 ⟨rfl, hK5⟩
                have HK6 := hid hK5
                clear hK5 P1 x0 x1 x2 x3 x4
                go_wp2
                go_meet
                exact ⟨came, _, l, by omega, rfl, HKp.out, HK6.out⟩
              · have P1 := hid (HI.out.2.call0 (fun S1 hA => (drop_no (.pointer (some ⟨w.heap.size, 0, none⟩)) a 3 (by decide) (place_bad hA a (by omega) _ (Kept.refl _ _))).mono (fun e w' h => ⟨h.1, h.2 ▸ Kept.refl _ _⟩)))
                have HKp := hid HI.out.1.mono
                clear HI
                go_wp2_with fail
                refine P1.out.mono ?_
                rintro e w5 ⟨rfl, hK5, _⟩
                have HK6 := hid hK5
                clear hK5 P1 x0 x1 x2 x3 x4
                go_wp2
                go_meet
                exact ⟨came, s, l, by omega, rfl, HKp.out, HK6.out⟩
            · have hk3b : ((kd : Int) == 3) = false := by rw [beq_eq_false_iff_ne]; exact hk3
              have P1 := hid (HI.out.2.call (fun S1 hA => send_in (x := d) hA HI.out.1.good (by have := HI.out.1.few; omega) in1 in2 (by omega)))
              have HKp := hid (HI.out.1.send (by omega) d)
              clear HI
              go_wp2_with fail
              refine P1.out.mono ?_
              rintro e w5 ⟨rfl, hK5⟩
              obtain ⟨y0, y1, y2, y3, y4⟩ := Hop.out _ hK5.kept
              simp only at y0 y1 y2 y3 y4
              have HK6 := hid hK5
              have Hown := hid hK5.choose_spec.2.2.2.1
              have hszw := hK5.kept.size
              clear hK5 P1 x0 x1 x2 x3 x4
              obtain ⟨i0, hi0, hz0, hz1, hz2⟩ := info_parts infoStr
              go_wp2_with (at_builtin; refine wpList_append_lies _ rfl _ _ 57 rfl w.heap.size 9 i0 (.string ⟨#[]⟩) 1 16 Try.underlying57 hi0 hz0 hz1 hz2 rfl (by decide) _ l.length (l.map strV) rfl (Hown.out.alloc _) ⟨w5.heap.size, 0, none⟩ 1 1 [.string d] rfl rfl (World.news_of_block (heap_alloc_new w5 _)) (by intro u hu; simp at hu; subst hu; rfl) (by decide) (by unfold maxLen; omega) (by omega) (by simp; omega) _ rfl ?_; intro g' cap' w6 hown hgrow hat hlt')
              have HK7 := hid (HK6.out.more (x := d) hgrow hown hat)
              clear hgrow hown hat hlt' y0 y1 y2 y3 y4
              go_wp2
              go_meet
              exact ⟨came, _, l ++ [d], by omega, rfl, HKp.out, HK7.out⟩
        case rest =>
          obtain ⟨came', s', l', hc', rfl, HI'⟩ := hcut
          clear HI x0 x1 x2 x3 x4 hKK Hop
          obtain ⟨hKep, hKeep⟩ := HI'.out
          obtain ⟨p5, cap5, rfl, _⟩ := hKeep.row
          have hsum := hKep.sum
          have hl0 := hKep.lost0
          have hlen := hKep.len
          have HKep := hid hKep
          have KS : Hid (∀ W, Hid (Keep w W w.heap.size s' (.slice p5 l'.length cap5) l') → W.cell? ⟨wc.heap.size, 0, none⟩ = some (.int .i64 1) → W.cell? ⟨wc.heap.size, 1, none⟩ = some (.int .i64 2) → Calls Try.prog 28 #[.pointer (some ⟨w.heap.size, 0, none⟩), .agg #[.int .i64 1, .int .i64 2]] W fun e w' => e = .returned (.int .i64 (l'.length : Int)) ∧ Hid (Keep w w' w.heap.size s' (.slice p5 l'.length cap5) l') ∧ w'.cell? ⟨wc.heap.size, 0, none⟩ = some (.int .i64 1) ∧ w'.cell? ⟨wc.heap.size, 1, none⟩ = some (.int .i64 2)) := fun W h c0 c1 => by
            have := h.out.call0 (fun S1 hA => sent_any hA in1 in2)
            rw [HKep.out.sent] at this
            refine this.mono ?_
            rintro e w' ⟨rfl, hk, hkk⟩
            exact ⟨rfl, hk, (hkk.cell (lt_of_cell c0) id).trans c0, (hkk.cell (lt_of_cell c1) id).trans c1⟩
          have KL : Hid (∀ W, Hid (Keep w W w.heap.size s' (.slice p5 l'.length cap5) l') → W.cell? ⟨wc.heap.size, 0, none⟩ = some (.int .i64 1) → W.cell? ⟨wc.heap.size, 1, none⟩ = some (.int .i64 2) → Calls Try.prog 29 #[.pointer (some ⟨w.heap.size, 0, none⟩), .agg #[.int .i64 1, .int .i64 2]] W fun e w' => e = .returned (.int .i64 (lostS s' 1 2)) ∧ Hid (Keep w w' w.heap.size s' (.slice p5 l'.length cap5) l') ∧ w'.cell? ⟨wc.heap.size, 0, none⟩ = some (.int .i64 1) ∧ w'.cell? ⟨wc.heap.size, 1, none⟩ = some (.int .i64 2)) := fun W h c0 c1 => by
            refine (h.out.call0 (fun S1 hA => lost_any hA in1 in2)).mono ?_
            rintro e w' ⟨rfl, hk, hkk⟩
            exact ⟨rfl, hk, (hkk.cell (lt_of_cell c0) id).trans c0, (hkk.cell (lt_of_cell c1) id).trans c1⟩
          have KN : Hid (∀ W, Hid (Keep w W w.heap.size s' (.slice p5 l'.length cap5) l') → Calls Try.prog 26 #[.pointer (some ⟨w.heap.size, 0, none⟩)] W fun e w' => e = .returned (.int .i64 (s'.grams.length : Int)) ∧ w' = W) := fun W h => by
            obtain ⟨S, h1, _⟩ := h.out
            exact len_any h1
          have HB : Hid (Keep w (wc.alloc (.cells #[.int .i64 1, .int .i64 2] 48)).drew w.heap.size s' (.slice p5 l'.length cap5) l') := hKeep.still (((Kept.refl _ wc).alloc _).drew)
          clear hKep hKeep HI'
          generalize lostS s' 1 2 = lo at *
          generalize s'.grams.length = gl at *
          have e1 : IntKind.i64.wrap (lo + (came' : Int)) = lo + (came' : Int) := by rw [IntKind.wrap_i64]; omega
          have e2 : IntKind.i64.wrap (lo + (came' : Int) + (gl : Int)) = (l'.length : Int) := by rw [IntKind.wrap_i64]; omega
          clear hsum hl0 hlen
          generalize l'.length = n at *
          go_wp2
          go_region_held3 (fun W => W.cell? ⟨wc.heap.size, 0, none⟩ = some (.int .i64 1) ∧ W.cell? ⟨wc.heap.size, 1, none⟩ = some (.int .i64 2) ∧ Hid (Keep w W w.heap.size s' (.slice p5 n cap5) l')) (first | assumption | go_keep) (first
            | (go_at_call 28; refine (KS.out _ (by assumption) (by first | assumption | go_simp) (by first | assumption | go_simp)).mono ?_; rintro e w6 ⟨rfl, k6, c6, d6⟩)
            | (go_at_call 29; refine (KL.out _ (by assumption) (by first | assumption | go_simp) (by first | assumption | go_simp)).mono ?_; rintro e w7 ⟨rfl, k7, c7, d7⟩)
            | (go_at_call 26; refine (KN.out _ (by assumption)).mono ?_; rintro e w8 ⟨rfl, rfl⟩))
          all_goals go_wp2
          all_goals (first
            | exact ⟨⟨j + 1, came', s', l', hlt, hc', by go_num, rfl, HKep.out, k7⟩, by simp [intOf]; omega⟩
            | exact ⟨⟨j + 1, came', s', l', hlt, hc', by go_num, rfl, HKep.out, k6⟩, by simp [intOf]; omega⟩)
    · obtain rfl : j = L.length := by omega
      have HK := hid HI.out.2.kept
      clear HI Hat
      go_wp2_with fail
      refine (Ha.out _).mono ?_
      rintro e w5 ⟨rfl, hk5⟩
      have HK5 := hid (HK.out.trans hk5)
      clear hk5
      go_wp2
      go_ret
      exact ⟨rfl, hbel.out _ HK5.out⟩

theorem netKeeps_walk (v : Value) (l : List Op4) (w : World) (hv : Ops4At w v l) : Calls Try.prog 6 #[v] w fun e w' => e = .returned (.bool true) ∧ Below w.heap.size w w' := by
  by_cases h : 200 < l.length
  · exact netKeeps_long v l h w hv
  · exact netKeeps_in v l (by omega) w hv

end Go.Proofs.Ytoejfbfecfpbeaa
