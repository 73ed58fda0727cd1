/- The law TapeDraws: it returns true for every list, asks and bool, and leaves what was there. -/
import Derived.Test.YtmclldidmpeahaaAlive3
import Derived.Test.YtmclldidmpeahaaDrawsKit
import Derived.Deep.DeepCutAuto
import Derived.Deep.RegionHeld3
namespace Go.Proofs.Ytmclldidmpeahaa
open Go.RowKit

theorem IntsAt.keptL {S : Nat → Prop} {w w' : World} {v : Value} {l : List Int} (h : IntsAt w v l) (hk : Kept S w w') (hS : ∀ i, i < w.heap.size → ¬ S i) : IntsAt w' v l := by
  rcases h with h | ⟨ad, cap, e, h1, h2, hc⟩
  · exact Or.inl h
  · refine Or.inr ⟨ad, cap, e, h1, h2, fun j u hj => ?_⟩
    have := lt_of_cell (hc j u hj)
    exact (hk.cell this (hS _ this)).trans (hc j u hj)

theorem IntsAt.sliceL {w : World} {v : Value} {l : List Int} (h : IntsAt w v l) : ∃ p cap, v = .slice p l.length cap ∧ l.length ≤ cap ∧ cap ≤ maxLen := by
  rcases h with ⟨rfl, rfl⟩ | ⟨ad, cap, rfl, h1, h2, _⟩
  · exact ⟨none, 0, rfl, by simp, by simp⟩
  · exact ⟨_, cap, rfl, h1, h2⟩

set_option maxHeartbeats 1000000 in
set_option maxRecDepth 100000 in
theorem tapeDraws_out (p p' : Option Addr) (c c' m m' : Nat) (z : Bool) (hm : m ≤ maxLen) (hm' : m' ≤ maxLen) (h : 300 < m ∨ 300 < m') (w : World) :
    Calls Try.prog 3 #[.slice p m c, .slice p' m' c', .bool z] w fun e w' => e = .returned (.bool true) ∧ Below w.heap.size w w' := by
  unfold maxLen at hm hm'
  have Ha := hid alive_any
  by_cases h1 : 300 < m
  · go_enter Try.func3, Try.ntmps3
    go_wp2_with (go_at_call 8; refine (Ha.out _).mono ?_; rintro e w' ⟨rfl, hk⟩)
    all_goals go_ret
    all_goals exact ⟨rfl, hk.below (Nat.le_refl _) (fun _ h => h.elim)⟩
  · have h2 : 300 < m' := by omega
    clear h
    go_enter Try.func3, Try.ntmps3
    go_wp2_with (go_at_call 8; refine (Ha.out _).mono ?_; rintro e w' ⟨rfl, hk⟩)
    all_goals go_ret
    all_goals exact ⟨rfl, hk.below (Nat.le_refl _) (fun _ h => h.elim)⟩

/-- The marks' loop: what has turned. -/
def Marked (w3 wr : World) (g : Nat) : Prop := Kept (fun i => i = g) w3 wr ∧ Shape g w3 wr

theorem marked_open {w3 wr : World} {base g cap : Nat} {l : List Int} (h : Marked w3 wr g) (hL : LentAt w3 base g cap l) (j : Nat) (hj : j < l.length) : wr.frozen? ⟨g, j, none⟩ = false ∧ ∃ u, wr.cell? ⟨g, j, none⟩ = some u := by
  rcases hL.2 with ⟨h0, _⟩ | ⟨g', cap', cur, he, hb, hh, hn, hm, hs, ht⟩
  · cases h0
  · cases he
    obtain ⟨cur', hh', hs'⟩ := h.2 _ _ _ hh
    refine ⟨by simp [World.frozen?, hh'], cur'[j]'(by omega), ?_⟩
    simp [World.cell?, hh']

theorem marked_step {w3 wr : World} {g : Nat} (h : Marked w3 wr g) (j : Nat) (u : Value) : Marked w3 (wr.setCell ⟨g, j, none⟩ u) g :=
  ⟨h.1.setCell (p := ⟨g, j, none⟩) (Or.inr rfl) u, h.2.setCell _ rfl u⟩

theorem refTape_new {w2 : World} {v : Value} {p : Option Addr} {cap : Nat} {l : List Int} (hv : IntsAt w2 v l) (e : v = .slice p l.length cap) (hle : l.length ≤ cap) (t : TypeId) : IsTape (w2.alloc (.cells #[.slice p l.length cap, .int .i64 0] t)) w2.heap.size p cap l 0 := by
  refine ⟨by simp, by simp, fun i => by simp, hle, fun hne => ?_⟩
  rcases hv.form with ⟨rfl, _⟩ | ⟨g, o, cap', e', _, hc⟩
  · exact absurd rfl hne
  · rw [e] at e'
    cases e'
    match l, hne, hc with
    | x :: r, _, hc =>
      have h0 := lt_of_cell (hc 0 x rfl)
      exact ⟨g, o, rfl, by simp at h0; omega, fun j y hj => by rw [World.cell?_alloc_lt _ _ _ (lt_of_cell (hc j y hj))]; exact hc j y hj⟩

theorem lent_block {W : World} {base g cap : Nat} {l : List Int} (h : LentAt W base g cap l) : W.heap[g]? = some (W.heap[g]?.getD (.cells #[] 0)) := by
  rcases h.2 with ⟨h0, _⟩ | ⟨g', cap', cur, he, hb, hh, r⟩
  · cases h0
  · cases he
    rw [hh]
    rfl

theorem IntsAt.block {W : World} {p : Option Addr} {cap n : Nat} {l : List Int} (h : IntsAt W (.slice p n cap) l) : ∀ i, onTape p l i → i < W.heap.size := by
  rintro i ⟨hne, a, e, rfl⟩
  rcases h.form with ⟨h0, _⟩ | ⟨g, o, cap', e', _, hc⟩
  · exact absurd h0 hne
  · cases e'
    cases e
    match l, hne, hc with
    | x :: r, _, hc => exact lt_of_cell (hc 0 x rfl)

theorem IntsAt.at {W : World} {p : Option Addr} {cap n : Nat} {l : List Int} (h : IntsAt W (.slice p n cap) l) (j : Nat) (x : Int) (hj : l[j]? = some x) : ∃ g o, p = some ⟨g, o, none⟩ ∧ g < W.heap.size ∧ W.cell? ⟨g, o + j, none⟩ = some (.int .i64 x) := by
  rcases h.form with ⟨rfl, _⟩ | ⟨g, o, cap', e', _, hc⟩
  · cases hj
  · cases e'
    exact ⟨g, o, rfl, lt_of_cell (hc j x hj), hc j x hj⟩

theorem zero_pair {w wr : World} {ta rb : Nat} {l : List Int} (h : Pair w wr ta rb l 0) (t t' : TypeId) :
    Pair w ((wr.alloc (.cells #[.slice none 0 0, .int .i64 0] t)).alloc (.cells #[.slice none 0 0, .int .i64 0] t')) wr.heap.size (wr.heap.size + 1) [] 0 := by
  obtain ⟨_, _, _, _, _, hk⟩ := h
  have hs := hk.size
  have hz : (wr.alloc (.cells #[.slice none 0 0, .int .i64 0] t)).heap.size = wr.heap.size + 1 := by simp
  have t1 : IsTape ((wr.alloc (.cells #[.slice none 0 0, .int .i64 0] t)).alloc (.cells #[.slice none 0 0, .int .i64 0] t')) wr.heap.size none 0 [] 0 := by
    have h0 : IsTape (wr.alloc (.cells #[.slice none 0 0, .int .i64 0] t)) wr.heap.size none 0 [] 0 := ⟨by simp, by simp, fun i => by simp, Nat.le_refl _, fun h => absurd rfl h⟩
    exact h0.kept (S := fun _ => False) ((Kept.refl _ _).alloc _) id (fun _ _ => id)
  have t2 : IsTape ((wr.alloc (.cells #[.slice none 0 0, .int .i64 0] t)).alloc (.cells #[.slice none 0 0, .int .i64 0] t')) (wr.heap.size + 1) none 0 [] 0 := by
    rw [← hz]
    exact ⟨by simp, by simp, fun i => by simp, Nat.le_refl _, fun h => absurd rfl h⟩
  exact ⟨⟨none, 0, t1, fun i hi => absurd rfl hi.1⟩, ⟨none, 0, t2, fun i hi => absurd rfl hi.1⟩, by omega, by omega, by omega, (hk.alloc _).alloc _⟩

set_option maxHeartbeats 4000000 in
set_option maxRecDepth 100000 in
theorem tapeDraws_in (v va : Value) (l asks : List Int) (z : Bool) (h1 : l.length ≤ 300) (h2 : asks.length ≤ 300) (hI : ∀ x ∈ asks, In64 x) (w : World) (hv : IntsAt w v l) (hva : IntsAt w va asks) :
    Calls Try.prog 3 #[v, va, .bool z] w fun e w' => e = .returned (.bool true) ∧ Below w.heap.size w w' := by
  obtain ⟨p0, cap0, hve, hle0, _⟩ := hv.sliceL
  obtain ⟨pa0, capa0, hvae, hlea, _⟩ := hva.sliceL
  have Ha := hid alive_any
  have Hv := hid hv
  have Hva := hid hva
  have Hlent := hid (lent_any v l (by omega) w hv)
  have Hse := hid hve
  subst hve hvae
  clear hv hva
  go_enter Try.func3, Try.ntmps3
  go_wp2_with fail
  refine Hlent.out.mono ?_
  rintro e w1 ⟨g, cap, rfl, hg, hcap, hL, hk1⟩
  have Hv1 := hid (Hv.out.keptL hk1 (fun _ _ => id))
  have Hk1 := hid hk1
  have HL := hid hL
  have Hnew := hid (new_some ⟨g, 0, none⟩ cap l (by omega) w1 (fun j u hj => by
    have ha : (⟨g, 0, none⟩ : Addr).add j = ⟨g, j, none⟩ := by
      unfold Addr.add
      split <;> simp_all
    rw [ha]
    unfold intCells at hj
    rw [List.getElem?_map] at hj
    cases hx : l[j]? with
    | none => rw [hx] at hj; cases hj
    | some x =>
      rw [hx] at hj
      cases hj
      exact hL.cell j x (by rw [List.getElem?_append_left (List.getElem?_eq_some_iff.1 hx).1]; exact hx)))
  clear hk1 hL Hlent
  go_wp2_with fail
  refine Hnew.out.mono ?_
  rintro e w2 ⟨ta, pa, ca, rfl, hta, hpa, hA, hk2⟩
  have Hk2 := hid hk2
  have HA := hid hA
  have htal := hA.lt
  have Hv2 := hid (Hv1.out.keptL hk2 (fun _ _ => id))
  clear hk2 hA Hnew
  go_wp2_with fail
  have HLa := hid (show LentAt (w2.alloc (.cells #[.slice p0 l.length cap0, .int .i64 0] 29)) w.heap.size g cap l from rowKept HL.out (Hk2.out.alloc _) (fun _ _ => id))
  have Hva2 := hid (Hv2.out.keptL ((Kept.refl (fun _ => False) w2).alloc (.cells #[.slice p0 l.length cap0, .int .i64 0] 29)) (fun _ _ => id))
  have HR := hid (refTape_new Hv2.out rfl hle0 29)
  refine (staysInts_any w.heap.size g cap _ l (by omega) _ HLa.out hcap Hva2.out).mono ?_
  rintro e w3' ⟨rfl, q, hw3⟩
  obtain ⟨rb, hrb⟩ : ∃ rb, rb = w2.heap.size := ⟨_, rfl⟩
  have hgl : g < w1.heap.size := (Array.getElem?_eq_some_iff.1 (lent_block HL.out)).1
  have hpair : Pair w w3' ta rb l 0 ∧ LentAt w3' w.heap.size g cap l ∧ (∃ pa ca, IsTape w3' ta pa ca l 0 ∧ ∀ i, onTape pa l i → w1.heap.size ≤ i ∧ i ≠ rb) ∧ (∃ pr cr, IsTape w3' rb pr cr l 0 ∧ ∀ i, onTape pr l i → i < w.heap.size) := by
    have hkq : Kept (fun _ => False) w2 w3' := by rw [hw3]; exact ((Kept.refl _ w2).alloc _).drewN q
    have hkr : Kept (fun _ => False) (w2.alloc (.cells #[.slice p0 l.length cap0, .int .i64 0] 29)) w3' := by rw [hw3]; exact (Kept.refl _ _).drewN q
    have hTA := HA.out.kept hkq id (fun _ _ => id)
    have hTR := HR.out.kept hkr id (fun _ _ => id)
    rw [← hrb] at hTR
    have hpi : ∀ i, onTape pa l i → w1.heap.size ≤ i ∧ i ≠ rb := fun i hi => ⟨hpa i hi, by have := HA.out.rows i hi; omega⟩
    have hpr : ∀ i, onTape p0 l i → i < w.heap.size := Hv.out.block
    have hk12 : Kept (fun _ => False) w w3' := (Hk1.out.trans Hk2.out).trans hkq
    have hs1 := Hk1.out.size
    have hs2 := Hk2.out.size
    exact ⟨⟨⟨pa, ca, hTA, fun i hi => (hpi i hi).2⟩, ⟨p0, cap0, hTR, fun i hi e => by have := hpr i hi; omega⟩, by omega, by omega, by omega, hk12⟩, rowKept HLa.out hkr (fun _ _ => id), ⟨pa, ca, hTA, hpi⟩, ⟨p0, cap0, hTR, hpr⟩⟩
  have hs1 := Hk1.out.size
  have hs2 := Hk2.out.size
  have HP := hid hpair.1
  have HL3 := hid hpair.2.1
  have HT := hid hpair.2.2
  have hrb1 : w2.heap.size ≤ rb := by omega
  rw [← hrb]
  clear hpair hw3 HLa Hva2 HR HA HL Hk1 Hk2 Hv1 Hv2 hrb
  generalize w3' = w3 at *
  go_wp2
  go_loopw [10] (fun s wr => ∃ j : Nat, j ≤ l.length ∧ s = .int .i64 (j : Int) ∧ Marked w3 wr g) (fun s _ => l.length - (intOf s).toNat)
  case atStart => exact ⟨0, Nat.zero_le _, rfl, Kept.refl _ _, Shape.same rfl⟩
  case round =>
    obtain ⟨j, hj, rfl, hM⟩ := hrel
    by_cases hlt : j < l.length
    · obtain ⟨hfz, u, hcl⟩ := marked_open hM HL3.out j hlt
      have R := hid (marked_step hM j (.int .i64 5))
      clear hM
      go_wp2
      exact ⟨⟨j + 1, hlt, by go_num, R.out⟩, by simp [intOf]; omega⟩
    · have hP : Pair w wr ta rb l 0 := by
        obtain ⟨⟨pa', ca', t1, t2⟩, ⟨pr', cr', t3, t4⟩⟩ := HT.out
        obtain ⟨_, _, t5, t6, t7, t8⟩ := HP.out
        exact ⟨⟨pa', ca', t1.kept hM.1 (by omega) (fun i hi e => by have := (t2 i hi).1; omega), fun i hi => (t2 i hi).2⟩, ⟨pr', cr', t3.kept hM.1 (by omega) (fun i hi e => by have := t4 i hi; omega), fun i hi e => by have := t4 i hi; omega⟩, t5, t6, t7, t8.andThen hM.1 (fun i hi e => by omega)⟩
      have HP2 := hid hP
      clear hM hP HT HP HL3
      go_upto_if 46 with fail
      go_cut [8, 9] (fun v8 v9 wx => ∃ ta' rb' L, v8 = .pointer (some ⟨ta', 0, none⟩) ∧ v9 = .pointer (some ⟨rb', 0, none⟩) ∧ Pair w wx ta' rb' L 0)
      case first =>
        cases z with
        | true =>
          go_wp2
          go_meet
          exact ⟨_, _, [], rfl, rfl, zero_pair HP2.out _ _⟩
        | false =>
          go_wp2
          go_meet
          exact ⟨_, _, _, rfl, rfl, HP2.out⟩
      case rest =>
        obtain ⟨ta', rb', L, rfl, rfl, hPc⟩ := hcut
        clear HP2
        go_wp2
        go_loopw [11] (fun s wr => ∃ j : Nat, j ≤ asks.length ∧ s = .int .i64 (j : Int) ∧ ∃ L asked, Pair w wr ta' rb' L asked ∧ asked ≤ 64 * j) (fun s _ => asks.length - (intOf s).toNat)
        case atStart => exact ⟨0, Nat.zero_le _, rfl, _, 0, hPc, Nat.zero_le _⟩
        case round =>
          obtain ⟨j, hj, rfl, L, asked, hP, hal⟩ := hrel
          clear hPc
          by_cases hlt : j < asks.length
          · obtain ⟨x, hx⟩ : ∃ x, asks[j]? = some x := ⟨asks[j], List.getElem?_eq_getElem hlt⟩
            obtain ⟨ag, ao, rfl, hagl, hac⟩ := Hva.out.at j x hx
            have hxI := hI x (List.mem_of_getElem? hx)
            have Hcell := hid (fun W (h : Kept (fun _ => False) w W) => (h.cell (p := ⟨ag, ao + j, none⟩) hagl id).trans hac)
            have Hdr := hid hP.drew
            have c0 := Hcell.out wr hP.2.2.2.2.2
            have hd0 := Hcell.out wr.drew hP.drew.2.2.2.2.2
            obtain ⟨k, hk⟩ := and127 x
            clear hx hac hP
            by_cases h5 : j % 5 = 4
            · have e5 : (((j : Int).tmod 5) == 4) = true := by rw [beq_iff_eq, Int.tmod_eq_emod_of_nonneg (by omega)]; omega
              have e6 : (((j : Int) % 5) == 4) = true := by rw [beq_iff_eq]; omega
              go_wp2
              go_region_held3 (fun W => W.cell? ⟨ag, ao + j, none⟩ = some (.int .i64 x)) (first | assumption | go_keep) (first
                | (go_at_call 12; refine (Pair.first Hdr.out (fun p cap h => bytesI ta' p cap L asked k (by omega) _ h)).mono ?_; rintro e w5 ⟨rfl, hH⟩; have zc := Hcell.out w5 hH.2.2.2.2.2)
                | (go_at_call 13; refine (Half.second hH (fun p cap h => refBytesI rb' p cap L asked k (by omega) _ h)).mono ?_; rintro e w6 ⟨rfl, hP6⟩; have zd := Hcell.out w6 hP6.2.2.2.2.2))
              all_goals have hb6 := askB_le L asked k
              all_goals obtain ⟨⟨pa6, ca6, T6, o6⟩, ⟨pr6, cr6, R6, s6⟩, n6, m6, r6, k6⟩ := hP6
              all_goals have T6' := hid (T6.kept (S := fun _ => False) (Kept.refl _ _).drew id (fun _ _ => id))
              all_goals have z6 := R6.c0
              all_goals have P7 := hid (Pair.drew ⟨⟨pa6, ca6, T6, o6⟩, ⟨pr6, cr6, R6, s6⟩, n6, m6, r6, k6⟩)
              all_goals clear T6 R6 o6 s6 k6
              all_goals generalize restB L k = L6 at *
              all_goals generalize askB L asked k = a6 at *
              all_goals go_wp2
              all_goals go_region_held3 (fun W => W.cell? ⟨rb', 0, none⟩ = some (.slice pr6 L6.length cr6)) (first | assumption | go_keep) (first
                | (go_at_call 16; refine (left_any ta' pa6 ca6 L6 a6 _ T6'.out).mono ?_; rintro e w' ⟨rfl, rfl⟩))
              all_goals go_wp2
              all_goals exact ⟨⟨j + 1, hlt, by go_num, L6, a6, P7.out, by omega⟩, by simp [intOf]; omega⟩
            · have e5 : (((j : Int).tmod 5) == 4) = false := by rw [beq_eq_false_iff_ne, Int.tmod_eq_emod_of_nonneg (by omega)]; omega
              have e6 : (((j : Int) % 5) == 4) = false := by rw [beq_eq_false_iff_ne]; omega
              go_wp2
              go_region_held3 (fun W => W.cell? ⟨ag, ao + j, none⟩ = some (.int .i64 x)) (first | assumption | go_keep) (first
                | (go_at_call 14; refine (Pair.first Hdr.out (fun p cap h => nextI ta' p cap L asked x hxI (by omega) _ h)).mono ?_; rintro e w5 ⟨rfl, hH⟩; have zc := Hcell.out w5 hH.2.2.2.2.2)
                | (go_at_call 15; refine (Half.second hH (fun p cap h => refNextI rb' p cap L asked x hxI (by omega) _ h)).mono ?_; rintro e w6 ⟨rfl, hP6⟩; have zd := Hcell.out w6 hP6.2.2.2.2.2))
              all_goals have hb6 := askN_le L asked x
              all_goals obtain ⟨⟨pa6, ca6, T6, o6⟩, ⟨pr6, cr6, R6, s6⟩, n6, m6, r6, k6⟩ := hP6
              all_goals have T6' := hid (T6.kept (S := fun _ => False) (Kept.refl _ _).drew id (fun _ _ => id))
              all_goals have z6 := R6.c0
              all_goals have P7 := hid (Pair.drew ⟨⟨pa6, ca6, T6, o6⟩, ⟨pr6, cr6, R6, s6⟩, n6, m6, r6, k6⟩)
              all_goals clear T6 R6 o6 s6 k6
              all_goals generalize restN L x = L6 at *
              all_goals generalize askN L asked x = a6 at *
              all_goals go_wp2
              all_goals go_region_held3 (fun W => W.cell? ⟨rb', 0, none⟩ = some (.slice pr6 L6.length cr6)) (first | assumption | go_keep) (first
                | (go_at_call 16; refine (left_any ta' pa6 ca6 L6 a6 _ T6'.out).mono ?_; rintro e w' ⟨rfl, rfl⟩))
              all_goals go_wp2
              all_goals exact ⟨⟨j + 1, hlt, by go_num, L6, a6, P7.out, by omega⟩, by simp [intOf]; omega⟩
          · have hkw := hP.2.2.2.2.2
            clear hP
            go_wp2_with fail
            refine (Ha.out _).mono ?_
            rintro e w5 ⟨rfl, hk5⟩
            have hk6 := hkw.trans hk5
            clear hk5 hkw
            go_wp2_with (first
              | (go_at_call 14; refine (next_nil _ _).mono ?_; rintro e w' ⟨rfl, rfl⟩)
              | (go_at_call 10; refine (new_nil _).mono ?_; rintro e w7 ⟨tn, pn, cn, rfl, _, _, hTn, hk7⟩)
              | (go_at_call_of 16 (Value.pointer none); refine (left_nil _).mono ?_; rintro e w' ⟨rfl, rfl⟩)
              | (go_at_call 16; refine (left_any tn pn cn [] 0 _ hTn).mono ?_; rintro e w' ⟨rfl, rfl⟩))
            go_ret
            exact ⟨rfl, (hk6.trans hk7).below (Nat.le_refl _) (fun _ h => h.elim)⟩

theorem tapeDraws_walk (v : Value) (l : List Int) (va : Value) (asks : List Int) (z : Bool) (w : World) (hv : IntsAt w v l ∧ ∀ x ∈ l, In64 x) (hva : IntsAt w va asks ∧ ∀ x ∈ asks, In64 x) :
    Calls Try.prog 3 #[v, va, .bool z] w fun e w' => e = .returned (.bool true) ∧ Below w.heap.size w w' := by
  by_cases h : 300 < l.length ∨ 300 < asks.length
  · obtain ⟨p, c, rfl, h1, h2⟩ := hv.1.sliceL
    obtain ⟨p', c', rfl, h3, h4⟩ := hva.1.sliceL
    exact tapeDraws_out p p' c c' l.length asks.length z (by omega) (by omega) h w
  · exact tapeDraws_in v va l asks z (by omega) (by omega) hva.2 w hv.1 hva.1
end Go.Proofs.Ytmclldidmpeahaa
