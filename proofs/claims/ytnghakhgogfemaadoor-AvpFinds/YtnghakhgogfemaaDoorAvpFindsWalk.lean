/- The walk of the law AvpFinds. -/
import Derived.Test.YtnghakhgogfemaaDoorAvArgs
namespace Go.Proofs.YtnghakhgogfemaaDoor
open Go.RowKit

theorem find_all {l : List Av} {k : Int} {j : Nat} {x : Av} (h : ∀ i y, i < j → l[i]? = some y → hitA k y = false) (hx : l[j]? = some x) (hp : hitA k x = true) : findA l k = some x := by
  refine findG_hit (p := hitA k) ?_ hx hp
  rw [List.find?_eq_none]
  intro y hy
  obtain ⟨i, hi⟩ := List.getElem?_of_mem hy
  have hl := (List.getElem?_eq_some_iff.1 hi).1
  rw [List.length_take] at hl
  rw [List.getElem?_take_of_lt (by omega)] at hi
  rw [h i y (by omega) hi]
  simp
theorem find_nil {l : List Av} {k : Int} (h : ∀ i y, i < l.length → l[i]? = some y → hitA k y = false) : findA l k = none := by
  show l.find? (hitA k) = none
  rw [List.find?_eq_none]
  intro y hy
  obtain ⟨i, hi⟩ := List.getElem?_of_mem hy
  rw [h i y (List.getElem?_eq_some_iff.1 hi).1 hi]
  simp

set_option maxHeartbeats 4000000 in
set_option maxRecDepth 100000 in
theorem avpFinds_walk (v : Value) (l : List Av) (k : Int) (w : World) (hI : AvsIn w v l) (_hk : -9223372036854775808 ≤ k ∧ k ≤ 9223372036854775807) (_hT : Tables w) :
    Calls Tryd.prog 6 #[v, .int .i64 k] w fun e w' => e = .returned (.bool true) ∧ Below w.heap.size w w' := by
  refine (?_ : Calls Tryd.prog 6 #[v, .int .i64 k] w fun e w' => e = .returned (.bool true) ∧ Kept (fun _ => False) w w').mono fun _ _ ⟨h1, h2⟩ => ⟨h1, below_of h2⟩
  have HL := hid (lightA_any v l w hI.at_ hI.len hI.size)
  have HA := hid aliveA_any
  obtain ⟨p, cap, hv⟩ := RowsAt.slice hI.at_
  cases hl : lightA l with
  | false =>
    rw [hl] at HL
    subst hv
    clear hl hI
    go_enter Tryd.func6, Tryd.ntmps6
    go_wp2_with fail
    refine HL.out.mono ?_
    rintro e w1 ⟨rfl, hk1⟩
    have HK1 := hid hk1
    clear hk1
    go_wp2_with fail
    refine (HA.out _).mono ?_
    rintro e w2 ⟨rfl, hk2⟩
    have HK2 := hid (HK1.out.trans hk2)
    clear hk2
    go_wp2
    go_ret
    exact ⟨rfl, HK2.out⟩
  | true =>
    rw [hl] at HL
    have hlen := (lightA_true hl).1
    have HIn := hid hI
    have HF := hid (fun W (hk : Kept (fun _ => False) w W) => findA_any v l k W (hI.kept hk).at_ (by omega) hI.size)
    have HE := hid (fun W (hk : Kept (fun _ => False) w W) => sameAv_any v v l l W (hI.kept hk).at_ (hI.kept hk).at_ (by omega) hI.good hI.good)
    rw [sameL_self] at HE
    have Hat : Hid (∀ (j : Nat) (x : Av), l[j]? = some x → ∀ W, Kept (fun _ => False) w W → ∃ g o, p = some ⟨g, o, none⟩ ∧ l.length ≤ cap ∧ W.cell? ⟨g, o + j * 5, none⟩ = some (.bool x.must) ∧ W.cell? ⟨g, o + j * 5 + 1, none⟩ = some (.bool x.hidden) ∧ W.cell? ⟨g, o + j * 5 + 2, none⟩ = some (.int .i64 x.vendor) ∧ W.cell? ⟨g, o + j * 5 + 3, none⟩ = some (.int .i64 x.type) ∧ W.cell? ⟨g, o + j * 5 + 4, none⟩ = some (.string x.value)) :=
      fun j x hj W hW => AvsAt.at5 (hv ▸ (hI.kept hW).at_) hj
    obtain ⟨S, hS⟩ : ∃ S, S = findAB l k := ⟨_, rfl⟩
    obtain ⟨B, hB⟩ : ∃ B, B = (findA l k).isSome := ⟨_, rfl⟩
    rw [← hS, ← hB] at HF
    have HS := hid (And.intro hS hB)
    subst hv
    clear hl hI hS hB
    have hl64 : (l.length : Int) ≤ 50 := by omega
    go_enter Tryd.func6, Tryd.ntmps6
    go_wp2_with fail
    refine HL.out.mono ?_
    rintro e w1 ⟨rfl, hk1⟩
    have HK1 := hid hk1
    clear hk1
    go_wp2_with fail
    refine (HF.out _ HK1.out).mono ?_
    rintro e w2 ⟨rfl, hk2⟩
    have HK2 := hid (HK1.out.trans hk2)
    clear hk2
    go_wp2
    go_loopw [7] (fun vi wr => ∃ j : Nat, j ≤ l.length ∧ vi = .int .i64 (j : Int) ∧ Hid ((∀ i y, i < j → l[i]? = some y → hitA k y = false) ∧ wr = w2)) (fun vi _ => l.length - (intOf vi).toNat)
    case atStart => exact ⟨0, Nat.zero_le _, rfl, fun i y hi => by omega, rfl⟩
    case round =>
      obtain ⟨j, hj, rfl, HJ⟩ := hrel
      obtain ⟨hno, hw⟩ := HJ.out
      rw [hw]
      clear HJ
      by_cases hlt : j < l.length
      · have hltz : (j : Int) < (l.length : Int) := by omega
        obtain ⟨x, hx⟩ : ∃ x, l[j]? = some x := ⟨l[j], by simp [hlt]⟩
        obtain ⟨g, o, rfl, hcap, r0, r1, r2, r3, r4⟩ := Hat.out j x hx w2 HK2.out
        cases hh : hitA k x with
        | true =>
          have hf := find_all hno hx hh
          have hs1 := HS.out.1
          have hs2 := HS.out.2
          rw [hf] at hs2
          unfold findAB at hs1
          rw [hf] at hs1
          simp only at hs1
          obtain ⟨e1, e2⟩ : (x.vendor == 0) = true ∧ (x.type == k) = true := by simpa [hitA] using hh
          have hB : B = true := hs2
          subst hB
          obtain ⟨m, q, n, t, V⟩ := x
          simp only at *
          subst hs1
          clear hno hw hx hh hf hs2 HS
          have r4' : ∀ W, Kept (fun _ => False) w2 W → W.cell? ⟨g, o + j * 5 + 4, none⟩ = some (.string S) := fun W hk => (hk.cell (lt_of_cell r4) id).trans r4
          go_wp2_with fail
          refine (HA.out _).mono ?_
          rintro e w3 ⟨rfl, hk3⟩
          have HK3 := hid (HK2.out.trans hk3)
          have r5 := r4' _ hk3
          clear hk3
          go_wp2
          go_ret
          exact ⟨by first | rfl | (cases S; rfl), HK3.out⟩
        | false =>
          have HN : Hid ((∀ i y, i < j + 1 → l[i]? = some y → hitA k y = false) ∧ w2 = w2) := ⟨fun i y hi hy => by
            by_cases hij : i = j
            · subst hij
              rw [hx] at hy
              cases hy
              exact hh
            · exact hno i y (by omega) hy, rfl⟩
          have hcase : (x.vendor == 0) = false ∨ ((x.vendor == 0) = true ∧ (x.type == k) = false) := by
            cases h1 : (x.vendor == 0) with
            | false => exact Or.inl rfl
            | true =>
              refine Or.inr ⟨rfl, ?_⟩
              unfold hitA at hh
              rw [h1, Bool.true_and] at hh
              exact hh
          obtain ⟨m, q, n, t, V⟩ := x
          simp only at *
          clear hno hw hx hh
          rcases hcase with e1 | ⟨e1, e2⟩
          · go_wp2
            exact ⟨⟨j + 1, hlt, by go_num, HN.out⟩, by simp [intOf]; omega⟩
          · go_wp2
            exact ⟨⟨j + 1, hlt, by go_num, HN.out⟩, by simp [intOf]; omega⟩
      · obtain rfl : j = l.length := by omega
        have hltz : ¬ (l.length : Int) < (l.length : Int) := by omega
        have hf := find_nil hno
        have hs1 := HS.out.1
        have hs2 := HS.out.2
        rw [hf] at hs2
        unfold findAB at hs1
        rw [hf] at hs1
        simp only at hs1
        have hB : B = false := hs2
        subst hB hs1
        clear hno hw hf hs2 HS hlt
        go_wp2_with fail
        refine (HA.out _).mono ?_
        rintro e w3 ⟨rfl, hk3⟩
        have HK3 := hid (HK2.out.trans hk3)
        clear hk3
        go_wp2_with fail
        refine (HE.out _ HK3.out).mono ?_
        rintro e w4 ⟨rfl, hk4⟩
        have HK4 := hid (HK3.out.trans hk4)
        clear hk4
        go_wp2
        go_ret
        exact ⟨rfl, HK4.out⟩
end Go.Proofs.YtnghakhgogfemaaDoor
