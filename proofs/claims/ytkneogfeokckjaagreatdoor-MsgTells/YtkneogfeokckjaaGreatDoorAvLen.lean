/- The contract of avp.Length; and the laws' Light. -/
import Derived.Test.YtkneogfeokckjaaGreatDoorAvLit
import Derived.Test.YtkneogfeokckjaaGreatDoorAvPut
namespace Go.Proofs.YtkneogfeokckjaaGreatDoor
open Go.RowKit

def lengthF (k : Int) : Int := match AvLit.lengthsR.find? (fun r => r.e == k) with | some r => r.n | none => -2
theorem len_rows : AvLit.lengthsR.all (fun r => (lengthF r.e == r.n) && (r.s == 0)) = true := by rfl
theorem key_one {w : World} {P : Program} {t : TypeId} {b : Nat} {M : List (Value × Value)} (h : Assoc w P t b M) {k v u : Value} (hv : (k, v) ∈ M) (hu : (k, u) ∈ M) : v = u := by
  obtain ⟨i, hi⟩ := List.mem_iff_getElem?.1 hv
  obtain ⟨j, hj⟩ := List.mem_iff_getElem?.1 hu
  have hp := List.pairwise_iff_getElem.1 h.keys
  obtain ⟨hi', ei⟩ := List.getElem?_eq_some_iff.1 hi
  obtain ⟨hj', ej⟩ := List.getElem?_eq_some_iff.1 hj
  rcases Nat.lt_trichotomy i j with hlt | rfl | hlt
  · have := hp i j hi' hj' hlt
    rw [ei, ej] at this
    exact absurd rfl this
  · rw [hi] at hj
    exact congrArg Prod.snd (Option.some.inj hj)
  · have := hp j i hj' hi' hlt
    rw [ei, ej] at this
    exact absurd rfl this
theorem len_look {w0 w : World} {v : Value} (h : AvLit.LitIs w0 w v AvLit.lengthsR) (k : Int) (hk : AvLit.In64 k) :
    (Instr.lookup 237 v (AvLit.keyV 0 k) true).run Tryz.prog w = .ok (.tuple #[.int .i64 (lengthF k), .bool true]) w ∨ (lengthF k = -2 ∧ (Instr.lookup 237 v (AvLit.keyV 0 k) true).run Tryz.prog w = .ok (.tuple #[.int .i64 0, .bool false]) w) := by
  obtain ⟨mb, M, rfl, hlo, hA, h1, h2⟩ := h
  obtain ⟨kl, hkl⟩ := AvLit.key_reads (k := 0) (i := k) ⟨by decide, by decide⟩ hk
  rcases hA.look true AvLit.keyLaw Tryz.underlying237 (AvLit.zeroEn w) hkl with ⟨hn, hr⟩ | ⟨u, hu, hr⟩
  · refine Or.inr ⟨?_, hr⟩
    unfold lengthF
    cases hf : AvLit.lengthsR.find? (fun r => r.e == k) with
    | none => rfl
    | some r =>
      have hm := List.mem_of_find?_eq_some hf
      have hp := List.find?_some hf
      have ha := List.all_eq_true.1 len_rows r hm
      simp only [Bool.and_eq_true, beq_iff_eq] at ha hp
      have := h1 r hm
      rw [ha.2, hp] at this
      exact absurd rfl (hn _ this)
  · left
    obtain ⟨r, hm, he⟩ := h2 _ hu
    have ha := List.all_eq_true.1 len_rows r hm
    simp only [Bool.and_eq_true, beq_iff_eq] at ha
    obtain ⟨e1, e2⟩ := AvLit.keyV_inj he
    have h3 := h1 r hm
    rw [← e1, ← e2] at h3
    have := key_one hA hu h3
    rw [hr, this, e2, ha.1]
    rfl

set_option maxHeartbeats 1000000 in
set_option maxRecDepth 100000 in
theorem length_any (k : Int) (hk : AvLit.In64 k) (w : World) : Calls Tryz.prog 178 #[.int .i64 k] w fun e w' => e = .returned (.int .i64 (lengthF k)) ∧ Kept (fun _ => False) w w' := by
  have HL := hid (AvLit.lengths_any w)
  have HK := hid (fun (w0 w : World) (v : Value) (h : AvLit.LitIs w0 w v AvLit.lengthsR) => len_look h k hk)
  obtain ⟨R, hR⟩ : ∃ R, R = lengthF k := ⟨_, rfl⟩
  rw [← hR] at HK ⊢
  clear hR hk
  unfold AvLit.keyV at HK
  go_enter Tryz.func178, Tryz.ntmps178
  go_wp2_with fail
  refine HL.out.mono ?_
  rintro e w1 ⟨v, rfl, hl, hk1⟩
  have HK1 := hid hk1
  rcases HK.out _ _ _ hl with hr | ⟨h2, hr⟩
  · clear hk1 hl HK HL
    go_wp2
    go_ret
    exact ⟨rfl, HK1.out⟩
  · have H2 := hid h2
    clear hk1 hl HK HL h2
    go_wp2
    go_ret
    exact ⟨by rw [H2.out]; rfl, HK1.out⟩

/-- Few and short values. -/
def sizeA (l : List Av) : Nat := (l.map (fun x => x.value.size)).sum
theorem sizeA_snoc (l : List Av) (x : Av) : sizeA (l ++ [x]) = sizeA l + x.value.size := by simp [sizeA]
def lightA (l : List Av) : Bool := decide (l.length ≤ 50) && decide (sizeA (l.take 60) ≤ 6000)
theorem sizeA_mem {l : List Av} {x : Av} (h : x ∈ l) : x.value.size ≤ sizeA l := by
  induction l with
  | nil => cases h
  | cons a r ih =>
    have e : sizeA (a :: r) = a.value.size + sizeA r := by simp [sizeA]
    rcases List.mem_cons.1 h with rfl | h
    · omega
    · have := ih h
      omega
theorem lightA_true {l : List Av} (h : lightA l = true) : l.length ≤ 50 ∧ ∀ x ∈ l, x.value.size ≤ 6000 := by
  simp only [lightA, Bool.and_eq_true, decide_eq_true_eq] at h
  obtain ⟨h1, h2⟩ := h
  rw [List.take_of_length_le (by omega)] at h2
  exact ⟨h1, fun x hx => Nat.le_trans (sizeA_mem hx) h2⟩

set_option maxHeartbeats 2000000 in
set_option maxRecDepth 100000 in
theorem lightA_any (v : Value) (l : List Av) (w : World) (hv : AvsAt w v l) (hl : l.length ≤ maxLen) (hsz : ∀ x ∈ l, x.value.size ≤ 140737488351232) :
    Calls Tryz.prog 4 #[v] w fun e w' => e = .returned (.bool (lightA l)) ∧ Kept (fun _ => False) w w' := by
  unfold maxLen at hl
  obtain ⟨p, cap, rfl⟩ := RowsAt.slice hv
  have Hat : Hid (∀ (j : Nat) (x : Av), l[j]? = some x → ∃ g o, p = some ⟨g, o, none⟩ ∧ l.length ≤ cap ∧ w.cell? ⟨g, o + j * 5, none⟩ = some (.bool x.must) ∧ w.cell? ⟨g, o + j * 5 + 1, none⟩ = some (.bool x.hidden) ∧ w.cell? ⟨g, o + j * 5 + 2, none⟩ = some (.int .i64 x.vendor) ∧ w.cell? ⟨g, o + j * 5 + 3, none⟩ = some (.int .i64 x.type) ∧ w.cell? ⟨g, o + j * 5 + 4, none⟩ = some (.string x.value)) :=
    fun j x hj => AvsAt.at5 hv hj
  have Hsz := hid hsz
  have hlz : (l.length : Int) ≤ 9223372036854775807 := by omega
  clear hv hsz
  go_enter Tryz.func4, Tryz.ntmps4
  go_wp2
  go_loopw [3, 4] (fun vn vi wr => ∃ j n : Nat, j ≤ l.length ∧ j ≤ 60 ∧ vi = .int .i64 (j : Int) ∧ vn = .int .i64 (n : Int) ∧ n ≤ j * 140737488351232 ∧ Hid (n = sizeA (l.take j) ∧ wr = w)) (fun _ vi _ => 60 - (intOf vi).toNat)
  case atStart => exact ⟨0, 0, Nat.zero_le _, Nat.zero_le _, rfl, rfl, Nat.zero_le _, rfl, rfl⟩
  case round =>
    obtain ⟨j, n, hj, hj6, rfl, rfl, hn, HI⟩ := hrel
    obtain rfl : wr = w := HI.out.2
    have HA := hid HI.out.1
    clear HI
    by_cases hc : j < l.length ∧ j < 60
    · have hltz : (j : Int) < (l.length : Int) := by omega
      have h5z : (j : Int) < 60 := by omega
      obtain ⟨x, hx⟩ : ∃ x, l[j]? = some x := ⟨l[j]'hc.1, by simp [hc.1]⟩
      obtain ⟨g, o, rfl, hcap, c0, c1, c2, c3, c4⟩ := Hat.out j x hx
      have hxs := Hsz.out x (List.mem_of_getElem? hx)
      have R : Hid (n + x.value.size = sizeA (l.take (j + 1))) := by
        show _ = _
        rw [take_next hx, sizeA_snoc, HA.out]
      clear hx
      go_wp2
      exact ⟨⟨j + 1, n + x.value.size, by omega, by omega, by go_num, by go_num, by omega, R.out, by first | rfl | trivial⟩, by simp [intOf]; omega⟩
    · have hst : Hid (sizeA (l.take j) = sizeA (l.take 60) ∨ 50 < l.length) := by
        by_cases h6 : j = 60
        · exact Or.inl (by rw [h6])
        · refine Or.inl ?_
          show _ = _
          rw [List.take_of_length_le (by omega), List.take_of_length_le (by omega)]
      by_cases h1 : j < l.length
      · have hltz : (j : Int) < (l.length : Int) := by omega
        have h5z : ¬ (j : Int) < 60 := by omega
        have h5 : ¬ (l.length : Int) ≤ 50 := by omega
        have HF : Hid (lightA l = false) := by
          show _ = _
          unfold lightA
          rw [show decide (l.length ≤ 50) = false from by rw [decide_eq_false_iff_not]; omega, Bool.false_and]
        clear hc hst
        go_wp2
        go_ret
        exact ⟨by rw [HF.out]; rfl, Kept.refl _ _⟩
      · have hltz : ¬ (j : Int) < (l.length : Int) := by omega
        by_cases h5 : (l.length : Int) ≤ 50
        · have hL : l.take 60 = l.take j := by rw [List.take_of_length_le (by omega), List.take_of_length_le (by omega)]
          have HF : Hid (lightA l = decide ((n : Int) ≤ 6000)) := by
            show _ = _
            unfold lightA
            rw [hL, ← HA.out, show decide (l.length ≤ 50) = true from by rw [decide_eq_true_iff]; omega, Bool.true_and, decide_eq_decide]
            omega
          clear hc hst hL
          go_wp2
          go_ret
          exact ⟨by rw [HF.out]; rfl, Kept.refl _ _⟩
        · have HF : Hid (lightA l = false) := by
            show _ = _
            unfold lightA
            rw [show decide (l.length ≤ 50) = false from by rw [decide_eq_false_iff_not]; omega, Bool.false_and]
          clear hc hst
          go_wp2
          go_ret
          exact ⟨by rw [HF.out]; rfl, Kept.refl _ _⟩
end Go.Proofs.YtkneogfeokckjaaGreatDoor
