/- The contracts of avp's Find and Number. -/
import Derived.Test.YtnghakhgogfemaaDoorAvPut
import Derived.Deep.DeepCutAuto
namespace Go.Proofs.YtnghakhgogfemaaDoor
open Go.RowKit

theorem findG_hit {α : Type} {l : List α} {p : α → Bool} {j : Nat} {x : α} (h : (l.take j).find? p = none) (hx : l[j]? = some x) (hp : p x = true) : l.find? p = some x := by
  have e : l = l.take j ++ l.drop j := (List.take_append_drop j l).symm
  rw [e, List.find?_append, h, drop_at hx, List.find?_cons, hp]
  rfl
theorem findG_on {α : Type} {l : List α} {p : α → Bool} {j : Nat} {x : α} (h : (l.take j).find? p = none) (hx : l[j]? = some x) (hp : p x = false) : (l.take (j + 1)).find? p = none := by
  rw [take_next hx, List.find?_append, h]
  simp [hp]
def hitA (k : Int) (x : Av) : Bool := (x.vendor == 0) && (x.type == k)

set_option maxHeartbeats 2000000 in
set_option maxRecDepth 100000 in
theorem findA_any (v : Value) (l : List Av) (k : Int) (w : World) (hv : AvsAt w v l) (hl : l.length ≤ 1000000) (hsz : ∀ x ∈ l, x.value.size ≤ 140737488351232) :
    Calls Tryd.prog 14 #[v, .int .i64 k] w fun e w' => e = .returned (.tuple #[.string (findAB l k), .bool (findA l k).isSome]) ∧ Kept (fun _ => False) w w' := by
  obtain ⟨p, cap, rfl⟩ := RowsAt.slice hv
  have Hat : Hid (∀ (j : Nat) (x : Av), l[j]? = some x → ∀ W, Kept (fun _ => False) w W → ∃ g o, p = some ⟨g, o, none⟩ ∧ l.length ≤ cap ∧ W.cell? ⟨g, o + j * 5, none⟩ = some (.bool x.must) ∧ W.cell? ⟨g, o + j * 5 + 1, none⟩ = some (.bool x.hidden) ∧ W.cell? ⟨g, o + j * 5 + 2, none⟩ = some (.int .i64 x.vendor) ∧ W.cell? ⟨g, o + j * 5 + 3, none⟩ = some (.int .i64 x.type) ∧ W.cell? ⟨g, o + j * 5 + 4, none⟩ = some (.string x.value)) :=
    fun j x hj W hW => AvsAt.at5 (RowsAt.kept0 hv hW) hj
  have Hsz := hid hsz
  clear hv hsz
  go_enter Tryd.func14, Tryd.ntmps14
  go_wp2
  go_loopw [10] (fun vi wr => ∃ j : Nat, j ≤ l.length ∧ vi = .int .i64 (j : Int) ∧ Hid ((l.take j).find? (hitA k) = none ∧ Kept (fun _ => False) w wr)) (fun vi _ => l.length - (intOf vi).toNat)
  case atStart => exact ⟨0, Nat.zero_le _, rfl, rfl, Kept.refl _ _⟩
  case round =>
    obtain ⟨j, hj, rfl, HI⟩ := hrel
    by_cases hlt : j < l.length
    · have hltz : (j : Int) < (l.length : Int) := by omega
      obtain ⟨x, hx⟩ : ∃ x, l[j]? = some x := ⟨l[j], by simp [hlt]⟩
      obtain ⟨g, o, rfl, hcap, r0, r1, r2, r3, r4⟩ := Hat.out j x hx wr HI.out.2
      have hxs := Hsz.out x (List.mem_of_getElem? hx)
      have HK := hid (HI.out.2.alloc (.cells #[.bool x.must, .bool x.hidden, .int .i64 x.vendor, .int .i64 x.type, .string x.value] 33))
      have HC := hid (fun W => clone_any x.value W (by omega))
      obtain ⟨a0, a1, a2, a3, a4⟩ := (AvAt.new wr x).cells
      cases hh : hitA k x with
      | true =>
        have hF := findG_hit HI.out.1 hx hh
        have HF : Hid (findAB l k = x.value ∧ (findA l k).isSome = true) := by
          have : findA l k = some x := hF
          show _ ∧ _
          unfold findAB
          rw [this]
          exact ⟨rfl, rfl⟩
        obtain ⟨e1, e2⟩ : (x.vendor == 0) = true ∧ (x.type == k) = true := by simpa [hitA] using hh
        clear hF hx HI hh hxs
        obtain ⟨m, q, n, t, V⟩ := x
        simp only at *
        go_wp2_with fail
        refine (HC.out _).mono ?_
        rintro e w1 ⟨rfl, hb1⟩
        have HK1 := hid (HK.out.trans (kept_of hb1))
        clear hb1
        go_wp2
        go_ret2
        exact ⟨by rw [HF.out.1, HF.out.2]; rfl, HK1.out⟩
      | false =>
        have HF := hid (findG_on HI.out.1 hx hh)
        have hcase : (x.vendor == 0) = false ∨ ((x.vendor == 0) = true ∧ (x.type == k) = false) := by
          cases h1 : (x.vendor == 0) with
          | false => exact Or.inl rfl
          | true =>
            refine Or.inr ⟨rfl, ?_⟩
            unfold hitA at hh
            rw [h1, Bool.true_and] at hh
            exact hh
        clear hx HI hh hxs HC
        obtain ⟨m, q, n, t, V⟩ := x
        simp only at *
        rcases hcase with e1 | ⟨e1, e2⟩
        · go_wp2
          exact ⟨⟨j + 1, hlt, by go_num, HF.out, HK.out⟩, by simp [intOf]; omega⟩
        · go_wp2
          exact ⟨⟨j + 1, hlt, by go_num, HF.out, HK.out⟩, by simp [intOf]; omega⟩
    · obtain rfl : j = l.length := by omega
      have hltz : ¬ (l.length : Int) < (l.length : Int) := by omega
      obtain ⟨hF, hk⟩ := HI.out
      rw [List.take_length] at hF
      have HF : Hid (findAB l k = ⟨#[]⟩ ∧ (findA l k).isSome = false) := by
        have : findA l k = none := hF
        show _ ∧ _
        unfold findAB
        rw [this]
        exact ⟨rfl, rfl⟩
      clear hF HI hlt
      go_wp2
      go_ret2
      exact ⟨by rw [HF.out.1, HF.out.2]; rfl, hk⟩

set_option maxHeartbeats 2000000 in
set_option maxRecDepth 100000 in
theorem numberA_any (v : Value) (l : List Av) (k : Int) (w : World) (hv : AvsAt w v l) (hl : l.length ≤ 1000000) (hsz : ∀ x ∈ l, x.value.size ≤ 140737488351232) :
    Calls Tryd.prog 13 #[v, .int .i64 k] w fun e w' => e = .returned (.tuple #[.int .i64 ((numberA l k).1 : Int), .bool (numberA l k).2]) ∧ Kept (fun _ => False) w w' := by
  have HF := hid (findA_any v l k w hv hl hsz)
  have hs : (findAB l k).size ≤ 140737488351232 := by
    unfold findAB
    cases h : findA l k with
    | none => exact Nat.zero_le _
    | some x => exact hsz x (List.mem_of_find?_eq_some h)
  unfold numberA
  obtain ⟨p, cap, rfl⟩ := RowsAt.slice hv
  clear hv hl hsz
  generalize findAB l k = s at *
  generalize (findA l k).isSome = B at *
  cases B with
  | false =>
    rw [if_neg (by simp)]
    go_enter Tryd.func13, Tryd.ntmps13
    go_wp2_with fail
    refine HF.out.mono ?_
    rintro e w1 ⟨rfl, hk1⟩
    go_wp2
    go_ret2
    exact ⟨rfl, hk1⟩
  | true =>
    by_cases h0 : s.size = 0
    · rw [if_neg (by omega)]
      obtain rfl := str_nil s h0
      clear h0
      go_enter Tryd.func13, Tryd.ntmps13
      go_wp2_with fail
      refine HF.out.mono ?_
      rintro e w1 ⟨rfl, hk1⟩
      go_wp2
      go_ret2
      exact ⟨rfl, hk1⟩
    · have hne := str_full h0
      by_cases h7 : 7 < s.size
      · rw [if_neg (by omega)]
        have h7z : (7 : Int) < (s.size : Int) := by omega
        clear h0
        go_enter Tryd.func13, Tryd.ntmps13
        go_wp2_with fail
        refine HF.out.mono ?_
        rintro e w1 ⟨rfl, hk1⟩
        go_wp2
        go_ret2
        exact ⟨rfl, hk1⟩
      · rw [if_pos ⟨rfl, by omega, by omega⟩]
        have h7z : ¬ (7 : Int) < (s.size : Int) := by omega
        clear h0
        go_enter Tryd.func13, Tryd.ntmps13
        go_wp2_with fail
        refine HF.out.mono ?_
        rintro e w1 ⟨rfl, hk1⟩
        have HK1 := hid hk1
        clear hk1
        go_wp2
        go_loopw [8, 29] (fun v i wr => ∃ k : Nat, k ≤ s.size ∧ i = .int .i64 (k : Int) ∧ v = .int .i64 (numOf (s.data.toList.take k) : Int) ∧ wr = w1) (fun _ i _ => s.size - (intOf i).toNat)
        case atStart => exact ⟨0, Nat.zero_le _, rfl, rfl, rfl⟩
        case round =>
          obtain ⟨k, hk, rfl, rfl, rfl⟩ := hrel
          have hl := numOf_lt (s.data.toList.take k)
          have hle : (s.data.toList.take k).length = k := by rw [List.length_take, ← Lib.size_eq]; omega
          rw [hle] at hl
          by_cases hlt : k < s.size
          · have hp : 256 ^ k ≤ 256 ^ 6 := Nat.pow_le_pow_right (by decide) (by omega)
            have hlt4 : numOf (s.data.toList.take k) < 281474976710656 := by omega
            have hltz : (k : Int) < (s.size : Int) := by omega
            have hts := take_snoc s k hlt
            have hb := s[k].toNat_lt
            have e1 := i64_or_byte (numOf (s.data.toList.take k)) s[k].toNat (by omega) hb
            have HS : Hid (numOf (s.data.toList.take (k + 1)) = numOf (s.data.toList.take k) * 256 + s[k].toNat) := by rw [hts]; exact numOf_snoc _ _
            clear hts hl hle hp
            go_wp2
            exact ⟨⟨k + 1, by omega, by go_num, by rw [HS.out]; go_num, by first | rfl | trivial⟩, by simp [intOf]; omega⟩
          · obtain rfl : k = s.size := by omega
            have hltz : ¬ (s.size : Int) < (s.size : Int) := by omega
            have hA : s.data.toList.take s.size = s.data.toList := List.take_of_length_le (by rw [← Lib.size_eq]; omega)
            rw [hA]
            clear hl hle hA
            go_wp2
            go_ret2
            exact ⟨rfl, HK1.out⟩
end Go.Proofs.YtnghakhgogfemaaDoor
