/- The contracts of avp's Find and Number. -/
import Derived.Test.YtkneogfeokckjaaGreatDoorAvPut
import Derived.Deep.DeepCutAuto
namespace Go.Proofs.YtkneogfeokckjaaGreatDoor
open Go.RowKit

theorem findG_hit {α : Type} {l : List α} {p : α → Bool} {j : Nat} {x : α} (h : (l.take j).find? p = none) (hx : l[j]? = some x) (hp : p x = true) : l.find? p = some x := by
  have e : l = l.take j ++ l.drop j := (List.take_append_drop j l).symm
  rw [e, List.find?_append, h, drop_at hx, List.find?_cons, hp]
  rfl
theorem findG_on {α : Type} {l : List α} {p : α → Bool} {j : Nat} {x : α} (h : (l.take j).find? p = none) (hx : l[j]? = some x) (hp : p x = false) : (l.take (j + 1)).find? p = none := by
  rw [take_next hx, List.find?_append, h]
  simp [hp]
def hitA (k : Int) (x : Av) : Bool := (x.vendor == 0) && (x.type == k)

set_option maxHeartbeats 2000000 in
set_option maxRecDepth 100000 in
theorem findA_any (v : Value) (l : List Av) (k : Int) (w : World) (hv : AvsAt w v l) (hl : l.length ≤ 1000000) (hsz : ∀ x ∈ l, x.value.size ≤ 140737488351232) :
    Calls Tryz.prog 47 #[v, .int .i64 k] w fun e w' => e = .returned (.tuple #[.string (findAB l k), .bool (findA l k).isSome]) ∧ Kept (fun _ => False) w w' := by
  obtain ⟨p, cap, rfl⟩ := RowsAt.slice hv
  have Hat : Hid (∀ (j : Nat) (x : Av), l[j]? = some x → ∀ W, Kept (fun _ => False) w W → ∃ g o, p = some ⟨g, o, none⟩ ∧ l.length ≤ cap ∧ W.cell? ⟨g, o + j * 5, none⟩ = some (.bool x.must) ∧ W.cell? ⟨g, o + j * 5 + 1, none⟩ = some (.bool x.hidden) ∧ W.cell? ⟨g, o + j * 5 + 2, none⟩ = some (.int .i64 x.vendor) ∧ W.cell? ⟨g, o + j * 5 + 3, none⟩ = some (.int .i64 x.type) ∧ W.cell? ⟨g, o + j * 5 + 4, none⟩ = some (.string x.value)) :=
    fun j x hj W hW => AvsAt.at5 (RowsAt.kept0 hv hW) hj
  have Hsz := hid hsz
  clear hv hsz
  go_enter Tryz.func47, Tryz.ntmps47
  go_wp2
  go_loopw [10] (fun vi wr => ∃ j : Nat, j ≤ l.length ∧ vi = .int .i64 (j : Int) ∧ Hid ((l.take j).find? (hitA k) = none ∧ Kept (fun _ => False) w wr)) (fun vi _ => l.length - (intOf vi).toNat)
  case atStart => exact ⟨0, Nat.zero_le _, rfl, rfl, Kept.refl _ _⟩
  case round =>
    obtain ⟨j, hj, rfl, HI⟩ := hrel
    by_cases hlt : j < l.length
    · have hltz : (j : Int) < (l.length : Int) := by omega
      obtain ⟨x, hx⟩ : ∃ x, l[j]? = some x := ⟨l[j], by simp [hlt]⟩
      obtain ⟨g, o, rfl, hcap, r0, r1, r2, r3, r4⟩ := Hat.out j x hx wr HI.out.2
      have hxs := Hsz.out x (List.mem_of_getElem? hx)
      have HK := hid (HI.out.2.alloc (.cells #[.bool x.must, .bool x.hidden, .int .i64 x.vendor, .int .i64 x.type, .string x.value] 72))
      have HC := hid (fun W => clone_any x.value W (by omega))
      obtain ⟨a0, a1, a2, a3, a4⟩ := (AvAt.new wr x).cells
      cases hh : hitA k x with
      | true =>
        have hF := findG_hit HI.out.1 hx hh
        have HF : Hid (findAB l k = x.value ∧ (findA l k).isSome = true) := by
          have : findA l k = some x := hF
          show _ ∧ _
          unfold findAB
          rw [this]
          exact ⟨rfl, rfl⟩
        obtain ⟨e1, e2⟩ : (x.vendor == 0) = true ∧ (x.type == k) = true := by simpa [hitA] using hh
        clear hF hx HI hh hxs
        obtain ⟨m, q, n, t, V⟩ := x
        simp only at *
        go_wp2_with fail
        refine (HC.out _).mono ?_
        rintro e w1 ⟨rfl, hb1⟩
        have HK1 := hid (HK.out.trans (kept_of hb1))
        clear hb1
        go_wp2
        go_ret2
        exact ⟨by rw [HF.out.1, HF.out.2]; rfl, HK1.out⟩
      | false =>
        have HF := hid (findG_on HI.out.1 hx hh)
        have hcase : (x.vendor == 0) = false ∨ ((x.vendor == 0) = true ∧ (x.type == k) = false) := by
          cases h1 : (x.vendor == 0) with
          | false => exact Or.inl rfl
          | true =>
            refine Or.inr ⟨rfl, ?_⟩
            unfold hitA at hh
            rw [h1, Bool.true_and] at hh
            exact hh
        clear hx HI hh hxs HC
        obtain ⟨m, q, n, t, V⟩ := x
        simp only at *
        rcases hcase with e1 | ⟨e1, e2⟩
        · go_wp2
          exact ⟨⟨j + 1, hlt, by go_num, HF.out, HK.out⟩, by simp [intOf]; omega⟩
        · go_wp2
          exact ⟨⟨j + 1, hlt, by go_num, HF.out, HK.out⟩, by simp [intOf]; omega⟩
    · obtain rfl : j = l.length := by omega
      have hltz : ¬ (l.length : Int) < (l.length : Int) := by omega
      obtain ⟨hF, hk⟩ := HI.out
      rw [List.take_length] at hF
      have HF : Hid (findAB l k = ⟨#[]⟩ ∧ (findA l k).isSome = false) := by
        have : findA l k = none := hF
        show _ ∧ _
        unfold findAB
        rw [this]
        exact ⟨rfl, rfl⟩
      clear hF HI hlt
      go_wp2
      go_ret2
      exact ⟨by rw [HF.out.1, HF.out.2]; rfl, hk⟩

end Go.Proofs.YtkneogfeokckjaaGreatDoor
