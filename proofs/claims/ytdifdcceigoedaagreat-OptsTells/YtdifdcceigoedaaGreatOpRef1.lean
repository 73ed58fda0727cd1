/- The contracts of the document's own conf, number, Value, Find and SameOptions (tollgateref9). -/
import Derived.Test.YtdifdcceigoedaaGreatOpEqual
namespace Go.Proofs.YtdifdcceigoedaaGreat
open Go.RowKit

set_option maxHeartbeats 400000 in
set_option maxRecDepth 100000 in
theorem rConf_any (v : Int) (w : World) : Calls Tryz.prog 33 #[.int .i64 v] w fun e w' => e = .returned (.bool (confB v)) ∧ w' = w := by
  by_cases h0 : 1 ≤ v
  · by_cases h1 : v ≤ 4
    · have e : confB v = true := by simp [confB, h0, h1]
      rw [e]
      go_enter Tryz.func33, Tryz.ntmps33
      go_wp2
      go_ret
      exact ⟨rfl, rfl⟩
    · have e : confB v = false := by simp [confB, h1]
      rw [e]
      go_enter Tryz.func33, Tryz.ntmps33
      go_wp2
      go_ret
      exact ⟨rfl, rfl⟩
  · have e : confB v = false := by simp [confB, h0]
    rw [e]
    go_enter Tryz.func33, Tryz.ntmps33
    go_wp2
    go_ret
    exact ⟨rfl, rfl⟩

set_option maxHeartbeats 1000000 in
set_option maxRecDepth 100000 in
theorem rNumber_any (s : ByteArray) (hs : s.size ≤ 7) (w : World) : Calls Tryz.prog 38 #[.string s] w fun e w' => e = .returned (.int .i64 (numOf s.data.toList : Int)) ∧ w' = w := by
  have hl : s.data.toList.length = s.size := (Lib.size_eq s).symm
  have HN : Hid (∀ j, j < s.size → numOf (s.data.toList.take (j + 1)) = numOf (s.data.toList.take j) * 256 + (s.data.toList.getD j 0).toNat) := fun j hj => num_next (by omega)
  have HX : Hid (∀ j, j < s.size → ∀ W, (Instr.index 9 (.string s) (.int .i64 (j : Int))).run Tryz.prog W = .ok (.int .u8 ((s.data.toList.getD j 0).toNat : Int)) W) := fun j hj W => index_at s j hj (j : Int) rfl W
  have HE : Hid (numOf s.data.toList = numOf (s.data.toList.take s.size)) := by show _ = _; rw [← hl, List.take_length]
  clear hl
  go_enter Tryz.func38, Tryz.ntmps38
  go_wp2
  go_loopw [3, 4] (fun vv vi wr => ∃ j N : Nat, j ≤ s.size ∧ vi = .int .i64 (j : Int) ∧ vv = .int .i64 (N : Int) ∧ Hid (N = numOf (s.data.toList.take j) ∧ wr = w)) (fun _ vi _ => s.size - (intOf vi).toNat)
  case atStart => exact ⟨0, 0, Nat.zero_le _, rfl, rfl, rfl, rfl⟩
  case round =>
    obtain ⟨j, N, hj, rfl, rfl, HI⟩ := hrel
    by_cases hlt : j < s.size
    · have hltz : (j : Int) < (s.size : Int) := by omega
      have hx := HX.out j hlt
      have hb := (s.data.toList.getD j 0).toNat_lt
      have R := HN.out j hlt
      rw [← HI.out.1] at R
      have hNb : N < 281474976710656 := by rw [HI.out.1]; exact num_bound (by omega)
      generalize (s.data.toList.getD j 0).toNat = B at *
      have RR := hid R
      have HK := hid HI.out.2
      clear R HI
      go_wp2
      exact ⟨⟨j + 1, N * 256 + B, hlt, by go_num, by go_num, RR.out.symm, HK.out⟩, by simp [intOf]; omega⟩
    · obtain rfl : j = s.size := by omega
      obtain ⟨h1, h2⟩ := HI.out
      have H1 := hid (h1.trans HE.out.symm)
      clear h1 hlt
      go_wp2
      go_ret
      exact ⟨by rw [← H1.out]; rfl, rfl⟩

set_option maxHeartbeats 400000 in
set_option maxRecDepth 100000 in
theorem rValue_any (s : ByteArray) (hs : s.size ≤ maxLen) (w : World) :
    Calls Tryz.prog 24 #[.string s] w fun e w' => e = .returned (.tuple #[.int .i64 ((valueF s.data.toList).1 : Int), .bool (valueF s.data.toList).2]) ∧ w' = w := by
  have hl : s.data.toList.length = s.size := (Lib.size_eq s).symm
  unfold maxLen at hs
  unfold valueF
  rw [hl]
  clear hl
  by_cases h : 7 < s.size
  · rw [if_pos h]
    have hz : (7 : Int) < (s.size : Int) := by omega
    go_enter Tryz.func24, Tryz.ntmps24
    go_wp2
    go_ret2
    exact ⟨rfl, rfl⟩
  · rw [if_neg h]
    have hz : ¬ (7 : Int) < (s.size : Int) := by omega
    have HN := hid (rNumber_any s (by omega))
    generalize numOf s.data.toList = N at *
    go_enter Tryz.func24, Tryz.ntmps24
    go_wp2_with fail
    refine (HN.out _).mono ?_
    rintro e w1 ⟨rfl, rfl⟩
    go_wp2
    go_ret2
    exact ⟨rfl, rfl⟩

set_option maxHeartbeats 2000000 in
set_option maxRecDepth 100000 in
theorem rFind_any (v : Value) (l : List Tg) (kind : Int) (w : World) (hv : TagsAt w v l) (hl : l.length ≤ 1000000) :
    Calls Tryz.prog 22 #[v, .int .i64 kind] w fun e w' => e = .returned (.tuple #[.string (findOB l kind), .bool (findO l kind).isSome]) ∧ Kept (fun _ => False) w w' := by
  obtain ⟨p, cap, rfl⟩ := hv.slice
  have Hat : Hid (∀ (j : Nat) (x : Tg), l[j]? = some x → ∀ W, Kept (fun _ => False) w W → ∃ g o, p = some ⟨g, o, none⟩ ∧ l.length ≤ cap ∧ W.cell? ⟨g, o + j * 2, none⟩ = some (.int .i64 x.type) ∧ W.cell? ⟨g, o + j * 2 + 1, none⟩ = some (.string x.value)) :=
    fun j x hj W hW => (hv.kept0 hW).at hj
  clear hv
  go_enter Tryz.func22, Tryz.ntmps22
  go_wp2
  go_loopw [6] (fun vi wr => ∃ j : Nat, j ≤ l.length ∧ vi = .int .i64 (j : Int) ∧ Hid ((l.take j).find? (fun t => t.type == kind) = none ∧ Kept (fun _ => False) w wr)) (fun vi _ => l.length - (intOf vi).toNat)
  case atStart => exact ⟨0, Nat.zero_le _, rfl, rfl, Kept.refl _ _⟩
  case round =>
    obtain ⟨j, hj, rfl, HI⟩ := hrel
    by_cases hlt : j < l.length
    · have hltz : (j : Int) < (l.length : Int) := by omega
      obtain ⟨x, hx⟩ : ∃ x, l[j]? = some x := ⟨l[j], by simp [hlt]⟩
      obtain ⟨g, o, rfl, hcap, c0, c1⟩ := Hat.out j x hx wr HI.out.2
      have HK := hid HI.out.2
      cases hty : (x.type == kind) with
      | true =>
        have hF := find_hit HI.out.1 hx hty
        have HF : Hid (findOB l kind = x.value ∧ (findO l kind).isSome = true) := by
          show _ ∧ _
          unfold findOB findO
          rw [hF]
          exact ⟨rfl, rfl⟩
        clear hF hx HI
        generalize x.type = T at *
        generalize x.value = V at *
        go_wp2
        go_ret2
        exact ⟨by rw [HF.out.1, HF.out.2]; rfl, HK.out⟩
      | false =>
        have HF := hid (find_on HI.out.1 hx hty)
        clear hx HI
        generalize x.type = T at *
        generalize x.value = V at *
        go_wp2
        exact ⟨⟨j + 1, hlt, by go_num, HF.out, HK.out⟩, by simp [intOf]; omega⟩
    · obtain rfl : j = l.length := by omega
      obtain ⟨hF, hk⟩ := HI.out
      rw [List.take_length] at hF
      have HF : Hid (findOB l kind = ⟨#[]⟩ ∧ (findO l kind).isSome = false) := by
        show _ ∧ _
        unfold findOB findO
        rw [hF]
        exact ⟨rfl, rfl⟩
      clear hF HI hlt
      go_wp2
      go_ret2
      exact ⟨by rw [HF.out.1, HF.out.2]; rfl, hk⟩

set_option maxHeartbeats 2000000 in
set_option maxRecDepth 100000 in
theorem rSame_any (v u : Value) (l m : List Tg) (w : World) (hv : TagsAt w v l) (hu : TagsAt w u m) (hl : l.length ≤ 1000000) :
    Calls Tryz.prog 26 #[v, u] w fun e w' => e = .returned (.bool (sameF l m)) ∧ Kept (fun _ => False) w w' := by
  obtain ⟨p, cap, rfl⟩ := hv.slice
  obtain ⟨q, cbp, rfl⟩ := hu.slice
  by_cases hlen : l.length = m.length
  · have hne : ((l.length : Int) != (m.length : Int)) = false := by simp [hlen]
    have Hat : Hid (∀ (j : Nat) (x : Tg), l[j]? = some x → ∀ W, Kept (fun _ => False) w W → ∃ g o, p = some ⟨g, o, none⟩ ∧ l.length ≤ cap ∧ W.cell? ⟨g, o + j * 2, none⟩ = some (.int .i64 x.type) ∧ W.cell? ⟨g, o + j * 2 + 1, none⟩ = some (.string x.value)) :=
      fun j x hj W hW => (hv.kept0 hW).at hj
    have Hau : Hid (∀ (j : Nat) (x : Tg), m[j]? = some x → ∀ W, Kept (fun _ => False) w W → ∃ g o, q = some ⟨g, o, none⟩ ∧ m.length ≤ cbp ∧ W.cell? ⟨g, o + j * 2, none⟩ = some (.int .i64 x.type) ∧ W.cell? ⟨g, o + j * 2 + 1, none⟩ = some (.string x.value)) :=
      fun j x hj W hW => (hu.kept0 hW).at hj
    have HL := hid hlen
    clear hv hu hlen
    go_enter Tryz.func26, Tryz.ntmps26
    go_wp2
    go_loopw [5] (fun vi wr => ∃ j : Nat, j ≤ l.length ∧ vi = .int .i64 (j : Int) ∧ Hid (l.take j = m.take j ∧ Kept (fun _ => False) w wr)) (fun vi _ => l.length - (intOf vi).toNat)
    case atStart => exact ⟨0, Nat.zero_le _, rfl, rfl, Kept.refl _ _⟩
    case round =>
      obtain ⟨j, hj, rfl, HI⟩ := hrel
      by_cases hlt : j < l.length
      · have hltz : (j : Int) < (l.length : Int) := by omega
        have hltm : (j : Int) < (m.length : Int) := by have := HL.out; omega
        obtain ⟨x, hx⟩ : ∃ x, l[j]? = some x := ⟨l[j], by simp [hlt]⟩
        obtain ⟨y, hy⟩ : ∃ y, m[j]? = some y := ⟨m[j]'(by have := HL.out; omega), by simp⟩
        have hk1 := HI.out.2.drew
        obtain ⟨g, o, rfl, hcap, c0, c1⟩ := Hat.out j x hx wr HI.out.2
        obtain ⟨g2, o2, rfl, hcbp, d0, d1⟩ := Hau.out j y hy wr HI.out.2
        have e0 : sameT x y = ((x.type == y.type) && (x.value.toList == y.value.toList)) := by unfold sameT; rw [bytes_same]
        cases hs : sameT x y with
        | false =>
          have HN := hid (sameF_at hx hy hs)
          rw [hs] at e0
          have hcase : (x.type == y.type) = false ∨ ((x.type == y.type) = true ∧ (x.value.toList == y.value.toList) = false) := by
            cases h1 : (x.type == y.type) with
            | false => exact Or.inl rfl
            | true =>
              rw [h1] at e0
              exact Or.inr ⟨rfl, by simpa using e0.symm⟩
          clear hx hy hs e0
          rcases hcase with e1 | ⟨e1, e2⟩
          · go_wp2
            go_quiet (fail)
            go_wp2
            go_ret
            exact ⟨by rw [HN.out]; rfl, HI.out.2.drewN _⟩
          · go_wp2
            go_quiet (fail)
            go_wp2
            go_ret
            exact ⟨by rw [HN.out]; rfl, HI.out.2.drewN _⟩
        | true =>
          have HN : Hid (l.take (j + 1) = m.take (j + 1)) := by
            show _ = _
            rw [take_next hx, take_next hy, HI.out.1, sameT_iff.1 hs]
          rw [hs] at e0
          obtain ⟨e1, e2⟩ : (x.type == y.type) = true ∧ (x.value.toList == y.value.toList) = true := by simpa using e0.symm
          clear hx hy hs e0
          go_wp2
          go_quiet (fail)
          go_wp2
          exact ⟨⟨j + 1, hlt, by go_num, HN.out, HI.out.2.drewN _⟩, by simp [intOf]; omega⟩
      · obtain rfl : j = l.length := by omega
        obtain ⟨hF, hk⟩ := HI.out
        have hFm : l = m := by rw [List.take_length, HL.out, List.take_length] at hF; exact hF
        have HN := hid (sameF_iff.2 hFm)
        clear hF HI hlt hFm
        go_wp2
        go_ret
        exact ⟨by rw [HN.out]; rfl, hk⟩
  · have hne : ((l.length : Int) != (m.length : Int)) = true := by
      rw [bne_iff_ne]
      omega
    have HN := hid (sameF_len hlen)
    clear hv hu hlen
    go_enter Tryz.func26, Tryz.ntmps26
    go_wp2
    go_ret
    exact ⟨by rw [HN.out]; rfl, Kept.refl _ _⟩
end Go.Proofs.YtdifdcceigoedaaGreat
