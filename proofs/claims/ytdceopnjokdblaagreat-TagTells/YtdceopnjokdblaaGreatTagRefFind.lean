/- The contracts of the document's own Find and Same (tollgateref5). -/
import Derived.Test.YtdceopnjokdblaaGreatTagFind
namespace Go.Proofs.YtdceopnjokdblaaGreat
open Go.RowKit

set_option maxHeartbeats 2000000 in
set_option maxRecDepth 100000 in
theorem refFind_any (v : Value) (l : List Tg) (kind : Int) (w : World) (hv : TagsAt w v l) (hl : l.length ≤ 1000000) (hsz : ∀ x ∈ l, x.value.size ≤ 140737488351232) :
    Calls Tryz.prog 16 #[v, .int .i64 kind] w fun e w' => e = .returned (.tuple #[.string (findF l kind).1, .int .i64 ((findF l kind).2 : Int)]) ∧ Kept (fun _ => False) w w' := by
  obtain ⟨p, cap, rfl⟩ := hv.slice
  have Hat : Hid (∀ (j : Nat) (x : Tg), l[j]? = some x → ∀ W, Kept (fun _ => False) w W → ∃ g o, p = some ⟨g, o, none⟩ ∧ l.length ≤ cap ∧ W.cell? ⟨g, o + j * 2, none⟩ = some (.int .i64 x.type) ∧ W.cell? ⟨g, o + j * 2 + 1, none⟩ = some (.string x.value)) :=
    fun j x hj W hW => (hv.kept0 hW).at hj
  have Hsz := hid hsz
  clear hv hsz
  go_enter Tryz.func16, Tryz.ntmps16
  go_wp2
  go_loopw [6, 7, 8] (fun v6 v7 vi wr => ∃ (j : Nat) (S : ByteArray) (n : Nat), j ≤ l.length ∧ n ≤ j ∧ vi = .int .i64 (j : Int) ∧ v6 = .string S ∧ v7 = .int .i64 (n : Int) ∧ Hid (findF (l.take j) kind = (S, n) ∧ Kept (fun _ => False) w wr)) (fun _ _ vi _ => l.length - (intOf vi).toNat)
  case atStart => exact ⟨0, ⟨#[]⟩, 0, Nat.zero_le _, Nat.le_refl _, rfl, rfl, rfl, rfl, Kept.refl _ _⟩
  case round =>
    obtain ⟨j, S, n, hj, hnj, rfl, rfl, rfl, HI⟩ := hrel
    by_cases hlt : j < l.length
    · have hltz : (j : Int) < (l.length : Int) := by omega
      obtain ⟨x, hx⟩ : ∃ x, l[j]? = some x := ⟨l[j], by simp [hlt]⟩
      obtain ⟨g, o, rfl, hcap, c0, c1⟩ := Hat.out j x hx wr HI.out.2
      have hxs := Hsz.out x (List.mem_of_getElem? hx)
      have HK := hid HI.out.2
      have hF : findF (l.take (j + 1)) kind = findOn kind (S, n) x := by rw [take_next hx, findF_snoc, HI.out.1]
      by_cases hty : x.type = kind
      · rw [findOn_yes hty] at hF
        have hne : (x.type == kind) = true := by simp [hty]
        cases n with
        | zero =>
          rw [if_pos rfl] at hF
          have HF := hid hF
          clear hF hx HI hty
          generalize x.type = T at *
          generalize x.value = V at *
          go_wp2
          exact ⟨⟨j + 1, _, 1, hlt, by omega, by go_num, rfl, rfl, HF.out, HK.out⟩, by simp [intOf]; omega⟩
        | succ n =>
          rw [if_neg (by simp)] at hF
          have HF := hid hF
          have hn0 : (((n + 1 : Nat) : Int) == 0) = false := by rw [beq_eq_false_iff_ne]; omega
          clear hF hx HI hty
          generalize x.type = T at *
          generalize x.value = V at *
          obtain ⟨q, hq⟩ : ∃ q : Nat, q = n + 1 := ⟨_, rfl⟩
          rw [← hq] at HF hn0 hnj ⊢
          clear hq
          go_wp2
          exact ⟨⟨j + 1, S, q + 1, hlt, by omega, by go_num, rfl, by go_num, HF.out, HK.out⟩, by simp [intOf]; omega⟩
      · rw [findOn_no hty] at hF
        have HF := hid hF
        have hne : (x.type == kind) = false := by simpa using hty
        clear hF hx HI hty
        generalize x.type = T at *
        generalize x.value = V at *
        go_wp2
        exact ⟨⟨j + 1, S, n, hlt, by omega, by go_num, rfl, rfl, HF.out, HK.out⟩, by simp [intOf]; omega⟩
    · obtain rfl : j = l.length := by omega
      obtain ⟨hF, hk⟩ := HI.out
      rw [List.take_length] at hF
      have HF := hid hF
      clear hF HI hlt
      go_wp2
      go_ret2
      exact ⟨by rw [HF.out]; rfl, hk⟩

set_option maxHeartbeats 2000000 in
set_option maxRecDepth 100000 in
theorem refSame_any (v u : Value) (l m : List Tg) (w : World) (hv : TagsAt w v l) (hu : TagsAt w u m) (hl : l.length ≤ 1000000) :
    Calls Tryz.prog 19 #[v, u] w fun e w' => e = .returned (.bool (sameF l m)) ∧ Kept (fun _ => False) w w' := by
  obtain ⟨p, cap, rfl⟩ := hv.slice
  obtain ⟨q, cbp, rfl⟩ := hu.slice
  by_cases hlen : l.length = m.length
  · have hne : ((l.length : Int) != (m.length : Int)) = false := by simp [hlen]
    have Hat : Hid (∀ (j : Nat) (x : Tg), l[j]? = some x → ∀ W, Kept (fun _ => False) w W → ∃ g o, p = some ⟨g, o, none⟩ ∧ l.length ≤ cap ∧ W.cell? ⟨g, o + j * 2, none⟩ = some (.int .i64 x.type) ∧ W.cell? ⟨g, o + j * 2 + 1, none⟩ = some (.string x.value)) :=
      fun j x hj W hW => (hv.kept0 hW).at hj
    have Hau : Hid (∀ (j : Nat) (x : Tg), m[j]? = some x → ∀ W, Kept (fun _ => False) w W → ∃ g o, q = some ⟨g, o, none⟩ ∧ m.length ≤ cbp ∧ W.cell? ⟨g, o + j * 2, none⟩ = some (.int .i64 x.type) ∧ W.cell? ⟨g, o + j * 2 + 1, none⟩ = some (.string x.value)) :=
      fun j x hj W hW => (hu.kept0 hW).at hj
    have HL := hid hlen
    clear hv hu hlen
    go_enter Tryz.func19, Tryz.ntmps19
    go_wp2
    go_loopw [5] (fun vi wr => ∃ j : Nat, j ≤ l.length ∧ vi = .int .i64 (j : Int) ∧ Hid (l.take j = m.take j ∧ Kept (fun _ => False) w wr)) (fun vi _ => l.length - (intOf vi).toNat)
    case atStart => exact ⟨0, Nat.zero_le _, rfl, rfl, Kept.refl _ _⟩
    case round =>
      obtain ⟨j, hj, rfl, HI⟩ := hrel
      by_cases hlt : j < l.length
      · have hltz : (j : Int) < (l.length : Int) := by omega
        have hltm : (j : Int) < (m.length : Int) := by have := HL.out; omega
        obtain ⟨x, hx⟩ : ∃ x, l[j]? = some x := ⟨l[j], by simp [hlt]⟩
        obtain ⟨y, hy⟩ : ∃ y, m[j]? = some y := ⟨m[j]'(by have := HL.out; omega), by simp⟩
        obtain ⟨g, o, rfl, hcap, c0, c1⟩ := Hat.out j x hx wr HI.out.2
        obtain ⟨g2, o2, rfl, hcbp, d0, d1⟩ := Hau.out j y hy wr HI.out.2
        have e0 : sameT x y = ((x.type == y.type) && (x.value.toList == y.value.toList)) := by unfold sameT; rw [bytes_same]
        cases hs : sameT x y with
        | false =>
          have HN := hid (sameF_at hx hy hs)
          rw [hs] at e0
          have hcase : (x.type == y.type) = false ∨ ((x.type == y.type) = true ∧ (x.value.toList == y.value.toList) = false) := by
            cases h1 : (x.type == y.type) with
            | false => exact Or.inl rfl
            | true =>
              rw [h1] at e0
              exact Or.inr ⟨rfl, by simpa using e0.symm⟩
          clear hx hy hs e0
          rcases hcase with e1 | ⟨e1, e2⟩
          · go_wp2
            go_quiet (fail)
            go_wp2
            go_ret
            exact ⟨by rw [HN.out]; rfl, HI.out.2.drewN _⟩
          · go_wp2
            go_quiet (fail)
            go_wp2
            go_ret
            exact ⟨by rw [HN.out]; rfl, HI.out.2.drewN _⟩
        | true =>
          have HN : Hid (l.take (j + 1) = m.take (j + 1)) := by
            show _ = _
            rw [take_next hx, take_next hy, HI.out.1, sameT_iff.1 hs]
          rw [hs] at e0
          obtain ⟨e1, e2⟩ : (x.type == y.type) = true ∧ (x.value.toList == y.value.toList) = true := by simpa using e0.symm
          clear hx hy hs e0
          go_wp2
          go_quiet (fail)
          go_wp2
          exact ⟨⟨j + 1, hlt, by go_num, HN.out, HI.out.2.drewN _⟩, by simp [intOf]; omega⟩
      · obtain rfl : j = l.length := by omega
        obtain ⟨hF, hk⟩ := HI.out
        have hFm : l = m := by rw [List.take_length, HL.out, List.take_length] at hF; exact hF
        have HN := hid (sameF_iff.2 hFm)
        clear hF HI hlt hFm
        go_wp2
        go_ret
        exact ⟨by rw [HN.out]; rfl, hk⟩
  · have hne : ((l.length : Int) != (m.length : Int)) = true := by
      rw [bne_iff_ne]
      omega
    have HN := hid (sameF_len hlen)
    clear hv hu hlen
    go_enter Tryz.func19, Tryz.ntmps19
    go_wp2
    go_ret
    exact ⟨by rw [HN.out]; rfl, Kept.refl _ _⟩

end Go.Proofs.YtdceopnjokdblaaGreat
