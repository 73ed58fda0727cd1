/- The contracts of tag.Find, tag.Same and of the laws' Light. -/
import Derived.Test.YtffnppfoofifgaaGreatTagGetTags
namespace Go.Proofs.YtffnppfoofifgaaGreat
open Go.RowKit

theorem findOn_yes {kind : Int} {s : ByteArray × Nat} {t : Tg} (h : t.type = kind) : findOn kind s t = (if s.2 = 0 then t.value else s.1, s.2 + 1) := by unfold findOn; rw [if_pos h]
theorem findOn_no {kind : Int} {s : ByteArray × Nat} {t : Tg} (h : t.type ≠ kind) : findOn kind s t = s := by unfold findOn; rw [if_neg h]

set_option maxHeartbeats 2000000 in
set_option maxRecDepth 100000 in
theorem find_any (v : Value) (l : List Tg) (kind : Int) (w : World) (hv : TagsAt w v l) (hl : l.length ≤ 1000000) (hsz : ∀ x ∈ l, x.value.size ≤ 140737488351232) :
    Calls Tryz.prog 128 #[v, .int .i64 kind] w fun e w' => e = .returned (.tuple #[.string (findF l kind).1, .int .i64 ((findF l kind).2 : Int)]) ∧ Kept (fun _ => False) w w' := by
  obtain ⟨p, cap, rfl⟩ := hv.slice
  have Hat : Hid (∀ (j : Nat) (x : Tg), l[j]? = some x → ∀ W, Kept (fun _ => False) w W → ∃ g o, p = some ⟨g, o, none⟩ ∧ l.length ≤ cap ∧ W.cell? ⟨g, o + j * 2, none⟩ = some (.int .i64 x.type) ∧ W.cell? ⟨g, o + j * 2 + 1, none⟩ = some (.string x.value)) :=
    fun j x hj W hW => (hv.kept0 hW).at hj
  have Hsz := hid hsz
  clear hv hsz
  go_enter Tryz.func128, Tryz.ntmps128
  go_wp2
  go_loopw [6, 7, 12] (fun v6 v7 vi wr => ∃ (j : Nat) (S : ByteArray) (n : Nat), j ≤ l.length ∧ n ≤ j ∧ vi = .int .i64 (j : Int) ∧ v6 = .string S ∧ v7 = .int .i64 (n : Int) ∧ Hid (findF (l.take j) kind = (S, n) ∧ Kept (fun _ => False) w wr)) (fun _ _ vi _ => l.length - (intOf vi).toNat)
  case atStart => exact ⟨0, ⟨#[]⟩, 0, Nat.zero_le _, Nat.le_refl _, rfl, rfl, rfl, rfl, Kept.refl _ _⟩
  case round =>
    obtain ⟨j, S, n, hj, hnj, rfl, rfl, rfl, HI⟩ := hrel
    by_cases hlt : j < l.length
    · have hltz : (j : Int) < (l.length : Int) := by omega
      obtain ⟨x, hx⟩ : ∃ x, l[j]? = some x := ⟨l[j], by simp [hlt]⟩
      obtain ⟨g, o, rfl, hcap, c0, c1⟩ := Hat.out j x hx wr HI.out.2
      have hxs := Hsz.out x (List.mem_of_getElem? hx)
      have HK := hid (HI.out.2.alloc (.cells #[.int .i64 x.type, .string x.value] 97))
      have HC := hid (fun W => clone_any x.value W (by omega))
      have hF : findF (l.take (j + 1)) kind = findOn kind (S, n) x := by rw [take_next hx, findF_snoc, HI.out.1]
      have b0 := (BoxT.new wr x).c0
      have b1 := (BoxT.new wr x).c1
      by_cases hty : x.type = kind
      · rw [findOn_yes hty] at hF
        have hne : (x.type != kind) = false := by simp [hty]
        cases n with
        | zero =>
          rw [if_pos rfl] at hF
          have HF := hid hF
          clear hF hx HI hty
          generalize x.type = T at *
          generalize x.value = V at *
          go_wp2_with fail
          refine (HC.out _).mono ?_
          rintro e w1 ⟨rfl, hb1⟩
          have HK1 := hid (HK.out.trans (kept_of hb1))
          clear hb1
          go_wp2
          exact ⟨⟨j + 1, _, 1, hlt, by omega, by go_num, rfl, rfl, HF.out, HK1.out⟩, by simp [intOf]; omega⟩
        | succ n =>
          rw [if_neg (by simp)] at hF
          have HF := hid hF
          have hn0 : (((n + 1 : Nat) : Int) == 0) = false := by rw [beq_eq_false_iff_ne]; omega
          clear hF hx HI hty
          generalize x.type = T at *
          generalize x.value = V at *
          obtain ⟨q, hq⟩ : ∃ q : Nat, q = n + 1 := ⟨_, rfl⟩
          rw [← hq] at HF hn0 hnj ⊢
          clear hq
          go_wp2
          exact ⟨⟨j + 1, S, q + 1, hlt, by omega, by go_num, rfl, by go_num, HF.out, HK.out⟩, by simp [intOf]; omega⟩
      · rw [findOn_no hty] at hF
        have HF := hid hF
        have hne : (x.type != kind) = true := by simpa using hty
        clear hF hx HI hty
        generalize x.type = T at *
        generalize x.value = V at *
        go_wp2
        exact ⟨⟨j + 1, S, n, hlt, by omega, by go_num, rfl, rfl, HF.out, HK.out⟩, by simp [intOf]; omega⟩
    · obtain rfl : j = l.length := by omega
      obtain ⟨hF, hk⟩ := HI.out
      rw [List.take_length] at hF
      have HF := hid hF
      clear hF HI hlt
      go_wp2
      go_ret2
      exact ⟨by rw [HF.out]; rfl, hk⟩
end Go.Proofs.YtffnppfoofifgaaGreat
