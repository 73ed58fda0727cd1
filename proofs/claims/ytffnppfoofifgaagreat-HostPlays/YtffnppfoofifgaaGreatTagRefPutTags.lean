/- The contract of the document's own PutTags (tollgateref5): tags as bytes, or the error. -/
import Derived.Test.YtffnppfoofifgaaGreatTagRefOne
import Derived.Test.YtffnppfoofifgaaGreatTagPutTags
import Derived.Deep.RegionHeld
namespace Go.Proofs.YtffnppfoofifgaaGreat
open Go.RowKit

set_option maxHeartbeats 4000000 in
set_option maxRecDepth 100000 in
theorem refPutTags_any (v : Value) (l : List Tg) (w : World) (hv : TagsAt w v l) (hsz : ∀ x ∈ l, x.value.size ≤ 140737488351232) :
    Calls Tryz.prog 120 #[v] w fun e w' => e = .returned (.tuple #[.string ⟨(putTagsF l).1.toArray⟩, .int .i64 (putTagsF l).2]) ∧ Kept (fun _ => False) w w' := by
  obtain ⟨p, cap, rfl⟩ := hv.slice
  by_cases h20 : 20 < l.length
  · have HP : Hid (putTagsF l = ([], 2)) := by show _ = _; unfold putTagsF; rw [if_pos h20]
    have hlz : (20 : Int) < (l.length : Int) := by omega
    clear hv hsz h20
    go_enter Tryz.func120, Tryz.ntmps120
    go_wp2
    go_ret2
    exact ⟨by rw [HP.out]; rfl, Kept.refl _ _⟩
  have hl : l.length ≤ 20 := by omega
  have Hat : Hid (∀ (j : Nat) (x : Tg), l[j]? = some x → ∀ W, Kept (fun _ => False) w W → ∃ g o, p = some ⟨g, o, none⟩ ∧ l.length ≤ cap ∧ W.cell? ⟨g, o + j * 2, none⟩ = some (.int .i64 x.type) ∧ W.cell? ⟨g, o + j * 2 + 1, none⟩ = some (.string x.value)) :=
    fun j x hj W hW => (hv.kept0 hW).at hj
  have Hsz := hid hsz
  have hlz : (l.length : Int) ≤ 20 := by omega
  have hNo : Hid (l.all okT = false → putTagsF l = ([], 1)) := fun h => by unfold putTagsF; rw [if_neg (by omega), if_pos h]
  have hLong : Hid (l.all okT = true → 1494 < sizeT l → putTagsF l = ([], 2)) := fun h h' => by unfold putTagsF; rw [if_neg (by omega), if_neg (by rw [h]; simp), if_pos h']
  have hYes : Hid (l.all okT = true → ¬ 1494 < sizeT l → putTagsF l = (bytesT l, 0)) := fun h h' => by unfold putTagsF; rw [if_neg (by omega), if_neg (by rw [h]; simp), if_neg h']
  clear hv hsz h20
  go_enter Tryz.func120, Tryz.ntmps120
  go_wp2
  go_loopw [4, 5] (fun vs vi wr => ∃ j : Nat, j ≤ l.length ∧ vi = .int .i64 (j : Int) ∧ vs = .int .i64 (sizeT (l.take j) : Int) ∧ Hid ((l.take j).all okT = true ∧ Kept (fun _ => False) w wr)) (fun _ vi _ => l.length - (intOf vi).toNat)
  case atStart => exact ⟨0, Nat.zero_le _, rfl, rfl, rfl, Kept.refl _ _⟩
  case round =>
    obtain ⟨j, hj, rfl, rfl, HI⟩ := hrel
    by_cases hlt : j < l.length
    · have hltz : (j : Int) < (l.length : Int) := by omega
      obtain ⟨x, hx⟩ : ∃ x, l[j]? = some x := ⟨l[j], by simp [hlt]⟩
      obtain ⟨g, o, rfl, hcap, c0, c1⟩ := Hat.out j x hx wr HI.out.2
      have hxs := Hsz.out x (List.mem_of_getElem? hx)
      have hsum : sizeT (l.take j) ≤ j * 140737488351236 := by
        have := sizeT_le (l := l.take j) (fun y hy => Hsz.out y (List.mem_of_mem_take hy))
        rw [List.length_take, Nat.min_eq_left (by omega)] at this
        exact this
      have HK := hid HI.out.2
      cases hok : okT x with
      | false =>
        have hall : l.all okT = false := by
          rw [List.all_eq_false]
          exact ⟨x, List.mem_of_getElem? hx, by rw [hok]; simp⟩
        have HP := hid (hNo.out hall)
        have hr : x.type < 1 ∨ (¬ x.type < 1 ∧ 65535 < x.type) := by
          have h2 : ¬ (1 ≤ x.type ∧ x.type ≤ 65535) := by simpa [okT] using hok
          omega
        clear hok hall HI hx hsum hxs
        generalize x.type = T at *
        rcases hr with hr | ⟨hr, hr2⟩
        · go_wp2
          go_ret2
          exact ⟨by rw [HP.out]; rfl, HK.out⟩
        · go_wp2
          go_ret2
          exact ⟨by rw [HP.out]; rfl, HK.out⟩
      | true =>
        obtain ⟨a, ha, ha1, ha2⟩ := okT_range hok
        have hn0 : ¬ x.type < 1 := by omega
        have hn6 : ¬ 65535 < x.type := by omega
        have R : Hid ((l.take (j + 1)).all okT = true ∧ sizeT (l.take (j + 1)) = sizeT (l.take j) + (4 + x.value.size)) := ⟨by rw [take_next hx, List.all_append, HI.out.1]; simp [hok], sizeT_take hx⟩
        clear hok hx HI
        generalize sizeT (l.take j) = Z at *
        generalize x.type = T at *
        have hZ : Z ≤ 2814749767024720 := by omega
        clear ha hsum
        go_wp2
        exact ⟨⟨j + 1, hlt, by go_num, by rw [R.out.2]; go_num, R.out.1, HK.out⟩, by simp [intOf]; omega⟩
    · obtain rfl : j = l.length := by omega
      obtain ⟨hall, hk1⟩ := HI.out
      rw [List.take_length] at hall
      have hsum := sizeT_le (l := l) Hsz.out
      rw [List.take_length]
      have hZ : sizeT l ≤ 2814749767024720 := by omega
      by_cases hbig : 1494 < sizeT l
      · have hbz : (1494 : Int) < (sizeT l : Int) := by omega
        have HP := hid (hLong.out hall hbig)
        clear hLong hYes hNo HI hlt
        generalize sizeT l = Z at *
        go_wp2
        go_ret2
        exact ⟨by rw [HP.out]; rfl, hk1⟩
      · have hbz : ¬ (1494 : Int) < (sizeT l : Int) := by omega
        have HP := hid (hYes.out hall hbig)
        have Hall := hid hall
        have HK1 := hid hk1
        have HZ : Hid (∀ j, sizeT (l.take j) ≤ 1494) := fun j => by have := sizeT_take_le l j; omega
        have HBl : Hid (bytesT l = bytesT (l.take l.length)) := by show _ = _; rw [List.take_length]
        clear hLong hYes hNo HI hlt hsum hall hk1 hbig
        generalize sizeT l = Z at *
        go_wp2
        go_loopw [6, 7] (fun vs vi wr => ∃ (j : Nat) (S : ByteArray), j ≤ l.length ∧ vi = .int .i64 (j : Int) ∧ vs = .string S ∧ S.size ≤ 1494 ∧ Hid (S.data.toList = bytesT (l.take j) ∧ Kept (fun _ => False) w wr)) (fun _ vi _ => l.length - (intOf vi).toNat)
        case atStart => exact ⟨0, ⟨#[]⟩, Nat.zero_le _, rfl, rfl, by decide, rfl, HK1.out⟩
        case round =>
          obtain ⟨j, S, hj, rfl, rfl, hS, HI⟩ := hrel
          clear HK1
          by_cases hlt : j < l.length
          · have hltz : (j : Int) < (l.length : Int) := by omega
            obtain ⟨x, hx⟩ : ∃ x, l[j]? = some x := ⟨l[j], by simp [hlt]⟩
            obtain ⟨g, o, rfl, hcap, c0, c1⟩ := Hat.out j x hx _ HI.out.2
            obtain ⟨a, ha, ha1, ha2⟩ := okT_range (List.all_eq_true.1 Hall.out x (List.mem_of_getElem? hx))
            have hZn := HZ.out (j + 1)
            rw [sizeT_take hx] at hZn
            have hx4 : x.value.size ≤ 1494 := by omega
            obtain ⟨A, hA⟩ : ∃ A : ByteArray, A = ⟨(low a 2).toArray⟩ := ⟨_, rfl⟩
            obtain ⟨B, hB⟩ : ∃ B : ByteArray, B = ⟨(low x.value.size 2).toArray⟩ := ⟨_, rfl⟩
            have hAs : A.size ≤ 2 := by rw [hA, Lib.size_eq]; simp [low_length]
            have hBs : B.size ≤ 2 := by rw [hB, Lib.size_eq]; simp [low_length]
            have RB : Hid ((S ++ A ++ B ++ x.value).data.toList = bytesT (l.take (j + 1))) := by
              show _ = _
              rw [take_next hx, bytesT_snoc, tagBytes, ha, Int.toNat_natCast, hA, hB, ← HI.out.1]
              simp
            have hSz : (S ++ A ++ B ++ x.value).size ≤ 1494 := by rw [Lib.size_eq, RB.out, bytesT_length]; exact HZ.out _
            have HSz := hid hSz
            have HL := hid (fun w0 => since (fun w => refTwo_any a (by omega) w) w0)
            have HT := hid (fun w0 => since (fun w => refTwo_any x.value.size (by omega) w) w0)
            rw [← hA] at HL
            rw [← hB] at HT
            rw [ha] at c0
            have HC : Hid (∀ W, Kept (fun _ => False) w W → W.cell? ⟨g, o + j * 2, none⟩ = some (.int .i64 (a : Int)) ∧ W.cell? ⟨g, o + j * 2 + 1, none⟩ = some (.string x.value)) := fun W hW => by
              obtain ⟨g', o', e, _, q0, q1⟩ := Hat.out j x hx W hW
              simp only [Option.some.injEq, Addr.mk.injEq, and_true] at e
              obtain ⟨rfl, rfl⟩ := e
              rw [ha] at q0
              exact ⟨q0, q1⟩
            have D0 := HI.out.2.drew
            generalize x.value = V at *
            clear hx ha hZn hA hB HI hSz
            go_wp2
            go_region_held (fun W => W.cell? ⟨g, o + j * 2, none⟩ = some (.int .i64 (a : Int)) ∧ W.cell? ⟨g, o + j * 2 + 1, none⟩ = some (.string V)) (first | assumption | exact HC.out _ (by assumption) | go_keep) (first
              | (go_at_call_of 124 (Value.int .i64 (a : Int)); refine (HL.out w _ (by assumption)).mono ?_; rintro e4 w4 ⟨rfl, hk4⟩)
              | (go_at_call_of 124 (Value.int .i64 (V.size : Int)); refine (HT.out w _ (by assumption)).mono ?_; rintro e5 w5 ⟨rfl, hk5⟩))
            all_goals
              go_wp2
              first
                | exact ⟨⟨j + 1, _, hlt, by go_num, rfl, HSz.out, RB.out, hk5⟩, by simp [intOf]; omega⟩
                | exact ⟨⟨j + 1, _, hlt, by go_num, rfl, HSz.out, RB.out, hk4⟩, by simp [intOf]; omega⟩
          · obtain rfl : j = l.length := by omega
            have hltz : ¬ (l.length : Int) < (l.length : Int) := by omega
            obtain ⟨hD, hk⟩ := HI.out
            have HD : Hid (S = ⟨(bytesT l).toArray⟩) := by show _ = _; apply bytes_ext; rw [hD, ← HBl.out]
            clear hD HI hlt
            go_wp2
            go_ret2
            exact ⟨by rw [HP.out, HD.out]; rfl, hk⟩
end Go.Proofs.YtffnppfoofifgaaGreat
