/- The contract of tag.PutTags: tags as bytes, or the error; for every list whose values have at most 2^47 bytes each. -/
import Derived.Test.YtffnppfoofifgaaGreatTagRow
namespace Go.Proofs.YtffnppfoofifgaaGreat
open Go.RowKit

theorem sizeT_take {l : List Tg} {j : Nat} {x : Tg} (h : l[j]? = some x) : sizeT (l.take (j + 1)) = sizeT (l.take j) + (4 + x.value.size) := by rw [take_next h, sizeT_snoc]
theorem sizeT_le {l : List Tg} (h : ∀ x ∈ l, x.value.size ≤ 140737488351232) : sizeT l ≤ l.length * 140737488351236 := by
  induction l with
  | nil => simp [sizeT]
  | cons a r ih =>
    rw [sizeT_cons, List.length_cons]
    have := ih (fun x hx => h x (by simp [hx]))
    have := h a (by simp)
    omega
theorem sizeT_take_le (l : List Tg) (j : Nat) : sizeT (l.take j) ≤ sizeT l := by
  have : sizeT (l.take j ++ l.drop j) = sizeT l := by rw [List.take_append_drop]
  rw [sizeT_append] at this
  omega

set_option maxHeartbeats 400000 in
set_option maxRecDepth 100000 in
theorem putTags_many (v : Value) (l : List Tg) (w : World) (hv : TagsAt w v l) (hl : 20 < l.length) :
    Calls Tryz.prog 118 #[v] w fun e w' => e = .returned (.tuple #[.string ⟨#[]⟩, .int .i64 2]) ∧ Kept (fun _ => False) w w' := by
  obtain ⟨p, cap, rfl⟩ := hv.slice
  have hlz : (20 : Int) < (l.length : Int) := by omega
  clear hv hl
  go_enter Tryz.func118, Tryz.ntmps118
  go_wp2
  go_ret2
  exact ⟨rfl, Kept.refl _ _⟩

/-- How far the second loop has come. -/
def PutUp (w : World) (l : List Tg) (v7 v45 : Value) (wr : World) : Prop :=
  ∃ j : Nat, j ≤ l.length ∧ v45 = .int .i64 (j : Int) ∧ wr.ownsRow w.heap.size 5 1 v7 (sizeT (l.take j)) (Lib.byteCells (bytesT (l.take j))) ∧ Kept (fun _ => False) w wr

set_option maxHeartbeats 4000000 in
set_option maxRecDepth 100000 in
theorem putTags_in (v : Value) (l : List Tg) (w : World) (hv : TagsAt w v l) (hl : l.length ≤ 20) (hsz : ∀ x ∈ l, x.value.size ≤ 140737488351232) :
    Calls Tryz.prog 118 #[v] w fun e w' => e = .returned (.tuple #[.string ⟨(putTagsF l).1.toArray⟩, .int .i64 (putTagsF l).2]) ∧ Kept (fun _ => False) w w' := by
  obtain ⟨p, cap, rfl⟩ := hv.slice
  obtain ⟨i0, hi, hz0, hz1, hz2⟩ := info_parts info5
  have Hat : Hid (∀ (j : Nat) (x : Tg), l[j]? = some x → ∀ W, Kept (fun _ => False) w W → ∃ g o, p = some ⟨g, o, none⟩ ∧ l.length ≤ cap ∧ W.cell? ⟨g, o + j * 2, none⟩ = some (.int .i64 x.type) ∧ W.cell? ⟨g, o + j * 2 + 1, none⟩ = some (.string x.value)) :=
    fun j x hj W hW => (hv.kept0 hW).at hj
  have Hsz := hid hsz
  have hlz : (l.length : Int) ≤ 20 := by omega
  have hNo : Hid (l.all okT = false → putTagsF l = ([], 1)) := fun h => by unfold putTagsF; rw [if_neg (by omega), if_pos h]
  have hLong : Hid (l.all okT = true → 1494 < sizeT l → putTagsF l = ([], 2)) := fun h h' => by unfold putTagsF; rw [if_neg (by omega), if_neg (by rw [h]; simp), if_pos h']
  have hYes : Hid (l.all okT = true → ¬ 1494 < sizeT l → putTagsF l = (bytesT l, 0)) := fun h h' => by unfold putTagsF; rw [if_neg (by omega), if_neg (by rw [h]; simp), if_neg h']
  clear hv hsz
  go_enter Tryz.func118, Tryz.ntmps118
  go_wp2
  go_loopw [4, 15] (fun vs vi wr => ∃ j : Nat, j ≤ l.length ∧ vi = .int .i64 (j : Int) ∧ vs = .int .i64 (sizeT (l.take j) : Int) ∧ Hid ((l.take j).all okT = true ∧ Kept (fun _ => False) w wr)) (fun _ vi _ => l.length - (intOf vi).toNat)
  case atStart => exact ⟨0, Nat.zero_le _, rfl, rfl, rfl, Kept.refl _ _⟩
  case round =>
    obtain ⟨j, hj, rfl, rfl, HI⟩ := hrel
    by_cases hlt : j < l.length
    · have hltz : (j : Int) < (l.length : Int) := by omega
      obtain ⟨x, hx⟩ : ∃ x, l[j]? = some x := ⟨l[j], by simp [hlt]⟩
      obtain ⟨g, o, rfl, hcap, c0, c1⟩ := Hat.out j x hx wr HI.out.2
      have hxs := Hsz.out x (List.mem_of_getElem? hx)
      have hsum : sizeT (l.take j) ≤ j * 140737488351236 := by
        have := sizeT_le (l := l.take j) (fun y hy => Hsz.out y (List.mem_of_mem_take hy))
        rw [List.length_take, Nat.min_eq_left (by omega)] at this
        exact this
      have HK := hid (HI.out.2.alloc (.cells #[.int .i64 x.type, .string x.value] 97))
      cases hok : okT x with
      | false =>
        have hall : l.all okT = false := by
          rw [List.all_eq_false]
          exact ⟨x, List.mem_of_getElem? hx, by rw [hok]; simp⟩
        have HP := hid (hNo.out hall)
        have hr : x.type = 0 ∨ x.type < 0 ∨ 65535 < x.type := by
          have h2 : ¬ (1 ≤ x.type ∧ x.type ≤ 65535) := by simpa [okT] using hok
          omega
        have HS := hid hsum
        clear hok hall HI hx hsum hxs
        generalize x.type = T at *
        rcases hr with hr | hr | hr
        · subst hr
          go_wp2
          go_ret2
          exact ⟨by rw [HP.out]; rfl, HK.out⟩
        · have hne : (T == 0) = false := by rw [beq_eq_false_iff_ne]; omega
          go_wp2
          go_ret2
          exact ⟨by rw [HP.out]; rfl, HK.out⟩
        · have hne : (T == 0) = false := by rw [beq_eq_false_iff_ne]; omega
          have hn0 : ¬ T < 0 := by omega
          go_wp2
          go_ret2
          exact ⟨by rw [HP.out]; rfl, HK.out⟩
      | true =>
        obtain ⟨a, ha, ha1, ha2⟩ := okT_range hok
        have hne : (x.type == 0) = false := by rw [beq_eq_false_iff_ne]; omega
        have hn0 : ¬ x.type < 0 := by omega
        have hn6 : ¬ 65535 < x.type := by omega
        have R : Hid ((l.take (j + 1)).all okT = true ∧ sizeT (l.take (j + 1)) = sizeT (l.take j) + (4 + x.value.size)) := ⟨by rw [take_next hx, List.all_append, HI.out.1]; simp [hok], sizeT_take hx⟩
        clear hok hx HI
        generalize sizeT (l.take j) = Z at *
        generalize x.type = T at *
        have hZ : Z ≤ 2814749767024720 := by omega
        clear ha hsum
        go_wp2
        exact ⟨⟨j + 1, hlt, by go_num, by rw [R.out.2]; go_num, R.out.1, HK.out⟩, by simp [intOf]; omega⟩
    · obtain rfl : j = l.length := by omega
      obtain ⟨hall, hk1⟩ := HI.out
      rw [List.take_length] at hall
      have hsum := sizeT_le (l := l) Hsz.out
      rw [List.take_length]
      have hZ : sizeT l ≤ 2814749767024720 := by omega
      by_cases hbig : 1494 < sizeT l
      · have hbz : (1494 : Int) < (sizeT l : Int) := by omega
        have HP := hid (hLong.out hall hbig)
        clear hLong hYes hNo HI hlt
        generalize sizeT l = Z at *
        go_wp2
        go_ret2
        exact ⟨by rw [HP.out]; rfl, hk1⟩
      · have hbz : ¬ (1494 : Int) < (sizeT l : Int) := by omega
        have HP := hid (hYes.out hall hbig)
        have Hall := hid hall
        have HK1 := hid hk1
        clear hLong hYes hNo HI hlt hsum hall hk1
        have HZ : Hid (∀ j, sizeT (l.take j) ≤ sizeT l) := sizeT_take_le l
        have HZl : Hid (sizeT l = sizeT (l.take l.length)) := by show _ = _; rw [List.take_length]
        have HBl : Hid (bytesT l = bytesT (l.take l.length)) := by show _ = _; rw [List.take_length]
        obtain ⟨Z, hZd⟩ : ∃ Z, Z = sizeT l := ⟨_, rfl⟩
        rw [← hZd] at hZ hbig hbz HZ HZl ⊢
        clear hZd
        go_wp2_with (at_make; refine wpList_make_own _ rfl _ _ 227 rfl w.heap.size 5 i0 (.int .u8 0) 1 Tryz.underlying227 hi hz0 hz1 .i64 .i64 _ Z rfl rfl ?m1 ?m2 ?m3 ?m4 ?_)
        case m1 => omega
        case m2 => omega
        case m3 => unfold maxLen; omega
        case m4 => exact HK1.out.size
        intro w3 hown3 hg3
        have HK3 : Hid (Kept (fun _ => False) w w3) := HK1.out.grown hg3 (fun j hj => by cases hj)
        clear hg3 HK1
        go_wp2
        go_loopw [7, 45] (PutUp w l) (fun _ vi _ => l.length - (intOf vi).toNat)
        case atStart => exact ⟨0, Nat.zero_le _, rfl, hown3, HK3.out⟩
        case round =>
          obtain ⟨j, hj, rfl, hown4, hk4⟩ := hrel
          have HK4 := hid hk4
          have HZ4 := HZ.out j
          clear hown3 HK3 hk4
          by_cases hlt : j < l.length
          · have hltz : (j : Int) < (l.length : Int) := by omega
            obtain ⟨x, hx⟩ : ∃ x, l[j]? = some x := ⟨l[j], by simp [hlt]⟩
            obtain ⟨g, o, rfl, hcap, c0, c1⟩ := Hat.out j x hx _ HK4.out
            obtain ⟨a, ha, ha1, ha2⟩ := okT_range (List.all_eq_true.1 Hall.out x (List.mem_of_getElem? hx))
            have hZn := HZ.out (j + 1)
            have RZ := hid (sizeT_take hx)
            have RB : Hid (bytesT (l.take (j + 1)) = bytesT (l.take j) ++ low a 2 ++ low x.value.size 2 ++ x.value.data.toList) := by
              show _ = _
              rw [take_next hx, bytesT_snoc, tagBytes, ha, Int.toNat_natCast]
              simp
            rw [RZ.out] at hZn
            rw [ha] at c0
            obtain ⟨y, hy⟩ : ∃ y : Tg, y = ⟨(a : Int), x.value⟩ := ⟨_, rfl⟩
            have B4 := BoxT.new wr y
            rw [hy] at B4
            have b40 := B4.c0
            have b41 := B4.c1
            have HK5 := hid (HK4.out.alloc (.cells #[.int .i64 (a : Int), .string x.value] 97))
            have hs4 : w.heap.size ≤ wr.heap.size := HK4.out.size
            generalize sizeT (l.take j) = Zj at *
            generalize bytesT (l.take j) = Bj at *
            clear ha hx hy HK4
            have hx4 : x.value.size ≤ 65535 := by omega
            go_wp2_with fail
            refine (putWord_any w.heap.size _ Zj Bj a (by omega) _ (by simp; omega) (hown4.alloc _) (by omega)).mono ?_
            rintro e w5 ⟨v5, rfl, hown5, _, hk5⟩
            have B5 := B4.beside (hown4.alloc _) hk5
            have HK6 := hid (kept_base HK5.out (Nat.le_refl _) (hown4.alloc _) hk5)
            have b50 := B5.c0
            have b51 := B5.c1
            have hs5 := HK6.out.size
            clear hk5 B4 b40 b41 hown4 c0 c1 HK5
            go_wp2_with fail
            refine (putWord_any w.heap.size _ (Zj + 2) _ x.value.size (by omega) _ hs5 hown5 (by omega)).mono ?_
            rintro e w6 ⟨v6, rfl, hown6, _, hk6⟩
            have B6 := B5.beside hown5 hk6
            have HK7 := hid (kept_base HK6.out (Nat.le_refl _) hown5 hk6)
            have b60 := B6.c0
            have b61 := B6.c1
            have hs6 := HK7.out.size
            obtain ⟨Bk, hBk⟩ : ∃ Bk, Bk = Bj ++ low a 2 ++ low x.value.size 2 := ⟨_, rfl⟩
            rw [← hBk] at hown6
            rw [← hBk] at RB
            clear hk6 B5 b50 b51 hown5 HK6 hBk
            go_wp2_with (at_builtin; refine Lib.wpList_append_own_string _ rfl _ _ 227 9 rfl w.heap.size 5 i0 Tryz.underlying227 Tryz.underlying9 hi hz0 hz1 hz2 _ _ _ rfl hown6 x.value rfl ?c1 ?c2 ?c3 ?_)
            case c1 => unfold maxLen; omega
            case c2 => omega
            case c3 => exact hs6
            intro v7 w7 hown7 hg7 _
            have R := append_str hs6 hown6 hown7 hg7
            have HK8 := hid (kept_base HK7.out (Nat.le_refl _) hown6 ((Kept.refl _ w6).grown hg7 (fun j hj => Or.inr hj)))
            have R1 : w7.ownsRow w.heap.size 5 1 v7 (sizeT (l.take (j + 1))) (Lib.byteCells (bytesT (l.take (j + 1)))) := by
              rw [RZ.out, RB.out, ← Nat.add_assoc, show Zj + 4 = Zj + 2 + 2 from rfl]
              exact R.1
            clear hown7 hg7 R hown6 b60 b61 B6 RZ RB HK7
            go_wp2
            exact ⟨⟨j + 1, hlt, by go_num, R1, HK8.out⟩, by simp [intOf]; omega⟩
          · obtain rfl : j = l.length := by omega
            have hcv := put_conv hown4
            rw [← HBl.out] at hcv
            clear hlt hown4 HZ4
            go_wp2
            go_ret2
            exact ⟨by rw [HP.out]; rfl, HK4.out⟩

/-- 'PutTags(l)'. -/
theorem putTags_any (v : Value) (l : List Tg) (w : World) (hv : TagsAt w v l) (hsz : ∀ x ∈ l, x.value.size ≤ 140737488351232) :
    Calls Tryz.prog 118 #[v] w fun e w' => e = .returned (.tuple #[.string ⟨(putTagsF l).1.toArray⟩, .int .i64 (putTagsF l).2]) ∧ Kept (fun _ => False) w w' := by
  by_cases h : 20 < l.length
  · have e : putTagsF l = ([], 2) := by unfold putTagsF; rw [if_pos h]
    rw [e]
    exact putTags_many v l w hv h
  · exact putTags_in v l w hv (by omega) hsz
end Go.Proofs.YtffnppfoofifgaaGreat
