/- The contract of opts.PutOptions: options as bytes, or the error; for every list whose values have at most 2^47 bytes each. -/
import Derived.Test.YtcmdfcdmfdheeaaOpRow
import Derived.Test.YtcmdfcdmfdheeaaOpPack
namespace Go.Proofs.Ytcmdfcdmfdheeaa
open Go.RowKit

theorem sizeO_take {l : List Tg} {j : Nat} {x : Tg} (h : l[j]? = some x) : sizeO (l.take (j + 1)) = sizeO (l.take j) + (2 + x.value.size) := by rw [take_next h, sizeO_snoc]

set_option maxHeartbeats 400000 in
set_option maxRecDepth 100000 in
theorem putOpts_many (v : Value) (l : List Tg) (w : World) (hv : TagsAt w v l) (hl : 30 < l.length) :
    Calls Try.prog 41 #[v] w fun e w' => e = .returned (.tuple #[.string ⟨#[]⟩, .int .i64 2]) ∧ Kept (fun _ => False) w w' := by
  obtain ⟨p, cap, rfl⟩ := hv.slice
  have hlz : (30 : Int) < (l.length : Int) := by omega
  clear hv hl
  go_enter Try.func41, Try.ntmps41
  go_wp2
  go_ret2
  exact ⟨rfl, Kept.refl _ _⟩

/-- How far the loop has come. -/
def PutUpO (w : World) (l : List Tg) (v4 vi : Value) (wr : World) : Prop :=
  ∃ j : Nat, j ≤ l.length ∧ vi = .int .i64 (j : Int) ∧ (l.take j).all okO = true ∧ wr.ownsRow w.heap.size 5 1 v4 (sizeO (l.take j)) (Lib.byteCells (bytesO (l.take j))) ∧ Kept (fun _ => False) w wr

set_option maxHeartbeats 4000000 in
set_option maxRecDepth 100000 in
theorem putOpts_in (v : Value) (l : List Tg) (w : World) (hv : TagsAt w v l) (hl : l.length ≤ 30) (hsz : ∀ x ∈ l, x.value.size ≤ 140737488351232) :
    Calls Try.prog 41 #[v] w fun e w' => e = .returned (.tuple #[.string ⟨(putOptsF l).1.toArray⟩, .int .i64 (putOptsF l).2]) ∧ Kept (fun _ => False) w w' := by
  obtain ⟨p, cap, rfl⟩ := hv.slice
  obtain ⟨i0, hi, hz0, hz1, hz2⟩ := info_parts info5
  have Hat : Hid (∀ (j : Nat) (x : Tg), l[j]? = some x → ∀ W, Kept (fun _ => False) w W → ∃ g o, p = some ⟨g, o, none⟩ ∧ l.length ≤ cap ∧ W.cell? ⟨g, o + j * 2, none⟩ = some (.int .i64 x.type) ∧ W.cell? ⟨g, o + j * 2 + 1, none⟩ = some (.string x.value)) :=
    fun j x hj W hW => (hv.kept0 hW).at hj
  have Hsz := hid hsz
  have hlz : (l.length : Int) ≤ 30 := by omega
  have hNo : Hid (l.all okO = false → putOptsF l = ([], 1)) := fun h => by unfold putOptsF; rw [if_neg (by omega), if_pos h]
  have hYes : Hid (l.all okO = true → putOptsF l = (bytesO l, 0)) := fun h => by unfold putOptsF; rw [if_neg (by omega), if_neg (by rw [h]; simp)]
  clear hv hsz
  go_enter Try.func41, Try.ntmps41
  go_wp2
  go_loopw [4, 12] (PutUpO w l) (fun _ vi _ => l.length - (intOf vi).toNat)
  case atStart => exact ⟨0, Nat.zero_le _, rfl, rfl, World.ownsRow_nil _ _ _ _, Kept.refl _ _⟩
  case round =>
    obtain ⟨j, hj, rfl, hall, hown4, hk4⟩ := hrel
    have HK4 := hid hk4
    have Hall := hid hall
    have hZ := sizeO_le hall
    rw [List.length_take, Nat.min_eq_left hj] at hZ
    clear hk4 hall
    by_cases hlt : j < l.length
    · have hltz : (j : Int) < (l.length : Int) := by omega
      obtain ⟨x, hx⟩ : ∃ x, l[j]? = some x := ⟨l[j], by simp [hlt]⟩
      obtain ⟨g, o, rfl, hcap, c0, c1⟩ := Hat.out j x hx wr HK4.out
      have hxs := Hsz.out x (List.mem_of_getElem? hx)
      have HK5 := hid (HK4.out.alloc (.cells #[.int .i64 x.type, .string x.value] 51))
      have B4 := BoxO.new wr x
      have b40 := B4.c0
      have b41 := B4.c1
      have HB := hid (isByte_any x.type)
      cases hok : okO x with
      | false =>
        have hall : l.all okO = false := by
          rw [List.all_eq_false]
          exact ⟨x, List.mem_of_getElem? hx, by rw [hok]; simp⟩
        have HP := hid (hNo.out hall)
        have hr : x.type = 0 ∨ (x.type ≠ 0 ∧ byteB x.type = false) ∨ (x.type ≠ 0 ∧ byteB x.type = true ∧ 253 < x.value.size) := by
          have h2 : ¬ ((1 ≤ x.type ∧ x.type ≤ 255) ∧ x.value.size ≤ 253) := by simpa [okO] using hok
          by_cases h0 : x.type = 0
          · exact Or.inl h0
          · cases hb : byteB x.type with
            | false => exact Or.inr (Or.inl ⟨h0, rfl⟩)
            | true =>
              have : 0 ≤ x.type ∧ x.type ≤ 255 := by simpa [byteB] using hb
              exact Or.inr (Or.inr ⟨h0, rfl, by omega⟩)
        clear hok hall hx B4 hown4 hZ
        generalize x.type = T at *
        generalize x.value = V at *
        rcases hr with hr | ⟨hr, hb⟩ | ⟨hr, hb, hv⟩
        · subst hr
          go_wp2
          go_ret2
          exact ⟨by rw [HP.out]; rfl, HK5.out⟩
        · have hne : (T == 0) = false := by rw [beq_eq_false_iff_ne]; exact hr
          rw [hb] at HB
          go_wp2_with (go_at_call 57; refine (HB.out _).mono ?_; rintro e w1 ⟨rfl, rfl⟩)
          go_ret2
          exact ⟨by rw [HP.out]; rfl, HK5.out⟩
        · have hne : (T == 0) = false := by rw [beq_eq_false_iff_ne]; exact hr
          have hvz : (253 : Int) < (V.size : Int) := by omega
          rw [hb] at HB
          go_wp2_with (go_at_call 57; refine (HB.out _).mono ?_; rintro e w1 ⟨rfl, rfl⟩)
          go_ret2
          exact ⟨by rw [HP.out]; rfl, HK5.out⟩
      | true =>
        obtain ⟨a, ha, ha1, ha2, hv3⟩ := okO_range hok
        have hne : ((a : Int) == 0) = false := by rw [beq_eq_false_iff_ne]; omega
        have hb : byteB x.type = true := by rw [ha]; simp [byteB]; omega
        rw [hb, ha] at HB
        have R : Hid ((l.take (j + 1)).all okO = true ∧ sizeO (l.take (j + 1)) = sizeO (l.take j) + (2 + x.value.size) ∧ bytesO (l.take (j + 1)) = bytesO (l.take j) ++ [UInt8.ofNat a, UInt8.ofNat (2 + x.value.size)] ++ x.value.data.toList) :=
          ⟨by rw [take_next hx, List.all_append, Hall.out]; simp [hok], sizeO_take hx, by rw [take_next hx, bytesO_snoc, optBytes, ha, Int.toNat_natCast, List.append_assoc]⟩
        rw [ha] at c0 b40 HK5
        clear B4
        have hs4 : w.heap.size ≤ wr.heap.size := HK4.out.size
        have hwa : (a : Int) % 256 = (a : Int) := by omega
        have hwv : (2 + (x.value.size : Int)) % 256 = 2 + (x.value.size : Int) := by omega
        have hvz : ¬ (253 : Int) < (x.value.size : Int) := by omega
        generalize sizeO (l.take j) = Zj at *
        generalize bytesO (l.take j) = Bj at *
        clear hok hx hb ha hxs Hall
        generalize x.value = V at *
        go_wp2_with fail
        refine (HB.out _).mono ?_
        rintro e w1 ⟨rfl, rfl⟩
        go_wp2_with (at_builtin; refine wpList_append_own _ rfl _ _ 100 rfl w.heap.size 5 i0 (.int .u8 0) 1 1 Try.underlying100 hi hz0 hz1 hz2 rfl (by decide) _ _ _ rfl ((hown4.alloc _).alloc _) ⟨wr.heap.size + 1, 0, none⟩ 2 2 [.int .u8 (a : Int), .int .u8 (2 + (V.size : Int))] rfl rfl ?c1 ?c2 ?c3 ?c4 ?c5 ?_)
        case c1 =>
          have e : (wr.alloc (.cells #[.int .i64 (a : Int), .string V] 51)).heap.size = wr.heap.size + 1 := by simp
          rw [← e]
          exact cells_two_new _ _ _ _
        case c2 => intro u hu; simp at hu; rcases hu with rfl | rfl <;> rfl
        case c3 => unfold maxLen; omega
        case c4 => omega
        case c5 => simp; omega
        intro v5 w5 hown5' hg5 _
        have e2 : (2 + (V.size : Int)) = ((2 + V.size : Nat) : Int) := by omega
        rw [e2] at hown5' hg5
        have R5 := append_two (x := a) (y := 2 + V.size) (by omega) (by omega) (by simp; omega) (hown4.alloc _) hown5' hg5
        have hown5 := R5.1
        have hk5 : Kept (fun i => u4.ownBlock = some i) (wr.alloc (.cells #[.int .i64 (a : Int), .string V] 51)) w5 := ((Kept.refl _ _).alloc _).grown hg5 (fun j hj => Or.inr hj)
        have B5 := BoxO.beside (BoxO.new wr ⟨(a : Int), V⟩) (hown4.alloc _) hk5
        have HK6 := hid (kept_base HK5.out (Nat.le_refl _) (hown4.alloc _) hk5)
        have b50 := B5.c0
        have b51 := B5.c1
        have hs5 := HK6.out.size
        simp only at b50 b51
        obtain ⟨Bk, hBk⟩ : ∃ Bk, Bk = Bj ++ [UInt8.ofNat a, UInt8.ofNat (2 + V.size)] := ⟨_, rfl⟩
        rw [← hBk] at hown5
        rw [← hBk] at R
        clear hown5' hg5 R5 hk5 b40 b41 hown4 c0 c1 HK5 HK4 hBk e2
        go_wp2_with (at_builtin; refine Lib.wpList_append_own_string _ rfl _ _ 100 9 rfl w.heap.size 5 i0 Try.underlying100 Try.underlying9 hi hz0 hz1 hz2 _ _ _ rfl hown5 V rfl ?c1 ?c2 ?c3 ?_)
        case c1 => unfold maxLen; omega
        case c2 => omega
        case c3 => exact hs5
        intro v7 w7 hown7 hg7 _
        have R7 := append_str hs5 hown5 hown7 hg7
        have HK8 := hid (kept_base HK6.out (Nat.le_refl _) hown5 ((Kept.refl _ w5).grown hg7 (fun j hj => Or.inr hj)))
        have R1 : w7.ownsRow w.heap.size 5 1 v7 (sizeO (l.take (j + 1))) (Lib.byteCells (bytesO (l.take (j + 1)))) := by
          rw [R.out.2.1, R.out.2.2, ← Nat.add_assoc]
          exact R7.1
        clear hown7 hg7 R7 hown5 b50 b51 B5 HK6
        go_wp2
        exact ⟨⟨j + 1, hlt, by go_num, R.out.1, R1, HK8.out⟩, by simp [intOf]; omega⟩
    · obtain rfl : j = l.length := by omega
      rw [List.take_length] at hown4
      have hcv := put_conv hown4
      have ha := Hall.out
      rw [List.take_length] at ha
      have HP := hid (hYes.out ha)
      clear hlt hown4 ha hZ
      go_wp2
      go_ret2
      exact ⟨by rw [HP.out]; rfl, HK4.out⟩

/-- 'PutOptions(l)'. -/
theorem putOpts_any (v : Value) (l : List Tg) (w : World) (hv : TagsAt w v l) (hsz : ∀ x ∈ l, x.value.size ≤ 140737488351232) :
    Calls Try.prog 41 #[v] w fun e w' => e = .returned (.tuple #[.string ⟨(putOptsF l).1.toArray⟩, .int .i64 (putOptsF l).2]) ∧ Kept (fun _ => False) w w' := by
  by_cases h : 30 < l.length
  · have e : putOptsF l = ([], 2) := by unfold putOptsF; rw [if_pos h]
    rw [e]
    exact putOpts_many v l w hv h
  · exact putOpts_in v l w hv (by omega) hsz
end Go.Proofs.Ytcmdfcdmfdheeaa
