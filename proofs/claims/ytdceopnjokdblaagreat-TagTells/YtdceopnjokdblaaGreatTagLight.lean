/- The contracts of tag.Same, of the laws' Light and alive. -/
import Derived.Test.YtdceopnjokdblaaGreatTagFind
namespace Go.Proofs.YtdceopnjokdblaaGreat
open Go.RowKit

theorem same_any (v u : Value) (l m : List Tg) (w : World) (hv : TagsAt w v l) (hu : TagsAt w u m) (hl : l.length ≤ 1000000) :
    Calls Tryz.prog 18 #[v, u] w fun e w' => e = .returned (.bool (sameF l m)) ∧ Kept (fun _ => False) w w' := by
  have HE := hid (equal_any v u l m w hv hu hl)
  clear hv hu
  generalize sameF l m = B at *
  go_enter Tryz.func18, Tryz.ntmps18
  go_wp2_with fail
  refine HE.out.mono ?_
  rintro e w' ⟨rfl, hk⟩
  go_wp2
  go_ret
  exact ⟨rfl, hk⟩

/-- How many bytes the values have. -/
def valT (l : List Tg) : Nat := (l.map fun t => t.value.size).sum
theorem valT_take {l : List Tg} {j : Nat} {x : Tg} (h : l[j]? = some x) : valT (l.take (j + 1)) = valT (l.take j) + x.value.size := by rw [take_next h]; simp [valT]
theorem valT_le {l : List Tg} (h : ∀ x ∈ l, x.value.size ≤ 140737488351232) : valT l ≤ l.length * 140737488351232 := by
  induction l with
  | nil => simp [valT]
  | cons a r ih =>
    have := ih (fun x hx => h x (by simp [hx]))
    have := h a (by simp)
    simp only [valT, List.map_cons, List.sum_cons, List.length_cons] at *
    omega
theorem valT_mem {l : List Tg} {x : Tg} (h : x ∈ l) : x.value.size ≤ valT l := by
  induction l with
  | nil => simp at h
  | cons a r ih =>
    simp only [valT, List.map_cons, List.sum_cons] at *
    rcases List.mem_cons.1 h with rfl | h
    · omega
    · have := ih h
      omega

/-- Few and short tags. -/
def lightF (l : List Tg) : Bool := decide (l.length ≤ 40) && decide (valT (l.take 50) ≤ 9000)
theorem lightF_true {l : List Tg} (h : lightF l = true) : l.length ≤ 40 ∧ ∀ x ∈ l, x.value.size ≤ 9000 := by
  simp only [lightF, Bool.and_eq_true, decide_eq_true_eq] at h
  obtain ⟨h1, h2⟩ := h
  rw [List.take_of_length_le (by omega)] at h2
  exact ⟨h1, fun x hx => Nat.le_trans (valT_mem hx) h2⟩

set_option maxHeartbeats 2000000 in
set_option maxRecDepth 100000 in
theorem light_any (v : Value) (l : List Tg) (w : World) (hv : TagsAt w v l) (hl : l.length ≤ 9223372036854775807) (hsz : ∀ x ∈ l, x.value.size ≤ 140737488351232) :
    Calls Tryz.prog 4 #[v] w fun e w' => e = .returned (.bool (lightF l)) ∧ Kept (fun _ => False) w w' := by
  obtain ⟨p, cap, rfl⟩ := hv.slice
  have Hat : Hid (∀ (j : Nat) (x : Tg), l[j]? = some x → ∀ W, Kept (fun _ => False) w W → ∃ g o, p = some ⟨g, o, none⟩ ∧ l.length ≤ cap ∧ W.cell? ⟨g, o + j * 2, none⟩ = some (.int .i64 x.type) ∧ W.cell? ⟨g, o + j * 2 + 1, none⟩ = some (.string x.value)) :=
    fun j x hj W hW => (hv.kept0 hW).at hj
  have Hsz := hid hsz
  have hlz : (l.length : Int) ≤ 9223372036854775807 := by omega
  clear hv hsz
  go_enter Tryz.func4, Tryz.ntmps4
  go_wp2
  go_loopw [3, 4] (fun v3 vi wr => ∃ j n : Nat, j ≤ l.length ∧ j ≤ 50 ∧ n ≤ j * 140737488351232 ∧ vi = .int .i64 (j : Int) ∧ v3 = .int .i64 (n : Int) ∧ Hid (valT (l.take j) = n ∧ Kept (fun _ => False) w wr)) (fun _ vi _ => 50 - (intOf vi).toNat)
  case atStart => exact ⟨0, 0, Nat.zero_le _, Nat.zero_le _, Nat.zero_le _, rfl, rfl, rfl, Kept.refl _ _⟩
  case round =>
    obtain ⟨j, n, hj, hj5, hn, rfl, rfl, HI⟩ := hrel
    by_cases hlt : j < l.length
    · have hltz : (j : Int) < (l.length : Int) := by omega
      by_cases h5 : j < 50
      · have h5z : (j : Int) < 50 := by omega
        obtain ⟨x, hx⟩ : ∃ x, l[j]? = some x := ⟨l[j], by simp [hlt]⟩
        obtain ⟨g, o, rfl, hcap, c0, c1⟩ := Hat.out j x hx wr HI.out.2
        have hxs := Hsz.out x (List.mem_of_getElem? hx)
        have R : Hid (valT (l.take (j + 1)) = n + x.value.size) := by show _ = _; rw [valT_take hx, HI.out.1]
        have HK := hid HI.out.2
        clear hx HI
        go_wp2
        exact ⟨⟨j + 1, n + x.value.size, hlt, by omega, by omega, by go_num, by go_num, R.out, HK.out⟩, by simp [intOf]; omega⟩
      · have h5z : ¬ (j : Int) < 50 := by omega
        have e : lightF l = false := by
          unfold lightF
          rw [show decide (l.length ≤ 40) = false from by rw [decide_eq_false_iff_not]; omega]
          rfl
        have HF := hid e
        have h4z : ¬ (l.length : Int) ≤ 40 := by omega
        have HK := hid HI.out.2
        clear HI e
        go_wp2
        go_ret
        exact ⟨by rw [HF.out]; rfl, HK.out⟩
    · obtain rfl : j = l.length := by omega
      have hltz : ¬ (l.length : Int) < (l.length : Int) := by omega
      have hV := HI.out.1
      rw [List.take_length] at hV
      have e : lightF l = (decide ((l.length : Int) ≤ 40) && decide ((n : Int) ≤ 9000)) := by
        unfold lightF
        rw [List.take_of_length_le hj5, hV]
        congr 1
        · rw [decide_eq_decide]; omega
        · rw [decide_eq_decide]; omega
      have HF := hid e
      have HK := hid HI.out.2
      clear HI e hV hlt
      by_cases h4 : (l.length : Int) ≤ 40
      · go_wp2
        go_ret
        exact ⟨by rw [HF.out]; simp [h4], HK.out⟩
      · have H4 : Hid (decide ((l.length : Int) ≤ 40) = false) := decide_eq_false h4
        go_wp2
        go_ret
        exact ⟨by rw [HF.out, H4.out]; rfl, HK.out⟩

def t1 : Tg := ⟨257, ⟨#[]⟩⟩
theorem put1 : putTagsF [t1] = ([1, 1, 0, 0], 0) := by rfl
theorem put2 : putDiscF 9 0 [1, 1, 0, 0] = ([17, 9, 0, 0, 0, 4, 1, 1, 0, 0], 0) := by rfl
theorem get1 : getDiscF ([17, 9, 0, 0, 0, 4, 1, 1, 0, 0] ++ [102, 105, 108, 108, 105, 110, 103]) = (⟨9, 0, [1, 1, 0, 0]⟩, 0) := getDisc_put 9 0 (by decide) (by decide) [1, 1, 0, 0] [102, 105, 108, 108, 105, 110, 103] (by decide)

theorem tags_box {w : World} {b : Nat} {x : Tg} (h : BoxT w b x) : TagsAt w (.slice (some ⟨b, 0, none⟩) 1 1) [x] := by
  refine Or.inr ⟨b, 0, 1, rfl, by simp, by unfold maxLen; omega, fun j y hj => ?_⟩
  cases j with
  | zero =>
    simp at hj
    subst hj
    exact ⟨h.c0, h.c1⟩
  | succ j => simp at hj

set_option maxHeartbeats 1000000 in
set_option maxRecDepth 100000 in
theorem alive_any (w : World) : Calls Tryz.prog 5 #[] w fun e w' => e = .returned (.bool true) ∧ Kept (fun _ => False) w w' := by
  have C1 := hid (fun W b (h : BoxT W b t1) => putTags_any (.slice (some ⟨b, 0, none⟩) 1 1) [t1] W (tags_box h) (by intro x hx; simp at hx; subst hx; decide))
  have C2 := hid (fun W => putDisc_any 9 0 ⟨#[1, 1, 0, 0]⟩ (by decide) W)
  have C3 := hid (fun W => getDisc_any ⟨#[17, 9, 0, 0, 0, 4, 1, 1, 0, 0, 102, 105, 108, 108, 105, 110, 103]⟩ (by decide) W)
  rw [put1] at C1
  have e2 : putDiscF 9 0 (⟨#[1, 1, 0, 0]⟩ : ByteArray).data.toList = ([17, 9, 0, 0, 0, 4, 1, 1, 0, 0], 0) := put2
  have e3 : getDiscF (⟨#[17, 9, 0, 0, 0, 4, 1, 1, 0, 0, 102, 105, 108, 108, 105, 110, 103]⟩ : ByteArray).data.toList = (⟨9, 0, [1, 1, 0, 0]⟩, 0) := get1
  rw [e2] at C2
  rw [e3] at C3
  have B0 := BoxT.new w t1
  have K0 := (Kept.refl (fun _ => False) w).alloc (.cells #[.int .i64 t1.type, .string t1.value] 63)
  clear e2 e3
  go_enter Tryz.func5, Tryz.ntmps5
  go_wp2_with fail
  refine (C1.out _ _ B0).mono ?_
  rintro e w1 ⟨rfl, hk1⟩
  have HK1 := hid (K0.trans hk1)
  clear hk1 C1 B0 K0
  go_wp2_with fail
  refine (C2.out _).mono ?_
  rintro e w2 ⟨rfl, hb2⟩
  have HK2 := hid (HK1.out.trans (kept_of hb2))
  clear hb2 C2 HK1
  go_wp2_with fail
  refine (C3.out _).mono ?_
  rintro e w3 ⟨rfl, hk3⟩
  unfold discV
  have HK3 := hid ((HK2.out.trans hk3).alloc (.cells #[.int .i64 9, .int .i64 0, .string ⟨#[1, 1, 0, 0]⟩] 23))
  have B3 := box3_new w3 23 (.int .i64 9) (.int .i64 0) (.string ⟨#[1, 1, 0, 0]⟩)
  obtain ⟨b0, b1, b2⟩ := B3
  clear hk3 C3 HK2
  go_wp2
  go_ret
  exact ⟨rfl, HK3.out⟩
end Go.Proofs.YtdceopnjokdblaaGreat
