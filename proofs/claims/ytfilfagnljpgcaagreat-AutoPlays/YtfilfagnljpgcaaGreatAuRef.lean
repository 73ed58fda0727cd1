/- The document's own answer: entry, action and Next: they tell what the program's Next tells. -/
import Derived.Test.YtfilfagnljpgcaaGreatAuRows
import Derived.Test.YtfilfagnljpgcaaGreatBiMark
import Derived.Lib.Hide
namespace Go.Proofs.YtfilfagnljpgcaaGreat
open Go.RowKit

theorem index_at (s : ByteArray) (k : Nat) (h : k < s.size) (i : Int) (hi : i = (k : Int)) (W : World) :
    (Instr.index 9 (.string s) (.int .i64 i)).run Tryz.prog W = .ok (.int .u8 ((s.data.toList.getD k 0).toNat : Int)) W := by
  subst hi
  rw [run_index_string W 9 s .i64 (k : Int) Tryz.underlying9, dif_pos ⟨by omega, by omega⟩]
  have hg : s.data.toList.getD k 0 = s[k] := by
    rw [List.getD_eq_getElem?_getD, List.getElem?_eq_getElem (by simpa using h)]
    rfl
  rw [hg]
  rfl
theorem first_at (s : ByteArray) (k : Nat) (h : k ≤ s.size) (i : Int) (hi : i = (k : Int)) (W : World) :
    (Instr.slice 9 (.string s) none (some (.int .i64 i)) none).run Tryz.prog W = .ok (.string (s.extract 0 k)) W := by
  subst hi
  rw [run_slice_string_h W 9 s Tryz.underlying9 .i64 (k : Int) (by omega) (by omega)]
  rfl
theorem mid_at (s : ByteArray) (k m : Nat) (h : k ≤ m) (h2 : m ≤ s.size) (i j : Int) (hi : i = (k : Int)) (hj : j = (m : Int)) (W : World) :
    (Instr.slice 9 (.string s) (some (.int .i64 i)) (some (.int .i64 j)) none).run Tryz.prog W = .ok (.string (s.extract k m)) W := by
  subst hi hj
  rw [run_slice_string W 9 s .i64 .i64 (k : Int) (m : Int) Tryz.underlying9 (by omega) (by omega) (by omega)]
  rfl

/-- Byte k of a string, as a number. -/
def byteN (s : ByteArray) (k : Nat) : Nat := (s.data.toList.getD k 0).toNat
/-- Where the field number s lies in a row: f rounds more, at i, the field number a begun at m. -/
def scanR (r : ByteArray) (s : Nat) : Nat → Nat → Nat → Nat → Option (Nat × Nat)
  | 0, _, _, _ => none
  | f + 1, i, m, a => if i < r.size ∧ byteN r i ≠ 124 then scanR r s f (i + 1) m a else if a = s then some (m, i) else scanR r s f (i + 1) (i + 1) (a + 1)
/-- The table's words at a field: actions, and the next state. -/
def wordF (s : Nat) (x : ByteArray) : ByteArray × Int :=
  if x.data.toList = [45] then (⟨#[]⟩, (s : Int)) else if 1 < x.size then (x.extract 0 (x.size - 2), ((byteN x (x.size - 1) : Int) - 48) % 256) else (⟨#[]⟩, ((byteN x 0 : Int) - 48) % 256)

theorem scan_on {r : ByteArray} {s f i m a : Nat} (h : i < r.size) (hx : byteN r i ≠ 124) : scanR r s (f + 1) i m a = scanR r s f (i + 1) m a := by
  rw [scanR, if_pos ⟨h, hx⟩]
theorem scan_hit {r : ByteArray} {s f i m a : Nat} (h : ¬ (i < r.size ∧ byteN r i ≠ 124)) (ha : a = s) : scanR r s (f + 1) i m a = some (m, i) := by
  rw [scanR, if_neg h, if_pos ha]
theorem scan_past {r : ByteArray} {s f i m a : Nat} (h : ¬ (i < r.size ∧ byteN r i ≠ 124)) (ha : a ≠ s) : scanR r s (f + 1) i m a = scanR r s f (i + 1) (i + 1) (a + 1) := by
  rw [scanR, if_neg h, if_neg ha]
/-- How far the scan has come. -/
structure ScanIn (r : ByteArray) (s f0 t0 i m a : Nat) : Prop where
  hi : i ≤ r.size
  hm : m ≤ i
  ha : a ≤ i
  res : scanR r s (r.size + 1 - i) i m a = some (f0, t0)
theorem ScanIn.on {r : ByteArray} {s f0 t0 i m a : Nat} (h : ScanIn r s f0 t0 i m a) (hi : i < r.size) (hx : byteN r i ≠ 124) : ScanIn r s f0 t0 (i + 1) m a := by
  have e := h.res
  rw [show r.size + 1 - i = (r.size + 1 - (i + 1)) + 1 by omega, scan_on hi hx] at e
  exact ⟨hi, by have := h.hm; omega, by have := h.ha; omega, e⟩
theorem ScanIn.past {r : ByteArray} {s f0 t0 i m a : Nat} (h : ScanIn r s f0 t0 i m a) (hx : ¬ (i < r.size ∧ byteN r i ≠ 124)) (ha : a ≠ s) : ScanIn r s f0 t0 (i + 1) (i + 1) (a + 1) := by
  have e := h.res
  have h1 := h.hi
  rw [show r.size + 1 - i = (r.size + 1 - (i + 1)) + 1 by omega, scan_past hx ha] at e
  refine ⟨?_, Nat.le_refl _, by have := h.ha; omega, e⟩
  by_cases hlt : i < r.size
  · exact hlt
  · exfalso
    rw [show r.size + 1 - (i + 1) = 0 by omega] at e
    cases e
theorem ScanIn.hit {r : ByteArray} {s f0 t0 i m a : Nat} (h : ScanIn r s f0 t0 i m a) (hx : ¬ (i < r.size ∧ byteN r i ≠ 124)) (ha : a = s) : m = f0 ∧ i = t0 := by
  have e := h.res
  have h1 := h.hi
  rw [show r.size + 1 - i = (r.size + 1 - (i + 1)) + 1 by omega, scan_hit hx ha] at e
  simpa using e

set_option maxHeartbeats 4000000 in
set_option maxRecDepth 100000 in
theorem entry_in (k s f0 t0 : Nat) (hk : k < 16) (hs : s ≤ 9) (r : ByteArray) (hr : rowsL[k]? = some r) (hrs : r.size ≤ 100) (hres : scanR r s (r.size + 1) 0 0 0 = some (f0, t0)) (h1 : f0 < t0) (h2 : t0 ≤ r.size) (w : World) :
    Calls Tryz.prog 20 #[.int .i64 (s : Int), .int .i64 (k : Int)] w fun e w' => e = .returned (.tuple #[.string (wordF s (r.extract f0 t0)).1, .int .i64 (wordF s (r.extract f0 t0)).2]) ∧ Kept (fun _ => False) w w' := by
  obtain ⟨⟨ws, wn⟩, hwd⟩ : ∃ y, y = wordF s (r.extract f0 t0) := ⟨_, rfl⟩
  rw [← hwd]
  have HWD := hid hwd
  clear hwd
  have q1 : ¬ ((s : Int) < 0) := by omega
  have q2 : ¬ ((9 : Int) < (s : Int)) := by omega
  have q3 : ¬ ((k : Int) < 0) := by omega
  have q4 : ¬ ((16 : Int) ≤ (k : Int)) := by omega
  have q5 : (k : Int) < 16 := by omega
  have hcell : (w.alloc (.cells rowsC 9)).cell? ⟨w.heap.size, k, none⟩ = some (.string r) := by
    rw [World.cell?_alloc_new]
    have e : rowsC = (rowsL.map Value.string).toArray := by kernel_rfl
    rw [e, List.getElem?_toArray, List.getElem?_map, hr]
    rfl
  unfold rowsC at hcell
  clear hr
  go_enter Tryz.func20, Tryz.ntmps20
  go_wp2
  go_loopw [7, 8, 10] (fun va vf vi wr => ∃ a m i : Nat, va = .int .i64 (a : Int) ∧ vf = .int .i64 (m : Int) ∧ vi = .int .i64 (i : Int) ∧ Hid (ScanIn r s f0 t0 i m a ∧ Kept (fun _ => False) w wr)) (fun _ _ vi _ => r.size + 1 - (intOf vi).toNat)
  case atStart => exact ⟨0, 0, 0, rfl, rfl, rfl, ⟨Nat.zero_le _, Nat.le_refl _, Nat.le_refl _, hres⟩, (Kept.refl _ w).alloc _⟩
  case round =>
    obtain ⟨a, m, i, rfl, rfl, rfl, HI⟩ := hrel
    clear hcell hres
    have hi := HI.out.1.hi
    have hm := HI.out.1.hm
    have ha := HI.out.1.ha
    have hiz : (i : Int) ≤ (r.size : Int) := by omega
    by_cases hlt : i < r.size
    · have hltz : (i : Int) < (r.size : Int) := by omega
      have ix := index_at r i hlt (i : Int) rfl
      obtain ⟨b, hb⟩ : ∃ b : Nat, b = byteN r i := ⟨_, rfl⟩
      rw [show ((r.data.toList.getD i 0).toNat : Int) = (b : Int) from by rw [hb]; rfl] at ix
      by_cases hx : b = 124
      · have hxb : ((b : Int) != 124) = false := by simp; omega
        have hnx : ¬ (i < r.size ∧ byteN r i ≠ 124) := fun h => h.2 (by rw [← hb]; exact hx)
        by_cases has : a = s
        · have hasb : ((a : Int) == (s : Int)) = true := by simp; omega
          obtain ⟨e1, e2⟩ := HI.out.1.hit hnx has
          have HK := hid HI.out.2
          subst e1 e2
          have sl := mid_at r m i hm hi (m : Int) (i : Int) rfl rfl
          have hxs : (r.extract m i).size = i - m := by rw [ByteArray.size_extract]; omega
          obtain ⟨x, hxx⟩ : ∃ x, x = r.extract m i := ⟨_, rfl⟩
          rw [← hxx] at sl hxs HWD
          have hx1 : 1 ≤ x.size := by omega
          have hx2 : x.size ≤ 100 := by omega
          clear HI hnx hb hxx hxs
          by_cases h45 : x.toList = [45]
          · have hw : wordF s x = (⟨#[]⟩, (s : Int)) := by unfold wordF; rw [if_pos (by rw [← ByteArray.toList_eq]; exact h45)]
            rw [hw] at HWD
            clear hw
            go_wp2
            go_ret2
            exact ⟨by cases HWD.out; rfl, HK.out⟩
          · have h45b : (x.toList == [45]) = false := by simpa using h45
            by_cases hx3 : 1 < x.size
            · have hw : wordF s x = (x.extract 0 (x.size - 2), ((byteN x (x.size - 1) : Int) - 48) % 256) := by unfold wordF; rw [if_neg (by rw [← ByteArray.toList_eq]; exact h45), if_pos hx3]
              rw [hw] at HWD
              have hx3z : (1 : Int) < (x.size : Int) := by omega
              have fa := first_at x (x.size - 2) (by omega) ((x.size : Int) - 2) (by omega)
              have ia := index_at x (x.size - 1) (by omega) ((x.size : Int) - 1) (by omega)
              obtain ⟨d, hd⟩ : ∃ d : Nat, d = byteN x (x.size - 1) := ⟨_, rfl⟩
              rw [show ((x.data.toList.getD (x.size - 1) 0).toNat : Int) = (d : Int) from by rw [hd]; rfl] at ia
              rw [← hd] at HWD
              have hd2 : d < 256 := by rw [hd]; exact UInt8.toNat_lt _
              clear hw h45 hd
              go_wp2
              go_region
              all_goals go_wp2
              all_goals go_ret2
              all_goals exact ⟨by cases HWD.out; rfl, HK.out.drew⟩
            · have hw : wordF s x = (⟨#[]⟩, ((byteN x 0 : Int) - 48) % 256) := by unfold wordF; rw [if_neg (by rw [← ByteArray.toList_eq]; exact h45), if_neg hx3]
              rw [hw] at HWD
              have hx3z : ¬ (1 : Int) < (x.size : Int) := by omega
              have ia := index_at x 0 (by omega) 0 rfl
              obtain ⟨d, hd⟩ : ∃ d : Nat, d = byteN x 0 := ⟨_, rfl⟩
              rw [show ((x.data.toList.getD 0 0).toNat : Int) = (d : Int) from by rw [hd]; rfl] at ia
              rw [← hd] at HWD
              have hd2 : d < 256 := by rw [hd]; exact UInt8.toNat_lt _
              clear hw h45 hd
              go_wp2
              go_region
              all_goals go_wp2
              all_goals go_ret2
              all_goals exact ⟨by cases HWD.out; rfl, HK.out.drew⟩
        · have hasb : ((a : Int) == (s : Int)) = false := by simp; omega
          have R := hid (HI.out.1.past hnx has)
          have HK := hid HI.out.2
          clear hnx hb HI
          go_wp2
          exact ⟨⟨a + 1, i + 1, i + 1, by go_num, by go_num, by go_num, R.out, HK.out⟩, by simp [intOf]; omega⟩
      · have hxb : ((b : Int) != 124) = true := by simp; omega
        have R := hid (HI.out.1.on hlt (by rw [← hb]; exact hx))
        have HK := hid HI.out.2
        clear hb HI
        go_wp2
        exact ⟨⟨a, m, i + 1, rfl, rfl, by go_num, R.out, HK.out⟩, by simp [intOf]; omega⟩
    · have hltz : ¬ (i : Int) < (r.size : Int) := by omega
      have hnx : ¬ (i < r.size ∧ byteN r i ≠ 124) := fun h => hlt h.1
      by_cases has : a = s
      · have hasb : ((a : Int) == (s : Int)) = true := by simp; omega
        obtain ⟨e1, e2⟩ := HI.out.1.hit hnx has
        have HK := hid HI.out.2
        subst e1 e2
        have sl := mid_at r m i hm hi (m : Int) (i : Int) rfl rfl
        have hxs : (r.extract m i).size = i - m := by rw [ByteArray.size_extract]; omega
        obtain ⟨x, hxx⟩ : ∃ x, x = r.extract m i := ⟨_, rfl⟩
        rw [← hxx] at sl hxs HWD
        have hx1 : 1 ≤ x.size := by omega
        have hx2 : x.size ≤ 100 := by omega
        clear HI hnx hxx hxs
        by_cases h45 : x.toList = [45]
        · have hw : wordF s x = (⟨#[]⟩, (s : Int)) := by unfold wordF; rw [if_pos (by rw [← ByteArray.toList_eq]; exact h45)]
          rw [hw] at HWD
          clear hw
          go_wp2
          go_ret2
          exact ⟨by cases HWD.out; rfl, HK.out⟩
        · have h45b : (x.toList == [45]) = false := by simpa using h45
          by_cases hx3 : 1 < x.size
          · have hw : wordF s x = (x.extract 0 (x.size - 2), ((byteN x (x.size - 1) : Int) - 48) % 256) := by unfold wordF; rw [if_neg (by rw [← ByteArray.toList_eq]; exact h45), if_pos hx3]
            rw [hw] at HWD
            have hx3z : (1 : Int) < (x.size : Int) := by omega
            have fa := first_at x (x.size - 2) (by omega) ((x.size : Int) - 2) (by omega)
            have ia := index_at x (x.size - 1) (by omega) ((x.size : Int) - 1) (by omega)
            obtain ⟨d, hd⟩ : ∃ d : Nat, d = byteN x (x.size - 1) := ⟨_, rfl⟩
            rw [show ((x.data.toList.getD (x.size - 1) 0).toNat : Int) = (d : Int) from by rw [hd]; rfl] at ia
            rw [← hd] at HWD
            have hd2 : d < 256 := by rw [hd]; exact UInt8.toNat_lt _
            clear hw h45 hd
            go_wp2
            go_region
            all_goals go_wp2
            all_goals go_ret2
            all_goals exact ⟨by cases HWD.out; rfl, HK.out.drew⟩
          · have hw : wordF s x = (⟨#[]⟩, ((byteN x 0 : Int) - 48) % 256) := by unfold wordF; rw [if_neg (by rw [← ByteArray.toList_eq]; exact h45), if_neg hx3]
            rw [hw] at HWD
            have hx3z : ¬ (1 : Int) < (x.size : Int) := by omega
            have ia := index_at x 0 (by omega) 0 rfl
            obtain ⟨d, hd⟩ : ∃ d : Nat, d = byteN x 0 := ⟨_, rfl⟩
            rw [show ((x.data.toList.getD 0 0).toNat : Int) = (d : Int) from by rw [hd]; rfl] at ia
            rw [← hd] at HWD
            have hd2 : d < 256 := by rw [hd]; exact UInt8.toNat_lt _
            clear hw h45 hd
            go_wp2
            go_region
            all_goals go_wp2
            all_goals go_ret2
            all_goals exact ⟨by cases HWD.out; rfl, HK.out.drew⟩
      · exfalso
        have h9 := (HI.out.1.past hnx has).hi
        omega

set_option maxHeartbeats 2000000 in
set_option maxRecDepth 100000 in
theorem entry_out (s e : Int) (h : s < 0 ∨ 9 < s ∨ e < 0 ∨ 16 ≤ e) (w : World) :
    Calls Tryz.prog 20 #[.int .i64 s, .int .i64 e] w fun en w' => en = .returned (.tuple #[.string ⟨#[]⟩, .int .i64 s]) ∧ Kept (fun _ => False) w w' := by
  by_cases h1 : s < 0
  · clear h
    go_enter Tryz.func20, Tryz.ntmps20
    go_wp2
    go_ret2
    exact ⟨rfl, (Kept.refl _ w).alloc _⟩
  · by_cases h2 : 9 < s
    · clear h
      go_enter Tryz.func20, Tryz.ntmps20
      go_wp2
      go_ret2
      exact ⟨rfl, (Kept.refl _ w).alloc _⟩
    · by_cases h3 : e < 0
      · clear h
        go_enter Tryz.func20, Tryz.ntmps20
        go_wp2
        go_ret2
        exact ⟨rfl, (Kept.refl _ w).alloc _⟩
      · have h4 : 16 ≤ e := by omega
        clear h
        go_enter Tryz.func20, Tryz.ntmps20
        go_wp2
        go_ret2
        exact ⟨rfl, (Kept.refl _ w).alloc _⟩

/-- The number of an action's word. -/
def actF (x : ByteArray) : Int :=
  if x.data.toList = [116, 108, 117] then 0
  else if x.data.toList = [116, 108, 100] then 1
  else if x.data.toList = [116, 108, 115] then 2
  else if x.data.toList = [116, 108, 102] then 3
  else if x.data.toList = [105, 114, 99] then 4
  else if x.data.toList = [122, 114, 99] then 5
  else if x.data.toList = [115, 99, 114] then 6
  else if x.data.toList = [115, 99, 97] then 7
  else if x.data.toList = [115, 99, 110] then 8
  else if x.data.toList = [115, 116, 114] then 9
  else if x.data.toList = [115, 116, 97] then 10
  else if x.data.toList = [115, 99, 106] then 11
  else 12

set_option maxHeartbeats 2000000 in
set_option maxRecDepth 100000 in
theorem action_any (x : ByteArray) (w : World) : Calls Tryz.prog 21 #[.string x] w fun e w' => e = .returned (.int .i64 (actF x)) ∧ w' = w := by
  unfold actF
  rw [← ByteArray.toList_eq]
  by_cases n0 : x.toList = [116, 108, 117]
  · rw [if_pos n0]
    have e0 : (x.toList == [116, 108, 117]) = true := by simpa using n0
    clear n0
    go_enter Tryz.func21, Tryz.ntmps21
    go_wp2
    go_ret
    exact ⟨rfl, rfl⟩
  rw [if_neg n0]
  have e0 : (x.toList == [116, 108, 117]) = false := by simpa using n0
  clear n0
  by_cases n1 : x.toList = [116, 108, 100]
  · rw [if_pos n1]
    have e1 : (x.toList == [116, 108, 100]) = true := by simpa using n1
    clear n1
    go_enter Tryz.func21, Tryz.ntmps21
    go_wp2
    go_ret
    exact ⟨rfl, rfl⟩
  rw [if_neg n1]
  have e1 : (x.toList == [116, 108, 100]) = false := by simpa using n1
  clear n1
  by_cases n2 : x.toList = [116, 108, 115]
  · rw [if_pos n2]
    have e2 : (x.toList == [116, 108, 115]) = true := by simpa using n2
    clear n2
    go_enter Tryz.func21, Tryz.ntmps21
    go_wp2
    go_ret
    exact ⟨rfl, rfl⟩
  rw [if_neg n2]
  have e2 : (x.toList == [116, 108, 115]) = false := by simpa using n2
  clear n2
  by_cases n3 : x.toList = [116, 108, 102]
  · rw [if_pos n3]
    have e3 : (x.toList == [116, 108, 102]) = true := by simpa using n3
    clear n3
    go_enter Tryz.func21, Tryz.ntmps21
    go_wp2
    go_ret
    exact ⟨rfl, rfl⟩
  rw [if_neg n3]
  have e3 : (x.toList == [116, 108, 102]) = false := by simpa using n3
  clear n3
  by_cases n4 : x.toList = [105, 114, 99]
  · rw [if_pos n4]
    have e4 : (x.toList == [105, 114, 99]) = true := by simpa using n4
    clear n4
    go_enter Tryz.func21, Tryz.ntmps21
    go_wp2
    go_ret
    exact ⟨rfl, rfl⟩
  rw [if_neg n4]
  have e4 : (x.toList == [105, 114, 99]) = false := by simpa using n4
  clear n4
  by_cases n5 : x.toList = [122, 114, 99]
  · rw [if_pos n5]
    have e5 : (x.toList == [122, 114, 99]) = true := by simpa using n5
    clear n5
    go_enter Tryz.func21, Tryz.ntmps21
    go_wp2
    go_ret
    exact ⟨rfl, rfl⟩
  rw [if_neg n5]
  have e5 : (x.toList == [122, 114, 99]) = false := by simpa using n5
  clear n5
  by_cases n6 : x.toList = [115, 99, 114]
  · rw [if_pos n6]
    have e6 : (x.toList == [115, 99, 114]) = true := by simpa using n6
    clear n6
    go_enter Tryz.func21, Tryz.ntmps21
    go_wp2
    go_ret
    exact ⟨rfl, rfl⟩
  rw [if_neg n6]
  have e6 : (x.toList == [115, 99, 114]) = false := by simpa using n6
  clear n6
  by_cases n7 : x.toList = [115, 99, 97]
  · rw [if_pos n7]
    have e7 : (x.toList == [115, 99, 97]) = true := by simpa using n7
    clear n7
    go_enter Tryz.func21, Tryz.ntmps21
    go_wp2
    go_ret
    exact ⟨rfl, rfl⟩
  rw [if_neg n7]
  have e7 : (x.toList == [115, 99, 97]) = false := by simpa using n7
  clear n7
  by_cases n8 : x.toList = [115, 99, 110]
  · rw [if_pos n8]
    have e8 : (x.toList == [115, 99, 110]) = true := by simpa using n8
    clear n8
    go_enter Tryz.func21, Tryz.ntmps21
    go_wp2
    go_ret
    exact ⟨rfl, rfl⟩
  rw [if_neg n8]
  have e8 : (x.toList == [115, 99, 110]) = false := by simpa using n8
  clear n8
  by_cases n9 : x.toList = [115, 116, 114]
  · rw [if_pos n9]
    have e9 : (x.toList == [115, 116, 114]) = true := by simpa using n9
    clear n9
    go_enter Tryz.func21, Tryz.ntmps21
    go_wp2
    go_ret
    exact ⟨rfl, rfl⟩
  rw [if_neg n9]
  have e9 : (x.toList == [115, 116, 114]) = false := by simpa using n9
  clear n9
  by_cases n10 : x.toList = [115, 116, 97]
  · rw [if_pos n10]
    have e10 : (x.toList == [115, 116, 97]) = true := by simpa using n10
    clear n10
    go_enter Tryz.func21, Tryz.ntmps21
    go_wp2
    go_ret
    exact ⟨rfl, rfl⟩
  rw [if_neg n10]
  have e10 : (x.toList == [115, 116, 97]) = false := by simpa using n10
  clear n10
  by_cases n11 : x.toList = [115, 99, 106]
  · rw [if_pos n11]
    have e11 : (x.toList == [115, 99, 106]) = true := by simpa using n11
    clear n11
    go_enter Tryz.func21, Tryz.ntmps21
    go_wp2
    go_ret
    exact ⟨rfl, rfl⟩
  rw [if_neg n11]
  have e11 : (x.toList == [115, 99, 106]) = false := by simpa using n11
  clear n11
  go_enter Tryz.func21, Tryz.ntmps21
  go_wp2
  go_ret
  exact ⟨rfl, rfl⟩

/-- The actions of words: each of three bytes, a blank between. -/
def actsN (x : ByteArray) : Nat → List Int
  | 0 => []
  | j + 1 => actsN x j ++ [actF (x.extract (4 * j) (4 * j + 3))]
def actsOf (x : ByteArray) : List Int := actsN x ((x.size + 1) / 4)
theorem actsN_len (x : ByteArray) : ∀ j, (actsN x j).length = j
  | 0 => rfl
  | j + 1 => by rw [actsN, List.length_append, actsN_len x j]; rfl

set_option maxHeartbeats 2000000 in
set_option maxRecDepth 100000 in
theorem refNext_by (s e : Int) (x : ByteArray) (n : Int) (hx : x.size ≤ 1000) (w : World) (HE : Calls Tryz.prog 20 #[.int .i64 s, .int .i64 e] w fun en w' => en = .returned (.tuple #[.string x, .int .i64 n]) ∧ Kept (fun _ => False) w w') :
    Calls Tryz.prog 5 #[.int .i64 s, .int .i64 e] w fun en w' => ∃ v, en = .returned (.tuple #[.int .i64 n, v]) ∧ OwnI w' w.heap.size v (actsOf x) ∧ Kept (fun _ => False) w w' := by
  have H := hid HE
  clear HE
  have hs0 : (0 : Int) ≤ (x.size : Int) := by omega
  have hs1 : (x.size : Int) ≤ 1000 := by omega
  go_enter Tryz.func5, Tryz.ntmps5
  go_wp2_with fail
  refine H.out.mono ?_
  rintro en w1 ⟨rfl, hk⟩
  have HK := hid hk
  clear hk H
  go_wp2_with fail
  go_loopw [8, 9] (fun vl vi wr => ∃ j : Nat, 4 * j ≤ x.size + 4 ∧ vi = .int .i64 (4 * (j : Int)) ∧ Hid (j ≤ (x.size + 1) / 4 ∧ OwnI wr w.heap.size vl (actsN x j) ∧ Kept (fun _ => False) w wr)) (fun _ vi _ => x.size + 8 - (intOf vi).toNat)
  case atStart => exact ⟨0, by omega, rfl, Nat.zero_le _, OwnI.nil _ _, HK.out⟩
  case round =>
    obtain ⟨j, hj, rfl, HI⟩ := hrel
    clear HK
    obtain ⟨p8, c8, rfl⟩ := HI.out.2.1.slice
    by_cases hlt : 4 * j + 3 ≤ x.size
    · have hltz : 4 * (j : Int) + 3 ≤ (x.size : Int) := by omega
      have sl := mid_at x (4 * j) (4 * j + 3) (by omega) hlt (4 * (j : Int)) (4 * (j : Int) + 3) (by omega) (by omega)
      have HA := hid (action_any (x.extract (4 * j) (4 * j + 3)))
      obtain ⟨y, hy⟩ : ∃ y, y = x.extract (4 * j) (4 * j + 3) := ⟨_, rfl⟩
      rw [← hy] at sl HA
      obtain ⟨z, hz⟩ : ∃ z, z = actF y := ⟨_, rfl⟩
      rw [← hz] at HA
      obtain ⟨v', w2, happ, hown', hk'⟩ := append_one (x := z) HI.out.2.2.size HI.out.2.1 (by rw [actsN_len]; omega)
      have R : Hid (j + 1 ≤ (x.size + 1) / 4 ∧ OwnI w2 w.heap.size v' (actsN x (j + 1)) ∧ Kept (fun _ => False) w w2) := by
        refine ⟨by omega, ?_, HI.out.2.2.andThen hk' (fun k hk e => by have := (HI.out.2.1.block e).2; omega)⟩
        rw [actsN, ← hy, ← hz]
        exact hown'
      clear hown' hk' HI hy hz
      go_wp2_with (first
        | (go_at_call 21; refine (HA.out _).mono ?_; rintro e w' ⟨rfl, hw⟩; rw [hw]; clear hw w')
        | (at_builtin; refine Lib.wpList_append_run _ rfl _ _ _ _ rfl _ _ rfl rfl _ _ (happ _) ?_))
      exact ⟨⟨j + 1, by omega, by go_num, R.out⟩, by simp [intOf]; omega⟩
    · have hltz : ¬ 4 * (j : Int) + 3 ≤ (x.size : Int) := by omega
      have ej : Hid (j = (x.size + 1) / 4) := by have := HI.out.1; show _ = _; omega
      go_wp2
      go_ret2
      refine ⟨_, rfl, ?_, HI.out.2.2⟩
      unfold actsOf
      rw [← ej.out]
      exact HI.out.2.1
end Go.Proofs.YtfilfagnljpgcaaGreat
