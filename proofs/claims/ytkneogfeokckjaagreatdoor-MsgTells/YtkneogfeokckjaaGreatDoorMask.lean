/- The contracts of package digest's Mask and Unmask: what each returns, for every argument of its kind within the bounds that stand in each. -/
import Derived.Test.YtkneogfeokckjaaGreatDoorCover
import Derived.Test.YtkneogfeokckjaaGreatDoorFirstKey
namespace Go.Proofs.YtkneogfeokckjaaGreatDoor
open Go.RowKit

theorem zeros_made (n : Nat) : madeCells (Value.int .u8 0).cells (n * 1) = (Lib.byteCells (List.replicate n 0)).toArray := by
  rw [Nat.mul_one]
  apply Array.toList_inj.1
  apply List.ext_getElem?
  intro i
  by_cases hi : i < n
  · simp [madeCells, Lib.byteCells, Value.cells, hi, Nat.mod_one]
  · simp [madeCells, Lib.byteCells, Value.cells, hi]
/-- The two rows that the call has made: the one to be written, at g, and the text's bytes, at h. -/
structure TwoRows (w W : World) (g h : Nat) (v : List UInt8) : Prop where
  out : RowIs W g (List.replicate v.length 0)
  inp : HoldsB W h v
  ne : h ≠ g
  g1 : w.heap.size ≤ g
  gl : g < W.heap.size
  hl : h < W.heap.size
  bel : Below w.heap.size w W
theorem bytes_below (W : World) (e : TypeId) (s : ByteArray) : Below W.heap.size W (Lib.bytesWorld W e s) :=
  ⟨rfl, rfl, rfl, by rw [Lib.bytesWorld_size]; omega, fun k hk => Lib.bytesWorld_at_old W e s k hk⟩
theorem rows_first (w : World) (s : ByteArray) : TwoRows w ((Lib.bytesWorld w.drew 5 s).alloc (.cells (Lib.byteCells (List.replicate s.size 0)).toArray 5)) (w.heap.size + 1) w.heap.size s.data.toList := by
  have hsz : (Lib.bytesWorld w.drew 5 s).heap.size = w.heap.size + 1 := Lib.bytesWorld_size _ _ _
  have hlen : s.data.toList.length = s.size := (Lib.size_eq s).symm
  have hbel : Below w.heap.size w (Lib.bytesWorld w.drew 5 s) := (Below.refl _ _).drew.trans (bytes_below w.drew 5 s)
  refine ⟨?_, fun i hi => ?_, by omega, by omega, by simp [hsz], by simp [hsz]; omega, hbel.alloc (by omega) _⟩
  · have h := heap_alloc_new (Lib.bytesWorld w.drew 5 s) (.cells (Lib.byteCells (List.replicate s.size 0)).toArray 5)
    rw [hsz] at h
    rw [hlen]
    exact h
  · rw [World.cell?_of_block (w := Lib.bytesWorld w.drew 5 s) (a := ⟨w.heap.size, i, none⟩) (heap_alloc_old _ _ (by rw [hsz]; show w.heap.size < w.heap.size + 1; omega))]
    exact Lib.bytesWorld_cell w.drew 5 s i (by omega)
theorem rows_second (w : World) (s : ByteArray) : TwoRows w (Lib.bytesWorld (w.drew.alloc (.cells (Lib.byteCells (List.replicate s.size 0)).toArray 5)) 5 s) w.heap.size (w.heap.size + 1) s.data.toList := by
  have h0 : (w.drew.alloc (.cells (Lib.byteCells (List.replicate s.size 0)).toArray 5)).heap.size = w.heap.size + 1 := by simp
  have hsz : (Lib.bytesWorld (w.drew.alloc (.cells (Lib.byteCells (List.replicate s.size 0)).toArray 5)) 5 s).heap.size = w.heap.size + 2 := by rw [Lib.bytesWorld_size, h0]
  have hlen : s.data.toList.length = s.size := (Lib.size_eq s).symm
  have hb1 : Below w.heap.size w (w.drew.alloc (.cells (Lib.byteCells (List.replicate s.size 0)).toArray 5)) := (Below.refl _ _).drew.alloc (Nat.le_refl _) _
  refine ⟨?_, fun i hi => ?_, by omega, by omega, by omega, by omega, below_next hb1 (bytes_below _ 5 s)⟩
  · rw [hlen]
    exact (Lib.bytesWorld_at_old _ 5 s w.heap.size (by omega)).trans (heap_alloc_new w.drew _)
  · have h := Lib.bytesWorld_cell (w.drew.alloc (.cells (Lib.byteCells (List.replicate s.size 0)).toArray 5)) 5 s i (by omega)
    rw [h0] at h
    exact h
theorem TwoRows.next {w W W' : World} {g h : Nat} {v : List UInt8} (R : TwoRows w W g h v) (hb : Bel W W') : TwoRows w W' g h v :=
  ⟨(Below.block hb g R.gl).trans R.out, fun i hi => (Below.cell hb (p := ⟨h, i, none⟩) R.hl).trans (R.inp i hi), R.ne, R.g1, Nat.lt_of_lt_of_le R.gl (Below.size hb), Nat.lt_of_lt_of_le R.hl (Below.size hb), R.bel.trans (Below.mono hb (Nat.le_trans R.g1 (Nat.le_of_lt R.gl)))⟩
/-- Behind cover: nothing that was there has turned. -/
theorem grown_below {w W W' : World} {g : Nat} (hb : Below w.heap.size w W) (hg : w.heap.size ≤ g) (h : W.grownBy W' (some g)) : Below w.heap.size w W' :=
  hb.grown h hb.size (fun k hk => by cases hk; exact hg)

set_option maxRecDepth 100000 in
theorem row_string (W : World) (g n c : Nat) (l : List UInt8) (h : RowIs W g l) (hl : l.length = n) : (convert 127 9 (.slice (some ⟨g, 0, none⟩) n c)).run Tryz.prog W = .ok (.string ⟨l.toArray⟩) W :=
  row_conv W g 0 c l n hl (fun i hi => by rw [Nat.zero_add]; exact h.cell i (by omega))
set_option maxRecDepth 100000 in
theorem cover_rows (un : Bool) (s : ByteArray) (hs : s.size ≤ 1099511627776) (first : List UInt8) (hf : first.length = 16) (v : ByteArray) (hv : v.size ≤ 1099511627776) (g h ca cb cx : Nat) (hcx : v.size ≤ cx) (w : World) (hw1 : 1 < w.heap.size) (hT : Tables w) (W : World) (R : TwoRows w W g h v.data.toList) :
    Calls Tryz.prog 186 #[.slice (some ⟨g, 0, none⟩) v.size ca, .slice (some ⟨h, 0, none⟩) v.size cb, .slice (some ⟨if un then h else g, 0, none⟩) v.size cx, .string s, .agg (Lib.byteCells first).toArray] W
      fun e w' => e = .returned (.tuple #[]) ∧ RowIs w' g (maskF un first s.data.toList v.data.toList) ∧ Below w.heap.size w w' := by
  have hlen : v.data.toList.length = v.size := (Lib.size_eq v).symm
  have ho := R.out
  rw [hlen] at ho
  refine (cover_any un s hs first v.data.toList hf g h _ ca cb cx rfl (by have := R.g1; omega) R.ne v.size hlen hv hcx W R.gl R.hl ho R.inp (hT.next R.bel)).mono ?_
  rintro e w' ⟨rfl, h1, h2⟩
  exact ⟨rfl, h1, grown_below R.bel R.g1 h2⟩

set_option maxRecDepth 100000 in
set_option maxHeartbeats 2000000 in
theorem mask_any (k : Int) (s c v : ByteArray) (hs : s.size ≤ 1099511627776) (hc : c.size ≤ 1099511627776) (hv : v.size ≤ 1099511627776) (w : World) (hT : Tables w) :
    Calls Tryz.prog 183 #[.int .i64 k, .string s, .string c, .string v] w fun e w' => e = .returned (.string ⟨(maskF false (firstF k s.data.toList c.data.toList) s.data.toList v.data.toList).toArray⟩) ∧ Below w.heap.size w w' := by
  obtain ⟨i0, hi, hz0, hz1, hz2⟩ := info_parts dgInfo5
  have hlen : v.data.toList.length = v.size := (Lib.size_eq v).symm
  have hmk : ∀ W : World, (Instr.makeSlice 127 (.int .i64 (v.size : Int)) (.int .i64 (v.size : Int))).run Tryz.prog W = .ok (.slice (some ⟨W.heap.size, 0, none⟩) v.size v.size) (W.alloc (.cells (Lib.byteCells (List.replicate v.size 0)).toArray 5)) := fun W => by
    have h := run_make (P := Tryz.prog) W 127 5 i0 (.int .u8 0) Tryz.underlying127 hi hz0 .i64 .i64 (v.size : Int) (v.size : Int) (by omega) (Int.le_refl _) (by rw [hz2]; omega) (by omega)
    rw [hz1, Int.toNat_natCast, zeros_made] at h
    exact h
  have hcv : ∀ W : World, (convert 9 127 (.string v)).run Tryz.prog W = .ok (.slice (some ⟨W.heap.size, 0, none⟩) v.size (grownCap W v.size 0 5)) (Lib.bytesWorld W 5 v) := fun W => Lib.run_convert_string_bytes W 9 127 5 v Tryz.underlying9 Tryz.underlying127 Tryz.underlying5
  have HT := hide hT
  have HK := hide (fun (W : World) (h : Tables W) => firstKey_any k s c hs hc W h)
  have hfl := firstF_length k s.data.toList c.data.toList
  obtain ⟨F1, hF1⟩ : ∃ F, F = firstF k s.data.toList c.data.toList := ⟨_, rfl⟩
  rw [← hF1] at HK hfl ⊢
  have HFL := hide hfl
  have r1 : Hid (TwoRows w ((Lib.bytesWorld w.drew 5 v).alloc (.cells (Lib.byteCells (List.replicate v.size 0)).toArray 5)) (w.heap.size + 1) w.heap.size v.data.toList) := rows_first w v
  have r2 : Hid (TwoRows w (Lib.bytesWorld (w.alloc (.cells (Lib.byteCells (List.replicate v.size 0)).toArray 5)).drew 5 v) w.heap.size (w.heap.size + 1) v.data.toList) := rows_second w v
  have hw1 : 1 < w.heap.size := cell_lt (hT.2 0 (by decide))
  have hb5 : (Lib.bytesWorld w.drew 5 v).heap.size = w.heap.size + 1 := Lib.bytesWorld_size _ _ _
  clear hT hi hz0 hz1 hz2 hfl hF1
  go_enter Tryz.func183, Tryz.ntmps183
  go_wp2
  go_region
  · have R := r1.out
    have hcp := grownCap_ge w.drew v.size 0 5
    generalize (Lib.bytesWorld w.drew 5 v).alloc (.cells (Lib.byteCells (List.replicate v.size 0)).toArray 5) = W at R
    generalize grownCap w.drew v.size 0 5 = cp at hcp
    have HR := hide R
    have HT1 := hide (HT.out.next R.bel)
    have HC : Hid (∀ W' : World, TwoRows w W' (w.heap.size + 1) (w.heap.size) v.data.toList → Calls Tryz.prog 186 #[.slice (some ⟨w.heap.size + 1, 0, none⟩) v.size v.size, .slice (some ⟨w.heap.size, 0, none⟩) v.size cp, .slice (some ⟨w.heap.size + 1, 0, none⟩) v.size v.size, .string s, .agg (Lib.byteCells F1).toArray] W'
      fun e w' => e = .returned (.tuple #[]) ∧ RowIs w' (w.heap.size + 1) (maskF false F1 s.data.toList v.data.toList) ∧ Below w.heap.size w w') := fun W' R' => cover_rows false s hs F1 HFL.out v hv (w.heap.size + 1) (w.heap.size) v.size cp v.size (by omega) w hw1 HT.out W' R'
    have HL := hide (show (maskF false F1 s.data.toList v.data.toList).length = v.size by rw [maskF_length _ _ _ _ HFL.out, hlen])
    obtain ⟨O, hO⟩ : ∃ O, maskF false F1 s.data.toList v.data.toList = O := ⟨_, rfl⟩
    rw [hO] at HC HL
    have HO := hide hO
    clear hO
    generalize (Lib.byteCells F1).toArray = C1 at HC HK
    clear R hmk hcv r1 r2
    go_wp2_with (first
      | (go_at_call 187; refine (HK.out _ HT1.out).mono ?_; rintro e w1 ⟨rfl, hb1⟩)
      | (go_at_call 186; refine (HC.out _ (HR.out.next hb1)).mono ?_; rintro e w2 ⟨rfl, hrow, hb2⟩; have hcvt := row_string w2 (w.heap.size + 1) v.size v.size O hrow HL.out))
    go_ret
    exact ⟨by rw [HO.out]; rfl, hb2⟩
  · have R := r2.out
    have hcp := grownCap_ge (w.alloc (.cells (Lib.byteCells (List.replicate v.size 0)).toArray 5)).drew v.size 0 5
    generalize Lib.bytesWorld (w.alloc (.cells (Lib.byteCells (List.replicate v.size 0)).toArray 5)).drew 5 v = W at R
    generalize grownCap (w.alloc (.cells (Lib.byteCells (List.replicate v.size 0)).toArray 5)).drew v.size 0 5 = cp at hcp
    have HR := hide R
    have HT1 := hide (HT.out.next R.bel)
    have HC : Hid (∀ W' : World, TwoRows w W' (w.heap.size) (w.heap.size + 1) v.data.toList → Calls Tryz.prog 186 #[.slice (some ⟨w.heap.size, 0, none⟩) v.size v.size, .slice (some ⟨w.heap.size + 1, 0, none⟩) v.size cp, .slice (some ⟨w.heap.size, 0, none⟩) v.size v.size, .string s, .agg (Lib.byteCells F1).toArray] W'
      fun e w' => e = .returned (.tuple #[]) ∧ RowIs w' (w.heap.size) (maskF false F1 s.data.toList v.data.toList) ∧ Below w.heap.size w w') := fun W' R' => cover_rows false s hs F1 HFL.out v hv (w.heap.size) (w.heap.size + 1) v.size cp v.size (by omega) w hw1 HT.out W' R'
    have HL := hide (show (maskF false F1 s.data.toList v.data.toList).length = v.size by rw [maskF_length _ _ _ _ HFL.out, hlen])
    obtain ⟨O, hO⟩ : ∃ O, maskF false F1 s.data.toList v.data.toList = O := ⟨_, rfl⟩
    rw [hO] at HC HL
    have HO := hide hO
    clear hO
    generalize (Lib.byteCells F1).toArray = C1 at HC HK
    clear R hmk hcv r1 r2
    go_wp2_with (first
      | (go_at_call 187; refine (HK.out _ HT1.out).mono ?_; rintro e w1 ⟨rfl, hb1⟩)
      | (go_at_call 186; refine (HC.out _ (HR.out.next hb1)).mono ?_; rintro e w2 ⟨rfl, hrow, hb2⟩; have hcvt := row_string w2 (w.heap.size) v.size v.size O hrow HL.out))
    go_ret
    exact ⟨by rw [HO.out]; rfl, hb2⟩

set_option maxRecDepth 100000 in
set_option maxHeartbeats 2000000 in
theorem unmask_any (k : Int) (s c v : ByteArray) (hs : s.size ≤ 1099511627776) (hc : c.size ≤ 1099511627776) (hv : v.size ≤ 1099511627776) (w : World) (hT : Tables w) :
    Calls Tryz.prog 177 #[.int .i64 k, .string s, .string c, .string v] w fun e w' => e = .returned (.string ⟨(maskF true (firstF k s.data.toList c.data.toList) s.data.toList v.data.toList).toArray⟩) ∧ Below w.heap.size w w' := by
  obtain ⟨i0, hi, hz0, hz1, hz2⟩ := info_parts dgInfo5
  have hlen : v.data.toList.length = v.size := (Lib.size_eq v).symm
  have hmk : ∀ W : World, (Instr.makeSlice 127 (.int .i64 (v.size : Int)) (.int .i64 (v.size : Int))).run Tryz.prog W = .ok (.slice (some ⟨W.heap.size, 0, none⟩) v.size v.size) (W.alloc (.cells (Lib.byteCells (List.replicate v.size 0)).toArray 5)) := fun W => by
    have h := run_make (P := Tryz.prog) W 127 5 i0 (.int .u8 0) Tryz.underlying127 hi hz0 .i64 .i64 (v.size : Int) (v.size : Int) (by omega) (Int.le_refl _) (by rw [hz2]; omega) (by omega)
    rw [hz1, Int.toNat_natCast, zeros_made] at h
    exact h
  have hcv : ∀ W : World, (convert 9 127 (.string v)).run Tryz.prog W = .ok (.slice (some ⟨W.heap.size, 0, none⟩) v.size (grownCap W v.size 0 5)) (Lib.bytesWorld W 5 v) := fun W => Lib.run_convert_string_bytes W 9 127 5 v Tryz.underlying9 Tryz.underlying127 Tryz.underlying5
  have HT := hide hT
  have HK := hide (fun (W : World) (h : Tables W) => firstKey_any k s c hs hc W h)
  have hfl := firstF_length k s.data.toList c.data.toList
  obtain ⟨F1, hF1⟩ : ∃ F, F = firstF k s.data.toList c.data.toList := ⟨_, rfl⟩
  rw [← hF1] at HK hfl ⊢
  have HFL := hide hfl
  have r1 : Hid (TwoRows w ((Lib.bytesWorld w.drew 5 v).alloc (.cells (Lib.byteCells (List.replicate v.size 0)).toArray 5)) (w.heap.size + 1) w.heap.size v.data.toList) := rows_first w v
  have r2 : Hid (TwoRows w (Lib.bytesWorld (w.alloc (.cells (Lib.byteCells (List.replicate v.size 0)).toArray 5)).drew 5 v) w.heap.size (w.heap.size + 1) v.data.toList) := rows_second w v
  have hw1 : 1 < w.heap.size := cell_lt (hT.2 0 (by decide))
  have hb5 : (Lib.bytesWorld w.drew 5 v).heap.size = w.heap.size + 1 := Lib.bytesWorld_size _ _ _
  clear hT hi hz0 hz1 hz2 hfl hF1
  go_enter Tryz.func177, Tryz.ntmps177
  go_wp2
  go_region
  · have R := r1.out
    have hcp := grownCap_ge w.drew v.size 0 5
    generalize (Lib.bytesWorld w.drew 5 v).alloc (.cells (Lib.byteCells (List.replicate v.size 0)).toArray 5) = W at R
    generalize grownCap w.drew v.size 0 5 = cp at hcp
    have HR := hide R
    have HT1 := hide (HT.out.next R.bel)
    have HC : Hid (∀ W' : World, TwoRows w W' (w.heap.size + 1) (w.heap.size) v.data.toList → Calls Tryz.prog 186 #[.slice (some ⟨w.heap.size + 1, 0, none⟩) v.size v.size, .slice (some ⟨w.heap.size, 0, none⟩) v.size cp, .slice (some ⟨w.heap.size, 0, none⟩) v.size cp, .string s, .agg (Lib.byteCells F1).toArray] W'
      fun e w' => e = .returned (.tuple #[]) ∧ RowIs w' (w.heap.size + 1) (maskF true F1 s.data.toList v.data.toList) ∧ Below w.heap.size w w') := fun W' R' => cover_rows true s hs F1 HFL.out v hv (w.heap.size + 1) (w.heap.size) v.size cp cp (by omega) w hw1 HT.out W' R'
    have HL := hide (show (maskF true F1 s.data.toList v.data.toList).length = v.size by rw [maskF_length _ _ _ _ HFL.out, hlen])
    obtain ⟨O, hO⟩ : ∃ O, maskF true F1 s.data.toList v.data.toList = O := ⟨_, rfl⟩
    rw [hO] at HC HL
    have HO := hide hO
    clear hO
    generalize (Lib.byteCells F1).toArray = C1 at HC HK
    clear R hmk hcv r1 r2
    go_wp2_with (first
      | (go_at_call 187; refine (HK.out _ HT1.out).mono ?_; rintro e w1 ⟨rfl, hb1⟩)
      | (go_at_call 186; refine (HC.out _ (HR.out.next hb1)).mono ?_; rintro e w2 ⟨rfl, hrow, hb2⟩; have hcvt := row_string w2 (w.heap.size + 1) v.size v.size O hrow HL.out))
    go_ret
    exact ⟨by rw [HO.out]; rfl, hb2⟩
  · have R := r2.out
    have hcp := grownCap_ge (w.alloc (.cells (Lib.byteCells (List.replicate v.size 0)).toArray 5)).drew v.size 0 5
    generalize Lib.bytesWorld (w.alloc (.cells (Lib.byteCells (List.replicate v.size 0)).toArray 5)).drew 5 v = W at R
    generalize grownCap (w.alloc (.cells (Lib.byteCells (List.replicate v.size 0)).toArray 5)).drew v.size 0 5 = cp at hcp
    have HR := hide R
    have HT1 := hide (HT.out.next R.bel)
    have HC : Hid (∀ W' : World, TwoRows w W' (w.heap.size) (w.heap.size + 1) v.data.toList → Calls Tryz.prog 186 #[.slice (some ⟨w.heap.size, 0, none⟩) v.size v.size, .slice (some ⟨w.heap.size + 1, 0, none⟩) v.size cp, .slice (some ⟨w.heap.size + 1, 0, none⟩) v.size cp, .string s, .agg (Lib.byteCells F1).toArray] W'
      fun e w' => e = .returned (.tuple #[]) ∧ RowIs w' (w.heap.size) (maskF true F1 s.data.toList v.data.toList) ∧ Below w.heap.size w w') := fun W' R' => cover_rows true s hs F1 HFL.out v hv (w.heap.size) (w.heap.size + 1) v.size cp cp (by omega) w hw1 HT.out W' R'
    have HL := hide (show (maskF true F1 s.data.toList v.data.toList).length = v.size by rw [maskF_length _ _ _ _ HFL.out, hlen])
    obtain ⟨O, hO⟩ : ∃ O, maskF true F1 s.data.toList v.data.toList = O := ⟨_, rfl⟩
    rw [hO] at HC HL
    have HO := hide hO
    clear hO
    generalize (Lib.byteCells F1).toArray = C1 at HC HK
    clear R hmk hcv r1 r2
    go_wp2_with (first
      | (go_at_call 187; refine (HK.out _ HT1.out).mono ?_; rintro e w1 ⟨rfl, hb1⟩)
      | (go_at_call 186; refine (HC.out _ (HR.out.next hb1)).mono ?_; rintro e w2 ⟨rfl, hrow, hb2⟩; have hcvt := row_string w2 (w.heap.size) v.size v.size O hrow HL.out))
    go_ret
    exact ⟨by rw [HO.out]; rfl, hb2⟩
end Go.Proofs.YtkneogfeokckjaaGreatDoor
