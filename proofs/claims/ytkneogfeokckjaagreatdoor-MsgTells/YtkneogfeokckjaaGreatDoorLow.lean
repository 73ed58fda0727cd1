/- The contracts of package wire's inner functions isWord, isProto, lay and lift and of Fcs: what each returns, for every argument of its kind within the bounds that stand in each theorem. -/
import Derived.Test.YtkneogfeokckjaaGreatDoorProg
import Derived.Test.YtkneogfeokckjaaGreatDoorPlain
import Derived.WalkKit
import Derived.WalkSpells
import Derived.WalkLawsBesides
import Derived.Lib.Strings
namespace Go.Proofs.YtkneogfeokckjaaGreatDoor
open Go.RowKit
set_option maxRecDepth 100000 in
theorem info5 : (Tryz.prog.info? 5).map (fun i => (i.zero, i.size, i.bytes)) = some (some (.int .u8 0), 1, 1) := by kernel_rfl



theorem lay_step {base : Nat} {w wr w1 : World} {u v' : Value} {n0 k j a : Nat} {bs : List UInt8} {o : Obj} (hj : j < k) (hb : base ≤ wr.heap.size) (hbel : Below base w wr)
    (hown : wr.ownsRow base 5 1 u (n0 + j) (Lib.byteCells (bs ++ low (a / 256 ^ (k - j)) j)))
    (hown' : w1.ownsRow base 5 1 v' (n0 + j + 1) (Lib.byteCells (bs ++ low (a / 256 ^ (k - j)) j) ++ [Value.int .u8 ((a : Int) / 2 ^ (8 * (k - 1 - j)) % 256)]))
    (hg : (wr.alloc o).grownBy w1 u.ownBlock) :
    w1.ownsRow base 5 1 v' (n0 + (j + 1)) (Lib.byteCells (bs ++ low (a / 256 ^ (k - (j + 1))) (j + 1))) ∧ Below base w w1 ∧ base ≤ w1.heap.size := by
  have hs : (wr.alloc o).heap.size = wr.heap.size + 1 := by simp
  have hb1 : Below base w w1 := (hbel.alloc hb o).grown hg (by omega) (fun g hgk => (hown.lt g hgk).1)
  have hs1 := hg.size
  refine ⟨?_, hb1, by omega⟩
  rw [low_snoc a k j hj, ← List.append_assoc, cells_snoc _ _ (Nat.mod_lt _ (by decide)), ← Nat.add_assoc]
  simpa using hown'

set_option maxRecDepth 100000 in
set_option maxHeartbeats 400000 in
/-- 'lay(b, v, n)': what b held, and the n lowest bytes of v. -/
theorem lay_any (base : Nat) (v : Value) (n0 : Nat) (bs : List UInt8) (a : Nat) (_ha : a < 9223372036854775808) (k : Nat) (hk1 : 1 ≤ k) (hk : k ≤ 4) (w : World) (hb : base ≤ w.heap.size)
    (hown : w.ownsRow base 5 1 v n0 (Lib.byteCells bs)) (hn0 : n0 ≤ 1099511627776) :
    Calls Tryz.prog 189 #[v, .int .i64 (a : Int), .int .i64 (k : Int)] w fun e w' => ∃ v', e = .returned v' ∧ w'.ownsRow base 5 1 v' (n0 + k) (Lib.byteCells (bs ++ low a k)) ∧ Below base w w' := by
  obtain ⟨i0, hi, hz0, hz1, hz2⟩ := info_parts info5
  go_enter Tryz.func189, Tryz.ntmps189
  go_wp2
  go_loopw [0, 7] (fun v1 s wr => ∃ j : Nat, j ≤ k ∧ s = .int .i64 (8 * (k - 1 - j : Int)) ∧ wr.ownsRow base 5 1 v1 (n0 + j) (Lib.byteCells (bs ++ low (a / 256 ^ (k - j)) j)) ∧ Below base w wr ∧ base ≤ wr.heap.size)
    (fun _ s _ => (intOf s + 8).toNat)
  case atStart => exact ⟨0, Nat.zero_le _, by simp, by simpa [low] using hown, Below.refl _ _, hb⟩
  case round =>
    obtain ⟨j, hj, rfl, hownr, hbel, hbs⟩ := hrel
    by_cases hlt : j < k
    · go_wp2_with (at_builtin; refine wpList_append_own _ rfl _ _ 127 rfl base 5 i0 (.int .u8 0) 1 1 Tryz.underlying127 hi hz0 hz1 hz2 rfl (by decide) _ _ _ rfl (hownr.alloc _) ⟨wr.heap.size, 0, none⟩ 1 1 [.int .u8 ((a : Int) / 2 ^ (8 * (k - 1 - j)) % 256)] rfl rfl ?c1 ?c2 ?c3 ?c4 ?c5 ?_)
      case c1 => exact cell_one_new _ _ _
      case c2 => intro u hu; simp at hu; subst hu; rfl
      case c3 => unfold maxLen; omega
      case c4 => omega
      case c5 => simp; omega
      intro v' w1 hown' hgrow _
      have R := lay_step hlt hbs hbel hownr hown' hgrow
      clear hown' hgrow hownr
      go_wp2
      go_roundw
      case rel => exact ⟨j + 1, by omega, by go_num, R.1, R.2.1, R.2.2⟩
      case measure => simp [intOf]; omega
    · go_wp2
      go_ret
      obtain rfl : j = k := by omega
      exact ⟨_, rfl, by simpa using hownr, hbel⟩

theorem take_snoc (s : ByteArray) (k : Nat) (h : k < s.size) : s.data.toList.take (k + 1) = s.data.toList.take k ++ [s[k]] := by
  rw [List.take_succ_eq_append_getElem (by simpa using h)]; rfl
set_option maxRecDepth 100000 in
theorem ret_int {k : IntKind} {a b : Int} (h : a = b) : Ending.returned (.int k a) = .returned (.int k b) := by rw [h]

set_option maxRecDepth 100000 in
set_option maxHeartbeats 400000 in
/-- 'lift(b)': the number whose bytes are b's, of at most four. -/
theorem lift_any (s : ByteArray) (hs : s.size ≤ 4) (w : World) :
    Calls Tryz.prog 191 #[.string s] w fun e w' => e = .returned (.int .i64 (numOf s.data.toList : Int)) ∧ w' = w := by
  go_enter Tryz.func191, Tryz.ntmps191
  go_wp2
  go_loop [3, 4, 7] (fun v _ i => ∃ k : Nat, k ≤ s.size ∧ i = .int .i64 (k : Int) ∧ v = .int .i64 (numOf (s.data.toList.take k) : Int)) (fun _ _ i => s.size - (intOf i).toNat)
  case atStart => exact ⟨0, Nat.zero_le _, rfl, rfl⟩
  case round =>
    obtain ⟨k, hk, rfl, rfl⟩ := hrel
    have hl := numOf_lt (s.data.toList.take k)
    have hle : (s.data.toList.take k).length ≤ 4 := by simp; omega
    have hp : 256 ^ (s.data.toList.take k).length ≤ 256 ^ 4 := Nat.pow_le_pow_right (by decide) hle
    have hlt4 : numOf (s.data.toList.take k) < 4294967296 := by omega
    by_cases hlt : k < s.size
    · have hts := take_snoc s k hlt
      have hb := s[k].toNat_lt
      have e1 := i64_or_byte (numOf (s.data.toList.take k)) s[k].toNat (by omega) hb
      have HS : Hid (numOf (s.data.toList.take (k + 1)) = numOf (s.data.toList.take k) * 256 + s[k].toNat) := by rw [hts]; exact numOf_snoc _ _
      clear hts hl hle hp
      go_wp2
      go_round
      case rel => exact ⟨k + 1, by omega, by go_num, by rw [HS.out]; go_num⟩
      case measure => simp [intOf]; omega
    · go_wp2
      go_ret
      exact ⟨ret_int (by rw [List.take_of_length_le (by simp; omega)]), rfl⟩

set_option maxRecDepth 100000 in
theorem crc1_odd (x : Nat) (h : x % 2 = 1) : crc1 x = (x / 2) ^^^ 33800 := by simp [crc1, h]
set_option maxRecDepth 100000 in
theorem crc1_even (x : Nat) (h : x % 2 = 0) : crc1 x = x / 2 := by simp [crc1, h]

end Go.Proofs.YtkneogfeokckjaaGreatDoor
