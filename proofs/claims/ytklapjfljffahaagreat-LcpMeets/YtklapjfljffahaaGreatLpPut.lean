/- The contracts of lcp.put and authValue: the lowest bytes of a number, the highest first. -/
import Derived.Test.YtklapjfljffahaaGreatTpBytes
import Derived.Test.YtklapjfljffahaaGreatOpPlain
import Derived.Test.YtklapjfljffahaaGreatTagKit
namespace Go.Proofs.YtklapjfljffahaaGreat
open Go.RowKit

/-- The i-th of the lowest n bytes of v. -/
def putB (v : Int) (n i : Nat) : Int := v / 2 ^ (8 * (n - 1 - i)) % 256
def putL (v : Int) (n : Nat) : List UInt8 := (List.range n).map (fun i => UInt8.ofNat (putB v n i).toNat)
def numF (v : Int) (n : Nat) : ByteArray := ⟨(putL v n).toArray⟩
theorem putB_bounds (v : Int) (n i : Nat) : 0 ≤ putB v n i ∧ putB v n i < 256 := ⟨Int.emod_nonneg _ (by decide), Int.emod_lt_of_pos _ (by decide)⟩
/-- What the row holds behind j rounds. -/
def putRow (v : Int) (n j : Nat) : List Value := (List.range n).map (fun i => .int .u8 (if i < j then putB v n i else 0))
theorem putRow_set (v : Int) (n j : Nat) (_hj : j < n) : (putRow v n j).set j (.int .u8 (putB v n j)) = putRow v n (j + 1) := by
  apply List.ext_getElem?
  intro i
  unfold putRow
  rw [List.getElem?_set]
  by_cases hij : j = i
  · subst hij
    simp [_hj]
  · simp only [hij, if_false, List.getElem?_map]
    by_cases hi : i < n
    · rw [List.getElem?_range hi]
      simp only [Option.map_some]
      congr 2
      by_cases h1 : i < j
      · simp [h1, Nat.lt_succ_of_lt h1]
      · have : ¬ i < j + 1 := by omega
        simp [h1, this]
    · rw [List.getElem?_eq_none (by simpa using hi)]
      rfl
theorem putRow_end (v : Int) (n : Nat) : putRow v n n = Lib.byteCells (putL v n) := by
  unfold putRow putL Lib.byteCells
  rw [List.map_map]
  refine List.map_congr_left (fun i hi => ?_)
  have hi' := List.mem_range.1 hi
  obtain ⟨b0, b1⟩ := putB_bounds v n i
  simp only [Function.comp, hi', if_true]
  have e : (UInt8.ofNat (putB v n i).toNat).toNat = (putB v n i).toNat := UInt8.toNat_ofNat_of_lt (show (putB v n i).toNat < 256 by omega)
  rw [e, Int.toNat_of_nonneg b0]
theorem putRow_zero (v : Int) (n : Nat) : (madeCells #[Value.int .u8 0] n).toList = putRow v n 0 := by
  unfold madeCells putRow
  rw [Array.toList_map, Array.toList_range]
  refine List.map_congr_left (fun i _ => ?_)
  simp [Nat.mod_one]

def PutTo (w wr : World) (v : Int) (n j : Nat) : Prop := wr.ownsRow w.heap.size 5 1 (.slice (some ⟨w.heap.size, 0, none⟩) n n) n (putRow v n j) ∧ Kept (fun _ => False) w wr

set_option maxHeartbeats 1000000 in
set_option maxRecDepth 100000 in
theorem put_any (v : Int) (n : Nat) (hn : 1 ≤ n) (hn2 : n ≤ 8) (w : World) :
    Calls Tryz.prog 41 #[.int .i64 v, .int .i64 (n : Int)] w fun e w' => e = .returned (.string (numF v n)) ∧ Kept (fun _ => False) w w' := by
  obtain ⟨i0, hi, hz0, hz1, hz2⟩ := info_parts Tp.info5
  go_enter Tryz.func41, Tryz.ntmps41
  go_wp2_with (at_make; refine wpList_make_full _ rfl _ _ 64 rfl w.heap.size 5 i0 (.int .u8 0) 1 Tryz.underlying64 hi hz0 hz1 .i64 .i64 _ _ n rfl rfl ?m0 ?m1 ?m2 ?m3 ?m4 ?_)
  case m0 => rfl
  case m1 => rfl
  case m2 => rw [hz2]; omega
  case m3 => unfold maxLen; omega
  case m4 => exact Nat.le_refl _
  intro w1 hown1 hg1
  have hst : PutTo w w1 v n 0 := ⟨by rw [← putRow_zero]; exact hown1, (Kept.refl _ w).grown hg1 (fun j hj => by cases hj)⟩
  clear hown1 hg1
  go_wp2
  go_loopw [6, 11] (fun _ s wr => ∃ j : Nat, j ≤ n ∧ s = .int .i64 (j : Int) ∧ PutTo w wr v n j) (fun _ s _ => n - (intOf s).toNat)
  case atStart => exact ⟨0, Nat.zero_le _, rfl, hst⟩
  case round =>
    obtain ⟨j, hj, rfl, hrow, hk⟩ := hrel
    clear hst
    by_cases hlt : j < n
    · obtain ⟨hfz, u, hcl⟩ := Tp.row_open hrow j hlt
      have hs := (hrow.stored j (.int .u8 (putB v n j))).1
      rw [putRow_set _ _ _ hlt] at hs
      have R : Hid (PutTo w (wr.setCell ⟨w.heap.size, j, none⟩ (.int .u8 (putB v n j))) v n (j + 1)) := ⟨hs, hk.setCell (p := ⟨w.heap.size, j, none⟩) (Or.inl (Nat.le_refl _)) _⟩
      have hltz : (j : Int) < (n : Int) := by omega
      have e1 : IntKind.i64.wrap ((n : Int) - 1) = (n : Int) - 1 := by rw [IntKind.wrap_i64]; omega
      have e2 : IntKind.i64.wrap ((n : Int) - 1 - j) = (n : Int) - 1 - j := by rw [IntKind.wrap_i64]; omega
      have e3 : IntKind.i64.wrap (8 * ((n : Int) - 1 - j)) = 8 * ((n : Int) - 1 - j) := by rw [IntKind.wrap_i64]; omega
      have e4 : 0 ≤ 8 * ((n : Int) - 1 - j) := by omega
      clear hs hrow
      go_wp2
      exact ⟨⟨j + 1, hlt, by go_num, R.out⟩, by simp [intOf]; omega⟩
    · obtain rfl : j = n := by omega
      rw [putRow_end] at hrow
      have hcv := Tp.conv_own hrow 64 9 Tryz.underlying64 Tryz.underlying5 Tryz.underlying9
      have hltz : ¬ (j : Int) < (j : Int) := by omega
      have HK := hid hk
      clear hrow hk
      go_wp2
      go_ret
      exact ⟨rfl, HK.out⟩
theorem numF_size (v : Int) (n : Nat) : (numF v n).size = n := by simp [numF, putL, ByteArray.size]

/-- The value by which a protocol is asked for. -/
def authF (a : Int) : ByteArray := if a = 49187 then numF 49187 2 else if a = 49699 then numF 12722949 3 else ⟨#[]⟩

set_option maxHeartbeats 1000000 in
set_option maxRecDepth 100000 in
theorem authValue_any (a : Int) (w : World) : Calls Tryz.prog 50 #[.int .i64 a] w fun e w' => e = .returned (.string (authF a)) ∧ Kept (fun _ => False) w w' := by
  unfold authF
  by_cases h1 : a = 49187
  · subst h1
    rw [if_pos rfl]
    have HP := hid (fun W => put_any 49187 2 (by decide) (by decide) W)
    simp only [Int.cast_ofNat_Int] at HP
    generalize numF 49187 2 = S at *
    go_enter Tryz.func50, Tryz.ntmps50
    go_wp2_with fail
    refine (HP.out _).mono ?_
    rintro e w1 ⟨rfl, hk⟩
    have HK := hid hk
    clear hk
    go_wp2
    go_ret
    exact ⟨rfl, HK.out⟩
  · rw [if_neg h1]
    by_cases h2 : a = 49699
    · subst h2
      rw [if_pos rfl]
      have HP := hid (fun W => put_any 12722949 3 (by decide) (by decide) W)
      simp only [Int.cast_ofNat_Int] at HP
      generalize numF 12722949 3 = S at *
      go_enter Tryz.func50, Tryz.ntmps50
      go_wp2_with fail
      refine (HP.out _).mono ?_
      rintro e w1 ⟨rfl, hk⟩
      have HK := hid hk
      clear hk
      go_wp2
      go_ret
      exact ⟨rfl, HK.out⟩
    · rw [if_neg h2]
      go_enter Tryz.func50, Tryz.ntmps50
      go_wp2
      go_ret
      exact ⟨rfl, Kept.refl _ _⟩
end Go.Proofs.YtklapjfljffahaaGreat
