/- The contract of package digest's inner padding: what stands behind so many bytes. -/
import Derived.Test.YtkneogfeokckjaaGreatDoorStirAll
import Derived.Test.YtkneogfeokckjaaGreatDoorZerosOwn
import Derived.Lib.ConvBytes
namespace Go.Proofs.YtkneogfeokckjaaGreatDoor
open Go.RowKit

theorem dgInfo5 : (Tryz.prog.info? 5).map (fun i => (i.zero, i.size, i.bytes)) = some (some (.int .u8 0), 1, 1) := by kernel_rfl
theorem dg_addr_add (g i : Nat) : (⟨g, 0, none⟩ : Addr).add i = ⟨g, i, none⟩ := by
  unfold Addr.add
  split
  · simp_all
  · simp
/-- 'string(b)' where the call itself owns b's bytes. -/
theorem dg_conv_own {P : Program} {w : World} {base n : Nat} {e : TypeId} {v : Value} {l : List UInt8} (hown : w.ownsRow base e 1 v n (Lib.byteCells l)) (src dst : TypeId)
    (hs : P.underlying src = some (.slice e)) (he : P.underlying e = some (.int .u8)) (hd : P.underlying dst = some .string) :
    (convert src dst v).run P w = .ok (.string ⟨l.toArray⟩) w := by
  have hl : l.length = n := by have := hown.1; rw [Lib.byteCells_length] at this; omega
  rcases hown.2 with ⟨rfl, rfl⟩ | ⟨g, cap, cur, rfl, hg, hh, hn, hm, hc, ht⟩
  · have : l = [] := List.eq_nil_of_length_eq_zero hl
    subst this
    exact run_convert_bytes_nil w src e hs he 0 0 dst hd
  · have hb := run_convert_bytes_arg (P := P) w src e hs he g 0 n cap (l.map fun b => (b.toNat : Int)) (by simp [hl]) (fun i hi => by
      have hcell := hown.cells (g := g) rfl i (.int .u8 ((l[i]'(by omega)).toNat : Int)) (by simp [Lib.byteCells, List.getElem?_eq_getElem (show i < l.length by omega)])
      rw [dg_addr_add] at hcell
      rw [Nat.zero_add, hcell]
      simp [List.getElem?_eq_getElem (show i < l.length by omega)]) dst hd
    rw [hb]
    congr 2
    apply ByteArray.ext
    apply Array.toList_inj.1
    rw [strOfNums_data, List.map_map]
    refine (List.map_congr_left (g := id) ?_).trans (List.map_id l)
    intro x _
    simp
theorem dg_put_conv {w : World} {base n : Nat} {v : Value} {l : List UInt8} (hown : w.ownsRow base 5 1 v n (Lib.byteCells l)) :
    (convert 127 9 v).run Tryz.prog w = .ok (.string ⟨l.toArray⟩) w :=
  dg_conv_own hown _ _ Tryz.underlying127 Tryz.underlying5 Tryz.underlying9

theorem pad_zeros (k : Nat) : [Value.int .u8 128] ++ List.replicate k (Value.int .u8 0) = Lib.byteCells (128 :: List.replicate k 0) := by
  simp [Lib.byteCells]
theorem pad_next {base : Nat} {w wr w1 : World} {u v' : Value} {n0 j a : Nat} {bs : List UInt8} {o : Obj} (hb : base ≤ wr.heap.size) (hbel : Below base w wr)
    (hown : wr.ownsRow base 5 1 u (n0 + j) (Lib.byteCells (bs ++ lowest a j)))
    (hown' : w1.ownsRow base 5 1 v' (n0 + j + 1) (Lib.byteCells (bs ++ lowest a j) ++ [Value.int .u8 ((a : Int) / 2 ^ (8 * j) % 256)]))
    (hg : (wr.alloc o).grownBy w1 u.ownBlock) :
    w1.ownsRow base 5 1 v' (n0 + (j + 1)) (Lib.byteCells (bs ++ lowest a (j + 1))) ∧ Below base w w1 ∧ base ≤ w1.heap.size := by
  have hs : (wr.alloc o).heap.size = wr.heap.size + 1 := by simp
  have hb1 : Below base w w1 := (hbel.alloc hb o).grown hg (by omega) (fun g hgk => (hown.lt g hgk).1)
  have hs1 := hg.size
  refine ⟨?_, hb1, by omega⟩
  rw [lowest, ← List.append_assoc, cells_snoc _ _ (Nat.mod_lt _ (by decide)), ← Nat.add_assoc]
  rw [Int.natCast_emod, Int.natCast_ediv, Int.natCast_pow]
  exact hown'

set_option maxRecDepth 100000 in
set_option maxHeartbeats 1000000 in
theorem padding_any (n : Nat) (hn : n ≤ 281474976710656) (w : World) :
    Calls Tryz.prog 194 #[.int .i64 (n : Int)] w fun e w' => e = .returned (.string ⟨(padF n).toArray⟩) ∧ Below w.heap.size w w' := by
  obtain ⟨i0, hi, hz0, hz1, hz2⟩ := info_parts dgInfo5
  obtain ⟨k, hk⟩ : ∃ k, k = 63 - (n + 8) % 64 := ⟨_, rfl⟩
  have hpad : padF n = (128 :: List.replicate k 0) ++ lowest (n * 8) 8 := by rw [padF, ← hk]; rfl
  have hkz : (63 : Int) - ((n : Int) + 8) % 64 = (k : Int) := by omega
  have hk63 : k ≤ 63 := by omega
  have HP := hide hpad
  clear hpad hk
  go_enter Tryz.func194, Tryz.ntmps194
  go_wp2_with (at_make; refine wpList_make_own _ rfl _ _ 127 rfl w.heap.size 5 i0 (.int .u8 0) 1 Tryz.underlying127 hi hz0 hz1 .i64 .i64 _ 128 rfl rfl ?m1 ?m2 ?m3 ?m4 ?_)
  case m1 => omega
  case m2 => rw [hz2]; omega
  case m3 => unfold maxLen; omega
  case m4 => exact Nat.le_refl _
  intro w1 hown1 hg1
  have hb1 : Below w.heap.size w w1 := (Below.refl _ w).grown hg1 (Nat.le_refl _) (fun k hk => by cases hk)
  have hs1 := hg1.size
  clear hg1
  go_wp2_with (at_builtin; refine wpList_append_own _ rfl _ _ 127 rfl w.heap.size 5 i0 (.int .u8 0) 1 1 Tryz.underlying127 hi hz0 hz1 hz2 rfl (by decide) _ _ _ rfl (hown1.alloc _) ⟨w1.heap.size, 0, none⟩ 1 1 [.int .u8 128] rfl rfl ?c1 ?c2 ?c3 ?c4 ?c5 ?_)
  case c1 => exact cell_one_new _ _ _
  case c2 => intro u hu; simp at hu; subst hu; rfl
  case c3 => unfold maxLen; omega
  case c4 => omega
  case c5 => simp; omega
  intro v2 w2 hown2 hg2 _
  have hb2 : Below w.heap.size w w2 := (hb1.alloc hs1 _).grown hg2 (by simp; omega) (fun g hgk => (hown1.lt g hgk).1)
  have hs2 : w1.heap.size + 1 ≤ w2.heap.size := by have h := hg2.size; simp at h; omega
  clear hg2 hown1 hb1
  obtain ⟨v3, w3, hr, hown3, hg3⟩ := run_append_zeros_own (P := Tryz.prog) w2 w.heap.size 127 3 127 5 i0 (.int .u8 0) .i64 .i64 Tryz.underlying127 Tryz.underlying3 hi hz0 hz1 hz2 rfl rfl v2 1 (by decide) _ hown2 k (by omega) (by decide) (by omega)
  have hb3 : Below w.heap.size w w3 := hb2.grown hg3 (by omega) (fun g hgk => (hown2.lt g hgk).1)
  have hs3 : w2.heap.size ≤ w3.heap.size := hg3.size
  clear hg3 hown2 hb2
  rw [pad_zeros] at hown3
  have HR := hide hr
  have HO := hide hown3
  clear hr hown3
  have hmul : (n : Int) * 8 % 18446744073709551616 = ((n * 8 : Nat) : Int) := by omega
  go_wp2_with (at_builtin; refine Lib.wpList_append_run _ rfl _ _ 127 3 rfl _ _ rfl rfl _ _ HR.out ?_)
  go_loopw [4, 6] (fun v1 s wr => ∃ j : Nat, j ≤ 8 ∧ s = .int .i64 (8 * (j : Int)) ∧ wr.ownsRow w.heap.size 5 1 v1 (1 + k + j) (Lib.byteCells ((128 :: List.replicate k 0) ++ lowest (n * 8) j)) ∧ Below w.heap.size w wr ∧ w.heap.size ≤ wr.heap.size)
    (fun _ s _ => (72 - intOf s).toNat)
  case atStart => exact ⟨0, Nat.zero_le _, rfl, by rw [lowest, List.append_nil]; exact HO.out, hb3, by omega⟩
  case round =>
    obtain ⟨j, hj, rfl, hownr, hbel, hbs⟩ := hrel
    by_cases hlt : j < 8
    · go_wp2_with (at_builtin; refine wpList_append_own _ rfl _ _ 127 rfl w.heap.size 5 i0 (.int .u8 0) 1 1 Tryz.underlying127 hi hz0 hz1 hz2 rfl (by decide) _ _ _ rfl (hownr.alloc _) ⟨wr.heap.size, 0, none⟩ 1 1 [.int .u8 (((n * 8 : Nat) : Int) / 2 ^ (8 * j) % 256)] rfl rfl ?c1 ?c2 ?c3 ?c4 ?c5 ?_)
      case c1 => exact cell_one_new _ _ _
      case c2 => intro u hu; simp at hu; subst hu; rfl
      case c3 => unfold maxLen; omega
      case c4 => omega
      case c5 => simp; omega
      intro v' w4 hown' hgrow _
      have R := pad_next hbs hbel hownr hown' hgrow
      clear hown' hgrow hownr
      go_wp2
      go_roundw
      case rel => exact ⟨j + 1, by omega, by go_num, R.1, R.2.1, R.2.2⟩
      case measure => simp [intOf]; omega
    · obtain rfl : j = 8 := by omega
      have hcv := dg_put_conv hownr
      rw [← HP.out] at hcv
      go_wp2
      go_ret
      exact ⟨rfl, hbel⟩
end Go.Proofs.YtkneogfeokckjaaGreatDoor
