/- Small runs of strings, and rows of bytes of a call's own, at this seat. -/
import Derived.Test.YthpgmfijameddaaTagPlain
import Derived.Test.YthpgmfijameddaaClone
import Derived.OwnWalk
import Derived.Lib.AppendStr
import Derived.Laws.IdiomCopy
import Derived.Deep.QuietTactic
import Derived.BigQuiet
namespace Go.Proofs.Ythpgmfijameddaa
open Go.RowKit

theorem info5 : (Try.prog.info? 5).map (fun i => (i.zero, i.size, i.bytes)) = some (some (.int .u8 0), 1, 1) := by kernel_rfl
theorem infoTag : (Try.prog.info? 70).map (fun i => (i.zero, i.size, i.bytes)) = some (some (.agg #[.int .i64 0, .string ⟨#[]⟩]), 2, 24) := by kernel_rfl

theorem ret_int {k : IntKind} {a b : Int} (h : a = b) : Ending.returned (.int k a) = .returned (.int k b) := by rw [h]

theorem addr_add (g i : Nat) : (⟨g, 0, none⟩ : Addr).add i = ⟨g, i, none⟩ := by
  unfold Addr.add
  split
  · simp_all
  · simp
theorem add_none (g o n : Nat) : (⟨g, o, none⟩ : Addr).add n = ⟨g, o + n, none⟩ := by unfold Addr.add; split <;> simp_all

theorem index_at (s : ByteArray) (k : Nat) (h : k < s.size) (i : Int) (hi : i = (k : Int)) (W : World) :
    (Instr.index 9 (.string s) (.int .i64 i)).run Try.prog W = .ok (.int .u8 ((s.data.toList.getD k 0).toNat : Int)) W := by
  subst hi
  rw [run_index_string W 9 s .i64 (k : Int) Try.underlying9, dif_pos ⟨by omega, by omega⟩]
  have hg : s.data.toList.getD k 0 = s[k] := by
    rw [List.getD_eq_getElem?_getD, List.getElem?_eq_getElem (by simpa using h)]
    rfl
  rw [hg]
  rfl
theorem first_at (s : ByteArray) (k : Nat) (h : k ≤ s.size) (i : Int) (hi : i = (k : Int)) (W : World) :
    (Instr.slice 9 (.string s) none (some (.int .i64 i)) none).run Try.prog W = .ok (.string (s.extract 0 k)) W := by
  subst hi
  rw [run_slice_string_h W 9 s Try.underlying9 .i64 (k : Int) (by omega) (by omega)]
  rfl
theorem mid_at (s : ByteArray) (k m : Nat) (h : k ≤ m) (h2 : m ≤ s.size) (i j : Int) (hi : i = (k : Int)) (hj : j = (m : Int)) (W : World) :
    (Instr.slice 9 (.string s) (some (.int .i64 i)) (some (.int .i64 j)) none).run Try.prog W = .ok (.string (s.extract k m)) W := by
  subst hi hj
  rw [run_slice_string W 9 s .i64 .i64 (k : Int) (m : Int) Try.underlying9 (by omega) (by omega) (by omega)]
  rfl
theorem last_at (s : ByteArray) (k : Nat) (h : k ≤ s.size) (i : Int) (hi : i = (k : Int)) (W : World) :
    (Instr.slice 9 (.string s) (some (.int .i64 i)) none none).run Try.prog W = .ok (.string (s.extract k s.size)) W := by
  subst hi
  rw [run_slice_string_l W 9 s Try.underlying9 .i64 (k : Int) (by omega) (by omega)]
  rfl

theorem cells_two_new (w : World) (x y : Value) (t : TypeId) : ∀ (j : Nat) (u : Value), [x, y][j]? = some u → (w.alloc (.cells #[x, y] t)).cell? ((⟨w.heap.size, 0, none⟩ : Addr).add j) = some u := by
  intro j u h
  rw [addr_add, World.cell?_alloc_new]
  simpa using h

theorem slice_of {w : World} {base n : Nat} {e : TypeId} {sz : Nat} {v : Value} {xs : List Value} (h : w.ownsRow base e sz v n xs) : ∃ p cap, v = .slice p n cap := by
  rcases h.2 with ⟨rfl, rfl⟩ | ⟨g, cap, cur, rfl, _⟩
  · exact ⟨none, 0, rfl⟩
  · exact ⟨_, cap, rfl⟩

/-- 'string(b)' where the call itself owns b's bytes. -/
theorem conv_own {P : Program} {w : World} {base n : Nat} {e : TypeId} {v : Value} {l : List UInt8} (hown : w.ownsRow base e 1 v n (Lib.byteCells l)) (src dst : TypeId)
    (hs : P.underlying src = some (.slice e)) (he : P.underlying e = some (.int .u8)) (hd : P.underlying dst = some .string) :
    (convert src dst v).run P w = .ok (.string ⟨l.toArray⟩) w := by
  have hl : l.length = n := by have := hown.1; rw [Lib.byteCells_length] at this; omega
  rcases hown.2 with ⟨rfl, rfl⟩ | ⟨g, cap, cur, rfl, hg, hh, hn, hm, hc, ht⟩
  · have : l = [] := List.eq_nil_of_length_eq_zero hl
    subst this
    exact run_convert_bytes_nil w src e hs he 0 0 dst hd
  · have hb := run_convert_bytes_arg (P := P) w src e hs he g 0 n cap (l.map fun b => (b.toNat : Int)) (by simp [hl]) (fun i hi => by
      have hcell := hown.cells (g := g) rfl i (.int .u8 ((l[i]'(by omega)).toNat : Int)) (by simp [Lib.byteCells, List.getElem?_eq_getElem (show i < l.length by omega)])
      rw [addr_add] at hcell
      rw [Nat.zero_add, hcell]
      simp [List.getElem?_eq_getElem (show i < l.length by omega)]) dst hd
    rw [hb]
    congr 2
    apply ByteArray.ext
    apply Array.toList_inj.1
    rw [strOfNums_data, List.map_map]
    refine (List.map_congr_left (g := id) ?_).trans (List.map_id l)
    intro x _
    simp

theorem put_conv {w : World} {base n : Nat} {v : Value} {l : List UInt8} (hown : w.ownsRow base 5 1 v n (Lib.byteCells l)) :
    (convert 83 9 v).run Try.prog w = .ok (.string ⟨l.toArray⟩) w :=
  conv_own hown _ _ Try.underlying83 Try.underlying5 Try.underlying9

theorem append_str {base n : Nat} {w w1 : World} {u v' : Value} {bs : List UInt8} {s : ByteArray} (hb : base ≤ w.heap.size) (hown : w.ownsRow base 5 1 u n (Lib.byteCells bs))
    (hown' : w1.ownsRow base 5 1 v' (n + s.size) (Lib.byteCells bs ++ Lib.strCells s)) (hg : w.grownBy w1 u.ownBlock) :
    w1.ownsRow base 5 1 v' (n + s.size) (Lib.byteCells (bs ++ s.data.toList)) ∧ Below base w w1 := by
  refine ⟨?_, (Below.refl base w).grown hg hb (fun g hgk => (hown.lt g hgk).1)⟩
  rw [Lib.byteCells_append]
  exact hown'

/-- Two bytes are laid behind. -/
theorem append_two {base n : Nat} {w w1 : World} {u v' : Value} {bs : List UInt8} {x y : Nat} (hx : x < 256) (hy : y < 256) (hb : base ≤ w.heap.size) (hown : w.ownsRow base 5 1 u n (Lib.byteCells bs))
    (hown' : w1.ownsRow base 5 1 v' (n + 2) (Lib.byteCells bs ++ [.int .u8 (x : Int), .int .u8 (y : Int)])) (hg : (w.alloc (.cells #[.int .u8 (x : Int), .int .u8 (y : Int)] 5)).grownBy w1 u.ownBlock) :
    w1.ownsRow base 5 1 v' (n + 2) (Lib.byteCells (bs ++ [UInt8.ofNat x, UInt8.ofNat y])) ∧ Below base w w1 := by
  refine ⟨?_, ((Below.refl base w).alloc hb _).grown hg (by simp; omega) (fun g hgk => (hown.lt g hgk).1)⟩
  rw [Lib.byteCells_append]
  have e : Lib.byteCells [UInt8.ofNat x, UInt8.ofNat y] = [Value.int .u8 (x : Int), .int .u8 (y : Int)] := by simp [Lib.byteCells, Nat.mod_eq_of_lt hx, Nat.mod_eq_of_lt hy]
  rw [e]
  exact hown'

theorem low_two (a : Nat) : low a 2 = [UInt8.ofNat (a / 256 % 256), UInt8.ofNat (a % 256)] := by simp [low]

theorem num_two {l : List UInt8} (h : 2 ≤ l.length) : numOf (l.take 2) = (l.getD 0 0).toNat * 256 + (l.getD 1 0).toNat := by
  match l, h with
  | a :: b :: r, _ => simp [numOf]

end Go.Proofs.Ythpgmfijameddaa
