/- Small runs of strings, and rows of bytes of a call's own, at this seat. -/
import Derived.Test.YtoflohomnoppnaaTagPlain
import Derived.Test.YtoflohomnoppnaaProg
import Derived.WalkKit
import Derived.WalkSpells
import Derived.WalkLawsBesides
import Derived.OwnWalk
import Derived.Lib.AppendStr
import Derived.Laws.IdiomCopy
import Derived.Deep.QuietTactic
import Derived.BigQuiet
namespace Go.Proofs.Ytoflohomnoppnaa
open Go.RowKit

theorem info5 : (Try.prog.info? 5).map (fun i => (i.zero, i.size, i.bytes)) = some (some (.int .u8 0), 1, 1) := by kernel_rfl

theorem ret_int {k : IntKind} {a b : Int} (h : a = b) : Ending.returned (.int k a) = .returned (.int k b) := by rw [h]

theorem addr_add (g i : Nat) : (⟨g, 0, none⟩ : Addr).add i = ⟨g, i, none⟩ := by
  unfold Addr.add
  split
  · simp_all
  · simp
theorem add_none (g o n : Nat) : (⟨g, o, none⟩ : Addr).add n = ⟨g, o + n, none⟩ := by unfold Addr.add; split <;> simp_all

theorem index_at (s : ByteArray) (k : Nat) (h : k < s.size) (i : Int) (hi : i = (k : Int)) (W : World) :
    (Instr.index 9 (.string s) (.int .i64 i)).run Try.prog W = .ok (.int .u8 ((s.data.toList.getD k 0).toNat : Int)) W := by
  subst hi
  rw [run_index_string W 9 s .i64 (k : Int) Try.underlying9, dif_pos ⟨by omega, by omega⟩]
  have hg : s.data.toList.getD k 0 = s[k] := by
    rw [List.getD_eq_getElem?_getD, List.getElem?_eq_getElem (by simpa using h)]
    rfl
  rw [hg]
  rfl
theorem first_at (s : ByteArray) (k : Nat) (h : k ≤ s.size) (i : Int) (hi : i = (k : Int)) (W : World) :
    (Instr.slice 9 (.string s) none (some (.int .i64 i)) none).run Try.prog W = .ok (.string (s.extract 0 k)) W := by
  subst hi
  rw [run_slice_string_h W 9 s Try.underlying9 .i64 (k : Int) (by omega) (by omega)]
  rfl
theorem mid_at (s : ByteArray) (k m : Nat) (h : k ≤ m) (h2 : m ≤ s.size) (i j : Int) (hi : i = (k : Int)) (hj : j = (m : Int)) (W : World) :
    (Instr.slice 9 (.string s) (some (.int .i64 i)) (some (.int .i64 j)) none).run Try.prog W = .ok (.string (s.extract k m)) W := by
  subst hi hj
  rw [run_slice_string W 9 s .i64 .i64 (k : Int) (m : Int) Try.underlying9 (by omega) (by omega) (by omega)]
  rfl
theorem last_at (s : ByteArray) (k : Nat) (h : k ≤ s.size) (i : Int) (hi : i = (k : Int)) (W : World) :
    (Instr.slice 9 (.string s) (some (.int .i64 i)) none none).run Try.prog W = .ok (.string (s.extract k s.size)) W := by
  subst hi
  rw [run_slice_string_l W 9 s Try.underlying9 .i64 (k : Int) (by omega) (by omega)]
  rfl

theorem cells_two_new (w : World) (x y : Value) (t : TypeId) : ∀ (j : Nat) (u : Value), [x, y][j]? = some u → (w.alloc (.cells #[x, y] t)).cell? ((⟨w.heap.size, 0, none⟩ : Addr).add j) = some u := by
  intro j u h
  rw [addr_add, World.cell?_alloc_new]
  simpa using h

theorem slice_of {w : World} {base n : Nat} {e : TypeId} {sz : Nat} {v : Value} {xs : List Value} (h : w.ownsRow base e sz v n xs) : ∃ p cap, v = .slice p n cap := by
  rcases h.2 with ⟨rfl, rfl⟩ | ⟨g, cap, cur, rfl, _⟩
  · exact ⟨none, 0, rfl⟩
  · exact ⟨_, cap, rfl⟩

/-- 'string(b)' where the call itself owns b's bytes. -/
theorem conv_own {P : Program} {w : World} {base n : Nat} {e : TypeId} {v : Value} {l : List UInt8} (hown : w.ownsRow base e 1 v n (Lib.byteCells l)) (src dst : TypeId)
    (hs : P.underlying src = some (.slice e)) (he : P.underlying e = some (.int .u8)) (hd : P.underlying dst = some .string) :
    (convert src dst v).run P w = .ok (.string ⟨l.toArray⟩) w := by
  have hl : l.length = n := by have := hown.1; rw [Lib.byteCells_length] at this; omega
  rcases hown.2 with ⟨rfl, rfl⟩ | ⟨g, cap, cur, rfl, hg, hh, hn, hm, hc, ht⟩
  · have : l = [] := List.eq_nil_of_length_eq_zero hl
    subst this
    exact run_convert_bytes_nil w src e hs he 0 0 dst hd
  · have hb := run_convert_bytes_arg (P := P) w src e hs he g 0 n cap (l.map fun b => (b.toNat : Int)) (by simp [hl]) (fun i hi => by
      have hcell := hown.cells (g := g) rfl i (.int .u8 ((l[i]'(by omega)).toNat : Int)) (by simp [Lib.byteCells, List.getElem?_eq_getElem (show i < l.length by omega)])
      rw [addr_add] at hcell
      rw [Nat.zero_add, hcell]
      simp [List.getElem?_eq_getElem (show i < l.length by omega)]) dst hd
    rw [hb]
    congr 2
    apply ByteArray.ext
    apply Array.toList_inj.1
    rw [strOfNums_data, List.map_map]
    refine (List.map_congr_left (g := id) ?_).trans (List.map_id l)
    intro x _
    simp

theorem put_conv {w : World} {base n : Nat} {v : Value} {l : List UInt8} (hown : w.ownsRow base 5 1 v n (Lib.byteCells l)) :
    (convert 50 9 v).run Try.prog w = .ok (.string ⟨l.toArray⟩) w :=
  conv_own hown _ _ Try.underlying50 Try.underlying5 Try.underlying9

theorem append_str {base n : Nat} {w w1 : World} {u v' : Value} {bs : List UInt8} {s : ByteArray} (hb : base ≤ w.heap.size) (hown : w.ownsRow base 5 1 u n (Lib.byteCells bs))
    (hown' : w1.ownsRow base 5 1 v' (n + s.size) (Lib.byteCells bs ++ Lib.strCells s)) (hg : w.grownBy w1 u.ownBlock) :
    w1.ownsRow base 5 1 v' (n + s.size) (Lib.byteCells (bs ++ s.data.toList)) ∧ Below base w w1 := by
  refine ⟨?_, (Below.refl base w).grown hg hb (fun g hgk => (hown.lt g hgk).1)⟩
  rw [Lib.byteCells_append]
  exact hown'

/-- Two bytes are laid behind. -/
theorem append_two {base n : Nat} {w w1 : World} {u v' : Value} {bs : List UInt8} {x y : Nat} (hx : x < 256) (hy : y < 256) (hb : base ≤ w.heap.size) (hown : w.ownsRow base 5 1 u n (Lib.byteCells bs))
    (hown' : w1.ownsRow base 5 1 v' (n + 2) (Lib.byteCells bs ++ [.int .u8 (x : Int), .int .u8 (y : Int)])) (hg : (w.alloc (.cells #[.int .u8 (x : Int), .int .u8 (y : Int)] 5)).grownBy w1 u.ownBlock) :
    w1.ownsRow base 5 1 v' (n + 2) (Lib.byteCells (bs ++ [UInt8.ofNat x, UInt8.ofNat y])) ∧ Below base w w1 := by
  refine ⟨?_, ((Below.refl base w).alloc hb _).grown hg (by simp; omega) (fun g hgk => (hown.lt g hgk).1)⟩
  rw [Lib.byteCells_append]
  have e : Lib.byteCells [UInt8.ofNat x, UInt8.ofNat y] = [Value.int .u8 (x : Int), .int .u8 (y : Int)] := by simp [Lib.byteCells, Nat.mod_eq_of_lt hx, Nat.mod_eq_of_lt hy]
  rw [e]
  exact hown'

theorem low_two (a : Nat) : low a 2 = [UInt8.ofNat (a / 256 % 256), UInt8.ofNat (a % 256)] := by simp [low]

theorem num_two {l : List UInt8} (h : 2 ≤ l.length) : numOf (l.take 2) = (l.getD 0 0).toNat * 256 + (l.getD 1 0).toNat := by
  match l, h with
  | a :: b :: r, _ => simp [numOf]

theorem kept_of {w w' : World} (h : Below w.heap.size w w') : Kept (fun _ => False) w w' := Kept.of_below h (fun i hi hb => by omega)
theorem below_of {w w' : World} (h : Kept (fun _ => False) w w') : Below w.heap.size w w' := h.below (Nat.le_refl _) (fun _ h => h.elim)

/-- A contract of what was there at w0, behind whatever has come. -/
theorem since {f : FuncId} {args : Array Value} {r : Ending} (h : ∀ w, Calls Try.prog f args w fun e w' => e = r ∧ Below w.heap.size w w') (w0 : World) :
    ∀ W, Kept (fun _ => False) w0 W → Calls Try.prog f args W fun e w' => e = r ∧ Kept (fun _ => False) w0 w' := fun W hW =>
  (h W).mono fun _ _ ⟨h1, h2⟩ => ⟨h1, hW.trans (kept_of h2)⟩
theorem sinceK {f : FuncId} {args : Array Value} {r : Ending} (h : ∀ w, Calls Try.prog f args w fun e w' => e = r ∧ Kept (fun _ => False) w w') (w0 : World) :
    ∀ W, Kept (fun _ => False) w0 W → Calls Try.prog f args W fun e w' => e = r ∧ Kept (fun _ => False) w0 w' := fun W hW =>
  (h W).mono fun _ _ ⟨h1, h2⟩ => ⟨h1, hW.trans h2⟩

theorem take_num (s : ByteArray) (k : Nat) : numOf ((s.extract k (k + 2)).data.toList.take 2) = numOf ((s.data.toList.drop k).take 2) := by
  rw [Lib.extract_data, List.take_take, show k + 2 - k = 2 by omega, Nat.min_self]

theorem num2_lt (l : List UInt8) : numOf (l.take 2) < 65536 := by
  have h := numOf_lt (l.take 2)
  have : 256 ^ (l.take 2).length ≤ 256 ^ 2 := Nat.pow_le_pow_right (by decide) (by rw [List.length_take]; omega)
  omega

theorem take_next {α : Type} {l : List α} {j : Nat} {x : α} (h : l[j]? = some x) : l.take (j + 1) = l.take j ++ [x] := by
  rw [List.take_add_one, h]
  rfl

theorem kept_base {w a b : World} {v : Value} {n base : Nat} {xs : List Value} (h : Kept (fun _ => False) w a) (hb : w.heap.size ≤ base) (hown : a.ownsRow base 5 1 v n xs) (k : Kept (fun i => v.ownBlock = some i) a b) : Kept (fun _ => False) w b :=
  h.andThen k (fun i hi hs => by have := (hown.lt i hs).1; omega)

def strV : Value → ByteArray | .string s => s | _ => ⟨#[]⟩

theorem str_nil (s : ByteArray) (h : s.size = 0) : s = ⟨#[]⟩ := by
  apply bytes_ext
  have : s.data.toList.length = 0 := by rw [← Lib.size_eq]; exact h
  rw [List.eq_nil_of_length_eq_zero this]

/-- Bytes that are left. -/
theorem sub_data (s : ByteArray) (k : Nat) : (s.extract k s.size).data.toList = s.data.toList.drop k := by
  rw [Lib.extract_data, List.take_of_length_le]
  rw [List.length_drop, ← Lib.size_eq]
  exact Nat.le_refl _

/-- A list of tags in memory, to be read. -/
def TagsAt (W : World) (v : Value) (l : List Tg) : Prop :=
  (l = [] ∧ ∃ p cap, v = .slice p 0 cap) ∨ ∃ g o cap, v = .slice (some ⟨g, o, none⟩) l.length cap ∧ l.length ≤ cap ∧ cap ≤ maxLen ∧
    ∀ j x, l[j]? = some x → W.cell? ⟨g, o + j * 2, none⟩ = some (.int .i64 x.type) ∧ W.cell? ⟨g, o + j * 2 + 1, none⟩ = some (.string x.value)

theorem TagsAt.slice {W : World} {v : Value} {l : List Tg} (h : TagsAt W v l) : ∃ p cap, v = .slice p l.length cap := by
  rcases h with ⟨rfl, p, cap, rfl⟩ | ⟨g, o, cap, rfl, _⟩
  · exact ⟨p, cap, rfl⟩
  · exact ⟨_, cap, rfl⟩

theorem TagsAt.at {W : World} {p : Option Addr} {n cap : Nat} {l : List Tg} (h : TagsAt W (.slice p n cap) l) {j : Nat} {x : Tg} (hj : l[j]? = some x) :
    ∃ g o, p = some ⟨g, o, none⟩ ∧ n ≤ cap ∧ W.cell? ⟨g, o + j * 2, none⟩ = some (.int .i64 x.type) ∧ W.cell? ⟨g, o + j * 2 + 1, none⟩ = some (.string x.value) := by
  rcases h with ⟨rfl, _⟩ | ⟨g, o, cap', e, hle, _, hc⟩
  · simp at hj
  · simp only [Value.slice.injEq] at e
    obtain ⟨rfl, rfl, rfl⟩ := e
    exact ⟨g, o, rfl, hle, hc j x hj⟩

theorem TagsAt.kept {S : Nat → Prop} {W W' : World} {v : Value} {l : List Tg} (h : TagsAt W v l) (hk : Kept S W W') (hS : ∀ i, i < W.heap.size → S i → v.ownBlock ≠ some i) : TagsAt W' v l := by
  rcases h with ⟨rfl, p, cap, rfl⟩ | ⟨g, o, cap, rfl, h1, h2, hc⟩
  · exact Or.inl ⟨rfl, p, cap, rfl⟩
  · refine Or.inr ⟨g, o, cap, rfl, h1, h2, fun j x hj => ?_⟩
    obtain ⟨c0, c1⟩ := hc j x hj
    have hlt := lt_of_cell c0
    have hn : ¬ S g := fun hs => hS g hlt hs rfl
    exact ⟨(hk.cell hlt hn).trans c0, (hk.cell (p := ⟨g, o + j * 2 + 1, none⟩) hlt hn).trans c1⟩

theorem TagsAt.kept0 {W W' : World} {v : Value} {l : List Tg} (h : TagsAt W v l) (hk : Kept (fun _ => False) W W') : TagsAt W' v l := h.kept hk (fun _ _ h => h.elim)

def tgCells (t : Tg) : List Value := [.int .i64 t.type, .string t.value]
def rowT (l : List Tg) : List Value := l.flatMap tgCells
theorem rowT_append (a b : List Tg) : rowT (a ++ b) = rowT a ++ rowT b := by simp [rowT]
theorem rowT_one (a : Tg) : rowT [a] = [.int .i64 a.type, .string a.value] := by simp [rowT, tgCells]
theorem rowT_length (l : List Tg) : (rowT l).length = l.length * 2 := by
  induction l with
  | nil => rfl
  | cons a r ih => rw [rowT, List.flatMap_cons, List.length_append]; rw [rowT] at ih; rw [ih]; simp [tgCells]; omega
theorem rowT_get {l : List Tg} {k : Nat} {x : Tg} (h : l[k]? = some x) (j : Nat) (hj : j < 2) : (rowT l)[k * 2 + j]? = (tgCells x)[j]? := by
  induction l generalizing k with
  | nil => simp at h
  | cons a r ih =>
    have hc : rowT (a :: r) = tgCells a ++ rowT r := by simp [rowT]
    cases k with
    | zero =>
      simp at h
      subst h
      rw [hc, List.getElem?_append_left (by simp [tgCells]; omega)]
      simp
    | succ k =>
      simp at h
      rw [hc, List.getElem?_append_right (by simp [tgCells]; omega), ← ih h]
      simp only [tgCells, List.length_cons, List.length_nil]
      congr 1
      omega
theorem rowT_oneCell (l : List Tg) : ∀ u ∈ rowT l, u.oneCell' = true := by
  intro u hu
  obtain ⟨g, _, hg⟩ := List.mem_flatMap.1 hu
  simp [tgCells] at hg
  rcases hg with rfl | rfl <;> rfl

theorem sameF_len {a b : List Tg} (h : a.length ≠ b.length) : sameF a b = false := by
  rw [← Bool.not_eq_true, sameF_iff]
  rintro rfl
  exact h rfl
theorem sameF_at {a b : List Tg} {j : Nat} {x y : Tg} (hx : a[j]? = some x) (hy : b[j]? = some y) (h : sameT x y = false) : sameF a b = false := by
  rw [← Bool.not_eq_true, sameF_iff]
  rintro rfl
  rw [hx] at hy
  cases hy
  rw [sameT_iff.2 rfl] at h
  cases h
theorem bytes_same {a b : ByteArray} : (a.toList == b.toList) = (a.data.toList == b.data.toList) := by rw [ByteArray.toList_eq, ByteArray.toList_eq]

end Go.Proofs.Ytoflohomnoppnaa
