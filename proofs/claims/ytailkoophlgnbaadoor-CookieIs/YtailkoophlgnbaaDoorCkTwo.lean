/- What the walk of the law CookieIs leans on: two cards and two digests in blocks of their own, digests compared, eight bytes of a number whose highest four are noughts. -/
import Derived.Test.YtailkoophlgnbaaDoorCkAlive
import Derived.Test.YtailkoophlgnbaaDoorCkPut
import Derived.Test.YtailkoophlgnbaaDoorDigestSame
import Derived.OpenShut
namespace Go.Proofs.YtailkoophlgnbaaDoor
open Go.RowKit

/-- The tables, two cards in blocks of their own, and nothing turned of what was there. -/
structure SJ (w : World) (m n : List UInt8) (W : World) : Prop where
  tab : Tables W
  one : MacAt W w.heap.size m
  two : MacAt W (w.heap.size + 1) n
  bel : Below w.heap.size w W
theorem SJ.next {w W W' : World} {m n : List UInt8} (h : SJ w m n W) (hb : Below W.heap.size W W') : SJ w m n W' :=
  ⟨h.tab.next hb, h.one.carry hb h.one.lt, h.two.carry hb h.two.lt, h.bel.trans (hb.mono h.bel.size)⟩
theorem SJ.first {w : World} {m n : List UInt8} (hT : Tables w) : SJ w m n ((w.alloc (.cells (Lib.byteCells m).toArray 23)).alloc (.cells (Lib.byteCells n).toArray 23)) := by
  have hb : Below w.heap.size w ((w.alloc (.cells (Lib.byteCells m).toArray 23)).alloc (.cells (Lib.byteCells n).toArray 23)) := ((Below.refl _ _).alloc (Nat.le_refl _) _).alloc (by simp) _
  exact ⟨hT.next hb, (heap_alloc_old (w.alloc (.cells (Lib.byteCells m).toArray 23)) _ (by simp)).trans (heap_alloc_new w _), heap_alloc2_new w _ _, hb⟩
theorem SJ.ans {w W : World} {m n : List UInt8} {f : Nat} {args : Array Value} {v : Value} (h : SJ w m n W) (hc : Ans f args v) : Calls Tryd.prog f args W fun e w' => e = .returned v ∧ SJ w m n w' ∧ Below W.heap.size W w' :=
  (hc.out W h.tab).mono fun _ _ ⟨he, hb⟩ => ⟨he, h.next hb, hb⟩
theorem MacAt.six {W : World} {b : Nat} {m : List UInt8} {x0 x1 x2 x3 x4 x5 : Value} (h : MacAt W b m) (hx : (Lib.byteCells m).toArray = #[x0, x1, x2, x3, x4, x5]) : Six W b x0 x1 x2 x3 x4 x5 := by
  have hc : ∀ j u, (#[x0, x1, x2, x3, x4, x5] : Array Value)[j]? = some u → W.cell? ⟨b, j, none⟩ = some u := fun j u hj => by
    have h2 := h.src j u (by rw [← hx] at hj; simpa using hj)
    rw [addr_add] at h2
    exact h2
  exact ⟨hc 0 x0 rfl, hc 1 x1 rfl, hc 2 x2 rfl, hc 3 x3 rfl, hc 4 x4 rfl, hc 5 x5 rfl⟩
/-- A digest in a block of its own. -/
def DigAt (W : World) (b : Nat) (D : Array Value) : Prop := W.heap[b]? = some (.cells D 32 (0, 0))
theorem DigAt.next {W W' : World} {b : Nat} {D : Array Value} (h : DigAt W b D) (hb : Below W.heap.size W W') : DigAt W' b D := (hb.block b (Array.getElem?_eq_some_iff.1 h).1).trans h
structure DigCells (W : World) (b : Nat) (D : Array Value) : Prop where
  c0 : W.cell? ⟨b, 0, none⟩ = D[0]?
  c1 : W.cell? ⟨b, 1, none⟩ = D[1]?
  c2 : W.cell? ⟨b, 2, none⟩ = D[2]?
  c3 : W.cell? ⟨b, 3, none⟩ = D[3]?
  c4 : W.cell? ⟨b, 4, none⟩ = D[4]?
  c5 : W.cell? ⟨b, 5, none⟩ = D[5]?
  c6 : W.cell? ⟨b, 6, none⟩ = D[6]?
  c7 : W.cell? ⟨b, 7, none⟩ = D[7]?
  c8 : W.cell? ⟨b, 8, none⟩ = D[8]?
  c9 : W.cell? ⟨b, 9, none⟩ = D[9]?
  c10 : W.cell? ⟨b, 10, none⟩ = D[10]?
  c11 : W.cell? ⟨b, 11, none⟩ = D[11]?
  c12 : W.cell? ⟨b, 12, none⟩ = D[12]?
  c13 : W.cell? ⟨b, 13, none⟩ = D[13]?
  c14 : W.cell? ⟨b, 14, none⟩ = D[14]?
  c15 : W.cell? ⟨b, 15, none⟩ = D[15]?
theorem DigAt.cells {W : World} {b : Nat} {D : Array Value} (h : DigAt W b D) : DigCells W b D :=
  ⟨cell_of_row W b 0 D _ _ h, cell_of_row W b 1 D _ _ h, cell_of_row W b 2 D _ _ h, cell_of_row W b 3 D _ _ h, cell_of_row W b 4 D _ _ h, cell_of_row W b 5 D _ _ h, cell_of_row W b 6 D _ _ h, cell_of_row W b 7 D _ _ h, cell_of_row W b 8 D _ _ h, cell_of_row W b 9 D _ _ h, cell_of_row W b 10 D _ _ h, cell_of_row W b 11 D _ _ h, cell_of_row W b 12 D _ _ h, cell_of_row W b 13 D _ _ h, cell_of_row W b 14 D _ _ h, cell_of_row W b 15 D _ _ h⟩
theorem dig_new (W : World) (D : Array Value) : DigAt ((W.alloc (.cells Z16b 32)).setRow W.heap.size D) W.heap.size D := setRow_heap _ _ Z16b D _ _ (heap_alloc_new W _)
theorem dig_below (W : World) (D : Array Value) : Below W.heap.size W ((W.alloc (.cells Z16b 32)).setRow W.heap.size D) :=
  ((Below.refl _ _).alloc (Nat.le_refl _) _).trans ⟨rfl, rfl, rfl, by simp, fun k hk => setRow_other _ _ _ _ (by omega)⟩
theorem MacAt.conv {W : World} {b : Nat} {m : List UInt8} (h : MacAt W b m) (hm : m.length = 6) : (convert 34 9 (.slice (some ⟨b, 0, none⟩) 6 6)).run Tryd.prog W = .ok (.string ⟨m.toArray⟩) W := by
  have hb := run_convert_bytes_arg (P := Tryd.prog) W 34 5 Tryd.underlying34 Tryd.underlying5 b 0 6 6 (m.map fun b => (b.toNat : Int)) (by simp [hm]) (fun i hi => by
    rw [Nat.zero_add, cell_of_row _ b i (Lib.byteCells m).toArray _ _ h]
    simp [Lib.byteCells, List.getElem?_eq_getElem (show i < m.length by omega)]) 9 Tryd.underlying9
  rw [hb]
  congr 2
  apply ByteArray.ext
  apply Array.toList_inj.1
  rw [strOfNums_data, List.map_map]
  refine (List.map_congr_left (g := id) ?_).trans (List.map_id m)
  intro x _
  simp
theorem digest_lits2 (d : Nat) (l : List UInt8) (h : l.length = 16) : Tryd.prog.keyLits (d + 2) 32 (Lib.byteCells l) = some (l.map fun b => Lit.int .u8 (b.toNat : Int)) := by
  obtain ⟨a0, a1, a2, a3, a4, a5, a6, a7, a8, a9, a10, a11, a12, a13, a14, a15, rfl⟩ := sixteen h
  have hr : List.range 16 = [0, 1, 2, 3, 4, 5, 6, 7, 8, 9, 10, 11, 12, 13, 14, 15] := rfl
  unfold Program.keyLits
  rw [Tryd.underlying32]
  simp [cells16, cells5, Lib.byteCells, hr, byte_lits]
theorem lits_inj : ∀ {l k : List UInt8}, (l.map fun b => Lit.int .u8 (b.toNat : Int)) = (k.map fun b => Lit.int .u8 (b.toNat : Int)) → l = k
  | [], [], _ => rfl
  | [], _ :: _, h => by simp at h
  | _ :: _, [], h => by simp at h
  | a :: l, b :: k, h => by
    simp only [List.map_cons, List.cons.injEq, Lit.int.injEq, true_and] at h
    rw [lits_inj h.2, UInt8.toNat_inj.1 (Int.ofNat.inj h.1)]
theorem digest_cmp (l k : List UInt8) (h : l.length = 16) (h2 : k.length = 16) (W : World) :
    (Op.equalIn 10000 32 (.agg (Lib.byteCells l).toArray) (.agg (Lib.byteCells k).toArray)).run Tryd.prog W = .ok (decide (l = k)) W := by
  have hk : Tryd.prog.keyTypeAt 3 32 = true := by kernel_rfl
  have hf : ∀ l : List UInt8, l.length = 16 → (Value.agg (Lib.byteCells l).toArray).formed Tryd.prog 32 = true := fun l h => by simp [Value.formed, Tryd.underlying32, cells16, Lib.byteCells, h]
  obtain ⟨r, hr, hiff⟩ := run_equalIn_deep (P := Tryd.prog) 9997 3 32 hk W 3 3 (.agg (Lib.byteCells l).toArray) (.agg (Lib.byteCells k).toArray) _ _ (hf l h) (hf k h2) (digest_lits2 1 l h) (digest_lits2 1 k h2)
  have hr' : (Op.equalIn 10000 32 (.agg (Lib.byteCells l).toArray) (.agg (Lib.byteCells k).toArray)).run Tryd.prog W = .ok r W := hr
  rw [hr']
  congr 1
  rw [Bool.eq_iff_iff, hiff, decide_eq_true_eq]
  exact ⟨lits_inj, fun h => by rw [h]⟩
theorem low_eight (a : Nat) (h : a < 4294967296) : low a 8 = [0, 0, 0, 0] ++ low a 4 := by
  have e1 : a / 256 / 256 / 256 / 256 = 0 := by omega
  simp [low, e1]
theorem row16 {l : List UInt8} (h : l.length = 16) : ∃ y0 y1 y2 y3 y4 y5 y6 y7 y8 y9 y10 y11 y12 y13 y14 y15 : Value, (Lib.byteCells l).toArray = #[y0, y1, y2, y3, y4, y5, y6, y7, y8, y9, y10, y11, y12, y13, y14, y15] := by
  obtain ⟨a0, a1, a2, a3, a4, a5, a6, a7, a8, a9, a10, a11, a12, a13, a14, a15, rfl⟩ := sixteen h
  exact ⟨_, _, _, _, _, _, _, _, _, _, _, _, _, _, _, _, rfl⟩
theorem row16_one {l : List UInt8} {D : Array Value} (h : (Lib.byteCells l).toArray = D) : D.all (·.oneCell') = true := by
  rw [← h]
  exact all_oneCell_toArray (Lib.byteCells_one l)
end Go.Proofs.YtailkoophlgnbaaDoor
