/- The document's own pool (tollgateref13): NewPool. -/
import Derived.Test.YtblcojggjplndaaDoorPlMem
namespace Go.Proofs.YtblcojggjplndaaDoor
open Go.RowKit

def lZero : Value := .agg #[.bool false, .int .i64 0, .int .i64 0]
theorem made_lent (n : Nat) : madeCells lZero.cells (n * 3) = (rowG ltCells (List.replicate n lt0)).toArray := by
  apply Array.ext'
  apply List.ext_getElem?
  intro i
  by_cases hi : i < n * 3
  · have hg := encL.get (l := List.replicate n lt0) (j := i / 3) (x := lt0) (by rw [List.getElem?_replicate, if_pos (by omega)]) (i % 3) (by omega)
    rw [show i / 3 * 3 + i % 3 = i by omega] at hg
    rw [hg]
    have hm : i % 3 = 0 ∨ i % 3 = 1 ∨ i % 3 = 2 := by omega
    rcases hm with h | h | h <;> simp [madeCells, hi, lZero, Value.cells, ltCells, lt0, h]
  · rw [List.getElem?_eq_none (by simp [size_madeCells]; omega), List.getElem?_eq_none (by rw [encL.length]; simp; omega)]

set_option maxHeartbeats 2000000 in
set_option maxRecDepth 100000 in
theorem rNewPool_bad (x : Ad) (n : Int) (hn : I64 n) (h : ¬ goodP x n) (w : World) :
    Calls Tryd.prog 10 #[adV x, .int .i64 n] w fun e w' => e = .returned (.tuple #[.pointer none, .int .i64 1]) ∧ Kept (fun _ => False) w w' := by
  have HN := hid (rAddrNum_any x)
  have hr := numAd_range x
  unfold goodP at h
  unfold adV at *
  generalize numAd x = nx at *
  have X1 := hid (four4_new w 23 (.int .u8 (x.a.toNat : Int)) (.int .u8 (x.b.toNat : Int)) (.int .u8 (x.c.toNat : Int)) (.int .u8 (x.d.toNat : Int)))
  have K0 := hid ((Kept.refl (fun _ => False) w).alloc (.cells #[.int .u8 (x.a.toNat : Int), .int .u8 (x.b.toNat : Int), .int .u8 (x.c.toNat : Int), .int .u8 (x.d.toNat : Int)] 23))
  obtain ⟨hn1, hn2⟩ := hn
  go_enter Tryd.func10, Tryd.ntmps10
  go_upto_region 1 with fail
  generalize w.alloc (.cells #[.int .u8 (x.a.toNat : Int), .int .u8 (x.b.toNat : Int), .int .u8 (x.c.toNat : Int), .int .u8 (x.d.toNat : Int)] 23) = W at *
  obtain ⟨⟨c0, c1, c2, c3⟩, _⟩ := X1.out
  by_cases h1 : n < 1
  · clear h hr
    go_wp2
    exact bodyPost_ret (v := .tuple #[.pointer none, .int .i64 1]) (by simp [results, Tryd.results10, go_sem]) rfl ⟨rfl, K0.out⟩
  · by_cases h2 : 256 < n
    · clear h hr
      go_wp2
      exact bodyPost_ret (v := .tuple #[.pointer none, .int .i64 1]) (by simp [results, Tryd.results10, go_sem]) rfl ⟨rfl, K0.out⟩
    · have h3 : 4294967296 < nx + n := by omega
      have hw : IntKind.i64.wrap (nx + n) = nx + n := by rw [IntKind.wrap_i64]; omega
      have hw' : wrap64 (nx + n) = nx + n := by unfold wrap64; omega
      clear h hr
      go_wp2_with fail
      refine (HN.out _).mono ?_
      rintro e w1 ⟨rfl, hk⟩
      have HK := hid (K0.out.trans hk)
      clear hk c0 c1 c2 c3
      go_wp2
      exact bodyPost_ret (v := .tuple #[.pointer none, .int .i64 1]) (by simp [results, Tryd.results10, go_sem]) rfl ⟨rfl, HK.out⟩

set_option maxHeartbeats 4000000 in
set_option maxRecDepth 100000 in
theorem rNewPool_good (x : Ad) (n : Nat) (h1 : 1 ≤ n) (h2 : n ≤ 256) (h3 : numAd x + (n : Int) ≤ 4294967296) (w : World) :
    Calls Tryd.prog 10 #[adV x, .int .i64 (n : Int)] w fun e w' => ∃ b, w.heap.size ≤ b ∧ e = .returned (.tuple #[.pointer (some ⟨b, 0, none⟩), .int .i64 0]) ∧ PoAt w' w.heap.size b x (List.replicate n lt0) ∧ Kept (fun _ => False) w w' := by
  have HN := hid (rAddrNum_any x)
  have hr := numAd_range x
  obtain ⟨i0, hi, hz0, hz1, hz2⟩ := info_parts tyL.info
  have hmk : ∀ W : World, (Instr.makeSlice 67 (.int .i64 (n : Int)) (.int .i64 (n : Int))).run Tryd.prog W = .ok (.slice (some ⟨W.heap.size, 0, none⟩) n n) (W.alloc (.cells (rowG ltCells (List.replicate n lt0)).toArray 71)) := fun W => by
    have h := run_make (P := Tryd.prog) W 67 71 i0 _ Tryd.underlying67 hi hz0 .i64 .i64 (n : Int) (n : Int) (by omega) (Int.le_refl _) (by rw [hz2]; omega) (by omega)
    rw [hz1, Int.toNat_natCast] at h
    have e := made_lent n
    unfold lZero at e
    rw [e] at h
    exact h
  have HO : Hid (∀ (W : World) (base : Nat), base ≤ W.heap.size → OwnG ltCells 3 71 (W.alloc (.cells (rowG ltCells (List.replicate n lt0)).toArray 71)) base (.slice (some ⟨W.heap.size, 0, none⟩) n n) (List.replicate n lt0)) := fun W base hb => by
    have h := World.ownsRow_lit (base := base) (e := 71) (size := 3) W (rowG ltCells (List.replicate n lt0)).toArray n hb (by unfold maxLen; omega) (by simp [encL.length])
    unfold OwnG
    simpa using h
  generalize hrow : (rowG ltCells (List.replicate n lt0)).toArray = row at *
  unfold adV at *
  generalize numAd x = nx at *
  have X1 := hid (four4_new w 23 (.int .u8 (x.a.toNat : Int)) (.int .u8 (x.b.toNat : Int)) (.int .u8 (x.c.toNat : Int)) (.int .u8 (x.d.toNat : Int)))
  have K0 := hid ((Kept.refl (fun _ => False) w).alloc (.cells #[.int .u8 (x.a.toNat : Int), .int .u8 (x.b.toNat : Int), .int .u8 (x.c.toNat : Int), .int .u8 (x.d.toNat : Int)] 23))
  have g1 : ¬ (n : Int) < 1 := by omega
  have g2 : ¬ 256 < (n : Int) := by omega
  have g3 : ¬ 4294967296 < nx + (n : Int) := by omega
  have hw' : wrap64 (nx + (n : Int)) = nx + (n : Int) := by unfold wrap64; omega
  clear hrow
  go_enter Tryd.func10, Tryd.ntmps10
  go_upto_region 1 with fail
  generalize w.alloc (.cells #[.int .u8 (x.a.toNat : Int), .int .u8 (x.b.toNat : Int), .int .u8 (x.c.toNat : Int), .int .u8 (x.d.toNat : Int)] 23) = W at *
  obtain ⟨⟨c0, c1, c2, c3⟩, _⟩ := X1.out
  go_wp2_with fail
  refine (HN.out _).mono ?_
  rintro e w1 ⟨rfl, hk⟩
  have HK := hid (K0.out.trans hk)
  obtain ⟨⟨d0, d1, d2, d3⟩, _⟩ := X1.out.kept hk (fun h => h)
  obtain ⟨⟨e0, e1, e2, e3⟩, _⟩ := (X1.out.kept hk (fun h => h)).kept ((Kept.refl (fun _ => False) w1).alloc (.cells row 71)) (fun h => h)
  clear hk c0 c1 c2 c3
  go_upto_region 3 with fail
  go_region
  all_goals
    go_wp2
    refine bodyPost_ret (v := .tuple #[.pointer (some ⟨w1.heap.size + 1, 0, none⟩), .int .i64 0]) (by simp [results, Tryd.results10, go_sem]) rfl ⟨w1.heap.size + 1, Nat.le_succ_of_le HK.out.size, rfl, ?_, ?_⟩
    · have k2 := (Kept.refl (fun _ => False) (w1.alloc (.cells row 71))).alloc (.cells #[.int .u8 (x.a.toNat : Int), .int .u8 (x.b.toNat : Int), .int .u8 (x.c.toNat : Int), .int .u8 (x.d.toNat : Int), .slice (some ⟨w1.heap.size, 0, none⟩) n n] 69)
      have hb := heap_alloc_new (w1.alloc (.cells row 71)) (.cells #[.int .u8 (x.a.toNat : Int), .int .u8 (x.b.toNat : Int), .int .u8 (x.c.toNat : Int), .int .u8 (x.d.toNat : Int), .slice (some ⟨w1.heap.size, 0, none⟩) n n] 69)
      have e : (w1.alloc (.cells row 71)).heap.size = w1.heap.size + 1 := by simp
      rw [e] at hb
      exact ⟨_, ⟨hb, ((HO.out w1 w.heap.size HK.out.size).kept0 k2).kept0 (Kept.refl (fun _ => False) _).drew⟩⟩
    · exact ((HK.out.alloc _).alloc _).drew
end Go.Proofs.YtblcojggjplndaaDoor
