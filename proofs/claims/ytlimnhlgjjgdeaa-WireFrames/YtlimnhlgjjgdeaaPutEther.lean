/- The contract of wire.PutEther: a frame as bytes, or the error; for every frame whose data has at most 2^47 bytes. -/
import Derived.Test.YtlimnhlgjjgdeaaLayTwo
import Derived.Deep.AppendLies
namespace Go.Proofs.Ytlimnhlgjjgdeaa
open Go.RowKit

/-- The cells of a frame. -/
def ethCells (d s : List UInt8) (ty : Int) (x : ByteArray) : List Value := Lib.byteCells d ++ (Lib.byteCells s ++ [.int .i64 ty, .string x])
def putEtherF (d s : List UInt8) (ty : Int) (l : List UInt8) : List UInt8 × Int :=
  if wordB ty = true then (if 1500 < l.length then ([], 2) else (d ++ s ++ low ty.toNat 2 ++ l, 0)) else ([], 1)
/-- Block b holds the cells cs. -/
def Holds14 (w : World) (b : Nat) (cs : List Value) : Prop := ∀ j u, cs[j]? = some u → w.cell? ⟨b, j, none⟩ = some u
theorem holds14_new (w : World) (t : TypeId) (cs : List Value) : Holds14 (w.alloc (.cells cs.toArray t)) w.heap.size cs := fun j u h => by
  have h2 := World.news_of_block (heap_alloc_new w (.cells cs.toArray t)) j u (by simpa using h)
  rw [addr_add] at h2
  exact h2
theorem Holds14.carry {w w1 : World} {b B : Nat} {cs : List Value} (h : Holds14 w b cs) (hb : Below B w w1) (hlt : b < B) : Holds14 w1 b cs :=
  fun j u hj => (hb.cell (p := ⟨b, j, none⟩) hlt).trans (h j u hj)
theorem eth_type (d s : List UInt8) (ty : Int) (x : ByteArray) (hd : d.length = 6) (hs : s.length = 6) : (ethCells d s ty x)[12]? = some (.int .i64 ty) := by
  unfold ethCells
  rw [List.getElem?_append_right (by simp [Lib.byteCells, hd]), List.getElem?_append_right (by simp [Lib.byteCells, hd, hs])]
  simp [Lib.byteCells, hd, hs]
theorem eth_data (d s : List UInt8) (ty : Int) (x : ByteArray) (hd : d.length = 6) (hs : s.length = 6) : (ethCells d s ty x)[13]? = some (.string x) := by
  unfold ethCells
  rw [List.getElem?_append_right (by simp [Lib.byteCells, hd]), List.getElem?_append_right (by simp [Lib.byteCells, hd, hs])]
  simp [Lib.byteCells, hd, hs]

set_option maxHeartbeats 400000 in
theorem putEther_no (cs : List Value) (ty : Int) (h12 : cs[12]? = some (.int .i64 ty)) (h : wordB ty = false) (w : World) :
    Calls Try.prog 5 #[.agg cs.toArray] w fun e w' => e = .returned (.tuple #[.string ⟨#[]⟩, .int .i64 1]) ∧ Below w.heap.size w w' := by
  have HW := hide (isWord_any ty)
  rw [h] at HW
  have c12 := holds14_new w 25 cs 12 _ h12
  clear h h12
  generalize cs.toArray = xs at c12
  go_enter Try.func5, Try.ntmps5
  go_wp2_with fail
  refine (HW.out _).mono ?_
  rintro e w1 ⟨rfl, rfl⟩
  go_wp2
  go_ret2
  exact ⟨rfl, (Below.refl _ _).alloc (Nat.le_refl _) _⟩

set_option maxHeartbeats 400000 in
theorem putEther_long (cs : List Value) (ty : Int) (x : ByteArray) (h12 : cs[12]? = some (.int .i64 ty)) (h13 : cs[13]? = some (.string x)) (h : wordB ty = true) (hl : 1500 < x.size) (w : World) :
    Calls Try.prog 5 #[.agg cs.toArray] w fun e w' => e = .returned (.tuple #[.string ⟨#[]⟩, .int .i64 2]) ∧ Below w.heap.size w w' := by
  have HW := hide (isWord_any ty)
  rw [h] at HW
  have c12 := holds14_new w 25 cs 12 _ h12
  have c13 := holds14_new w 25 cs 13 _ h13
  clear h h12 h13
  generalize cs.toArray = xs at c12 c13
  go_enter Try.func5, Try.ntmps5
  go_wp2_with fail
  refine (HW.out _).mono ?_
  rintro e w1 ⟨rfl, rfl⟩
  go_wp2
  go_ret2
  exact ⟨rfl, (Below.refl _ _).alloc (Nat.le_refl _) _⟩

theorem src_first {w : World} {b : Nat} {d : List UInt8} {rest : List Value} (h : Holds14 w b (Lib.byteCells d ++ rest)) : ∀ j u, (Lib.byteCells d)[j]? = some u → w.cell? ((⟨b, 0, none⟩ : Addr).add j) = some u := fun j u hj => by
  rw [addr_add]
  refine h j u ?_
  rw [List.getElem?_append_left (List.getElem?_eq_some_iff.1 hj).1]
  exact hj
theorem addr_add6 (g i : Nat) : (⟨g, 6, none⟩ : Addr).add i = ⟨g, 6 + i, none⟩ := by
  unfold Addr.add
  split
  · simp_all
  · simp
theorem src_second {w : World} {b : Nat} {d s : List UInt8} {rest : List Value} (hd : d.length = 6) (h : Holds14 w b (Lib.byteCells d ++ (Lib.byteCells s ++ rest))) :
    ∀ j u, (Lib.byteCells s)[j]? = some u → w.cell? ((⟨b, 6, none⟩ : Addr).add j) = some u := fun j u hj => by
  rw [addr_add6]
  refine h (6 + j) u ?_
  rw [List.getElem?_append_right (by rw [Lib.byteCells_length, hd]; omega), List.getElem?_append_left (by rw [Lib.byteCells_length, hd, Nat.add_sub_cancel_left]; exact (List.getElem?_eq_some_iff.1 hj).1), Lib.byteCells_length, hd, Nat.add_sub_cancel_left]
  exact hj
theorem append_more {base n m : Nat} {w w1 : World} {u v' : Value} {bs ns : List UInt8} (hb : base ≤ w.heap.size) (hown : w.ownsRow base 5 1 u n (Lib.byteCells bs))
    (hown' : w1.ownsRow base 5 1 v' (n + m) (Lib.byteCells bs ++ Lib.byteCells ns)) (hg : w.grownBy w1 u.ownBlock) :
    w1.ownsRow base 5 1 v' (n + m) (Lib.byteCells (bs ++ ns)) ∧ Below base w w1 := by
  refine ⟨?_, (Below.refl base w).grown hg hb (fun g hgk => (hown.lt g hgk).1)⟩
  rw [Lib.byteCells_append]
  exact hown'

set_option maxHeartbeats 1000000 in
theorem putEther_yes (d s : List UInt8) (hd : d.length = 6) (hs : s.length = 6) (a : Nat) (ha : a ≤ 65535) (x : ByteArray) (hx : x.size ≤ 1500) (w : World) :
    Calls Try.prog 5 #[.agg (ethCells d s (a : Int) x).toArray] w fun e w' => e = .returned (.tuple #[.string ⟨(d ++ s ++ low a 2 ++ x.data.toList).toArray⟩, .int .i64 0]) ∧ Below w.heap.size w w' := by
  have w1 : wordB (a : Int) = true := by simp [wordB]; omega
  have HW := hide (isWord_any (a : Int))
  rw [w1] at HW
  clear w1
  obtain ⟨i0, hi, hz0, hz1, hz2⟩ := info_parts info5
  have h12 := eth_type d s (a : Int) x hd hs
  have h13 := eth_data d s (a : Int) x hd hs
  have B0 := holds14_new w 25 (ethCells d s (a : Int) x)
  obtain ⟨cs, hcs⟩ : ∃ cs, cs = ethCells d s (a : Int) x := ⟨_, rfl⟩
  have HC := hide hcs
  rw [← hcs] at h12 h13 B0 ⊢
  clear hcs
  have c12 := B0 12 _ h12
  have c13 := B0 13 _ h13
  obtain ⟨z, hz⟩ : ∃ z : ByteArray, z = ⟨(d ++ s ++ low a 2 ++ x.data.toList).toArray⟩ := ⟨_, rfl⟩
  rw [← hz]
  have HZ := hide hz
  have H12 := hide h12
  have H13 := hide h13
  clear hz h12 h13
  generalize cs.toArray = xs at B0 c12 c13
  have HB := hide B0
  clear B0
  go_enter Try.func5, Try.ntmps5
  go_wp2_with fail
  refine (HW.out _).mono ?_
  rintro e w1 ⟨rfl, rfl⟩
  go_wp2_with (at_make; refine wpList_make_own _ rfl _ _ 47 rfl (w.heap.size + 1) 5 i0 (.int .u8 0) 1 Try.underlying47 hi hz0 hz1 .i64 .i64 _ (14 + x.size) rfl rfl ?m1 ?m2 ?m3 ?m4 ?_)
  case m1 => omega
  case m2 => rw [hz2]; omega
  case m3 => unfold maxLen; omega
  case m4 => simp
  intro w3 hown3 hg3
  have hb3 : Below (w.heap.size + 1) (w.alloc (.cells xs 25)) w3 := (Below.refl _ _).grown hg3 (by simp) (fun k hk => by cases hk)
  have B3 := HB.out.carry hb3 (by omega)
  have s3 : w.heap.size + 1 ≤ w3.heap.size := by have := hb3.size; simp at this; exact this
  have HB3 := hide ((show Below w.heap.size w (w.alloc (.cells xs 25)) from (Below.refl _ _).alloc (Nat.le_refl _) _).trans (hb3.mono (by omega)))
  have S3 := hide B3
  clear hg3 hb3 c12 c13 HB B3
  go_wp2_with (at_builtin; refine wpList_append_own _ rfl _ _ 47 rfl (w.heap.size + 1) 5 i0 (.int .u8 0) 1 1 Try.underlying47 hi hz0 hz1 hz2 rfl (by decide) _ _ _ rfl hown3 ⟨w.heap.size, 0, none⟩ 6 6 (Lib.byteCells d) rfl (by rw [Lib.byteCells_length, hd]) ?c1 (Lib.byteCells_one d) ?c3 ?c4 s3 ?_)
  case c1 =>
    have h := S3.out
    rw [HC.out] at h
    exact src_first h
  case c3 => unfold maxLen; omega
  case c4 => omega
  intro v4 w4 hown4 hg4 _
  have R4 : w4.ownsRow (w.heap.size + 1) 5 1 v4 6 (Lib.byteCells d) ∧ Below (w.heap.size + 1) w3 w4 := ⟨hown4, (Below.refl _ w3).grown hg4 s3 (fun g hgk => (hown3.lt g hgk).1)⟩
  have S4 := hide (S3.out.carry R4.2 (by omega))
  have s4 : w.heap.size + 1 ≤ w4.heap.size := Nat.le_trans s3 R4.2.size
  have HB4 := hide (HB3.out.trans (R4.2.mono (by omega)))
  have O4 := R4.1
  clear hown3 hown4 hg4 R4 S3 HB3
  go_wp2_with (at_builtin; refine wpList_append_own _ rfl _ _ 47 rfl (w.heap.size + 1) 5 i0 (.int .u8 0) 1 1 Try.underlying47 hi hz0 hz1 hz2 rfl (by decide) _ _ _ rfl O4 ⟨w.heap.size, 6, none⟩ 6 6 (Lib.byteCells s) rfl (by rw [Lib.byteCells_length, hs]) ?c1b (Lib.byteCells_one s) ?c3b ?c4b s4 ?_)
  case c1b =>
    have h := S4.out
    rw [HC.out] at h
    exact src_second hd h
  case c3b => unfold maxLen; omega
  case c4b => omega
  intro v5 w5 hown5 hg5 _
  have R5 : w5.ownsRow (w.heap.size + 1) 5 1 v5 12 (Lib.byteCells (d ++ s)) ∧ Below (w.heap.size + 1) w4 w5 := append_more (n := 6) (m := 6) s4 O4 hown5 hg5
  have S5 := hide (S4.out.carry R5.2 (by omega))
  have s5 : w.heap.size + 1 ≤ w5.heap.size := Nat.le_trans s4 R5.2.size
  have HB5 := hide (HB4.out.trans (R5.2.mono (by omega)))
  have O5 := R5.1
  have d12 := S5.out 12 _ H12.out
  clear O4 hown5 hg5 R5 S4 HB4
  go_wp2_with fail
  refine (lay_two (w.heap.size + 1) _ 12 _ a (by omega) _ s5 O5 (by omega)).mono ?_
  rintro e w6 ⟨v6, rfl, hown6, hb6⟩
  have S6 := hide (S5.out.carry hb6 (by omega))
  have s6 : w.heap.size + 1 ≤ w6.heap.size := Nat.le_trans s5 hb6.size
  have HB6 := hide (HB5.out.trans (hb6.mono (by omega)))
  have d13 := S6.out 13 _ H13.out
  clear O5 hb6 S5 HB5 d12
  go_wp2_with (at_builtin; refine Lib.wpList_append_own_string _ rfl _ _ 47 9 rfl (w.heap.size + 1) 5 i0 Try.underlying47 Try.underlying9 hi hz0 hz1 hz2 _ _ _ rfl hown6 x rfl ?e1 ?e2 ?e3 ?_)
  case e1 => unfold maxLen; omega
  case e2 => omega
  case e3 => exact s6
  intro v7 w7 hown7 hg7 _
  rw [← List.append_assoc] at hown7
  have R := append_str (n := 14) (bs := d ++ s ++ low a 2) s6 hown6 hown7 hg7
  have HB7 := hide (HB6.out.trans (R.2.mono (by omega)))
  have hcv := put_conv R.1
  have ez : (⟨(d ++ s ++ low a 2 ++ x.data.toList).toArray⟩ : ByteArray) = z := HZ.out.symm
  rw [ez] at hcv
  clear hown6 hown7 hg7 R ez HZ S6 HB6 d13
  go_wp2
  go_ret2
  exact ⟨rfl, HB7.out⟩

/-- 'PutEther(f)'. -/
theorem putEther_any (d s : List UInt8) (hd : d.length = 6) (hs : s.length = 6) (ty : Int) (x : ByteArray) (w : World) :
    Calls Try.prog 5 #[.agg (ethCells d s ty x).toArray] w fun e w' => e = .returned (.tuple #[.string ⟨(putEtherF d s ty x.data.toList).1.toArray⟩, .int .i64 (putEtherF d s ty x.data.toList).2]) ∧ Below w.heap.size w w' := by
  have h12 := eth_type d s ty x hd hs
  have h13 := eth_data d s ty x hd hs
  cases h : wordB ty with
  | false =>
    have e : putEtherF d s ty x.data.toList = ([], 1) := by unfold putEtherF; rw [h]; rfl
    rw [e]
    exact putEther_no _ ty h12 h w
  | true =>
    by_cases hl : 1500 < x.size
    · have e : putEtherF d s ty x.data.toList = ([], 2) := by unfold putEtherF; rw [h, if_pos rfl, if_pos (by rw [← Lib.size_eq]; exact hl)]
      rw [e]
      exact putEther_long _ ty x h12 h13 h hl w
    · have hr : 0 ≤ ty ∧ ty ≤ 65535 := by simpa [wordB] using h
      obtain ⟨a, rfl⟩ := Int.eq_ofNat_of_zero_le hr.1
      have e : putEtherF d s (a : Int) x.data.toList = (d ++ s ++ low a 2 ++ x.data.toList, 0) := by unfold putEtherF; rw [h, if_pos rfl, if_neg (by rw [← Lib.size_eq]; exact hl), Int.toNat_natCast]
      rw [e]
      exact putEther_yes d s hd hs a (by omega) x (by omega) w
end Go.Proofs.Ytlimnhlgjjgdeaa
