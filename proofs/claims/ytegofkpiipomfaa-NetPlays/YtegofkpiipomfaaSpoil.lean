/- The contract of Net.Spoil. -/
import Derived.Test.YtegofkpiipomfaaNetOps2
import Derived.Lib.ConvBytes
import Derived.Lib.Walk
import Derived.Laws.Bits128
namespace Go.Proofs.Ytegofkpiipomfaa
open Go.RowKit

theorem tmod_again (v n : Int) : (v.tmod n + n) % n = v % n := by
  have h := Int.tmod_add_mul_tdiv v n
  have h2 : v.tmod n = v - n * v.tdiv n := by omega
  rw [h2, Int.add_emod_right, Int.sub_mul_emod_self_left]

theorem modulo_any (v n : Int) (hn : 1 ≤ n) (hn2 : n ≤ 1000000) (w : World) :
    Calls Try.prog 36 #[.int .i64 v, .int .i64 n] w fun e w' => e = .returned (.int .i64 (v % n)) ∧ w' = w := by
  have hb1 : -n < v.tmod n := by
    have h1 := Int.tmod_lt_of_pos (-v) (show 0 < n by omega)
    rw [Int.neg_tmod] at h1
    omega
  have hb2 : v.tmod n < n := Int.tmod_lt_of_pos v (by omega)
  have h0 : (n == 0) = false := by rw [beq_eq_false_iff_ne]; omega
  have e1 : (v.tmod n + n).tmod n = v % n := by rw [Int.tmod_eq_emod_of_nonneg (by omega), tmod_again v n]
  have hw : IntKind.i64.wrap (v.tmod n + n) = v.tmod n + n := by rw [IntKind.wrap_i64]; omega
  go_enter Try.func36, Try.ntmps36
  go_wp2
  all_goals go_ret
  all_goals exact ⟨rfl, rfl⟩

/-- The byte at a place, turned. -/
def spoilB (x : ByteArray) (q : Nat) (y : UInt8) : ByteArray := ⟨(x.data.toList.set q (x.data.toList.getD q 0 ^^^ y)).toArray⟩

theorem spoilB_size (x : ByteArray) (q : Nat) (y : UInt8) : (spoilB x q y).size = x.size := by
  unfold spoilB
  show (x.data.toList.set q _).toArray.size = _
  simp

theorem spoilB_cell {x : ByteArray} {q : Nat} (hq : q < x.size) (y : UInt8) (j : Nat) (hj : j < x.size) : (spoilB x q y).data.toList.getD j 0 = if j = q then x.data.toList.getD q 0 ^^^ y else x.data.toList.getD j 0 := by
  unfold spoilB
  have hl : x.data.toList.length = x.size := (Lib.size_eq x).symm
  simp only [List.getD_eq_getElem?_getD]
  rw [List.getElem?_set]
  by_cases h : j = q
  · subst h
    rw [if_pos rfl, if_pos (by omega), if_pos rfl]
    rfl
  · rw [if_neg (fun e => h e.symm), if_neg h]

section
variable {S : Nat → Prop} {w : World} {b : Nat} {s : NetSt}

set_option maxHeartbeats 1000000 in
set_option maxRecDepth 100000 in
theorem spoil_bad (h : NetAt S w b s) (j : Nat) (hj : j < s.grams.length) (at' by' e : Int) (he : ((getG s.grams j).data.size = 0 ∧ e = 3) ∨ (0 < (getG s.grams j).data.size ∧ (by' < 1 ∨ 255 < by') ∧ e = 1)) :
    Calls Try.prog 14 #[.pointer (some ⟨b, 0, none⟩), .int .i64 (j : Int), .int .i64 at', .int .i64 by'] w fun e' w' => e' = .returned (.int .i64 e) ∧ Kept (fun _ => False) w w' := by
  have Hp := hid (place_good h j hj w (Kept.refl _ w))
  obtain ⟨gv, tm, cm, hN, hS⟩ := h
  rcases hN.own.cases with ⟨_, e⟩ | ⟨g, cap, rfl, _, hr⟩
  · rw [e] at hj
    cases hj
  have h63 : s.grams.length ≤ 9223372036854775807 := Nat.le_trans hr.le hr.le63
  have c0 := hN.c0
  obtain ⟨_, _, r2, _⟩ := hr.cells4 (getG_at hj)
  clear hr hN hS
  generalize (getG s.grams j).data = x at *
  have hcv : (convert 9 72 (.string x)).run Try.prog w = _ := Lib.run_convert_string_bytes w 9 72 5 x Try.underlying9 Try.underlying72 Try.underlying5
  have HK : Hid (Kept (fun _ => False) w (Lib.bytesWorld w 5 x)) := ⟨rfl, rfl, rfl, by rw [Lib.bytesWorld_size]; omega, fun k hk _ => Lib.bytesWorld_at_old w 5 x k hk⟩
  have hjz : (j : Int) < (s.grams.length : Int) := by omega
  generalize Lib.bytesWorld w 5 x = W1 at *
  generalize grownCap w x.size 0 5 = c1 at *
  rcases he with ⟨hz, rfl⟩ | ⟨hz, hby, rfl⟩
  · rw [hz] at hcv
    go_enter Try.func14, Try.ntmps14
    go_wp2_with fail
    refine (Hp.out).mono ?_
    rintro e' w' ⟨rfl, rfl⟩
    go_wp2
    go_ret
    exact ⟨rfl, HK.out⟩
  · generalize x.size = n at *
    have hnz : ((n : Int) == 0) = false := by rw [beq_eq_false_iff_ne]; omega
    by_cases h1 : by' < 1
    · clear hby
      go_enter Try.func14, Try.ntmps14
      go_wp2_with fail
      refine (Hp.out).mono ?_
      rintro e' w' ⟨rfl, rfl⟩
      go_wp2
      go_ret
      exact ⟨rfl, HK.out⟩
    · have h2 : 255 < by' := by omega
      clear hby
      go_enter Try.func14, Try.ntmps14
      go_wp2_with fail
      refine (Hp.out).mono ?_
      rintro e' w' ⟨rfl, rfl⟩
      go_wp2
      go_ret
      exact ⟨rfl, HK.out⟩

end

theorem rowCells_data : ∀ (l : List Gr) (j : Nat) (x : Gr), l[j]? = some x → ∀ d : ByteArray, (rowCells l).set (j * 4 + 2) (.string d) = rowCells (l.set j { x with data := d })
  | [], _, _, h, _ => by simp at h
  | a :: r, 0, x, h, d => by
    simp at h
    subst h
    rw [List.set_cons_zero, rowCells_cons, rowCells_cons]
    rfl
  | a :: r, j + 1, x, h, d => by
    simp at h
    rw [List.set_cons_succ, rowCells_cons, rowCells_cons, ← rowCells_data r j x h d, List.set_append]
    rw [if_neg (by simp [grCells]; omega)]
    congr 1
    simp only [grCells, List.length_cons, List.length_nil]
    congr 1
    omega

theorem RowG.data {w : World} {g cap : Nat} {l : List Gr} (h : RowG w g cap l) {j : Nat} {x : Gr} (hj : l[j]? = some x) (d : ByteArray) : RowG (w.setCell ⟨g, j * 4 + 2, none⟩ (.string d)) g cap (l.set j { x with data := d }) := by
  have h1 := (World.ownsRow.stored h (j * 4 + 2) (.string d)).1
  rw [rowCells_data l j x hj d] at h1
  unfold RowG
  rw [List.length_set]
  exact h1

/-- The row's block has turned, no other. -/
theorem NetIn.rerow0 {w w2 : World} {b : Nat} {gv : Value} {tm cm : Option Nat} {s : NetSt} {l : List Gr} (h : NetIn w b gv tm cm s) (hk : Kept (fun i => gv.ownBlock = some i) w w2) (hown : OwnG w2 0 gv l) : NetIn w2 b gv tm cm { s with grams := l } := by
  have hb : ∀ i, ofNet b (.slice none 0 0) tm cm i → w2.heap[i]? = w.heap[i]? := fun i hi => by
    have hi' : ofNet b gv tm cm i := hi.elim Or.inl (fun h => h.elim (fun h => by cases h) (fun h => Or.inr (Or.inr h)))
    refine hk.block i (h.lt hi') (fun e => ?_)
    rcases hi with hi | hi | hi | hi
    · exact h.ng (by rw [e, hi])
    · cases hi
    · exact h.gt i e hi
    · exact h.gc i e hi
  have h0 := hb b (Or.inl rfl)
  exact ⟨(World.cell?_of_block h0).trans h.c0, (World.cell?_of_block h0).trans h.c1, (World.cell?_of_block h0).trans h.c2, fun i => (World.frozen?_of_block h0).trans (h.f i), hown, h.ts.same (fun i hi => hb i (Or.inr (Or.inr (Or.inl hi)))), h.cs.same (fun i hi => hb i (Or.inr (Or.inr (Or.inr hi)))), h.ng, h.nt, h.nc, h.gt, h.gc, h.tc⟩

/-- The datagram at j has a byte turned. -/
def spoilS (s : NetSt) (j q : Nat) (y : UInt8) : NetSt := { s with grams := s.grams.set j { getG s.grams j with data := spoilB (getG s.grams j).data q y } }

theorem row_conv (W : World) (x n c : Nat) (l : List UInt8) (hn : l.length = n) (hc : ∀ i, i < n → W.cell? ⟨x, i, none⟩ = some (.int .u8 ((l.getD i 0).toNat : Int))) :
    (convert 72 9 (.slice (some ⟨x, 0, none⟩) n c)).run Try.prog W = .ok (.string ⟨l.toArray⟩) W := by
  have hb := run_convert_bytes_arg (P := Try.prog) W 72 5 Try.underlying72 Try.underlying5 x 0 n c (l.map fun b => (b.toNat : Int)) (by simp [hn]) (fun i hi => by
    rw [Nat.zero_add, hc i hi]
    simp [List.getElem?_eq_getElem (show i < l.length by omega), List.getD]) 9 Try.underlying9
  rw [hb]
  congr 2
  apply ByteArray.ext
  apply Array.toList_inj.1
  rw [strOfNums_data, List.map_map]
  refine (List.map_congr_left (g := id) ?_).trans (List.map_id l)
  intro x _
  simp

section
variable {S : Nat → Prop} {w : World} {b : Nat} {s : NetSt}

set_option maxHeartbeats 1000000 in
set_option maxRecDepth 100000 in
theorem spoil_ok (h : NetAt S w b s) (j : Nat) (hj : j < s.grams.length) (at' : Int) (y : UInt8) (hy : 1 ≤ y.toNat) (hx1 : 0 < (getG s.grams j).data.size) (hx2 : (getG s.grams j).data.size ≤ 1000000) :
    Calls Try.prog 14 #[.pointer (some ⟨b, 0, none⟩), .int .i64 (j : Int), .int .i64 at', .int .i64 (y.toNat : Int)] w fun e' w' => e' = .returned (.int .i64 0) ∧ Next S w w' b (spoilS s j (at' % ((getG s.grams j).data.size : Int)).toNat y) := by
  have Hp := hid (place_good h j hj w (Kept.refl _ w))
  obtain ⟨gv, tm, cm, hN, hS⟩ := h
  rcases hN.own.cases with ⟨_, e⟩ | ⟨g, cap, rfl, _, hr⟩
  · rw [e] at hj
    cases hj
  have h63 : s.grams.length ≤ 9223372036854775807 := Nat.le_trans hr.le hr.le63
  have c0 := hN.c0
  have hgx := getG_at hj
  obtain ⟨_, _, r2, _⟩ := hr.cells4 hgx
  obtain ⟨x, hxe⟩ : ∃ x, x = (getG s.grams j).data := ⟨_, rfl⟩
  rw [← hxe] at r2 hx1 hx2
  obtain ⟨q, hq⟩ : ∃ q : Nat, at' % (x.size : Int) = (q : Int) := ⟨(at' % (x.size : Int)).toNat, by have := Int.emod_nonneg at' (show (x.size : Int) ≠ 0 by omega); omega⟩
  have hql : q < x.size := by have := Int.emod_lt_of_pos at' (show (0 : Int) < (x.size : Int) by omega); omega
  have hcv : (convert 9 72 (.string x)).run Try.prog w = _ := Lib.run_convert_string_bytes w 9 72 5 x Try.underlying9 Try.underlying72 Try.underlying5
  have HK1 : Kept (fun _ => False) w (Lib.bytesWorld w 5 x) := ⟨rfl, rfl, rfl, by rw [Lib.bytesWorld_size]; omega, fun k hk _ => Lib.bytesWorld_at_old w 5 x k hk⟩
  have hD := Lib.bytesWorld_at_new w 5 x
  have hcs : x.size ≤ (Lib.bytesCells w 5 x).size := by unfold Lib.bytesCells; simp
  have hcell := fun i hi => Lib.bytesWorld_cell w 5 x i hi
  have hfz : (Lib.bytesWorld w 5 x).frozen? ⟨w.heap.size, q, none⟩ = false := by
    unfold World.frozen?
    rw [hD]
    simp
    omega
  have hMo := hid (fun W => modulo_any at' (x.size : Int) (by omega) (by omega) W)
  rw [hq] at hMo
  rw [← hxe, hq, Int.toNat_natCast]
  have hgl := hr.lt
  have hbl := hN.lt (Or.inl rfl)
  generalize Lib.bytesWorld w 5 x = W1 at *
  have hcap : x.size ≤ grownCap w x.size 0 5 := grownCap_ge w _ _ _
  generalize grownCap w x.size 0 5 = c1 at *
  have hyl := y.toNat_lt
  have d0 := (HK1.cell (p := ⟨b, 0, none⟩) hbl id).trans c0
  have hr1 : RowG W1 g cap s.grams := hr.same (HK1.block g hgl id)
  have e1 : bits .xor .u8 ((x.data.toList.getD q 0).toNat : Int) (y.toNat : Int) = ((x.data.toList.getD q 0 ^^^ y).toNat : Int) := by
    rw [UInt8.toNat_xor]
    exact u8_xor_nat _ _ (by have := (x.data.toList.getD q 0).toNat_lt; omega) (by omega)
  have hc3 : ∀ W : World, (∀ a : Addr, W.cell? a = (W1.setCell ⟨w.heap.size, q, none⟩ (.int .u8 ((x.data.toList.getD q 0 ^^^ y).toNat : Int))).cell? a) → (convert 72 9 (.slice (some ⟨w.heap.size, 0, none⟩) x.size c1)).run Try.prog W = .ok (.string (spoilB x q y)) W := fun W hW => by
    refine row_conv W w.heap.size x.size c1 (spoilB x q y).data.toList (by rw [← Lib.size_eq, spoilB_size]) (fun i hi => ?_)
    rw [hW, spoilB_cell hql y i hi]
    by_cases hiq : i = q
    · subst hiq
      rw [if_pos rfl]
      exact World.cell?_setCell_same _ _ _ (hcell i hi)
    · rw [if_neg hiq]
      exact (World.cell?_setCell_other _ _ _ _ (by simp)).trans (hcell i hi)
  have hgD : g ≠ w.heap.size := by omega
  have hbD : b ≠ w.heap.size := by omega
  have r2' := (hr1.cells4 hgx).2.2.1
  rw [← hxe] at r2'
  have f2' := hr1.frozenAt (j * 4 + 2)
  have hcq := hcell q hql
  have fin : Hid (Next S w ((W1.setCell ⟨w.heap.size, q, none⟩ (.int .u8 ((x.data.toList.getD q 0 ^^^ y).toNat : Int))).setCell ⟨g, j * 4 + 2, none⟩ (.string (spoilB x q y))).drew b (spoilS s j q y)) := by
    have hk2 : Kept (fun _ => False) w (W1.setCell ⟨w.heap.size, q, none⟩ (.int .u8 ((x.data.toList.getD q 0 ^^^ y).toNat : Int))) := HK1.setCell (Or.inl (Nat.le_refl _)) _
    have hr2 : RowG (W1.setCell ⟨w.heap.size, q, none⟩ (.int .u8 ((x.data.toList.getD q 0 ^^^ y).toNat : Int))) g cap s.grams := hr.same (hk2.block g hgl id)
    have hr3 := hr2.data hgx (spoilB x q y)
    rw [hxe] at hr3 hk2 ⊢
    have hk3 : Kept (fun i => i = g) w _ := ((hk2.mono (T := fun i => i = g) (fun _ _ h => h.elim)).setCell (p := ⟨g, j * 4 + 2, none⟩) (Or.inr rfl) (.string (spoilB (getG s.grams j).data q y))).drew
    have hN3 := hN.rerow0 (l := s.grams.set j { getG s.grams j with data := spoilB (getG s.grams j).data q y }) (hk3.mono (fun i _ e => by rw [e]; rfl)) (by
      have := (hr3.own (base := 0) (Nat.zero_le _)).same (w' := (World.setCell (World.setCell W1 ⟨w.heap.size, q, none⟩ (.int .u8 (((getG s.grams j).data.data.toList.getD q 0 ^^^ y).toNat : Int))) ⟨g, j * 4 + 2, none⟩ (.string (spoilB (getG s.grams j).data q y))).drew) (fun _ _ => rfl)
      rw [List.length_set] at this
      exact this)
    exact ⟨_, ⟨_, _, _, hN3, fun _ => Iff.rfl⟩, fun i hi => Or.inl ((hS i).2 hi), hk3.mono (fun i _ e => (hS i).2 (Or.inr (Or.inl (by rw [e]; rfl))))⟩
  have hjz : (j : Int) < (s.grams.length : Int) := by omega
  have hqz : (q : Int) < (x.size : Int) := by omega
  have hnz : ((x.size : Int) == 0) = false := by rw [beq_eq_false_iff_ne]; omega
  have hy1 : (1 : Int) ≤ (y.toNat : Int) := by omega
  have hy2 : (y.toNat : Int) ≤ 255 := by omega
  clear hr hN hS hr1 hgx hxe hD hcs hcell hq HK1
  generalize spoilS s j q y = sF at *
  generalize spoilB x q y = x' at *
  generalize hag : ((x.data.toList.getD q 0 ^^^ y).toNat : Int) = ag at *
  generalize hab : ((x.data.toList.getD q 0).toNat : Int) = ab at *
  clear hag hab
  generalize x.size = n at *
  go_enter Try.func14, Try.ntmps14
  go_wp2_with fail
  refine (Hp.out).mono ?_
  rintro e' w' ⟨rfl, rfl⟩
  go_wp2_with fail
  refine (hMo.out _).mono ?_
  rintro e' w'' ⟨rfl, rfl⟩
  have hc4 := hc3 (w''.setCell ⟨w'.heap.size, q, none⟩ (.int .u8 ag)).drew (fun _ => rfl)
  clear hc3
  go_wp2
  go_region
  all_goals go_wp2
  all_goals go_ret
  all_goals exact ⟨rfl, fin.out⟩

end
end Go.Proofs.Ytegofkpiipomfaa
