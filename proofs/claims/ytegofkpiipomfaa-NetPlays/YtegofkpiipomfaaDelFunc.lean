/- The contract of slices.DeleteFunc with the closure of Net.loseOld: what is not too old stays, in its order. -/
import Derived.Test.YtegofkpiipomfaaLoseRow
namespace Go.Proofs.Ytegofkpiipomfaa
open Go.RowKit

def z4 : Value := .agg #[.int .i64 0, .int .i64 0, .string ⟨#[]⟩, .int .i64 0]
theorem zeroGram (w : World) : (zeroValue 56).run Try.prog w = .ok z4 w := by kernel_rfl

theorem z4_one (n : Nat) : ∀ v ∈ (Builtin.zeroCells z4.cells n).toList, v.oneCell' = true := by
  intro v hv
  unfold Builtin.zeroCells z4 Value.cells at hv
  simp only [Array.toList_map, List.mem_map] at hv
  obtain ⟨j, _, rfl⟩ := hv
  have hj : j % 4 < 4 := Nat.mod_lt _ (by omega)
  show (#[Value.int .i64 0, .int .i64 0, .string ⟨#[]⟩, .int .i64 0][j % 4]!).oneCell' = true
  match h : j % 4, hj with
  | 0, _ => rfl
  | 1, _ => rfl
  | 2, _ => rfl
  | 3, _ => rfl

theorem z4_len (n : Nat) : (Builtin.zeroCells z4.cells n).toList.length = n * 4 := by
  rw [Array.length_toList, size_zeroCells]
  rfl

/-- 'clear' of the end of a row. -/
theorem run_clear_row {w : World} {g cap : Nat} {l : List Gr} (h : RowG w g cap l) (o n c : Nat) (ty : TypeId) (hn : 0 < n) (hc : o + n ≤ cap) :
    (Builtin.clear_ #[31] ty #[.slice (some ⟨g, o * 4, none⟩) n c]).run Try.prog w = .ok (.tuple #[]) (w.setCells g (o * 4) (Builtin.zeroCells z4.cells n).toList) := by
  have hst := run_storeCells_cells (P := Try.prog) g (o * 4) (Builtin.zeroCells z4.cells n).toList 0 w (fun j hj => by
    rw [z4_len] at hj
    exact h.isCell (by omega)) (fun j _ => h.frozenAt _) (z4_one n)
  simp only [Nat.add_zero] at hst
  obtain ⟨m, rfl⟩ : ∃ m, n = m + 1 := ⟨n - 1, by omega⟩
  have hz := zeroGram w
  generalize z4 = z at *
  simp [Builtin.clear_, run_underlying Try.underlying31, hz, hst]

/-- The loop has come to jj; the first ii are those that stay. -/
structure Kpt (p : Gr → Bool) (l cur : List Gr) (ii jj : Nat) : Prop where
  len : cur.length = l.length
  lt : ii < jj
  le : jj ≤ l.length
  low : cur.take ii = (l.take jj).filter (fun x => !p x)
  high : cur.drop jj = l.drop jj

theorem Kpt.at {p : Gr → Bool} {l cur : List Gr} {ii jj : Nat} (h : Kpt p l cur ii jj) {x : Gr} (hx : l[jj]? = some x) : cur[jj]? = some x := by
  have := congrArg (fun l => l[0]?) h.high
  simp only [List.getElem?_drop, Nat.add_zero] at this
  rw [this, hx]

theorem Kpt.drop {p : Gr → Bool} {l cur : List Gr} {ii jj : Nat} (h : Kpt p l cur ii jj) {x : Gr} (hx : l[jj]? = some x) (hp : p x = true) : Kpt p l cur ii (jj + 1) := by
  have hlt := (List.getElem?_eq_some_iff.1 hx).1
  refine ⟨h.len, by have := h.lt; omega, hlt, ?_, ?_⟩
  · rw [h.low, List.take_add_one, hx]
    simp [hp]
  · have := congrArg (fun l => l.drop 1) h.high
    simpa [List.drop_drop] using this

theorem splice_one {l : List Gr} {i : Nat} (x : Gr) (h : i < l.length) : splice l i [x] = l.set i x := by
  rw [← splice_cons l i x [] h, splice_nil]

theorem Kpt.keep {p : Gr → Bool} {l cur : List Gr} {ii jj : Nat} (h : Kpt p l cur ii jj) {x : Gr} (hx : l[jj]? = some x) (hp : p x = false) : Kpt p l (splice cur ii [x]) (ii + 1) (jj + 1) := by
  have hlt := (List.getElem?_eq_some_iff.1 hx).1
  have h1 := h.lt
  have h2 := h.len
  have hii : ii < cur.length := by omega
  refine ⟨by rw [splice_length _ _ _ (by simp; omega), h.len], by omega, hlt, ?_, ?_⟩
  · rw [splice_one x hii, List.take_add_one, List.getElem?_set_self hii, List.take_set_of_le (Nat.le_refl ii), h.low, List.take_add_one, hx]
    simp [hp]
  · rw [splice_one x hii, List.drop_set_of_lt (by omega)]
    have := congrArg (fun l => l.drop 1) h.high
    simpa [List.drop_drop] using this

theorem Kpt.start {p : Gr → Bool} {l : List Gr} {j : Nat} {x : Gr} (hx : l[j]? = some x) (hp : p x = true) (hA : ∀ y ∈ l.take j, p y = false) : Kpt p l l j (j + 1) := by
  refine ⟨rfl, by omega, (List.getElem?_eq_some_iff.1 hx).1, ?_, rfl⟩
  rw [List.take_add_one, hx, List.filter_append, List.filter_eq_self.2 (fun y hy => by rw [hA y hy]; rfl)]
  simp [hp]

theorem delete_nil (pb sb : Nat) (w : World) : Calls Try.prog 38 #[.slice none 0 0, lostFn pb sb] w fun e w' => e = .returned (.slice none 0 0) ∧ w' = w := by
  have Hi : Hid (Calls Try.prog 43 #[.slice none 0 0, lostFn pb sb] w fun e w' => e = .returned (.int .i64 (-1)) ∧ w' = w) := by
    show Calls _ _ _ _ _
    unfold lostFn
    go_enter Try.func43, Try.ntmps43
    go_wp2
    go_loopw [5, 8] (fun _ s wr => s = .int .i64 0 ∧ wr = w) (fun _ _ _ => 0)
    case atStart => exact ⟨rfl, rfl⟩
    case round =>
      obtain ⟨rfl, rfl⟩ := hrel
      go_wp2
      go_ret
      exact ⟨rfl, rfl⟩
  unfold lostFn at *
  go_enter Try.func38, Try.ntmps38
  go_wp2_with fail
  refine Hi.out.mono ?_
  rintro e w' ⟨rfl, rfl⟩
  go_wp2
  go_ret
  exact ⟨rfl, rfl⟩

set_option maxHeartbeats 1000000 in
set_option maxRecDepth 100000 in
theorem delete_row (g cap pb sb : Nat) (l : List Gr) {k i sent : Int} (hk : In64 k) (hi : In64 i) (hs : Cnt sent) (hl : ∀ x ∈ l, GrOk x) (hp : pb ≠ g) (hsb : sb ≠ g) (w : World) (hr : RowG w g cap l) (hb : Boxes w pb sb k i sent) :
    Calls Try.prog 38 #[.slice (some ⟨g, 0, none⟩) l.length cap, lostFn pb sb] w fun e w' =>
      e = .returned (.slice (some ⟨g, 0, none⟩) (l.filter (fun x => !oldG k i sent x)).length cap) ∧ RowG w' g cap (l.filter (fun x => !oldG k i sent x)) ∧ Kept (fun i => i = g) w w' := by
  have Hi := hid (index_row g cap pb sb l hk hi hs hl w hr hb)
  have Hl : Hid (∀ x ∈ l, GrOk x) := hl
  have Hf : Hid (∀ x, GrOk x → ∀ W, Kept (fun i => i = g) w W → Calls Try.prog 39 #[.agg #[.int .i64 x.src, .int .i64 x.dst, .string x.data, .int .i64 x.turn], .pointer (some ⟨pb, 0, none⟩), .pointer (some ⟨sb, 0, none⟩)] W fun e w' => e = .returned (.bool (oldG k i sent x)) ∧ Kept (fun _ => False) W w') :=
    fun x hx W hW => lose_fn pb sb hk hi hs x hx W (hb.kept hW hp hsb)
  have Hr : Hid (RowG w g cap l) := hr
  have h63 : l.length ≤ 9223372036854775807 := Nat.le_trans hr.le hr.le63
  have hlc := hr.le
  have hg := hr.lt
  clear hl hb hr hk hi hs hp hsb
  unfold lostFn at *
  go_enter Try.func38, Try.ntmps38
  go_wp2_with fail
  refine Hi.out.mono ?_
  rintro e w1 ⟨r, rfl, hF, hk1⟩
  clear Hi
  rcases hF with ⟨rfl, hall⟩ | ⟨j0, x0, rfl, hx0, hp0, hA0⟩
  · have HK := hid hk1
    have Hfil : Hid (l.filter (fun x => !oldG k i sent x) = l) := List.filter_eq_self.2 (fun y hy => by rw [hall y hy]; rfl)
    clear hk1 hall
    go_wp2
    go_ret
    rw [Hfil.out]
    exact ⟨rfl, Hr.out.same (HK.out.block g hg id), HK.out.mono (fun _ _ h => h.elim)⟩
  · have hst : Hid (RowG w1 g cap l ∧ Kept (fun i => i = g) w w1 ∧ Kpt (oldG k i sent) l l j0 (j0 + 1)) := ⟨Hr.out.same (hk1.block g hg id), hk1.mono (fun _ _ h => h.elim), Kpt.start hx0 hp0 hA0⟩
    have hj0 : j0 < l.length := (List.getElem?_eq_some_iff.1 hx0).1
    have hm1 : ((j0 : Int) == -1) = false := beq_eq_false_iff_ne.2 (by omega)
    clear hk1 hx0 hp0 hA0 Hr
    go_wp2
    go_loopw [5, 6, 7] (fun vi vj _ wr => ∃ (ii jj : Nat) (cur : List Gr), vi = .int .i64 (ii : Int) ∧ vj = .int .i64 (jj : Int) ∧ Hid (RowG wr g cap cur ∧ Kept (fun i => i = g) w wr ∧ Kpt (oldG k i sent) l cur ii jj)) (fun _ vj _ _ => l.length - (intOf vj).toNat)
    case atStart => exact ⟨j0, j0 + 1, l, rfl, by go_num, hst.out⟩
    case round =>
      obtain ⟨ii, jj, cur, rfl, rfl, HI⟩ := hrel
      clear hst hm1
      have hij := HI.out.2.2.lt
      have hjl := HI.out.2.2.le
      have hcl := HI.out.2.2.len
      have HG := hid HI.out.1.lt
      by_cases hlt : jj < l.length
      · obtain ⟨x, hx⟩ : ∃ x, l[jj]? = some x := ⟨l[jj], by simp [hlt]⟩
        obtain ⟨y, hy⟩ : ∃ y, cur[ii]? = some y := ⟨cur[ii]'(by omega), by simp⟩
        have hltz : (jj : Int) < (l.length : Int) := by omega
        obtain ⟨x0, x1, x2, x3⟩ := HI.out.1.cells4 (HI.out.2.2.at hx)
        have Hx := hid hx
        have Hy := hid hy
        have Hc := hid (Hf.out x (Hl.out x (List.mem_of_getElem? hx)))
        clear hx hy hcl
        generalize hqq : oldG k i sent x = q at Hc
        have Hq := hid hqq
        clear hqq
        go_wp2_with fail
        refine (Hc.out _ (HI.out.2.1.alloc _)).mono ?_
        rintro e w2 ⟨rfl, hk2⟩
        have hrow2 : RowG w2 g cap cur := HI.out.1.same (((Kept.refl (fun _ => False) wr).alloc _ |>.trans hk2).block g HI.out.1.lt id)
        have HK2 := hid ((HI.out.2.1.alloc _).andThen hk2 (fun _ _ h => h.elim))
        have b0 := (hk2.cell (p := ⟨wr.heap.size, 0, none⟩) (by simp) id).trans (World.cell?_alloc_new _ _ _ _)
        have b1 := (hk2.cell (p := ⟨wr.heap.size, 1, none⟩) (by simp) id).trans (World.cell?_alloc_new _ _ _ _)
        have b2 := (hk2.cell (p := ⟨wr.heap.size, 2, none⟩) (by simp) id).trans (World.cell?_alloc_new _ _ _ _)
        have b3 := (hk2.cell (p := ⟨wr.heap.size, 3, none⟩) (by simp) id).trans (World.cell?_alloc_new _ _ _ _)
        simp only [List.getElem?_toArray] at b0 b1 b2 b3
        have HI2 := hid HI.out.2.2
        clear hk2 x0 x1 x2 x3 Hc HI
        cases q with
        | true =>
          have R := hid (HI2.out.drop Hx.out Hq.out)
          have HR := hid hrow2
          clear hrow2 b0 b1 b2 b3
          go_wp2
          exact ⟨⟨ii, jj + 1, cur, rfl, by go_num, HR.out, HK2.out, R.out⟩, by simp [intOf]; omega⟩
        | false =>
          obtain ⟨y0, y1, y2, y3⟩ := hrow2.cells4 Hy.out
          have f0 := hrow2.frozenAt (ii * 4)
          have f1 := hrow2.frozenAt (ii * 4 + 1)
          have f2 := hrow2.frozenAt (ii * 4 + 2)
          have f3 := hrow2.frozenAt (ii * 4 + 3)
          have R := hid (HI2.out.keep Hx.out Hq.out)
          have hgb : g ≠ wr.heap.size := fun e => by have := HG.out; omega
          have HR : Hid (RowG (w2.setCells g (ii * 4) (grCells x)) g cap (splice cur ii [x])) := by
            have := hrow2.set ii [x] (by have := HI2.out.len; simp; omega)
            rwa [rowCells_one] at this
          have HK3 := hid (HK2.out.grown (grown_setCells (g := g) (grCells x) (ii * 4) w2) (fun j hj => Or.inr (Option.some.inj hj).symm))
          clear hrow2
          have hiz : (ii : Int) < (l.length : Int) := by omega
          go_wp2
          exact ⟨⟨ii + 1, jj + 1, splice cur ii [x], by go_num, by go_num, HR.out, HK3.out, R.out⟩, by simp [intOf]; omega⟩
      · obtain rfl : jj = l.length := by omega
        have hne : ¬ (cap = ii) := by omega
        have hcl := fun ty => run_clear_row HI.out.1 ii (l.length - ii) (cap - ii) ty (by omega) (by omega)
        have hlow := HI.out.2.2.low
        rw [List.take_of_length_le (Nat.le_refl _)] at hlow
        have hlen : Hid ((l.filter (fun x => !oldG k i sent x)).length = ii) := by
          show _ = _
          rw [← hlow, List.length_take]
          omega
        have HR : Hid (RowG (wr.setCells g (ii * 4) (Builtin.zeroCells z4.cells (l.length - ii)).toList) g cap (l.filter (fun x => !oldG k i sent x))) := by
          have h1 := HI.out.1.ahead ii
          rw [hlow] at h1
          exact h1.behind _ _ (by rw [hlen.out]; exact Nat.le_refl _) (by rw [z4_len]; omega)
        have HK3 := hid (HI.out.2.1.grown (grown_setCells (g := g) (Builtin.zeroCells z4.cells (l.length - ii)).toList (ii * 4) wr) (fun j hj => Or.inr (Option.some.inj hj).symm))
        have hiz : (ii : Int) ≤ (l.length : Int) := by omega
        clear hlow HI
        generalize wr.setCells g (ii * 4) (Builtin.zeroCells z4.cells (l.length - ii)).toList = wz at *
        go_wp2
        go_ret
        rw [hlen.out]
        exact ⟨rfl, HR.out, HK3.out⟩

end Go.Proofs.Ytegofkpiipomfaa
