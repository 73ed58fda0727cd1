/- The document's own client (tollgateref13.Pap) in memory, and the contracts of its calls; its Serve and Answer. -/
import Derived.Test.YtifkiiplknkgnaaGreatPaRef
import Derived.Test.YtifkiiplknkgnaaGreatPaAnswer
namespace Go.Proofs.YtifkiiplknkgnaaGreat
open Go.RowKit

/-- The document's client as plain data. -/
structure Rp where
  name : ByteArray
  secret : ByteArray
  retry : Int
  wait : Int
  id : Int
  ticks : Int
  tries : Int
  asks : Bool
  done : Bool
  good : Bool
/-- The one that goes with a client of the program. -/
def rpOf (n s : ByteArray) (c : Pc) : Rp := ⟨n, s, c.retry, c.wait, c.id, c.ticks, c.again, c.st == 1, doneC c, c.st == 2⟩
def rpCells (r : Rp) : Array Value := #[.string r.name, .string r.secret, .int .i64 r.retry, .int .i64 r.wait, .int .i64 r.id, .int .i64 r.ticks, .int .i64 r.tries, .bool r.asks, .bool r.done, .bool r.good]
def RpIn (w : World) (b : Nat) (r : Rp) : Prop := w.heap[b]? = some (.cells (rpCells r) 68 (0, 0))
section
variable {w w' : World} {b : Nat} {r : Rp}
theorem RpIn.cell (h : RpIn w b r) (i : Nat) : w.cell? ⟨b, i, none⟩ = (rpCells r)[i]? := by
  unfold RpIn at h
  simp [World.cell?, h]
theorem RpIn.c0 (h : RpIn w b r) : w.cell? ⟨b, 0, none⟩ = some (.string r.name) := h.cell 0
theorem RpIn.c1 (h : RpIn w b r) : w.cell? ⟨b, 1, none⟩ = some (.string r.secret) := h.cell 1
theorem RpIn.c2 (h : RpIn w b r) : w.cell? ⟨b, 2, none⟩ = some (.int .i64 r.retry) := h.cell 2
theorem RpIn.c3 (h : RpIn w b r) : w.cell? ⟨b, 3, none⟩ = some (.int .i64 r.wait) := h.cell 3
theorem RpIn.c4 (h : RpIn w b r) : w.cell? ⟨b, 4, none⟩ = some (.int .i64 r.id) := h.cell 4
theorem RpIn.c5 (h : RpIn w b r) : w.cell? ⟨b, 5, none⟩ = some (.int .i64 r.ticks) := h.cell 5
theorem RpIn.c6 (h : RpIn w b r) : w.cell? ⟨b, 6, none⟩ = some (.int .i64 r.tries) := h.cell 6
theorem RpIn.c7 (h : RpIn w b r) : w.cell? ⟨b, 7, none⟩ = some (.bool r.asks) := h.cell 7
theorem RpIn.c8 (h : RpIn w b r) : w.cell? ⟨b, 8, none⟩ = some (.bool r.done) := h.cell 8
theorem RpIn.c9 (h : RpIn w b r) : w.cell? ⟨b, 9, none⟩ = some (.bool r.good) := h.cell 9
theorem RpIn.fz (h : RpIn w b r) (i : Nat) : w.frozen? ⟨b, i, none⟩ = false := by
  unfold RpIn at h
  simp [World.frozen?, h]
theorem RpIn.lt (h : RpIn w b r) : b < w.heap.size := (Array.getElem?_eq_some_iff.1 h).1
theorem RpIn.kept {S : Nat → Prop} (h : RpIn w b r) (hk : Kept S w w') (hS : ¬ S b) : RpIn w' b r := (hk.block b h.lt hS).trans h
theorem RpIn.kept0 (h : RpIn w b r) (hk : Kept (fun _ => False) w w') : RpIn w' b r := h.kept hk id
theorem RpIn.drew (h : RpIn w b r) : RpIn w.drew b r := h
theorem RpIn.set4 (h : RpIn w b r) (x : Int) : RpIn (w.setCell ⟨b, 4, none⟩ (.int .i64 x)) b { r with id := x } := Joins.block_setCell h (i := 4) (.int .i64 x)
theorem RpIn.set5 (h : RpIn w b r) (x : Int) : RpIn (w.setCell ⟨b, 5, none⟩ (.int .i64 x)) b { r with ticks := x } := Joins.block_setCell h (i := 5) (.int .i64 x)
theorem RpIn.set6 (h : RpIn w b r) (x : Int) : RpIn (w.setCell ⟨b, 6, none⟩ (.int .i64 x)) b { r with tries := x } := Joins.block_setCell h (i := 6) (.int .i64 x)
theorem RpIn.set7 (h : RpIn w b r) (x : Bool) : RpIn (w.setCell ⟨b, 7, none⟩ (.bool x)) b { r with asks := x } := Joins.block_setCell h (i := 7) (.bool x)
theorem RpIn.set8 (h : RpIn w b r) (x : Bool) : RpIn (w.setCell ⟨b, 8, none⟩ (.bool x)) b { r with done := x } := Joins.block_setCell h (i := 8) (.bool x)
theorem RpIn.set9 (h : RpIn w b r) (x : Bool) : RpIn (w.setCell ⟨b, 9, none⟩ (.bool x)) b { r with good := x } := Joins.block_setCell h (i := 9) (.bool x)
/-- A row of packets is no client. -/
theorem RpIn.ne {base i : Nat} {v : Value} {l : List Pq} (h : RpIn w b r) (ho : OwnQ w base v l) (hi : v.ownBlock = some i) : i ≠ b := fun e => by
  subst e
  obtain ⟨⟨cur, h1⟩, _⟩ := ho.block hi
  unfold RpIn at h
  rw [h] at h1
  simp at h1
end

set_option maxHeartbeats 1000000 in
set_option maxRecDepth 100000 in
theorem rAsk_any (b : Nat) (r : Rp) (w : World) (hi : 0 ≤ r.id ∧ r.id ≤ 255) (hn : r.name.size ≤ 60) (hs : r.secret.size ≤ 60) (h : RpIn w b r) : Calls Tryz.prog 25 #[.pointer (some ⟨b, 0, none⟩)] w fun e w' => ∃ v, e = .returned v ∧ RpIn w' b { r with id := (r.id + 1) % 256, ticks := 0 } ∧ OwnQ w' w.heap.size v [⟨1, (r.id + 1) % 256, layF r.name ++ layF r.secret⟩] ∧ Kept (fun i => i = b) w w' := by
  have c4 := h.c4
  have f4 := h.fz 4
  have h1 := h.set4 ((r.id + 1) % 256)
  have f5 := h1.fz 5
  have d5 := h1.c5
  have h2 := h1.set5 0
  have K2 := hid (((Kept.refl (fun i => i = b) w).own 4 (.int .i64 ((r.id + 1) % 256))).own 5 (.int .i64 0))
  have H2 := hid h2
  have hw1 : IntKind.i64.wrap (r.id + 1) = r.id + 1 := by rw [IntKind.wrap_i64]; omega
  have hw2 : (r.id + 1).tmod 256 = (r.id + 1) % 256 := Int.tmod_eq_emod_of_nonneg (by omega)
  have HP := hid (rPutReq_any r.name r.secret (by omega) (by omega))
  have e : putReqF r.name r.secret = (layF r.name ++ layF r.secret, 0) := by
    unfold putReqF
    rw [if_neg (by simp [longB]; omega)]
  rw [e] at HP
  simp only at HP
  generalize hX : (r.id + 1) % 256 = X at *
  generalize layF r.name ++ layF r.secret = D at *
  clear h h1 h2 e hi
  go_enter Tryz.func25, Tryz.ntmps25
  go_upto_region 3 with fail
  generalize hW : (w.setCell ⟨b, 4, none⟩ (.int .i64 X)).setCell ⟨b, 5, none⟩ (.int .i64 0) = W at *
  clear hW f4 f5 d5 c4 hw1 hw2 hX
  have c4 := H2.out.c4
  have c0 := H2.out.c0
  have c1 := H2.out.c1
  simp only at c4 c0 c1
  have D1 := (Kept.refl (fun _ => False) W).drew
  go_wp2_with fail
  go_region_with (go_at_call 107; refine (HP.out _).mono ?_; rintro e w5 ⟨rfl, hk5⟩; have d4 := (H2.out.kept0 (D1.trans hk5)).c4; simp only at d4; have HK := hid (D1.trans hk5); clear hk5)
  all_goals
    go_wp2
    go_ret
    refine ⟨_, rfl, H2.out.kept0 (HK.out.alloc _), ?_, (K2.out.trans HK.out.ofNone).alloc _⟩
    have hsz := K2.out.size
    have hsz2 := HK.out.size
    exact (OwnQ.new w5 ⟨1, X, D⟩).mono (by omega)

set_option maxHeartbeats 1000000 in
set_option maxRecDepth 100000 in
theorem rStart_any (b : Nat) (n s : ByteArray) (hn : n.size ≤ 60) (hs : s.size ≤ 60) (c : Pc) (hd : c.data = layF n ++ layF s) (hg : GoodC c) (w : World) (h : RpIn w b (rpOf n s c)) : Calls Tryz.prog 9 #[.pointer (some ⟨b, 0, none⟩)] w fun e w' => ∃ v, e = .returned v ∧ RpIn w' b (rpOf n s (startC c).2) ∧ OwnQ w' w.heap.size v (startC c).1 ∧ Kept (fun i => i = b) w w' := by
  have c7 := h.c7
  have f7 := h.fz 7
  have h1 := h.set7 true
  have c8 := h1.c8
  have f8 := h1.fz 8
  have h2 := h1.set8 false
  have c9 := h2.c9
  have f9 := h2.fz 9
  have h3 := h2.set9 false
  have c6 := h3.c6
  have f6 := h3.fz 6
  have h4 := h3.set6 0
  have K4 := hid (((((Kept.refl (fun i => i = b) w).own 7 (.bool true)).own 8 (.bool false)).own 9 (.bool false)).own 6 (.int .i64 0))
  have HA := hid (rAsk_any b _ _ hg.id hn hs h4)
  have hS : (startC c).1 = [⟨1, (c.id + 1) % 256, layF n ++ layF s⟩] := by rw [← hd]; rfl
  have hR : rpOf n s (startC c).2 = ⟨n, s, c.retry, c.wait, (c.id + 1) % 256, 0, 0, true, false, false⟩ := rfl
  rw [hS, hR]
  simp only [rpOf] at HA c7 c8 c9 c6
  clear h h1 h2 h3 h4 hg hS hR
  go_enter Tryz.func9, Tryz.ntmps9
  go_wp2_with fail
  refine HA.out.mono ?_
  rintro e w' ⟨v, rfl, hc, ho, hk⟩
  have HC := hid hc
  have HO := hid ho
  have HK := hid (K4.out.trans hk)
  have hs := K4.out.size
  clear hc ho hk HA
  go_wp2
  go_ret
  exact ⟨v, rfl, HC.out, HO.out.mono hs, HK.out⟩

set_option maxHeartbeats 2000000 in
set_option maxRecDepth 100000 in
theorem rTick_any (b : Nat) (n s : ByteArray) (hn : n.size ≤ 60) (hs : s.size ≤ 60) (c : Pc) (hd : c.data = layF n ++ layF s) (hg : GoodC c) (w : World) (h : RpIn w b (rpOf n s c)) : Calls Tryz.prog 11 #[.pointer (some ⟨b, 0, none⟩)] w fun e w' => ∃ v, e = .returned v ∧ RpIn w' b (rpOf n s (tickC c).2) ∧ OwnQ w' w.heap.size v (tickC c).1 ∧ Kept (fun i => i = b) w w' := by
  unfold tickC
  have c7 := h.c7
  simp only [rpOf] at c7
  by_cases hst : c.st = 1
  · rw [if_pos hst]
    rw [show (c.st == 1) = true by simp [hst]] at c7
    have c5 := h.c5
    have f5 := h.fz 5
    simp only [rpOf] at c5
    have h1 := h.set5 (c.ticks + 1)
    have H1 := hid h1
    have hw5 : IntKind.i64.wrap (c.ticks + 1) = c.ticks + 1 := by have := hg.ticks; have := hg.wait; rw [IntKind.wrap_i64]; omega
    have hw6 : IntKind.i64.wrap (c.again + 1) = c.again + 1 := by have := hg.again; have := hg.retry; rw [IntKind.wrap_i64]; omega
    have K1 := hid ((Kept.refl (fun i => i = b) w).own 5 (.int .i64 (c.ticks + 1)))
    have G := hid hg
    have Hst := hid hst
    clear h h1 hg hst
    by_cases h1 : c.ticks + 1 < c.wait
    · rw [if_pos h1]
      go_enter Tryz.func11, Tryz.ntmps11
      go_upto_region 4 with fail
      generalize hW : w.setCell ⟨b, 5, none⟩ (.int .i64 (c.ticks + 1)) = W at *
      have d5 := H1.out.c5
      have d3 := H1.out.c3
      simp only [rpOf] at d5 d3
      go_region
      all_goals
        go_wp2
        go_ret
        exact ⟨_, rfl, H1.out.drew, OwnQ.nil _ _, K1.out.drew⟩
    · rw [if_neg h1]
      by_cases h2 : c.again = c.retry
      · rw [if_pos h2]
        have hd : c.retry ≤ c.again := by omega
        have HR : Hid (rpOf n s { c with ticks := c.ticks + 1, st := 3 } = { { { rpOf n s c with ticks := c.ticks + 1 } with asks := false } with done := true }) := by
          show _ = _
          simp only [rpOf, doneC, Hst.out]
          rfl
        clear h2
        go_enter Tryz.func11, Tryz.ntmps11
        go_upto_region 4 with fail
        generalize hW : w.setCell ⟨b, 5, none⟩ (.int .i64 (c.ticks + 1)) = W at *
        have d5 := H1.out.c5
        have d3 := H1.out.c3
        have d6 := H1.out.c6
        have d2 := H1.out.c2
        have d7 := H1.out.c7
        have f7 := H1.out.fz 7
        have H2 := hid (H1.out.set7 false)
        have d8 := H2.out.c8
        have f8 := H2.out.fz 8
        have K3 := hid ((K1.out.own 7 (.bool false)).own 8 (.bool true))
        have H3 := hid (H2.out.set8 true)
        simp only [rpOf] at d5 d3 d6 d2 d7 d8
        go_region
        all_goals
          go_wp2
          go_region
          all_goals
            go_wp2
            go_ret
            exact ⟨_, rfl, by rw [HR.out]; exact H3.out, OwnQ.nil _ _, K3.out.drew.drew⟩
      · rw [if_neg h2]
        have hdr : ¬ c.retry ≤ c.again := by have := G.out.again; omega
        have hS : sentC c = [⟨1, (c.id + 1) % 256, layF n ++ layF s⟩] := by rw [← hd]; rfl
        have HR : Hid (rpOf n s (askC { c with ticks := c.ticks + 1, again := c.again + 1 }) = { { { rpOf n s c with ticks := c.ticks + 1 } with tries := c.again + 1 } with id := (c.id + 1) % 256, ticks := 0 }) := rfl
        rw [hS]
        clear h2 hS
        go_enter Tryz.func11, Tryz.ntmps11
        go_upto_region 4 with fail
        generalize hW : w.setCell ⟨b, 5, none⟩ (.int .i64 (c.ticks + 1)) = W at *
        have d5 := H1.out.c5
        have d3 := H1.out.c3
        have d6 := H1.out.c6
        have d2 := H1.out.c2
        have f6 := H1.out.fz 6
        have H2 := hid ((H1.out.drew.drew).set6 (c.again + 1))
        have K2 := hid (K1.out.drew.drew.own 6 (.int .i64 (c.again + 1)))
        have HK := hid (rAsk_any b _ _ G.out.id hn hs H2.out)
        simp only [rpOf] at d5 d3 d6 d2 HK
        go_region
        all_goals
          go_wp2
          go_region
          all_goals
            go_wp2_with fail
            refine HK.out.mono ?_
            rintro e w' ⟨v, rfl, hc, ho, hk⟩
            have HC := hid hc
            have HO := hid ho
            have HK' := hid (K2.out.trans hk)
            have hs := K2.out.size
            clear hc ho hk
            go_wp2
            go_ret
            exact ⟨v, rfl, HC.out, HO.out.mono hs, HK'.out⟩
  · rw [if_neg hst]
    rw [show (c.st == 1) = false by simpa using hst] at c7
    have H := hid h
    clear h hg hst
    go_enter Tryz.func11, Tryz.ntmps11
    go_wp2
    go_ret
    exact ⟨_, rfl, H.out, OwnQ.nil _ _, Kept.refl _ _⟩
end Go.Proofs.YtifkiiplknkgnaaGreat
