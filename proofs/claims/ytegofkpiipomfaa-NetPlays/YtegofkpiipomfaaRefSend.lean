/- The contract of the document's Send of what fits. -/
import Derived.Test.YtegofkpiipomfaaRefSendEnd
import Derived.Deep.QuietTactic
import Derived.BigQuiet
namespace Go.Proofs.Ytegofkpiipomfaa
open Go.RowKit

def shutR (y : Wy) (k i : Int) (l : List Gr) : Bool := y.cut || decide (600 ≤ (restG k i (y.sent + 1) l).length)
def sendG (y : Wy) (k i : Int) (x : ByteArray) (l : List Gr) : List Gr := if shutR y k i l then restG k i (y.sent + 1) l else restG k i (y.sent + 1) l ++ [⟨k, i, x, y.sent + 1⟩]
def sendY (y : Wy) (k i : Int) (l : List Gr) : Wy := { y with sent := y.sent + 1, lost := y.lost + goneN k i (y.sent + 1) l + (if shutR y k i l then 1 else 0) }

section
variable {T : Nat → Prop} {w : World} {r : Nat} {s : RefSt}

set_option maxHeartbeats 4000000 in
set_option maxRecDepth 100000 in
theorem refSend_ok (h : RefAt T w r s) (hU : WU s.ways) (k i : Int) (x : ByteArray) (hx : x.size ≤ 1514) (hgr : ∀ g ∈ s.grams, GrOk g) (hroom : s.grams.length ≤ 1000) (hways : s.ways.length < 1000000)
    (hs0 : 0 ≤ (wyOf s.ways k i).sent) (hs1 : (wyOf s.ways k i).sent ≤ 1000000000) (hl0 : 0 ≤ (wyOf s.ways k i).lost) (hl1 : (wyOf s.ways k i).lost ≤ 1000000000) :
    Calls Try.prog 7 #[.pointer (some ⟨r, 0, none⟩), .agg #[.int .i64 k, .int .i64 i, .string x]] w fun e w' => e = .returned (.int .i64 0) ∧ ∃ ways', RNext T w w' r ⟨sendG (wyOf s.ways k i) k i x s.grams, ways'⟩ ∧ Put s.ways ways' k i (sendY (wyOf s.ways k i) k i s.grams) := by
  have Hw := hid (fun o => way_any (h.alloc o) k i hways)
  have HU := hid hU
  have HG := hid hgr
  have HTlt : Hid (∀ q, T q → q < w.heap.size) := fun q hq => h.lt hq
  have hxz : ¬ (1514 : Int) < (x.size : Int) := by omega
  have HB : Hid (∀ o, (w.alloc o).heap[w.heap.size]? = some o) := fun o => heap_alloc_new w o
  clear h hU hgr
  generalize hy0 : wyOf s.ways k i = y0 at *
  have Hy0 := hid hy0
  clear hy0
  have hws : IntKind.i64.wrap (y0.sent + 1) = y0.sent + 1 := by rw [IntKind.wrap_i64]; omega
  go_enter Try.func7, Try.ntmps7
  go_wp2_with fail
  refine (Hw.out _).mono ?_
  rintro e w2 ⟨j, rfl, ⟨T', ⟨lv, wv, hN, hT⟩, hTT, hK⟩, hj⟩
  rw [Hy0.out] at hj
  try simp only at hj
  obtain ⟨g, c, rfl, hle, h63, hW⟩ := ways_some hN hj
  try simp only at hle hW hN
  obtain ⟨p, cp, rfl⟩ := slice_of_ref hN
  try simp only at hN
  obtain ⟨_, _, a2, _, _⟩ := hW.cells5 hj
  have f2 := hW.frozenAt (j * 5 + 2)
  have c1 := hN.c1
  have hjl := (List.getElem?_eq_some_iff.1 hj).1
  have hjz : (j : Int) < ((wayS s.ways k i).length : Int) := by omega
  have hKw : Kept T w w2 := ((Kept.refl T w).alloc _).andThen hK (fun _ _ t => t)
  have hT1 : ∀ q, ofRef r (.slice p s.grams.length cp) (.slice (some ⟨g, 0, none⟩) (wayS s.ways k i).length c) q → T q ∨ w.heap.size < q := fun q hq => (hTT q ((hT q).2 hq)).imp id (fun h => by simp at h; omega)
  have hdT : ∀ q, ofRef r (.slice p s.grams.length cp) (.slice (some ⟨g, 0, none⟩) (wayS s.ways k i).length c) q → w.heap.size ≠ q := fun q hq e => by
    rcases hT1 q hq with h | h
    · have := HTlt.out q h
      omega
    · omega
  have hdb : w2.heap[w.heap.size]? = _ := (hK.block w.heap.size (by simp) (fun t => by have := HTlt.out _ t; omega)).trans (HB.out _)
  obtain ⟨W0, hW0⟩ : ∃ W0, W0 = w2.setCell ⟨g, j * 5 + 2, none⟩ (.int .i64 (y0.sent + 1)) := ⟨_, rfl⟩
  have hdb0 : W0.heap[w.heap.size]? = some (.cells #[.int .i64 k, .int .i64 i, .string x] 39) := by rw [hW0]; exact (Below.heap_setCell w2 _ _ _ (hdT g (Or.inr (Or.inr rfl)))).trans hdb
  have hKW0 : Kept T w W0 := by
    rw [hW0]
    refine hKw.setCell ?_ _
    rcases hT1 g (Or.inr (Or.inr rfl)) with h | h
    · exact Or.inr h
    · exact Or.inl (by show w.heap.size ≤ g; omega)
  have hR0 := RefIn.setWay (s := ⟨s.grams, wayS s.ways k i⟩) (q := 2) (y := y0) (u := .int .i64 (y0.sent + 1)) (y' := { y0 with sent := y0.sent + 1 }) hN hj (by decide) rfl
  rw [← hW0] at hR0
  obtain ⟨y1, hy1⟩ : ∃ y1, y1 = ({ y0 with sent := y0.sent + 1 } : Wy) := ⟨_, rfl⟩
  obtain ⟨s0, hs00⟩ : ∃ s0, s0 = (⟨s.grams, (wayS s.ways k i).set j y1⟩ : RefSt) := ⟨_, rfl⟩
  have hlenw : s0.ways.length = (wayS s.ways k i).length := by rw [hs00]; exact List.length_set
  have hleng : s0.grams = s.grams := by rw [hs00]
  have hSP : SP W0 r p cp g c s0 j y1 w.heap.size k i x := by
    refine ⟨?_, ?_, ?_, ?_, ?_, hdT g (Or.inr (Or.inr rfl)), hdT r (Or.inl rfl)⟩
    · rw [hlenw, hleng, hs00, hy1]
      exact hR0
    · rw [hs00]
      exact List.getElem?_set_self hjl
    · simp only [World.cell?, hdb0]; rfl
    · simp only [World.cell?, hdb0]; rfl
    · simp only [World.cell?, hdb0]; rfl
  have hy1s : y1.sent = y0.sent + 1 := by rw [hy1]
  have hy1l : y1.lost = y0.lost := by rw [hy1]
  have hy1c : y1.cut = y0.cut := by rw [hy1]
  have hs0' : 0 ≤ y1.sent := by omega
  have hs1' : y1.sent ≤ 1000000001 := by omega
  have hl0' : 0 ≤ y1.lost := by omega
  have hl1' : y1.lost ≤ 1000000000 := by omega
  have Hys := hid hy1s
  have Hyl := hid hy1l
  have Hyc := hid hy1c
  have HW0 := hid hW0
  have HSP := hid hSP
  have Hst := hid hSP.start
  have Hlv : Hid (∀ q, (Value.slice p s0.grams.length cp).ownBlock = some q → q < W0.heap.size) := fun q hq => hSP.ref.lt (Or.inr (Or.inl hq))
  have Hr0 : Hid (r < W0.heap.size) := hSP.ref.lt (Or.inl rfl)
  have Hput : Hid (∀ y', isWy k i y' = true → Put s.ways ((wayS s.ways k i).set j y') k i y') := fun y' hy' => way_put HU.out (by rw [Hy0.out]; exact hj) hy'
  have Hisy : Hid (isWy k i y0 = true) := by
    show isWy k i y0 = true
    rw [← Hy0.out]
    exact wyOf_is s.ways k i
  have HT1 := hid hT1
  have HKW0 := hid hKW0
  have Hy1 := hid hy1
  have Hs00 := hid hs00
  have Hlenw := hid hlenw
  have Hleng := hid hleng
  have hwn : (wayS s.ways k i).length = s0.ways.length := hlenw.symm
  have hgn : s.grams.length = s0.grams.length := by rw [hleng]
  have hgz : s0.grams.length ≤ 1000 := by omega
  rw [hwn] at c1 hle hjz
  have HG0 : Hid (∀ g ∈ s0.grams, GrOk g) := by
    show ∀ g ∈ s0.grams, GrOk g
    rw [hleng]
    exact HG.out
  clear hN hT hTT hK hW hj hjl hKw hT1 hdT hdb hW0 hdb0 hKW0 hR0 hSP hs00 hlenw hleng HU Hw hwn hgn HB HG hy1 hroom hy1s hy1l hy1c
  go_wp2
  rw [← HW0.out]
  clear c1 a2 f2 hws hs0 hs1 hl0 hl1
  go_loopw [6, 7] (fun v6 v7 wr => ∃ t : Nat, t ≤ s0.grams.length ∧ v7 = .int .i64 (t : Int) ∧ Hid (LS W0 wr r (.slice p s0.grams.length cp) g c s0 j y1 (y1.lost + goneN k i y1.sent (s0.grams.take t)) v6 (restG k i y1.sent (s0.grams.take t)))) (fun _ v7 _ => s0.grams.length - (intOf v7).toNat)
  case atStart =>
    refine ⟨0, Nat.zero_le _, rfl, ?_⟩
    have h := Hst.out
    show LS _ _ _ _ _ _ _ _ _ _ _ _
    simpa [goneN, restG] using h
  case round =>
    obtain ⟨t, ht, rfl, HL⟩ := hrel
    have A := HL.out.at HSP.out
    obtain ⟨c0, c1, a2, a3, a4, f3, f0, d0, d1, d2, _, _⟩ := A
    have hgl := gone_le k i y1.sent s0.grams t
    by_cases htl : t < s0.grams.length
    · have htz : (t : Int) < (s0.grams.length : Int) := by omega
      obtain ⟨gr, hg⟩ : ∃ gr, s0.grams[t]? = some gr := ⟨s0.grams[t], by simp [htl]⟩
      have hok := HG0.out gr (List.mem_of_getElem? hg)
      obtain ⟨gb, rfl, hlec, b0, b1, b2, b3⟩ := HL.out.gram hg
      have Hold : Hid (oldG k i y1.sent gr = true → LS W0 wr r (.slice (some ⟨gb, 0, none⟩) s0.grams.length cp) g c s0 j y1 (y1.lost + goneN k i y1.sent (s0.grams.take t)) u6 (restG k i y1.sent (s0.grams.take (t + 1))) ∧ y1.lost + goneN k i y1.sent (s0.grams.take t) + 1 = y1.lost + goneN k i y1.sent (s0.grams.take (t + 1))) := fun ho => by
        obtain ⟨e1, e2⟩ := rest_old hg ho
        rw [e1, e2]
        exact ⟨HL.out, by omega⟩
      have Hnew : Hid (oldG k i y1.sent gr = false → restG k i y1.sent (s0.grams.take (t + 1)) = restG k i y1.sent (s0.grams.take t) ++ [gr] ∧ goneN k i y1.sent (s0.grams.take (t + 1)) = goneN k i y1.sent (s0.grams.take t)) := fun ho => rest_new hg ho
      have hturn := hok.turn
      have hwt : IntKind.i64.wrap (y1.sent - gr.turn) = y1.sent - gr.turn := by
        rw [IntKind.wrap_i64]
        have h1 := hturn.1
        have h2 := hturn.2
        omega
      have hwl : IntKind.i64.wrap (y1.lost + goneN k i y1.sent (s0.grams.take t) + 1) = y1.lost + goneN k i y1.sent (s0.grams.take t) + 1 := by rw [IntKind.wrap_i64]; omega
      clear hg hok hturn
      by_cases e1 : gr.src = k
      · have e1b : ((gr.src : Int) == k) = true := by simpa using e1
        have e1d : decide ((gr.src : Int) = k) = true := by simpa using e1
        by_cases e2 : gr.dst = i
        · have e2b : ((gr.dst : Int) == i) = true := by simpa using e2
          have e2d : decide ((gr.dst : Int) = i) = true := by simpa using e2
          by_cases e3 : 20000 ≤ y1.sent - gr.turn
          · have e3d : decide (20000 ≤ y1.sent - gr.turn) = true := by simpa using e3
            have HO := hid (Hold.out (by unfold oldG; simp [e1, e2, e3]))
            clear Hold Hnew e1 e2 e3
            go_wp2
            go_quiet (fail)
            go_wp2
            refine ⟨⟨t + 1, htl, by go_num, ?_⟩, by simp [intOf]; omega⟩
            show LS _ _ _ _ _ _ _ _ _ _ _ _
            rw [← HO.out.2]
            exact LS.lose (HO.out.1.drewN _) HSP.out.hj
          · have e3d : decide (20000 ≤ y1.sent - gr.turn) = false := by simpa using e3
            have HN := Hnew.out (by unfold oldG; simp [e3])
            clear e1 e2 e3
            have HN1 := hid HN.1
            have HN2 := hid HN.2
            clear HN Hold Hnew
            have hrl := rest_len k i y1.sent s0.grams t
            obtain ⟨i0, hi0, hz0, hz1, hz2⟩ := info_parts infoRef
            go_wp2
            go_quiet (fail)
            go_wp2_with (at_builtin; refine wpList_append_lies _ rfl _ _ 27 rfl W0.heap.size 67 i0 _ 4 40 Try.underlying27 hi0 hz0 hz1 hz2 rfl (by decide) _ (restG k i y1.sent (s0.grams.take t)).length (rowCells (restG k i y1.sent (s0.grams.take t))) rfl (World.ownsRow.alloc (HL.out.drewN _).own _) ⟨wr.heap.size, 0, none⟩ 1 1 [.int .i64 gr.src, .int .i64 gr.dst, .string gr.data, .int .i64 gr.turn] rfl rfl (World.news_of_block (heap_alloc_new (wr.drewN _) _)) (by intro u hu; simp at hu; rcases hu with rfl | rfl | rfl | rfl <;> rfl) (by decide) (by unfold maxLen; omega) (by omega) (HL.out.kept.alloc _).size _ rfl ?_; intro g' cap' w6 hown hgrow hat hlt'; have HL3 := hid ((HL.out.drewN _).more Hlv.out Hr0.out hgrow (lf' := .slice (some ⟨g', 0, none⟩) ((restG k i y1.sent (s0.grams.take t)).length + 1) cap') (L' := restG k i y1.sent (s0.grams.take t) ++ [gr]) (by unfold OwnR; rw [rowCells_append, List.length_append]; exact hown)); clear hgrow hown hat hlt')
            refine ⟨⟨t + 1, htl, by go_num, ?_⟩, by simp [intOf]; omega⟩
            show LS _ _ _ _ _ _ _ _ _ _ _ _
            rw [HN1.out, HN2.out]
            exact HL3.out

        · have e2b : ((gr.dst : Int) == i) = false := by simpa using e2
          have e2d : decide ((gr.dst : Int) = i) = false := by simpa using e2
          have HN := Hnew.out (by unfold oldG; simp [e2])
          clear e1 e2
          have HN1 := hid HN.1
          have HN2 := hid HN.2
          clear HN Hold Hnew
          have hrl := rest_len k i y1.sent s0.grams t
          obtain ⟨i0, hi0, hz0, hz1, hz2⟩ := info_parts infoRef
          go_wp2
          go_quiet (fail)
          go_wp2_with (at_builtin; refine wpList_append_lies _ rfl _ _ 27 rfl W0.heap.size 67 i0 _ 4 40 Try.underlying27 hi0 hz0 hz1 hz2 rfl (by decide) _ (restG k i y1.sent (s0.grams.take t)).length (rowCells (restG k i y1.sent (s0.grams.take t))) rfl (World.ownsRow.alloc (HL.out.drewN _).own _) ⟨wr.heap.size, 0, none⟩ 1 1 [.int .i64 gr.src, .int .i64 gr.dst, .string gr.data, .int .i64 gr.turn] rfl rfl (World.news_of_block (heap_alloc_new (wr.drewN _) _)) (by intro u hu; simp at hu; rcases hu with rfl | rfl | rfl | rfl <;> rfl) (by decide) (by unfold maxLen; omega) (by omega) (HL.out.kept.alloc _).size _ rfl ?_; intro g' cap' w6 hown hgrow hat hlt'; have HL3 := hid ((HL.out.drewN _).more Hlv.out Hr0.out hgrow (lf' := .slice (some ⟨g', 0, none⟩) ((restG k i y1.sent (s0.grams.take t)).length + 1) cap') (L' := restG k i y1.sent (s0.grams.take t) ++ [gr]) (by unfold OwnR; rw [rowCells_append, List.length_append]; exact hown)); clear hgrow hown hat hlt')
          refine ⟨⟨t + 1, htl, by go_num, ?_⟩, by simp [intOf]; omega⟩
          show LS _ _ _ _ _ _ _ _ _ _ _ _
          rw [HN1.out, HN2.out]
          exact HL3.out

      · have e1b : ((gr.src : Int) == k) = false := by simpa using e1
        have e1d : decide ((gr.src : Int) = k) = false := by simpa using e1
        have HN := Hnew.out (by unfold oldG; simp [e1])
        clear e1
        have HN1 := hid HN.1
        have HN2 := hid HN.2
        clear HN Hold Hnew
        have hrl := rest_len k i y1.sent s0.grams t
        obtain ⟨i0, hi0, hz0, hz1, hz2⟩ := info_parts infoRef
        go_wp2
        go_quiet (fail)
        go_wp2_with (at_builtin; refine wpList_append_lies _ rfl _ _ 27 rfl W0.heap.size 67 i0 _ 4 40 Try.underlying27 hi0 hz0 hz1 hz2 rfl (by decide) _ (restG k i y1.sent (s0.grams.take t)).length (rowCells (restG k i y1.sent (s0.grams.take t))) rfl (World.ownsRow.alloc (HL.out.drewN _).own _) ⟨wr.heap.size, 0, none⟩ 1 1 [.int .i64 gr.src, .int .i64 gr.dst, .string gr.data, .int .i64 gr.turn] rfl rfl (World.news_of_block (heap_alloc_new (wr.drewN _) _)) (by intro u hu; simp at hu; rcases hu with rfl | rfl | rfl | rfl <;> rfl) (by decide) (by unfold maxLen; omega) (by omega) (HL.out.kept.alloc _).size _ rfl ?_; intro g' cap' w6 hown hgrow hat hlt'; have HL3 := hid ((HL.out.drewN _).more Hlv.out Hr0.out hgrow (lf' := .slice (some ⟨g', 0, none⟩) ((restG k i y1.sent (s0.grams.take t)).length + 1) cap') (L' := restG k i y1.sent (s0.grams.take t) ++ [gr]) (by unfold OwnR; rw [rowCells_append, List.length_append]; exact hown)); clear hgrow hown hat hlt')
        refine ⟨⟨t + 1, htl, by go_num, ?_⟩, by simp [intOf]; omega⟩
        show LS _ _ _ _ _ _ _ _ _ _ _ _
        rw [HN1.out, HN2.out]
        exact HL3.out

    · obtain rfl : t = s0.grams.length := by omega
      have htz : ¬ (s0.grams.length : Int) < (s0.grams.length : Int) := by omega
      have HL2 := HL.out
      have HA := hid (HL.out.at HSP.out)
      clear HL
      rw [List.take_length] at HL2 hgl a3 HA
      obtain ⟨lo, hlo⟩ : ∃ lo, lo = y1.lost + goneN k i y1.sent s0.grams := ⟨_, rfl⟩
      obtain ⟨LL, hLL⟩ : ∃ LL, LL = restG k i y1.sent s0.grams := ⟨_, rfl⟩
      have hlol : lo ≤ 1000001000 := by omega
      have hlo0 : 0 ≤ lo := by omega
      have hLl : LL.length ≤ 1000 := by
        rw [hLL]
        have := rest_len k i y1.sent s0.grams s0.grams.length
        rw [List.take_length] at this
        omega
      rw [← hlo] at HL2 a3 HA
      rw [← hLL] at HL2
      have Hlo := hid hlo
      have HLL := hid hLL
      clear hlo hLL hgl htl ht
      obtain ⟨q6, c6, rfl⟩ : ∃ q6 c6, u6 = .slice q6 LL.length c6 := by
        rcases HL2.own.2 with ⟨e, e2⟩ | ⟨g', cap', cur, e, _⟩
        · exact ⟨none, 0, by rw [e2]; exact e⟩
        · exact ⟨_, cap', e⟩
      have hwl : IntKind.i64.wrap (lo + 1) = lo + 1 := by rw [IntKind.wrap_i64]; omega
      have hgr : g ≠ r := fun e => HSP.out.ref.nw (by rw [← e]; rfl)
      have hrg : r ≠ g := fun e => hgr e.symm
      have hdr : w.heap.size ≠ r := HSP.out.dr
      have HTr := hid (HT1.out r (Or.inl rfl))
      have HTg := hid (HT1.out g (Or.inr (Or.inr rfl)))
      have HAS := hid (HA.out.shelf hgr hdr (.slice q6 LL.length c6))
      have Hset : Hid (∀ y', s0.ways.set j y' = (wayS s.ways k i).set j y') := fun y' => by rw [Hs00.out]; exact List.set_set ..
      have Hst' : Hid (shutR y0 k i s.grams = (y1.cut || decide (600 ≤ LL.length))) := by
        show _ = _
        unfold shutR
        rw [HLL.out, Hys.out, Hyc.out, Hleng.out]
      have HsG : Hid (∀ b, shutR y0 k i s.grams = b → sendG y0 k i x s.grams = if b then LL else LL ++ [⟨k, i, x, y1.sent⟩]) := fun b hb => by
        unfold sendG
        rw [hb, HLL.out, Hys.out, Hleng.out]
      have HsY : Hid (∀ b, shutR y0 k i s.grams = b → sendY y0 k i s.grams = { y1 with lost := lo + (if b then 1 else 0) }) := fun b hb => by
        unfold sendY
        rw [hb, Hlo.out, Hyl.out, Hys.out, Hleng.out, Hy1.out]
      have HiY : Hid (∀ lo', isWy k i { y1 with lost := lo' } = true) := fun lo' => by
        rw [Hy1.out]
        exact Hisy.out
      have FinS : Hid (shutR y0 k i s.grams = true → ∃ ways', RNext T w ((wr.setCell ⟨r, 0, none⟩ (.slice q6 LL.length c6)).setCell ⟨g, j * 5 + 3, none⟩ (.int .i64 (lo + 1))) r ⟨sendG y0 k i x s.grams, ways'⟩ ∧ Put s.ways ways' k i (sendY y0 k i s.grams)) := fun hb => by
        obtain ⟨hR, hk⟩ := HL2.shut HSP.out
        rw [Hset.out] at hR
        rw [HsG.out _ hb, HsY.out _ hb]
        exact ⟨_, rnext_of HKW0.out HTr.out HTg.out HL2.block hR hk, Hput.out _ (HiY.out _)⟩
      have FinO : Hid (shutR y0 k i s.grams = false → ∀ w7 p7 n7 c7 o, ((wr.setCell ⟨r, 0, none⟩ (.slice q6 LL.length c6)).drew.alloc o).grownBy w7 (Value.slice q6 LL.length c6).ownBlock → OwnR w7 0 (.slice p7 n7 c7) (LL ++ [⟨k, i, x, y1.sent⟩]) → ((Value.slice p7 n7 c7).ownBlock = (Value.slice q6 LL.length c6).ownBlock ∨ (Value.slice p7 n7 c7).ownBlock = some ((wr.setCell ⟨r, 0, none⟩ (.slice q6 LL.length c6)).drew.alloc o).heap.size) → ∃ ways', RNext T w (w7.setCell ⟨r, 0, none⟩ (.slice p7 n7 c7)) r ⟨sendG y0 k i x s.grams, ways'⟩ ∧ Put s.ways ways' k i (sendY y0 k i s.grams)) := fun hb w7 p7 n7 c7 o hg hown hb7 => by
        obtain ⟨hR, hk, hn⟩ := HL2.sent HSP.out hg hown hb7
        rw [Hset.out] at hR
        rw [HsG.out _ hb, HsY.out _ hb]
        have h := Hput.out _ (HiY.out lo)
        simp only [Bool.false_eq_true, if_false, Int.add_zero]
        exact ⟨_, rnext_of HKW0.out HTr.out HTg.out hn hR hk, h⟩
      have Hown := hid HL2.own.to0
      have Hnb : Hid (∀ q, (Value.slice q6 LL.length c6).ownBlock = some q → q ≠ r ∧ q ≠ g ∧ q ≠ w.heap.size) := fun q hq => by
        have h1 := HL2.block q hq
        have h2 := HSP.out.ref.lt (i := r) (Or.inl rfl)
        have h3 := HSP.out.ref.lt (i := g) (Or.inr (Or.inr rfl))
        have h4 : w.heap.size < W0.heap.size := lt_of_cell HSP.out.d0
        omega
      clear HL2 HA HTr HTg Hset HsG HsY HiY HT1 HKW0 Hput Hisy Hy1 Hs00 Hlenw Hlo HLL Hlv Hr0 HG0 Hst HTlt
      generalize hsh : shutR y0 k i s.grams = sh at *
      have Hsh := hid hsh
      clear hsh
      cases hcut : y1.cut with
      | true =>
        rw [hcut] at a4
        have F := hid (FinS.out (by rw [Hst'.out, hcut]; rfl))
        clear FinS FinO Hst' hcut
        go_wp2
        go_ret
        exact ⟨rfl, F.out⟩
      | false =>
        rw [hcut] at a4
        by_cases h6 : 600 ≤ LL.length
        · have h6z : (600 : Int) ≤ (LL.length : Int) := by omega
          have F := hid (FinS.out (by rw [Hst'.out, hcut]; simp [h6]))
          clear FinS FinO Hst' hcut
          go_wp2
          go_ret
          exact ⟨rfl, F.out⟩
        · have h6z : ¬ (600 : Int) ≤ (LL.length : Int) := by omega
          have F := hid (FinO.out (by rw [Hst'.out, hcut]; simp [h6]))
          clear FinS FinO Hst' hcut
          obtain ⟨wS, hwS⟩ : ∃ wS, wS = wr.setCell ⟨r, 0, none⟩ (.slice q6 LL.length c6) := ⟨_, rfl⟩
          have HWS := hid hwS
          rw [← hwS] at HAS F
          have HownS : OwnR (wS.drew.alloc (.cells #[.int .i64 k, .int .i64 i, .string x, .int .i64 y1.sent] 67)) 0 (.slice q6 LL.length c6) LL := by
            refine World.ownsRow.alloc ?_ _
            refine Hown.out.same (fun q hq => ?_)
            rw [hwS]
            exact Below.heap_setCell wr ⟨r, 0, none⟩ _ q (Hnb.out q hq).1
          obtain ⟨p7, c7, w7, hrun7, hown7, hgr7, hat7⟩ := append_own HownS ⟨wS.heap.size, 0, none⟩ 1 1 [⟨k, i, x, y1.sent⟩] rfl (World.news_of_block (heap_alloc_new wS.drew _)) (by omega)
          have F7 := hid (F.out w7 p7 _ c7 _ hgr7 hown7 hat7)
          have hk7 : Kept (fun q => (Value.slice q6 LL.length c6).ownBlock = some q) wS w7 := ((Kept.refl _ wS).drew.alloc _).grown hgr7 (fun q hq => Or.inr hq)
          have HA1 := hid (fun W (hW : Kept (fun q => (Value.slice q6 LL.length c6).ownBlock = some q) wS W) => HAS.out.kept hW (fun e => (Hnb.out _ e).1 rfl) (fun e => (Hnb.out _ e).2.1 rfl) (fun e => (Hnb.out _ e).2.2 rfl))
          have L0 := fun W (hW : Kept (fun q => (Value.slice q6 LL.length c6).ownBlock = some q) wS W) => (HA1.out W hW).c0
          have L1 := fun W (hW : Kept (fun q => (Value.slice q6 LL.length c6).ownBlock = some q) wS W) => (HA1.out W hW).c1
          have L2 := fun W (hW : Kept (fun q => (Value.slice q6 LL.length c6).ownBlock = some q) wS W) => (HA1.out W hW).a2
          have L3 := fun W (hW : Kept (fun q => (Value.slice q6 LL.length c6).ownBlock = some q) wS W) => (HA1.out W hW).d0
          have L4 := fun W (hW : Kept (fun q => (Value.slice q6 LL.length c6).ownBlock = some q) wS W) => (HA1.out W hW).d1
          have L5 := fun W (hW : Kept (fun q => (Value.slice q6 LL.length c6).ownBlock = some q) wS W) => (HA1.out W hW).d2
          have L6 := fun W (hW : Kept (fun q => (Value.slice q6 LL.length c6).ownBlock = some q) wS W) => (HA1.out W hW).f0
          have hkA : Kept (fun q => (Value.slice q6 LL.length c6).ownBlock = some q) wS (wS.drew.alloc (.cells #[.int .i64 k, .int .i64 i, .string x, .int .i64 y1.sent] 67)) := (Kept.refl _ wS).drew.alloc _
          clear HownS hown7 hgr7 hat7 F HAS HA1 Hown Hnb hwS HSP
          go_wp2
          rw [← HWS.out]
          clear c0 c1 a2 a3 a4 f3 f0 d0 d1 d2
          refine wp_region_but (S := Kept (fun q => (Value.slice q6 LL.length c6).ownBlock = some q) wS) 19 (by kernel_rfl) ((Kept.refl _ wS).drew) (fun hSd => ?_)
          refine wpAnyB_take (i := 0) (v := ?_) rfl (by kernel_rfl) (by kernel_rfl) (by kernel_rfl) (by kernel_rfl) (by kernel_rfl) (fun _ _ _ h => h) (Or.inl ⟨by kernel_rfl, fun W hSW => by go_simp; try with_reducible rfl⟩) (by assumption) ?_
          try simp only [List.getElem_toArray]
          try simp only [List.getElem_cons_succ]
          try simp only [List.getElem_cons_zero]
          try simp only [Act.put]
          try simp only [List.setIfInBounds_toArray]
          try simp only [List.set_cons_succ]
          try simp only [List.set_cons_zero]
          refine wpAnyB_take (i := 1) (v := ?_) rfl (by kernel_rfl) (by kernel_rfl) (by kernel_rfl) (by kernel_rfl) (by kernel_rfl) (fun _ _ _ h => h) (Or.inl ⟨by kernel_rfl, fun W hSW => by go_simp; try with_reducible rfl⟩) (by assumption) ?_
          try simp only [List.getElem_toArray]
          try simp only [List.getElem_cons_succ]
          try simp only [List.getElem_cons_zero]
          try simp only [Act.put]
          try simp only [List.setIfInBounds_toArray]
          try simp only [List.set_cons_succ]
          try simp only [List.set_cons_zero]
          refine wpAnyB_take (i := 2) (v := ?_) rfl (by kernel_rfl) (by kernel_rfl) (by kernel_rfl) (by kernel_rfl) (by kernel_rfl) (fun _ _ _ h => h) (Or.inl ⟨by kernel_rfl, fun W hSW => by go_simp; try with_reducible rfl⟩) (by assumption) ?_
          try simp only [List.getElem_toArray]
          try simp only [List.getElem_cons_succ]
          try simp only [List.getElem_cons_zero]
          try simp only [Act.put]
          try simp only [List.setIfInBounds_toArray]
          try simp only [List.set_cons_succ]
          try simp only [List.set_cons_zero]
          refine wpAnyB_take (i := 3) (v := ?_) rfl (by kernel_rfl) (by kernel_rfl) (by kernel_rfl) (by kernel_rfl) (by kernel_rfl) (fun _ _ _ h => h) (Or.inl ⟨by kernel_rfl, fun W hSW => by go_simp; try with_reducible rfl⟩) (by assumption) ?_
          try simp only [List.getElem_toArray]
          try simp only [List.getElem_cons_succ]
          try simp only [List.getElem_cons_zero]
          try simp only [Act.put]
          try simp only [List.setIfInBounds_toArray]
          try simp only [List.set_cons_succ]
          try simp only [List.set_cons_zero]
          refine wpAnyB_take (i := 4) (v := ?_) rfl (by kernel_rfl) (by kernel_rfl) (by kernel_rfl) (by kernel_rfl) (by kernel_rfl) (fun _ _ _ h => h) (Or.inl ⟨by kernel_rfl, fun W hSW => by go_simp; try with_reducible rfl⟩) (by assumption) ?_
          try simp only [List.getElem_toArray]
          try simp only [List.getElem_cons_succ]
          try simp only [List.getElem_cons_zero]
          try simp only [Act.put]
          try simp only [List.setIfInBounds_toArray]
          try simp only [List.set_cons_succ]
          try simp only [List.set_cons_zero]
          refine wpAnyB_take (i := 5) (v := (.agg #[.int .i64 k, .int .i64 i, .string x])) rfl (by kernel_rfl) (by kernel_rfl) (by kernel_rfl) (by kernel_rfl) (by kernel_rfl) (fun _ _ _ h => h) (Or.inl ⟨by kernel_rfl, fun W hSW => by go_simp; try with_reducible rfl⟩) (by assumption) ?_
          try simp only [List.getElem_toArray]
          try simp only [List.getElem_cons_succ]
          try simp only [List.getElem_cons_zero]
          try simp only [Act.put]
          try simp only [List.setIfInBounds_toArray]
          try simp only [List.set_cons_succ]
          try simp only [List.set_cons_zero]
          refine wpAnyB_take (i := 6) (v := ?_) rfl (by kernel_rfl) (by kernel_rfl) (by kernel_rfl) (by kernel_rfl) (by kernel_rfl) (fun _ _ _ h => h) (Or.inl ⟨by kernel_rfl, fun W hSW => by go_simp; try with_reducible rfl⟩) (by assumption) ?_
          try simp only [List.getElem_toArray]
          try simp only [List.getElem_cons_succ]
          try simp only [List.getElem_cons_zero]
          try simp only [Act.put]
          try simp only [List.setIfInBounds_toArray]
          try simp only [List.set_cons_succ]
          try simp only [List.set_cons_zero]
          refine wpAnyB_take (i := 7) (v := ?_) rfl (by kernel_rfl) (by kernel_rfl) (by kernel_rfl) (by kernel_rfl) (by kernel_rfl) (fun _ _ _ h => h) (Or.inl ⟨by kernel_rfl, fun W hSW => by go_simp; try with_reducible rfl⟩) (by assumption) ?_
          try simp only [List.getElem_toArray]
          try simp only [List.getElem_cons_succ]
          try simp only [List.getElem_cons_zero]
          try simp only [Act.put]
          try simp only [List.setIfInBounds_toArray]
          try simp only [List.set_cons_succ]
          try simp only [List.set_cons_zero]
          refine wpAnyB_take (i := 8) (v := ?_) rfl (by kernel_rfl) (by kernel_rfl) (by kernel_rfl) (by kernel_rfl) (by kernel_rfl) (fun _ _ _ h => h) (Or.inl ⟨by kernel_rfl, fun W hSW => by go_simp; try with_reducible rfl⟩) (by assumption) ?_
          try simp only [List.getElem_toArray]
          try simp only [List.getElem_cons_succ]
          try simp only [List.getElem_cons_zero]
          try simp only [Act.put]
          try simp only [List.setIfInBounds_toArray]
          try simp only [List.set_cons_succ]
          try simp only [List.set_cons_zero]
          refine wpAnyB_take (i := 9) (v := ?_) rfl (by kernel_rfl) (by kernel_rfl) (by kernel_rfl) (by kernel_rfl) (by kernel_rfl) (fun _ _ _ h => h) (Or.inl ⟨by kernel_rfl, fun W hSW => by go_simp; try with_reducible rfl⟩) (by assumption) ?_
          try simp only [List.getElem_toArray]
          try simp only [List.getElem_cons_succ]
          try simp only [List.getElem_cons_zero]
          try simp only [Act.put]
          try simp only [List.setIfInBounds_toArray]
          try simp only [List.set_cons_succ]
          try simp only [List.set_cons_zero]
          refine wpAnyB_take (i := 10) (v := ?_) rfl (by kernel_rfl) (by kernel_rfl) (by kernel_rfl) (by kernel_rfl) (by kernel_rfl) (fun _ _ _ h => h) (Or.inl ⟨by kernel_rfl, fun W hSW => by go_simp; try with_reducible rfl⟩) (by assumption) ?_
          try simp only [List.getElem_toArray]
          try simp only [List.getElem_cons_succ]
          try simp only [List.getElem_cons_zero]
          try simp only [Act.put]
          try simp only [List.setIfInBounds_toArray]
          try simp only [List.set_cons_succ]
          try simp only [List.set_cons_zero]
          refine wpAnyB_take (i := 11) (v := ?_) rfl (by kernel_rfl) (by kernel_rfl) (by kernel_rfl) (by kernel_rfl) (by kernel_rfl) (fun _ _ _ h => h) (Or.inl ⟨by kernel_rfl, fun W hSW => by go_simp; try with_reducible rfl⟩) (by assumption) ?_
          try simp only [List.getElem_toArray]
          try simp only [List.getElem_cons_succ]
          try simp only [List.getElem_cons_zero]
          try simp only [Act.put]
          try simp only [List.setIfInBounds_toArray]
          try simp only [List.set_cons_succ]
          try simp only [List.set_cons_zero]
          refine wpAnyB_take (i := 12) (v := ?_) rfl (by kernel_rfl) (by kernel_rfl) (by kernel_rfl) (by kernel_rfl) (by kernel_rfl) (fun _ _ _ h => h) (Or.inl ⟨by kernel_rfl, fun W hSW => by go_simp; try with_reducible rfl⟩) (by assumption) ?_
          try simp only [List.getElem_toArray]
          try simp only [List.getElem_cons_succ]
          try simp only [List.getElem_cons_zero]
          try simp only [Act.put]
          try simp only [List.setIfInBounds_toArray]
          try simp only [List.set_cons_succ]
          try simp only [List.set_cons_zero]
          refine wpAnyB_take (i := 13) (v := ?_) rfl (by kernel_rfl) (by kernel_rfl) (by kernel_rfl) (by kernel_rfl) (by kernel_rfl) (fun _ _ _ h => h) (Or.inl ⟨by kernel_rfl, fun W hSW => by go_simp; try with_reducible rfl⟩) (by assumption) ?_
          try simp only [List.getElem_toArray]
          try simp only [List.getElem_cons_succ]
          try simp only [List.getElem_cons_zero]
          try simp only [Act.put]
          try simp only [List.setIfInBounds_toArray]
          try simp only [List.set_cons_succ]
          try simp only [List.set_cons_zero]
          refine wpAnyB_take (i := 14) (v := (.agg #[.int .i64 k, .int .i64 i, .string x, .int .i64 y1.sent])) rfl (by kernel_rfl) (by kernel_rfl) (by kernel_rfl) (by kernel_rfl) (by kernel_rfl) (fun _ _ _ h => h) (Or.inl ⟨by kernel_rfl, fun W hSW => by go_simp; try with_reducible rfl⟩) (by assumption) ?_
          try simp only [List.getElem_toArray]
          try simp only [List.getElem_cons_succ]
          try simp only [List.getElem_cons_zero]
          try simp only [Act.put]
          try simp only [List.setIfInBounds_toArray]
          try simp only [List.set_cons_succ]
          try simp only [List.set_cons_zero]
          refine wpAnyB_ready (rs := [15]) (by kernel_rfl) (by simp) ?_
          refine AllReadyB.cons rfl (fun K hK => ?_) AllReadyB.nil
          go_simp
          refine hK.out _ _ (hkA) (fun _ => ?_)
          clear hK K
          try dsimp only
          try simp only [List.getElem_toArray]
          try simp only [List.getElem_cons_succ]
          try simp only [List.getElem_cons_zero]
          try simp only [Act.put]
          try simp only [List.setIfInBounds_toArray]
          try simp only [List.set_cons_succ]
          try simp only [List.set_cons_zero]
          refine wpAnyB_ready (rs := [16]) (by kernel_rfl) (by simp) ?_
          refine AllReadyB.cons rfl (fun K hK => ?_) AllReadyB.nil
          refine step_append_run rfl (.tmp 140) (.tmp 151) 27 rfl (.slice q6 LL.length c6) (.slice (some ⟨wS.heap.size, 0, none⟩) 1 1) rfl rfl (hrun7 _) ?_
          refine hK.out _ _ (hk7) (fun _ => ?_)
          clear hK K
          try simp only [List.getElem_toArray]
          try simp only [List.getElem_cons_succ]
          try simp only [List.getElem_cons_zero]
          try simp only [Act.put]
          try simp only [List.setIfInBounds_toArray]
          try simp only [List.set_cons_succ]
          try simp only [List.set_cons_zero]
          refine wpAnyB_take (i := 17) (v := ?_) rfl (by kernel_rfl) (by kernel_rfl) (by kernel_rfl) (by kernel_rfl) (by kernel_rfl) (fun _ _ _ h => h) (Or.inl ⟨by kernel_rfl, fun W hSW => by go_simp; try with_reducible rfl⟩) (by assumption) ?_
          try simp only [List.getElem_toArray]
          try simp only [List.getElem_cons_succ]
          try simp only [List.getElem_cons_zero]
          try simp only [Act.put]
          try simp only [List.setIfInBounds_toArray]
          try simp only [List.set_cons_succ]
          try simp only [List.set_cons_zero]
          refine wpAnyB_take (i := 18) (v := ?_) rfl (by kernel_rfl) (by kernel_rfl) (by kernel_rfl) (by kernel_rfl) (by kernel_rfl) (fun _ _ _ h => h) (Or.inl ⟨by kernel_rfl, fun W hSW => by go_simp; try with_reducible rfl⟩) (by assumption) ?_
          try simp only [List.getElem_toArray]
          try simp only [List.getElem_cons_succ]
          try simp only [List.getElem_cons_zero]
          try simp only [Act.put]
          try simp only [List.setIfInBounds_toArray]
          try simp only [List.set_cons_succ]
          try simp only [List.set_cons_zero]
          refine wpAnyB_ready (rs := [19]) (by kernel_rfl) (by simp) ?_
          refine AllReadyB.end rfl (fun K hK => ?_)
          go_simp
          refine hK.out _ _ (trivial) (fun _ => ?_)
          clear hK K
          try simp only [List.getElem_toArray]
          try simp only [List.getElem_cons_succ]
          try simp only [List.getElem_cons_zero]
          try simp only [Act.put]
          try simp only [List.setIfInBounds_toArray]
          try simp only [List.set_cons_succ]
          try simp only [List.set_cons_zero]
          refine wpAnyB_done (by kernel_rfl) ?_ _
          go_wp2
          go_ret
          exact ⟨rfl, F7.out⟩
end
end Go.Proofs.Ytegofkpiipomfaa
