/- The law ChapServer: it returns true for every server and every list of steps, and leaves what was there, where digest's two tables hold what the program's text lays. -/
import Derived.Test.YtndpfcanfcbldaaGreatDoorCaTop
import Derived.Test.YtndpfcanfcbldaaGreatDoorBtTop
import Derived.Deep.RegionHeld3
import Derived.Deep.CutRange
import Derived.Deep.CutBlock
namespace Go.Proofs.YtndpfcanfcbldaaGreatDoor
open Go.RowKit

theorem ps_off : Off 134 := ⟨by decide, by rintro (h | h) <;> exact absurd h (by decide), by rintro (h | h) <;> exact absurd h (by decide), by rintro (h | h | h) <;> exact absurd h (by decide)⟩
theorem sv_off : Off 84 := ⟨by decide, by rintro (h | h) <;> exact absurd h (by decide), by rintro (h | h) <;> exact absurd h (by decide), by rintro (h | h | h) <;> exact absurd h (by decide)⟩
theorem GoodP.sv {c : Ps} (h : GoodP c) : GoodS (svOf c) := ⟨h.name, h.retry, h.wait, h.id, h.again, h.ticks, fun e => h.early (by simpa [svOf] using e)⟩
theorem startP_few {c : Ps} (h : GoodP c) (v : ByteArray) : (startP c v).1.length ≤ 1 := by
  have := startS_few (svOf c) v
  rw [svOf_start h] at this
  exact this
theorem tickP_few (c : Ps) : (tickP c).1.length ≤ 1 := by
  have := tickS_few (svOf c)
  rw [svOf_tick] at this
  exact this
theorem judgeP_few (c : Ps) (g : Bool) : (judgeP c g).1.length ≤ 1 := by
  have := judgeS_few (svOf c) g
  rw [svOf_judge] at this
  exact this
theorem againP_few (c : Ps) (code id : Int) : (againP c code id).length ≤ 1 := by
  have := againS_few (svOf c) code id
  rw [svOf_again] at this
  exact this

/-- The law's two servers and its book. -/
def PlayS (w W : World) (ba br bk : Nat) (c : Ps) (k : Nat) (far : List Value → Prop) : Prop := Play w W ba br bk (psCells c) 134 (svCells (svOf c)) 84 k far
def MidS (w W : World) (ba br bk : Nat) (c : Ps) (k : Nat) (va vb : Value) (L : List Pq) : Prop := Mid w W ba br bk (psCells c) 134 (svCells (svOf c)) 84 k va vb L
/-- What a call of one of the two has come to. -/
def StepA (W W1 : World) (ba : Nat) (c' : Ps) (va : Value) (L : List Pq) : Prop := PsIn W1 ba c' ∧ OwnQ W1 W.heap.size va L ∧ Kept (fun i => i = ba) W W1

section
variable {w W W1 : World} {ba br bk k : Nat} {c c' : Ps} {far : List Value → Prop} {va : Value} {L : List Pq}
theorem PlayS.ref (h : PlayS w W ba br bk c k far) (hk : Kept (fun i => i = ba) W W1) : SvIn W1 br (svOf c) := (hk.block br (Array.getElem?_eq_some_iff.1 h.r).1 h.ne).trans h.r
theorem PlayS.meet {W2 : World} {vb : Value} (h : PlayS w W ba br bk c k far) (h1 : StepA W W1 ba c' va L) (hr : SvIn W2 br (svOf c')) (ho : OwnQ W2 W1.heap.size vb L) (hk : Kept (fun i => i = br) W1 W2) (hL : L.length ≤ 1) : MidS w W2 ba br bk c' k va vb L :=
  Play.both h ps_off sv_off h1.1 h1.2.1 h1.2.2 hr ho hk hL

theorem PlayS.start (h : PlayS w W ba br bk c k far) (hg : GoodP c) (v : ByteArray) (hv : v.size ≤ 140737488351232) :
    Calls Tryz.prog 17 #[.pointer (some ⟨ba, 0, none⟩), .string v] W fun e w' => ∃ u, e = .returned u ∧ Hid (StepA W w' ba (startP c v).2 u (startP c v).1) :=
  (psStart_any ba c hg.name hg.id v hv W h.a).mono fun _ _ ⟨u, he, h1, h2, h3⟩ => ⟨u, he, h1, h2, h3⟩
theorem PlayS.start2 (h : PlayS w W ba br bk c k far) (hg : GoodP c) (v : ByteArray) (hv : v.size ≤ 140737488351232) (h1 : StepA W W1 ba (startP c v).2 va (startP c v).1) :
    Calls Tryz.prog 18 #[.pointer (some ⟨br, 0, none⟩), .string v] W1 fun e w' => ∃ u, e = .returned u ∧ Hid (MidS w w' ba br bk (startP c v).2 k va u (startP c v).1 ∧ Kept (fun i => i = br) W1 w') := by
  refine (sStart_any br (svOf c) hg.sv v hv W1 (h.ref h1.2.2)).mono ?_
  rintro e w' ⟨u, rfl, hr, ho, hk⟩
  rw [svOf_start hg] at hr ho
  exact ⟨u, rfl, h.meet h1 hr ho hk (startP_few hg v), hk⟩
theorem PlayS.tick (h : PlayS w W ba br bk c k far) (hg : GoodP c) :
    Calls Tryz.prog 19 #[.pointer (some ⟨ba, 0, none⟩)] W fun e w' => ∃ u, e = .returned u ∧ Hid (StepA W w' ba (tickP c).2 u (tickP c).1) :=
  (psTick_any ba c hg W h.a).mono fun _ _ ⟨u, he, h1, h2, h3⟩ => ⟨u, he, h1, h2, h3⟩
theorem PlayS.tick2 (h : PlayS w W ba br bk c k far) (hg : GoodP c) (h1 : StepA W W1 ba (tickP c).2 va (tickP c).1) :
    Calls Tryz.prog 20 #[.pointer (some ⟨br, 0, none⟩)] W1 fun e w' => ∃ u, e = .returned u ∧ Hid (MidS w w' ba br bk (tickP c).2 k va u (tickP c).1) := by
  refine (sTick_any br (svOf c) hg.sv W1 (h.ref h1.2.2)).mono ?_
  rintro e w' ⟨u, rfl, hr, ho, hk⟩
  rw [svOf_tick] at hr ho
  exact ⟨u, rfl, h.meet h1 hr ho hk (tickP_few c)⟩
theorem PlayS.judge (h : PlayS w W ba br bk c k far) (g : Bool) :
    Calls Tryz.prog 21 #[.pointer (some ⟨ba, 0, none⟩), .bool g] W fun e w' => ∃ u, e = .returned u ∧ Hid (StepA W w' ba (judgeP c g).2 u (judgeP c g).1) :=
  (psJudge_any ba c g W h.a).mono fun _ _ ⟨u, he, h1, h2, h3⟩ => ⟨u, he, h1, h2, h3⟩
theorem PlayS.judge2 (h : PlayS w W ba br bk c k far) (g : Bool) (h1 : StepA W W1 ba (judgeP c g).2 va (judgeP c g).1) :
    Calls Tryz.prog 22 #[.pointer (some ⟨br, 0, none⟩), .bool g] W1 fun e w' => ∃ u, e = .returned u ∧ Hid (MidS w w' ba br bk (judgeP c g).2 k va u (judgeP c g).1 ∧ Kept (fun i => i = br) W1 w') := by
  refine (sJudge_any br (svOf c) g W1 (h.ref h1.2.2)).mono ?_
  rintro e w' ⟨u, rfl, hr, ho, hk⟩
  rw [svOf_judge] at hr ho
  exact ⟨u, rfl, h.meet h1 hr ho hk (judgeP_few c g), hk⟩
theorem PlayS.again (h : PlayS w W ba br bk c k far) (code id : Int) (p : Option Addr) (n cap : Nat) (s : ByteArray) :
    Calls Tryz.prog 23 #[.pointer (some ⟨ba, 0, none⟩), .agg #[.int .i64 code, .int .i64 id, .slice p n cap, .string s]] W fun e w' => ∃ u, e = .returned u ∧ Hid (StepA W w' ba c u (againP c code id)) :=
  (psAgain_any ba c code id p n cap s W h.a).mono fun _ _ ⟨u, he, h2, h3⟩ => ⟨u, he, PsIn.kept0 h.a h3, h2, caNone h3⟩
theorem PlayS.again2 (h : PlayS w W ba br bk c k far) (code id : Int) (p : Option Addr) (n cap : Nat) (s : ByteArray) (h1 : StepA W W1 ba c va (againP c code id)) :
    Calls Tryz.prog 24 #[.pointer (some ⟨br, 0, none⟩), .agg #[.int .i64 code, .int .i64 id, .slice p n cap, .string s]] W1 fun e w' => ∃ u, e = .returned u ∧ Hid (MidS w w' ba br bk c k va u (againP c code id) ∧ Kept (fun i => i = br) W1 w') := by
  refine (sAgain_any br (svOf c) code id p n cap s W1 (h.ref h1.2.2)).mono ?_
  rintro e w' ⟨u, rfl, ho, hk⟩
  rw [svOf_again] at ho
  exact ⟨u, rfl, h.meet h1 ((h.ref h1.2.2).kept0 hk) ho (caNone hk) (againP_few c code id), caNone hk⟩
/-- A packet is taken: the claim, and the server behind it. -/
theorem PlayS.take (h : PlayS w W ba br bk c k far) (code id : Int) (p : Option Addr) (n cap : Nat) (s : ByteArray) (hs : s.size ≤ 140737488351232) :
    Calls Tryz.prog 25 #[.pointer (some ⟨ba, 0, none⟩), .agg #[.int .i64 code, .int .i64 id, .slice p n cap, .string s]] W fun e w' => e = .returned (.tuple #[cmV (takeP c code id s).1, .bool (takeP c code id s).2.1]) ∧ Hid (StepA W w' ba (takeP c code id s).2.2 (.slice none 0 0) []) :=
  (psTake_any ba c code id p n cap s hs W h.a).mono fun _ _ ⟨he, h1, h3⟩ => ⟨he, h1, OwnQ.nil _ _, h3⟩
theorem PlayS.take2 (h : PlayS w W ba br bk c k far) (code id : Int) (p : Option Addr) (n cap : Nat) (s : ByteArray) (hs : s.size ≤ 140737488351232) (h1 : StepA W W1 ba (takeP c code id s).2.2 (.slice none 0 0) []) :
    Calls Tryz.prog 26 #[.pointer (some ⟨br, 0, none⟩), .agg #[.int .i64 code, .int .i64 id, .slice p n cap, .string s]] W1 fun e w' => e = .returned (.tuple #[cmV (takeP c code id s).1, .bool (takeP c code id s).2.1]) ∧ Hid (MidS w w' ba br bk (takeP c code id s).2.2 k (.slice none 0 0) (.slice none 0 0) [] ∧ Kept (fun i => i = br) W1 w') := by
  refine (sTake_any br (svOf c) code id p n cap s hs W1 (h.ref h1.2.2)).mono ?_
  rintro e w' ⟨rfl, hr, hk⟩
  rw [svOf_take] at hr ⊢
  exact ⟨rfl, h.meet h1 hr (OwnQ.nil _ _) hk (Nat.zero_le _), hk⟩
/-- Both have made their step; a block is made besides. -/
theorem MidS.kept0 {vb : Value} (h : MidS w W ba br bk c k va vb L) (hk : Kept (fun _ => False) W W1) : MidS w W1 ba br bk c k va vb L := ⟨Play.kept0 h.p hk, h.own.kept0 hk, h.too.kept0 hk, h.few⟩
theorem StepA.kept0 {W2 : World} (h : StepA W W1 ba c' va L) (hk : Kept (fun _ => False) W1 W2) : StepA W W2 ba c' va L := ⟨h.1.kept0 hk, h.2.1.kept0 hk, h.2.2.trans (caNone hk)⟩
end

/-- A step's box. -/
def OpAt (g : Nat) (x : Op14) (W : World) : Prop := W.heap[g]? = some (.cells (op14Cells x).toArray 59 (0, 0))
section
variable {W W' : World} {g b : Nat} {x : Op14}
theorem OpAt.lt (h : OpAt g x W) : g < W.heap.size := (Array.getElem?_eq_some_iff.1 h).1
theorem OpAt.kept {S : Nat → Prop} (h : OpAt g x W) (hk : Kept S W W') (hS : ¬ S g) : OpAt g x W' := (hk.block g h.lt hS).trans h
theorem OpAt.cell (h : OpAt g x W) (i : Nat) : W.cell? ⟨g, i, none⟩ = (op14Cells x)[i]? := by
  unfold OpAt at h
  simp [World.cell?, h]
theorem OpAt.ne {cur : Array Value} {t : TypeId} (h : OpAt g x W) (hb : W.heap[b]? = some (.cells cur t (0, 0))) (ht : t ≠ 59) : g ≠ b := fun e => by
  unfold OpAt at h
  rw [e, hb] at h
  simp at h
  exact ht h.2
end

set_option maxHeartbeats 8000000 in
set_option maxRecDepth 100000 in
theorem chapServer_walk (n : ByteArray) (retry wait : Int) (v : Value) (l : List Op14) (w : World) (hn : n.size ≤ 140737488351232) (_ : -9223372036854775808 ≤ retry ∧ retry ≤ 9223372036854775807) (_ : -9223372036854775808 ≤ wait ∧ wait ≤ 9223372036854775807)
    (hv : Ops14 w v l) (hl : l.length ≤ maxLen) (hin : ∀ x ∈ l, x.n ≤ maxLen ∧ x.data.size ≤ 140737488351232 ∧ x.val.size ≤ 140737488351232) (hT : Tables w) :
    Calls Tryz.prog 4 #[.string n, .int .i64 retry, .int .i64 wait, v] w fun e w' => e = .returned (.bool true) ∧ Below w.heap.size w w' := by
  have Ha := hid (fun W (hb : Below w.heap.size w W) => aliveH_any W (hT.next hb))
  have HSh := hid (short_any v l w hv hl hin)
  have HV := hid hv
  have HIn := hid hin
  have HN := hid (psNew_any n hn retry wait)
  have HR := hid (sNew_any n hn retry wait)
  obtain ⟨p, cap, hp⟩ := RowsAt.slice hv
  subst hp
  obtain ⟨BC, hBC⟩ : ∃ BC, bookCells (restO (.slice none 0 0) (.slice none 0 0)) (.slice none 0 0) (.slice none 0 0) = BC := ⟨_, rfl⟩
  have HBC := hid hBC
  have hl' := hl
  unfold maxLen at hl'
  clear hBC hv hin hl hT
  go_enter Tryz.func4, Tryz.ntmps4
  go_wp2_with fail
  refine HSh.out.mono ?_
  rintro e w0 ⟨B, rfl, hB, hw⟩
  rw [hw]
  clear HSh hw w0
  cases B with
  | false =>
    clear hB
    go_wp2_with fail
    refine (Ha.out _ (Below.refl _ _)).mono ?_
    rintro e w2 ⟨rfl, hk2⟩
    go_wp2
    go_ret
    exact ⟨rfl, below_of hk2⟩
  | true =>
    have h200 := hB rfl
    clear hB
    by_cases h3 : 300 < n.size
    · have h3z : (300 : Int) < (n.size : Int) := by omega
      go_wp2_with fail
      refine (Ha.out _ (Below.refl _ _)).mono ?_
      rintro e w2 ⟨rfl, hk2⟩
      go_wp2
      go_ret
      exact ⟨rfl, below_of hk2⟩
    · have h3z : ¬ (300 : Int) < (n.size : Int) := by omega
      go_wp2_with fail
      refine (HN.out _).mono ?_
      rintro e w1 ⟨hN1, hk1⟩
      have HK1 := hid hk1
      have HN1 := hid hN1
      clear hN1 hk1 HN
      rcases HN1.out with ⟨hlong, rfl⟩ | ⟨hsh, hbad, rfl⟩ | ⟨hsh, hgood, rfl, hc⟩
      · clear HN1
        go_wp2_with fail
        refine (HR.out _).mono ?_
        rintro e w2 ⟨hR2, hk2⟩
        have HK2 := hid (HK1.out.trans hk2)
        rcases hR2 with ⟨hlong2, rfl⟩ | ⟨hsh2, hbad2, rfl⟩ | ⟨hsh2, hgood2, rfl, _⟩
        · clear hk2 HR hlong hlong2
          go_wp2_with fail
          refine (Ha.out _ (below_of HK2.out)).mono ?_
          rintro e w3 ⟨rfl, hk3⟩
          have HK3 := hid (HK2.out.trans hk3)
          clear hk3
          go_wp2
          go_ret
          exact ⟨rfl, below_of HK3.out⟩
        · omega
        · omega
      · clear HN1
        go_wp2_with fail
        refine (HR.out _).mono ?_
        rintro e w2 ⟨hR2, hk2⟩
        have HK2 := hid (HK1.out.trans hk2)
        rcases hR2 with ⟨hlong2, rfl⟩ | ⟨hsh2, hbad2, rfl⟩ | ⟨hsh2, hgood2, rfl, _⟩
        · omega
        · clear hk2 HR hsh hsh2 hbad hbad2
          go_wp2_with fail
          refine (Ha.out _ (below_of HK2.out)).mono ?_
          rintro e w3 ⟨rfl, hk3⟩
          have HK3 := hid (HK2.out.trans hk3)
          clear hk3
          go_wp2
          go_ret
          exact ⟨rfl, below_of HK3.out⟩
        · exact absurd hgood2 hbad
      · have HC1 := hid hc
        have HG : Hid (GoodP (newP n retry wait)) := GoodP.new hsh ⟨hgood.1, hgood.2.1⟩ hgood.2.2
        clear HN1 hc
        go_wp2_with fail
        refine (HR.out _).mono ?_
        rintro e w2 ⟨hR2, hk2⟩
        rcases hR2 with ⟨hlong, rfl⟩ | ⟨_, hbad, rfl⟩ | ⟨_, _, rfl, hr2⟩
        · omega
        · exact absurd hgood hbad
        · have P2 : Hid (PlayS w ((w2.alloc (.cells BC 52))) w.heap.size w1.heap.size w2.heap.size (newP n retry wait) 0 (fun _ => True)) := by
            have k3 : Kept (fun _ => False) w2 (w2.alloc (.cells BC 52)) := (Kept.refl _ w2).alloc _
            have hs2 : w.heap.size ≤ w2.heap.size := (HK1.out.trans hk2).size
            have hb := two_new w2 w.heap.size hs2
            rw [HBC.out] at hb
            have hlt : w.heap.size < w1.heap.size := HC1.out.lt
            exact ⟨(HC1.out.kept0 hk2).kept0 k3, hr2.kept0 k3, by omega, Nat.le_refl _, HK1.out.size, ⟨_, _, _, _, _, _, _, _, _, _, hb, (fun L hL => by cases hL), (fun L hL => by cases hL), Nat.le_refl _, Nat.le_refl _, trivial⟩, below_of ((HK1.out.trans hk2).trans k3)⟩
          clear hk2 HR hr2 HC1 HK1 hgood hsh
          go_wp2_with (refine wpList_book2 HBC.out rfl rfl ?_)
          obtain ⟨br, hbr⟩ : ∃ br, br = w1.heap.size := ⟨_, rfl⟩
          obtain ⟨bk, hbk⟩ : ∃ bk, bk = w2.heap.size := ⟨_, rfl⟩
          rw [← hbk] at P2 ⊢
          rw [← hbr] at P2 ⊢
          clear HBC hbr hbk
          go_loopw [14] (fun vi wr => ∃ (j : Nat) (c : Ps), j ≤ l.length ∧ vi = .int .i64 (j : Int) ∧ Hid (PlayS w wr w.heap.size br bk c j (fun _ => True) ∧ GoodP c)) (fun vi _ => l.length - (intOf vi).toNat)
          case atStart => exact ⟨0, _, Nat.zero_le _, rfl, P2.out, HG.out⟩
          case round =>
            obtain ⟨j, c, hj, rfl, HI⟩ := hrel
            clear P2
            by_cases hlt : j < l.length
            · have hltz : (j : Int) < (l.length : Int) := by omega
              obtain ⟨x, hx⟩ : ∃ x, l[j]? = some x := ⟨l[j], by simp [hlt]⟩
              obtain ⟨hx1, hx2, hx3⟩ := HIn.out x (List.mem_of_getElem? hx)
              obtain ⟨g, o, rfl, hcap, hc⟩ := (RowsAt.kept0 HV.out (kept_of HI.out.1.bel)).at hx
              have c0 := hc 0 _ rfl
              have c1 := hc 1 _ rfl
              have c2 := hc 2 _ rfl
              have c3 := hc 3 _ rfl
              have c4 := hc 4 _ rfl
              have c5 := hc 5 _ rfl
              have c6 := hc 6 _ rfl
              simp only [Nat.add_zero] at c0
              unfold maxLen at hx1
              clear hc hx
              obtain ⟨xk, xc, xi, xp, xn, xq, xd, xv, xg⟩ := x
              simp only at c0 c1 c2 c3 c4 c5 c6 hx1 hx2 hx3
              have k4 := (Kept.refl (fun _ => False) wr).alloc (.cells #[.int .i64 xk, .int .i64 xc, .int .i64 xi, .slice xp xn xq, .string xd, .string xv, .bool xg] 59)
              have HP4 : Hid (PlayS w _ w.heap.size br bk c j (fun _ => True)) := Play.kept0 HI.out.1 k4
              have HX4 : Hid (OpAt wr.heap.size ⟨xk, xc, xi, xp, xn, xq, xd, xv, xg⟩ (wr.alloc (.cells #[.int .i64 xk, .int .i64 xc, .int .i64 xi, .slice xp xn xq, .string xd, .string xv, .bool xg] 59))) := heap_alloc_new wr _
              have HGc := hid HI.out.2
              clear k4 HI
              go_upto_block 2 with fail
              generalize hW4 : wr.alloc (.cells #[.int .i64 xk, .int .i64 xc, .int .i64 xi, .slice xp xn xq, .string xd, .string xv, .bool xg] 59) = W4 at *
              obtain ⟨gb, hgb⟩ : ∃ gb, gb = wr.heap.size := ⟨_, rfl⟩
              rw [← hgb] at HX4 ⊢
              clear hW4 hgb c0 c1 c2 c3 c4 c5 c6 hcap
              have hna : Hid (gb ≠ w.heap.size) := HX4.out.ne HP4.out.a (by decide)
              have hnr : Hid (gb ≠ br) := HX4.out.ne HP4.out.r (by decide)
              have s0 : ∀ W, OpAt gb ⟨xk, xc, xi, xp, xn, xq, xd, xv, xg⟩ W → W.cell? ⟨gb, 0, none⟩ = some (.int .i64 xk) := fun W h => h.cell 0
              have s1 : ∀ W, OpAt gb ⟨xk, xc, xi, xp, xn, xq, xd, xv, xg⟩ W → W.cell? ⟨gb, 1, none⟩ = some (.int .i64 xc) := fun W h => h.cell 1
              have s2 : ∀ W, OpAt gb ⟨xk, xc, xi, xp, xn, xq, xd, xv, xg⟩ W → W.cell? ⟨gb, 2, none⟩ = some (.int .i64 xi) := fun W h => h.cell 2
              have s3 : ∀ W, OpAt gb ⟨xk, xc, xi, xp, xn, xq, xd, xv, xg⟩ W → W.cell? ⟨gb, 3, none⟩ = some (.slice xp xn xq) := fun W h => h.cell 3
              have s4 : ∀ W, OpAt gb ⟨xk, xc, xi, xp, xn, xq, xd, xv, xg⟩ W → W.cell? ⟨gb, 4, none⟩ = some (.string xd) := fun W h => h.cell 4
              have s5 : ∀ W, OpAt gb ⟨xk, xc, xi, xp, xn, xq, xd, xv, xg⟩ W → W.cell? ⟨gb, 5, none⟩ = some (.string xv) := fun W h => h.cell 5
              have s6 : ∀ W, OpAt gb ⟨xk, xc, xi, xp, xn, xq, xd, xv, xg⟩ W → W.cell? ⟨gb, 6, none⟩ = some (.bool xg) := fun W h => h.cell 6
              have d0 := s0 _ HX4.out
              go_cut [16, 17] from 62 to 182 (fun va vb wx => ∃ (c' : Ps) (L : List Pq), Hid (MidS w wx w.heap.size br bk c' j va vb L ∧ GoodP c'))
              case first =>
                have HPd : Hid (PlayS w W4.drew w.heap.size br bk c j (fun _ => True)) := Play.kept0 HP4.out ((Kept.refl (fun _ => False) W4).drew)
                by_cases hk1 : xk = 1
                · have hk1b : (xk == 1) = true := by simp [hk1]
                  clear hk1
                  have HT1 := hid (HPd.out.start HGc.out xv hx3)
                  go_wp2_with fail
                  refine wp_region_held_drew (S := OpAt gb ⟨xk, xc, xi, xp, xn, xq, xd, xv, xg⟩) (by kernel_rfl) (HX4.out) (fun hSd => ?_)
                  refine wpAnyH_take (i := 0) (v := ?_) rfl (by kernel_rfl) (by kernel_rfl) (by kernel_rfl) (fun _ _ _ h => h) (Or.inl ⟨by kernel_rfl, fun W hSW => by go_simp; try with_reducible rfl⟩) (by assumption) ?_
                  try simp only [List.getElem_toArray]
                  try simp only [List.getElem_cons_succ]
                  try simp only [List.getElem_cons_zero]
                  try simp only [Act.put]
                  try simp only [List.setIfInBounds_toArray]
                  try simp only [List.set_cons_succ]
                  try simp only [List.set_cons_zero]
                  refine wpAnyH_take (i := 1) (v := ?_) rfl (by kernel_rfl) (by kernel_rfl) (by kernel_rfl) (fun _ _ _ h => h) (Or.inl ⟨by kernel_rfl, fun W hSW => by go_simp; try with_reducible rfl⟩) (by assumption) ?_
                  try simp only [List.getElem_toArray]
                  try simp only [List.getElem_cons_succ]
                  try simp only [List.getElem_cons_zero]
                  try simp only [Act.put]
                  try simp only [List.setIfInBounds_toArray]
                  try simp only [List.set_cons_succ]
                  try simp only [List.set_cons_zero]
                  refine wpAnyH_take (i := 2) (v := ?_) rfl (by kernel_rfl) (by kernel_rfl) (by kernel_rfl) (fun _ _ _ h => h) (Or.inl ⟨by kernel_rfl, fun W hSW => by go_simp; try with_reducible rfl⟩) (by assumption) ?_
                  try simp only [List.getElem_toArray]
                  try simp only [List.getElem_cons_succ]
                  try simp only [List.getElem_cons_zero]
                  try simp only [Act.put]
                  try simp only [List.setIfInBounds_toArray]
                  try simp only [List.set_cons_succ]
                  try simp only [List.set_cons_zero]
                  refine wpAnyH_take (i := 4) (v := ?_) rfl (by kernel_rfl) (by kernel_rfl) (by kernel_rfl) (fun _ _ _ h => h) (Or.inl ⟨by kernel_rfl, fun W hSW => by go_simp; try with_reducible rfl⟩) (by assumption) ?_
                  try simp only [List.getElem_toArray]
                  try simp only [List.getElem_cons_succ]
                  try simp only [List.getElem_cons_zero]
                  try simp only [Act.put]
                  try simp only [List.setIfInBounds_toArray]
                  try simp only [List.set_cons_succ]
                  try simp only [List.set_cons_zero]
                  refine wpAnyH_take (i := 5) (v := ?_) rfl (by kernel_rfl) (by kernel_rfl) (by kernel_rfl) (fun _ _ _ h => h) (Or.inl ⟨by kernel_rfl, fun W hSW => by go_simp; try with_reducible rfl⟩) (by assumption) ?_
                  try simp only [List.getElem_toArray]
                  try simp only [List.getElem_cons_succ]
                  try simp only [List.getElem_cons_zero]
                  try simp only [Act.put]
                  try simp only [List.setIfInBounds_toArray]
                  try simp only [List.set_cons_succ]
                  try simp only [List.set_cons_zero]
                  refine wpAnyH_take (i := 6) (v := ?_) rfl (by kernel_rfl) (by kernel_rfl) (by kernel_rfl) (fun _ _ _ h => h) (Or.inl ⟨by kernel_rfl, fun W hSW => by go_simp; try with_reducible rfl⟩) (by assumption) ?_
                  try simp only [List.getElem_toArray]
                  try simp only [List.getElem_cons_succ]
                  try simp only [List.getElem_cons_zero]
                  try simp only [Act.put]
                  try simp only [List.setIfInBounds_toArray]
                  try simp only [List.set_cons_succ]
                  try simp only [List.set_cons_zero]
                  refine wpAnyH_ready (rs := [3]) (by kernel_rfl) (by simp) ?_
                  refine AllReadyH.cons rfl (fun K hK => ?_) AllReadyH.nil
                  go_simp
                  refine HT1.out.mono ?_
                  rintro e w5 ⟨va, rfl, H5⟩
                  have hS5 := hSd.kept H5.out.2.2 hna.out
                  have HT2 := hid (HPd.out.start2 HGc.out xv hx3 H5.out)
                  obtain ⟨pa, ca, hpa⟩ := slice_of H5.out.2.1
                  subst hpa
                  clear HT1
                  refine hK.out _ _ (hS5) (fun _ => ?_)
                  clear hK K
                  try simp only [List.getElem_toArray]
                  try simp only [List.getElem_cons_succ]
                  try simp only [List.getElem_cons_zero]
                  try simp only [Act.put]
                  try simp only [List.setIfInBounds_toArray]
                  try simp only [List.set_cons_succ]
                  try simp only [List.set_cons_zero]
                  refine wpAnyH_ready (rs := [7]) (by kernel_rfl) (by simp) ?_
                  refine AllReadyH.cons rfl (fun K hK => ?_) AllReadyH.nil
                  go_simp
                  refine HT2.out.mono ?_
                  rintro e w6 ⟨vb, rfl, HM⟩
                  obtain ⟨pb, cb, hpb⟩ := slice_of HM.out.1.too
                  have hS6 : OpAt gb ⟨xk, xc, xi, xp, xn, xq, xd, xv, xg⟩ w6 := hS5.kept HM.out.2 hnr.out
                  subst hpb
                  clear HT2 H5
                  refine hK.out _ _ (hS6) (fun _ => ?_)
                  clear hK K
                  try simp only [List.getElem_toArray]
                  try simp only [List.getElem_cons_succ]
                  try simp only [List.getElem_cons_zero]
                  try simp only [Act.put]
                  try simp only [List.setIfInBounds_toArray]
                  try simp only [List.set_cons_succ]
                  try simp only [List.set_cons_zero]
                  refine wpAnyH_take (i := 8) (v := ?_) rfl (by kernel_rfl) (by kernel_rfl) (by kernel_rfl) (fun _ _ _ h => h) (Or.inl ⟨by kernel_rfl, fun W hSW => by go_simp; try with_reducible rfl⟩) (by assumption) ?_
                  try simp only [List.getElem_toArray]
                  try simp only [List.getElem_cons_succ]
                  try simp only [List.getElem_cons_zero]
                  try simp only [Act.put]
                  try simp only [List.setIfInBounds_toArray]
                  try simp only [List.set_cons_succ]
                  try simp only [List.set_cons_zero]
                  refine wpAnyH_take (i := 9) (v := ?_) rfl (by kernel_rfl) (by kernel_rfl) (by kernel_rfl) (fun _ _ _ h => h) (Or.inl ⟨by kernel_rfl, fun W hSW => by go_simp; try with_reducible rfl⟩) (by assumption) ?_
                  try simp only [List.getElem_toArray]
                  try simp only [List.getElem_cons_succ]
                  try simp only [List.getElem_cons_zero]
                  try simp only [Act.put]
                  try simp only [List.setIfInBounds_toArray]
                  try simp only [List.set_cons_succ]
                  try simp only [List.set_cons_zero]
                  refine wpAnyH_done (by kernel_rfl) ?_ _
                  clear hSd hS5 hS6
                  go_wp2
                  go_meet
                  exact ⟨_, _, HM.out.1, HGc.out.start xv⟩
                · have hk1b : (xk == 1) = false := by simpa using hk1
                  by_cases hk2 : xk = 2
                  · have hk2b : (xk == 2) = true := by simp [hk2]
                    clear hk1 hk2
                    have HT1 := hid (HP4.out.tick HGc.out)
                    go_wp2_with fail
                    refine HT1.out.mono ?_
                    rintro e w5 ⟨va, rfl, H5⟩
                    have HT2 := hid (HP4.out.tick2 HGc.out H5.out)
                    obtain ⟨pa, ca, hpa⟩ := slice_of H5.out.2.1
                    subst hpa
                    clear HT1
                    go_wp2_with fail
                    refine HT2.out.mono ?_
                    rintro e w6 ⟨vb, rfl, HM⟩
                    obtain ⟨pb, cb, hpb⟩ := slice_of HM.out.too
                    subst hpb
                    clear HT2 H5
                    go_wp2
                    go_meet
                    exact ⟨_, _, HM.out, HGc.out.tick⟩
                  · have hk2b : (xk == 2) = false := by simpa using hk2
                    by_cases hk4 : xk = 4
                    · have hk4b : (xk == 4) = true := by simp [hk4]
                      clear hk1 hk2 hk4
                      have HT1 := hid (HPd.out.judge xg)
                      go_wp2_with fail
                      refine wp_region_held_drew (S := OpAt gb ⟨xk, xc, xi, xp, xn, xq, xd, xv, xg⟩) (by kernel_rfl) (HX4.out) (fun hSd => ?_)
                      refine wpAnyH_take (i := 0) (v := ?_) rfl (by kernel_rfl) (by kernel_rfl) (by kernel_rfl) (fun _ _ _ h => h) (Or.inl ⟨by kernel_rfl, fun W hSW => by go_simp; try with_reducible rfl⟩) (by assumption) ?_
                      try simp only [List.getElem_toArray]
                      try simp only [List.getElem_cons_succ]
                      try simp only [List.getElem_cons_zero]
                      try simp only [Act.put]
                      try simp only [List.setIfInBounds_toArray]
                      try simp only [List.set_cons_succ]
                      try simp only [List.set_cons_zero]
                      refine wpAnyH_take (i := 1) (v := ?_) rfl (by kernel_rfl) (by kernel_rfl) (by kernel_rfl) (fun _ _ _ h => h) (Or.inl ⟨by kernel_rfl, fun W hSW => by go_simp; try with_reducible rfl⟩) (by assumption) ?_
                      try simp only [List.getElem_toArray]
                      try simp only [List.getElem_cons_succ]
                      try simp only [List.getElem_cons_zero]
                      try simp only [Act.put]
                      try simp only [List.setIfInBounds_toArray]
                      try simp only [List.set_cons_succ]
                      try simp only [List.set_cons_zero]
                      refine wpAnyH_take (i := 2) (v := ?_) rfl (by kernel_rfl) (by kernel_rfl) (by kernel_rfl) (fun _ _ _ h => h) (Or.inl ⟨by kernel_rfl, fun W hSW => by go_simp; try with_reducible rfl⟩) (by assumption) ?_
                      try simp only [List.getElem_toArray]
                      try simp only [List.getElem_cons_succ]
                      try simp only [List.getElem_cons_zero]
                      try simp only [Act.put]
                      try simp only [List.setIfInBounds_toArray]
                      try simp only [List.set_cons_succ]
                      try simp only [List.set_cons_zero]
                      refine wpAnyH_take (i := 4) (v := ?_) rfl (by kernel_rfl) (by kernel_rfl) (by kernel_rfl) (fun _ _ _ h => h) (Or.inl ⟨by kernel_rfl, fun W hSW => by go_simp; try with_reducible rfl⟩) (by assumption) ?_
                      try simp only [List.getElem_toArray]
                      try simp only [List.getElem_cons_succ]
                      try simp only [List.getElem_cons_zero]
                      try simp only [Act.put]
                      try simp only [List.setIfInBounds_toArray]
                      try simp only [List.set_cons_succ]
                      try simp only [List.set_cons_zero]
                      refine wpAnyH_take (i := 5) (v := ?_) rfl (by kernel_rfl) (by kernel_rfl) (by kernel_rfl) (fun _ _ _ h => h) (Or.inl ⟨by kernel_rfl, fun W hSW => by go_simp; try with_reducible rfl⟩) (by assumption) ?_
                      try simp only [List.getElem_toArray]
                      try simp only [List.getElem_cons_succ]
                      try simp only [List.getElem_cons_zero]
                      try simp only [Act.put]
                      try simp only [List.setIfInBounds_toArray]
                      try simp only [List.set_cons_succ]
                      try simp only [List.set_cons_zero]
                      refine wpAnyH_take (i := 6) (v := ?_) rfl (by kernel_rfl) (by kernel_rfl) (by kernel_rfl) (fun _ _ _ h => h) (Or.inl ⟨by kernel_rfl, fun W hSW => by go_simp; try with_reducible rfl⟩) (by assumption) ?_
                      try simp only [List.getElem_toArray]
                      try simp only [List.getElem_cons_succ]
                      try simp only [List.getElem_cons_zero]
                      try simp only [Act.put]
                      try simp only [List.setIfInBounds_toArray]
                      try simp only [List.set_cons_succ]
                      try simp only [List.set_cons_zero]
                      refine wpAnyH_ready (rs := [3]) (by kernel_rfl) (by simp) ?_
                      refine AllReadyH.cons rfl (fun K hK => ?_) AllReadyH.nil
                      go_simp
                      refine HT1.out.mono ?_
                      rintro e w5 ⟨va, rfl, H5⟩
                      have hS5 := hSd.kept H5.out.2.2 hna.out
                      have HT2 := hid (HPd.out.judge2 xg H5.out)
                      obtain ⟨pa, ca, hpa⟩ := slice_of H5.out.2.1
                      subst hpa
                      clear HT1
                      refine hK.out _ _ (hS5) (fun _ => ?_)
                      clear hK K
                      try simp only [List.getElem_toArray]
                      try simp only [List.getElem_cons_succ]
                      try simp only [List.getElem_cons_zero]
                      try simp only [Act.put]
                      try simp only [List.setIfInBounds_toArray]
                      try simp only [List.set_cons_succ]
                      try simp only [List.set_cons_zero]
                      refine wpAnyH_ready (rs := [7]) (by kernel_rfl) (by simp) ?_
                      refine AllReadyH.cons rfl (fun K hK => ?_) AllReadyH.nil
                      go_simp
                      refine HT2.out.mono ?_
                      rintro e w6 ⟨vb, rfl, HM⟩
                      obtain ⟨pb, cb, hpb⟩ := slice_of HM.out.1.too
                      have hS6 : OpAt gb ⟨xk, xc, xi, xp, xn, xq, xd, xv, xg⟩ w6 := hS5.kept HM.out.2 hnr.out
                      subst hpb
                      clear HT2 H5
                      refine hK.out _ _ (hS6) (fun _ => ?_)
                      clear hK K
                      try simp only [List.getElem_toArray]
                      try simp only [List.getElem_cons_succ]
                      try simp only [List.getElem_cons_zero]
                      try simp only [Act.put]
                      try simp only [List.setIfInBounds_toArray]
                      try simp only [List.set_cons_succ]
                      try simp only [List.set_cons_zero]
                      refine wpAnyH_take (i := 8) (v := ?_) rfl (by kernel_rfl) (by kernel_rfl) (by kernel_rfl) (fun _ _ _ h => h) (Or.inl ⟨by kernel_rfl, fun W hSW => by go_simp; try with_reducible rfl⟩) (by assumption) ?_
                      try simp only [List.getElem_toArray]
                      try simp only [List.getElem_cons_succ]
                      try simp only [List.getElem_cons_zero]
                      try simp only [Act.put]
                      try simp only [List.setIfInBounds_toArray]
                      try simp only [List.set_cons_succ]
                      try simp only [List.set_cons_zero]
                      refine wpAnyH_take (i := 9) (v := ?_) rfl (by kernel_rfl) (by kernel_rfl) (by kernel_rfl) (fun _ _ _ h => h) (Or.inl ⟨by kernel_rfl, fun W hSW => by go_simp; try with_reducible rfl⟩) (by assumption) ?_
                      try simp only [List.getElem_toArray]
                      try simp only [List.getElem_cons_succ]
                      try simp only [List.getElem_cons_zero]
                      try simp only [Act.put]
                      try simp only [List.setIfInBounds_toArray]
                      try simp only [List.set_cons_succ]
                      try simp only [List.set_cons_zero]
                      refine wpAnyH_done (by kernel_rfl) ?_ _
                      clear hSd hS5 hS6
                      go_wp2
                      go_meet
                      exact ⟨_, _, HM.out.1, HGc.out.judge xg⟩
                    · have hk4b : (xk == 4) = false := by simpa using hk4
                      by_cases hk5 : xk = 5
                      · have hk5b : (xk == 5) = true := by simp [hk5]
                        clear hk1 hk2 hk4 hk5
                        have HT1 := hid (HPd.out.again xc xi xp xn xq xd)
                        go_wp2_with fail
                        refine wp_region_held_drew (S := OpAt gb ⟨xk, xc, xi, xp, xn, xq, xd, xv, xg⟩) (by kernel_rfl) (HX4.out) (fun hSd => ?_)
                        refine wpAnyH_take (i := 0) (v := ?_) rfl (by kernel_rfl) (by kernel_rfl) (by kernel_rfl) (fun _ _ _ h => h) (Or.inl ⟨by kernel_rfl, fun W hSW => by go_simp; try with_reducible rfl⟩) (by assumption) ?_
                        try simp only [List.getElem_toArray]
                        try simp only [List.getElem_cons_succ]
                        try simp only [List.getElem_cons_zero]
                        try simp only [Act.put]
                        try simp only [List.setIfInBounds_toArray]
                        try simp only [List.set_cons_succ]
                        try simp only [List.set_cons_zero]
                        refine wpAnyH_take (i := 1) (v := ?_) rfl (by kernel_rfl) (by kernel_rfl) (by kernel_rfl) (fun _ _ _ h => h) (Or.inl ⟨by kernel_rfl, fun W hSW => by go_simp; try with_reducible rfl⟩) (by assumption) ?_
                        try simp only [List.getElem_toArray]
                        try simp only [List.getElem_cons_succ]
                        try simp only [List.getElem_cons_zero]
                        try simp only [Act.put]
                        try simp only [List.setIfInBounds_toArray]
                        try simp only [List.set_cons_succ]
                        try simp only [List.set_cons_zero]
                        refine wpAnyH_take (i := 2) (v := ?_) rfl (by kernel_rfl) (by kernel_rfl) (by kernel_rfl) (fun _ _ _ h => h) (Or.inl ⟨by kernel_rfl, fun W hSW => by go_simp; try with_reducible rfl⟩) (by assumption) ?_
                        try simp only [List.getElem_toArray]
                        try simp only [List.getElem_cons_succ]
                        try simp only [List.getElem_cons_zero]
                        try simp only [Act.put]
                        try simp only [List.setIfInBounds_toArray]
                        try simp only [List.set_cons_succ]
                        try simp only [List.set_cons_zero]
                        refine wpAnyH_take (i := 4) (v := ?_) rfl (by kernel_rfl) (by kernel_rfl) (by kernel_rfl) (fun _ _ _ h => h) (Or.inl ⟨by kernel_rfl, fun W hSW => by go_simp; try with_reducible rfl⟩) (by assumption) ?_
                        try simp only [List.getElem_toArray]
                        try simp only [List.getElem_cons_succ]
                        try simp only [List.getElem_cons_zero]
                        try simp only [Act.put]
                        try simp only [List.setIfInBounds_toArray]
                        try simp only [List.set_cons_succ]
                        try simp only [List.set_cons_zero]
                        refine wpAnyH_take (i := 5) (v := ?_) rfl (by kernel_rfl) (by kernel_rfl) (by kernel_rfl) (fun _ _ _ h => h) (Or.inl ⟨by kernel_rfl, fun W hSW => by go_simp; try with_reducible rfl⟩) (by assumption) ?_
                        try simp only [List.getElem_toArray]
                        try simp only [List.getElem_cons_succ]
                        try simp only [List.getElem_cons_zero]
                        try simp only [Act.put]
                        try simp only [List.setIfInBounds_toArray]
                        try simp only [List.set_cons_succ]
                        try simp only [List.set_cons_zero]
                        refine wpAnyH_take (i := 6) (v := ?_) rfl (by kernel_rfl) (by kernel_rfl) (by kernel_rfl) (fun _ _ _ h => h) (Or.inl ⟨by kernel_rfl, fun W hSW => by go_simp; try with_reducible rfl⟩) (by assumption) ?_
                        try simp only [List.getElem_toArray]
                        try simp only [List.getElem_cons_succ]
                        try simp only [List.getElem_cons_zero]
                        try simp only [Act.put]
                        try simp only [List.setIfInBounds_toArray]
                        try simp only [List.set_cons_succ]
                        try simp only [List.set_cons_zero]
                        refine wpAnyH_ready (rs := [3]) (by kernel_rfl) (by simp) ?_
                        refine AllReadyH.cons rfl (fun K hK => ?_) AllReadyH.nil
                        go_simp
                        refine HT1.out.mono ?_
                        rintro e w5 ⟨va, rfl, H5⟩
                        have hS5 := hSd.kept H5.out.2.2 hna.out
                        have HT2 := hid (HPd.out.again2 xc xi xp xn xq xd H5.out)
                        obtain ⟨pa, ca, hpa⟩ := slice_of H5.out.2.1
                        subst hpa
                        clear HT1
                        refine hK.out _ _ (hS5) (fun _ => ?_)
                        clear hK K
                        try simp only [List.getElem_toArray]
                        try simp only [List.getElem_cons_succ]
                        try simp only [List.getElem_cons_zero]
                        try simp only [Act.put]
                        try simp only [List.setIfInBounds_toArray]
                        try simp only [List.set_cons_succ]
                        try simp only [List.set_cons_zero]
                        refine wpAnyH_ready (rs := [7]) (by kernel_rfl) (by simp) ?_
                        refine AllReadyH.cons rfl (fun K hK => ?_) AllReadyH.nil
                        go_simp
                        refine HT2.out.mono ?_
                        rintro e w6 ⟨vb, rfl, HM⟩
                        obtain ⟨pb, cb, hpb⟩ := slice_of HM.out.1.too
                        have hS6 : OpAt gb ⟨xk, xc, xi, xp, xn, xq, xd, xv, xg⟩ w6 := hS5.kept HM.out.2 hnr.out
                        subst hpb
                        clear HT2 H5
                        refine hK.out _ _ (hS6) (fun _ => ?_)
                        clear hK K
                        try simp only [List.getElem_toArray]
                        try simp only [List.getElem_cons_succ]
                        try simp only [List.getElem_cons_zero]
                        try simp only [Act.put]
                        try simp only [List.setIfInBounds_toArray]
                        try simp only [List.set_cons_succ]
                        try simp only [List.set_cons_zero]
                        refine wpAnyH_take (i := 8) (v := ?_) rfl (by kernel_rfl) (by kernel_rfl) (by kernel_rfl) (fun _ _ _ h => h) (Or.inl ⟨by kernel_rfl, fun W hSW => by go_simp; try with_reducible rfl⟩) (by assumption) ?_
                        try simp only [List.getElem_toArray]
                        try simp only [List.getElem_cons_succ]
                        try simp only [List.getElem_cons_zero]
                        try simp only [Act.put]
                        try simp only [List.setIfInBounds_toArray]
                        try simp only [List.set_cons_succ]
                        try simp only [List.set_cons_zero]
                        refine wpAnyH_take (i := 9) (v := ?_) rfl (by kernel_rfl) (by kernel_rfl) (by kernel_rfl) (fun _ _ _ h => h) (Or.inl ⟨by kernel_rfl, fun W hSW => by go_simp; try with_reducible rfl⟩) (by assumption) ?_
                        try simp only [List.getElem_toArray]
                        try simp only [List.getElem_cons_succ]
                        try simp only [List.getElem_cons_zero]
                        try simp only [Act.put]
                        try simp only [List.setIfInBounds_toArray]
                        try simp only [List.set_cons_succ]
                        try simp only [List.set_cons_zero]
                        refine wpAnyH_done (by kernel_rfl) ?_ _
                        clear hSd hS5 hS6
                        go_wp2
                        go_meet
                        exact ⟨_, _, HM.out.1, HGc.out⟩
                      · have hk5b : (xk == 5) = false := by simpa using hk5
                        clear hk1 hk2 hk4 hk5
                        have HT1 := hid (HP4.out.take xc xi xp xn xq xd hx2)
                        have d1 := s1 _ HX4.out
                        have d2 := s2 _ HX4.out
                        have d3 := s3 _ HX4.out
                        have d4 := s4 _ HX4.out
                        go_wp2_with fail
                        refine HT1.out.mono ?_
                        rintro e w5 ⟨rfl, H5⟩
                        have HX5 := hid (HX4.out.kept H5.out.2.2 hna.out)
                        clear HT1 d1 d2 d3 d4
                        generalize hR : takeP c xc xi xd = R at *
                        obtain ⟨⟨ya, yb, yc, yd⟩, B5, c5⟩ := R
                        have HGn : Hid (GoodP c5) := by have := HGc.out.take xc xi xd; rw [hR] at this; exact this
                        simp only at H5
                        have k6 := (Kept.refl (fun _ => False) w5).alloc (.cells #[.string ya, .string yb, .string yc, .int .i64 yd] 77)
                        have H6 := hid (H5.out.kept0 k6)
                        have HX6 := hid (HX5.out.kept k6 (fun h => h))
                        have C6 := hid (claim_cells w5 ya yb yc yd)
                        have hn6 : Hid (w5.heap.size ≠ br) := fun e => by have := (HP4.out.ref H5.out.2.2).lt; omega
                        have HT2 := hid (HP4.out.take2 xc xi xp xn xq xd hx2 (by rw [hR]; exact H6.out))
                        rw [hR] at HT2
                        unfold cmV at HT2
                        simp only at HT2
                        clear k6 H5 HX5 hR
                        unfold cmV
                        go_upto_region 17 with fail
                        generalize w5.alloc (.cells #[.string ya, .string yb, .string yc, .int .i64 yd] 77) = W6 at *
                        generalize w5.heap.size = g6 at *
                        have d1 := s1 _ HX6.out
                        have d2 := s2 _ HX6.out
                        have d3 := s3 _ HX6.out
                        have d4 := s4 _ HX6.out
                        go_wp2_with fail
                        refine HT2.out.mono ?_
                        rintro e w7 ⟨rfl, H7⟩
                        have C7 := hid (C6.out.kept H7.out.2 hn6.out)
                        clear HT2 C6 d1 d2 d3 d4 H6 HX6
                        have k8 := (Kept.refl (fun _ => False) w7).alloc (.cells #[.string ya, .string yb, .string yc, .int .i64 yd] 80)
                        have H8 := hid (MidS.kept0 H7.out.1 k8)
                        obtain ⟨e0, e1, e2, e3⟩ := C7.out.kept k8 (fun h => h)
                        obtain ⟨f0, f1, f2, f3⟩ := box4_new w7 80 (.string ya) (.string yb) (.string yc) (.int .i64 yd)
                        have nB : (B5 != B5) = false := by simp
                        have nd : (yd != yd) = false := by simp
                        clear k8 H7 C7
                        go_upto_region 18 with fail
                        generalize w7.alloc (.cells #[.string ya, .string yb, .string yc, .int .i64 yd] 80) = W8 at *
                        go_wp2
                        go_meet
                        exact ⟨_, _, H8.out, HGn.out⟩
              case rest =>
                obtain ⟨c', L, HM⟩ := hcut
                clear HP4 HX4 d0 s0 s1 s2 s3 s4 s5 s6
                obtain ⟨pa, ca, hpa⟩ := slice_of HM.out.1.own
                obtain ⟨pb, cb, hpb⟩ := slice_of HM.out.1.too
                subst hpa hpb
                have HSe := hid (Mid.sent HM.out.1 ps_off sv_off (by omega))
                have hfew := HM.out.1.few
                have HGn := hid HM.out.2
                clear HM
                go_wp2_with fail
                refine HSe.out.mono ?_
                rintro e w7 ⟨rfl, hp7, hoa7, hob7, hk7⟩
                have P7 := hid hp7
                have A7 := hid hoa7
                have B7 := hid hob7
                clear hp7 hoa7 hob7 hk7 HSe
                have HDn := hid (psDone_any w.heap.size c' w7 P7.out.a)
                go_wp2_with fail
                refine HDn.out.mono ?_
                rintro e w8 ⟨rfl, hw⟩
                rw [hw]
                clear hw w8
                have HSm := hid (BPackets.samePackets_eq _ _ L w7 A7.out.tags B7.out.tags (by omega))
                clear A7 B7 HDn
                go_wp2_with fail
                refine HSm.out.mono ?_
                rintro e w9 ⟨rfl, hk9⟩
                have P9 : Hid (PlayS w w9 w.heap.size br bk c' (j + 1) (fun _ => True)) := P7.out.kept0 hk9
                have q10 : w9.cell? ⟨br, 10, none⟩ = some (.bool (doneP c')) := SvIn.c10 (c := svOf c') P9.out.r
                have q11 : w9.cell? ⟨br, 11, none⟩ = some (.bool (c'.st == 4)) := SvIn.c11 (c := svOf c') P9.out.r
                have ndn : (doneP c' != doneP c') = false := by simp
                have ngd : ((c'.st == 4) != (c'.st == 4)) = false := by simp
                generalize doneP c' = dn at *
                generalize (c'.st == 4) = gd at *
                clear hk9 P7 HSm
                go_wp2
                exact ⟨⟨j + 1, c', hlt, by go_num, P9.out, HGn.out⟩, by simp [intOf]; omega⟩
            · obtain rfl : j = l.length := by omega
              have hltz : ¬ (l.length : Int) < (l.length : Int) := by omega
              go_wp2_with fail
              refine (Ha.out _ HI.out.1.bel).mono ?_
              rintro e w3 ⟨rfl, hk3⟩
              have HAp := hid ((Play.kept0 HI.out.1 hk3).apart (by omega))
              clear hk3 HI
              go_wp2_with fail
              refine HAp.out.mono ?_
              rintro e w4 ⟨rfl, hb4⟩
              have HB4 := hid hb4
              clear hb4 HAp
              go_wp2
              go_ret
              exact ⟨rfl, HB4.out⟩
end Go.Proofs.YtndpfcanfcbldaaGreatDoor
