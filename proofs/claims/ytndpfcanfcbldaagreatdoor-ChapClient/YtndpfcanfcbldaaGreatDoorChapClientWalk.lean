/- The law ChapClient: it returns true for every client and every list of steps, and leaves what was there, where digest's two tables hold what the program's text lays. -/
import Derived.Test.YtndpfcanfcbldaaGreatDoorCaTop
import Derived.Test.YtndpfcanfcbldaaGreatDoorBtTop
import Derived.Deep.RegionHeld3
namespace Go.Proofs.YtndpfcanfcbldaaGreatDoor
open Go.RowKit

theorem lc_off : Off 89 := ⟨by decide, by rintro (h | h) <;> exact absurd h (by decide), by rintro (h | h) <;> exact absurd h (by decide), by rintro (h | h | h) <;> exact absurd h (by decide)⟩
theorem cr_off : Off 65 := ⟨by decide, by rintro (h | h) <;> exact absurd h (by decide), by rintro (h | h) <;> exact absurd h (by decide), by rintro (h | h | h) <;> exact absurd h (by decide)⟩

/-- The law's two clients and its book. -/
def PlayC (w W : World) (ba br bk : Nat) (c : Cr) (k : Nat) (far : List Value → Prop) : Prop := Play w W ba br bk (lcCells c) 89 (crCells c) 65 k far
def MidC (w W : World) (ba br bk : Nat) (c : Cr) (k : Nat) (va vb : Value) (L : List Pq) : Prop := Mid w W ba br bk (lcCells c) 89 (crCells c) 65 k va vb L

section
variable {w W : World} {ba br bk k : Nat} {c : Cr} {far : List Value → Prop}
/-- The program's client takes a packet. -/
theorem PlayC.take (h : PlayC w W ba br bk c k far) (hT : Tables w) (hn : c.name.size ≤ 60) (hs : c.secret.size ≤ 60) (code id : Int) (p : Option Addr) (n cap : Nat) (s : ByteArray) (hd : s.size ≤ 140737488351232) :
    Calls Tryz.prog 9 #[.pointer (some ⟨ba, 0, none⟩), .agg #[.int .i64 code, .int .i64 id, .slice p n cap, .string s]] W fun e w' => ∃ v, e = .returned v ∧ Hid (LcIn w' ba (takeCr chapK c code id s).2 ∧ OwnQ w' W.heap.size v (takeCr chapK c code id s).1 ∧ Kept (fun i => i = ba) W w') :=
  (lcTake_any ba c hn hs code id p n cap s hd W (TabB.mk hT h.bel h.la) h.a).mono fun _ _ ⟨v, he, h1, h2, h3⟩ => ⟨v, he, h1, h2, h3⟩
/-- The document's takes it, too. -/
theorem PlayC.both {W1 : World} {va : Value} (h : PlayC w W ba br bk c k far) (hn : c.name.size ≤ 60) (hs : c.secret.size ≤ 60) (code id : Int) (p : Option Addr) (n cap : Nat) (s : ByteArray) (hd : s.size ≤ 140737488351232)
    (h1 : LcIn W1 ba (takeCr chapK c code id s).2 ∧ OwnQ W1 W.heap.size va (takeCr chapK c code id s).1 ∧ Kept (fun i => i = ba) W W1) :
    Calls Tryz.prog 10 #[.pointer (some ⟨br, 0, none⟩), .agg #[.int .i64 code, .int .i64 id, .slice p n cap, .string s]] W1 fun e w' => ∃ v, e = .returned v ∧ Hid (MidC w w' ba br bk (takeCr chapK c code id s).2 k va v (takeCr chapK c code id s).1) := by
  have hr : CrIn W1 br c := (h1.2.2.block br (Array.getElem?_eq_some_iff.1 h.r).1 h.ne).trans h.r
  refine (crTake_any chapK_dig br c hn hs code id p n cap s hd W1 hr).mono ?_
  rintro e w' ⟨v, rfl, hc, ho, hk⟩
  exact ⟨v, rfl, Play.both h lc_off cr_off h1.1 h1.2.1 h1.2.2 hc ho hk (takeCr_few _ _ _ _ _)⟩
end

set_option maxHeartbeats 8000000 in
set_option maxRecDepth 100000 in
theorem chapClient_walk (n s : ByteArray) (v : Value) (l : List Op14) (w : World) (hn : n.size ≤ 140737488351232) (hs : s.size ≤ 140737488351232)
    (hv : Ops14 w v l) (hl : l.length ≤ maxLen) (hin : ∀ x ∈ l, x.n ≤ maxLen ∧ x.data.size ≤ 140737488351232 ∧ x.val.size ≤ 140737488351232) (hT : Tables w) :
    Calls Tryz.prog 3 #[.string n, .string s, v] w fun e w' => e = .returned (.bool true) ∧ Below w.heap.size w w' := by
  have Ha := hid (fun W (hb : Below w.heap.size w W) => aliveH_any W (hT.next hb))
  have HSh := hid (short_any v l w hv hl hin)
  have HV := hid hv
  have HIn := hid hin
  have HTab := hid hT
  have HN := hid (lcNew_any n s hn hs)
  have HR := hid (crNew_any n s hn hs)
  obtain ⟨p, cap, hp⟩ := RowsAt.slice hv
  subst hp
  obtain ⟨BC, hBC⟩ : ∃ BC, bookCells (restO (.slice none 0 0) (.slice none 0 0)) (.slice none 0 0) (.slice none 0 0) = BC := ⟨_, rfl⟩
  have HBC := hid hBC
  have hl' := hl
  unfold maxLen at hl'
  clear hBC hv hin hl hT
  go_enter Tryz.func3, Tryz.ntmps3
  go_wp2_with fail
  refine HSh.out.mono ?_
  rintro e w0 ⟨B, rfl, hB, hw⟩
  rw [hw]
  clear HSh hw w0
  cases B with
  | false =>
    clear hB
    go_wp2_with fail
    refine (Ha.out _ (Below.refl _ _)).mono ?_
    rintro e w2 ⟨rfl, hk2⟩
    go_wp2
    go_ret
    exact ⟨rfl, below_of hk2⟩
  | true =>
    have h200 := hB rfl
    clear hB
    by_cases h3 : 300 < n.size + s.size
    · have h3z : (300 : Int) < (n.size : Int) + (s.size : Int) := by omega
      go_wp2_with fail
      refine (Ha.out _ (Below.refl _ _)).mono ?_
      rintro e w2 ⟨rfl, hk2⟩
      go_wp2
      go_ret
      exact ⟨rfl, below_of hk2⟩
    · have h3z : ¬ (300 : Int) < (n.size : Int) + (s.size : Int) := by omega
      go_wp2_with fail
      refine (HN.out _).mono ?_
      rintro e w1 ⟨hN1, hk1⟩
      have HK1 := hid hk1
      have HN1 := hid hN1
      clear hN1 hk1 HN
      rcases HN1.out with ⟨hbad, rfl⟩ | ⟨hgood, rfl, hc⟩
      · clear HN1
        go_wp2_with fail
        refine (HR.out _).mono ?_
        rintro e w2 ⟨hR2, hk2⟩
        have HK2 := hid (HK1.out.trans hk2)
        rcases hR2 with ⟨_, rfl⟩ | ⟨hgood, rfl, _⟩
        · clear hk2 HR hbad
          go_wp2_with fail
          refine (Ha.out _ (below_of HK2.out)).mono ?_
          rintro e w3 ⟨rfl, hk3⟩
          have HK3 := hid (HK2.out.trans hk3)
          clear hk3
          go_wp2
          go_ret
          exact ⟨rfl, below_of HK3.out⟩
        · omega
      · have HC1 := hid hc
        have HG := hid hgood
        clear HN1 hc hgood
        go_wp2_with fail
        refine (HR.out _).mono ?_
        rintro e w2 ⟨hR2, hk2⟩
        rcases hR2 with ⟨hbad, rfl⟩ | ⟨_, rfl, hr2⟩
        · have := HG.out
          omega
        · have P2 : Hid (PlayC w ((w2.alloc (.cells BC 52))) w.heap.size w1.heap.size w2.heap.size (newCr n s) 0 (fun _ => True)) := by
            have k3 : Kept (fun _ => False) w2 (w2.alloc (.cells BC 52)) := (Kept.refl _ w2).alloc _
            have hs2 : w.heap.size ≤ w2.heap.size := (HK1.out.trans hk2).size
            have hb := two_new w2 w.heap.size hs2
            rw [HBC.out] at hb
            have hlt : w.heap.size < w1.heap.size := HC1.out.lt
            exact ⟨(HC1.out.kept0 hk2).kept0 k3, hr2.kept0 k3, by omega, Nat.le_refl _, HK1.out.size, ⟨_, _, _, _, _, _, _, _, _, _, hb, (fun L hL => by cases hL), (fun L hL => by cases hL), Nat.le_refl _, Nat.le_refl _, trivial⟩, below_of ((HK1.out.trans hk2).trans k3)⟩
          clear hk2 HR hr2 HC1 HK1
          go_wp2_with (refine wpList_book2 HBC.out rfl rfl ?_)
          obtain ⟨br, hbr⟩ : ∃ br, br = w1.heap.size := ⟨_, rfl⟩
          obtain ⟨bk, hbk⟩ : ∃ bk, bk = w2.heap.size := ⟨_, rfl⟩
          rw [← hbk] at P2 ⊢
          rw [← hbr] at P2 ⊢
          clear HBC hbr hbk
          go_loopw [12] (fun vi wr => ∃ (j : Nat) (c : Cr), j ≤ l.length ∧ vi = .int .i64 (j : Int) ∧ Hid (PlayC w wr w.heap.size br bk c j (fun _ => True) ∧ c.name.size ≤ 60 ∧ c.secret.size ≤ 60)) (fun vi _ => l.length - (intOf vi).toNat)
          case atStart => exact ⟨0, _, Nat.zero_le _, rfl, P2.out, HG.out⟩
          case round =>
            obtain ⟨j, c, hj, rfl, HI⟩ := hrel
            clear P2
            by_cases hlt : j < l.length
            · have hltz : (j : Int) < (l.length : Int) := by omega
              obtain ⟨x, hx⟩ : ∃ x, l[j]? = some x := ⟨l[j], by simp [hlt]⟩
              obtain ⟨hx1, hx2, hx3⟩ := HIn.out x (List.mem_of_getElem? hx)
              have HV1 := hid (fun W (hb : Below w.heap.size w W) => (RowsAt.kept0 HV.out (kept_of hb)).at hx)
              obtain ⟨g, o, rfl, hcap, hc⟩ := HV1.out wr HI.out.1.bel
              obtain ⟨xk, xc, xi, xp, xn, xq, xd, xv, xg⟩ := x
              simp only at hx1 hx2 hx3
              have cg : Hid (∀ W, Below w.heap.size w W → ∀ i u, (op14Cells ⟨xk, xc, xi, xp, xn, xq, xd, xv, xg⟩)[i]? = some u → W.cell? ⟨g, o + j * 7 + i, none⟩ = some u) := by
                intro W hb i u hu
                obtain ⟨g', o', e, _, hc'⟩ := HV1.out W hb
                cases e
                exact hc' i u hu
              have c1 : ∀ W, Below w.heap.size w W → W.cell? ⟨g, o + j * 7 + 1, none⟩ = some (.int .i64 xc) := fun W hb => cg.out W hb 1 _ rfl
              have c2 : ∀ W, Below w.heap.size w W → W.cell? ⟨g, o + j * 7 + 2, none⟩ = some (.int .i64 xi) := fun W hb => cg.out W hb 2 _ rfl
              have c3 : ∀ W, Below w.heap.size w W → W.cell? ⟨g, o + j * 7 + 3, none⟩ = some (.slice xp xn xq) := fun W hb => cg.out W hb 3 _ rfl
              have c4 : ∀ W, Below w.heap.size w W → W.cell? ⟨g, o + j * 7 + 4, none⟩ = some (.string xd) := fun W hb => cg.out W hb 4 _ rfl
              unfold maxLen at hx1
              clear hc hx HV1 cg
              have HP4 : Hid (PlayC w wr.drew w.heap.size br bk c j (fun _ => True)) := Play.kept0 HI.out.1 ((Kept.refl (fun _ => False) wr).drew)
              have HS := hid HI.out.2
              have HT1 := hid (HP4.out.take HTab.out HS.out.1 HS.out.2 xc xi xp xn xq xd hx2)
              clear HI
              go_wp2_with fail
              refine wp_region_held_drew (S := Below w.heap.size w) (by kernel_rfl) (HP4.out.bel) (fun hSd => ?_)
              refine wpAnyH_take (i := 0) (v := ?_) rfl (by kernel_rfl) (by kernel_rfl) (by kernel_rfl) (fun _ _ _ h => h) (Or.inl ⟨by kernel_rfl, fun W hSW => by go_simp; try with_reducible rfl⟩) (by assumption) ?_
              try simp only [List.getElem_toArray]
              try simp only [List.getElem_cons_succ]
              try simp only [List.getElem_cons_zero]
              try simp only [Act.put]
              try simp only [List.setIfInBounds_toArray]
              try simp only [List.set_cons_succ]
              try simp only [List.set_cons_zero]
              refine wpAnyH_take (i := 1) (v := ?_) rfl (by kernel_rfl) (by kernel_rfl) (by kernel_rfl) (fun _ _ _ h => h) (Or.inl ⟨by kernel_rfl, fun W hSW => by go_simp; try with_reducible rfl⟩) (by assumption) ?_
              try simp only [List.getElem_toArray]
              try simp only [List.getElem_cons_succ]
              try simp only [List.getElem_cons_zero]
              try simp only [Act.put]
              try simp only [List.setIfInBounds_toArray]
              try simp only [List.set_cons_succ]
              try simp only [List.set_cons_zero]
              refine wpAnyH_take (i := 2) (v := ?_) rfl (by kernel_rfl) (by kernel_rfl) (by kernel_rfl) (fun _ _ _ h => h) (Or.inl ⟨by kernel_rfl, fun W hSW => by go_simp; try with_reducible rfl⟩) (by assumption) ?_
              try simp only [List.getElem_toArray]
              try simp only [List.getElem_cons_succ]
              try simp only [List.getElem_cons_zero]
              try simp only [Act.put]
              try simp only [List.setIfInBounds_toArray]
              try simp only [List.set_cons_succ]
              try simp only [List.set_cons_zero]
              refine wpAnyH_take (i := 3) (v := ?_) rfl (by kernel_rfl) (by kernel_rfl) (by kernel_rfl) (fun _ _ _ h => h) (Or.inl ⟨by kernel_rfl, fun W hSW => by go_simp; try with_reducible rfl⟩) (by assumption) ?_
              try simp only [List.getElem_toArray]
              try simp only [List.getElem_cons_succ]
              try simp only [List.getElem_cons_zero]
              try simp only [Act.put]
              try simp only [List.setIfInBounds_toArray]
              try simp only [List.set_cons_succ]
              try simp only [List.set_cons_zero]
              refine wpAnyH_take (i := 4) (v := ?_) rfl (by kernel_rfl) (by kernel_rfl) (by kernel_rfl) (fun _ _ _ h => h) (Or.inl ⟨by kernel_rfl, fun W hSW => by go_simp; try with_reducible rfl⟩) (by assumption) ?_
              try simp only [List.getElem_toArray]
              try simp only [List.getElem_cons_succ]
              try simp only [List.getElem_cons_zero]
              try simp only [Act.put]
              try simp only [List.setIfInBounds_toArray]
              try simp only [List.set_cons_succ]
              try simp only [List.set_cons_zero]
              refine wpAnyH_take (i := 5) (v := ?_) rfl (by kernel_rfl) (by kernel_rfl) (by kernel_rfl) (fun _ _ _ h => h) (Or.inl ⟨by kernel_rfl, fun W hSW => by go_simp; try with_reducible rfl⟩) (by assumption) ?_
              try simp only [List.getElem_toArray]
              try simp only [List.getElem_cons_succ]
              try simp only [List.getElem_cons_zero]
              try simp only [Act.put]
              try simp only [List.setIfInBounds_toArray]
              try simp only [List.set_cons_succ]
              try simp only [List.set_cons_zero]
              refine wpAnyH_take (i := 7) (v := ?_) rfl (by kernel_rfl) (by kernel_rfl) (by kernel_rfl) (fun _ _ _ h => h) (Or.inl ⟨by kernel_rfl, fun W hSW => by go_simp; try with_reducible rfl⟩) (by assumption) ?_
              try simp only [List.getElem_toArray]
              try simp only [List.getElem_cons_succ]
              try simp only [List.getElem_cons_zero]
              try simp only [Act.put]
              try simp only [List.setIfInBounds_toArray]
              try simp only [List.set_cons_succ]
              try simp only [List.set_cons_zero]
              refine wpAnyH_take (i := 8) (v := ?_) rfl (by kernel_rfl) (by kernel_rfl) (by kernel_rfl) (fun _ _ _ h => h) (Or.inl ⟨by kernel_rfl, fun W hSW => by go_simp; try with_reducible rfl⟩) (by assumption) ?_
              try simp only [List.getElem_toArray]
              try simp only [List.getElem_cons_succ]
              try simp only [List.getElem_cons_zero]
              try simp only [Act.put]
              try simp only [List.setIfInBounds_toArray]
              try simp only [List.set_cons_succ]
              try simp only [List.set_cons_zero]
              refine wpAnyH_take (i := 9) (v := ?_) rfl (by kernel_rfl) (by kernel_rfl) (by kernel_rfl) (fun _ _ _ h => h) (Or.inl ⟨by kernel_rfl, fun W hSW => by go_simp; try with_reducible rfl⟩) (by assumption) ?_
              try simp only [List.getElem_toArray]
              try simp only [List.getElem_cons_succ]
              try simp only [List.getElem_cons_zero]
              try simp only [Act.put]
              try simp only [List.setIfInBounds_toArray]
              try simp only [List.set_cons_succ]
              try simp only [List.set_cons_zero]
              refine wpAnyH_take (i := 10) (v := ?_) rfl (by kernel_rfl) (by kernel_rfl) (by kernel_rfl) (fun _ _ _ h => h) (Or.inl ⟨by kernel_rfl, fun W hSW => by go_simp; try with_reducible rfl⟩) (by assumption) ?_
              try simp only [List.getElem_toArray]
              try simp only [List.getElem_cons_succ]
              try simp only [List.getElem_cons_zero]
              try simp only [Act.put]
              try simp only [List.setIfInBounds_toArray]
              try simp only [List.set_cons_succ]
              try simp only [List.set_cons_zero]
              refine wpAnyH_take (i := 11) (v := ?_) rfl (by kernel_rfl) (by kernel_rfl) (by kernel_rfl) (fun _ _ _ h => h) (Or.inl ⟨by kernel_rfl, fun W hSW => by go_simp; try with_reducible rfl⟩) (by assumption) ?_
              try simp only [List.getElem_toArray]
              try simp only [List.getElem_cons_succ]
              try simp only [List.getElem_cons_zero]
              try simp only [Act.put]
              try simp only [List.setIfInBounds_toArray]
              try simp only [List.set_cons_succ]
              try simp only [List.set_cons_zero]
              refine wpAnyH_take (i := 12) (v := ?_) rfl (by kernel_rfl) (by kernel_rfl) (by kernel_rfl) (fun _ _ _ h => h) (Or.inl ⟨by kernel_rfl, fun W hSW => by go_simp; try with_reducible rfl⟩) (by assumption) ?_
              try simp only [List.getElem_toArray]
              try simp only [List.getElem_cons_succ]
              try simp only [List.getElem_cons_zero]
              try simp only [Act.put]
              try simp only [List.setIfInBounds_toArray]
              try simp only [List.set_cons_succ]
              try simp only [List.set_cons_zero]
              refine wpAnyH_ready (rs := [6]) (by kernel_rfl) (by simp) ?_
              refine AllReadyH.cons rfl (fun K hK => ?_) AllReadyH.nil
              go_simp
              refine HT1.out.mono ?_
              rintro e w5 ⟨va, rfl, H5⟩
              have hS5 : Below w.heap.size w w5 := hSd.trans (H5.out.2.2.below hSd.size (fun i hi => by omega))
              have HT2 := hid (HP4.out.both HS.out.1 HS.out.2 xc xi xp xn xq xd hx2 H5.out)
              obtain ⟨pa, ca, hpa⟩ := slice_of H5.out.2.1
              subst hpa
              clear HT1
              refine hK.out _ _ (hS5) (fun _ => ?_)
              clear hK K
              try simp only [List.getElem_toArray]
              try simp only [List.getElem_cons_succ]
              try simp only [List.getElem_cons_zero]
              try simp only [Act.put]
              try simp only [List.setIfInBounds_toArray]
              try simp only [List.set_cons_succ]
              try simp only [List.set_cons_zero]
              refine wpAnyH_ready (rs := [13]) (by kernel_rfl) (by simp) ?_
              refine AllReadyH.cons rfl (fun K hK => ?_) AllReadyH.nil
              go_simp
              refine HT2.out.mono ?_
              rintro e w6 ⟨vb, rfl, HM⟩
              have hS6 : Below w.heap.size w w6 := HM.out.p.bel
              obtain ⟨pb, cb, hpb⟩ := slice_of HM.out.too
              subst hpb
              clear HT2 H5
              refine hK.out _ _ (hS6) (fun _ => ?_)
              clear hK K
              try simp only [List.getElem_toArray]
              try simp only [List.getElem_cons_succ]
              try simp only [List.getElem_cons_zero]
              try simp only [Act.put]
              try simp only [List.setIfInBounds_toArray]
              try simp only [List.set_cons_succ]
              try simp only [List.set_cons_zero]
              refine wpAnyH_take (i := 14) (v := ?_) rfl (by kernel_rfl) (by kernel_rfl) (by kernel_rfl) (fun _ _ _ h => h) (Or.inl ⟨by kernel_rfl, fun W hSW => by go_simp; try with_reducible rfl⟩) (by assumption) ?_
              try simp only [List.getElem_toArray]
              try simp only [List.getElem_cons_succ]
              try simp only [List.getElem_cons_zero]
              try simp only [Act.put]
              try simp only [List.setIfInBounds_toArray]
              try simp only [List.set_cons_succ]
              try simp only [List.set_cons_zero]
              refine wpAnyH_take (i := 15) (v := ?_) rfl (by kernel_rfl) (by kernel_rfl) (by kernel_rfl) (fun _ _ _ h => h) (Or.inl ⟨by kernel_rfl, fun W hSW => by go_simp; try with_reducible rfl⟩) (by assumption) ?_
              try simp only [List.getElem_toArray]
              try simp only [List.getElem_cons_succ]
              try simp only [List.getElem_cons_zero]
              try simp only [Act.put]
              try simp only [List.setIfInBounds_toArray]
              try simp only [List.set_cons_succ]
              try simp only [List.set_cons_zero]
              refine wpAnyH_done (by kernel_rfl) ?_ _
              have HSz : Hid ((takeCr chapK c xc xi xd).2.name.size ≤ 60 ∧ (takeCr chapK c xc xi xd).2.secret.size ≤ 60) := by rw [takeCr_name, takeCr_secret]; exact HS.out
              have hfew := HM.out.few
              generalize takeCr chapK c xc xi xd = R at *
              obtain ⟨L, c'⟩ := R
              simp only at HM HSz hfew
              clear hSd hS5 hS6 c1 c2 c3 c4 HP4 HS
              have HSe := hid (Mid.sent HM.out lc_off cr_off (by omega))
              clear HM
              go_wp2_with fail
              refine HSe.out.mono ?_
              rintro e w7 ⟨rfl, hp7, hoa7, hob7, hk7⟩
              have P7 := hid hp7
              have A7 := hid hoa7
              have B7 := hid hob7
              clear hp7 hoa7 hob7 hk7 HSe
              have HDn := hid (lcDone_any w.heap.size c' w7 P7.out.a)
              go_wp2_with fail
              refine HDn.out.mono ?_
              rintro e w8 ⟨rfl, hk8⟩
              have P8 := hid (P7.out.kept0 hk8)
              have HSm := hid (BPackets.samePackets_eq _ _ L w8 (A7.out.kept0 hk8).tags (B7.out.kept0 hk8).tags (by omega))
              clear hk8 P7 A7 B7 HDn
              go_wp2_with fail
              refine HSm.out.mono ?_
              rintro e w9 ⟨rfl, hk9⟩
              have P9 : Hid (PlayC w w9 w.heap.size br bk c' (j + 1) (fun _ => True)) := P8.out.kept0 hk9
              have q2 := CrIn.c2 (c := c') P9.out.r
              have q3 := CrIn.c3 (c := c') P9.out.r
              have ndn : (c'.done != c'.done) = false := by simp
              have ngd : (c'.good != c'.good) = false := by simp
              clear hk9 P8 HSm
              go_wp2
              exact ⟨⟨j + 1, c', hlt, by go_num, P9.out, HSz.out⟩, by simp [intOf]; omega⟩
            · obtain rfl : j = l.length := by omega
              have hltz : ¬ (l.length : Int) < (l.length : Int) := by omega
              go_wp2_with fail
              refine (Ha.out _ HI.out.1.bel).mono ?_
              rintro e w3 ⟨rfl, hk3⟩
              have HAp := hid ((Play.kept0 HI.out.1 hk3).apart (by omega))
              clear hk3 HI
              go_wp2_with fail
              refine HAp.out.mono ?_
              rintro e w4 ⟨rfl, hb4⟩
              have HB4 := hid hb4
              clear hb4 HAp
              go_wp2
              go_ret
              exact ⟨rfl, HB4.out⟩
end Go.Proofs.YtndpfcanfcbldaaGreatDoor
