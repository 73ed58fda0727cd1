/- The contract of avp.Get: the values of some bytes, or the error; for every string of at most 2^47 bytes; what Unmask comes to is a premise where a secret is given. (Written by gen_avget.py.) -/
import Derived.Test.YtkneogfeokckjaaGreatDoorAvCut
import Derived.Test.YtkneogfeokckjaaGreatDoorGRow
import Derived.Test.YtkneogfeokckjaaGreatDoorAvPut
namespace Go.Proofs.YtkneogfeokckjaaGreatDoor
open Go.RowKit

theorem encAv : EncG avCells 5 := ⟨fun _ => rfl, avCells_one, by decide⟩
/-- The slice v holds the values of l, in a row of the call's own. -/
def OwnAv (w : World) (base : Nat) (v : Value) (l : List Av) : Prop := OwnG avCells 5 72 w base v l
theorem cells_new (w : World) (cs : List Value) (t : TypeId) : ∀ (j : Nat) (u : Value), cs[j]? = some u → (w.alloc (.cells cs.toArray t)).cell? ((⟨w.heap.size, 0, none⟩ : Addr).add j) = some u := by
  intro j u h
  rw [addr_add, World.cell?_alloc_new]
  simpa using h
theorem OwnAv.alloc {w : World} {base : Nat} {v : Value} {l : List Av} (h : OwnAv w base v l) (o : Obj) : OwnAv (w.alloc o) base v l := World.ownsRow.alloc h o
theorem OwnAv.cover {W : World} {b base : Nat} {c : Cov} {v : Value} {l : List Av} (h : OwnAv W base v l) (hc : CvAt W b c) : v.ownBlock ≠ some b := by
  intro e
  obtain ⟨⟨cur, hg⟩, _⟩ := OwnG.block h e
  rw [show W.heap[b]? = _ from hc] at hg
  simp at hg
theorem own_moreAv {w' : World} {base : Nat} {v' : Value} {l : List Av} {x : Av}
    (hown' : w'.ownsRow base 72 5 v' (l.length + 1) (rowG avCells l ++ avCells x)) : OwnAv w' base v' (l ++ [x]) := by
  show World.ownsRow _ _ _ _ _ _ _
  rw [rowG_append, List.length_append]
  simpa [rowG] using hown'
theorem toldF_size {c : Cov} {x : Av} (h : x.value.size ≤ 1002) : (toldF c x).1.value.size ≤ 1002 := by
  unfold toldF
  split
  · show (showF c x.type x.value).1.size ≤ 1002
    unfold showF
    split
    · split
      · exact Nat.zero_le _
      split
      · rw [ByteArray.size_extract, maskA_size]
        omega
      · exact Nat.zero_le _
    · exact Nat.zero_le _
  · exact h
theorem cutF_size (b : ByteArray) : (cutF b).1.value.size ≤ 1002 := by
  unfold cutF
  split
  · exact Nat.zero_le _
  split
  · exact Nat.zero_le _
  split
  · exact Nat.zero_le _
  split
  · exact Nat.zero_le _
  · rename_i h1 h2 h3 h4
    show (b.extract _ _).size ≤ 1002
    rw [ByteArray.size_extract]
    have : mostF (hidB (numAt b 0)) ≤ 1002 := by unfold mostF; split <;> omega
    omega
/-- How far the loop has come. -/
structure GetI (w : World) (s : ByteArray) (R : List Av × Int) (cb : Nat) (b : ByteArray) (acc : List Av) (vl : Value) (c : Cov) (W : World) : Prop where
  own : OwnAv W w.heap.size vl acc
  cov : CvAt W cb c
  few : Few c
  secret : c.secret = s
  on : getOn b acc c = R
  size : b.size ≤ 140737488351232
  most : acc.length ≤ 40
  kept : Kept (fun _ => False) w W

set_option maxHeartbeats 8000000 in
set_option maxRecDepth 100000 in
theorem getA_any (b s : ByteArray) (hb : b.size ≤ 140737488351232) (hs : s.size ≤ 1000000) (w : World) (hM : s.size ≠ 0 → UnmAt w) :
    Calls Tryz.prog 41 #[.string b, .string s] w fun e w' => ∃ v, e = .returned (.tuple #[v, .int .i64 (getAF b s).2]) ∧ OwnAv w' w.heap.size v (getAF b s).1 ∧ Kept (fun _ => False) w w' := by
  obtain ⟨i0, hi, hz0, hz1, hz2⟩ := info_parts infoAv
  obtain ⟨R, hR⟩ : ∃ R, R = getAF b s := ⟨_, rfl⟩
  rw [← hR]
  have HM := hid hM
  have hc0 : CvAt (w.alloc (.cells #[.string s, .string ⟨#[]⟩, .bool false] 129)) w.heap.size (cov0 s) := CvAt.new w (cov0 s)
  have HI0 : Hid (GetI w s R w.heap.size b [] (.slice none 0 0) (cov0 s) (w.alloc (.cells #[.string s, .string ⟨#[]⟩, .bool false] 129))) :=
    ⟨World.ownsRow_nil _ _ _ _, hc0, ⟨hs, Nat.zero_le _⟩, rfl, hR.symm, hb, Nat.zero_le _, (Kept.refl (fun _ => False) w).alloc _⟩
  clear hM hR hc0
  go_enter Tryz.func41, Tryz.ntmps41
  go_upto_region 3 with fail
  generalize w.alloc (.cells #[.string s, .string ⟨#[]⟩, .bool false] 129) = W0 at *
  go_loopw [0, 6] (fun vb vl wr => ∃ (d : ByteArray) (acc : List Av) (c : Cov), vb = .string d ∧ Hid (GetI w s R w.heap.size d acc vl c wr)) (fun vb _ _ => (strV vb).size)
  case atStart => exact ⟨b, [], cov0 s, rfl, HI0.out⟩
  case round =>
    obtain ⟨d, acc, c, rfl, HI⟩ := hrel
    have hT := HI.out.on
    rw [getOn_eq] at hT
    by_cases h0 : d.size = 0
    · rw [if_pos h0] at hT
      obtain rfl := str_nil d h0
      have HO := hid HI.out.own
      have HK := hid HI.out.kept
      have HT := hid hT
      clear hT h0 HI
      go_wp2
      go_ret2
      exact ⟨_, by rw [← HT.out]; rfl, by rw [← HT.out]; exact HO.out, HK.out⟩
    · rw [if_neg h0] at hT
      have hne0 := str_full h0
      have HCut := hid (cut_any d HI.out.size)
      have HSz := hid (cutF_size d)
      by_cases he : (cutF d).2.2 = 0
      · rw [if_pos he] at hT
        have hrest := cutF_rest he
        rw [he] at HCut
        obtain ⟨x, hx⟩ : ∃ x, x = (cutF d).1 := ⟨_, rfl⟩
        obtain ⟨d2, hd2⟩ : ∃ d2, d2 = (cutF d).2.1 := ⟨_, rfl⟩
        rw [← hx] at HCut HSz hT
        rw [← hd2] at HCut hrest hT
        have hds := HI.out.size
        clear he hx hd2 h0
        by_cases h40 : acc.length = 40
        · rw [if_pos h40] at hT
          have HT := hid hT
          obtain ⟨p, cap, hv⟩ := slice_of HI.out.own
          rw [h40] at hv
          subst hv
          have HK := hid HI.out.kept
          clear hT HI h40
          go_wp2_with fail
          refine (HCut.out _).mono ?_
          rintro e w1 ⟨rfl, hk1⟩
          unfold avV
          have HK1 := hid ((HK.out.trans hk1).alloc (.cells #[.bool x.must, .bool x.hidden, .int .i64 x.vendor, .int .i64 x.type, .string x.value] 72))
          clear hk1
          go_wp2
          go_ret2
          exact ⟨_, by rw [← HT.out]; rfl, by rw [← HT.out]; exact OwnG.nil _ _, HK1.out⟩
        · rw [if_neg h40] at hT
          obtain ⟨p, cap, hv⟩ := slice_of HI.out.own
          subst hv
          have hlz : ((acc.length : Int) == 40) = false := by rw [beq_eq_false_iff_ne]; omega
          have H40 : Hid (acc.length < 40) := by have := HI.out.most; show _ < _; omega
          have hmost := HI.out.most
          obtain ⟨m, q, n, t, v⟩ := x
          cases q with
          | false =>
            have e1 : toldF c ⟨m, false, n, t, v⟩ = (⟨m, false, n, t, v⟩, 0) := rfl
            rw [e1, if_pos rfl] at hT
            have HT := hid hT
            clear hT e1 h40
            unfold avV at HCut
            go_wp2_with fail
            refine (HCut.out _).mono ?_
            rintro e w1 ⟨rfl, hk1⟩
            have HSep := hid (fun e : (Value.slice p acc.length cap).ownBlock = some w1.heap.size => show False by have := (OwnG.block HI.out.own e).2.2; have := hk1.size; omega)
            have HA3 : Hid (AvAt (w1.alloc (.cells #[.bool m, .bool false, .int .i64 n, .int .i64 t, .string v] 72)) w1.heap.size ⟨m, false, n, t, v⟩) := AvAt.new w1 ⟨m, false, n, t, v⟩
            have hk3 : Kept (fun _ => False) wr (w1.alloc (.cells #[.bool m, .bool false, .int .i64 n, .int .i64 t, .string v] 72)) := hk1.alloc _
            obtain ⟨a0, a1, a2, a3, a4⟩ := HA3.out.cells
            simp only at a1
            have HC3 := hid (HI.out.cov.kept0 hk3)
            have HO3 := hid (OwnG.kept0 HI.out.own hk3)
            have HK3 := hid (HI.out.kept.trans hk3)
            have HF := hid HI.out.few
            have HS := hid HI.out.secret
            clear hk1 hk3 HI a0 a2 a3 a4
            go_upto_region 13 with fail
            generalize w1.alloc (.cells #[.bool m, .bool false, .int .i64 n, .int .i64 t, .string v] 72) = W3 at *
            generalize w1.heap.size = bx at *
            clear a1
            obtain ⟨a0, a1, a2, a3, a4⟩ := HA3.out.cells
            simp only at a0 a1 a2 a3 a4
            have hown4 := World.ownsRow.alloc HO3.out (.cells #[.bool m, .bool false, .int .i64 n, .int .i64 t, .string v] 72)
            have hs3 := HK3.out.size
            go_wp2_with (at_builtin; refine wpList_append_own _ rfl _ _ 22 rfl w.heap.size 72 i0 (.agg #[.bool false, .bool false, .int .i64 0, .int .i64 0, .string ⟨#[]⟩]) 5 40 Tryz.underlying22 hi hz0 hz1 hz2 rfl (by decide) _ _ _ rfl hown4 ⟨W3.heap.size, 0, none⟩ 1 1 [.bool m, .bool false, .int .i64 n, .int .i64 t, .string v] rfl rfl ?c1 ?c2 ?c3 ?c4 ?c5 ?_)
            case c1 => exact cells_new W3 [.bool m, .bool false, .int .i64 n, .int .i64 t, .string v] _
            case c2 => intro u hu; simp at hu; rcases hu with rfl | rfl | rfl | rfl | rfl <;> rfl
            case c3 => unfold maxLen; omega
            case c4 => omega
            case c5 => simp; omega
            intro v5 w5 hown5 hg5 _
            have HO5 := hid (own_moreAv (x := ⟨m, false, n, t, v⟩) hown5)
            have hk5 : Kept (fun i => (Value.slice p acc.length cap).ownBlock = some i) W3 w5 := ((Kept.refl _ W3).alloc _).grown hg5 (fun j hj => Or.inr hj)
            have HA5 := hid (HA3.out.kept hk5 (fun e => HSep.out e))
            have HC5 := hid (HC3.out.kept hk5 (OwnAv.cover HO3.out HC3.out))
            have HK5 := hid (HK3.out.andThen hk5 (fun i hi e => by have := (OwnG.block HO3.out e).2.1; omega))
            clear hown5 hg5 hown4 a0 a1 a2 a3 a4 hk5
            obtain ⟨a0, a1, a2, a3, a4⟩ := HA5.out.cells
            simp only at a0 a1 a2 a3 a4
            have HP5 := hid (pass_any w.heap.size c ⟨m, false, n, t, v⟩ w5 HC5.out)
            unfold avV at HP5
            go_wp2_with fail
            refine HP5.out.mono ?_
            rintro e w6 ⟨rfl, hc6, hk6⟩
            have HN : Hid (GetI w s R w.heap.size d2 (acc ++ [⟨m, false, n, t, v⟩]) v5 (passF c ⟨m, false, n, t, v⟩) w6) :=
              ⟨OwnG.keptS HO5.out hk6 (fun i hi e => OwnAv.cover HO5.out HC5.out (by rw [hi, e])), hc6, few_pass HF.out (by have := HSz.out; show _ ≤ 1000000; simp only at this ⊢; omega), (passF_secret _ _).trans HS.out, HT.out, by omega, by have := H40.out; simp; omega, HK5.out.andThen hk6 (fun i hi e => by omega)⟩
            clear hc6 hk6 HP5 a0 a1 a2 a3 a4
            go_wp2
            exact ⟨⟨_, _, _, rfl, HN.out⟩, by simp [strV]; omega⟩
          | true =>
            have e1 : toldF c ⟨m, true, n, t, v⟩ = (⟨m, true, n, t, (showF c t v).1⟩, (showF c t v).2) := rfl
            rw [e1] at hT
            simp only at hT HSz
            have HSh := hid (fun W (hk : Kept (fun _ => False) w W) => show_any c t v HI.out.few HSz.out W (fun h => (HM.out (by rw [← HI.out.secret]; exact (lacksF_0 h).1)).kept hk))
            have HVz : Hid ((showF c t v).1.size ≤ 1002) := toldF_size (c := c) (x := ⟨m, true, n, t, v⟩) HSz.out
            obtain ⟨v', hv'⟩ : ∃ v', v' = (showF c t v).1 := ⟨_, rfl⟩
            rw [← hv'] at HSh HVz hT
            clear hv' e1 h40 HSz
            unfold avV at HCut
            unfold cvV at HSh
            by_cases h2 : (showF c t v).2 = 0
            · rw [if_pos h2] at hT
              rw [h2] at HSh
              have HT := hid hT
              have HSz := HVz
              clear hT h2 HVz
              go_wp2_with fail
              refine (HCut.out _).mono ?_
              rintro e w1 ⟨rfl, hk1⟩
              have HSep := hid (fun e : (Value.slice p acc.length cap).ownBlock = some w1.heap.size => show False by have := (OwnG.block HI.out.own e).2.2; have := hk1.size; omega)
              have hb1 : Hid (wr.heap.size ≤ w1.heap.size) := hk1.size
              have HA2 : Hid (AvAt (w1.alloc (.cells #[.bool m, .bool true, .int .i64 n, .int .i64 t, .string v] 72)) w1.heap.size ⟨m, true, n, t, v⟩) := AvAt.new w1 ⟨m, true, n, t, v⟩
              have hk2 : Kept (fun _ => False) wr (w1.alloc (.cells #[.bool m, .bool true, .int .i64 n, .int .i64 t, .string v] 72)) := hk1.alloc _
              obtain ⟨a0, a1, a2, a3, a4⟩ := HA2.out.cells
              simp only at a0 a1 a2 a3 a4
              have HC2 := hid (HI.out.cov.kept0 hk2)
              obtain ⟨c0, c1, c2⟩ := HC2.out.cells
              have HK2 := hid hk2
              have HW := hid (HI.out.kept.trans hk2)
              clear hk1 hk2
              go_upto_region 10 with fail
              generalize w1.alloc (.cells #[.bool m, .bool true, .int .i64 n, .int .i64 t, .string v] 72) = W2 at *
              generalize w1.heap.size = bx at *
              go_wp2_with fail
              refine (HSh.out _ HW.out).mono ?_
              rintro e w3 ⟨rfl, hk3⟩
              have HA2' := HA2.out.kept0 hk3
              have f4 := HA2'.frozen 4
              have hk4 : Kept (fun _ => False) wr (w3.setCell ⟨bx, 4, none⟩ (.string v')) := (HK2.out.trans hk3).setCell (Or.inl hb1.out) _
              have HA3 : Hid (AvAt (w3.setCell ⟨bx, 4, none⟩ (.string v')) bx ⟨m, true, n, t, v'⟩) := HA2'.setValue v'
              have HC3 := hid (HI.out.cov.kept0 hk4)
              have HO3 := hid (OwnG.kept0 HI.out.own hk4)
              have HK3 := hid (HI.out.kept.trans hk4)
              have HF := hid HI.out.few
              have HS := hid HI.out.secret
              obtain ⟨b0, b1, b2, b3, b4⟩ := HA2'.cells
              simp only at b0 b1 b2 b3 b4
              clear a0 a1 a2 a3 a4 c0 c1 c2 hk3 hk4 HI HK2 HC2 HA2' HA2 HW
              go_upto_region 13 with fail
              generalize w3.setCell ⟨bx, 4, none⟩ (.string v') = W3 at *
              clear b0 b1 b2 b3 b4 f4
              obtain ⟨a0, a1, a2, a3, a4⟩ := HA3.out.cells
              simp only at a0 a1 a2 a3 a4
              have hown4 := World.ownsRow.alloc HO3.out (.cells #[.bool m, .bool true, .int .i64 n, .int .i64 t, .string v'] 72)
              have hs3 := HK3.out.size
              go_wp2_with (at_builtin; refine wpList_append_own _ rfl _ _ 22 rfl w.heap.size 72 i0 (.agg #[.bool false, .bool false, .int .i64 0, .int .i64 0, .string ⟨#[]⟩]) 5 40 Tryz.underlying22 hi hz0 hz1 hz2 rfl (by decide) _ _ _ rfl hown4 ⟨W3.heap.size, 0, none⟩ 1 1 [.bool m, .bool true, .int .i64 n, .int .i64 t, .string v'] rfl rfl ?c1 ?c2 ?c3 ?c4 ?c5 ?_)
              case c1 => exact cells_new W3 [.bool m, .bool true, .int .i64 n, .int .i64 t, .string v'] _
              case c2 => intro u hu; simp at hu; rcases hu with rfl | rfl | rfl | rfl | rfl <;> rfl
              case c3 => unfold maxLen; omega
              case c4 => omega
              case c5 => simp; omega
              intro v5 w5 hown5 hg5 _
              have HO5 := hid (own_moreAv (x := ⟨m, true, n, t, v'⟩) hown5)
              have hk5 : Kept (fun i => (Value.slice p acc.length cap).ownBlock = some i) W3 w5 := ((Kept.refl _ W3).alloc _).grown hg5 (fun j hj => Or.inr hj)
              have HA5 := hid (HA3.out.kept hk5 (fun e => HSep.out e))
              have HC5 := hid (HC3.out.kept hk5 (OwnAv.cover HO3.out HC3.out))
              have HK5 := hid (HK3.out.andThen hk5 (fun i hi e => by have := (OwnG.block HO3.out e).2.1; omega))
              clear hown5 hg5 hown4 a0 a1 a2 a3 a4 hk5
              obtain ⟨a0, a1, a2, a3, a4⟩ := HA5.out.cells
              simp only at a0 a1 a2 a3 a4
              have HP5 := hid (pass_any w.heap.size c ⟨m, true, n, t, v'⟩ w5 HC5.out)
              unfold avV at HP5
              go_wp2_with fail
              refine HP5.out.mono ?_
              rintro e w6 ⟨rfl, hc6, hk6⟩
              have HN : Hid (GetI w s R w.heap.size d2 (acc ++ [⟨m, true, n, t, v'⟩]) v5 (passF c ⟨m, true, n, t, v'⟩) w6) :=
                ⟨OwnG.keptS HO5.out hk6 (fun i hi e => OwnAv.cover HO5.out HC5.out (by rw [hi, e])), hc6, few_pass HF.out (by have := HSz.out; show _ ≤ 1000000; simp only at this ⊢; omega), (passF_secret _ _).trans HS.out, HT.out, by omega, by have := H40.out; simp; omega, HK5.out.andThen hk6 (fun i hi e => by omega)⟩
              clear hc6 hk6 HP5 a0 a1 a2 a3 a4
              go_wp2
              exact ⟨⟨_, _, _, rfl, HN.out⟩, by simp [strV]; omega⟩
            · rw [if_neg h2] at hT
              have hne : ((showF c t v).2 != 0) = true := by rw [bne_iff_ne]; exact h2
              have HT := hid hT
              generalize (showF c t v).2 = L at *
              clear hT h2
              go_wp2_with fail
              refine (HCut.out _).mono ?_
              rintro e w1 ⟨rfl, hk1⟩
              have HA2 : Hid (AvAt (w1.alloc (.cells #[.bool m, .bool true, .int .i64 n, .int .i64 t, .string v] 72)) w1.heap.size ⟨m, true, n, t, v⟩) := AvAt.new w1 ⟨m, true, n, t, v⟩
              have hk2 : Kept (fun _ => False) wr (w1.alloc (.cells #[.bool m, .bool true, .int .i64 n, .int .i64 t, .string v] 72)) := hk1.alloc _
              have hb1 : Hid (wr.heap.size ≤ w1.heap.size) := hk1.size
              obtain ⟨a0, a1, a2, a3, a4⟩ := HA2.out.cells
              simp only at a0 a1 a2 a3 a4
              have HC2 := hid (HI.out.cov.kept0 hk2)
              obtain ⟨c0, c1, c2⟩ := HC2.out.cells
              have HK2 := hid hk2
              have HW := hid (HI.out.kept.trans hk2)
              clear hk1 hk2
              go_upto_region 10 with fail
              generalize w1.alloc (.cells #[.bool m, .bool true, .int .i64 n, .int .i64 t, .string v] 72) = W2 at *
              generalize w1.heap.size = bx at *
              go_wp2_with fail
              refine (HSh.out _ HW.out).mono ?_
              rintro e w3 ⟨rfl, hk3⟩
              have HA2' := HA2.out.kept0 hk3
              have f4 := HA2'.frozen 4
              have hk4 : Kept (fun _ => False) wr (w3.setCell ⟨bx, 4, none⟩ (.string v')) := (HK2.out.trans hk3).setCell (Or.inl hb1.out) _
              have HK3 := hid (HI.out.kept.trans hk4)
              obtain ⟨b0, b1, b2, b3, b4⟩ := HA2'.cells
              simp only at b0 b1 b2 b3 b4
              clear a0 a1 a2 a3 a4 c0 c1 c2 hk3 hk4 HI HK2 HC2 HA2' HA2 HW
              go_wp2
              go_ret2
              exact ⟨_, by rw [← HT.out]; rfl, by rw [← HT.out]; exact OwnG.nil _ _, HK3.out⟩
      · rw [if_neg he] at hT
        have hne : ((cutF d).2.2 != 0) = true := by rw [bne_iff_ne]; exact he
        have HT := hid hT
        generalize (cutF d).2.2 = L at *
        generalize (cutF d).2.1 = Y at *
        generalize (cutF d).1 = x at *
        have HK := hid HI.out.kept
        clear hT he h0 HI
        unfold avV at HCut
        go_wp2_with fail
        refine (HCut.out _).mono ?_
        rintro e w1 ⟨rfl, hk1⟩
        have HK1 := hid ((HK.out.trans hk1).alloc (.cells #[.bool x.must, .bool x.hidden, .int .i64 x.vendor, .int .i64 x.type, .string x.value] 72))
        clear hk1
        go_wp2
        go_ret2
        exact ⟨_, by rw [← HT.out]; rfl, by rw [← HT.out]; exact OwnG.nil _ _, HK1.out⟩
end Go.Proofs.YtkneogfeokckjaaGreatDoor
