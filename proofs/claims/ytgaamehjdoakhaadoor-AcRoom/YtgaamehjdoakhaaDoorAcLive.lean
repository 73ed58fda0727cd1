/- The contract of Conc.Live: all sessions, by their numbers. -/
import Derived.Test.YtgaamehjdoakhaaDoorAcSort2
namespace Go.Proofs.YtgaamehjdoakhaaDoor
open Go.RowKit

theorem infoSess : (Tryd.prog.info? 58).map (fun i => (i.zero, i.size, i.bytes)) = some (some (.agg #[.int .u8 0, .int .u8 0, .int .u8 0, .int .u8 0, .int .u8 0, .int .u8 0, .int .i64 0, .string ⟨#[]⟩, .bool false]), 9, 40) := by kernel_rfl

theorem cells_nine_new (w : World) (cs : Array Value) (t : TypeId) : ∀ (j : Nat) (u : Value), cs.toList[j]? = some u → (w.alloc (.cells cs t)).cell? ((⟨w.heap.size, 0, none⟩ : Addr).add j) = some u := by
  intro j u h
  rw [addr_add, World.cell?_alloc_new]
  simpa using h

/-- A range over the sessions under way: C collected in a row of the call's own, Ns to come. -/
structure Coll (w wr : World) (mb r : Nat) (ss C Ns : List Sn) (v : Value) : Prop where
  rg : Ranging wr Tryd.prog 27 mb r (ss.map snV) (Ns.map snV)
  own : wr.ownsRow w.heap.size 58 9 v C.length (rowS C)
  perm : (C ++ Ns).Perm ss
  kept : Kept (fun _ => False) w wr

theorem Coll.nr {w wr : World} {mb r : Nat} {ss C Ns : List Sn} {v : Value} (h : Coll w wr mb r ss C Ns v) : some r ≠ v.ownBlock := fun e => by
  obtain ⟨es, clock, since, seen, c0, _, _, _, _, _, hr, _⟩ := h.rg
  rcases h.own.2 with ⟨rfl, _⟩ | ⟨g, cap, cur, rfl, hb, hg, _⟩
  · cases e
  · have : r = g := by simpa [Value.ownBlock] using e
    rw [this, hg] at hr
    cases hr
theorem Coll.nm {w wr : World} {mb r : Nat} {ss C Ns : List Sn} {v : Value} (h : Coll w wr mb r ss C Ns v) (hm : mb < w.heap.size) : some mb ≠ v.ownBlock := fun e => by
  have := (World.ownsRow.lt h.own mb e.symm).1
  omega
theorem own_grown {base : Nat} {w w' : World} {v : Value} {C : List Sn} {r : Nat} (h : w.ownsRow base 58 9 v C.length (rowS C)) (hg : w.grownBy w' (some r)) (hn : some r ≠ v.ownBlock) : w'.ownsRow base 58 9 v C.length (rowS C) := by
  rcases h.2 with ⟨rfl, h0⟩ | ⟨g, cap, cur, rfl, hb, hh, h1, h2, h3, h4⟩
  · exact ⟨h.1, Or.inl ⟨rfl, h0⟩⟩
  · exact ⟨h.1, Or.inr ⟨g, cap, cur, rfl, hb, (hg.block g (Array.getElem?_eq_some_iff.1 hh).1 (fun e => hn (by rw [← e]; rfl))).trans hh, h1, h2, h3, h4⟩⟩

set_option maxHeartbeats 2000000 in
set_option maxRecDepth 100000 in
theorem live_any {S : Nat → Prop} (b : Nat) (c : Cs) (hg : Good c) (w : World) (hA : CAt S w b c) :
    Calls Tryd.prog 13 #[.pointer (some ⟨b, 0, none⟩)] w fun e w' => ∃ v L, e = .returned v ∧ L.Perm c.sess ∧ SortedNum L ∧ SessAt w' v L ∧ Kept (fun _ => False) w w' := by
  obtain ⟨mb, gv, hC, hS⟩ := hA
  obtain ⟨i0, hi, hz0, hz1, hz2⟩ := info_parts infoSess
  obtain ⟨x0, x1, x2, x3, x4, x5, hx⟩ := six_cells hg.mac
  have hcc := hC.cells hx
  have c6 := hcc.c6
  have c10 := hcc.c10
  have hisn := isNone_some b c.name
  have hne : c.name.toList.isEmpty = false := by
    have h1 := hg.name1
    rw [ByteArray.toList_eq]
    rw [Lib.size_eq] at h1
    cases hq : c.name.data.toList with
    | nil => rw [hq] at h1; simp at h1
    | cons a r => rfl
  rw [hne] at hisn
  have hlen : c.sess.length ≤ 60 := by have := hg.len; have := hg.most; omega
  have hl := fun ty => hC.ses.len ty
  have hids : ∀ x ∈ c.sess, x.mac.length = 6 := fun x hx => (hg.ids x hx).1
  have hmlt : mb < w.heap.size := hC.lt (Or.inr (Or.inl rfl))
  have HC := hid hC
  clear hC hg hcc hS hne
  go_enter Tryd.func13, Tryd.ntmps13
  go_wp2_with fail
  refine (hisn w c6).mono ?_
  rintro e w' ⟨rfl, rfl⟩
  go_wp2_with (at_make; refine wpList_make_own _ rfl _ _ 44 rfl w'.heap.size 58 i0 (.agg #[.int .u8 0, .int .u8 0, .int .u8 0, .int .u8 0, .int .u8 0, .int .u8 0, .int .i64 0, .string ⟨#[]⟩, .bool false]) 9 Tryd.underlying44 hi hz0 hz1 .i64 .i64 _ c.sess.length rfl rfl ?m1 ?m2 ?m3 ?m4 ?_)
  case m1 => omega
  case m2 => rw [hz2]; omega
  case m3 => unfold maxLen; omega
  case m4 => exact Nat.le_refl _
  intro w1 hown1 hg1
  have hk1 : Kept (fun _ => False) w' w1 := (Kept.refl _ w').grown hg1 (fun j hj => by cases hj)
  have hC1 := HC.out.kept0 hk1
  have c10' := (hC1.cells hx).c10
  have hses : Assoc w1 Tryd.prog 27 mb (c.sess.map snV) := hC1.ses
  clear c10 c6 hl hC1
  go_wp2_with (first | (at_range; refine wpList_range_assoc _ rfl _ 31 rfl 27 82 Tryd.underlying31 mb _ rfl hses w1.heap.size rfl ?_; intro w2 hrg2 hg2 hs2) | go_in)
  have hst : Coll w' w2 mb w1.heap.size c.sess [] c.sess (.slice _ 0 _) := ⟨hrg2, (World.ownsRow.kept hown1 hg2 (Or.inr (by simp [Value.ownBlock]))), List.Perm.refl _, hk1.grown hg2 (fun j hj => by cases hj)⟩
  have hr1 : w'.heap.size ≤ w1.heap.size := hk1.size
  clear hrg2 hg2 hs2 hses hown1 hg1 hk1 c10'
  generalize w1.heap.size = r at *
  go_frame
  go_loopw [3, 4, 5] (fun v _ _ wr => ∃ C Ns, Coll w' wr mb r c.sess C Ns v) (fun _ _ _ wr => wr.rangeLeft mb r)
  case atStart => exact ⟨[], _, hst⟩
  case round =>
    obtain ⟨C, Ns, hco⟩ := hrel
    have hNi : ∀ x ∈ Ns, x.mac.length = 6 := fun x hx => hids x (hco.perm.mem_iff.1 (List.mem_append_right _ hx))
    have hCl : C.length + Ns.length = c.sess.length := by have := hco.perm.length_eq; simpa using this
    go_wp2_with (first | (at_next; refine wpList_next_ranging _ rfl _ rfl 27 mb r c.sess Ns hNi rfl hco.rg ?_ ?_) | go_in)
    · intro hN
      subst hN
      have hp : C.Perm c.sess := by simpa using hco.perm
      have HS := hid (sort_any w'.heap.size _ C (by omega) wr hco.own)
      have Hlt := hid (fun i h => (World.ownsRow.lt hco.own i h).1)
      have Hk := hid hco.kept
      obtain ⟨p3, c3, rfl⟩ := slice_of hco.own
      clear hco hst hNi
      go_wp2_with fail
      refine HS.out.mono ?_
      rintro e w3 ⟨rfl, L, hL1, hL2, hL3, hL4⟩
      go_wp2
      go_ret
      refine ⟨_, L, rfl, hL1.trans hp, hL2, hL3, ?_⟩
      exact Hk.out.andThen hL4 (fun i hi e => by have := Hlt.out i e; omega)
    · intro x Ms w2 a0 a1 a2 a3 a4 a5 ha hpN hrg2 hg2 hs2 hen
      have hxl : x.mac.length = 6 := hNi x (hpN.mem_iff.2 (List.mem_cons_self ..))
      have hk2 : Kept (fun _ => False) w' w2 := hco.kept.grown hg2 (fun j hj => by cases hj; exact Or.inl hr1)
      have hown2 := own_grown hco.own hg2 hco.nr
      have hmeas : Ms.length < Ns.length := by rw [hpN.length_eq]; simp
      have HML : Hid (wr.rangeLeft mb r = (Ns.map snV).length) := hco.rg.left_eq
      have hperm : ((C ++ [x]) ++ Ms).Perm c.sess := by
        rw [List.append_assoc]
        exact (List.Perm.append_left C hpN.symm).trans hco.perm
      have hsn : snCells x = [.int .u8 a0, .int .u8 a1, .int .u8 a2, .int .u8 a3, .int .u8 a4, .int .u8 a5, .int .i64 (x.num : Int), .string x.uniq, .bool x.used] := by unfold snCells; rw [fit6_self hxl, ha]; rfl
      have hnm2 : Coll w' w2 mb r c.sess C (x :: Ms) u3 → True := fun _ => trivial
      have Hco2 : Hid (Ranging w2 Tryd.prog 27 mb r (c.sess.map snV) (Ms.map snV) ∧ some r ≠ u3.ownBlock ∧ some mb ≠ u3.ownBlock) := ⟨hrg2, hco.nr, hco.nm hmlt⟩
      have hrlt : r < w2.heap.size := hrg2.lt
      have hws : w'.heap.size ≤ w2.heap.size := hk2.size
      clear hnm2 hco hst hrg2 hg2 hs2 hNi
      go_wp2_with (at_builtin; refine wpList_append_own _ rfl _ _ 44 rfl w'.heap.size 58 i0 (.agg #[.int .u8 0, .int .u8 0, .int .u8 0, .int .u8 0, .int .u8 0, .int .u8 0, .int .i64 0, .string ⟨#[]⟩, .bool false]) 9 40 Tryd.underlying44 hi hz0 hz1 hz2 rfl (by decide) _ _ _ rfl (((hown2.alloc _).alloc _).alloc _) ⟨w2.heap.size + 1 + 1, 0, none⟩ 1 1 (snCells x) rfl (by rw [snCells_length]) ?c1 (snCells_one x) ?c3 ?c4 ?c5 ?_)
      case c1 =>
        rw [hsn]
        intro j u hj
        have h := cells_nine_new ((w2.alloc (.cells #[.int .u8 a0, .int .u8 a1, .int .u8 a2, .int .u8 a3, .int .u8 a4, .int .u8 a5, .int .i64 (x.num : Int)] 27)).alloc (.cells #[.string x.uniq, .bool x.used] 82)) #[.int .u8 a0, .int .u8 a1, .int .u8 a2, .int .u8 a3, .int .u8 a4, .int .u8 a5, .int .i64 (x.num : Int), .string x.uniq, .bool x.used] 58 j u hj
        simpa using h
      case c3 => unfold maxLen; omega
      case c4 => omega
      case c5 => simp; omega
      intro v' w4 hown' hgrow _
      have R : Coll w' w4 mb r c.sess (C ++ [x]) Ms v' := by
        refine ⟨?_, ?_, hperm, ?_⟩
        · exact (((Hco2.out.1.kept (World.grownBy_alloc _ _ none) (by simp) (by simp)).kept (World.grownBy_alloc _ _ none) (by simp) (by simp)).kept (World.grownBy_alloc _ _ none) (by simp) (by simp)).kept hgrow Hco2.out.2.2 Hco2.out.2.1
        · rw [rowS_append, rowS_one, List.length_append, hsn]
          exact hown'
        · exact (((hk2.alloc _).alloc _).alloc _).grown hgrow (fun j hj => Or.inl (World.ownsRow.lt hown2 j hj).1)
      have ML := R.rg.left_eq
      clear hown' hgrow hown2 Hco2
      go_wp2
      go_roundw
      case rel => exact ⟨_, _, R⟩
      case measure => rw [ML, HML.out]; simpa using hmeas
end Go.Proofs.YtgaamehjdoakhaaDoor
