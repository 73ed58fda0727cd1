/- The document's own store (tollgateref13) in memory, and the contracts of NewStore, Split, find, shut, judge, Set, Pap, Chap, Wrong. -/
import Derived.Test.YtmbdjgfbhblifaaDoorStPlain
import Derived.Test.YtmbdjgfbhblifaaDoorGRow
import Derived.Test.YtmbdjgfbhblifaaDoorTagKit
import Derived.Deep.RegionHeld3
import Derived.Deep.DeepCutAuto
import Derived.DeepKeys
import Derived.BigQuiet
namespace Go.Proofs.YtmbdjgfbhblifaaDoor
open Go.RowKit

def knCells (k : Kn) : List Value := [.string k.name, .string k.realm, .string k.secret, .int .i64 k.wrong, .int .i64 k.last]
theorem encK : EncG knCells 5 := ⟨fun _ => rfl, fun x u hu => by simp [knCells] at hu; rcases hu with rfl | rfl | rfl | rfl | rfl <;> rfl, by decide⟩
theorem tyK : TyG Tryd.prog 34 58 5 (.agg #[.string ⟨#[]⟩, .string ⟨#[]⟩, .string ⟨#[]⟩, .int .i64 0, .int .i64 0]) 64 := ⟨Tryd.underlying34, by kernel_rfl, rfl, by decide⟩

/-- The document's store at block b: its limit, its calm, and its names in a row at base or behind. -/
structure SrIn (w : World) (base b : Nat) (v : Value) (limit calm : Int) (l : List Kn) : Prop where
  blk : w.heap[b]? = some (.cells #[.int .i64 limit, .int .i64 calm, v] 36 (0, 0))
  own : OwnG knCells 5 58 w base v l

section
variable {w w' : World} {base b : Nat} {v : Value} {limit calm : Int} {l : List Kn}
theorem SrIn.lt (h : SrIn w base b v limit calm l) : b < w.heap.size := (Array.getElem?_eq_some_iff.1 h.blk).1
theorem SrIn.c0 (h : SrIn w base b v limit calm l) : w.cell? ⟨b, 0, none⟩ = some (.int .i64 limit) := by simp [World.cell?, h.blk]
theorem SrIn.c1 (h : SrIn w base b v limit calm l) : w.cell? ⟨b, 1, none⟩ = some (.int .i64 calm) := by simp [World.cell?, h.blk]
theorem SrIn.c2 (h : SrIn w base b v limit calm l) : w.cell? ⟨b, 2, none⟩ = some v := by simp [World.cell?, h.blk]
theorem SrIn.fz (h : SrIn w base b v limit calm l) (i : Nat) : w.frozen? ⟨b, i, none⟩ = false := by simp [World.frozen?, h.blk]
theorem SrIn.kept0 (h : SrIn w base b v limit calm l) (hk : Kept (fun _ => False) w w') : SrIn w' base b v limit calm l := ⟨(hk.block b h.lt id).trans h.blk, h.own.kept0 hk⟩
/-- The row is no store. -/
theorem SrIn.ne (h : SrIn w base b v limit calm l) {i : Nat} (hi : v.ownBlock = some i) : i ≠ b := fun e => by
  obtain ⟨⟨cur, h1⟩, _⟩ := h.own.block hi
  subst e
  rw [h.blk] at h1
  simp at h1
end

set_option maxHeartbeats 1000000 in
set_option maxRecDepth 100000 in
/-- The document's Split. -/
theorem rSplit_any (s : ByteArray) (hs : s.size ≤ 140737488351232) (w : World) :
    Calls Tryd.prog 14 #[.string s] w fun e w' => e = .returned (.agg #[.string (splitF s).1, .string (splitF s).2]) ∧ Kept (fun _ => False) w w' := by
  obtain ⟨R, hR⟩ : ∃ R, R = splitF s := ⟨_, rfl⟩
  have HR := hid hR
  rw [← hR]
  have H0 : Hid ((w.alloc (.cells #[.string ⟨#[]⟩, .string ⟨#[]⟩] 43)).heap[w.heap.size]? = some (.cells #[.string ⟨#[]⟩, .string ⟨#[]⟩] 43 (0, 0))) := heap_alloc_new w _
  have K0 := hid ((Kept.refl (fun _ => False) w).alloc (.cells #[.string ⟨#[]⟩, .string ⟨#[]⟩] 43))
  have hw0 : IntKind.i64.wrap ((s.size : Int) - 1) = (s.size : Int) - 1 := by rw [IntKind.wrap_i64]; omega
  clear hR
  go_enter Tryd.func14, Tryd.ntmps14
  go_upto_region 1 with fail
  generalize w.alloc (.cells #[.string ⟨#[]⟩, .string ⟨#[]⟩] 43) = W at *
  have o0 : W.cell? ⟨w.heap.size, 0, none⟩ = some (.string ⟨#[]⟩) := by simp [World.cell?, H0.out]
  have o1 : W.cell? ⟨w.heap.size, 1, none⟩ = some (.string ⟨#[]⟩) := by simp [World.cell?, H0.out]
  have f0 : W.frozen? ⟨w.heap.size, 0, none⟩ = false := by simp [World.frozen?, H0.out]
  have f1 : W.frozen? ⟨w.heap.size, 1, none⟩ = false := by simp [World.frozen?, H0.out]
  go_wp2
  go_loopw [3] (fun vi wr => ∃ j : Nat, j ≤ s.size ∧ vi = .int .i64 ((j : Int) - 1) ∧ wr = W ∧ Hid (splitN s j = R)) (fun vi _ => (intOf vi + 1).toNat)
  case atStart => exact ⟨s.size, Nat.le_refl _, rfl, rfl, HR.out.symm⟩
  case round =>
    obtain ⟨j, hj, rfl, rfl, HJ⟩ := hrel
    cases j with
    | zero =>
      have hR : R = (s, ⟨#[]⟩) := HJ.out.symm
      subst hR
      have hz : ¬ (0 : Int) ≤ ((0 : Nat) : Int) - 1 := by omega
      clear HJ HR
      go_wp2
      refine bodyPost_ret (v := .agg #[.string s, .string ⟨#[]⟩]) (by simp [results, Tryd.results14, go_sem, o0, o1]) rfl ⟨rfl, ?_⟩
      exact (K0.out.setCell (Or.inl (Nat.le_refl _)) _).setCell (Or.inl (Nat.le_refl _)) _
    | succ j =>
      have e1 : (((j + 1 : Nat) : Int) - 1) = (j : Int) := by omega
      rw [e1]
      have hz : (0 : Int) ≤ (j : Int) := by omega
      have x0 := index_at s j (by omega) (j : Int) rfl
      have bA := (s.data.toList.getD j 0).toNat_lt
      by_cases hq : s.data.toList.getD j 0 = 64
      · have hR : R = (s.extract 0 j, s.extract (j + 1) s.size) := by
          have := HJ.out
          unfold splitN at this
          rw [if_pos hq] at this
          exact this.symm
        subst hR
        rw [hq] at x0
        have y1 := first_at s j (by omega) (j : Int) rfl
        have y2 := last_at s (j + 1) (by omega) ((j : Int) + 1) (by omega)
        have hw1 : IntKind.i64.wrap ((j : Int) + 1) = (j : Int) + 1 := by rw [IntKind.wrap_i64]; omega
        generalize hP : s.extract 0 j = P at *
        generalize hQ : s.extract (j + 1) s.size = Q at *
        have HP := hid hP
        have HQ := hid hQ
        clear HJ HR hP hQ
        go_wp2
        go_region
        all_goals
          go_wp2
          refine bodyPost_ret (v := .agg #[.string P, .string Q]) (by simp [results, Tryd.results14, go_sem, o0, o1]) rfl ⟨by rw [HP.out, HQ.out], ?_⟩
          exact ((K0.out.drew.setCell (Or.inl (Nat.le_refl _)) _).setCell (Or.inl (Nat.le_refl _)) _)
      · have HJ' : Hid (splitN s j = R) := by
          have := HJ.out
          unfold splitN at this
          rw [if_neg hq] at this
          exact this
        have hne : (((s.data.toList.getD j 0).toNat : Int) == 64) = false := by
          rw [beq_eq_false_iff_ne]
          intro e
          exact hq (UInt8.toNat_inj.1 (by show _ = 64; omega))
        generalize (s.data.toList.getD j 0).toNat = n at *
        have hw1 : IntKind.i64.wrap ((j : Int) - 1) = (j : Int) - 1 := by rw [IntKind.wrap_i64]; omega
        clear HJ hq
        go_wp2
        exact ⟨⟨j, by omega, rfl, trivial, HJ'.out⟩, by simp [intOf]⟩

/-! Two names are the same by Go's comparison just if they are. -/
theorem cellsWho : Tryd.prog.cellsOf 43 = 2 := by kernel_rfl
theorem cellsStrS : Tryd.prog.cellsOf 9 = 1 := by kernel_rfl
theorem who_lits (d : Nat) (n r : ByteArray) (hn : n.size ≤ maxLen) (hr : r.size ≤ maxLen) : Tryd.prog.keyLits (d + 2) 43 [.string n, .string r] = some [.string n.data.toList, .string r.data.toList] := by
  have h2 : ∀ x : ByteArray, x.size ≤ maxLen → Tryd.prog.keyLits (d + 1) 9 [.string x] = some [.string x.data.toList] := fun x hx => by
    unfold Program.keyLits
    rw [Tryd.underlying9]
    simp [hx]
  unfold Program.keyLits
  rw [Tryd.underlying43]
  simp [cellsWho, cellsStrS, h2 n hn, h2 r hr]
theorem who_eq (a b c d : ByteArray) (ha : a.size ≤ maxLen) (hb : b.size ≤ maxLen) (hc : c.size ≤ maxLen) (hd : d.size ≤ maxLen) (W : World) :
    Sem.run Tryd.prog (Op.equalIn 10000 43 (.agg #[.string a, .string b]) (.agg #[.string c, .string d])) W = .ok (decide (a = c ∧ b = d)) W := by
  have hk : Tryd.prog.keyTypeAt 2 43 = true := by kernel_rfl
  have hf : ∀ x y : ByteArray, (Value.agg #[.string x, .string y]).formed Tryd.prog 43 = true := fun x y => by simp [Value.formed, Tryd.underlying43, cellsWho]
  obtain ⟨r, hr, hiff⟩ := run_equalIn_deep (P := Tryd.prog) 9998 2 43 hk W 2 2 (.agg #[.string a, .string b]) (.agg #[.string c, .string d]) _ _ (hf a b) (hf c d) (who_lits 0 a b ha hb) (who_lits 0 c d hc hd)
  have hr' : (Op.equalIn 10000 43 (.agg #[.string a, .string b]) (.agg #[.string c, .string d])).run Tryd.prog W = .ok r W := hr
  have hd : decide (a = c ∧ b = d) = r := by
    cases r with
    | true =>
      have h3 := hiff.1 rfl
      simp only [List.cons.injEq, Lit.string.injEq, and_true] at h3
      exact decide_eq_true ⟨bytes_ext h3.1, bytes_ext h3.2⟩
    | false =>
      refine decide_eq_false (fun h => ?_)
      have := hiff.2 (by rw [h.1, h.2])
      cases this
  rw [hd]
  exact hr'

/-- What find answers. -/
def idxI (o : Option Nat) : Int := match o with | none => -1 | some i => (i : Int)
theorem find_go {l : List Kn} {p : ByteArray × ByteArray} {j : Nat} {x : Kn} (h : findK (l.take j) p = none) (hx : l[j]? = some x) (hp : hitK p x = false) : findK (l.take (j + 1)) p = none := by
  unfold findK at *
  rw [List.findIdx?_eq_none_iff] at *
  intro y hy
  rw [List.take_add_one, hx] at hy
  rcases List.mem_append.1 hy with hy | hy
  · exact h y hy
  · simp at hy
    rw [hy]
    exact hp
theorem find_at {l : List Kn} {p : ByteArray × ByteArray} {j : Nat} {x : Kn} (h : findK (l.take j) p = none) (hx : l[j]? = some x) (hp : hitK p x = true) : findK l p = some j := by
  unfold findK at *
  rw [List.findIdx?_eq_none_iff] at h
  obtain ⟨hlt, he⟩ := List.getElem?_eq_some_iff.1 hx
  rw [List.findIdx?_eq_some_iff_getElem]
  refine ⟨hlt, by rw [he]; exact hp, fun i hi => ?_⟩
  have := h l[i] (by rw [List.mem_take_iff_getElem]; exact ⟨i, by omega, rfl⟩)
  simpa using this

/-- Short enough to be compared. -/
def FewK (l : List Kn) : Prop := l.length ≤ 1000 ∧ ∀ k ∈ l, k.name.size ≤ 1000000 ∧ k.realm.size ≤ 1000000 ∧ k.secret.size ≤ 1000000 ∧ 0 ≤ k.wrong ∧ k.wrong ≤ 1000000000000 ∧ -9223372036854775808 ≤ k.last ∧ k.last ≤ 9223372036854775807

set_option maxHeartbeats 2000000 in
set_option maxRecDepth 100000 in
theorem rFind_any {w : World} {base b : Nat} {v : Value} {limit calm : Int} {l : List Kn} (h : SrIn w base b v limit calm l) (hl : FewK l) (s : ByteArray) (hs : s.size ≤ 1000000) :
    Calls Tryd.prog 21 #[.pointer (some ⟨b, 0, none⟩), .string s] w fun e w' => e = .returned (.int .i64 (idxI (findK l (splitF s)))) ∧ Kept (fun _ => False) w w' := by
  obtain ⟨p, cap, rfl⟩ := slice_of h.own
  have HSp := hid (rSplit_any s (by omega))
  have hz1 := (splitF_size s).1
  have hz2 := (splitF_size s).2
  obtain ⟨F, hF⟩ : ∃ F, F = idxI (findK l (splitF s)) := ⟨_, rfl⟩
  have HF := hid hF
  rw [← hF]
  generalize splitF s = sp at *
  obtain ⟨sn, sr⟩ := sp
  simp only at HSp hz1 hz2
  have HI := hid h
  have HL := hid hl
  have hlen := hl.1
  clear h hF hl
  go_enter Tryd.func21, Tryd.ntmps21
  go_wp2
  go_loopw [5] (fun vi wr => ∃ j : Nat, j ≤ l.length ∧ vi = .int .i64 (j : Int) ∧ Hid (Kept (fun _ => False) w wr ∧ findK (l.take j) (sn, sr) = none)) (fun vi _ => l.length - (intOf vi).toNat)
  case atStart => exact ⟨0, Nat.zero_le _, rfl, Kept.refl _ _, by simp [findK]⟩
  case round =>
    obtain ⟨j, hj, rfl, HJ⟩ := hrel
    have c2 := (HI.out.kept0 HJ.out.1).c2
    by_cases hlt : j < l.length
    · have hltz : (j : Int) < (l.length : Int) := by omega
      obtain ⟨x, hx⟩ : ∃ x, l[j]? = some x := ⟨l[j], by simp [hlt]⟩
      obtain ⟨hx1, hx2, _⟩ := HL.out.2 x (List.mem_of_getElem? hx)
      obtain ⟨g, rfl, _, _, hcap, hcm, _⟩ := HI.out.own.at encK hx
      have HC : Hid (∀ W, Kept (fun _ => False) w W → ∀ i u, (knCells x)[i]? = some u → W.cell? ⟨g, j * 5 + i, none⟩ = some u) := fun W hk i u hu => by
        obtain ⟨g', e', _, _, _, _, hc, _⟩ := (HI.out.own.kept0 hk).at encK hx
        cases e'
        exact hc i u hu
      have g2 : ∀ W, Kept (fun _ => False) w W → W.cell? ⟨b, 2, none⟩ = some (.slice (some ⟨g, 0, none⟩) l.length cap) := fun W hk => (HI.out.kept0 hk).c2
      have n0 : ∀ W, Kept (fun _ => False) w W → W.cell? ⟨g, j * 5, none⟩ = some (.string x.name) := fun W hk => HC.out W hk 0 _ rfl
      have n1 : ∀ W, Kept (fun _ => False) w W → W.cell? ⟨g, j * 5 + 1, none⟩ = some (.string x.realm) := fun W hk => HC.out W hk 1 _ rfl
      have heq := who_eq x.name x.realm sn sr (by unfold maxLen; omega) (by unfold maxLen; omega) (by unfold maxLen; omega) (by unfold maxLen; omega)
      have hk0 := HJ.out.1
      have HX := hid hx
      clear HC c2 hx
      have hq : hitK (sn, sr) x = decide (x.name = sn ∧ x.realm = sr) := rfl
      generalize hB : decide (x.name = sn ∧ x.realm = sr) = B at heq hq
      have HB := hid hB
      clear hB
      go_wp2_with fail
      refine wp_region_held_drew (S := Kept (fun _ => False) w) (by kernel_rfl) (hk0.drew) (fun hSd => ?_)
      refine wpAnyH_take (i := 0) (v := ?_) rfl (by kernel_rfl) (by kernel_rfl) (by kernel_rfl) (fun _ _ _ h => h) (Or.inl ⟨by kernel_rfl, fun W hSW => by go_simp; try with_reducible rfl⟩) (by assumption) ?_
      try simp only [List.getElem_toArray]
      try simp only [List.getElem_cons_succ]
      try simp only [List.getElem_cons_zero]
      try simp only [Act.put]
      try simp only [List.setIfInBounds_toArray]
      try simp only [List.set_cons_succ]
      try simp only [List.set_cons_zero]
      refine wpAnyH_take (i := 1) (v := ?_) rfl (by kernel_rfl) (by kernel_rfl) (by kernel_rfl) (fun _ _ _ h => h) (Or.inl ⟨by kernel_rfl, fun W hSW => by go_simp; try with_reducible rfl⟩) (by assumption) ?_
      try simp only [List.getElem_toArray]
      try simp only [List.getElem_cons_succ]
      try simp only [List.getElem_cons_zero]
      try simp only [Act.put]
      try simp only [List.setIfInBounds_toArray]
      try simp only [List.set_cons_succ]
      try simp only [List.set_cons_zero]
      refine wpAnyH_take (i := 2) (v := ?_) rfl (by kernel_rfl) (by kernel_rfl) (by kernel_rfl) (fun _ _ _ h => h) (Or.inl ⟨by kernel_rfl, fun W hSW => by go_simp; try with_reducible rfl⟩) (by assumption) ?_
      try simp only [List.getElem_toArray]
      try simp only [List.getElem_cons_succ]
      try simp only [List.getElem_cons_zero]
      try simp only [Act.put]
      try simp only [List.setIfInBounds_toArray]
      try simp only [List.set_cons_succ]
      try simp only [List.set_cons_zero]
      refine wpAnyH_take (i := 3) (v := ?_) rfl (by kernel_rfl) (by kernel_rfl) (by kernel_rfl) (fun _ _ _ h => h) (Or.inl ⟨by kernel_rfl, fun W hSW => by go_simp; try with_reducible rfl⟩) (by assumption) ?_
      try simp only [List.getElem_toArray]
      try simp only [List.getElem_cons_succ]
      try simp only [List.getElem_cons_zero]
      try simp only [Act.put]
      try simp only [List.setIfInBounds_toArray]
      try simp only [List.set_cons_succ]
      try simp only [List.set_cons_zero]
      refine wpAnyH_take (i := 4) (v := ?_) rfl (by kernel_rfl) (by kernel_rfl) (by kernel_rfl) (fun _ _ _ h => h) (Or.inl ⟨by kernel_rfl, fun W hSW => by go_simp; try with_reducible rfl⟩) (by assumption) ?_
      try simp only [List.getElem_toArray]
      try simp only [List.getElem_cons_succ]
      try simp only [List.getElem_cons_zero]
      try simp only [Act.put]
      try simp only [List.setIfInBounds_toArray]
      try simp only [List.set_cons_succ]
      try simp only [List.set_cons_zero]
      refine wpAnyH_take (i := 5) (v := ?_) rfl (by kernel_rfl) (by kernel_rfl) (by kernel_rfl) (fun _ _ _ h => h) (Or.inl ⟨by kernel_rfl, fun W hSW => by go_simp; try with_reducible rfl⟩) (by assumption) ?_
      try simp only [List.getElem_toArray]
      try simp only [List.getElem_cons_succ]
      try simp only [List.getElem_cons_zero]
      try simp only [Act.put]
      try simp only [List.setIfInBounds_toArray]
      try simp only [List.set_cons_succ]
      try simp only [List.set_cons_zero]
      refine wpAnyH_take (i := 6) (v := ?_) rfl (by kernel_rfl) (by kernel_rfl) (by kernel_rfl) (fun _ _ _ h => h) (Or.inl ⟨by kernel_rfl, fun W hSW => by go_simp; try with_reducible rfl⟩) (by assumption) ?_
      try simp only [List.getElem_toArray]
      try simp only [List.getElem_cons_succ]
      try simp only [List.getElem_cons_zero]
      try simp only [Act.put]
      try simp only [List.setIfInBounds_toArray]
      try simp only [List.set_cons_succ]
      try simp only [List.set_cons_zero]
      refine wpAnyH_take (i := 7) (v := ?_) rfl (by kernel_rfl) (by kernel_rfl) (by kernel_rfl) (fun _ _ _ h => h) (Or.inl ⟨by kernel_rfl, fun W hSW => by go_simp; try with_reducible rfl⟩) (by assumption) ?_
      try simp only [List.getElem_toArray]
      try simp only [List.getElem_cons_succ]
      try simp only [List.getElem_cons_zero]
      try simp only [Act.put]
      try simp only [List.setIfInBounds_toArray]
      try simp only [List.set_cons_succ]
      try simp only [List.set_cons_zero]
      refine wpAnyH_take (i := 8) (v := ?_) rfl (by kernel_rfl) (by kernel_rfl) (by kernel_rfl) (fun _ _ _ h => h) (Or.inl ⟨by kernel_rfl, fun W hSW => by go_simp; try with_reducible rfl⟩) (by assumption) ?_
      try simp only [List.getElem_toArray]
      try simp only [List.getElem_cons_succ]
      try simp only [List.getElem_cons_zero]
      try simp only [Act.put]
      try simp only [List.setIfInBounds_toArray]
      try simp only [List.set_cons_succ]
      try simp only [List.set_cons_zero]
      refine wpAnyH_ready (rs := [9]) (by kernel_rfl) (by simp) ?_
      refine AllReadyH.cons rfl (fun K hK => ?_) AllReadyH.nil
      go_simp
      refine (HSp.out _).mono ?_
      rintro e w5 ⟨rfl, hk5⟩
      have hS5 : Kept (fun _ => False) w w5 := hSd.trans hk5
      clear hk5
      refine hK.out _ _ (hS5) (fun _ => ?_)
      clear hK K
      try simp only [List.getElem_toArray]
      try simp only [List.getElem_cons_succ]
      try simp only [List.getElem_cons_zero]
      try simp only [Act.put]
      try simp only [List.setIfInBounds_toArray]
      try simp only [List.set_cons_succ]
      try simp only [List.set_cons_zero]
      refine wpAnyH_take (i := 10) (v := (.bool B)) rfl (by kernel_rfl) (by kernel_rfl) (by kernel_rfl) (fun _ _ _ h => h) (Or.inl ⟨by kernel_rfl, fun W hSW => by go_simp; try with_reducible rfl⟩) (by assumption) ?_
      try simp only [List.getElem_toArray]
      try simp only [List.getElem_cons_succ]
      try simp only [List.getElem_cons_zero]
      try simp only [Act.put]
      try simp only [List.setIfInBounds_toArray]
      try simp only [List.set_cons_succ]
      try simp only [List.set_cons_zero]
      refine wpAnyH_done (by kernel_rfl) ?_ _
      clear g2 n0 n1 hSd
      cases B with
      | true =>
        have hR := find_at HJ.out.2 HX.out hq
        have hFF : Hid (F = (j : Int)) := by rw [HF.out, hR]; rfl
        clear HJ hR
        go_wp2
        go_ret
        exact ⟨by rw [hFF.out]; rfl, hS5⟩
      | false =>
        have hN := hid (find_go HJ.out.2 HX.out hq)
        clear HJ
        go_wp2
        exact ⟨⟨j + 1, hlt, by go_num, hS5, hN.out⟩, by simp [intOf]; omega⟩
    · obtain rfl : j = l.length := by omega
      have hltz : ¬ (l.length : Int) < (l.length : Int) := by omega
      have hFF : Hid (F = -1) := by
        have := HJ.out.2
        rw [List.take_length] at this
        rw [HF.out, this]
        rfl
      go_wp2
      go_ret
      exact ⟨by rw [hFF.out]; rfl, HJ.out.1⟩
end Go.Proofs.YtmbdjgfbhblifaaDoor
