/- The contract of opts.Get: the packet of some bytes, or the error; for every string of at most 2^47 bytes. -/
import Derived.Test.YtdifdcceigoedaaGreatOpGetData
import Derived.Laws.Tables
import Derived.Deep.DeepCutAuto
namespace Go.Proofs.YtdifdcceigoedaaGreat
open Go.RowKit

/-- A store of a whole struct into a block of its own, the world behind it by what lies in it. -/
theorem wpList_store_as {P : Program} {ops : Array Oper} {rest : List Oper} {o : Oper} {a : Act} {w : World} {Q : Exit → Act → World → Prop} (hgd : o.guard = none) (ty : TypeId) (x y : Operand) (ho : o.op = .store ty x y)
    (g : Nat) (cells : Array Value) (hx : a.eval x = .pointer (some ⟨g, 0, none⟩)) (hy : a.eval y = .agg cells)
    (t : TypeId) (old : Array Value) (hg : w.heap[g]? = some (.cells old t (0, 0))) (hi : (P.info? ty).map (·.size) = some cells.size)
    (hold : old.size = cells.size) (h1 : cells.all (·.oneCell') = true)
    (h : ∀ w', w'.heap[g]? = some (.cells cells t (0, 0)) → Kept (fun i => i = g) w w' → wpList P ops Q rest (a.put o.dst undef) w') : wpList P ops Q (o :: rest) a w :=
  wpList_store_row hgd ty x y ho g cells hx hy t old hg hi hold h1 (h _ (setRow_heap w g old cells t (0, 0) hg) ⟨rfl, rfl, rfl, by simp, fun k _ hn => setRow_other w g k cells hn⟩)

theorem OwnO.beside {w w' : World} {base g : Nat} {v : Value} {l : List Tg} (h : OwnO w base v l) (hk : Kept (fun i => i = g) w w') (hg : g < base) : OwnO w' base v l := by
  rcases h.2 with ⟨rfl, h0⟩ | ⟨g', cap, cur, rfl, hb, hgg, h1, h2, h3, h4⟩
  · exact ⟨h.1, Or.inl ⟨rfl, h0⟩⟩
  · exact ⟨h.1, Or.inr ⟨g', cap, cur, rfl, hb, (hk.block g' (Array.getElem?_eq_some_iff.1 hgg).1 (by omega)).trans hgg, h1, h2, h3, h4⟩⟩

/-- A packet in a block of its own. -/
def PkAt (w : World) (b : Nat) (c i : Int) (v : Value) (s : ByteArray) : Prop := w.heap[b]? = some (.cells #[.int .i64 c, .int .i64 i, v, .string s] 24 (0, 0))
theorem PkAt.lt {w : World} {b : Nat} {c i : Int} {v : Value} {s : ByteArray} (h : PkAt w b c i v s) : b < w.heap.size := (Array.getElem?_eq_some_iff.1 h).1
theorem PkAt.new (w : World) (c i : Int) (v : Value) (s : ByteArray) : PkAt (w.alloc (.cells #[.int .i64 c, .int .i64 i, v, .string s] 24)) w.heap.size c i v s := heap_alloc_new w _
theorem PkAt.kept {S : Nat → Prop} {w w' : World} {b : Nat} {c i : Int} {v : Value} {s : ByteArray} (h : PkAt w b c i v s) (hk : Kept S w w') (hS : ¬ S b) : PkAt w' b c i v s := (hk.block b h.lt hS).trans h
theorem PkAt.cells {w : World} {b : Nat} {c i : Int} {v : Value} {s : ByteArray} (h : PkAt w b c i v s) : Box4 w b (.int .i64 c) (.int .i64 i) v (.string s) := by
  have h' : w.heap[b]? = _ := h
  refine ⟨?_, ?_, ?_, ?_⟩ <;> simp [World.cell?, h']
theorem PkAt.own {w : World} {b : Nat} {c i : Int} {v : Value} {s : ByteArray} (h : PkAt w b c i v s) : Own4 w b (.int .i64 c) (.int .i64 i) v (.string s) := ⟨h.cells, fun j => frozen_of_row _ b j _ _ h⟩

set_option maxHeartbeats 2000000 in
set_option maxRecDepth 100000 in
theorem getPack_data (s : ByteArray) (p : Pk) (e : Int) (w : World) (hE : (e != 0) = true ∨ ((e != 0) = false ∧ confB (p.code : Int) = false))
    (HD : ∀ W, Calls Tryz.prog 15 #[.string s] W fun r w' => r = .returned (.tuple #[pkD p, .int .i64 e]) ∧ Kept (fun _ => False) W w') :
    Calls Tryz.prog 11 #[.string s] w fun r w' => r = .returned (.tuple #[pkD p, .int .i64 e]) ∧ Kept (fun _ => False) w w' := by
  unfold pkD pkV at *
  generalize (p.code : Int) = C at *
  generalize (p.id : Int) = I at *
  generalize (⟨p.data.toArray⟩ : ByteArray) = X at *
  have HD' := hid HD
  have O0 := hid (PkAt.new w 0 0 (.slice none 0 0) ⟨#[]⟩)
  have K0 := hid ((Kept.refl (fun _ => False) w).alloc (.cells #[.int .i64 0, .int .i64 0, .slice none 0 0, .string ⟨#[]⟩] 24))
  have HC := hid (hasOptions_any C)
  clear HD
  go_enter Tryz.func11, Tryz.ntmps11
  go_wp2_with fail
  refine (HD'.out _).mono ?_
  rintro e1 w1 ⟨rfl, hk1⟩
  have O1 := hid (O0.out.kept hk1 id)
  have K1 := hid (K0.out.trans hk1)
  have hlt := O1.out.lt
  clear hk1 O0 K0 HD'
  go_upto_region 2 with fail
  have K2 := hid (K1.out.alloc (.cells #[.int .i64 C, .int .i64 I, .slice none 0 0, .string X] 24))
  have O2 := hid (O1.out.kept ((Kept.refl (fun _ => False) w1).alloc (.cells #[.int .i64 C, .int .i64 I, .slice none 0 0, .string X] 24)) id)
  have P2 := hid (PkAt.new w1 C I (.slice none 0 0) X)
  generalize w1.alloc (.cells #[.int .i64 C, .int .i64 I, .slice none 0 0, .string X] 24) = W2 at K2 O2 P2 ⊢
  obtain ⟨c0, c1, c2, c3⟩ := P2.out.cells
  obtain ⟨⟨a0, a1, a2, a3⟩, fa⟩ := O2.out.own
  clear O1
  rcases hE with hE | ⟨hE, hc⟩
  · go_wp2
    refine bodyPost_ret (v := .tuple #[.agg #[.int .i64 C, .int .i64 I, .slice none 0 0, .string X], .int .i64 e]) (by simp [results, Tryz.results11, go_sem, a0, a1, a2, a3]) rfl ⟨rfl, ?_⟩
    repeat refine Kept.setCell ?_ (Or.inl (Nat.le_refl _)) _
    exact K2.out
  · rw [hc] at HC
    go_wp2_with fail
    refine (HC.out _).mono ?_
    rintro e1 w2 ⟨rfl, rfl⟩
    go_wp2
    refine bodyPost_ret (v := .tuple #[.agg #[.int .i64 C, .int .i64 I, .slice none 0 0, .string X], .int .i64 e]) (by simp [results, Tryz.results11, go_sem, a0, a1, a2, a3]) rfl ⟨rfl, ?_⟩
    repeat refine Kept.setCell ?_ (Or.inl (Nat.le_refl _)) _
    exact K2.out

set_option maxHeartbeats 2000000 in
set_option maxRecDepth 100000 in
theorem getPack_opts (s : ByteArray) (p : Pk) (w : World) (hp : p.data.length ≤ 1488) (hc : confB (p.code : Int) = true)
    (HD : ∀ W, Calls Tryz.prog 15 #[.string s] W fun r w' => r = .returned (.tuple #[pkD p, .int .i64 0]) ∧ Kept (fun _ => False) W w') :
    Calls Tryz.prog 11 #[.string s] w fun r w' => (∃ v, r = .returned (.tuple #[pkV (p.code : Int) (p.id : Int) v ⟨#[]⟩, .int .i64 0]) ∧ (optsOn p.data []).2 = 0 ∧ OwnO w' w.heap.size v (optsOn p.data []).1 ∧ Kept (fun _ => False) w w') ∨
      (r = .returned (.tuple #[pkZ, .int .i64 (optsOn p.data []).2]) ∧ (optsOn p.data []).2 ≠ 0 ∧ Kept (fun _ => False) w w') := by
  unfold pkZ pkD pkV at *
  have HG := hid (getOpts_any ⟨p.data.toArray⟩ (by rw [Lib.size_eq]; show p.data.length ≤ _; omega))
  have HC := hid (hasOptions_any (p.code : Int))
  rw [hc] at HC
  clear hc hp
  show Calls _ _ _ _ fun r w' => (∃ v, r = _ ∧ (optsOn (⟨p.data.toArray⟩ : ByteArray).data.toList []).2 = 0 ∧ OwnO w' w.heap.size v (optsOn (⟨p.data.toArray⟩ : ByteArray).data.toList []).1 ∧ _) ∨ (r = .returned (.tuple #[_, .int .i64 (optsOn (⟨p.data.toArray⟩ : ByteArray).data.toList []).2]) ∧ (optsOn (⟨p.data.toArray⟩ : ByteArray).data.toList []).2 ≠ 0 ∧ _)
  generalize (p.code : Int) = C at *
  generalize (p.id : Int) = I at *
  generalize (⟨p.data.toArray⟩ : ByteArray) = X at *
  generalize optsOn X.data.toList [] = R at *
  obtain ⟨L, E⟩ := R
  simp only at HG ⊢
  have HD' := hid HD
  have O0 := hid (PkAt.new w 0 0 (.slice none 0 0) ⟨#[]⟩)
  have K0 := hid ((Kept.refl (fun _ => False) w).alloc (.cells #[.int .i64 0, .int .i64 0, .slice none 0 0, .string ⟨#[]⟩] 24))
  clear HD
  go_enter Tryz.func11, Tryz.ntmps11
  go_wp2_with fail
  refine (HD'.out _).mono ?_
  rintro e1 w1 ⟨rfl, hk1⟩
  have O1 := hid (O0.out.kept hk1 id)
  have K1 := hid (K0.out.trans hk1)
  have hlt := O1.out.lt
  clear hk1 O0 K0 HD'
  go_upto_region 2 with fail
  have K2 := hid (K1.out.alloc (.cells #[.int .i64 C, .int .i64 I, .slice none 0 0, .string X] 24))
  have O2 := hid (O1.out.kept ((Kept.refl (fun _ => False) w1).alloc (.cells #[.int .i64 C, .int .i64 I, .slice none 0 0, .string X] 24)) id)
  have P2 := hid (PkAt.new w1 C I (.slice none 0 0) X)
  generalize w1.alloc (.cells #[.int .i64 C, .int .i64 I, .slice none 0 0, .string X] 24) = W2 at K2 O2 P2 ⊢
  obtain ⟨c0, c1, c2, c3⟩ := P2.out.cells
  clear O1
  go_wp2_with fail
  refine (HC.out _).mono ?_
  rintro e1 w2 ⟨rfl, rfl⟩
  go_wp2_with fail
  refine (HG.out _).mono ?_
  rintro e1 w3 ⟨v, rfl, hown, hk3⟩
  have P3 := hid (P2.out.kept hk3 id)
  have O3 := hid (O2.out.kept hk3 id)
  have K3 := hid (K2.out.trans hk3)
  have hsz3 := K2.out.size
  have hlt2 := O2.out.lt
  have HO3 := hid hown
  obtain ⟨pp, cap, hv⟩ := slice_of hown
  subst hv
  clear c0 c1 c2 c3 hk3 hown K2 O2 P2 HG
  obtain ⟨c0, c1, c2, c3⟩ := P3.out.cells
  obtain ⟨⟨a0, a1, a2, a3⟩, fa⟩ := O3.out.own
  cases hE : (E != 0) with
  | true =>
    have hE0 : E ≠ 0 := by simpa using hE
    have HE0 := hid hE0
    clear hE0
    go_wp2
    refine bodyPost_ret (v := .tuple #[.agg #[.int .i64 0, .int .i64 0, .slice none 0 0, .string ⟨#[]⟩], .int .i64 E]) (by simp [results, Tryz.results11, go_sem, a0, a1, a2, a3]) rfl (Or.inr ⟨rfl, HE0.out, ?_⟩)
    repeat refine Kept.setCell ?_ (Or.inl (Nat.le_refl _)) _
    exact K3.out
  | false =>
    obtain rfl : E = 0 := by simpa using hE
    clear hE
    go_wp2
    refine bodyPost_ret (v := .tuple #[.agg #[.int .i64 C, .int .i64 I, .slice pp L.length cap, .string ⟨#[]⟩], .int .i64 0]) (by simp [results, Tryz.results11, go_sem, a0, a1, a2, a3]) rfl ⟨_, rfl, ?_, ?_⟩
    · refine (OwnO.beside (g := w.heap.size) HO3.out ?_ hlt2).mono (by omega)
      repeat refine Kept.setCell ?_ (Or.inr (by rfl)) _
      exact Kept.refl _ _
    · repeat refine Kept.setCell ?_ (Or.inl (Nat.le_refl _)) _
      exact K3.out

/-- A packet that was got, as a value: its options lie at base or behind. -/
def GotP (w : World) (base : Nat) (v : Value) (p : Pk) : Prop := ∃ u, v = pkV (p.code : Int) (p.id : Int) u ⟨p.data.toArray⟩ ∧ OwnO w base u p.opts

/-- 'Get(b)'. -/
theorem getPack_any (s : ByteArray) (hs : s.size ≤ 140737488351232) (w : World) :
    Calls Tryz.prog 11 #[.string s] w fun r w' => ∃ v, r = .returned (.tuple #[v, .int .i64 (getPackF s.data.toList).2]) ∧ GotP w' w.heap.size v (getPackF s.data.toList).1 ∧ Kept (fun _ => False) w w' := by
  have HD := getData_any s hs
  obtain ⟨hd, ho⟩ := getDataF_data s.data.toList
  obtain ⟨R, hR⟩ : ∃ R, R = getDataF s.data.toList := ⟨_, rfl⟩
  rw [← hR] at HD hd ho
  obtain ⟨p, e⟩ := R
  simp only at HD hd ho
  by_cases hx : e ≠ 0 ∨ confB (p.code : Int) = false
  · rw [getPack_of hR.symm hx]
    have hE : (e != 0) = true ∨ ((e != 0) = false ∧ confB (p.code : Int) = false) := by
      by_cases he : e = 0
      · rcases hx with hx | hx
        · exact absurd he hx
        · exact Or.inr ⟨by simp [he], hx⟩
      · exact Or.inl (by simpa using he)
    refine (getPack_data s p e w hE HD).mono ?_
    rintro r w' ⟨rfl, hk⟩
    exact ⟨_, rfl, ⟨_, rfl, by rw [ho]; exact OwnO.nil _ _⟩, hk⟩
  · have he : e = 0 := Classical.not_not.1 (fun h => hx (Or.inl h))
    have hc : confB (p.code : Int) = true := by
      cases h : confB (p.code : Int) with
      | true => rfl
      | false => exact absurd (Or.inr h) hx
    subst he
    refine (getPack_opts s p w hd hc HD).mono ?_
    rintro r w' (⟨v, rfl, h0, hown, hk⟩ | ⟨rfl, h0, hk⟩)
    · rw [getPack_yes (o := (optsOn p.data []).1) hR.symm hc (by rw [← h0])]
      exact ⟨_, rfl, ⟨v, rfl, hown⟩, hk⟩
    · rw [getPack_no (o := (optsOn p.data []).1) hR.symm hc rfl h0]
      exact ⟨_, rfl, ⟨_, rfl, OwnO.nil _ _⟩, hk⟩
end Go.Proofs.YtdifdcceigoedaaGreat
