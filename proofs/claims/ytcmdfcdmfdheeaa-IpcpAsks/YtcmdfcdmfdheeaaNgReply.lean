/- The contracts of agree, end, reject and refuse. -/
import Derived.Test.YtcmdfcdmfdheeaaNgAsk
import Derived.Test.YtcmdfcdmfdheeaaOpPutData
namespace Go.Proofs.Ytcmdfcdmfdheeaa
open Go.RowKit

structure Pk0 where
  code : Int
  id : Int
  opts : List Tg
  data : ByteArray
/-- What came, and the answer to it. -/
structure Cz where
  came : Pk0
  ans : Pk0
  rules : List Rl
structure CzAt (W : World) (base b : Nat) (a : Nm) (c : Cz) (v u : Value) (mr : Option Nat) : Prop where
  came : OptsAt W v c.came.opts
  fcame : c.came.opts = [] ∨ ∀ i, v.ownBlock = some i → ¬ Sn b a i
  fine : FineO c.came.opts
  data : c.came.data.size ≤ 140737488351232
  ans : OwnO W base u c.ans.opts
  fans : ∀ i, u.ownBlock = some i → ¬ Sn b a i
  fineA : FineO c.ans.opts
  book : c.ans.code = 3 → BookIs W (.map mr) c.rules

theorem optsAt_empty {W W' : World} {v : Value} (h : OptsAt W v []) : OptsAt W' v [] := by
  refine ⟨?_, h.2⟩
  rcases h.1 with ⟨_, p, cap, rfl⟩ | ⟨g, o, cap, rfl, h1, h2, _⟩
  · exact Or.inl ⟨rfl, p, cap, rfl⟩
  · exact Or.inl ⟨rfl, _, _, rfl⟩
theorem optsAt_lt {W : World} {v : Value} {l : List Tg} (h : OptsAt W v l) (hne : l ≠ []) {i : Nat} (hi : v.ownBlock = some i) : i < W.heap.size := by
  rcases h.1 with ⟨h0, _⟩ | ⟨g, o, cap, rfl, h1, h2, hc⟩
  · exact absurd h0 hne
  · have : g = i := by simpa [Value.ownBlock] using hi
    subst this
    obtain ⟨x, hx⟩ : ∃ x, l[0]? = some x := ⟨l[0]'(List.length_pos_iff.2 hne), by simp⟩
    exact lt_of_cell (hc 0 x hx).1
theorem OptsAt.far {S : Nat → Prop} {W W' : World} {v : Value} {l : List Tg} (h : OptsAt W v l) (hf : l = [] ∨ ∀ i, v.ownBlock = some i → ¬ S i) (hk : Kept S W W') : OptsAt W' v l := by
  rcases hf with rfl | hf
  · exact optsAt_empty h
  · exact h.kept hk (fun i _ s e => hf i e s)

section
variable {W W' : World} {base b : Nat} {a a' : Nm} {n n' : Ng} {c : Cz} {v u : Value} {mr : Option Nat}
theorem CzAt.kept0 (h : CzAt W base b a c v u mr) (hk : Kept (fun _ => False) W W') : CzAt W' base b a c v u mr :=
  ⟨h.came.kept0 hk, h.fcame, h.fine, h.data, h.ans.kept hk, h.fans, h.fineA, fun e => (h.book e).kept0 hk⟩
theorem CzAt.step (h : CzAt W base b a c v u mr) (hn : NegIn W base b a n) (k : NNext W W' base b a a' n') : CzAt W' base b a' c v u mr := by
  refine ⟨h.came.far h.fcame k.kept, ?_, h.fine, h.data, h.ans.keptS k.kept h.fans, fun i hi s => ?_, h.fineA, fun e => (h.book e).kept k.kept hn.sn_cells⟩
  · rcases h.fcame with h0 | h0
    · exact Or.inl h0
    · by_cases hne : c.came.opts = []
      · exact Or.inl hne
      · refine Or.inr fun i hi s => ?_
        rcases k.sn i s with h1 | h1
        · exact h0 i hi h1
        · have := optsAt_lt h.came hne hi
          omega
  · rcases k.sn i s with h1 | h1
    · exact h.fans i hi h1
    · obtain ⟨cur, hc⟩ := h.ans.cellsB hi
      have := (Array.getElem?_eq_some_iff.1 hc).1
      omega
end

set_option maxHeartbeats 2000000 in
set_option maxRecDepth 100000 in
theorem agree_any {base b : Nat} {a : Nm} {n : Ng} (c i : Int) (u : Value) (l : List Tg) (s : ByteArray) (w : World) (h : NegIn w base b a n) (hu : OptsAt w u l) (hf : FineO l) :
    Calls Try.prog 61 #[.pointer (some ⟨b, 0, none⟩), pkV c i u s] w fun e w' => e = .returned (pkV c i u s) ∧ ∃ v, NNext w w' base b a { a with vt := v } { n with theirs := l } := by
  unfold pkV
  obtain ⟨pu, cu, rfl⟩ := hu.1.slice
  have hk0 := (Kept.refl (fun _ => False) w).alloc (.cells #[.int .i64 c, .int .i64 i, .slice pu l.length cu, .string s] 40)
  have hk1 := hk0.alloc (.cells #[.int .i64 0, .int .i64 0, .slice none 0 0, .string ⟨#[]⟩] 40)
  have O0 := own4_new w 40 (.int .i64 c) (.int .i64 i) (.slice pu l.length cu) (.string s)
  have O0' := hid (O0.kept ((Kept.refl (fun _ => False) _).alloc (.cells #[.int .i64 0, .int .i64 0, .slice none 0 0, .string ⟨#[]⟩] 40)))
  have hsz : (w.alloc (.cells #[.int .i64 c, .int .i64 i, .slice pu l.length cu, .string s] 40)).heap.size = w.heap.size + 1 := by simp
  have O1 := own4_new (w.alloc (.cells #[.int .i64 c, .int .i64 i, .slice pu l.length cu, .string s] 40)) 40 (.int .i64 0) (.int .i64 0) (.slice none 0 0) (.string ⟨#[]⟩)
  have B1 := PkBlk.new (w.alloc (.cells #[.int .i64 c, .int .i64 i, .slice pu l.length cu, .string s] 40)) #[.int .i64 0, .int .i64 0, .slice none 0 0, .string ⟨#[]⟩]
  rw [hsz] at O1 B1
  have OR := hid O1
  have BR := hid B1
  have q2 := O0'.out.1.2.2.1
  have H := hid h
  have HC := hid (cloneO_any (.slice pu l.length cu) l _ (hu.kept0 hk1) (by have := hf.1; omega))
  have HK := hid hk1
  have HF := hid hf
  clear h hu hk0 hk1 O0 O1 B1 hf
  go_enter Try.func61, Try.ntmps61
  go_wp2_with fail
  refine HC.out.mono ?_
  rintro e w3 ⟨v, rfl, ho, hk⟩
  obtain ⟨pv, cv, rfl⟩ := slice_of ho
  have hK3 := HK.out.trans hk
  have h3 := H.out.kept0 hK3
  have d13 := h3.n13
  have f13 := h3.fz 13
  have hs1 := HK.out.size
  have N4 := h3.setTheirs (l := l) (ho.mono (by have := h3.lo; have := H.out.lt; have := H.out.lo; omega)) HF.out (fun i hi e => by have := H.out.sn_lt i (Or.inr (Or.inr hi)); have := ho.baseB e; omega) (W0 := w) (fun i hi => by have := ho.baseB hi; omega) hK3
  have hnb : ∀ r, w.heap.size ≤ r → ¬ r = b := fun r hr e => by have := H.out.lt; omega
  have O3 := hid ((O0'.out.kept hk).keptS (kept_cell w3 b 13 (.slice pv l.length cv)) (hnb _ (Nat.le_refl _)))
  have OR3 := hid ((OR.out.kept hk).keptS (kept_cell w3 b 13 (.slice pv l.length cv)) (hnb _ (by omega)))
  have BR3 := hid ((BR.out.kept hk id).kept (kept_cell w3 b 13 (.slice pv l.length cv)) (hnb _ (by omega)))
  have NT := hid N4
  clear h3 hK3 N4 ho hk HC
  go_upto_region 2 with fail
  generalize w3.setCell ⟨b, 13, none⟩ (.slice pv l.length cv) = w4 at *
  obtain ⟨⟨e0, e1, e2, e3⟩, _⟩ := O3.out
  obtain ⟨⟨c0, c1, c2, c3⟩, f0⟩ := OR3.out
  clear d13 f13
  go_wp2
  refine bodyPost_ret (v := .agg #[.int .i64 c, .int .i64 i, .slice pu l.length cu, .string s]) (by simp [results, Try.results61, go_sem, c0, c1, c2, c3]) rfl ⟨rfl, _, NT.out.setPk4 (by omega) BR3.out _ _ _ _⟩

set_option maxHeartbeats 2000000 in
set_option maxRecDepth 100000 in
theorem end_any {base b : Nat} {a : Nm} {n : Ng} (w : World) (h : NegIn w base b a n) : Calls Try.prog 63 #[.pointer (some ⟨b, 0, none⟩)] w fun e w' => e = .returned (pkV 5 (nextId n.id) (.slice none 0 0) ⟨#[]⟩) ∧ NNext w w' base b a a (endN n) := by
  unfold pkV
  have g := h.good
  have hk0 := (Kept.refl (fun _ => False) w).alloc (.cells #[.int .i64 0, .int .i64 0, .slice none 0 0, .string ⟨#[]⟩] 40)
  have h1 := h.kept0 hk0
  have f11 := h1.fz 11
  have d11 := h1.n11
  have N1 := h1.set (n' := { n with ticks := 0 }) 11 (.int .i64 0) rfl ⟨g.au, g.fails, g.wait, g.id, g.naks, ⟨by simp, by simp⟩, g.ups, g.downs, g.req, g.mine, g.theirs⟩ rfl rfl rfl rfl rfl rfl
  have HI := hid (nextId_any _ N1.neg)
  have N1' := hid (NNext.before0 hk0 N1)
  have O0 := own4_new w 40 (.int .i64 0) (.int .i64 0) (.slice none 0 0) (.string ⟨#[]⟩)
  have B0 := PkBlk.new w #[.int .i64 0, .int .i64 0, .slice none 0 0, .string ⟨#[]⟩]
  have hnS : ¬ Sn b a w.heap.size := fun s => by have := h.sn_lt _ s; omega
  have O1 := hid (O0.keptS N1.kept hnS)
  have B1 := hid (B0.kept N1.kept hnS)
  clear h h1 N1 O0 B0 hk0 g
  simp only at HI
  go_enter Try.func63, Try.ntmps63
  go_wp2_with fail
  refine HI.out.mono ?_
  rintro e w2 ⟨rfl, N2⟩
  have NT := hid (N1'.out.trans N2)
  obtain ⟨⟨c0, c1, c2, c3⟩, f0⟩ := O1.out.keptS N2.kept hnS
  have B2 := hid (B1.out.kept N2.kept hnS)
  clear N2 N1' O1 B1 HI f11 d11
  go_wp2
  refine bodyPost_ret (v := .agg #[.int .i64 5, .int .i64 (nextId n.id), .slice none 0 0, .string ⟨#[]⟩]) (by simp [results, Try.results63, go_sem, c0, c1, c2, c3]) rfl ⟨rfl, NT.out.setPk4 (Nat.le_refl _) B2.out _ _ _ _⟩

/-- The bytes of a packet that is rejected, as far as there is room. -/
def rejBytes (c i : Int) (o : List Tg) (s : ByteArray) : ByteArray := (⟨(putPackF c i o s.data.toList).1.toArray⟩ : ByteArray).extract 0 (min (⟨(putPackF c i o s.data.toList).1.toArray⟩ : ByteArray).size 1488)

set_option maxHeartbeats 2000000 in
set_option maxRecDepth 100000 in
theorem reject_any {base b : Nat} {a : Nm} {n : Ng} (c i : Int) (u : Value) (l : List Tg) (s : ByteArray) (w : World) (h : NegIn w base b a n) (hu : OptsAt w u l) (hf : FineO l) (hs : s.size ≤ 140737488351232) :
    Calls Try.prog 64 #[.pointer (some ⟨b, 0, none⟩), pkV c i u s] w fun e w' => e = .returned (pkV 7 (nextId n.id) (.slice none 0 0) (rejBytes c i l s)) ∧ NNext w w' base b a a { n with id := nextId n.id } := by
  obtain ⟨pu, cu, rfl⟩ := hu.1.slice
  have hk0 := (Kept.refl (fun _ => False) w).alloc (.cells #[.int .i64 c, .int .i64 i, .slice pu l.length cu, .string s] 40)
  have hk1 := hk0.alloc (.cells #[.int .i64 0, .int .i64 0, .slice none 0 0, .string ⟨#[]⟩] 40)
  have O0 := own4_new w 40 (.int .i64 c) (.int .i64 i) (.slice pu l.length cu) (.string s)
  obtain ⟨⟨e0, e1, e2, e3⟩, _⟩ := O0.kept ((Kept.refl (fun _ => False) _).alloc (.cells #[.int .i64 0, .int .i64 0, .slice none 0 0, .string ⟨#[]⟩] 40))
  have hsz : (w.alloc (.cells #[.int .i64 c, .int .i64 i, .slice pu l.length cu, .string s] 40)).heap.size = w.heap.size + 1 := by simp
  have O1 := own4_new (w.alloc (.cells #[.int .i64 c, .int .i64 i, .slice pu l.length cu, .string s] 40)) 40 (.int .i64 0) (.int .i64 0) (.slice none 0 0) (.string ⟨#[]⟩)
  have B1 := PkBlk.new (w.alloc (.cells #[.int .i64 c, .int .i64 i, .slice pu l.length cu, .string s] 40)) #[.int .i64 0, .int .i64 0, .slice none 0 0, .string ⟨#[]⟩]
  rw [hsz] at O1 B1
  have OR := hid O1
  have BR := hid B1
  have H := hid h
  have HP := hid (putPack_any c i (.slice pu l.length cu) l s hs _ (hu.1.kept0 hk1) hf.2.2)
  have HK := hid hk1
  unfold rejBytes
  generalize (⟨(putPackF c i l s.data.toList).1.toArray⟩ : ByteArray) = S at *
  generalize (putPackF c i l s.data.toList).2 = E at *
  have j7 := first_at S (min S.size 1488) (Nat.min_le_left _ _) (min (S.size : Int) 1488) (by omega)
  have hnS : ∀ r, w.heap.size ≤ r → ¬ Sn b a r := fun r hr s => by have := h.sn_lt _ s; omega
  unfold pkV at HP ⊢
  clear h hu hk0 hk1 O0 O1 B1 hf hs
  generalize S.extract 0 (min S.size 1488) = X at *
  go_enter Try.func64, Try.ntmps64
  go_wp2_with fail
  refine HP.out.mono ?_
  rintro e w3 ⟨rfl, hk⟩
  have hK3 := (HK.out.trans hk).drew
  have h3 := H.out.kept0 hK3
  have HI := hid (nextId_any _ h3)
  have OR3 := hid (OR.out.kept (hk.drew))
  have BR3 := hid (BR.out.kept hk.drew id)
  have HK3 := hid hK3
  clear h3 hK3 hk HP OR BR HK
  go_wp2_with fail
  go_region_with (first
    | (go_at_call 77; refine HI.out.mono ?_; rintro e w5 ⟨rfl, N5⟩; obtain ⟨⟨c0, c1, c2, c3⟩, f0⟩ := OR3.out.keptS N5.kept (hnS _ (by omega)); have NT := hid (NNext.before0 HK3.out N5); have B5 := hid (BR3.out.kept N5.kept (hnS _ (by omega))); clear N5))
  all_goals
    go_wp2
    refine bodyPost_ret (v := .agg #[.int .i64 7, .int .i64 (nextId n.id), .slice none 0 0, .string X]) (by simp [results, Try.results64, go_sem, c0, c1, c2, c3]) rfl ⟨rfl, NT.out.setPk4 (by omega) B5.out _ _ _ _⟩
end Go.Proofs.Ytcmdfcdmfdheeaa
