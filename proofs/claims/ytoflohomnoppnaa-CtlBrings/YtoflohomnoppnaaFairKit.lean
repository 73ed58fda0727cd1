/- Two ends in one memory, and lists of texts beside them: whose each block is. -/
import Derived.Test.YtoflohomnoppnaaCnAlive
import Derived.Test.YtoflohomnoppnaaCnSame
namespace Go.Proofs.Ytoflohomnoppnaa
open Go.RowKit

/-- 'append' of a list of a call's own onto another one. -/
theorem push_list {α : Type} {enc : α → List Value} {k : Nat} {e t : TypeId} {z : Value} {bytes base base' : Nat} {w : World} {v : Value} {l : List α} {p : Option Addr} {c : Nat} {news : List α} (T : TyG Try.prog t e k z bytes) (E : EncG enc k) (h : OwnG enc k e w base v l) (hb : base ≤ w.heap.size) (ho : OwnG enc k e w base' (.slice p news.length c) news) (hn : l.length + news.length ≤ 1000000) :
    ∃ v' w', AppG Try.prog t w v (.slice p news.length c) v' w' ∧ OwnG enc k e w' base v' (l ++ news) ∧ Kept (fun i => v.ownBlock = some i) w w' ∧ ∀ i, v'.ownBlock = some i → v.ownBlock = some i ∨ w.heap.size ≤ i := by
  by_cases hz : news = []
  · subst hz
    exact ⟨v, w, h.appendNone T p c, by rw [List.append_nil]; exact h, Kept.refl _ _, fun i hi => Or.inl hi⟩
  · obtain ⟨g, cap, he, _, _, _, hc, _⟩ := ho.lies hz
    simp only [Value.slice.injEq] at he
    obtain ⟨rfl, -, rfl⟩ := he
    have hcs : ∀ j u, (rowG enc news)[j]? = some u → w.cell? ((⟨g, 0, none⟩ : Addr).add j) = some u := fun j u hu => by
      rw [addr_add]
      have hj := (List.getElem?_eq_some_iff.1 hu).1
      rw [E.length] at hj
      rw [hc j hj, hu]
    obtain ⟨v', w', h1, h2, h3⟩ := h.append T E hb ⟨g, 0, none⟩ c news hz hcs hn
    refine ⟨v', w', h1, h2, h3.kept, fun i hi => ?_⟩
    rcases h3 with ⟨g', cap', rfl, rfl, _⟩ | ⟨cap', rfl, _, _⟩
    · exact Or.inl (by rw [← hi]; rfl)
    · refine Or.inr ?_
      have : w.heap.size = i := by simpa [Value.ownBlock] using hi
      omega
/-- Two ends and two lists of texts: the blocks of each have its colour. -/
structure TwoE (col : Nat → Nat) (w wr : World) (a b : Nat) (A B : Cn) (pa qa pb qb vs vg : Value) (M G : List ByteArray) : Prop where
  mA : CnIn wr a A pa qa
  mB : CnIn wr b B pb qb
  s : OwnS wr w.heap.size vs M
  g : OwnS wr w.heap.size vg G
  cA : ∀ i, Sn a pa qa i → col i = 1 ∧ w.heap.size ≤ i
  cB : ∀ i, Sn b pb qb i → col i = 2 ∧ w.heap.size ≤ i
  cs : ∀ i, vs.ownBlock = some i → col i = 3
  cg : ∀ i, vg.ownBlock = some i → col i = 4
  gA : GoodN A
  gB : GoodN B
  kept : Kept (fun _ => False) w wr
section
variable {col : Nat → Nat} {w wr wx : World} {a b : Nat} {A B A' B' : Cn} {pa qa pb qb vs vg pa' qa' pb' qb' vg' vs' : Value} {M G M' G' : List ByteArray}
/-- What is new has the colour c. -/
def colN (n c : Nat) (col : Nat → Nat) : Nat → Nat := fun i => if i < n then col i else c
theorem colN_old {n c i : Nat} (h : i < n) : colN n c col i = col i := if_pos h
theorem colN_new {n c i : Nat} (h : n ≤ i) : colN n c col i = c := if_neg (by omega)
theorem TwoE.stepA (h : TwoE col w wr a b A B pa qa pb qb vs vg M G) (n : NextN wr wx a pa qa A' pa' qa') (hg : GoodN A') : TwoE (colN wr.heap.size 1 col) w wx a b A' B pa' qa' pb qb vs vg M G := by
  have hs := h.kept.size
  have ne : ∀ {i c : Nat}, col i = c → c ≠ 1 → ¬ Sn a pa qa i := fun {i c} e hc g => by
    have := (h.cA i g).1
    omega
  refine ⟨n.mem, h.mB.keptS n.kept (fun i hi => ne (h.cB i hi).1 (by decide)), h.s.keptS n.kept (fun i hi => ne (h.cs i hi) (by decide)), h.g.keptS n.kept (fun i hi => ne (h.cg i hi) (by decide)), fun i hi => ?_, fun i hi => ?_, fun i hi => ?_, fun i hi => ?_, hg, h.gB, h.kept.andThen n.kept (fun i hi g => by have := (h.cA i g).2; omega)⟩
  · rcases n.new i hi with g | g
    · exact ⟨by rw [colN_old (h.mA.lt g)]; exact (h.cA i g).1, (h.cA i g).2⟩
    · exact ⟨colN_new g, by omega⟩
  · exact ⟨by rw [colN_old (h.mB.lt hi)]; exact (h.cB i hi).1, (h.cB i hi).2⟩
  · rw [colN_old (h.s.block hi).2.2]
    exact h.cs i hi
  · rw [colN_old (h.g.block hi).2.2]
    exact h.cg i hi
theorem TwoE.stepB (h : TwoE col w wr a b A B pa qa pb qb vs vg M G) (n : NextN wr wx b pb qb B' pb' qb') (hg : GoodN B') : TwoE (colN wr.heap.size 2 col) w wx a b A B' pa qa pb' qb' vs vg M G := by
  have hs := h.kept.size
  have ne : ∀ {i c : Nat}, col i = c → c ≠ 2 → ¬ Sn b pb qb i := fun {i c} e hc g => by
    have := (h.cB i g).1
    omega
  refine ⟨h.mA.keptS n.kept (fun i hi => ne (h.cA i hi).1 (by decide)), n.mem, h.s.keptS n.kept (fun i hi => ne (h.cs i hi) (by decide)), h.g.keptS n.kept (fun i hi => ne (h.cg i hi) (by decide)), fun i hi => ?_, fun i hi => ?_, fun i hi => ?_, fun i hi => ?_, h.gA, hg, h.kept.andThen n.kept (fun i hi g => by have := (h.cB i g).2; omega)⟩
  · exact ⟨by rw [colN_old (h.mA.lt hi)]; exact (h.cA i hi).1, (h.cA i hi).2⟩
  · rcases n.new i hi with g | g
    · exact ⟨by rw [colN_old (h.mB.lt g)]; exact (h.cB i g).1, (h.cB i g).2⟩
    · exact ⟨colN_new g, by omega⟩
  · rw [colN_old (h.s.block hi).2.2]
    exact h.cs i hi
  · rw [colN_old (h.g.block hi).2.2]
    exact h.cg i hi
theorem TwoE.kept0 (h : TwoE col w wr a b A B pa qa pb qb vs vg M G) (hk : Kept (fun _ => False) wr wx) : TwoE col w wx a b A B pa qa pb qb vs vg M G :=
  ⟨h.mA.kept0 hk, h.mB.kept0 hk, h.s.kept0 hk, h.g.kept0 hk, h.cA, h.cB, h.cs, h.cg, h.gA, h.gB, h.kept.trans hk⟩
theorem TwoE.growG (h : TwoE col w wr a b A B pa qa pb qb vs vg M G) (ho : OwnS wx w.heap.size vg' G') (hk : Kept (fun i => vg.ownBlock = some i) wr wx) (hn : ∀ i, vg'.ownBlock = some i → vg.ownBlock = some i ∨ wr.heap.size ≤ i) : TwoE (colN wr.heap.size 4 col) w wx a b A B pa qa pb qb vs vg' M G' := by
  have ne : ∀ {i c : Nat}, col i = c → c ≠ 4 → ¬ vg.ownBlock = some i := fun {i c} e hc g => by
    have := h.cg i g
    omega
  refine ⟨h.mA.keptS hk (fun i hi => ne (h.cA i hi).1 (by decide)), h.mB.keptS hk (fun i hi => ne (h.cB i hi).1 (by decide)), h.s.keptS hk (fun i hi => ne (h.cs i hi) (by decide)), ho, fun i hi => ?_, fun i hi => ?_, fun i hi => ?_, fun i hi => ?_, h.gA, h.gB, h.kept.andThen hk (fun i hi g => by have := (h.g.block g).2.1; omega)⟩
  · exact ⟨by rw [colN_old (h.mA.lt hi)]; exact (h.cA i hi).1, (h.cA i hi).2⟩
  · exact ⟨by rw [colN_old (h.mB.lt hi)]; exact (h.cB i hi).1, (h.cB i hi).2⟩
  · rw [colN_old (h.s.block hi).2.2]
    exact h.cs i hi
  · rcases hn i hi with g | g
    · rw [colN_old (h.g.block g).2.2]
      exact h.cg i g
    · exact colN_new g
theorem TwoE.growS (h : TwoE col w wr a b A B pa qa pb qb vs vg M G) (ho : OwnS wx w.heap.size vs' M') (hk : Kept (fun i => vs.ownBlock = some i) wr wx) (hn : ∀ i, vs'.ownBlock = some i → vs.ownBlock = some i ∨ wr.heap.size ≤ i) : TwoE (colN wr.heap.size 3 col) w wx a b A B pa qa pb qb vs' vg M' G := by
  have ne : ∀ {i c : Nat}, col i = c → c ≠ 3 → ¬ vs.ownBlock = some i := fun {i c} e hc g => by
    have := h.cs i g
    omega
  refine ⟨h.mA.keptS hk (fun i hi => ne (h.cA i hi).1 (by decide)), h.mB.keptS hk (fun i hi => ne (h.cB i hi).1 (by decide)), ho, h.g.keptS hk (fun i hi => ne (h.cg i hi) (by decide)), fun i hi => ?_, fun i hi => ?_, fun i hi => ?_, fun i hi => ?_, h.gA, h.gB, h.kept.andThen hk (fun i hi g => by have := (h.s.block g).2.1; omega)⟩
  · exact ⟨by rw [colN_old (h.mA.lt hi)]; exact (h.cA i hi).1, (h.cA i hi).2⟩
  · exact ⟨by rw [colN_old (h.mB.lt hi)]; exact (h.cB i hi).1, (h.cB i hi).2⟩
  · rcases hn i hi with g | g
    · rw [colN_old (h.s.block g).2.2]
      exact h.cs i g
    · exact colN_new g
  · rw [colN_old (h.g.block hi).2.2]
    exact h.cg i hi
/-- A list of items stays where texts grow. -/
theorem OwnG.byTexts {base : Nat} {v vt : Value} {l : List Ite} {L : List ByteArray} (ho : OwnI wr base v l) (ht : OwnS wr base vt L) (hk : Kept (fun i => vt.ownBlock = some i) wr wx) : OwnI wx base v l :=
  ho.keptS hk (fun i hi e => owned_unlike ho ht (by decide) i hi e)
/-- An element of a list of items. -/
theorem item_at {p : Option Addr} {n cap base : Nat} {l : List Ite} (h : OwnI wr base (.slice p n cap) l) {j : Nat} {x : Ite} (hj : l[j]? = some x) : ∃ g, p = some ⟨g, 0, none⟩ ∧ n ≤ cap ∧ wr.cell? ⟨g, j * 3 + 0, none⟩ = some (.int .i64 x.ns) ∧ wr.cell? ⟨g, j * 3 + 1, none⟩ = some (.int .i64 x.nr) ∧ wr.cell? ⟨g, j * 3 + 2, none⟩ = some (.string x.body) := by
  obtain ⟨g, rfl, hn, _, hc, _, hcell, _⟩ := OwnG.at h encI_ok hj
  exact ⟨g, rfl, by omega, hcell 0 _ rfl, hcell 1 _ rfl, hcell 2 _ rfl⟩
end
/-- A message of two bytes. -/
def msgN (j : Nat) : ByteArray := ⟨#[109, UInt8.ofNat j]⟩
def msgsN : Nat → List ByteArray
  | 0 => []
  | j + 1 => msgsN j ++ [msgN j]
theorem msgsN_len : ∀ j, (msgsN j).length = j
  | 0 => rfl
  | j + 1 => by simp [msgsN, msgsN_len j]
theorem msgsN_size : ∀ (j : Nat) (x : ByteArray), x ∈ msgsN j → x.size = 2
  | 0, x, h => by simp [msgsN] at h
  | j + 1, x, h => by
    rcases List.mem_append.1 h with g | g
    · exact msgsN_size j x g
    · simp at g
      subst g
      rfl
theorem own_two (w : World) (u : Nat) (hu : u < 256) : (w.alloc (.cells #[.int .u8 109, .int .u8 (u : Int)] 5)).ownsRow 0 5 1 (.slice (some ⟨w.heap.size, 0, none⟩) 2 2) 2 (Lib.byteCells [109, UInt8.ofNat u]) := by
  refine ⟨rfl, Or.inr ⟨w.heap.size, 2, _, rfl, Nat.zero_le _, heap_alloc_new w _, Nat.le_refl _, by unfold maxLen; omega, rfl, ?_⟩⟩
  simp [Lib.byteCells]
  omega
theorem conv_msg (w : World) (u : Nat) (hu : u < 256) : (convert 50 9 (.slice (some ⟨w.heap.size, 0, none⟩) 2 2)).run Try.prog (w.alloc (.cells #[.int .u8 109, .int .u8 (u : Int)] 5)) = .ok (.string (msgN u)) (w.alloc (.cells #[.int .u8 109, .int .u8 (u : Int)] 5)) := put_conv (own_two w u hu)
end Go.Proofs.Ytoflohomnoppnaa
