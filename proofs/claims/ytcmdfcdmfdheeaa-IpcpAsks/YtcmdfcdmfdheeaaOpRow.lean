/- Options as rows of memory: two cells each; lists of a call's own; a boxed option; a boxed packet. -/
import Derived.Test.YtcmdfcdmfdheeaaOpPlain
import Derived.Test.YtcmdfcdmfdheeaaTagKit
namespace Go.Proofs.Ytcmdfcdmfdheeaa
open Go.RowKit

theorem infoOpt : (Try.prog.info? 51).map (fun i => (i.zero, i.size, i.bytes)) = some (some (.agg #[.int .i64 0, .string ⟨#[]⟩]), 2, 24) := by kernel_rfl

/-- The slice v holds the options of l, in a row that lies at base or behind. -/
def OwnO (w : World) (base : Nat) (v : Value) (l : List Tg) : Prop := w.ownsRow base 51 2 v l.length (rowT l)

theorem OwnO.nil (w : World) (base : Nat) : OwnO w base (.slice none 0 0) [] := World.ownsRow_nil _ _ _ _

theorem OwnO.tags {w : World} {base : Nat} {v : Value} {l : List Tg} (h : OwnO w base v l) : TagsAt w v l := by
  rcases h.2 with ⟨rfl, h0⟩ | ⟨g, cap, cur, rfl, hb, hg, h1, h2, h3, h4⟩
  · exact Or.inl ⟨List.eq_nil_of_length_eq_zero h0, none, 0, rfl⟩
  · refine Or.inr ⟨g, 0, cap, rfl, h1, h2, fun j x hj => ?_⟩
    have hlt := (List.getElem?_eq_some_iff.1 hj).1
    have hc : ∀ i, i < l.length * 2 → w.cell? ⟨g, i, none⟩ = (rowT l)[i]? := fun i hi => by
      rw [← h4, List.getElem?_take_of_lt hi]
      simp [World.cell?, hg]
    rw [Nat.zero_add, show j * 2 = j * 2 + 0 from rfl, hc _ (by omega), hc _ (by omega), rowT_get hj 0 (by omega), Nat.add_zero, rowT_get hj 1 (by omega)]
    exact ⟨rfl, rfl⟩

theorem OwnO.kept {w w' : World} {base : Nat} {v : Value} {l : List Tg} (h : OwnO w base v l) (hk : Kept (fun _ => False) w w') : OwnO w' base v l := by
  rcases h.2 with ⟨rfl, h0⟩ | ⟨g, cap, cur, rfl, hb, hg, h1, h2, h3, h4⟩
  · exact ⟨h.1, Or.inl ⟨rfl, h0⟩⟩
  · exact ⟨h.1, Or.inr ⟨g, cap, cur, rfl, hb, (hk.block g (Array.getElem?_eq_some_iff.1 hg).1 id).trans hg, h1, h2, h3, h4⟩⟩

theorem OwnO.mono {w : World} {base base' : Nat} {v : Value} {l : List Tg} (h : OwnO w base v l) (hb : base' ≤ base) : OwnO w base' v l := by
  rcases h.2 with ⟨rfl, h0⟩ | ⟨g, cap, cur, rfl, hb', hg, h1, h2, h3, h4⟩
  · exact ⟨h.1, Or.inl ⟨rfl, h0⟩⟩
  · exact ⟨h.1, Or.inr ⟨g, cap, cur, rfl, Nat.le_trans hb hb', hg, h1, h2, h3, h4⟩⟩

/-- A boxed option. -/
def BoxO (w : World) (b : Nat) (x : Tg) : Prop := w.heap[b]? = some (.cells #[.int .i64 x.type, .string x.value] 51 (0, 0))
theorem BoxO.new (w : World) (x : Tg) : BoxO (w.alloc (.cells #[.int .i64 x.type, .string x.value] 51)) w.heap.size x := heap_alloc_new w _
theorem BoxO.c0 {w : World} {b : Nat} {x : Tg} (h : BoxO w b x) : w.cell? ⟨b, 0, none⟩ = some (.int .i64 x.type) := by simp [World.cell?, show w.heap[b]? = _ from h]
theorem BoxO.c1 {w : World} {b : Nat} {x : Tg} (h : BoxO w b x) : w.cell? ⟨b, 1, none⟩ = some (.string x.value) := by simp [World.cell?, show w.heap[b]? = _ from h]
theorem BoxO.lt {w : World} {b : Nat} {x : Tg} (h : BoxO w b x) : b < w.heap.size := (Array.getElem?_eq_some_iff.1 h).1

/-- What a row of bytes grows by is no box of a option. -/
theorem BoxO.beside {w w' : World} {b base n : Nat} {x : Tg} {v : Value} {xs : List Value} (h : BoxO w b x) (hown : w.ownsRow base 5 1 v n xs) (hk : Kept (fun i => v.ownBlock = some i) w w') : BoxO w' b x := by
  refine (hk.block b h.lt ?_).trans h
  intro e
  rcases hown.2 with ⟨rfl, _⟩ | ⟨g, cap, cur, rfl, hb, hg, _⟩
  · cases e
  · have : g = b := by simpa [Value.ownBlock] using e
    subst this
    rw [show w.heap[g]? = _ from h] at hg
    simp at hg

theorem cells_pairO_new (w : World) (x : Tg) : ∀ (j : Nat) (u : Value), ([.int .i64 x.type, .string x.value] : List Value)[j]? = some u → (w.alloc (.cells #[.int .i64 x.type, .string x.value] 51)).cell? ((⟨w.heap.size, 0, none⟩ : Addr).add j) = some u := cells_two_new _ _ _ _

/-- One more option. -/
theorem own_moreO {w0 w w' : World} {v v' : Value} {l : List Tg} {x : Tg} (hk : Kept (fun _ => False) w0 w) (hown : OwnO w w0.heap.size v l)
    (hown' : w'.ownsRow w0.heap.size 51 2 v' (l.length + 1) (rowT l ++ [.int .i64 x.type, .string x.value])) (hg : (w.alloc (.cells #[.int .i64 x.type, .string x.value] 51)).grownBy w' v.ownBlock) :
    OwnO w' w0.heap.size v' (l ++ [x]) ∧ Kept (fun _ => False) w0 w' := by
  constructor
  · unfold OwnO
    rw [rowT_append, rowT_one, List.length_append]
    exact hown'
  · exact (hk.alloc _).grown hg (fun j hj => Or.inl (World.ownsRow.lt hown j hj).1)

/-- The list as it stands in the middle of a round. -/
def MidO (w : World) (vl : Value) (acc : List Tg) (W : World) : Prop := OwnO W w.heap.size vl acc ∧ Kept (fun _ => False) w W

theorem MidO.since {f : FuncId} {args : Array Value} {r : Ending} (h : ∀ w, Calls Try.prog f args w fun e w' => e = r ∧ Kept (fun _ => False) w w') (w : World) (vl : Value) (acc : List Tg) :
    ∀ W, MidO w vl acc W → Calls Try.prog f args W fun e w' => e = r ∧ MidO w vl acc w' := fun W hW =>
  (h W).mono fun _ _ ⟨h1, h2⟩ => ⟨h1, hW.1.kept h2, hW.2.trans h2⟩
theorem MidO.drew {w : World} {vl : Value} {acc : List Tg} {W : World} (h : MidO w vl acc W) : MidO w vl acc W.drew := ⟨h.1.kept (Kept.refl _ _).drew, h.2.drew⟩

theorem str_some {s : ByteArray} (h : s.size ≠ 0) : ¬ s.toList = [] := by
  intro e
  rw [ByteArray.toList_eq] at e
  exact h (by rw [Lib.size_eq, e]; rfl)

theorem find_hit {l : List Tg} {p : Tg → Bool} {j : Nat} {x : Tg} (h : (l.take j).find? p = none) (hx : l[j]? = some x) (hp : p x = true) : l.find? p = some x := by
  have e : l = l.take j ++ l.drop j := (List.take_append_drop j l).symm
  have hd : l.drop j = x :: l.drop (j + 1) := by
    obtain ⟨hlt, hg⟩ := List.getElem?_eq_some_iff.1 hx
    rw [List.drop_eq_getElem_cons hlt, hg]
  rw [e, List.find?_append, h, hd, List.find?_cons, hp]
  rfl
theorem find_on {l : List Tg} {p : Tg → Bool} {j : Nat} {x : Tg} (h : (l.take j).find? p = none) (hx : l[j]? = some x) (hp : p x = false) : (l.take (j + 1)).find? p = none := by
  rw [take_next hx, List.find?_append, h]
  simp [hp]
end Go.Proofs.Ytcmdfcdmfdheeaa
