/- slices.Clone of options and of ints: a list of the call's own. -/
import Derived.Test.YtcmdfcdmfdheeaaOpApp
import Derived.Test.YtcmdfcdmfdheeaaAuApp
namespace Go.Proofs.Ytcmdfcdmfdheeaa
open Go.RowKit

theorem eqOptsNil (w : World) : (binOp .eql 22 (.slice none 0 0) (.slice none 0 0)).run Try.prog w = .ok (.bool true) w := by kernel_rfl
theorem eqOptsSome (ad : Addr) (n c : Nat) (w : World) : (binOp .eql 22 (.slice (some ad) n c) (.slice none 0 0)).run Try.prog w = .ok (.bool false) w := by kernel_rfl

/-- A list that is read: nil, or it has a place. -/
theorem TagsAt.cases {W : World} {v : Value} {l : List Tg} (h : TagsAt W v l) : (∃ cap, l = [] ∧ v = .slice none 0 cap) ∨ ∃ ad cap, v = .slice (some ad) l.length cap := by
  rcases h with ⟨rfl, p, cap, rfl⟩ | ⟨g, o, cap, rfl, _⟩
  · cases p with
    | none => exact Or.inl ⟨cap, rfl, rfl⟩
    | some ad => exact Or.inr ⟨ad, cap, rfl⟩
  · exact Or.inr ⟨_, cap, rfl⟩

/-- A list that is handed over: as TagsAt, and a nil one has no room. -/
def OptsAt (W : World) (v : Value) (l : List Tg) : Prop := TagsAt W v l ∧ ∀ n cap, v = .slice none n cap → cap = 0
theorem OwnO.at {W : World} {base : Nat} {v : Value} {l : List Tg} (h : OwnO W base v l) : OptsAt W v l := by
  refine ⟨h.tags, fun n cap e => ?_⟩
  rcases h.2 with ⟨rfl, _⟩ | ⟨g, cap', cur, rfl, _⟩
  · simp at e; omega
  · cases e
theorem OptsAt.kept {S : Nat → Prop} {W W' : World} {v : Value} {l : List Tg} (h : OptsAt W v l) (hk : Kept S W W') (hS : ∀ i, i < W.heap.size → S i → v.ownBlock ≠ some i) : OptsAt W' v l := ⟨h.1.kept hk hS, h.2⟩
theorem OptsAt.kept0 {W W' : World} {v : Value} {l : List Tg} (h : OptsAt W v l) (hk : Kept (fun _ => False) W W') : OptsAt W' v l := ⟨h.1.kept0 hk, h.2⟩
theorem OptsAt.nil (W : World) : OptsAt W (.slice none 0 0) [] := ⟨Or.inl ⟨rfl, none, 0, rfl⟩, fun n cap e => by simp at e; omega⟩

set_option maxHeartbeats 1000000 in
set_option maxRecDepth 100000 in
theorem cloneO_any (v : Value) (l : List Tg) (w : World) (h : OptsAt w v l) (hl : l.length ≤ 1000000) :
    Calls Try.prog 35 #[v] w fun e w' => ∃ u, e = .returned u ∧ OwnO w' w.heap.size u l ∧ Kept (fun _ => False) w w' := by
  rcases h.1.cases with ⟨cap, rfl, rfl⟩ | ⟨ad, cap, rfl⟩
  · obtain rfl := h.2 0 cap rfl
    have hE := eqOptsNil
    go_enter Try.func35, Try.ntmps35
    go_wp2
    go_ret
    exact ⟨_, rfl, OwnO.nil _ _, Kept.refl _ _⟩
  · have hE := eqOptsSome ad l.length cap
    have hk0 := (Kept.refl (fun _ => False) w).alloc (.cells #[] 51)
    have ho : OwnO (w.alloc (.cells #[] 51)) w.heap.size (.slice (some ⟨w.heap.size, 0, none⟩) 0 0) [] :=
      ⟨rfl, Or.inr ⟨w.heap.size, 0, #[], rfl, Nat.le_refl _, heap_alloc_new w _, Nat.le_refl _, Nat.zero_le _, rfl, rfl⟩⟩
    obtain ⟨v', w', hr, ho', hk'⟩ := appendO_run hk0 ho (h.1.kept0 hk0) (by simp; omega)
    have HO := hid ho'
    have HK := hid hk'
    clear ho hk0 h ho' hk'
    go_enter Try.func35, Try.ntmps35
    go_wp2_with (at_builtin; refine Lib.wpList_append_run _ rfl _ _ _ _ rfl _ _ rfl rfl _ _ (hr _) ?_)
    go_ret
    exact ⟨_, rfl, HO.out, HK.out⟩
end Go.Proofs.Ytcmdfcdmfdheeaa
