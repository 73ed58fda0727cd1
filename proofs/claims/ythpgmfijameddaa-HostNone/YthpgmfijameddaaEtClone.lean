/- slices.Clone of frames; and Everyone. -/
import Derived.Test.YthpgmfijameddaaEtDisc
import Derived.Deep.Upon
import Derived.Maps.AppendAt
namespace Go.Proofs.Ythpgmfijameddaa
open Go.RowKit

theorem infoEth : (Try.prog.info? 25).map (fun i => (i.zero, i.size, i.bytes)) = some (some (.agg Z14), 14, 40) := by kernel_rfl

theorem info_parts_at {e : TypeId} {z : Value} {k b : Nat} (h : (Try.prog.info? e).map (fun i => (i.zero, i.size, i.bytes)) = some (some z, k, b)) : ∃ i, Try.prog.info? e = some i ∧ i.zero = some z ∧ i.size = k ∧ i.bytes = b := by
  cases hi : Try.prog.info? e with
  | none => rw [hi] at h; cases h
  | some i =>
    rw [hi] at h
    simp only [Option.map_some, Option.some.injEq, Prod.mk.injEq] at h
    exact ⟨i, rfl, h.1, h.2.1, h.2.2⟩

/-- A frame whose cards have six bytes. -/
def Fr6 (f : Fr) : Prop := f.dst.length = 6 ∧ f.src.length = 6
theorem Fr6.len {f : Fr} (h : Fr6 f) : (frList f).length = 14 := by simp [frList, Lib.byteCells_length, h.1, h.2]
theorem frList_one (f : Fr) : ∀ u ∈ frList f, u.oneCell' = true := by
  intro u hu
  simp only [frList, List.mem_append, List.mem_cons, List.not_mem_nil, or_false] at hu
  rcases hu with (hu | hu) | rfl | rfl
  · simp only [Lib.byteCells, List.mem_map] at hu
    obtain ⟨x, _, rfl⟩ := hu
    rfl
  · simp only [Lib.byteCells, List.mem_map] at hu
    obtain ⟨x, _, rfl⟩ := hu
    rfl
  · rfl
  · rfl
theorem rowE_one (l : List Fr) : ∀ u ∈ rowE l, u.oneCell' = true := by
  intro u hu
  simp only [rowE, List.mem_flatMap] at hu
  obtain ⟨f, _, h⟩ := hu
  exact frList_one f u h
theorem etFrame_six {to src : List UInt8} (hto : to.length = 6) (hsrc : src.length = 6) (kind code session : Int) (data : List UInt8) : Fr6 (etFrame to src kind code session data).1 := by
  unfold etFrame
  split
  · exact ⟨hto, hsrc⟩
  · exact ⟨rfl, rfl⟩
theorem etDisc_six {to src : List UInt8} (hto : to.length = 6) (hsrc : src.length = 6) (code session : Int) (tags : List Tg) : ∀ f ∈ etDisc to src code session tags, Fr6 f := by
  intro f hf
  unfold etDisc at hf
  split at hf
  · split at hf
    · simp only [List.mem_cons, List.not_mem_nil, or_false] at hf
      subst hf
      exact etFrame_six hto hsrc _ _ _ _
    · simp at hf
  · simp at hf
theorem rowE_length {l : List Fr} (h : ∀ f ∈ l, Fr6 f) : (rowE l).length = l.length * 14 := by
  induction l with
  | nil => rfl
  | cons f l ih =>
    have e : rowE (f :: l) = frList f ++ rowE l := by simp [rowE]
    rw [e, List.length_append, (h f (by simp)).len, ih (fun g hg => h g (by simp [hg])), List.length_cons]
    omega

/-- The cells of a row of frames. -/
theorem OwnE.cells {w : World} {base g n cap : Nat} {l : List Fr} (h : OwnE w base (.slice (some ⟨g, 0, none⟩) n cap) l) : ∀ j u, (rowE l)[j]? = some u → w.cell? ((⟨g, 0, none⟩ : Addr).add j) = some u := by
  intro j u hj
  rcases h.2 with ⟨h', _⟩ | ⟨g', cap', cur, h', hb, hg, h1, h2, h3, h4⟩
  · simp at h'
  · simp only [Value.slice.injEq, Option.some.injEq, Addr.mk.injEq, and_true] at h'
    obtain ⟨rfl, rfl, rfl⟩ := h'
    rw [← h4] at hj
    rw [addr_add, cell_of_row _ _ j cur _ _ hg]
    rw [List.getElem?_take] at hj
    split at hj
    · simpa using hj
    · cases hj

set_option maxHeartbeats 1000000 in
set_option maxRecDepth 100000 in
theorem cloneE_any (v : Value) (l : List Fr) (base : Nat) (w : World) (h : OwnE w base v l) (hl : l.length ≤ 1000) :
    Calls Try.prog 22 #[v] w fun e w' => ∃ u, e = .returned u ∧ OwnE w' w.heap.size u l ∧ Kept (fun _ => False) w w' := by
  rcases id h.2 with ⟨rfl, h0⟩ | ⟨g, cap, cur, rfl, hb, hg, h1, h2, h3, h4⟩
  · have hE : ∀ W : World, Sem.run Try.prog (binOp .eql 35 (.slice none 0 0) (.slice none 0 0)) W = .ok (.bool true) W := fun W => by kernel_rfl
    have hnil : l = [] := List.length_eq_zero_iff.1 h0
    subst hnil
    go_enter Try.func22, Try.ntmps22
    go_wp2
    go_ret
    exact ⟨_, rfl, OwnE.nil _ _, Kept.refl _ _⟩
  · obtain ⟨i0, hi0, hz0, hz1, hz2⟩ := info_parts_at infoEth
    have hE : ∀ W : World, Sem.run Try.prog (binOp .eql 35 (.slice (some ⟨g, 0, none⟩) l.length cap) (.slice none 0 0)) W = .ok (.bool false) W := fun W => by kernel_rfl
    have hlen : (rowE l).length = l.length * 14 := h.1
    have h' : OwnE (w.alloc (.cells #[] 25)) base (.slice (some ⟨g, 0, none⟩) l.length cap) l := h.kept ((Kept.refl _ w).alloc _)
    have ho : (w.alloc (.cells #[] 25)).ownsRow w.heap.size 25 14 (.slice (some ⟨w.heap.size, 0, none⟩) 0 0) 0 [] :=
      ⟨rfl, Or.inr ⟨w.heap.size, 0, #[], rfl, Nat.le_refl _, heap_alloc_new w _, Nat.le_refl _, Nat.zero_le _, rfl, rfl⟩⟩
    have Hc := hid h'.cells
    have Ho := hid ho
    clear ho h' h hg h4
    go_enter Try.func22, Try.ntmps22
    go_wp2_with (at_builtin; refine wpList_append_own _ rfl _ _ 35 rfl w.heap.size 25 i0 (.agg Z14) 14 40 Try.underlying35 hi0 hz0 hz1 hz2 rfl (by decide) _ 0 [] rfl Ho.out ⟨g, 0, none⟩ l.length cap (rowE l) rfl hlen ?c1 ?c2 ?c3 ?c4 ?c5 ?_)
    case c1 => exact Hc.out
    case c2 => exact rowE_one l
    case c3 => unfold maxLen; omega
    case c4 => omega
    case c5 => simp
    intro v' w' ho' hgr _
    have K := hid (((Kept.refl (fun _ => False) w).alloc (.cells #[] 25)).grown hgr (fun j hj => by
      simp only [Value.ownBlock, Option.some.injEq] at hj
      left
      omega))
    have HO := hid ho'
    clear ho' hgr
    go_wp2
    go_ret
    exact ⟨_, rfl, HO.out, K.out⟩

set_option maxRecDepth 100000 in
theorem everyone_any (w : World) : Calls Try.prog 29 #[] w fun e w' => e = .returned (.agg #[.int .u8 255, .int .u8 255, .int .u8 255, .int .u8 255, .int .u8 255, .int .u8 255]) ∧ Kept (fun _ => False) w w' := by
  go_enter Try.func29, Try.ntmps29
  go_wp2
  refine bodyPost_ret (v := .agg #[.int .u8 255, .int .u8 255, .int .u8 255, .int .u8 255, .int .u8 255, .int .u8 255]) (by simp [results, Try.results29, go_sem]) rfl ⟨rfl, ?_⟩
  repeat (refine Kept.setCell ?_ (Or.inl (by simp)) _)
  exact (Kept.refl _ w).alloc _
end Go.Proofs.Ythpgmfijameddaa
