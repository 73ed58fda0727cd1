/- The contract of slices.Delete of the first strings of a row, over the library's own. -/
import Derived.Test.YtoflohomnoppnaaCnMem
import Derived.Test.YtoflohomnoppnaaLayDel
import Derived.Shelf.SlicesE.Delete
namespace Go.Proofs.Ytoflohomnoppnaa
open Go.RowKit Go.Shelf Go.Sort

theorem putRow_heap {α : Type} [Inhabited α] (enc : α → Value) (w : World) (g : Nat) (d : Array α) {cur : Array Value} {e : TypeId} {fz : Nat × Nat} (h : w.heap[g]? = some (.cells cur e fz)) : (putRow enc w g 0 d).heap[g]? = some (.cells (putCells enc 0 d cur) e fz) := by
  unfold putRow mapBlock
  simp only [Array.getElem?_modify, if_true, h, Option.map_some, onCells]
theorem putRow_kept {α : Type} [Inhabited α] (enc : α → Value) (w : World) (g : Nat) (d : Array α) : Kept (fun i => i = g) w (putRow enc w g 0 d) := by
  refine ⟨rfl, rfl, rfl, by simp [putRow, mapBlock], fun k hk hn => ?_⟩
  unfold putRow mapBlock
  simp only [Array.getElem?_modify, if_neg (fun e => hn (Eq.symm e))]
theorem rowS_get (l : List ByteArray) (i : Nat) : (rowG encS l)[i]? = l[i]?.map Value.string := by
  induction l generalizing i with
  | nil => simp [rowG]
  | cons a r ih =>
    rw [rowG_cons]
    cases i with
    | zero => simp [encS]
    | succ i => simpa [encS] using ih i

set_option maxRecDepth 100000 in
theorem del_any {w : World} {base : Nat} {v : Value} {l : List ByteArray} (h : OwnS w base v l) (n : Nat) (hn : n ≤ l.length) (hne : l ≠ []) :
    Calls Try.prog 34 #[v, .int .i64 0, .int .i64 (n : Int)] w fun e w' => ∃ v', e = .returned v' ∧ OwnS w' base v' (l.drop n) ∧ v'.ownBlock = v.ownBlock ∧ Kept (fun i => v.ownBlock = some i) w w' := by
  rcases h.2 with ⟨_, h0⟩ | ⟨g, cap, cur, rfl, hb, hg, h1, h2, h3, h4⟩
  · exact absurd (List.eq_nil_of_length_eq_zero h0) hne
  · obtain ⟨i0, hi0, _, hz1, _⟩ := info_parts (tyS).info
    have hsz : l.toArray.size = l.length := by simp
    have hH : Holds Value.string w g 0 l.toArray := fun j hj => by
      rw [hsz] at hj
      refine ⟨?_, frozen_of_row w g _ _ _ hg⟩
      have hc : w.cell? ⟨g, 0 + j, none⟩ = cur[0 + j]? := by simp [World.cell?, hg]
      rw [hc, Nat.zero_add, ← Array.getElem?_toList]
      have e1 : (cur.toList.take (l.length * 1))[j]? = cur.toList[j]? := List.getElem?_take_of_lt (by omega)
      rw [← e1, h4, rowS_get]
      simp [hj]
    have hc := AnyE.slices_Delete delSLays Value.string (fun _ => rfl) ⟨#[]⟩ (fun _ => by kernel_rfl) i0 hi0 hz1 g 0 cap 0 n l.toArray w hH (by rw [hsz]; exact h1) (by unfold maxLen at h2; omega) (Nat.zero_le _) (by rw [hsz]; exact hn)
    rw [hsz] at hc
    refine hc.mono ?_
    rintro e w' ⟨rfl, q, rfl⟩
    have hk : Kept (fun i => i = g) w (Sort.ahead w q) := ⟨rfl, rfl, rfl, Nat.le_refl _, fun _ _ _ => rfl⟩
    refine ⟨_, rfl, ?_, rfl, (hk.trans (putRow_kept _ _ _ _)).mono (fun i _ e => by rw [e]; rfl)⟩
    have hld : (l.drop n).length = l.length - (n - 0) := by simp
    unfold OwnS OwnG
    rw [hld]
    refine owned_of hb (putRow_heap Value.string (Sort.ahead w q) g _ (show (Sort.ahead w q).heap[g]? = _ from hg)) (by omega) h2 (by rw [putCells, Array.size_mapIdx]; exact h3) (by rw [encS_ok.length, hld]) ?_
    apply List.ext_getElem?
    intro j
    by_cases hj : j < (l.length - (n - 0)) * 1
    · rw [List.getElem?_take_of_lt hj, rowS_get, Array.getElem?_toList, putCells, Array.getElem?_mapIdx]
      have hjl : j < l.length := by omega
      have hjc : j < cur.size := by omega
      rw [Array.getElem?_eq_getElem hjc, Option.map_some, if_pos ⟨Nat.zero_le _, by simp; omega⟩]
      have hx : (l.drop n)[j]? = some (l[n + j]'(by omega)) := by rw [List.getElem?_drop, List.getElem?_eq_getElem (by omega)]
      rw [hx, Option.map_some, Nat.sub_zero j, getElem!_pos _ j (by simp; omega)]
      congr 2
      simp only [List.getElem_toArray]
      rw [List.getElem_append_left (by simp; omega)]
      simp
    · rw [List.getElem?_eq_none (by rw [List.length_take]; omega), rowS_get, List.getElem?_eq_none (by rw [List.length_drop]; omega)]
      rfl
end Go.Proofs.Ytoflohomnoppnaa
