/- An assignment to several places, one of them a map's element ('m[k], .. = v, ..'): the entry is made or found first, its value stored behind; what both leave of the map's list of entries. -/
import Derived.Test.YtblcojggjplndaaDoorAssoc
import Derived.WideKeyEntry
namespace Go.Proofs.YtblcojggjplndaaDoor
open Go.ChangeMaps Go.MapKept
open Go.Maps (Keyed)

/-- At a key that is not there. -/
theorem Assoc.entry {P : Program} {k t e : TypeId} {w : World} {b : Nat} {L : List (Value × Value)} (h : Assoc w P k b L) (K : Keyed P k) (ht : P.underlying t = some (.map k e)) {z : Value} (hz : ∀ u : World, (zeroValue e).run P u = .ok z u) (hroom : L.length < maxLen) {key : Value} {kl : Lit} (hkey : keyOf P k key = some kl) (hno : ∀ p ∈ L, p.1 ≠ key) (val : Value) :
    ∃ w1 st, (Instr.mapEntry t (.map (some b)) key).run P w = .ok (.tuple #[z, st]) w1 ∧ w.mapTurned w1 b ∧
      ∀ w2 : World, w2.heap[b]? = w1.heap[b]? → ∃ w3, (Instr.entryStore t (.map (some b)) st val).run P w2 = .ok () w3 ∧ Assoc w3 P k b ((key, val) :: L) ∧ w2.mapTurned w3 b := by
  obtain ⟨es, clock, hb, hs, hm, hk, hL⟩ := h
  have hlen : es.size < maxLen := by
    have := hL.length_eq
    simp at this
    omega
  obtain ⟨s1, s2, _⟩ := (stamped_iff es clock).1 hs
  have h2 : ∀ x ∈ es.toList, x.key ≠ key := fun x hx => hno _ (hL.mem_iff.1 (List.mem_map.2 ⟨x, hx, rfl⟩))
  rcases K.find w hkey es.toList hk with ⟨h1, _⟩ | ⟨j, e0, _, h3, h4⟩
  · refine ⟨setBlock w b (.map (es.push ⟨key, z, clock⟩) (clock + 1)), goInt clock, by simp [Instr.mapEntry, run_underlying ht, MapKept.run_getObj_map hb, K.check w false hkey, h1, hz, MapKept.run_setObj_map _ hb, Result.andThen, setBlock], ⟨es, clock, _, _, hb, rfl⟩, fun w2 hw => ?_⟩
    have hw2 : w2.heap[b]? = some (.map (es.push ⟨key, z, clock⟩) (clock + 1)) := hw.trans (heap_setBlock_same hb _)
    have hidx : (es.push ⟨key, z, clock⟩).findIdx? (fun e => ((e.born : Nat) : Int) == ((clock : Nat) : Int)) = some es.size := by
      rw [WideElems.findIdx_arr]
      exact WideElems.findIdx_born (l := (es.push ⟨key, z, clock⟩).toList) (j := es.size) (e0 := ⟨key, z, clock⟩) (by
        simp only [Array.toList_push, List.map_append, List.map_cons, List.map_nil]
        refine List.nodup_append.2 ⟨s2, by simp, fun a ha c hc e1 => ?_⟩
        simp only [List.mem_singleton] at hc
        obtain ⟨x, hx, rfl⟩ := List.mem_map.1 ha
        have := s1 x hx
        omega) (by simp)
    have hmod : (es.push ⟨key, z, clock⟩).modify es.size (fun e => { e with val := val }) = es.push ⟨key, val, clock⟩ := by
      apply Array.ext'
      rw [Array.toList_modify, Array.toList_push, Array.toList_push, ← Array.length_toList, WideElems.modify_last]
    refine ⟨setBlock w2 b (.map (es.push ⟨key, val, clock⟩) (clock + 1)), by simp [Instr.entryStore, MapKept.run_getObj_map hw2, asInt, asIntOf, goInt, hidx, hmod, MapKept.run_setObj_map _ hw2, Result.andThen, setBlock], ⟨es.push ⟨key, val, clock⟩, clock + 1, heap_setBlock_same hw2 _, stamped_push hs h2, by simp; omega, ?_, ?_⟩, ⟨_, _, _, _, hw2, rfl⟩⟩
    · intro x hx
      simp only [Array.toList_push, List.mem_append, List.mem_singleton] at hx
      rcases hx with hx | rfl
      · exact hk x hx
      · exact ⟨kl, hkey⟩
    · rw [Array.toList_push, List.map_append, List.map_singleton]
      exact (List.perm_append_singleton _ _).trans (List.Perm.cons (key, val) hL)
  · exact absurd h4 (h2 e0 (List.mem_of_getElem? h3))
end Go.Proofs.YtblcojggjplndaaDoor
