/- The map of the types that were seen; the contract of fits; of misfits; of suggestions. -/
import Derived.Test.YtcmdfcdmfdheeaaNgBook
import Derived.Test.YtcmdfcdmfdheeaaNgPush
namespace Go.Proofs.Ytcmdfcdmfdheeaa
open Go.RowKit

/-- The map in block mb has the types of l. -/
def SeenIs (W : World) (mb : Nat) (l : List Tg) : Prop :=
  ∃ L, Assoc W Try.prog 3 mb L ∧ (∀ x ∈ l, (Value.int .i64 x.type, Value.agg #[]) ∈ L) ∧ (∀ p ∈ L, ∃ x ∈ l, p = (Value.int .i64 x.type, Value.agg #[])) ∧ L.length ≤ l.length

theorem findO_some {l : List Tg} {t : Int} : (findO l t).isSome = true ↔ ∃ x ∈ l, x.type = t := by
  unfold findO
  rw [Option.isSome_map, List.find?_isSome]
  simp

section
variable {W W' : World} {mb : Nat} {l : List Tg}
theorem SeenIs.made (w : World) : SeenIs (w.alloc (.map #[] 0)) w.heap.size [] := ⟨[], Assoc.made w _ _, fun _ hx => absurd hx List.not_mem_nil, fun _ hx => absurd hx List.not_mem_nil, Nat.le_refl _⟩
theorem SeenIs.kept {S : Nat → Prop} (h : SeenIs W mb l) (hk : Kept S W W') (hS : ¬ S mb) : SeenIs W' mb l := by
  obtain ⟨L, hA, r⟩ := h
  exact ⟨L, hA.same (hk.block mb hA.lt hS), r⟩
theorem SeenIs.ne (h : SeenIs W mb l) {base : Nat} {v : Value} {a : List Tg} (ho : OwnO W base v a) : v.ownBlock ≠ some mb := fun e => by
  obtain ⟨cur, hc⟩ := ho.cellsB e
  obtain ⟨L, ⟨es, clock, hb, _⟩, _⟩ := h
  rw [hb] at hc
  cases hc
theorem SeenIs.look (h : SeenIs W mb l) {t : Int} (ht : In64 t) :
    (Instr.lookup 125 (.map (some mb)) (.int .i64 t) true).run Try.prog W = .ok (.tuple #[.agg #[], .bool (findO l t).isSome]) W := by
  obtain ⟨L, hA, h1, h2, _⟩ := h
  rcases hA.look true keyInt Try.underlying125 (zeroSeen W) (key_int ht) with ⟨hn, hr⟩ | ⟨x, hx, hr⟩
  · have : (findO l t).isSome = false := by
      rw [Bool.eq_false_iff]
      intro hs
      obtain ⟨x, hx, rfl⟩ := findO_some.1 hs
      exact hn _ (h1 x hx) rfl
    rw [this]
    exact hr
  · obtain ⟨y, hy, e⟩ := h2 _ hx
    simp only [Prod.mk.injEq, Value.int.injEq, true_and] at e
    obtain ⟨rfl, rfl⟩ := e
    rw [findO_some.2 ⟨y, hy, rfl⟩]
    exact hr
theorem SeenIs.add (h : SeenIs W mb l) (x : Tg) (hx : In64 x.type) (hl : l.length < 1000000) :
    ∃ w', (Instr.mapUpdate 125 (.map (some mb)) (.int .i64 x.type) (.agg #[])).run Try.prog W = .ok () w' ∧ SeenIs w' mb (l ++ [x]) ∧ Kept (fun i => i = mb) W w' := by
  obtain ⟨L, hA, h1, h2, h3⟩ := h
  by_cases hin : (Value.int .i64 x.type, Value.agg #[]) ∈ L
  · obtain ⟨s, t, e⟩ := List.append_of_mem hin
    have hp : L.Perm ((Value.int .i64 x.type, Value.agg #[]) :: (s ++ t)) := by rw [e]; exact List.perm_middle
    obtain ⟨w', hrun, hA', ht⟩ := hA.store keyInt Try.underlying125 (by unfold maxLen; omega) (val := .agg #[]) (key_int hx) (M := s ++ t) (Or.inr ⟨_, hp⟩)
    refine ⟨w', hrun, ⟨L, hA'.perm hp.symm, fun y hy => ?_, fun p hp' => ?_, by simp; omega⟩, kept_turned ht⟩
    · rcases List.mem_append.1 hy with hy | hy
      · exact h1 y hy
      · rw [List.mem_singleton.1 hy]
        exact hin
    · obtain ⟨y, hy, e⟩ := h2 p hp'
      exact ⟨y, List.mem_append_left _ hy, e⟩
  · have hno : ∀ p ∈ L, p.1 ≠ Value.int .i64 x.type := fun p hp e => by
      obtain ⟨y, hy, rfl⟩ := h2 p hp
      simp only at e
      rw [e] at hp
      exact hin hp
    obtain ⟨w', hrun, hA', ht⟩ := hA.store keyInt Try.underlying125 (by unfold maxLen; omega) (val := .agg #[]) (key_int hx) (M := L) (Or.inl ⟨List.Perm.refl _, hno⟩)
    refine ⟨w', hrun, ⟨_, hA', fun y hy => ?_, fun p hp' => ?_, by simp; omega⟩, kept_turned ht⟩
    · rcases List.mem_append.1 hy with hy | hy
      · exact List.mem_cons_of_mem _ (h1 y hy)
      · rw [List.mem_singleton.1 hy]
        exact List.mem_cons_self ..
    · rcases List.mem_cons.1 hp' with rfl | hp'
      · exact ⟨x, by simp, rfl⟩
      · obtain ⟨y, hy, e⟩ := h2 p hp'
        exact ⟨y, List.mem_append_left _ hy, e⟩
end

/-- Does a rule let it be? -/
def letsB (rs : List Rl) (x : Tg) : Bool := (ruleF rs x.type).any fun r => fitsF r x.value
def tgV (x : Tg) : Value := .agg #[.int .i64 x.type, .string x.value]

set_option maxHeartbeats 2000000 in
set_option maxRecDepth 100000 in
theorem bookFits_any (v : Value) (rs : List Rl) (x : Tg) (w : World) (hb : BookIs w v rs) (hx : In64 x.type) (hsz : x.value.size ≤ 140737488351232) :
    Calls Try.prog 73 #[v, tgV x] w fun e w' => e = .returned (.bool (letsB rs x)) ∧ Kept (fun _ => False) w w' := by
  have hk1 := (Kept.refl (fun _ => False) w).alloc (.cells #[.int .i64 x.type, .string x.value] 51)
  have hlook := (hb.kept0 hk1).look hx true
  have HL := hid hlook
  simp only [if_true] at hlook
  have b0 := (BoxO.new w x).c0
  have b1 := (BoxO.new w x).c1
  obtain ⟨mb, L, rfl, _⟩ := hb
  unfold tgV letsB
  cases hf : ruleF rs x.type with
  | none =>
    rw [hf] at hlook
    simp only [Option.getD_none, Option.isSome_none, rlV, rl0] at hlook
    have HK := hid (hk1.alloc (.cells #[.int .i64 0, .int .i64 0, .int .i64 0, .int .i64 0, .string ⟨#[]⟩] 56))
    clear HL hf hk1
    go_enter Try.func73, Try.ntmps73
    go_wp2
    go_ret
    exact ⟨rfl, HK.out⟩
  | some r =>
    rw [hf] at hlook
    simp only [Option.getD_some, Option.isSome_some, rlV] at hlook
    have HK := hid (hk1.alloc (.cells #[.int .i64 r.type, .int .i64 r.len, .int .i64 r.min, .int .i64 r.max, .string r.suggest] 56))
    obtain ⟨r0, r1, r2, r3, r4⟩ := boxR_new (w.alloc (.cells #[.int .i64 x.type, .string x.value] 51)) r
    have HF := hid (fits_any r x.value hsz)
    unfold rlV at HF
    have e : Hid (Option.any (fun r => fitsF r x.value) (some r) = fitsF r x.value) := rfl
    generalize fitsF r x.value = B at *
    clear HL hf hk1
    go_enter Try.func73, Try.ntmps73
    go_wp2_with fail
    refine (HF.out _).mono ?_
    rintro en w1 ⟨rfl, hk⟩
    have HK1 := hid (HK.out.trans hk)
    clear hk
    go_wp2
    go_ret
    exact ⟨by rw [e.out]; rfl, HK1.out⟩
end Go.Proofs.Ytcmdfcdmfdheeaa
