/- The rules of a negotiation as a map by their types: what a look-up gives; the contract of byType; the map of the types that were seen. -/
import Derived.Test.YtcmdfcdmfdheeaaNgFits
import Derived.Test.YtcmdfcdmfdheeaaAssoc
import Derived.Test.YtcmdfcdmfdheeaaAuLit
namespace Go.Proofs.Ytcmdfcdmfdheeaa
open Go.RowKit
open Go.Maps (Keyed)

theorem keyInt : Keyed Try.prog 3 := Maps.int_keyed Try.underlying3
theorem key_int {t : Int} (h : In64 t) : keyOf Try.prog 3 (.int .i64 t) = some (.int .i64 t) := Maps.keyOf_int_mk Try.underlying3 (wf64 h)
theorem zeroRule (w : World) : (zeroValue 56).run Try.prog w = .ok (rlV rl0) w := by kernel_rfl
theorem zeroSeen (w : World) : (zeroValue 126).run Try.prog w = .ok (.agg #[]) w := by kernel_rfl

theorem kept_turned {w w' : World} {b : Nat} (h : w.mapTurned w' b) : Kept (fun i => i = b) w w' := by
  have hg := h.grown
  exact ⟨hg.os, hg.tape, hg.output, hg.size, fun k hk hn => hg.block k hk (fun e => hn (by simpa using e))⟩

/-- The map v has the rules of rs, each by its type. -/
def BookIs (W : World) (v : Value) (rs : List Rl) : Prop :=
  ∃ mb L, v = .map (some mb) ∧ Assoc W Try.prog 3 mb L ∧ (∀ t r, ruleF rs t = some r → (Value.int .i64 t, rlV r) ∈ L) ∧ (∀ p ∈ L, ∃ t r, p = (Value.int .i64 t, rlV r) ∧ ruleF rs t = some r) ∧ L.length ≤ rs.length

section
variable {W W' : World} {v : Value} {rs : List Rl}
theorem BookIs.same {mb : Nat} (h : BookIs W (.map (some mb)) rs) (hb : W'.heap[mb]? = W.heap[mb]?) : BookIs W' (.map (some mb)) rs := by
  obtain ⟨mb', L, e, hA, r⟩ := h
  cases e
  exact ⟨mb, L, rfl, hA.same hb, r⟩
/-- Whatever turns but maps. -/
theorem BookIs.kept {S : Nat → Prop} (h : BookIs W v rs) (hk : Kept S W W') (hS : ∀ i, S i → i < W.heap.size → ∃ cur e fz, W.heap[i]? = some (.cells cur e fz)) : BookIs W' v rs := by
  obtain ⟨mb, L, rfl, hA, r⟩ := h
  refine ⟨mb, L, rfl, hA.same (hk.block mb hA.lt fun s => ?_), r⟩
  obtain ⟨cur, e, fz, hc⟩ := hS mb s hA.lt
  obtain ⟨es, clock, hb, _⟩ := hA
  rw [hb] at hc
  cases hc
theorem BookIs.kept0 (h : BookIs W v rs) (hk : Kept (fun _ => False) W W') : BookIs W' v rs := h.kept hk (fun _ h => h.elim)
theorem BookIs.look (h : BookIs W v rs) {t : Int} (ht : In64 t) (c : Bool) :
    (Instr.lookup 66 v (.int .i64 t) c).run Try.prog W = .ok (if c then .tuple #[rlV ((ruleF rs t).getD rl0), .bool (ruleF rs t).isSome] else rlV ((ruleF rs t).getD rl0)) W := by
  obtain ⟨mb, L, rfl, hA, h1, h2, _⟩ := h
  rcases hA.look c keyInt Try.underlying66 (zeroRule W) (key_int ht) with ⟨hn, hr⟩ | ⟨x, hx, hr⟩
  · have : ruleF rs t = none := by
      cases hf : ruleF rs t with
      | none => rfl
      | some r => exact absurd rfl (hn _ (h1 t r hf))
    rw [this]
    exact hr
  · obtain ⟨t', r, e, hf⟩ := h2 _ hx
    simp only [Prod.mk.injEq, Value.int.injEq, true_and] at e
    obtain ⟨rfl, rfl⟩ := e
    rw [hf]
    exact hr
theorem BookIs.made (w : World) : BookIs (w.alloc (.map #[] 0)) (.map (some w.heap.size)) [] :=
  ⟨w.heap.size, [], rfl, Assoc.made w _ _, fun t r h => by simp [ruleF] at h, fun p hp => absurd hp List.not_mem_nil, Nat.le_refl _⟩
/-- One rule more, of a type that is not there yet. -/
theorem BookIs.add {mb : Nat} (h : BookIs W (.map (some mb)) rs) (r : Rl) (hr : In64 r.type) (hn : ruleF rs r.type = none) (hl : rs.length < 1000000) :
    ∃ w', (Instr.mapUpdate 66 (.map (some mb)) (.int .i64 r.type) (rlV r)).run Try.prog W = .ok () w' ∧ BookIs w' (.map (some mb)) (rs ++ [r]) ∧ Kept (fun i => i = mb) W w' := by
  obtain ⟨mb', L, e, hA, h1, h2, h3⟩ := h
  cases e
  have hno : ∀ p ∈ L, p.1 ≠ Value.int .i64 r.type := fun p hp e => by
    obtain ⟨t, r', rfl, hf⟩ := h2 p hp
    simp only [Value.int.injEq, true_and] at e
    subst e
    rw [hn] at hf
    cases hf
  obtain ⟨w', hrun, hA', ht⟩ := hA.store keyInt Try.underlying66 (by unfold maxLen; omega) (val := rlV r) (key_int hr) (M := L) (Or.inl ⟨List.Perm.refl _, hno⟩)
  refine ⟨w', hrun, ⟨mb, _, rfl, hA', fun t r' hf => ?_, fun p hp => ?_, by simp; omega⟩, kept_turned ht⟩
  · unfold ruleF at hf hn
    rw [List.find?_append] at hf
    cases hq : rs.find? (fun r => r.type == t) with
    | some x =>
      rw [hq] at hf
      have : x = r' := by simpa using hf
      subst this
      exact List.mem_cons_of_mem _ (h1 t x hq)
    | none =>
      rw [hq] at hf
      simp only [Option.none_or, List.find?_cons, List.find?_nil] at hf
      split at hf
      · rename_i ht'
        cases hf
        have : r.type = t := by simpa using ht'
        subst this
        exact List.mem_cons_self ..
      · cases hf
  · rcases List.mem_cons.1 hp with rfl | hp
    · refine ⟨r.type, r, rfl, ?_⟩
      unfold ruleF at hn ⊢
      rw [List.find?_append, hn]
      simp
    · obtain ⟨t, r', rfl, hf⟩ := h2 p hp
      refine ⟨t, r', rfl, ?_⟩
      unfold ruleF at hf ⊢
      rw [List.find?_append, hf]
      rfl
end

theorem ruleF_more {rs : List Rl} {r : Rl} (h : (ruleF rs r.type).isSome = true) : ∀ t, ruleF (rs ++ [r]) t = ruleF rs t := fun t => by
  unfold ruleF at h ⊢
  rw [List.find?_append]
  cases hq : rs.find? (fun r => r.type == t) with
  | some x => rfl
  | none =>
    simp only [Option.none_or, List.find?_cons, List.find?_nil]
    split
    · rename_i ht
      have : r.type = t := by simpa using ht
      rw [this, hq] at h
      cases h
    · rfl
theorem BookIs.more {W : World} {v : Value} {rs : List Rl} {r : Rl} (h : BookIs W v rs) (hr : (ruleF rs r.type).isSome = true) : BookIs W v (rs ++ [r]) := by
  obtain ⟨mb, L, rfl, hA, h1, h2, h3⟩ := h
  refine ⟨mb, L, rfl, hA, fun t r' hf => h1 t r' (by rw [← ruleF_more hr t]; exact hf), fun p hp => ?_, by simp; omega⟩
  obtain ⟨t, r', rfl, hf⟩ := h2 p hp
  exact ⟨t, r', rfl, by rw [ruleF_more hr t]; exact hf⟩

theorem take_nextR {l : List Rl} {j : Nat} {x : Rl} (h : l[j]? = some x) : l.take (j + 1) = l.take j ++ [x] := by
  rw [List.take_add_one, h]
  rfl

set_option maxHeartbeats 2000000 in
set_option maxRecDepth 100000 in
theorem byType_any (v : Value) (rs : List Rl) (w : World) (hv : RulesAt w v rs) (hl : rs.length ≤ 100000) (h64 : ∀ r ∈ rs, In64 r.type) :
    Calls Try.prog 44 #[v] w fun e w' => ∃ mb, e = .returned (.map (some mb)) ∧ w.heap.size ≤ mb ∧ BookIs w' (.map (some mb)) rs ∧ Kept (fun _ => False) w w' := by
  obtain ⟨p, cap, rfl⟩ := hv.slice
  have Hat := hid (fun (j : Nat) (x : Rl) (hj : rs[j]? = some x) (W : World) (hW : Kept (fun _ => False) w W) => (hv.kept0 hW).at hj)
  have H64 := hid h64
  have HM := hid (BookIs.made w)
  have HK0 := hid ((Kept.refl (fun _ => False) w).alloc (.map #[] 0))
  clear hv h64
  have hmm := @run_makeMap Try.prog
  go_enter Try.func44, Try.ntmps44
  go_wp2
  go_loopw [11] (fun vi wr => ∃ j : Nat, j ≤ rs.length ∧ vi = .int .i64 (j : Int) ∧ Hid (BookIs wr (.map (some w.heap.size)) (rs.take j) ∧ Kept (fun _ => False) w wr)) (fun vi _ => rs.length - (intOf vi).toNat)
  case atStart => exact ⟨0, Nat.zero_le _, rfl, HM.out, HK0.out⟩
  case round =>
    obtain ⟨j, hj, rfl, HI⟩ := hrel
    by_cases hlt : j < rs.length
    · have hltz : (j : Int) < (rs.length : Int) := by omega
      obtain ⟨x, hx⟩ : ∃ x, rs[j]? = some x := ⟨rs[j], by simp [hlt]⟩
      obtain ⟨g, o, rfl, hcap, c0, c1, c2, c3, c4⟩ := Hat.out j x hx wr HI.out.2
      have hx64 := H64.out x (List.mem_of_getElem? hx)
      have hB1 := HI.out.1.kept0 ((Kept.refl (fun _ => False) wr).alloc (.cells #[.int .i64 x.type, .int .i64 x.len, .int .i64 x.min, .int .i64 x.max, .string x.suggest] 56))
      have hlook := hB1.look hx64 true
      obtain ⟨b0, b1, b2, b3, b4⟩ := boxR_new wr x
      have HX := hid hx
      simp only [if_true] at hlook
      have hK1 := HI.out.2.alloc (.cells #[.int .i64 x.type, .int .i64 x.len, .int .i64 x.min, .int .i64 x.max, .string x.suggest] 56)
      cases hf : ruleF (rs.take j) x.type with
      | some r =>
        rw [hf] at hlook
        have HR := hid (BookIs.more (W := _) (r := x) (hB1.kept0 ((Kept.refl (fun _ => False) _).alloc (.cells #[.int .i64 r.type, .int .i64 r.len, .int .i64 r.min, .int .i64 r.max, .string r.suggest] 56))) (by rw [hf]; rfl))
        have HK := hid (hK1.alloc (.cells #[.int .i64 r.type, .int .i64 r.len, .int .i64 r.min, .int .i64 r.max, .string r.suggest] 56))
        simp only [Option.getD_some, Option.isSome_some, rlV] at hlook
        rw [← take_nextR HX.out] at HR
        clear hf hx hB1 hK1 HI
        go_wp2
        exact ⟨⟨j + 1, hlt, by go_num, HR.out, HK.out⟩, by simp [intOf]; omega⟩
      | none =>
        rw [hf] at hlook
        have hB2 := hB1.kept0 ((Kept.refl (fun _ => False) _).alloc (.cells #[.int .i64 rl0.type, .int .i64 rl0.len, .int .i64 rl0.min, .int .i64 rl0.max, .string rl0.suggest] 56))
        have hK2 := hK1.alloc (.cells #[.int .i64 rl0.type, .int .i64 rl0.len, .int .i64 rl0.min, .int .i64 rl0.max, .string rl0.suggest] 56)
        obtain ⟨w3, hst, hB3, hK3⟩ := hB2.add x hx64 hf (by simp; omega)
        have HR := hid hB3
        have HK := hid (hK2.andThen hK3 (fun i hi e => by omega))
        rw [← take_nextR HX.out] at HR
        simp only [Option.getD_none, Option.isSome_none, rlV, rl0] at hlook hst
        clear hf hx hB1 hK1 hB2 hK2 hB3 hK3 HI
        go_wp2
        exact ⟨⟨j + 1, hlt, by go_num, HR.out, HK.out⟩, by simp [intOf]; omega⟩
    · obtain rfl : j = rs.length := by omega
      have hltz : ¬ (rs.length : Int) < (rs.length : Int) := by omega
      obtain ⟨hB, hk⟩ := HI.out
      rw [List.take_length] at hB
      have HB := hid hB
      clear hB HI hlt
      go_wp2
      go_ret
      exact ⟨_, rfl, Nat.le_refl _, HB.out, hk⟩
end Go.Proofs.Ytcmdfcdmfdheeaa
