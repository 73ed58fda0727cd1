/- The walk of StoreKnows: a secret is taken just if it is that of the name, a proof just if it is made of it. (Written by gen_knows.py.) -/
import Derived.Test.YtmbdjgfbhblifaaDoorKsKnow
import Derived.Test.YtmbdjgfbhblifaaDoorStrsArgs
import Derived.BigQuiet
namespace Go.Proofs.YtmbdjgfbhblifaaDoor
open Go.RowKit

theorem StrsAt.slice {W : World} {v : Value} {l : List ByteArray} (h : StrsAt W v l) : ∃ p cap, v = .slice p l.length cap := by
  rcases h with ⟨rfl, p, cap, rfl⟩ | ⟨g, o, cap, rfl, _⟩
  · exact ⟨p, cap, rfl⟩
  · exact ⟨_, cap, rfl⟩

theorem StrsAt.at {W : World} {p : Option Addr} {n cap : Nat} {l : List ByteArray} (h : StrsAt W (.slice p n cap) l) {j : Nat} {x : ByteArray} (hj : l[j]? = some x) : ∃ g o, p = some ⟨g, o, none⟩ ∧ n ≤ cap ∧ W.cell? ⟨g, o + j, none⟩ = some (.string x) := by
  rcases h with ⟨rfl, _⟩ | ⟨g, o, cap', e, hle, _, hc⟩
  · simp at hj
  · simp only [Value.slice.injEq] at e
    obtain ⟨rfl, rfl, rfl⟩ := e
    exact ⟨g, o, rfl, hle, hc j x hj⟩

theorem beq_comm2 (a b : List UInt8) : (a == b) = (b == a) := by
  rw [Bool.eq_iff_iff, beq_iff_eq, beq_iff_eq]
  exact eq_comm
theorem good_self (x : ByteArray) : goodS x x = true := by unfold goodS; simp

set_option maxHeartbeats 8000000 in
set_option maxRecDepth 100000 in
theorem storeKnows_in (v1 : Value) (l1 : List ByteArray) (v2 : Value) (l2 : List ByteArray) (full secret value resp : ByteArray) (idn : Int) (w : World) (h1 : StrsAt w v1 l1) (h2 : StrsAt w v2 l2) (hl : l1.length ≤ 60) (hsum : full.size + secret.size + value.size + resp.size ≤ 1000) (hT : Tables w) :
    Calls Tryd.prog 4 #[v1, v2, .string full, .string secret, .string value, .string resp, .int .i64 idn] w fun e w' => e = .returned (.bool true) ∧ Kept (fun _ => False) w w' := by
  obtain ⟨p1, cap1, rfl⟩ := h1.slice
  obtain ⟨p2, cap2, rfl⟩ := h2.slice
  have Hat1 : Hid (∀ (j : Nat) (x : ByteArray), l1[j]? = some x → ∃ g o, p1 = some ⟨g, o, none⟩ ∧ l1.length ≤ cap1 ∧ ∀ W, Kept (fun _ => False) w W → W.cell? ⟨g, o + j, none⟩ = some (.string x)) := fun j x hj => by
    obtain ⟨g, o, e1, e2, e3⟩ := h1.at hj
    exact ⟨g, o, e1, e2, fun W hk => (hk.cell (p := ⟨g, o + j, none⟩) (lt_of_cell e3) (fun h => h)).trans e3⟩
  have Hat2 : Hid (∀ (j : Nat) (x : ByteArray), l2[j]? = some x → ∃ g o, p2 = some ⟨g, o, none⟩ ∧ l2.length ≤ cap2 ∧ ∀ W, Kept (fun _ => False) w W → W.cell? ⟨g, o + j, none⟩ = some (.string x)) := fun j x hj => by
    obtain ⟨g, o, e1, e2, e3⟩ := h2.at hj
    exact ⟨g, o, e1, e2, fun W hk => (hk.cell (p := ⟨g, o + j, none⟩) (lt_of_cell e3) (fun h => h)).trans e3⟩
  have Ha := hid alive15_any
  have HT := hid hT
  have i0 : Hid (In64 0) := ⟨by decide, by decide⟩
  have hfull : full.size ≤ 1000000 := by omega
  have hsec : secret.size ≤ 1000000 := by omega
  have hval : value.size ≤ 1000000 := by omega
  have hresp : resp.size ≤ 1000000 := by omega
  have C1 := hid (new_good (Kept.refl (fun _ => False) w) 0 1 ⟨by decide, by decide, by decide, by decide⟩)
  have HSpl : Hid (∀ (x : ByteArray) W, x.size ≤ 1000000 → Calls Tryd.prog 18 #[.string x] W fun e w' => e = .returned (.agg #[.string (splitF x).1, .string (splitF x).2]) ∧ Kept (fun _ => False) W w') := fun x W hx => split_any x (by omega) W
  have CS : Hid (∀ b W A (n s : ByteArray), SMine w W b 0 1 A → FewA A → n.size ≤ 60 → s.size ≤ 60 → (setA A n s).1 = 0 → Calls Tryd.prog 8 #[.pointer (some ⟨b, 0, none⟩), .string n, .string s] W fun e w' => e = .returned (.int .i64 0) ∧ SMine w w' b 0 1 (setA A n s).2) := fun b W A n s hM hA hn hs h0 => by
    have := hM.set hA n s (by omega) (by omega)
    rw [h0] at this
    exact this
  have z0 : ¬ (60 : Int) < (l1.length : Int) := by omega
  have w1 : IntKind.i64.wrap ((full.size : Int) + (secret.size : Int)) = (full.size : Int) + (secret.size : Int) := by rw [IntKind.wrap_i64]; omega
  have w2 : IntKind.i64.wrap ((full.size : Int) + (secret.size : Int) + (value.size : Int)) = (full.size : Int) + (secret.size : Int) + (value.size : Int) := by rw [IntKind.wrap_i64]; omega
  have w3 : IntKind.i64.wrap ((full.size : Int) + (secret.size : Int) + (value.size : Int) + (resp.size : Int)) = (full.size : Int) + (secret.size : Int) + (value.size : Int) + (resp.size : Int) := by rw [IntKind.wrap_i64]; omega
  have z1 : ¬ (1000 : Int) < (full.size : Int) + (secret.size : Int) + (value.size : Int) + (resp.size : Int) := by omega
  clear h1 h2 hT hsum
  go_enter Tryd.func4, Tryd.ntmps4
  go_wp2_with fail
  refine C1.out.mono ?_
  rintro e w1' ⟨b, rfl, hM1⟩
  have HM1 := hid hM1
  clear hM1 C1 w1 w2 w3 z0 z1
  go_wp2
  go_loopw [17, 18, 19] (fun vis vw vi wr => ∃ (i : Nat) (is : Bool) (want : ByteArray) (A : Ab), i ≤ l1.length ∧ i ≤ l2.length ∧ vis = .bool is ∧ vw = .string want ∧ vi = .int .i64 (i : Int) ∧ Hid (KnA full is want A i ∧ SMine w wr b 0 1 A)) (fun _ _ vi _ => l1.length - (intOf vi).toNat)
  case atStart => exact ⟨0, false, ⟨#[]⟩, empA, Nat.zero_le _, Nat.zero_le _, rfl, rfl, rfl, KnA.start full, HM1.out⟩
  case round =>
    obtain ⟨i, is, want, A, hi1, hi2, rfl, rfl, rfl, HI⟩ := hrel
    clear HM1
    by_cases hlt1 : i < l1.length
    · have hlt1' : (i : Int) < (l1.length : Int) := by omega
      by_cases hlt2 : i < l2.length
      · have hlt2' : (i : Int) < (l2.length : Int) := by omega
        obtain ⟨n, hn⟩ : ∃ x, l1[i]? = some x := ⟨l1[i], by simp [hlt1]⟩
        obtain ⟨s, hs⟩ : ∃ x, l2[i]? = some x := ⟨l2[i], by simp [hlt2]⟩
        obtain ⟨g1, o1, rfl, hcap1, c1⟩ := Hat1.out i n hn
        obtain ⟨g2, o2, rfl, hcap2, c2⟩ := Hat2.out i s hs
        have HIK := hid HI.out.2.kept
        have hz0 : (0 : Int) ≤ (i : Int) := by omega
        clear hn hs
        by_cases hn6 : 60 < n.size
        · have hn6' : (60 : Int) < (n.size : Int) := by omega
          go_upto_region 10 with fail
          refine wp_region_held_drew (S := Kept (fun _ => False) w) (by kernel_rfl) (HIK.out.drew) (fun hSd => ?_)
          refine wpAnyH_take (i := 0) (v := ?_) rfl (by kernel_rfl) (by kernel_rfl) (by kernel_rfl) (fun _ _ _ h => h) (Or.inl ⟨by kernel_rfl, fun W hSW => by go_simp; try with_reducible rfl⟩) (by assumption) ?_
          try simp only [List.getElem_toArray]
          try simp only [List.getElem_cons_succ]
          try simp only [List.getElem_cons_zero]
          try simp only [Act.put]
          try simp only [List.setIfInBounds_toArray]
          try simp only [List.set_cons_succ]
          try simp only [List.set_cons_zero]
          refine wpAnyH_take (i := 1) (v := ?_) rfl (by kernel_rfl) (by kernel_rfl) (by kernel_rfl) (fun _ _ _ h => h) (Or.inl ⟨by kernel_rfl, fun W hSW => by go_simp; try with_reducible rfl⟩) (by assumption) ?_
          try simp only [List.getElem_toArray]
          try simp only [List.getElem_cons_succ]
          try simp only [List.getElem_cons_zero]
          try simp only [Act.put]
          try simp only [List.setIfInBounds_toArray]
          try simp only [List.set_cons_succ]
          try simp only [List.set_cons_zero]
          refine wpAnyH_take (i := 2) (v := ?_) rfl (by kernel_rfl) (by kernel_rfl) (by kernel_rfl) (fun _ _ _ h => h) (Or.inl ⟨by kernel_rfl, fun W hSW => by go_simp; try with_reducible rfl⟩) (by assumption) ?_
          try simp only [List.getElem_toArray]
          try simp only [List.getElem_cons_succ]
          try simp only [List.getElem_cons_zero]
          try simp only [Act.put]
          try simp only [List.setIfInBounds_toArray]
          try simp only [List.set_cons_succ]
          try simp only [List.set_cons_zero]
          refine wpAnyH_take (i := 3) (v := ?_) rfl (by kernel_rfl) (by kernel_rfl) (by kernel_rfl) (fun _ _ _ h => h) (Or.inl ⟨by kernel_rfl, fun W hSW => by go_simp; try with_reducible rfl⟩) (by assumption) ?_
          try simp only [List.getElem_toArray]
          try simp only [List.getElem_cons_succ]
          try simp only [List.getElem_cons_zero]
          try simp only [Act.put]
          try simp only [List.setIfInBounds_toArray]
          try simp only [List.set_cons_succ]
          try simp only [List.set_cons_zero]
          refine wpAnyH_take (i := 4) (v := ?_) rfl (by kernel_rfl) (by kernel_rfl) (by kernel_rfl) (fun _ _ _ h => h) (Or.inl ⟨by kernel_rfl, fun W hSW => by go_simp; try with_reducible rfl⟩) (by assumption) ?_
          try simp only [List.getElem_toArray]
          try simp only [List.getElem_cons_succ]
          try simp only [List.getElem_cons_zero]
          try simp only [Act.put]
          try simp only [List.setIfInBounds_toArray]
          try simp only [List.set_cons_succ]
          try simp only [List.set_cons_zero]
          refine wpAnyH_take (i := 5) (v := ?_) rfl (by kernel_rfl) (by kernel_rfl) (by kernel_rfl) (fun _ _ _ h => h) (Or.inl ⟨by kernel_rfl, fun W hSW => by go_simp; try with_reducible rfl⟩) (by assumption) ?_
          try simp only [List.getElem_toArray]
          try simp only [List.getElem_cons_succ]
          try simp only [List.getElem_cons_zero]
          try simp only [Act.put]
          try simp only [List.setIfInBounds_toArray]
          try simp only [List.set_cons_succ]
          try simp only [List.set_cons_zero]
          refine wpAnyH_take (i := 6) (v := ?_) rfl (by kernel_rfl) (by kernel_rfl) (by kernel_rfl) (fun _ _ _ h => h) (Or.inl ⟨by kernel_rfl, fun W hSW => by go_simp; try with_reducible rfl⟩) (by assumption) ?_
          try simp only [List.getElem_toArray]
          try simp only [List.getElem_cons_succ]
          try simp only [List.getElem_cons_zero]
          try simp only [Act.put]
          try simp only [List.setIfInBounds_toArray]
          try simp only [List.set_cons_succ]
          try simp only [List.set_cons_zero]
          refine wpAnyH_take (i := 7) rfl (by kernel_rfl) (by kernel_rfl) (by kernel_rfl) (fun _ _ _ h => h) (Or.inr ⟨by kernel_rfl, rfl⟩) (by assumption) ?_
          try simp only [List.getElem_toArray]
          try simp only [List.getElem_cons_succ]
          try simp only [List.getElem_cons_zero]
          try simp only [Act.put]
          try simp only [List.setIfInBounds_toArray]
          try simp only [List.set_cons_succ]
          try simp only [List.set_cons_zero]
          refine wpAnyH_take (i := 8) rfl (by kernel_rfl) (by kernel_rfl) (by kernel_rfl) (fun _ _ _ h => h) (Or.inr ⟨by kernel_rfl, rfl⟩) (by assumption) ?_
          try simp only [List.getElem_toArray]
          try simp only [List.getElem_cons_succ]
          try simp only [List.getElem_cons_zero]
          try simp only [Act.put]
          try simp only [List.setIfInBounds_toArray]
          try simp only [List.set_cons_succ]
          try simp only [List.set_cons_zero]
          refine wpAnyH_take (i := 9) rfl (by kernel_rfl) (by kernel_rfl) (by kernel_rfl) (fun _ _ _ h => h) (Or.inr ⟨by kernel_rfl, rfl⟩) (by assumption) ?_
          try simp only [List.getElem_toArray]
          try simp only [List.getElem_cons_succ]
          try simp only [List.getElem_cons_zero]
          try simp only [Act.put]
          try simp only [List.setIfInBounds_toArray]
          try simp only [List.set_cons_succ]
          try simp only [List.set_cons_zero]
          refine wpAnyH_take (i := 10) rfl (by kernel_rfl) (by kernel_rfl) (by kernel_rfl) (fun _ _ _ h => h) (Or.inr ⟨by kernel_rfl, rfl⟩) (by assumption) ?_
          try simp only [List.getElem_toArray]
          try simp only [List.getElem_cons_succ]
          try simp only [List.getElem_cons_zero]
          try simp only [Act.put]
          try simp only [List.setIfInBounds_toArray]
          try simp only [List.set_cons_succ]
          try simp only [List.set_cons_zero]
          refine wpAnyH_take (i := 11) rfl (by kernel_rfl) (by kernel_rfl) (by kernel_rfl) (fun _ _ _ h => h) (Or.inr ⟨by kernel_rfl, rfl⟩) (by assumption) ?_
          try simp only [List.getElem_toArray]
          try simp only [List.getElem_cons_succ]
          try simp only [List.getElem_cons_zero]
          try simp only [Act.put]
          try simp only [List.setIfInBounds_toArray]
          try simp only [List.set_cons_succ]
          try simp only [List.set_cons_zero]
          refine wpAnyH_take (i := 12) rfl (by kernel_rfl) (by kernel_rfl) (by kernel_rfl) (fun _ _ _ h => h) (Or.inr ⟨by kernel_rfl, rfl⟩) (by assumption) ?_
          try simp only [List.getElem_toArray]
          try simp only [List.getElem_cons_succ]
          try simp only [List.getElem_cons_zero]
          try simp only [Act.put]
          try simp only [List.setIfInBounds_toArray]
          try simp only [List.set_cons_succ]
          try simp only [List.set_cons_zero]
          refine wpAnyH_take (i := 13) (v := ?_) rfl (by kernel_rfl) (by kernel_rfl) (by kernel_rfl) (fun _ _ _ h => h) (Or.inl ⟨by kernel_rfl, fun W hSW => by go_simp; try with_reducible rfl⟩) (by assumption) ?_
          try simp only [List.getElem_toArray]
          try simp only [List.getElem_cons_succ]
          try simp only [List.getElem_cons_zero]
          try simp only [Act.put]
          try simp only [List.setIfInBounds_toArray]
          try simp only [List.set_cons_succ]
          try simp only [List.set_cons_zero]
          refine wpAnyH_take (i := 14) (v := ?_) rfl (by kernel_rfl) (by kernel_rfl) (by kernel_rfl) (fun _ _ _ h => h) (Or.inl ⟨by kernel_rfl, fun W hSW => by go_simp; try with_reducible rfl⟩) (by assumption) ?_
          try simp only [List.getElem_toArray]
          try simp only [List.getElem_cons_succ]
          try simp only [List.getElem_cons_zero]
          try simp only [Act.put]
          try simp only [List.setIfInBounds_toArray]
          try simp only [List.set_cons_succ]
          try simp only [List.set_cons_zero]
          refine wpAnyH_take (i := 15) rfl (by kernel_rfl) (by kernel_rfl) (by kernel_rfl) (fun _ _ _ h => h) (Or.inr ⟨by kernel_rfl, rfl⟩) (by assumption) ?_
          try simp only [List.getElem_toArray]
          try simp only [List.getElem_cons_succ]
          try simp only [List.getElem_cons_zero]
          try simp only [Act.put]
          try simp only [List.setIfInBounds_toArray]
          try simp only [List.set_cons_succ]
          try simp only [List.set_cons_zero]
          refine wpAnyH_take (i := 16) rfl (by kernel_rfl) (by kernel_rfl) (by kernel_rfl) (fun _ _ _ h => h) (Or.inr ⟨by kernel_rfl, rfl⟩) (by assumption) ?_
          try simp only [List.getElem_toArray]
          try simp only [List.getElem_cons_succ]
          try simp only [List.getElem_cons_zero]
          try simp only [Act.put]
          try simp only [List.setIfInBounds_toArray]
          try simp only [List.set_cons_succ]
          try simp only [List.set_cons_zero]
          refine wpAnyH_take (i := 17) rfl (by kernel_rfl) (by kernel_rfl) (by kernel_rfl) (fun _ _ _ h => h) (Or.inr ⟨by kernel_rfl, rfl⟩) (by assumption) ?_
          try simp only [List.getElem_toArray]
          try simp only [List.getElem_cons_succ]
          try simp only [List.getElem_cons_zero]
          try simp only [Act.put]
          try simp only [List.setIfInBounds_toArray]
          try simp only [List.set_cons_succ]
          try simp only [List.set_cons_zero]
          refine wpAnyH_take (i := 18) rfl (by kernel_rfl) (by kernel_rfl) (by kernel_rfl) (fun _ _ _ h => h) (Or.inr ⟨by kernel_rfl, rfl⟩) (by assumption) ?_
          try simp only [List.getElem_toArray]
          try simp only [List.getElem_cons_succ]
          try simp only [List.getElem_cons_zero]
          try simp only [Act.put]
          try simp only [List.setIfInBounds_toArray]
          try simp only [List.set_cons_succ]
          try simp only [List.set_cons_zero]
          refine wpAnyH_take (i := 19) rfl (by kernel_rfl) (by kernel_rfl) (by kernel_rfl) (fun _ _ _ h => h) (Or.inr ⟨by kernel_rfl, rfl⟩) (by assumption) ?_
          try simp only [List.getElem_toArray]
          try simp only [List.getElem_cons_succ]
          try simp only [List.getElem_cons_zero]
          try simp only [Act.put]
          try simp only [List.setIfInBounds_toArray]
          try simp only [List.set_cons_succ]
          try simp only [List.set_cons_zero]
          refine wpAnyH_take (i := 20) rfl (by kernel_rfl) (by kernel_rfl) (by kernel_rfl) (fun _ _ _ h => h) (Or.inr ⟨by kernel_rfl, rfl⟩) (by assumption) ?_
          try simp only [List.getElem_toArray]
          try simp only [List.getElem_cons_succ]
          try simp only [List.getElem_cons_zero]
          try simp only [Act.put]
          try simp only [List.setIfInBounds_toArray]
          try simp only [List.set_cons_succ]
          try simp only [List.set_cons_zero]
          refine wpAnyH_take (i := 21) rfl (by kernel_rfl) (by kernel_rfl) (by kernel_rfl) (fun _ _ _ h => h) (Or.inr ⟨by kernel_rfl, rfl⟩) (by assumption) ?_
          try simp only [List.getElem_toArray]
          try simp only [List.getElem_cons_succ]
          try simp only [List.getElem_cons_zero]
          try simp only [Act.put]
          try simp only [List.setIfInBounds_toArray]
          try simp only [List.set_cons_succ]
          try simp only [List.set_cons_zero]
          refine wpAnyH_take (i := 22) rfl (by kernel_rfl) (by kernel_rfl) (by kernel_rfl) (fun _ _ _ h => h) (Or.inr ⟨by kernel_rfl, rfl⟩) (by assumption) ?_
          try simp only [List.getElem_toArray]
          try simp only [List.getElem_cons_succ]
          try simp only [List.getElem_cons_zero]
          try simp only [Act.put]
          try simp only [List.setIfInBounds_toArray]
          try simp only [List.set_cons_succ]
          try simp only [List.set_cons_zero]
          refine wpAnyH_take (i := 23) rfl (by kernel_rfl) (by kernel_rfl) (by kernel_rfl) (fun _ _ _ h => h) (Or.inr ⟨by kernel_rfl, rfl⟩) (by assumption) ?_
          try simp only [List.getElem_toArray]
          try simp only [List.getElem_cons_succ]
          try simp only [List.getElem_cons_zero]
          try simp only [Act.put]
          try simp only [List.setIfInBounds_toArray]
          try simp only [List.set_cons_succ]
          try simp only [List.set_cons_zero]
          refine wpAnyH_take (i := 24) rfl (by kernel_rfl) (by kernel_rfl) (by kernel_rfl) (fun _ _ _ h => h) (Or.inr ⟨by kernel_rfl, rfl⟩) (by assumption) ?_
          try simp only [List.getElem_toArray]
          try simp only [List.getElem_cons_succ]
          try simp only [List.getElem_cons_zero]
          try simp only [Act.put]
          try simp only [List.setIfInBounds_toArray]
          try simp only [List.set_cons_succ]
          try simp only [List.set_cons_zero]
          refine wpAnyH_take (i := 25) rfl (by kernel_rfl) (by kernel_rfl) (by kernel_rfl) (fun _ _ _ h => h) (Or.inr ⟨by kernel_rfl, rfl⟩) (by assumption) ?_
          try simp only [List.getElem_toArray]
          try simp only [List.getElem_cons_succ]
          try simp only [List.getElem_cons_zero]
          try simp only [Act.put]
          try simp only [List.setIfInBounds_toArray]
          try simp only [List.set_cons_succ]
          try simp only [List.set_cons_zero]
          refine wpAnyH_take (i := 26) (v := ?_) rfl (by kernel_rfl) (by kernel_rfl) (by kernel_rfl) (fun _ _ _ h => h) (Or.inl ⟨by kernel_rfl, fun W hSW => by go_simp; try with_reducible rfl⟩) (by assumption) ?_
          try simp only [List.getElem_toArray]
          try simp only [List.getElem_cons_succ]
          try simp only [List.getElem_cons_zero]
          try simp only [Act.put]
          try simp only [List.setIfInBounds_toArray]
          try simp only [List.set_cons_succ]
          try simp only [List.set_cons_zero]
          refine wpAnyH_done (by kernel_rfl) ?_ _
          clear c1 c2
          go_wp2_with fail
          refine (Ha.out _).mono ?_
          rintro e w6 ⟨rfl, hk6⟩
          have H6 := hid (HIK.out.drew.trans hk6)
          clear hk6
          go_wp2
          go_ret
          exact ⟨rfl, H6.out⟩
        · have hn6' : ¬ (60 : Int) < (n.size : Int) := by omega
          by_cases hs6 : 60 < s.size
          · have hs6' : (60 : Int) < (s.size : Int) := by omega
            go_upto_region 10 with fail
            refine wp_region_held_drew (S := Kept (fun _ => False) w) (by kernel_rfl) (HIK.out.drew) (fun hSd => ?_)
            refine wpAnyH_take (i := 0) (v := ?_) rfl (by kernel_rfl) (by kernel_rfl) (by kernel_rfl) (fun _ _ _ h => h) (Or.inl ⟨by kernel_rfl, fun W hSW => by go_simp; try with_reducible rfl⟩) (by assumption) ?_
            try simp only [List.getElem_toArray]
            try simp only [List.getElem_cons_succ]
            try simp only [List.getElem_cons_zero]
            try simp only [Act.put]
            try simp only [List.setIfInBounds_toArray]
            try simp only [List.set_cons_succ]
            try simp only [List.set_cons_zero]
            refine wpAnyH_take (i := 1) (v := ?_) rfl (by kernel_rfl) (by kernel_rfl) (by kernel_rfl) (fun _ _ _ h => h) (Or.inl ⟨by kernel_rfl, fun W hSW => by go_simp; try with_reducible rfl⟩) (by assumption) ?_
            try simp only [List.getElem_toArray]
            try simp only [List.getElem_cons_succ]
            try simp only [List.getElem_cons_zero]
            try simp only [Act.put]
            try simp only [List.setIfInBounds_toArray]
            try simp only [List.set_cons_succ]
            try simp only [List.set_cons_zero]
            refine wpAnyH_take (i := 2) (v := ?_) rfl (by kernel_rfl) (by kernel_rfl) (by kernel_rfl) (fun _ _ _ h => h) (Or.inl ⟨by kernel_rfl, fun W hSW => by go_simp; try with_reducible rfl⟩) (by assumption) ?_
            try simp only [List.getElem_toArray]
            try simp only [List.getElem_cons_succ]
            try simp only [List.getElem_cons_zero]
            try simp only [Act.put]
            try simp only [List.setIfInBounds_toArray]
            try simp only [List.set_cons_succ]
            try simp only [List.set_cons_zero]
            refine wpAnyH_take (i := 3) (v := ?_) rfl (by kernel_rfl) (by kernel_rfl) (by kernel_rfl) (fun _ _ _ h => h) (Or.inl ⟨by kernel_rfl, fun W hSW => by go_simp; try with_reducible rfl⟩) (by assumption) ?_
            try simp only [List.getElem_toArray]
            try simp only [List.getElem_cons_succ]
            try simp only [List.getElem_cons_zero]
            try simp only [Act.put]
            try simp only [List.setIfInBounds_toArray]
            try simp only [List.set_cons_succ]
            try simp only [List.set_cons_zero]
            refine wpAnyH_take (i := 4) (v := ?_) rfl (by kernel_rfl) (by kernel_rfl) (by kernel_rfl) (fun _ _ _ h => h) (Or.inl ⟨by kernel_rfl, fun W hSW => by go_simp; try with_reducible rfl⟩) (by assumption) ?_
            try simp only [List.getElem_toArray]
            try simp only [List.getElem_cons_succ]
            try simp only [List.getElem_cons_zero]
            try simp only [Act.put]
            try simp only [List.setIfInBounds_toArray]
            try simp only [List.set_cons_succ]
            try simp only [List.set_cons_zero]
            refine wpAnyH_take (i := 5) (v := ?_) rfl (by kernel_rfl) (by kernel_rfl) (by kernel_rfl) (fun _ _ _ h => h) (Or.inl ⟨by kernel_rfl, fun W hSW => by go_simp; try with_reducible rfl⟩) (by assumption) ?_
            try simp only [List.getElem_toArray]
            try simp only [List.getElem_cons_succ]
            try simp only [List.getElem_cons_zero]
            try simp only [Act.put]
            try simp only [List.setIfInBounds_toArray]
            try simp only [List.set_cons_succ]
            try simp only [List.set_cons_zero]
            refine wpAnyH_take (i := 6) (v := ?_) rfl (by kernel_rfl) (by kernel_rfl) (by kernel_rfl) (fun _ _ _ h => h) (Or.inl ⟨by kernel_rfl, fun W hSW => by go_simp; try with_reducible rfl⟩) (by assumption) ?_
            try simp only [List.getElem_toArray]
            try simp only [List.getElem_cons_succ]
            try simp only [List.getElem_cons_zero]
            try simp only [Act.put]
            try simp only [List.setIfInBounds_toArray]
            try simp only [List.set_cons_succ]
            try simp only [List.set_cons_zero]
            refine wpAnyH_take (i := 7) (v := ?_) rfl (by kernel_rfl) (by kernel_rfl) (by kernel_rfl) (fun _ _ _ h => h) (Or.inl ⟨by kernel_rfl, fun W hSW => by go_simp; try with_reducible rfl⟩) (by assumption) ?_
            try simp only [List.getElem_toArray]
            try simp only [List.getElem_cons_succ]
            try simp only [List.getElem_cons_zero]
            try simp only [Act.put]
            try simp only [List.setIfInBounds_toArray]
            try simp only [List.set_cons_succ]
            try simp only [List.set_cons_zero]
            refine wpAnyH_take (i := 8) (v := ?_) rfl (by kernel_rfl) (by kernel_rfl) (by kernel_rfl) (fun _ _ _ h => h) (Or.inl ⟨by kernel_rfl, fun W hSW => by go_simp; try with_reducible rfl⟩) (by assumption) ?_
            try simp only [List.getElem_toArray]
            try simp only [List.getElem_cons_succ]
            try simp only [List.getElem_cons_zero]
            try simp only [Act.put]
            try simp only [List.setIfInBounds_toArray]
            try simp only [List.set_cons_succ]
            try simp only [List.set_cons_zero]
            refine wpAnyH_take (i := 9) (v := ?_) rfl (by kernel_rfl) (by kernel_rfl) (by kernel_rfl) (fun _ _ _ h => h) (Or.inl ⟨by kernel_rfl, fun W hSW => by go_simp; try with_reducible rfl⟩) (by assumption) ?_
            try simp only [List.getElem_toArray]
            try simp only [List.getElem_cons_succ]
            try simp only [List.getElem_cons_zero]
            try simp only [Act.put]
            try simp only [List.setIfInBounds_toArray]
            try simp only [List.set_cons_succ]
            try simp only [List.set_cons_zero]
            refine wpAnyH_take (i := 10) (v := ?_) rfl (by kernel_rfl) (by kernel_rfl) (by kernel_rfl) (fun _ _ _ h => h) (Or.inl ⟨by kernel_rfl, fun W hSW => by go_simp; try with_reducible rfl⟩) (by assumption) ?_
            try simp only [List.getElem_toArray]
            try simp only [List.getElem_cons_succ]
            try simp only [List.getElem_cons_zero]
            try simp only [Act.put]
            try simp only [List.setIfInBounds_toArray]
            try simp only [List.set_cons_succ]
            try simp only [List.set_cons_zero]
            refine wpAnyH_take (i := 11) (v := ?_) rfl (by kernel_rfl) (by kernel_rfl) (by kernel_rfl) (fun _ _ _ h => h) (Or.inl ⟨by kernel_rfl, fun W hSW => by go_simp; try with_reducible rfl⟩) (by assumption) ?_
            try simp only [List.getElem_toArray]
            try simp only [List.getElem_cons_succ]
            try simp only [List.getElem_cons_zero]
            try simp only [Act.put]
            try simp only [List.setIfInBounds_toArray]
            try simp only [List.set_cons_succ]
            try simp only [List.set_cons_zero]
            refine wpAnyH_take (i := 12) (v := ?_) rfl (by kernel_rfl) (by kernel_rfl) (by kernel_rfl) (fun _ _ _ h => h) (Or.inl ⟨by kernel_rfl, fun W hSW => by go_simp; try with_reducible rfl⟩) (by assumption) ?_
            try simp only [List.getElem_toArray]
            try simp only [List.getElem_cons_succ]
            try simp only [List.getElem_cons_zero]
            try simp only [Act.put]
            try simp only [List.setIfInBounds_toArray]
            try simp only [List.set_cons_succ]
            try simp only [List.set_cons_zero]
            refine wpAnyH_take (i := 13) (v := ?_) rfl (by kernel_rfl) (by kernel_rfl) (by kernel_rfl) (fun _ _ _ h => h) (Or.inl ⟨by kernel_rfl, fun W hSW => by go_simp; try with_reducible rfl⟩) (by assumption) ?_
            try simp only [List.getElem_toArray]
            try simp only [List.getElem_cons_succ]
            try simp only [List.getElem_cons_zero]
            try simp only [Act.put]
            try simp only [List.setIfInBounds_toArray]
            try simp only [List.set_cons_succ]
            try simp only [List.set_cons_zero]
            refine wpAnyH_take (i := 14) (v := ?_) rfl (by kernel_rfl) (by kernel_rfl) (by kernel_rfl) (fun _ _ _ h => h) (Or.inl ⟨by kernel_rfl, fun W hSW => by go_simp; try with_reducible rfl⟩) (by assumption) ?_
            try simp only [List.getElem_toArray]
            try simp only [List.getElem_cons_succ]
            try simp only [List.getElem_cons_zero]
            try simp only [Act.put]
            try simp only [List.setIfInBounds_toArray]
            try simp only [List.set_cons_succ]
            try simp only [List.set_cons_zero]
            refine wpAnyH_take (i := 15) rfl (by kernel_rfl) (by kernel_rfl) (by kernel_rfl) (fun _ _ _ h => h) (Or.inr ⟨by kernel_rfl, rfl⟩) (by assumption) ?_
            try simp only [List.getElem_toArray]
            try simp only [List.getElem_cons_succ]
            try simp only [List.getElem_cons_zero]
            try simp only [Act.put]
            try simp only [List.setIfInBounds_toArray]
            try simp only [List.set_cons_succ]
            try simp only [List.set_cons_zero]
            refine wpAnyH_take (i := 16) rfl (by kernel_rfl) (by kernel_rfl) (by kernel_rfl) (fun _ _ _ h => h) (Or.inr ⟨by kernel_rfl, rfl⟩) (by assumption) ?_
            try simp only [List.getElem_toArray]
            try simp only [List.getElem_cons_succ]
            try simp only [List.getElem_cons_zero]
            try simp only [Act.put]
            try simp only [List.setIfInBounds_toArray]
            try simp only [List.set_cons_succ]
            try simp only [List.set_cons_zero]
            refine wpAnyH_take (i := 17) rfl (by kernel_rfl) (by kernel_rfl) (by kernel_rfl) (fun _ _ _ h => h) (Or.inr ⟨by kernel_rfl, rfl⟩) (by assumption) ?_
            try simp only [List.getElem_toArray]
            try simp only [List.getElem_cons_succ]
            try simp only [List.getElem_cons_zero]
            try simp only [Act.put]
            try simp only [List.setIfInBounds_toArray]
            try simp only [List.set_cons_succ]
            try simp only [List.set_cons_zero]
            refine wpAnyH_take (i := 18) rfl (by kernel_rfl) (by kernel_rfl) (by kernel_rfl) (fun _ _ _ h => h) (Or.inr ⟨by kernel_rfl, rfl⟩) (by assumption) ?_
            try simp only [List.getElem_toArray]
            try simp only [List.getElem_cons_succ]
            try simp only [List.getElem_cons_zero]
            try simp only [Act.put]
            try simp only [List.setIfInBounds_toArray]
            try simp only [List.set_cons_succ]
            try simp only [List.set_cons_zero]
            refine wpAnyH_take (i := 19) rfl (by kernel_rfl) (by kernel_rfl) (by kernel_rfl) (fun _ _ _ h => h) (Or.inr ⟨by kernel_rfl, rfl⟩) (by assumption) ?_
            try simp only [List.getElem_toArray]
            try simp only [List.getElem_cons_succ]
            try simp only [List.getElem_cons_zero]
            try simp only [Act.put]
            try simp only [List.setIfInBounds_toArray]
            try simp only [List.set_cons_succ]
            try simp only [List.set_cons_zero]
            refine wpAnyH_take (i := 20) rfl (by kernel_rfl) (by kernel_rfl) (by kernel_rfl) (fun _ _ _ h => h) (Or.inr ⟨by kernel_rfl, rfl⟩) (by assumption) ?_
            try simp only [List.getElem_toArray]
            try simp only [List.getElem_cons_succ]
            try simp only [List.getElem_cons_zero]
            try simp only [Act.put]
            try simp only [List.setIfInBounds_toArray]
            try simp only [List.set_cons_succ]
            try simp only [List.set_cons_zero]
            refine wpAnyH_take (i := 21) rfl (by kernel_rfl) (by kernel_rfl) (by kernel_rfl) (fun _ _ _ h => h) (Or.inr ⟨by kernel_rfl, rfl⟩) (by assumption) ?_
            try simp only [List.getElem_toArray]
            try simp only [List.getElem_cons_succ]
            try simp only [List.getElem_cons_zero]
            try simp only [Act.put]
            try simp only [List.setIfInBounds_toArray]
            try simp only [List.set_cons_succ]
            try simp only [List.set_cons_zero]
            refine wpAnyH_take (i := 22) rfl (by kernel_rfl) (by kernel_rfl) (by kernel_rfl) (fun _ _ _ h => h) (Or.inr ⟨by kernel_rfl, rfl⟩) (by assumption) ?_
            try simp only [List.getElem_toArray]
            try simp only [List.getElem_cons_succ]
            try simp only [List.getElem_cons_zero]
            try simp only [Act.put]
            try simp only [List.setIfInBounds_toArray]
            try simp only [List.set_cons_succ]
            try simp only [List.set_cons_zero]
            refine wpAnyH_take (i := 23) rfl (by kernel_rfl) (by kernel_rfl) (by kernel_rfl) (fun _ _ _ h => h) (Or.inr ⟨by kernel_rfl, rfl⟩) (by assumption) ?_
            try simp only [List.getElem_toArray]
            try simp only [List.getElem_cons_succ]
            try simp only [List.getElem_cons_zero]
            try simp only [Act.put]
            try simp only [List.setIfInBounds_toArray]
            try simp only [List.set_cons_succ]
            try simp only [List.set_cons_zero]
            refine wpAnyH_take (i := 24) rfl (by kernel_rfl) (by kernel_rfl) (by kernel_rfl) (fun _ _ _ h => h) (Or.inr ⟨by kernel_rfl, rfl⟩) (by assumption) ?_
            try simp only [List.getElem_toArray]
            try simp only [List.getElem_cons_succ]
            try simp only [List.getElem_cons_zero]
            try simp only [Act.put]
            try simp only [List.setIfInBounds_toArray]
            try simp only [List.set_cons_succ]
            try simp only [List.set_cons_zero]
            refine wpAnyH_take (i := 25) rfl (by kernel_rfl) (by kernel_rfl) (by kernel_rfl) (fun _ _ _ h => h) (Or.inr ⟨by kernel_rfl, rfl⟩) (by assumption) ?_
            try simp only [List.getElem_toArray]
            try simp only [List.getElem_cons_succ]
            try simp only [List.getElem_cons_zero]
            try simp only [Act.put]
            try simp only [List.setIfInBounds_toArray]
            try simp only [List.set_cons_succ]
            try simp only [List.set_cons_zero]
            refine wpAnyH_take (i := 26) (v := ?_) rfl (by kernel_rfl) (by kernel_rfl) (by kernel_rfl) (fun _ _ _ h => h) (Or.inl ⟨by kernel_rfl, fun W hSW => by go_simp; try with_reducible rfl⟩) (by assumption) ?_
            try simp only [List.getElem_toArray]
            try simp only [List.getElem_cons_succ]
            try simp only [List.getElem_cons_zero]
            try simp only [Act.put]
            try simp only [List.setIfInBounds_toArray]
            try simp only [List.set_cons_succ]
            try simp only [List.set_cons_zero]
            refine wpAnyH_done (by kernel_rfl) ?_ _
            clear c1 c2
            go_wp2_with fail
            refine (Ha.out _).mono ?_
            rintro e w6 ⟨rfl, hk6⟩
            have H6 := hid (HIK.out.drew.trans hk6)
            clear hk6
            go_wp2
            go_ret
            exact ⟨rfl, H6.out⟩
          · have hs6' : ¬ (60 : Int) < (s.size : Int) := by omega
            obtain ⟨k0, k1, k2⟩ := HI.out.1.set (by omega) n s (by omega) (by omega)
            have HN1 := hid k1
            have HN2 := hid k2
            have CS' := hid (CS.out b _ A n s (HI.out.2.still (Kept.refl _ _).drew) (HI.out.1.few (by omega)) (by omega) (by omega) k0)
            clear k0 k1 k2 HI
            go_upto_region 10 with fail
            refine wp_region_held_drew (S := Kept (fun _ => False) w) (by kernel_rfl) (HIK.out.drew) (fun hSd => ?_)
            refine wpAnyH_take (i := 0) (v := ?_) rfl (by kernel_rfl) (by kernel_rfl) (by kernel_rfl) (fun _ _ _ h => h) (Or.inl ⟨by kernel_rfl, fun W hSW => by go_simp; try with_reducible rfl⟩) (by assumption) ?_
            try simp only [List.getElem_toArray]
            try simp only [List.getElem_cons_succ]
            try simp only [List.getElem_cons_zero]
            try simp only [Act.put]
            try simp only [List.setIfInBounds_toArray]
            try simp only [List.set_cons_succ]
            try simp only [List.set_cons_zero]
            refine wpAnyH_take (i := 1) (v := ?_) rfl (by kernel_rfl) (by kernel_rfl) (by kernel_rfl) (fun _ _ _ h => h) (Or.inl ⟨by kernel_rfl, fun W hSW => by go_simp; try with_reducible rfl⟩) (by assumption) ?_
            try simp only [List.getElem_toArray]
            try simp only [List.getElem_cons_succ]
            try simp only [List.getElem_cons_zero]
            try simp only [Act.put]
            try simp only [List.setIfInBounds_toArray]
            try simp only [List.set_cons_succ]
            try simp only [List.set_cons_zero]
            refine wpAnyH_take (i := 2) (v := ?_) rfl (by kernel_rfl) (by kernel_rfl) (by kernel_rfl) (fun _ _ _ h => h) (Or.inl ⟨by kernel_rfl, fun W hSW => by go_simp; try with_reducible rfl⟩) (by assumption) ?_
            try simp only [List.getElem_toArray]
            try simp only [List.getElem_cons_succ]
            try simp only [List.getElem_cons_zero]
            try simp only [Act.put]
            try simp only [List.setIfInBounds_toArray]
            try simp only [List.set_cons_succ]
            try simp only [List.set_cons_zero]
            refine wpAnyH_take (i := 3) (v := ?_) rfl (by kernel_rfl) (by kernel_rfl) (by kernel_rfl) (fun _ _ _ h => h) (Or.inl ⟨by kernel_rfl, fun W hSW => by go_simp; try with_reducible rfl⟩) (by assumption) ?_
            try simp only [List.getElem_toArray]
            try simp only [List.getElem_cons_succ]
            try simp only [List.getElem_cons_zero]
            try simp only [Act.put]
            try simp only [List.setIfInBounds_toArray]
            try simp only [List.set_cons_succ]
            try simp only [List.set_cons_zero]
            refine wpAnyH_take (i := 4) (v := ?_) rfl (by kernel_rfl) (by kernel_rfl) (by kernel_rfl) (fun _ _ _ h => h) (Or.inl ⟨by kernel_rfl, fun W hSW => by go_simp; try with_reducible rfl⟩) (by assumption) ?_
            try simp only [List.getElem_toArray]
            try simp only [List.getElem_cons_succ]
            try simp only [List.getElem_cons_zero]
            try simp only [Act.put]
            try simp only [List.setIfInBounds_toArray]
            try simp only [List.set_cons_succ]
            try simp only [List.set_cons_zero]
            refine wpAnyH_take (i := 5) (v := ?_) rfl (by kernel_rfl) (by kernel_rfl) (by kernel_rfl) (fun _ _ _ h => h) (Or.inl ⟨by kernel_rfl, fun W hSW => by go_simp; try with_reducible rfl⟩) (by assumption) ?_
            try simp only [List.getElem_toArray]
            try simp only [List.getElem_cons_succ]
            try simp only [List.getElem_cons_zero]
            try simp only [Act.put]
            try simp only [List.setIfInBounds_toArray]
            try simp only [List.set_cons_succ]
            try simp only [List.set_cons_zero]
            refine wpAnyH_take (i := 6) (v := ?_) rfl (by kernel_rfl) (by kernel_rfl) (by kernel_rfl) (fun _ _ _ h => h) (Or.inl ⟨by kernel_rfl, fun W hSW => by go_simp; try with_reducible rfl⟩) (by assumption) ?_
            try simp only [List.getElem_toArray]
            try simp only [List.getElem_cons_succ]
            try simp only [List.getElem_cons_zero]
            try simp only [Act.put]
            try simp only [List.setIfInBounds_toArray]
            try simp only [List.set_cons_succ]
            try simp only [List.set_cons_zero]
            refine wpAnyH_take (i := 7) (v := ?_) rfl (by kernel_rfl) (by kernel_rfl) (by kernel_rfl) (fun _ _ _ h => h) (Or.inl ⟨by kernel_rfl, fun W hSW => by go_simp; try with_reducible rfl⟩) (by assumption) ?_
            try simp only [List.getElem_toArray]
            try simp only [List.getElem_cons_succ]
            try simp only [List.getElem_cons_zero]
            try simp only [Act.put]
            try simp only [List.setIfInBounds_toArray]
            try simp only [List.set_cons_succ]
            try simp only [List.set_cons_zero]
            refine wpAnyH_take (i := 8) (v := ?_) rfl (by kernel_rfl) (by kernel_rfl) (by kernel_rfl) (fun _ _ _ h => h) (Or.inl ⟨by kernel_rfl, fun W hSW => by go_simp; try with_reducible rfl⟩) (by assumption) ?_
            try simp only [List.getElem_toArray]
            try simp only [List.getElem_cons_succ]
            try simp only [List.getElem_cons_zero]
            try simp only [Act.put]
            try simp only [List.setIfInBounds_toArray]
            try simp only [List.set_cons_succ]
            try simp only [List.set_cons_zero]
            refine wpAnyH_take (i := 9) (v := ?_) rfl (by kernel_rfl) (by kernel_rfl) (by kernel_rfl) (fun _ _ _ h => h) (Or.inl ⟨by kernel_rfl, fun W hSW => by go_simp; try with_reducible rfl⟩) (by assumption) ?_
            try simp only [List.getElem_toArray]
            try simp only [List.getElem_cons_succ]
            try simp only [List.getElem_cons_zero]
            try simp only [Act.put]
            try simp only [List.setIfInBounds_toArray]
            try simp only [List.set_cons_succ]
            try simp only [List.set_cons_zero]
            refine wpAnyH_take (i := 10) (v := ?_) rfl (by kernel_rfl) (by kernel_rfl) (by kernel_rfl) (fun _ _ _ h => h) (Or.inl ⟨by kernel_rfl, fun W hSW => by go_simp; try with_reducible rfl⟩) (by assumption) ?_
            try simp only [List.getElem_toArray]
            try simp only [List.getElem_cons_succ]
            try simp only [List.getElem_cons_zero]
            try simp only [Act.put]
            try simp only [List.setIfInBounds_toArray]
            try simp only [List.set_cons_succ]
            try simp only [List.set_cons_zero]
            refine wpAnyH_take (i := 11) (v := ?_) rfl (by kernel_rfl) (by kernel_rfl) (by kernel_rfl) (fun _ _ _ h => h) (Or.inl ⟨by kernel_rfl, fun W hSW => by go_simp; try with_reducible rfl⟩) (by assumption) ?_
            try simp only [List.getElem_toArray]
            try simp only [List.getElem_cons_succ]
            try simp only [List.getElem_cons_zero]
            try simp only [Act.put]
            try simp only [List.setIfInBounds_toArray]
            try simp only [List.set_cons_succ]
            try simp only [List.set_cons_zero]
            refine wpAnyH_take (i := 12) (v := ?_) rfl (by kernel_rfl) (by kernel_rfl) (by kernel_rfl) (fun _ _ _ h => h) (Or.inl ⟨by kernel_rfl, fun W hSW => by go_simp; try with_reducible rfl⟩) (by assumption) ?_
            try simp only [List.getElem_toArray]
            try simp only [List.getElem_cons_succ]
            try simp only [List.getElem_cons_zero]
            try simp only [Act.put]
            try simp only [List.setIfInBounds_toArray]
            try simp only [List.set_cons_succ]
            try simp only [List.set_cons_zero]
            refine wpAnyH_take (i := 13) (v := ?_) rfl (by kernel_rfl) (by kernel_rfl) (by kernel_rfl) (fun _ _ _ h => h) (Or.inl ⟨by kernel_rfl, fun W hSW => by go_simp; try with_reducible rfl⟩) (by assumption) ?_
            try simp only [List.getElem_toArray]
            try simp only [List.getElem_cons_succ]
            try simp only [List.getElem_cons_zero]
            try simp only [Act.put]
            try simp only [List.setIfInBounds_toArray]
            try simp only [List.set_cons_succ]
            try simp only [List.set_cons_zero]
            refine wpAnyH_take (i := 14) (v := ?_) rfl (by kernel_rfl) (by kernel_rfl) (by kernel_rfl) (fun _ _ _ h => h) (Or.inl ⟨by kernel_rfl, fun W hSW => by go_simp; try with_reducible rfl⟩) (by assumption) ?_
            try simp only [List.getElem_toArray]
            try simp only [List.getElem_cons_succ]
            try simp only [List.getElem_cons_zero]
            try simp only [Act.put]
            try simp only [List.setIfInBounds_toArray]
            try simp only [List.set_cons_succ]
            try simp only [List.set_cons_zero]
            refine wpAnyH_take (i := 15) (v := ?_) rfl (by kernel_rfl) (by kernel_rfl) (by kernel_rfl) (fun _ _ _ h => h) (Or.inl ⟨by kernel_rfl, fun W hSW => by go_simp; try with_reducible rfl⟩) (by assumption) ?_
            try simp only [List.getElem_toArray]
            try simp only [List.getElem_cons_succ]
            try simp only [List.getElem_cons_zero]
            try simp only [Act.put]
            try simp only [List.setIfInBounds_toArray]
            try simp only [List.set_cons_succ]
            try simp only [List.set_cons_zero]
            refine wpAnyH_take (i := 16) (v := ?_) rfl (by kernel_rfl) (by kernel_rfl) (by kernel_rfl) (fun _ _ _ h => h) (Or.inl ⟨by kernel_rfl, fun W hSW => by go_simp; try with_reducible rfl⟩) (by assumption) ?_
            try simp only [List.getElem_toArray]
            try simp only [List.getElem_cons_succ]
            try simp only [List.getElem_cons_zero]
            try simp only [Act.put]
            try simp only [List.setIfInBounds_toArray]
            try simp only [List.set_cons_succ]
            try simp only [List.set_cons_zero]
            refine wpAnyH_take (i := 17) (v := ?_) rfl (by kernel_rfl) (by kernel_rfl) (by kernel_rfl) (fun _ _ _ h => h) (Or.inl ⟨by kernel_rfl, fun W hSW => by go_simp; try with_reducible rfl⟩) (by assumption) ?_
            try simp only [List.getElem_toArray]
            try simp only [List.getElem_cons_succ]
            try simp only [List.getElem_cons_zero]
            try simp only [Act.put]
            try simp only [List.setIfInBounds_toArray]
            try simp only [List.set_cons_succ]
            try simp only [List.set_cons_zero]
            refine wpAnyH_take (i := 18) (v := ?_) rfl (by kernel_rfl) (by kernel_rfl) (by kernel_rfl) (fun _ _ _ h => h) (Or.inl ⟨by kernel_rfl, fun W hSW => by go_simp; try with_reducible rfl⟩) (by assumption) ?_
            try simp only [List.getElem_toArray]
            try simp only [List.getElem_cons_succ]
            try simp only [List.getElem_cons_zero]
            try simp only [Act.put]
            try simp only [List.setIfInBounds_toArray]
            try simp only [List.set_cons_succ]
            try simp only [List.set_cons_zero]
            refine wpAnyH_take (i := 19) (v := ?_) rfl (by kernel_rfl) (by kernel_rfl) (by kernel_rfl) (fun _ _ _ h => h) (Or.inl ⟨by kernel_rfl, fun W hSW => by go_simp; try with_reducible rfl⟩) (by assumption) ?_
            try simp only [List.getElem_toArray]
            try simp only [List.getElem_cons_succ]
            try simp only [List.getElem_cons_zero]
            try simp only [Act.put]
            try simp only [List.setIfInBounds_toArray]
            try simp only [List.set_cons_succ]
            try simp only [List.set_cons_zero]
            refine wpAnyH_take (i := 20) (v := ?_) rfl (by kernel_rfl) (by kernel_rfl) (by kernel_rfl) (fun _ _ _ h => h) (Or.inl ⟨by kernel_rfl, fun W hSW => by go_simp; try with_reducible rfl⟩) (by assumption) ?_
            try simp only [List.getElem_toArray]
            try simp only [List.getElem_cons_succ]
            try simp only [List.getElem_cons_zero]
            try simp only [Act.put]
            try simp only [List.setIfInBounds_toArray]
            try simp only [List.set_cons_succ]
            try simp only [List.set_cons_zero]
            refine wpAnyH_take (i := 21) (v := ?_) rfl (by kernel_rfl) (by kernel_rfl) (by kernel_rfl) (fun _ _ _ h => h) (Or.inl ⟨by kernel_rfl, fun W hSW => by go_simp; try with_reducible rfl⟩) (by assumption) ?_
            try simp only [List.getElem_toArray]
            try simp only [List.getElem_cons_succ]
            try simp only [List.getElem_cons_zero]
            try simp only [Act.put]
            try simp only [List.setIfInBounds_toArray]
            try simp only [List.set_cons_succ]
            try simp only [List.set_cons_zero]
            refine wpAnyH_take (i := 22) (v := ?_) rfl (by kernel_rfl) (by kernel_rfl) (by kernel_rfl) (fun _ _ _ h => h) (Or.inl ⟨by kernel_rfl, fun W hSW => by go_simp; try with_reducible rfl⟩) (by assumption) ?_
            try simp only [List.getElem_toArray]
            try simp only [List.getElem_cons_succ]
            try simp only [List.getElem_cons_zero]
            try simp only [Act.put]
            try simp only [List.setIfInBounds_toArray]
            try simp only [List.set_cons_succ]
            try simp only [List.set_cons_zero]
            refine wpAnyH_take (i := 23) (v := ?_) rfl (by kernel_rfl) (by kernel_rfl) (by kernel_rfl) (fun _ _ _ h => h) (Or.inl ⟨by kernel_rfl, fun W hSW => by go_simp; try with_reducible rfl⟩) (by assumption) ?_
            try simp only [List.getElem_toArray]
            try simp only [List.getElem_cons_succ]
            try simp only [List.getElem_cons_zero]
            try simp only [Act.put]
            try simp only [List.setIfInBounds_toArray]
            try simp only [List.set_cons_succ]
            try simp only [List.set_cons_zero]
            refine wpAnyH_ready (rs := [24]) (by kernel_rfl) (by simp) ?_
            refine AllReadyH.cons rfl (fun K hK => ?_) AllReadyH.nil
            go_simp
            refine CS'.out.mono ?_
            rintro e w3 ⟨rfl, hM3⟩
            have HM3 := hid hM3
            clear hM3
            refine hK.out _ _ (HM3.out.kept) (fun _ => ?_)
            clear hK K
            try simp only [List.getElem_toArray]
            try simp only [List.getElem_cons_succ]
            try simp only [List.getElem_cons_zero]
            try simp only [Act.put]
            try simp only [List.setIfInBounds_toArray]
            try simp only [List.set_cons_succ]
            try simp only [List.set_cons_zero]
            refine wpAnyH_take (i := 25) (v := ?_) rfl (by kernel_rfl) (by kernel_rfl) (by kernel_rfl) (fun _ _ _ h => h) (Or.inl ⟨by kernel_rfl, fun W hSW => by go_simp; try with_reducible rfl⟩) (by assumption) ?_
            try simp only [List.getElem_toArray]
            try simp only [List.getElem_cons_succ]
            try simp only [List.getElem_cons_zero]
            try simp only [Act.put]
            try simp only [List.setIfInBounds_toArray]
            try simp only [List.set_cons_succ]
            try simp only [List.set_cons_zero]
            refine wpAnyH_take (i := 26) (v := ?_) rfl (by kernel_rfl) (by kernel_rfl) (by kernel_rfl) (fun _ _ _ h => h) (Or.inl ⟨by kernel_rfl, fun W hSW => by go_simp; try with_reducible rfl⟩) (by assumption) ?_
            try simp only [List.getElem_toArray]
            try simp only [List.getElem_cons_succ]
            try simp only [List.getElem_cons_zero]
            try simp only [Act.put]
            try simp only [List.setIfInBounds_toArray]
            try simp only [List.set_cons_succ]
            try simp only [List.set_cons_zero]
            refine wpAnyH_done (by kernel_rfl) ?_ _
            have d1 := c1 w3 HM3.out.kept
            clear CS'
            go_wp2_with fail
            refine (HSpl.out n _ (by omega)).mono ?_
            rintro e w4 ⟨rfl, hk4⟩
            have HM4 := hid (HM3.out.still hk4)
            clear hk4 HM3 d1
            go_wp2_with fail
            refine (HSpl.out full _ hfull).mono ?_
            rintro e w5 ⟨rfl, hk5⟩
            have HM5 := hid (HM4.out.still hk5)
            clear hk5 HM4
            have f1 := splitF_size n
            have f2 := splitF_size full
            have heq := whoP_eq (splitF n).1 (splitF n).2 (splitF full).1 (splitF full).2 (by unfold maxLen; omega) (by unfold maxLen; omega) (by unfold maxLen; omega) (by unfold maxLen; omega) w5
            clear f1 f2
            have d2 := c2 w5 HM5.out.kept
            clear c1 c2
            obtain ⟨q, hq⟩ : ∃ q, decide ((splitF n).1 = (splitF full).1 ∧ (splitF n).2 = (splitF full).2) = q := ⟨_, rfl⟩
            rw [hq] at heq
            cases q with
            | true =>
              have HQ : Hid (splitF n = splitF full) := Prod.ext (of_decide_eq_true hq).1 (of_decide_eq_true hq).2
              have y1 : (splitF n).1.toList = (splitF full).1.toList := by rw [(of_decide_eq_true hq).1]
              have y2 : (splitF n).2.toList = (splitF full).2.toList := by rw [(of_decide_eq_true hq).2]
              clear hq heq
              generalize hX1 : (splitF n).1 = X1 at *
              generalize hX2 : (splitF n).2 = X2 at *
              generalize hX3 : (splitF full).1 = X3 at *
              generalize hX4 : (splitF full).2 = X4 at *
              clear hX1 hX2 hX3 hX4
              by_cases hz : s.size = 0
              · obtain rfl := bytes_empty hz
                rw [show decide ((⟨#[]⟩ : ByteArray).size ≠ 0) = false from rfl] at HN1
                have hem0 : (⟨#[]⟩ : ByteArray).toList = [] := by rw [ByteArray.toList_eq]
                clear hz
                have qq := HQ.out
                clear HQ
                go_wp2_with fail
                go_quiet (fail)
                go_wp2
                go_roundw
                case rel => exact ⟨i + 1, false, ⟨#[]⟩, _, by omega, by omega, rfl, rfl, by go_num, HN1.out qq, HM5.out.still ((Kept.refl _ w5).drewN _)⟩
                case measure => simp [intOf]; omega
              · rw [show decide (s.size ≠ 0) = true from decide_eq_true hz] at HN1
                have hne : ¬ s.toList = [] := fun e => by
                  apply hz
                  rw [ByteArray.toList_eq] at e
                  have := congrArg List.length e
                  simpa using this
                have hne' : s.toList.isEmpty = false := by rw [List.isEmpty_eq_false_iff]; exact hne
                clear hz
                have qq := HQ.out
                clear HQ
                go_wp2_with fail
                go_quiet (fail)
                go_wp2
                go_roundw
                case rel => exact ⟨i + 1, true, s, _, by omega, by omega, rfl, rfl, by go_num, HN1.out qq, HM5.out.still ((Kept.refl _ w5).drewN _)⟩
                case measure => simp [intOf]; omega
            | false =>
              have HQ : Hid (splitF n ≠ splitF full) := fun e => of_decide_eq_false hq ⟨by rw [e], by rw [e]⟩
              have hy : ¬ (splitF n).1.toList = (splitF full).1.toList ∨ ((splitF n).1.toList = (splitF full).1.toList ∧ ¬ (splitF n).2.toList = (splitF full).2.toList) := by
                by_cases y1 : (splitF n).1.toList = (splitF full).1.toList
                · exact Or.inr ⟨y1, fun y2 => HQ.out (Prod.ext (LastIndex.eq_of_toList y1) (LastIndex.eq_of_toList y2))⟩
                · exact Or.inl y1
              clear hq heq
              generalize hX1 : (splitF n).1 = X1 at *
              generalize hX2 : (splitF n).2 = X2 at *
              generalize hX3 : (splitF full).1 = X3 at *
              generalize hX4 : (splitF full).2 = X4 at *
              clear hX1 hX2 hX3 hX4
              rcases hy with y1 | ⟨y1, y2⟩
              · have qq := HQ.out
                clear HQ
                go_wp2
                go_roundw
                case rel => exact ⟨i + 1, is, want, _, by omega, by omega, rfl, rfl, by go_num, HN2.out qq, HM5.out⟩
                case measure => simp [intOf]; omega
              · have qq := HQ.out
                clear HQ
                go_wp2
                go_roundw
                case rel => exact ⟨i + 1, is, want, _, by omega, by omega, rfl, rfl, by go_num, HN2.out qq, HM5.out⟩
                case measure => simp [intOf]; omega
      · have hlt2' : ¬ (i : Int) < (l2.length : Int) := by omega
        clear Hat1 Hat2 CS HSpl
        have HM := hid HI.out.2
        have HKN := hid HI.out.1
        have hi60 : i ≤ 1000 := by omega
        cases is with
        | true =>
          have HB := hid (HKN.out.known hi60)
          have hws := HKN.out.size
          have CP : Hid (∀ b W A k, k ≤ 10 → KnB full want A k → SMine w W b 0 1 A → ∀ E : Int, (if goodS secret want = true then (0 : Int) else 30) = E → Calls Tryd.prog 10 #[.pointer (some ⟨b, 0, none⟩), .string full, .string secret, .int .i64 0] W fun e w' => e = .returned (.int .i64 E) ∧ ∃ A', Hid (KnB full want A' (k + 1) ∧ SMine w w' b 0 1 A')) := fun b W A k hk hB hM E hE => by
            obtain ⟨t1, t2⟩ := hB.try (by omega) 1 (goodS secret) (by omega)
            refine (hM.pap (by decide) hB.few full secret hfull hsec 0 i0.out).mono ?_
            rintro e w' ⟨h1, h2⟩
            rw [t1, hE] at h1
            exact ⟨h1, _, t2, h2⟩
          have CC : Hid (∀ b W A k, k ≤ 10 → KnB full want A k → SMine w W b 0 1 A → ∀ (x : ByteArray), x.size ≤ 1000000 → ∀ E : Int, (if goodS x (chapK idn want value) = true then (0 : Int) else 30) = E → Calls Tryd.prog 12 #[.pointer (some ⟨b, 0, none⟩), .string full, .int .i64 idn, .string value, .string x, .int .i64 0] W fun e w' => e = .returned (.int .i64 E) ∧ ∃ A', Hid (KnB full want A' (k + 1) ∧ SMine w w' b 0 1 A')) := fun b W A k hk hB hM x hx E hE => by
            obtain ⟨t1, t2⟩ := hB.try (by omega) 1 (fun y => goodS x (chapK idn y value)) (by omega)
            refine (hM.chap HT.out (by decide) hB.few full value x idn hfull hval hx 0 i0.out).mono ?_
            rintro e w' ⟨h1, h2⟩
            rw [t1, hE] at h1
            exact ⟨h1, _, t2, h2⟩
          have CD : Hid (∀ W, Kept (fun _ => False) w W → Calls Tryd.prog 19 #[.int .i64 idn, .string want, .string value] W fun e w' => e = .returned (.string (chapK idn want value)) ∧ Kept (fun _ => False) W w') := fun W hk => chapK_wide idn want value (by omega) hval W (tab_kept HT.out hk)
          obtain ⟨ga, hga⟩ : ∃ ga, goodS secret want = ga := ⟨_, rfl⟩
          obtain ⟨gb, hgb⟩ : ∃ gb, goodS resp (chapK idn want value) = gb := ⟨_, rfl⟩
          have qa : (secret.toList == want.toList) = ga := by rw [← hga]; exact beq_comm2 _ _
          have qb : (resp.toList == (chapK idn want value).toList) = gb := by rw [← hgb]; exact beq_comm2 _ _
          have HGA := hid hga
          have HGB := hid hgb
          clear hga hgb HI HKN
          cases ga with
          | true =>
            cases gb with
            | true =>
              go_wp2_with fail
              refine (CP.out b _ A 0 (by decide) HB.out HM.out 0 (by rw [HGA.out]; rfl)).mono ?_
              rintro e w2 ⟨rfl, A2, hA2⟩
              have H2 := hid hA2
              clear hA2 HM HB
              go_wp2_with fail
              refine (CC.out b _ A2 1 (by decide) H2.out.out.1 H2.out.out.2 resp hresp 0 (by rw [HGB.out]; rfl)).mono ?_
              rintro e w3 ⟨rfl, A3, hA3⟩
              have H3 := hid hA3
              clear hA3 H2
              go_wp2_with fail
              refine (CD.out _ H3.out.out.2.kept).mono ?_
              rintro e w4 ⟨rfl, hk4⟩
              have H4 := hid (H3.out.out.2.still hk4)
              clear hk4
              go_wp2_with fail
              refine (CC.out b _ A3 2 (by decide) H3.out.out.1 H4.out (chapK idn want value) (by rw [chapK_size]; decide) 0 (by rw [good_self]; rfl)).mono ?_
              rintro e w5 ⟨rfl, A5, hA5⟩
              have H5 := hid hA5
              clear hA5 H3 H4
              go_wp2_with fail
              refine (Ha.out _).mono ?_
              rintro e w6 ⟨rfl, hk6⟩
              have H6 := hid (H5.out.out.2.kept.trans hk6)
              clear hk6 H5
              go_wp2_with fail
              refine (CD.out _ H6.out).mono ?_
              rintro e w7 ⟨rfl, hk7⟩
              have H7 := hid (H6.out.trans hk7)
              clear hk7 H6
              go_wp2
              go_ret
              exact ⟨rfl, H7.out⟩
            | false =>
              go_wp2_with fail
              refine (CP.out b _ A 0 (by decide) HB.out HM.out 0 (by rw [HGA.out]; rfl)).mono ?_
              rintro e w2 ⟨rfl, A2, hA2⟩
              have H2 := hid hA2
              clear hA2 HM HB
              go_wp2_with fail
              refine (CC.out b _ A2 1 (by decide) H2.out.out.1 H2.out.out.2 resp hresp 30 (by rw [HGB.out]; rfl)).mono ?_
              rintro e w3 ⟨rfl, A3, hA3⟩
              have H3 := hid hA3
              clear hA3 H2
              go_wp2_with fail
              refine (CD.out _ H3.out.out.2.kept).mono ?_
              rintro e w4 ⟨rfl, hk4⟩
              have H4 := hid (H3.out.out.2.still hk4)
              clear hk4
              go_wp2_with fail
              refine (CC.out b _ A3 2 (by decide) H3.out.out.1 H4.out (chapK idn want value) (by rw [chapK_size]; decide) 0 (by rw [good_self]; rfl)).mono ?_
              rintro e w5 ⟨rfl, A5, hA5⟩
              have H5 := hid hA5
              clear hA5 H3 H4
              go_wp2_with fail
              refine (Ha.out _).mono ?_
              rintro e w6 ⟨rfl, hk6⟩
              have H6 := hid (H5.out.out.2.kept.trans hk6)
              clear hk6 H5
              go_wp2_with fail
              refine (CD.out _ H6.out).mono ?_
              rintro e w7 ⟨rfl, hk7⟩
              have H7 := hid (H6.out.trans hk7)
              clear hk7 H6
              go_wp2
              go_ret
              exact ⟨rfl, H7.out⟩
          | false =>
            cases gb with
            | true =>
              go_wp2_with fail
              refine (CP.out b _ A 0 (by decide) HB.out HM.out 30 (by rw [HGA.out]; rfl)).mono ?_
              rintro e w2 ⟨rfl, A2, hA2⟩
              have H2 := hid hA2
              clear hA2 HM HB
              go_wp2_with fail
              refine (CC.out b _ A2 1 (by decide) H2.out.out.1 H2.out.out.2 resp hresp 0 (by rw [HGB.out]; rfl)).mono ?_
              rintro e w3 ⟨rfl, A3, hA3⟩
              have H3 := hid hA3
              clear hA3 H2
              go_wp2_with fail
              refine (CD.out _ H3.out.out.2.kept).mono ?_
              rintro e w4 ⟨rfl, hk4⟩
              have H4 := hid (H3.out.out.2.still hk4)
              clear hk4
              go_wp2_with fail
              refine (CC.out b _ A3 2 (by decide) H3.out.out.1 H4.out (chapK idn want value) (by rw [chapK_size]; decide) 0 (by rw [good_self]; rfl)).mono ?_
              rintro e w5 ⟨rfl, A5, hA5⟩
              have H5 := hid hA5
              clear hA5 H3 H4
              go_wp2_with fail
              refine (Ha.out _).mono ?_
              rintro e w6 ⟨rfl, hk6⟩
              have H6 := hid (H5.out.out.2.kept.trans hk6)
              clear hk6 H5
              go_wp2_with fail
              refine (CD.out _ H6.out).mono ?_
              rintro e w7 ⟨rfl, hk7⟩
              have H7 := hid (H6.out.trans hk7)
              clear hk7 H6
              go_wp2
              go_ret
              exact ⟨rfl, H7.out⟩
            | false =>
              go_wp2_with fail
              refine (CP.out b _ A 0 (by decide) HB.out HM.out 30 (by rw [HGA.out]; rfl)).mono ?_
              rintro e w2 ⟨rfl, A2, hA2⟩
              have H2 := hid hA2
              clear hA2 HM HB
              go_wp2_with fail
              refine (CC.out b _ A2 1 (by decide) H2.out.out.1 H2.out.out.2 resp hresp 30 (by rw [HGB.out]; rfl)).mono ?_
              rintro e w3 ⟨rfl, A3, hA3⟩
              have H3 := hid hA3
              clear hA3 H2
              go_wp2_with fail
              refine (CD.out _ H3.out.out.2.kept).mono ?_
              rintro e w4 ⟨rfl, hk4⟩
              have H4 := hid (H3.out.out.2.still hk4)
              clear hk4
              go_wp2_with fail
              refine (CC.out b _ A3 2 (by decide) H3.out.out.1 H4.out (chapK idn want value) (by rw [chapK_size]; decide) 0 (by rw [good_self]; rfl)).mono ?_
              rintro e w5 ⟨rfl, A5, hA5⟩
              have H5 := hid hA5
              clear hA5 H3 H4
              go_wp2_with fail
              refine (Ha.out _).mono ?_
              rintro e w6 ⟨rfl, hk6⟩
              have H6 := hid (H5.out.out.2.kept.trans hk6)
              clear hk6 H5
              go_wp2_with fail
              refine (CD.out _ H6.out).mono ?_
              rintro e w7 ⟨rfl, hk7⟩
              have H7 := hid (H6.out.trans hk7)
              clear hk7 H6
              go_wp2
              go_ret
              exact ⟨rfl, H7.out⟩
        | false =>
          obtain rfl := HKN.out.no rfl
          have UP : Hid (∀ b W, SMine w W b 0 1 A → Calls Tryd.prog 10 #[.pointer (some ⟨b, 0, none⟩), .string full, .string secret, .int .i64 0] W fun e w' => e = .returned (.int .i64 30) ∧ SMine w w' b 0 1 A) := fun b W hM => by
            have := hM.pap (by decide) (HKN.out.few hi60) full secret hfull hsec 0 i0.out
            rw [HKN.out.unknown] at this
            exact this
          have UC : Hid (∀ b W, SMine w W b 0 1 A → ∀ (x : ByteArray), x.size ≤ 1000000 → Calls Tryd.prog 12 #[.pointer (some ⟨b, 0, none⟩), .string full, .int .i64 idn, .string value, .string x, .int .i64 0] W fun e w' => e = .returned (.int .i64 30) ∧ SMine w w' b 0 1 A) := fun b W hM x hx => by
            have := hM.chap HT.out (by decide) (HKN.out.few hi60) full value x idn hfull hval hx 0 i0.out
            rw [HKN.out.unknown] at this
            exact this
          have CD : Hid (∀ W, Kept (fun _ => False) w W → Calls Tryd.prog 19 #[.int .i64 idn, .string ⟨#[]⟩, .string value] W fun e w' => e = .returned (.string (chapK idn ⟨#[]⟩ value)) ∧ Kept (fun _ => False) W w') := fun W hk => chapK_wide idn ⟨#[]⟩ value (by decide) hval W (tab_kept HT.out hk)
          clear HI
          go_wp2_with fail
          refine (UP.out b _ HM.out).mono ?_
          rintro e w2 ⟨rfl, hA2⟩
          have H2 := hid hA2
          clear hA2 HM
          go_wp2_with fail
          refine (UC.out b _ H2.out resp hresp).mono ?_
          rintro e w3 ⟨rfl, hA3⟩
          have H3 := hid hA3
          clear hA3 H2
          go_wp2_with fail
          refine (CD.out _ H3.out.kept).mono ?_
          rintro e w4 ⟨rfl, hk4⟩
          have H4 := hid (H3.out.still hk4)
          clear hk4
          go_wp2_with fail
          refine (UC.out b _ H4.out (chapK idn ⟨#[]⟩ value) (by rw [chapK_size]; decide)).mono ?_
          rintro e w5 ⟨rfl, hA5⟩
          have H5 := hid hA5
          clear hA5 H3 H4
          go_wp2_with fail
          refine (Ha.out _).mono ?_
          rintro e w6 ⟨rfl, hk6⟩
          have H6 := hid (H5.out.kept.trans hk6)
          clear hk6 H5
          go_wp2
          go_ret
          exact ⟨rfl, H6.out⟩
    · have hlt1' : ¬ (i : Int) < (l1.length : Int) := by omega
      clear Hat1 Hat2 CS HSpl
      have HM := hid HI.out.2
      have HKN := hid HI.out.1
      have hi60 : i ≤ 1000 := by omega
      cases is with
      | true =>
        have HB := hid (HKN.out.known hi60)
        have hws := HKN.out.size
        have CP : Hid (∀ b W A k, k ≤ 10 → KnB full want A k → SMine w W b 0 1 A → ∀ E : Int, (if goodS secret want = true then (0 : Int) else 30) = E → Calls Tryd.prog 10 #[.pointer (some ⟨b, 0, none⟩), .string full, .string secret, .int .i64 0] W fun e w' => e = .returned (.int .i64 E) ∧ ∃ A', Hid (KnB full want A' (k + 1) ∧ SMine w w' b 0 1 A')) := fun b W A k hk hB hM E hE => by
          obtain ⟨t1, t2⟩ := hB.try (by omega) 1 (goodS secret) (by omega)
          refine (hM.pap (by decide) hB.few full secret hfull hsec 0 i0.out).mono ?_
          rintro e w' ⟨h1, h2⟩
          rw [t1, hE] at h1
          exact ⟨h1, _, t2, h2⟩
        have CC : Hid (∀ b W A k, k ≤ 10 → KnB full want A k → SMine w W b 0 1 A → ∀ (x : ByteArray), x.size ≤ 1000000 → ∀ E : Int, (if goodS x (chapK idn want value) = true then (0 : Int) else 30) = E → Calls Tryd.prog 12 #[.pointer (some ⟨b, 0, none⟩), .string full, .int .i64 idn, .string value, .string x, .int .i64 0] W fun e w' => e = .returned (.int .i64 E) ∧ ∃ A', Hid (KnB full want A' (k + 1) ∧ SMine w w' b 0 1 A')) := fun b W A k hk hB hM x hx E hE => by
          obtain ⟨t1, t2⟩ := hB.try (by omega) 1 (fun y => goodS x (chapK idn y value)) (by omega)
          refine (hM.chap HT.out (by decide) hB.few full value x idn hfull hval hx 0 i0.out).mono ?_
          rintro e w' ⟨h1, h2⟩
          rw [t1, hE] at h1
          exact ⟨h1, _, t2, h2⟩
        have CD : Hid (∀ W, Kept (fun _ => False) w W → Calls Tryd.prog 19 #[.int .i64 idn, .string want, .string value] W fun e w' => e = .returned (.string (chapK idn want value)) ∧ Kept (fun _ => False) W w') := fun W hk => chapK_wide idn want value (by omega) hval W (tab_kept HT.out hk)
        obtain ⟨ga, hga⟩ : ∃ ga, goodS secret want = ga := ⟨_, rfl⟩
        obtain ⟨gb, hgb⟩ : ∃ gb, goodS resp (chapK idn want value) = gb := ⟨_, rfl⟩
        have qa : (secret.toList == want.toList) = ga := by rw [← hga]; exact beq_comm2 _ _
        have qb : (resp.toList == (chapK idn want value).toList) = gb := by rw [← hgb]; exact beq_comm2 _ _
        have HGA := hid hga
        have HGB := hid hgb
        clear hga hgb HI HKN
        cases ga with
        | true =>
          cases gb with
          | true =>
            go_wp2_with fail
            refine (CP.out b _ A 0 (by decide) HB.out HM.out 0 (by rw [HGA.out]; rfl)).mono ?_
            rintro e w2 ⟨rfl, A2, hA2⟩
            have H2 := hid hA2
            clear hA2 HM HB
            go_wp2_with fail
            refine (CC.out b _ A2 1 (by decide) H2.out.out.1 H2.out.out.2 resp hresp 0 (by rw [HGB.out]; rfl)).mono ?_
            rintro e w3 ⟨rfl, A3, hA3⟩
            have H3 := hid hA3
            clear hA3 H2
            go_wp2_with fail
            refine (CD.out _ H3.out.out.2.kept).mono ?_
            rintro e w4 ⟨rfl, hk4⟩
            have H4 := hid (H3.out.out.2.still hk4)
            clear hk4
            go_wp2_with fail
            refine (CC.out b _ A3 2 (by decide) H3.out.out.1 H4.out (chapK idn want value) (by rw [chapK_size]; decide) 0 (by rw [good_self]; rfl)).mono ?_
            rintro e w5 ⟨rfl, A5, hA5⟩
            have H5 := hid hA5
            clear hA5 H3 H4
            go_wp2_with fail
            refine (Ha.out _).mono ?_
            rintro e w6 ⟨rfl, hk6⟩
            have H6 := hid (H5.out.out.2.kept.trans hk6)
            clear hk6 H5
            go_wp2_with fail
            refine (CD.out _ H6.out).mono ?_
            rintro e w7 ⟨rfl, hk7⟩
            have H7 := hid (H6.out.trans hk7)
            clear hk7 H6
            go_wp2
            go_ret
            exact ⟨rfl, H7.out⟩
          | false =>
            go_wp2_with fail
            refine (CP.out b _ A 0 (by decide) HB.out HM.out 0 (by rw [HGA.out]; rfl)).mono ?_
            rintro e w2 ⟨rfl, A2, hA2⟩
            have H2 := hid hA2
            clear hA2 HM HB
            go_wp2_with fail
            refine (CC.out b _ A2 1 (by decide) H2.out.out.1 H2.out.out.2 resp hresp 30 (by rw [HGB.out]; rfl)).mono ?_
            rintro e w3 ⟨rfl, A3, hA3⟩
            have H3 := hid hA3
            clear hA3 H2
            go_wp2_with fail
            refine (CD.out _ H3.out.out.2.kept).mono ?_
            rintro e w4 ⟨rfl, hk4⟩
            have H4 := hid (H3.out.out.2.still hk4)
            clear hk4
            go_wp2_with fail
            refine (CC.out b _ A3 2 (by decide) H3.out.out.1 H4.out (chapK idn want value) (by rw [chapK_size]; decide) 0 (by rw [good_self]; rfl)).mono ?_
            rintro e w5 ⟨rfl, A5, hA5⟩
            have H5 := hid hA5
            clear hA5 H3 H4
            go_wp2_with fail
            refine (Ha.out _).mono ?_
            rintro e w6 ⟨rfl, hk6⟩
            have H6 := hid (H5.out.out.2.kept.trans hk6)
            clear hk6 H5
            go_wp2_with fail
            refine (CD.out _ H6.out).mono ?_
            rintro e w7 ⟨rfl, hk7⟩
            have H7 := hid (H6.out.trans hk7)
            clear hk7 H6
            go_wp2
            go_ret
            exact ⟨rfl, H7.out⟩
        | false =>
          cases gb with
          | true =>
            go_wp2_with fail
            refine (CP.out b _ A 0 (by decide) HB.out HM.out 30 (by rw [HGA.out]; rfl)).mono ?_
            rintro e w2 ⟨rfl, A2, hA2⟩
            have H2 := hid hA2
            clear hA2 HM HB
            go_wp2_with fail
            refine (CC.out b _ A2 1 (by decide) H2.out.out.1 H2.out.out.2 resp hresp 0 (by rw [HGB.out]; rfl)).mono ?_
            rintro e w3 ⟨rfl, A3, hA3⟩
            have H3 := hid hA3
            clear hA3 H2
            go_wp2_with fail
            refine (CD.out _ H3.out.out.2.kept).mono ?_
            rintro e w4 ⟨rfl, hk4⟩
            have H4 := hid (H3.out.out.2.still hk4)
            clear hk4
            go_wp2_with fail
            refine (CC.out b _ A3 2 (by decide) H3.out.out.1 H4.out (chapK idn want value) (by rw [chapK_size]; decide) 0 (by rw [good_self]; rfl)).mono ?_
            rintro e w5 ⟨rfl, A5, hA5⟩
            have H5 := hid hA5
            clear hA5 H3 H4
            go_wp2_with fail
            refine (Ha.out _).mono ?_
            rintro e w6 ⟨rfl, hk6⟩
            have H6 := hid (H5.out.out.2.kept.trans hk6)
            clear hk6 H5
            go_wp2_with fail
            refine (CD.out _ H6.out).mono ?_
            rintro e w7 ⟨rfl, hk7⟩
            have H7 := hid (H6.out.trans hk7)
            clear hk7 H6
            go_wp2
            go_ret
            exact ⟨rfl, H7.out⟩
          | false =>
            go_wp2_with fail
            refine (CP.out b _ A 0 (by decide) HB.out HM.out 30 (by rw [HGA.out]; rfl)).mono ?_
            rintro e w2 ⟨rfl, A2, hA2⟩
            have H2 := hid hA2
            clear hA2 HM HB
            go_wp2_with fail
            refine (CC.out b _ A2 1 (by decide) H2.out.out.1 H2.out.out.2 resp hresp 30 (by rw [HGB.out]; rfl)).mono ?_
            rintro e w3 ⟨rfl, A3, hA3⟩
            have H3 := hid hA3
            clear hA3 H2
            go_wp2_with fail
            refine (CD.out _ H3.out.out.2.kept).mono ?_
            rintro e w4 ⟨rfl, hk4⟩
            have H4 := hid (H3.out.out.2.still hk4)
            clear hk4
            go_wp2_with fail
            refine (CC.out b _ A3 2 (by decide) H3.out.out.1 H4.out (chapK idn want value) (by rw [chapK_size]; decide) 0 (by rw [good_self]; rfl)).mono ?_
            rintro e w5 ⟨rfl, A5, hA5⟩
            have H5 := hid hA5
            clear hA5 H3 H4
            go_wp2_with fail
            refine (Ha.out _).mono ?_
            rintro e w6 ⟨rfl, hk6⟩
            have H6 := hid (H5.out.out.2.kept.trans hk6)
            clear hk6 H5
            go_wp2_with fail
            refine (CD.out _ H6.out).mono ?_
            rintro e w7 ⟨rfl, hk7⟩
            have H7 := hid (H6.out.trans hk7)
            clear hk7 H6
            go_wp2
            go_ret
            exact ⟨rfl, H7.out⟩
      | false =>
        obtain rfl := HKN.out.no rfl
        have UP : Hid (∀ b W, SMine w W b 0 1 A → Calls Tryd.prog 10 #[.pointer (some ⟨b, 0, none⟩), .string full, .string secret, .int .i64 0] W fun e w' => e = .returned (.int .i64 30) ∧ SMine w w' b 0 1 A) := fun b W hM => by
          have := hM.pap (by decide) (HKN.out.few hi60) full secret hfull hsec 0 i0.out
          rw [HKN.out.unknown] at this
          exact this
        have UC : Hid (∀ b W, SMine w W b 0 1 A → ∀ (x : ByteArray), x.size ≤ 1000000 → Calls Tryd.prog 12 #[.pointer (some ⟨b, 0, none⟩), .string full, .int .i64 idn, .string value, .string x, .int .i64 0] W fun e w' => e = .returned (.int .i64 30) ∧ SMine w w' b 0 1 A) := fun b W hM x hx => by
          have := hM.chap HT.out (by decide) (HKN.out.few hi60) full value x idn hfull hval hx 0 i0.out
          rw [HKN.out.unknown] at this
          exact this
        have CD : Hid (∀ W, Kept (fun _ => False) w W → Calls Tryd.prog 19 #[.int .i64 idn, .string ⟨#[]⟩, .string value] W fun e w' => e = .returned (.string (chapK idn ⟨#[]⟩ value)) ∧ Kept (fun _ => False) W w') := fun W hk => chapK_wide idn ⟨#[]⟩ value (by decide) hval W (tab_kept HT.out hk)
        clear HI
        go_wp2_with fail
        refine (UP.out b _ HM.out).mono ?_
        rintro e w2 ⟨rfl, hA2⟩
        have H2 := hid hA2
        clear hA2 HM
        go_wp2_with fail
        refine (UC.out b _ H2.out resp hresp).mono ?_
        rintro e w3 ⟨rfl, hA3⟩
        have H3 := hid hA3
        clear hA3 H2
        go_wp2_with fail
        refine (CD.out _ H3.out.kept).mono ?_
        rintro e w4 ⟨rfl, hk4⟩
        have H4 := hid (H3.out.still hk4)
        clear hk4
        go_wp2_with fail
        refine (UC.out b _ H4.out (chapK idn ⟨#[]⟩ value) (by rw [chapK_size]; decide)).mono ?_
        rintro e w5 ⟨rfl, hA5⟩
        have H5 := hid hA5
        clear hA5 H3 H4
        go_wp2_with fail
        refine (Ha.out _).mono ?_
        rintro e w6 ⟨rfl, hk6⟩
        have H6 := hid (H5.out.kept.trans hk6)
        clear hk6 H5
        go_wp2
        go_ret
        exact ⟨rfl, H6.out⟩
end Go.Proofs.YtmbdjgfbhblifaaDoor
