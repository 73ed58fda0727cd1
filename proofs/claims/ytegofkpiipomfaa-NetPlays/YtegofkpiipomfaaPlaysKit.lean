/- The two nets in memory, side by side, and each pair of calls. -/
import Derived.Test.YtegofkpiipomfaaPlaysPlain
namespace Go.Proofs.Ytegofkpiipomfaa
open Go.RowKit

/-- The program's net at b, the document's at r, apart from one another and from the blocks of P. -/
def Mem (P : Nat → Prop) (b r : Nat) (s : NetSt) (t : RefSt) (W : World) : Prop :=
  ∃ S T, NetAt S W b s ∧ RefAt T W r t ∧ (∀ q, S q → ¬ T q) ∧ (∀ q, S q → ¬ P q) ∧ (∀ q, T q → ¬ P q) ∧ ∀ q, P q → q < W.heap.size

def Full (P : Nat → Prop) (b r n : Nat) (W : World) : Prop := ∃ s t, Mem P b r s t W ∧ Sy s t n

section
variable {P P' : Nat → Prop} {b r n m : Nat} {s s' : NetSt} {t t' : RefSt} {W W' : World} {f : FuncId} {args : Array Value} {e0 : Ending}

theorem Mem.still (h : Mem P b r s t W) (hk : Kept (fun _ => False) W W') : Mem P b r s t W' := by
  obtain ⟨S, T, h1, h2, h3, h4, h5, h6⟩ := h
  exact ⟨S, T, h1.kept0 hk, h2.kept0 hk, h3, h4, h5, fun q hq => Nat.lt_of_lt_of_le (h6 q hq) hk.size⟩

theorem Mem.box (h : Mem P b r s t W) (o : Obj) : Mem (fun q => P q ∨ q = W.heap.size) b r s t (W.alloc o) := by
  obtain ⟨S, T, h1, h2, h3, h4, h5, h6⟩ := h
  have hsz : (W.alloc o).heap.size = W.heap.size + 1 := World.size_alloc ..
  refine ⟨S, T, h1.alloc o, h2.alloc o, h3, fun q hq e => ?_, fun q hq e => ?_, fun q hq => ?_⟩
  · rcases e with e | e
    · exact h4 q hq e
    · have := h1.lt hq
      omega
  · rcases e with e | e
    · exact h5 q hq e
    · have := h2.lt hq
      omega
  · rcases hq with hq | hq
    · have := h6 q hq
      omega
    · omega

theorem Mem.less (h : Mem P b r s t W) (hP : ∀ q, P' q → P q) : Mem P' b r s t W := by
  obtain ⟨S, T, h1, h2, h3, h4, h5, h6⟩ := h
  exact ⟨S, T, h1, h2, h3, fun q hq e => h4 q hq (hP q e), fun q hq e => h5 q hq (hP q e), fun q hq => h6 q (hP q hq)⟩

theorem Mem.net (h : Mem P b r s t W) (hc : ∀ S, NetAt S W b s → Calls Try.prog f args W fun e w' => e = e0 ∧ Next S W w' b s') :
    Calls Try.prog f args W fun e w' => e = e0 ∧ Kept (fun q => ¬ P q) W w' ∧ Mem P b r s' t w' := by
  obtain ⟨S, T, h1, h2, h3, h4, h5, h6⟩ := h
  refine (hc S h1).mono ?_
  rintro e w' ⟨rfl, S', k1, k2, k3⟩
  refine ⟨rfl, k3.mono (fun q _ hq => h4 q hq), S', T, k1, h2.kept k3 (fun q hq e => h3 q e hq), fun q hq e => ?_, fun q hq e => ?_, h5, fun q hq => Nat.lt_of_lt_of_le (h6 q hq) k3.size⟩
  · rcases k2 q hq with h | h
    · exact h3 q h e
    · have := h2.lt e
      omega
  · rcases k2 q hq with h | h
    · exact h4 q h e
    · have := h6 q e
      omega

theorem Mem.net0 (h : Mem P b r s t W) (hc : ∀ S, NetAt S W b s → Calls Try.prog f args W fun e w' => e = e0 ∧ Kept (fun _ => False) W w') :
    Calls Try.prog f args W fun e w' => e = e0 ∧ Kept (fun q => ¬ P q) W w' ∧ Mem P b r s t w' := by
  obtain ⟨S, T, h1, _⟩ := id h
  refine (hc S h1).mono ?_
  rintro e w' ⟨rfl, hk⟩
  exact ⟨rfl, hk.mono (fun _ _ e => e.elim), h.still hk⟩

theorem Mem.ref (h : Mem P b r s t W) {X : RefSt → Prop} (hc : ∀ T, RefAt T W r t → Calls Try.prog f args W fun e w' => e = e0 ∧ ∃ t', RNext T W w' r t' ∧ X t') :
    Calls Try.prog f args W fun e w' => e = e0 ∧ Kept (fun q => ¬ P q) W w' ∧ ∃ t', Mem P b r s t' w' ∧ X t' := by
  obtain ⟨S, T, h1, h2, h3, h4, h5, h6⟩ := h
  refine (hc T h2).mono ?_
  rintro e w' ⟨rfl, t', ⟨T', k1, k2, k3⟩, hX⟩
  refine ⟨rfl, k3.mono (fun q _ hq => h5 q hq), t', ⟨S, T', h1.kept k3 (fun q hq e => h3 q hq e), k1, fun q hq e => ?_, h4, fun q hq e => ?_, fun q hq => Nat.lt_of_lt_of_le (h6 q hq) k3.size⟩, hX⟩
  · rcases k2 q e with h | h
    · exact h3 q hq h
    · have := h1.lt hq
      omega
  · rcases k2 q hq with h | h
    · exact h5 q h e
    · have := h6 q e
      omega

theorem Mem.ref0 (h : Mem P b r s t W) {X : RefSt → Prop} (hX : X t) (hc : ∀ T, RefAt T W r t → Calls Try.prog f args W fun e w' => e = e0 ∧ Kept (fun _ => False) W w') :
    Calls Try.prog f args W fun e w' => e = e0 ∧ Kept (fun q => ¬ P q) W w' ∧ ∃ t', Mem P b r s t' w' ∧ X t' := by
  obtain ⟨S, T, h1, h2, _⟩ := id h
  refine (hc T h2).mono ?_
  rintro e w' ⟨rfl, hk⟩
  exact ⟨rfl, hk.mono (fun _ _ e => e.elim), t, h.still hk, hX⟩

theorem Full.still (h : Full P b r n W) (hk : Kept (fun _ => False) W W') : Full P b r n W' := by
  obtain ⟨s, t, h1, h2⟩ := h
  exact ⟨s, t, h1.still hk, h2⟩
theorem Full.box (h : Full P b r n W) (o : Obj) : Full (fun q => P q ∨ q = W.heap.size) b r n (W.alloc o) := by
  obtain ⟨s, t, h1, h2⟩ := h
  exact ⟨s, t, h1.box o, h2⟩
theorem Full.less (h : Full P b r n W) (hP : ∀ q, P' q → P q) : Full P' b r n W := by
  obtain ⟨s, t, h1, h2⟩ := h
  exact ⟨s, t, h1.less hP, h2⟩
theorem Full.more (h : Full P b r n W) (hm : n ≤ m) : Full P b r m W := by
  obtain ⟨s, t, h1, h2⟩ := h
  exact ⟨s, t, h1, h2.mono hm⟩

/-- One call of the program's net, then one of the document's: both answer v. -/
def Two (P : Nat → Prop) (b r n : Nat) (f1 : FuncId) (a1 : Array Value) (f2 : FuncId) (a2 : Array Value) (v : Value) (W : World) : Prop :=
  ∃ s' t, (Calls Try.prog f1 a1 W fun e w' => e = .returned v ∧ Kept (fun q => ¬ P q) W w' ∧ Mem P b r s' t w') ∧ ∀ P' W', Mem P' b r s' t W' → Calls Try.prog f2 a2 W' fun e w'' => e = .returned v ∧ Kept (fun q => ¬ P' q) W' w'' ∧ Full P' b r n w''

theorem two_of {f1 f2 : FuncId} {a1 a2 : Array Value} {v : Value} (h1 : Calls Try.prog f1 a1 W fun e w' => e = .returned v ∧ Kept (fun q => ¬ P q) W w' ∧ Mem P b r s' t w') (h2 : ∀ P' W', Mem P' b r s' t W' → Calls Try.prog f2 a2 W' fun e w'' => e = .returned v ∧ Kept (fun q => ¬ P' q) W' w'' ∧ ∃ t', Mem P' b r s' t' w'' ∧ Sy s' t' n) : Two P b r n f1 a1 f2 a2 v W := by
  refine ⟨s', t, h1, fun P' W' hW' => (h2 P' W' hW').mono ?_⟩
  rintro e w'' ⟨rfl, hk2, t', hm2, hs⟩
  exact ⟨rfl, hk2, s', t', hm2, hs⟩

theorem Full.send (h : Full P b r n W) (hn : n ≤ 100000) {k i : Int} (hk : In64 k) (hi : In64 i) {x : ByteArray} (hx : x.size ≤ 1600) :
    ∃ y : Int, Two P b r (n + 1) 6 #[.pointer (some ⟨b, 0, none⟩), .agg #[.int .i64 k, .int .i64 i, .string x]] 7 #[.pointer (some ⟨r, 0, none⟩), .agg #[.int .i64 k, .int .i64 i, .string x]] (.int .i64 y) W := by
  obtain ⟨s, t, hm, hs⟩ := h
  by_cases h5 : 1514 < x.size
  · refine ⟨2, two_of (s' := s) (hm.net0 (fun S hA => send_long b k i x h5 (by omega) W)) (fun _ W' hW' => hW'.ref0 (X := fun t' => Sy s t' (n + 1)) (hs.mono (Nat.le_succ n)) (fun T hT => refSend_long r k i x h5 (by omega) W'))⟩
  · have h1 := hs.wl
    have h2 := hs.tl
    have h3 := hs.sn k i
    have h4 := hs.ls k i
    have h6 := (hs.good.sent k i).1
    have h7 := (hs.good.lost k i).1
    refine ⟨0, two_of (s' := sendS s k i x) (hm.net (fun S hA => send_in hA hs.good (by omega) hk hi (by omega))) (fun _ W' hW' => hW'.ref (fun T hT => (refSend_ok hT hs.wu k i x (by omega) (by rw [hs.gr]; exact hs.good.ok) (by rw [hs.gr]; have := hs.good.few; omega) (by omega) (by rw [hs.wy]; exact h6) (by rw [hs.wy]; show sentS s k i ≤ 1000000000; omega) (by rw [hs.wy]; exact h7) (by rw [hs.wy]; show lostS s k i ≤ 1000000000; omega)).mono ?_))⟩
    rintro e w' ⟨rfl, ways', hR, hP⟩
    exact ⟨rfl, _, hR, hs.send hn hk hi (by omega) hP⟩

theorem Full.deliver (h : Full P b r n W) (i : Int) :
    ∃ (x : Gr) (y : Int), Two P b r n 8 #[.pointer (some ⟨b, 0, none⟩), .int .i64 i] 9 #[.pointer (some ⟨r, 0, none⟩), .int .i64 i] (ansV x y) W := by
  obtain ⟨s, t, hm, hs⟩ := h
  by_cases hi : 0 ≤ i ∧ i < (s.grams.length : Int)
  · obtain ⟨j, rfl⟩ : ∃ j : Nat, i = (j : Int) := ⟨i.toNat, by omega⟩
    have hj : j < s.grams.length := by omega
    refine ⟨getG s.grams j, 0, two_of (hm.net (fun S hA => deliver_ok hA j hj)) (fun _ W' hW' => hW'.ref (fun T hT => (refDeliver_ok hT j (by rw [hs.gr]; exact hj) (by rw [hs.gr]; have := hs.good.few; omega)).mono ?_))⟩
    rintro e w' ⟨rfl, hR⟩
    exact ⟨by rw [hs.gr], _, hR, hs.erase j⟩
  · refine ⟨g0, 3, two_of (s' := s) (hm.net0 (fun S hA => deliver_no _ i 3 (by decide) (place_bad hA i (by omega)))) (fun _ W' hW' => hW'.ref0 (X := fun t' => Sy s t' n) hs (fun T hT => refDeliver_no hT i (by rw [hs.gr]; omega)))⟩

theorem Full.drop (h : Full P b r n W) (hn : n ≤ 100000) (i : Int) :
    ∃ y : Int, Two P b r (n + 1) 10 #[.pointer (some ⟨b, 0, none⟩), .int .i64 i] 11 #[.pointer (some ⟨r, 0, none⟩), .int .i64 i] (.int .i64 y) W := by
  obtain ⟨s, t, hm, hs⟩ := h
  by_cases hi : 0 ≤ i ∧ i < (s.grams.length : Int)
  · obtain ⟨j, rfl⟩ : ∃ j : Nat, i = (j : Int) := ⟨i.toNat, by omega⟩
    have hj : j < s.grams.length := by omega
    have h1 := hs.wl
    have h2 := hs.tl
    have h4 := hs.ls (getG s.grams j).src (getG s.grams j).dst
    have h7 := (hs.good.lost (getG s.grams j).src (getG s.grams j).dst).1
    refine ⟨0, two_of (hm.net (fun S hA => drop_ok hA hs.good (by omega) j hj)) (fun _ W' hW' => hW'.ref (fun T hT => (refDrop_ok hT hs.wu j (by rw [hs.gr]; exact hj) (by rw [hs.gr]; have := hs.good.few; omega) (by omega) (by rw [hs.gr, hs.wy]; show lostS s _ _ ≤ 1000000000; omega) (by rw [hs.gr, hs.wy]; exact h7)).mono ?_))⟩
    rintro e w' ⟨rfl, ways', hR, hP⟩
    have hP2 := hP
    rw [show getG t.grams j = getG s.grams j by rw [hs.gr]] at hP2
    exact ⟨rfl, _, hR, hs.drop hn hP2⟩
  · refine ⟨3, two_of (s' := s) (hm.net0 (fun S hA => (drop_no _ i 3 (by decide) (place_bad hA i (by omega) _ (Kept.refl _ _))).mono (fun e w' h => ⟨h.1, h.2 ▸ Kept.refl _ _⟩))) (fun _ W' hW' => hW'.ref0 (X := fun t' => Sy s t' (n + 1)) (hs.mono (Nat.le_succ n)) (fun T hT => refDrop_no hT i (by rw [hs.gr]; omega)))⟩

theorem Full.twice (h : Full P b r n W) (i : Int) :
    ∃ y : Int, Two P b r n 12 #[.pointer (some ⟨b, 0, none⟩), .int .i64 i] 13 #[.pointer (some ⟨r, 0, none⟩), .int .i64 i] (.int .i64 y) W := by
  obtain ⟨s, t, hm, hs⟩ := h
  by_cases hi : 0 ≤ i ∧ i < (s.grams.length : Int)
  · obtain ⟨j, rfl⟩ : ∃ j : Nat, i = (j : Int) := ⟨i.toNat, by omega⟩
    have hj : j < s.grams.length := by omega
    by_cases h6 : s.grams.length < 600
    · refine ⟨0, two_of (hm.net (fun S hA => twice_ok hA j hj h6)) (fun _ W' hW' => hW'.ref (fun T hT => (refTwice_ok hT j (by rw [hs.gr]; exact hj) (by rw [hs.gr]; exact h6)).mono ?_))⟩
      rintro e w' ⟨rfl, hR⟩
      exact ⟨rfl, _, hR, hs.twice hj h6⟩
    · refine ⟨10, two_of (s' := s) (hm.net0 (fun S hA => (twice_full hA j hj (by omega)).mono (fun e w' h => ⟨h.1, h.2 ▸ Kept.refl _ _⟩))) (fun _ W' hW' => hW'.ref0 (X := fun t' => Sy s t' n) hs (fun T hT => (refTwice_full hT j (by rw [hs.gr]; exact hj) (by rw [hs.gr]; omega)).mono (fun e w' h => ⟨h.1, h.2 ▸ Kept.refl _ _⟩)))⟩
  · refine ⟨3, two_of (s' := s) (hm.net0 (fun S hA => (twice_no _ i 3 (by decide) (place_bad hA i (by omega) _ (Kept.refl _ _))).mono (fun e w' h => ⟨h.1, h.2 ▸ Kept.refl _ _⟩))) (fun _ W' hW' => hW'.ref0 (X := fun t' => Sy s t' n) hs (fun T hT => (refTwice_no hT i (by rw [hs.gr]; omega)).mono (fun e w' h => ⟨h.1, h.2 ▸ Kept.refl _ _⟩)))⟩

theorem Full.spoil (h : Full P b r n W) (i at' by' : Int) :
    ∃ y : Int, Two P b r n 14 #[.pointer (some ⟨b, 0, none⟩), .int .i64 i, .int .i64 at', .int .i64 by'] 15 #[.pointer (some ⟨r, 0, none⟩), .int .i64 i, .int .i64 at', .int .i64 by'] (.int .i64 y) W := by
  obtain ⟨s, t, hm, hs⟩ := h
  by_cases hi : 0 ≤ i ∧ i < (s.grams.length : Int)
  · obtain ⟨j, rfl⟩ : ∃ j : Nat, i = (j : Int) := ⟨i.toNat, by omega⟩
    have hj : j < s.grams.length := by omega
    have hjt : j < t.grams.length := by rw [hs.gr]; exact hj
    have hgt : getG t.grams j = getG s.grams j := by rw [hs.gr]
    have hbad : ∀ e : Int, (((getG s.grams j).data.size = 0 ∧ e = 3) ∨ (0 < (getG s.grams j).data.size ∧ (by' < 1 ∨ 255 < by') ∧ e = 1)) → ∃ y : Int, Two P b r n 14 #[.pointer (some ⟨b, 0, none⟩), .int .i64 (j : Int), .int .i64 at', .int .i64 by'] 15 #[.pointer (some ⟨r, 0, none⟩), .int .i64 (j : Int), .int .i64 at', .int .i64 by'] (.int .i64 y) W := fun e he =>
      ⟨e, two_of (s' := s) (hm.net0 (fun S hA => spoil_bad hA j hj at' by' e he)) (fun _ W' hW' => hW'.ref0 (X := fun t' => Sy s t' n) hs (fun T hT => (refSpoil_bad hT j hjt at' by' e (by rw [hgt]; exact he)).mono (fun e w' h => ⟨h.1, h.2 ▸ Kept.refl _ _⟩)))⟩
    by_cases hz : (getG s.grams j).data.size = 0
    · exact hbad 3 (Or.inl ⟨hz, rfl⟩)
    · by_cases hb : by' < 1 ∨ 255 < by'
      · exact hbad 1 (Or.inr ⟨by omega, hb, rfl⟩)
      · obtain ⟨y, rfl, hy⟩ : ∃ y : UInt8, by' = (y.toNat : Int) ∧ 1 ≤ y.toNat := by
          have e : (UInt8.ofNat by'.toNat).toNat = by'.toNat := by rw [UInt8.toNat_ofNat_of_lt']; show by'.toNat < 256; omega
          exact ⟨UInt8.ofNat by'.toNat, by rw [e]; omega, by rw [e]; omega⟩
        have hd := hs.dt _ (List.mem_of_getElem? (getG_at hj))
        refine ⟨0, two_of (hm.net (fun S hA => spoil_ok hA j hj at' y hy (by omega) (by omega))) (fun _ W' hW' => hW'.ref (fun T hT => (refSpoil_ok hT j hjt (by rw [hs.gr]; have := hs.good.few; omega) at' y hy (by rw [hgt]; omega) (by rw [hgt]; omega)).mono ?_))⟩
        rintro e w' ⟨rfl, hR⟩
        refine ⟨rfl, _, hR, ?_⟩
        rw [show (getG t.grams j).data.size = (getG s.grams j).data.size by rw [hgt]]
        exact hs.spoil hj _ y
  · refine ⟨3, two_of (s' := s) (hm.net0 (fun S hA => (spoil_no _ i 3 at' by' (by decide) (place_bad hA i (by omega) _ (Kept.refl _ _))).mono (fun e w' h => ⟨h.1, h.2 ▸ Kept.refl _ _⟩))) (fun _ W' hW' => hW'.ref0 (X := fun t' => Sy s t' n) hs (fun T hT => (refSpoil_no hT i at' by' (by rw [hs.gr]; omega)).mono (fun e w' h => ⟨h.1, h.2 ▸ Kept.refl _ _⟩)))⟩

theorem Full.cut (h : Full P b r n W) (hn : n ≤ 100000) {k i : Int} (hk : In64 k) (hi : In64 i) (on : Bool) :
    Two P b r (n + 1) 16 #[.pointer (some ⟨b, 0, none⟩), .agg #[.int .i64 k, .int .i64 i], .bool on] 17 #[.pointer (some ⟨r, 0, none⟩), .int .i64 k, .int .i64 i, .bool on] (.tuple #[]) W := by
  obtain ⟨s, t, hm, hs⟩ := h
  have h1 := hs.wl
  have h2 := hs.cl
  refine two_of (s' := cutS s k i on) (hm.net (fun S hA => ?_)) (fun _ W' hW' => hW'.ref (fun T hT => (refCut_any hT hs.wu k i on (by omega)).mono ?_))
  · cases on
    · exact mend_any hA hk hi
    · exact cut_any hA hk hi (by omega)
  · rintro e w' ⟨rfl, ways', hR, hP⟩
    exact ⟨rfl, _, hR, hs.cut hP⟩
end
end Go.Proofs.Ytegofkpiipomfaa
