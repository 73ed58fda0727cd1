/- The law TapeBytes: it returns true for every list of ints and every number, and leaves what was there. -/
import Derived.Test.YtmclldidmpeahaaAlive3
import Derived.Test.YtmclldidmpeahaaBytes3
import Derived.Test.YtmclldidmpeahaaLeft
import Derived.Test.YtmclldidmpeahaaTapeArgs
namespace Go.Proofs.Ytmclldidmpeahaa
open Go.RowKit

theorem new_ints {W : World} {v : Value} {l : List Int} (h : IntsAt W v l) (hl : l.length ≤ 1000000) : Calls Try.prog 10 #[v] W fun e w' => NewTape W w' e l := by
  rcases h with ⟨rfl, rfl⟩ | ⟨ad, cap, rfl, _, _, hc⟩
  · exact new_nil W
  · exact new_some ad cap l hl W hc

theorem IntsAt.kept {S : Nat → Prop} {w w' : World} {v : Value} {l : List Int} (h : IntsAt w v l) (hk : Kept S w w') (hS : ∀ i, i < w.heap.size → ¬ S i) : IntsAt w' v l := by
  rcases h with h | ⟨ad, cap, e, h1, h2, hc⟩
  · exact Or.inl h
  · refine Or.inr ⟨ad, cap, e, h1, h2, fun j u hj => ?_⟩
    have := lt_of_cell (hc j u hj)
    exact (hk.cell this (hS _ this)).trans (hc j u hj)

theorem IntsAt.slice {w : World} {v : Value} {l : List Int} (h : IntsAt w v l) : ∃ p cap, v = .slice p l.length cap ∧ l.length ≤ maxLen := by
  rcases h with ⟨rfl, rfl⟩ | ⟨ad, cap, rfl, h1, h2, _⟩
  · exact ⟨none, 0, rfl, by simp⟩
  · exact ⟨_, cap, rfl, by omega⟩

set_option maxHeartbeats 1000000 in
set_option maxRecDepth 100000 in
theorem tapeBytes_out (v : Value) (l : List Int) (n : Int) (hv : ∃ p cap, v = .slice p l.length cap ∧ l.length ≤ maxLen) (_hn : In64 n) (h : 200 < l.length ∨ n < 0 ∨ 64 < n) (w : World) :
    Calls Try.prog 6 #[v, .int .i64 n] w fun e w' => e = .returned (.bool true) ∧ Below w.heap.size w w' := by
  obtain ⟨p, cap, rfl, hm⟩ := hv
  unfold maxLen at hm
  have Ha := hid alive_any
  by_cases h1 : 200 < l.length
  · go_enter Try.func6, Try.ntmps6
    go_wp2_with (go_at_call 8; refine (Ha.out _).mono ?_; rintro e w' ⟨rfl, hk⟩)
    all_goals go_ret
    all_goals exact ⟨rfl, hk.below (Nat.le_refl _) (fun _ h => h.elim)⟩
  · by_cases h2 : n < 0
    · have h1' : l.length ≤ 200 := by omega
      clear h h1
      go_enter Try.func6, Try.ntmps6
      go_wp2_with (go_at_call 8; refine (Ha.out _).mono ?_; rintro e w' ⟨rfl, hk⟩)
      all_goals go_ret
      all_goals exact ⟨rfl, hk.below (Nat.le_refl _) (fun _ h => h.elim)⟩
    · have h1' : l.length ≤ 200 := by omega
      have h3 : 64 < n := by omega
      clear h h1
      go_enter Try.func6, Try.ntmps6
      go_wp2_with (go_at_call 8; refine (Ha.out _).mono ?_; rintro e w' ⟨rfl, hk⟩)
      all_goals go_ret
      all_goals exact ⟨rfl, hk.below (Nat.le_refl _) (fun _ h => h.elim)⟩
theorem bytes_le (b : Nat) (p : Option Addr) (cap : Nat) (l : List Int) (asked n : Nat) (hn2 : n ≤ 64) (ha : asked ≤ 900000) (w : World) (h : IsTape w b p cap l asked) :
    Calls Try.prog 12 #[.pointer (some ⟨b, 0, none⟩), .int .i64 (n : Int)] w fun e w' => e = .returned (.string ⟨(bytesF l asked n).toArray⟩) ∧ (∃ p' cap', IsTape w' b p' cap' (l.drop n) (asked + (n - l.length)) ∧ ∀ i, onTape p' (l.drop n) i → onTape p l i) ∧ Kept (fun i => i = b) w w' := by
  by_cases hn : 1 ≤ n
  · exact bytes_any b p cap l asked n hn hn2 ha w h
  · obtain rfl : n = 0 := by omega
    refine (bytes_out _ _ (Or.inl (by decide)) w).mono ?_
    rintro e w' ⟨rfl, rfl⟩
    refine ⟨rfl, ⟨p, cap, ?_, fun _ hi => hi⟩, Kept.refl _ _⟩
    rw [List.drop_zero, show asked + (0 - l.length) = asked from by omega]
    exact h

theorem bytesF_at (l : List Int) (asked m : Nat) (S : ByteArray) (hS : S = ⟨(bytesF l asked m).toArray⟩) : S.size = m ∧ ∀ (j : Nat) (hj : j < S.size), (S[j].toNat : Int) = byteAt l asked j := by
  subst hS
  have hsz : (⟨(bytesF l asked m).toArray⟩ : ByteArray).size = m := by simp [ByteArray.size, bytesF]
  refine ⟨hsz, fun j hj => ?_⟩
  obtain ⟨b0, b1⟩ := byteAt_bounds l asked j
  have e : (⟨(bytesF l asked m).toArray⟩ : ByteArray)[j] = UInt8.ofNat (byteAt l asked j).toNat := by
    show (bytesF l asked m).toArray[j]'_ = _
    simp [bytesF]
  have e2 : (UInt8.ofNat (byteAt l asked j).toNat).toNat = (byteAt l asked j).toNat := UInt8.toNat_ofNat_of_lt (show (byteAt l asked j).toNat < 256 by omega)
  rw [e, e2, Int.toNat_of_nonneg b0]

/-- The two tapes, behind j draws of the second. -/
def Two (w wr : World) (l : List Int) (ta tb m j : Nat) : Prop :=
  (∃ pa ca, IsTape wr ta pa ca (l.drop m) (0 + (m - l.length)) ∧ ∀ i, onTape pa (l.drop m) i → i ≠ tb) ∧ (∃ pb cb, IsTape wr tb pb cb (l.drop j) (0 + (j - l.length))) ∧ Kept (fun _ => False) w wr

theorem two_step {w wr w2 : World} {l : List Int} {ta tb m j : Nat} {pb' : Option Addr} {cb' : Nat} (hne : ta ≠ tb) (hw : w.heap.size ≤ tb) (hA : ∃ pa ca, IsTape wr ta pa ca (l.drop m) (0 + (m - l.length)) ∧ ∀ i, onTape pa (l.drop m) i → i ≠ tb) (hk : Kept (fun _ => False) w wr)
    (ht : IsTape w2 tb pb' cb' (l.drop j).tail (askedOn (l.drop j) (0 + (j - l.length)))) (hk2 : Kept (fun i => i = tb) wr w2) : Two w w2 l ta tb m (j + 1) := by
  obtain ⟨pa, ca, h1, h2⟩ := hA
  refine ⟨⟨pa, ca, h1.kept hk2 hne (fun i hi => h2 i hi), h2⟩, ⟨pb', cb', ?_⟩, hk.andThen hk2 (fun i hi e => by omega)⟩
  rw [askedOn_drop, List.tail_drop] at ht
  exact ht

set_option maxHeartbeats 2000000 in
set_option maxRecDepth 100000 in
theorem tapeBytes_in (v : Value) (l : List Int) (m : Nat) (h1 : l.length ≤ 200) (h2 : m ≤ 64) (w : World) (hv : IntsAt w v l) :
    Calls Try.prog 6 #[v, .int .i64 (m : Int)] w fun e w' => e = .returned (.bool true) ∧ Below w.heap.size w w' := by
  obtain ⟨p0, cap0, hve, _⟩ := hv.slice
  have Ha := hid alive_any
  have Hv := hid hv
  have Hn := hid (fun W (h : IntsAt W v l) => new_ints h (by omega))
  subst hve
  clear hv
  go_enter Try.func6, Try.ntmps6
  go_wp2_with fail
  refine (Hn.out _ Hv.out).mono ?_
  rintro e w1 ⟨ta, pa, ca, rfl, hta, hpa, hA, hk1⟩
  have Hv1 := hid (Hv.out.kept hk1 (fun _ _ => id))
  have hta2 := hA.lt
  have hA := hid hA
  go_wp2_with fail
  refine (Hn.out _ Hv1.out).mono ?_
  rintro e w2 ⟨tb, pb, cb, rfl, htb, hpb, hB, hk2⟩
  have hA2 := hid (hA.out.kept hk2 id (fun _ _ => id))
  have hpa2 : ∀ i, onTape pa l i → i < w1.heap.size := hA.out.rows
  have hB := hid hB
  have hK2 := hid (hk1.trans hk2)
  clear hA hk1 hk2 Hv1
  go_wp2_with fail
  refine (bytes_le ta pa ca l 0 m h2 (by decide) w2 hA2.out).mono ?_
  rintro e w3 ⟨rfl, ⟨pa3, ca3, hA3, hpa3⟩, hk3⟩
  have hw1 : w.heap.size ≤ w1.heap.size := by omega
  have hst : Two w w3 l ta tb m 0 := ⟨⟨pa3, ca3, hA3, fun i hi e => by have := hpa2 i (hpa3 i hi); omega⟩, ⟨pb, cb, by rw [List.drop_zero, show 0 + (0 - l.length) = 0 from by omega]; exact hB.out.kept hk3 (by omega) (fun i hi e => by have := hpb i hi; omega)⟩, hK2.out.andThen hk3 (fun i hi e => by omega)⟩
  obtain ⟨S, hS⟩ : ∃ S : ByteArray, S = ⟨(bytesF l 0 m).toArray⟩ := ⟨_, rfl⟩
  obtain ⟨hSs, hSb⟩ := bytesF_at l 0 m S hS
  rw [← hS]
  have hs1 : m ≤ S.size := by omega
  have hs2 : S.size ≤ m := by omega
  have HS := hid hSb
  have hne : ((S.size : Int) != (m : Int)) = false := by rw [bne_eq_false_iff_eq]; omega
  clear hS hSb hSs hA3 hk3 hpa3 hA2 hB hK2
  go_wp2
  go_loopw [8] (fun s wr => ∃ j : Nat, j ≤ m ∧ s = .int .i64 (j : Int) ∧ Two w wr l ta tb m j) (fun s _ => m - (intOf s).toNat)
  case atStart => exact ⟨0, Nat.zero_le _, rfl, hst⟩
  case round =>
    obtain ⟨j, hj, rfl, hA, ⟨pj, cj, hB⟩, hk⟩ := hrel
    clear hst
    by_cases hlt : j < m
    · have hjs : j < S.size := by omega
      have hb := HS.out j hjs
      obtain ⟨b0, b1⟩ := byteAt_bounds l 0 j
      have Hx := hid (show Calls Try.prog 14 #[.pointer (some ⟨tb, 0, none⟩), .int .i64 256] wr.drew fun e w' => e = .returned (.int .i64 (byteAt l 0 j)) ∧ (∃ p' cap', IsTape w' tb p' cap' (l.drop j).tail (askedOn (l.drop j) (0 + (j - l.length))) ∧ ∀ i, onTape p' (l.drop j).tail i → onTape pj (l.drop j) i) ∧ Kept (fun i => i = tb) wr.drew w' from next_any tb pj cj (l.drop j) (0 + (j - l.length)) 256 (by decide) (by decide) (by omega) wr.drew (hB.kept (S := fun _ => False) (Kept.refl _ wr).drew id (fun _ _ => id)))
      have Hst := hid (fun w2 pb' cb' (ht : IsTape w2 tb pb' cb' (l.drop j).tail (askedOn (l.drop j) (0 + (j - l.length)))) (hk2 : Kept (fun i => i = tb) wr.drew w2) => two_step (m := m) (ta := ta) (w := w) (by omega) (by omega) hA hk ht (((Kept.refl (fun i => i = tb) wr).drew).trans hk2))
      generalize byteAt l 0 j = d at *
      have hw : IntKind.i64.wrap d = d := by rw [IntKind.wrap_i64]; omega
      clear hB hA hk
      go_wp2
      go_region_with (go_at_call 14; refine Hx.out.mono ?_; rintro e w2 ⟨rfl, ⟨p', c', ht', _⟩, hk2⟩)
      all_goals have R := hid (Hst.out w2 p' c' ht' hk2)
      all_goals clear ht' hk2
      all_goals go_wp2
      all_goals go_roundw
      case rel => exact ⟨j + 1, hlt, by go_num, R.out⟩
      case measure => simp [intOf]; omega
      case rel => exact ⟨j + 1, hlt, by go_num, R.out⟩
      case measure => simp [intOf]; omega
    · obtain rfl : j = m := by omega
      obtain ⟨pa', ca', hA', _⟩ := hA
      have La := hid (fun W (h : Kept (fun _ => False) wr W) => left_any ta pa' ca' (l.drop j) (0 + (j - l.length)) W (hA'.kept h id (fun _ _ => id)))
      have Lb := hid (fun W (h : Kept (fun _ => False) wr W) => left_any tb pj cj (l.drop j) (0 + (j - l.length)) W (hB.kept h id (fun _ _ => id)))
      have hlen : (l.drop j).length = l.length - j := List.length_drop
      rw [hlen] at La Lb
      obtain ⟨q, hq⟩ : ∃ q, l.length - j = q := ⟨_, rfl⟩
      rw [hq] at La Lb
      have Hq := hid hq
      clear hA' hB hlen hq
      go_wp2_with fail
      refine (Ha.out _).mono ?_
      rintro e w5 ⟨rfl, hk5⟩
      have hk6 := hk.trans hk5
      go_wp2_with fail
      refine (La.out _ hk5).mono ?_
      rintro e w' ⟨rfl, rfl⟩
      go_wp2_with fail
      refine (Lb.out _ hk5).mono ?_
      rintro e w' ⟨rfl, rfl⟩
      go_wp2_with fail
      refine (La.out _ hk5).mono ?_
      rintro e w' ⟨rfl, rfl⟩
      go_wp2
      all_goals have hq := Hq.out
      all_goals go_ret
      all_goals exact ⟨congrArg (fun b => Ending.returned (.bool b)) (by rw [beq_iff_eq]; omega), hk6.below (Nat.le_refl _) (fun _ h => h.elim)⟩

theorem tapeBytes_walk (v : Value) (l : List Int) (n : Int) (w : World) (hv : IntsAt w v l ∧ ∀ x ∈ l, In64 x) (hn : In64 n) :
    Calls Try.prog 6 #[v, .int .i64 n] w fun e w' => e = .returned (.bool true) ∧ Below w.heap.size w w' := by
  by_cases h1 : 200 < l.length
  · exact tapeBytes_out v l n hv.1.slice hn (Or.inl h1) w
  by_cases h2 : n < 0
  · exact tapeBytes_out v l n hv.1.slice hn (Or.inr (Or.inl h2)) w
  by_cases h3 : 64 < n
  · exact tapeBytes_out v l n hv.1.slice hn (Or.inr (Or.inr h3)) w
  obtain ⟨m, rfl⟩ := Int.eq_ofNat_of_zero_le (show 0 ≤ n by omega)
  exact tapeBytes_in v l m (by omega) (by omega) w hv.1
end Go.Proofs.Ytmclldidmpeahaa
