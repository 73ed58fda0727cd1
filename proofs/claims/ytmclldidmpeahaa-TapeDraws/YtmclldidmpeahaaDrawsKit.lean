/- A tape and the document's own, asked alike: what they answer, and what is left. -/
import Derived.Test.YtmclldidmpeahaaRefTape
import Derived.Test.YtmclldidmpeahaaLeft
import Derived.Test.YtmclldidmpeahaaLent
import Derived.Laws.Bits128
namespace Go.Proofs.Ytmclldidmpeahaa
open Go.RowKit

/-- What is left of a tape behind an ask of n, of bytes too. -/
def restN (l : List Int) (n : Int) : List Int := if n < 1 then l else l.tail
def askN (l : List Int) (asked : Nat) (n : Int) : Nat := if n < 1 then asked else askedOn l asked
def drawN (l : List Int) (asked : Nat) (n : Int) : Int := if n < 1 then 0 else drawn l asked n
def restB (l : List Int) (k : Nat) : List Int := if 1 ≤ k ∧ k ≤ 64 then l.drop k else l
def askB (l : List Int) (asked k : Nat) : Nat := if 1 ≤ k ∧ k ≤ 64 then asked + (k - l.length) else asked
def strB (l : List Int) (asked k : Nat) : ByteArray := if 1 ≤ k ∧ k ≤ 64 then ⟨(bytesF l asked k).toArray⟩ else ByteArray.empty

/-- A call of a tape at b, that answers v. -/
def Asked (w : World) (b : Nat) (p : Option Addr) (l : List Int) (v : Value) (l' : List Int) (asked' : Nat) (e : Ending) (w' : World) : Prop :=
  e = .returned v ∧ (∃ p' cap', IsTape w' b p' cap' l' asked' ∧ ∀ i, onTape p' l' i → onTape p l i) ∧ Kept (fun i => i = b) w w'

theorem nextI (b : Nat) (p : Option Addr) (cap : Nat) (l : List Int) (asked : Nat) (n : Int) (hn : In64 n) (ha : asked ≤ 900000) (w : World) (h : IsTape w b p cap l asked) :
    Calls Try.prog 14 #[.pointer (some ⟨b, 0, none⟩), .int .i64 n] w (Asked w b p l (.int .i64 (drawN l asked n)) (restN l n) (askN l asked n)) := by
  unfold drawN restN askN
  by_cases h1 : n < 1
  · simp only [h1, if_true]
    exact (next_low b n h1 w).mono fun e w' ⟨he, hw⟩ => by subst hw; exact ⟨he, ⟨p, cap, h, fun _ hi => hi⟩, Kept.refl _ _⟩
  · simp only [h1, if_false]
    obtain ⟨m, rfl⟩ := Int.eq_ofNat_of_zero_le (show 0 ≤ n by omega)
    have := hn.2
    exact next_any b p cap l asked m (by omega) (by omega) (by omega) w h

theorem refNextI (b : Nat) (p : Option Addr) (cap : Nat) (l : List Int) (asked : Nat) (n : Int) (hn : In64 n) (ha : asked ≤ 900000) (w : World) (h : IsTape w b p cap l asked) :
    Calls Try.prog 15 #[.pointer (some ⟨b, 0, none⟩), .int .i64 n] w (Asked w b p l (.int .i64 (drawN l asked n)) (restN l n) (askN l asked n)) := by
  unfold drawN restN askN
  by_cases h1 : n < 1
  · simp only [h1, if_true]
    exact (refNext_low b n h1 w).mono fun e w' ⟨he, hw⟩ => by subst hw; exact ⟨he, ⟨p, cap, h, fun _ hi => hi⟩, Kept.refl _ _⟩
  · simp only [h1, if_false]
    obtain ⟨m, rfl⟩ := Int.eq_ofNat_of_zero_le (show 0 ≤ n by omega)
    have := hn.2
    exact refNext_any b p cap l asked m (by omega) (by omega) (by omega) w h

theorem bytesI (b : Nat) (p : Option Addr) (cap : Nat) (l : List Int) (asked k : Nat) (ha : asked ≤ 900000) (w : World) (h : IsTape w b p cap l asked) :
    Calls Try.prog 12 #[.pointer (some ⟨b, 0, none⟩), .int .i64 (k : Int)] w (Asked w b p l (.string (strB l asked k)) (restB l k) (askB l asked k)) := by
  unfold strB restB askB
  by_cases h1 : 1 ≤ k ∧ k ≤ 64
  · simp only [h1, and_self, if_true]
    exact bytes_any b p cap l asked k h1.1 h1.2 ha w h
  · simp only [h1, if_false]
    exact (bytes_out _ _ (by omega) w).mono fun e w' ⟨he, hw⟩ => by subst hw; exact ⟨he, ⟨p, cap, h, fun _ hi => hi⟩, Kept.refl _ _⟩

theorem refBytesI (b : Nat) (p : Option Addr) (cap : Nat) (l : List Int) (asked k : Nat) (ha : asked ≤ 900000) (w : World) (h : IsTape w b p cap l asked) :
    Calls Try.prog 13 #[.pointer (some ⟨b, 0, none⟩), .int .i64 (k : Int)] w (Asked w b p l (.string (strB l asked k)) (restB l k) (askB l asked k)) := by
  unfold strB restB askB
  by_cases h1 : 1 ≤ k ∧ k ≤ 64
  · simp only [h1, and_self, if_true]
    exact refBytes_any b p cap l asked k h1.1 h1.2 ha w h
  · simp only [h1, if_false]
    exact (refBytes_out _ _ (by omega) w).mono fun e w' ⟨he, hw⟩ => by subst hw; exact ⟨he, ⟨p, cap, h, fun _ hi => hi⟩, Kept.refl _ _⟩

theorem askN_le (l : List Int) (asked : Nat) (n : Int) : askN l asked n ≤ asked + 64 := by
  unfold askN askedOn
  split
  · omega
  · split <;> omega

theorem askB_le (l : List Int) (asked k : Nat) : askB l asked k ≤ asked + 64 := by
  unfold askB
  split <;> omega

/-- The two tapes beside each other. -/
def Pair (w wr : World) (ta rb : Nat) (L : List Int) (asked : Nat) : Prop :=
  (∃ pa ca, IsTape wr ta pa ca L asked ∧ ∀ i, onTape pa L i → i ≠ rb) ∧ (∃ pr cr, IsTape wr rb pr cr L asked ∧ ∀ i, onTape pr L i → i ≠ ta) ∧ ta ≠ rb ∧ w.heap.size ≤ ta ∧ w.heap.size ≤ rb ∧ Kept (fun _ => False) w wr

theorem Pair.drew {w wr : World} {ta rb : Nat} {L : List Int} {asked : Nat} (h : Pair w wr ta rb L asked) : Pair w wr.drew ta rb L asked := by
  obtain ⟨⟨pa, ca, h1, h2⟩, ⟨pr, cr, h3, h4⟩, h5, h6, h7, h8⟩ := h
  exact ⟨⟨pa, ca, h1.kept (S := fun _ => False) (Kept.refl _ wr).drew id (fun _ _ => id), h2⟩, ⟨pr, cr, h3.kept (S := fun _ => False) (Kept.refl _ wr).drew id (fun _ _ => id), h4⟩, h5, h6, h7, h8.drew⟩

/-- The first has been asked. -/
def Half (w wr : World) (ta rb : Nat) (L : List Int) (asked : Nat) (L' : List Int) (asked' : Nat) : Prop :=
  (∃ pa ca, IsTape wr ta pa ca L' asked' ∧ ∀ i, onTape pa L' i → i ≠ rb) ∧ (∃ pr cr, IsTape wr rb pr cr L asked ∧ ∀ i, onTape pr L i → i ≠ ta) ∧ ta ≠ rb ∧ w.heap.size ≤ ta ∧ w.heap.size ≤ rb ∧ Kept (fun _ => False) w wr

theorem Pair.first {w wr : World} {ta rb : Nat} {L : List Int} {asked : Nat} {f : Nat} {args : Array Value} {v : Value} {L' : List Int} {asked' : Nat} (h : Pair w wr ta rb L asked) (hc : ∀ p cap, IsTape wr ta p cap L asked → Calls Try.prog f args wr (Asked wr ta p L v L' asked')) :
    Calls Try.prog f args wr fun e w' => e = .returned v ∧ Half w w' ta rb L asked L' asked' := by
  obtain ⟨⟨pa, ca, h1, h2⟩, ⟨pr, cr, h3, h4⟩, h5, h6, h7, h8⟩ := h
  refine (hc pa ca h1).mono ?_
  rintro e w' ⟨he, ⟨p', c', ht, hp⟩, hk⟩
  exact ⟨he, ⟨p', c', ht, fun i hi => h2 i (hp i hi)⟩, ⟨pr, cr, h3.kept hk (fun e => h5 e.symm) (fun i hi => h4 i hi), h4⟩, h5, h6, h7, h8.andThen hk (fun i hi e => by omega)⟩

theorem Half.second {w wr : World} {ta rb : Nat} {L : List Int} {asked : Nat} {f : Nat} {args : Array Value} {v : Value} {L' : List Int} {asked' : Nat} (h : Half w wr ta rb L asked L' asked') (hc : ∀ p cap, IsTape wr rb p cap L asked → Calls Try.prog f args wr (Asked wr rb p L v L' asked')) :
    Calls Try.prog f args wr fun e w' => e = .returned v ∧ Pair w w' ta rb L' asked' := by
  obtain ⟨⟨pa, ca, h1, h2⟩, ⟨pr, cr, h3, h4⟩, h5, h6, h7, h8⟩ := h
  refine (hc pr cr h3).mono ?_
  rintro e w' ⟨he, ⟨p', c', ht, hp⟩, hk⟩
  exact ⟨he, ⟨pa, ca, h1.kept hk h5 (fun i hi => h2 i hi), h2⟩, ⟨p', c', ht, fun i hi => h4 i (hp i hi)⟩, h5, h6, h7, h8.andThen hk (fun i hi e => by omega)⟩

theorem and127 (n : Int) : ∃ k : Nat, bits .and .i64 n 127 = (k : Int) := ⟨(n % 128).toNat, by rw [i64_and127, Int.toNat_of_nonneg (Int.emod_nonneg _ (by decide))]⟩
end Go.Proofs.Ytmclldidmpeahaa
