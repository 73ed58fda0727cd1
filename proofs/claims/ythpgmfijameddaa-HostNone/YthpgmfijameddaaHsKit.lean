/- The host's calls as the laws call them: a host that asks, ticks, fails, and begins anew. -/
import Derived.Test.YthpgmfijameddaaHsTick
import Derived.Test.YthpgmfijameddaaEtEq
namespace Go.Proofs.Ythpgmfijameddaa
open Go.RowKit

/-- A host that asked, k times anew, n ticks ago. -/
def hq (m : List UInt8) (s u : ByteArray) (r t : Nat) (f : Fr) (k n : Nat) : Hs := ⟨m, s, u, r, t, 1, mac0, 0, [f], k, n⟩
def hfail (m : List UInt8) (s u : ByteArray) (r t : Nat) : Hs := ⟨m, s, u, r, t, 4, mac0, 0, [], 0, 0⟩

/-- What a law's host is made of, and its Padi. -/
structure Ck (m : List UInt8) (s u : ByteArray) (r t : Nat) (f : Fr) : Prop where
  mac : m.length = 6
  service : s.size ≤ 40
  uniq : u.size ≤ 40
  retry : r ≤ 10
  wait1 : 1 ≤ t
  wait : t ≤ 100
  padi : padiF (newH m s u r t) = [f]
  six : f.dst.length = 6 ∧ f.src.length = 6

section
variable {m : List UInt8} {s u : ByteArray} {r t : Nat} {f : Fr} {k n : Nat}
theorem Ck.good0 (h : Ck m s u r t f) : GoodH (newH m s u r t) := good_newH h.mac h.service h.uniq h.retry h.wait1 h.wait
theorem Ck.good (h : Ck m s u r t f) (hk : k ≤ r) (hn : n < t * 2 ^ k) : GoodH (hq m s u r t f k n) :=
  ⟨h.mac, rfl, h.service, h.uniq, h.retry, h.wait1, h.wait, hk, hn, by simp [hq], fun g hg => by simp [hq] at hg; subst hg; exact h.six⟩
theorem Ck.goodF (h : Ck m s u r t f) : GoodH (hfail m s u r t) := ⟨h.mac, rfl, h.service, h.uniq, h.retry, h.wait1, h.wait, Nat.zero_le _, by show 0 < t * 2 ^ 0; have := h.wait1; omega, by simp [hfail], by simp [hfail]⟩
theorem Ck.start0 (h : Ck m s u r t f) : startF (newH m s u r t) = ([f], hq m s u r t f 0 0) := by
  unfold startF
  rw [if_pos (by exact Or.inl rfl), h.padi]
  rfl
theorem Ck.startF (h : Ck m s u r t f) : startF (hfail m s u r t) = ([f], hq m s u r t f 0 0) := by
  unfold Go.Proofs.Ythpgmfijameddaa.startF
  rw [if_pos (by exact Or.inr rfl), show padiF (hfail m s u r t) = padiF (newH m s u r t) from rfl, h.padi]
  rfl
theorem start_hq : startF (hq m s u r t f k n) = ([], hq m s u r t f k n) := by
  unfold startF
  rw [if_neg (by simp [hq])]
theorem stop_hq : stopF (hq m s u r t f k n) = ([], newH m s u r t) := by
  unfold stopF
  rw [if_neg (by simp [hq])]
  rfl
theorem tick_lt (h : n + 1 < t * 2 ^ k) : tickF (hq m s u r t f k n) = ([], hq m s u r t f k (n + 1)) := by
  unfold tickF
  rw [if_pos (by exact Or.inl rfl), if_pos (by exact h)]
  rfl
theorem tick_more (h : n + 1 = t * 2 ^ k) (hk : k ≠ r) : tickF (hq m s u r t f k n) = ([f], hq m s u r t f (k + 1) 0) := by
  unfold tickF
  rw [if_pos (by exact Or.inl rfl), if_neg (by show ¬ n + 1 < t * 2 ^ k; omega), if_neg (by exact hk)]
  rfl
theorem tick_last (h : n + 1 = t * 2 ^ k) (hk : k = r) : tickF (hq m s u r t f k n) = ([], hfail m s u r t) := by
  unfold tickF
  rw [if_pos (by exact Or.inl rfl), if_neg (by show ¬ n + 1 < t * 2 ^ k; omega), if_pos (by exact hk)]
  rfl
theorem tick_fail : tickF (hfail m s u r t) = ([], hfail m s u r t) := by
  unfold tickF
  rw [if_neg (by simp [hfail])]

variable {w W : World} {b : Nat} {vs : List (Value × List Fr)} {c c' : Hs} {l : List Fr}
theorem HSt.startBy (h : HSt w W b c vs) (hg : GoodH c) (e : Go.Proofs.Ythpgmfijameddaa.startF c = (l, c')) :
    Calls Try.prog 11 #[.pointer (some ⟨b, 0, none⟩)] W fun e w'' => ∃ p cap, e = .returned (.slice p l.length cap) ∧ HSt w w'' b c' ((.slice p l.length cap, l) :: vs) :=
  h.call (fun S hS => by
    have := start_any b c hg W hS
    rw [e] at this
    exact this)
theorem HSt.stopBy (h : HSt w W b c vs) (hg : GoodH c) (e : stopF c = (l, c')) :
    Calls Try.prog 12 #[.pointer (some ⟨b, 0, none⟩)] W fun e w'' => ∃ p cap, e = .returned (.slice p l.length cap) ∧ HSt w w'' b c' ((.slice p l.length cap, l) :: vs) :=
  h.call (fun S hS => by
    have := stop_any b c hg W hS
    rw [e] at this
    exact this)
theorem HSt.tickBy (h : HSt w W b c vs) (hg : GoodH c) (e : tickF c = (l, c')) :
    Calls Try.prog 13 #[.pointer (some ⟨b, 0, none⟩)] W fun e w'' => ∃ p cap, e = .returned (.slice p l.length cap) ∧ HSt w w'' b c' ((.slice p l.length cap, l) :: vs) :=
  h.call (fun S hS => by
    have := tick_any b c hg W hS
    rw [e] at this
    exact this)
theorem HSt.stateBy (h : HSt w W b c vs) (hg : GoodH c) (hc : c.conc = mac0) {st ss : Int} (hst : c.state = st) (hss : c.session = ss) :
    Calls Try.prog 10 #[.pointer (some ⟨b, 0, none⟩)] W fun e w'' => e = .returned (.tuple #[.int .i64 st, .agg #[.int .u8 0, .int .u8 0, .int .u8 0, .int .u8 0, .int .u8 0, .int .u8 0], .int .i64 ss]) ∧ HSt w w'' b c vs := by
  have h' := h.read (fun av hH => state_any b av c hg W hH)
  unfold stateV at h'
  rw [hc, hst, hss] at h'
  exact h'
end

/-- The first frame's cells. -/
theorem OwnE.first {w : World} {base : Nat} {v : Value} {f : Fr} (h : OwnE w base v [f]) : ∃ g cap, v = .slice (some ⟨g, 0, none⟩) 1 cap ∧ 1 ≤ cap ∧ ∀ j u, j < 14 → (frList f)[j]? = some u → w.cell? ⟨g, j, none⟩ = some u := by
  rcases h.2 with ⟨_, h0⟩ | ⟨g, cap, cur, rfl, hb, hg, h1, h2, h3, h4⟩
  · cases h0
  · refine ⟨g, cap, rfl, h1, fun j u hj hu => ?_⟩
    rw [cell_of_row w g j _ _ _ hg]
    have e : rowE [f] = frList f := by simp [rowE]
    rw [e] at h4
    rw [← h4, List.getElem?_take_of_lt (by simpa using hj)] at hu
    simpa using hu

def m1 : List UInt8 := [1, 0, 0, 0, 0, 0]
def eB : ByteArray := ⟨#[]⟩
def uB : ByteArray := ⟨#[117]⟩
def fA : Fr := ⟨everyF, m1, 34915, ⟨#[17, 9, 0, 0, 0, 9, 1, 1, 0, 0, 1, 3, 0, 1, 117]⟩⟩
theorem ck_A (r t : Nat) (hr : r ≤ 10) (h1 : 1 ≤ t) (h2 : t ≤ 100) : Ck m1 eB uB r t fA := ⟨rfl, by decide, by decide, hr, h1, h2, by kernel_rfl, ⟨rfl, rfl⟩⟩
def fE : Fr := ⟨everyF, m1, 34915, ⟨#[17, 9, 0, 0, 0, 4, 1, 1, 0, 0]⟩⟩
theorem ck_E (r t : Nat) (hr : r ≤ 10) (h1 : 1 ≤ t) (h2 : t ≤ 100) : Ck m1 eB eB r t fE := ⟨rfl, by decide, by decide, hr, h1, h2, by kernel_rfl, ⟨rfl, rfl⟩⟩
def m111 : List UInt8 := [1, 1, 1, 0, 0, 0]
def fI : Fr := ⟨everyF, m111, 34915, ⟨#[17, 9, 0, 0, 0, 9, 1, 1, 0, 0, 1, 3, 0, 1, 117]⟩⟩
theorem ck_I (r t : Nat) (hr : r ≤ 10) (h1 : 1 ≤ t) (h2 : t ≤ 100) : Ck m111 eB uB r t fI := ⟨rfl, by decide, by decide, hr, h1, h2, by kernel_rfl, ⟨rfl, rfl⟩⟩

theorem newA (r t : Nat) (hr : r ≤ 10) (h1 : 1 ≤ t) (h2 : t ≤ 100) (w : World) :
    Calls Try.prog 15 #[.agg #[.int .u8 1, .int .u8 0, .int .u8 0, .int .u8 0, .int .u8 0, .int .u8 0], .string ⟨#[]⟩, .string ⟨#[117]⟩, .int .i64 (r : Int), .int .i64 (t : Int)] w fun e w' => ∃ B, e = .returned (.tuple #[.pointer (some ⟨B, 0, none⟩), .int .i64 0]) ∧ HSt w w' B (newH m1 eB uB r t) [] :=
  (newH_ok m1 rfl eB uB (by decide) (by decide) r t hr h1 h2 w).mono fun _ _ ⟨he, hn⟩ => ⟨_, he, hn⟩
theorem newE (r t : Nat) (hr : r ≤ 10) (h1 : 1 ≤ t) (h2 : t ≤ 100) (w : World) :
    Calls Try.prog 15 #[.agg #[.int .u8 1, .int .u8 0, .int .u8 0, .int .u8 0, .int .u8 0, .int .u8 0], .string ⟨#[]⟩, .string ⟨#[]⟩, .int .i64 (r : Int), .int .i64 (t : Int)] w fun e w' => ∃ B, e = .returned (.tuple #[.pointer (some ⟨B, 0, none⟩), .int .i64 0]) ∧ HSt w w' B (newH m1 eB eB r t) [] :=
  (newH_ok m1 rfl eB eB (by decide) (by decide) r t hr h1 h2 w).mono fun _ _ ⟨he, hn⟩ => ⟨_, he, hn⟩
theorem newI (r t : Nat) (hr : r ≤ 10) (h1 : 1 ≤ t) (h2 : t ≤ 100) (w : World) :
    Calls Try.prog 15 #[.agg #[.int .u8 1, .int .u8 1, .int .u8 1, .int .u8 0, .int .u8 0, .int .u8 0], .string ⟨#[]⟩, .string ⟨#[117]⟩, .int .i64 (r : Int), .int .i64 (t : Int)] w fun e w' => ∃ B, e = .returned (.tuple #[.pointer (some ⟨B, 0, none⟩), .int .i64 0]) ∧ HSt w w' B (newH m111 eB uB r t) [] :=
  (newH_ok m111 rfl eB uB (by decide) (by decide) r t hr h1 h2 w).mono fun _ _ ⟨he, hn⟩ => ⟨_, he, hn⟩
end Go.Proofs.Ythpgmfijameddaa
