/- The host's calls as the laws call them: a host that asks, ticks, fails, and begins anew. · The laws' own alive: it returns true. -/
import Derived.Test.YtffnppfoofifgaaGreatHsTick
import Derived.Test.YtffnppfoofifgaaGreatEtEq
import Derived.Test.YtffnppfoofifgaaGreatTk
namespace Go.Proofs.YtffnppfoofifgaaGreat
open Go.RowKit

/-- A host that asked, k times anew, n ticks ago. -/
def hq (m : List UInt8) (s u : ByteArray) (r t : Nat) (f : Fr) (k n : Nat) : Hs := ⟨m, s, u, r, t, 1, mac0, 0, [f], k, n⟩
def hfail (m : List UInt8) (s u : ByteArray) (r t : Nat) : Hs := ⟨m, s, u, r, t, 4, mac0, 0, [], 0, 0⟩

/-- What a law's host is made of, and its Padi. -/
structure Ck (m : List UInt8) (s u : ByteArray) (r t : Nat) (f : Fr) : Prop where
  mac : m.length = 6
  service : s.size ≤ 40
  uniq : u.size ≤ 40
  retry : r ≤ 10
  wait1 : 1 ≤ t
  wait : t ≤ 100
  padi : padiF (newH m s u r t) = [f]
  six : f.dst.length = 6 ∧ f.src.length = 6

section
variable {m : List UInt8} {s u : ByteArray} {r t : Nat} {f : Fr} {k n : Nat}
theorem Ck.good0 (h : Ck m s u r t f) : GoodH (newH m s u r t) := good_newH h.mac h.service h.uniq h.retry h.wait1 h.wait
theorem Ck.good (h : Ck m s u r t f) (hk : k ≤ r) (hn : n < t * 2 ^ k) : GoodH (hq m s u r t f k n) :=
  ⟨h.mac, rfl, h.service, h.uniq, h.retry, h.wait1, h.wait, hk, hn, by simp [hq], fun g hg => by simp [hq] at hg; subst hg; exact h.six⟩
theorem Ck.goodF (h : Ck m s u r t f) : GoodH (hfail m s u r t) := ⟨h.mac, rfl, h.service, h.uniq, h.retry, h.wait1, h.wait, Nat.zero_le _, by show 0 < t * 2 ^ 0; have := h.wait1; omega, by simp [hfail], by simp [hfail]⟩
theorem Ck.start0 (h : Ck m s u r t f) : startF (newH m s u r t) = ([f], hq m s u r t f 0 0) := by
  unfold startF
  rw [if_pos (by exact Or.inl rfl), h.padi]
  rfl
theorem Ck.startF (h : Ck m s u r t f) : startF (hfail m s u r t) = ([f], hq m s u r t f 0 0) := by
  unfold Go.Proofs.YtffnppfoofifgaaGreat.startF
  rw [if_pos (by exact Or.inr rfl), show padiF (hfail m s u r t) = padiF (newH m s u r t) from rfl, h.padi]
  rfl
theorem start_hq : startF (hq m s u r t f k n) = ([], hq m s u r t f k n) := by
  unfold startF
  rw [if_neg (by simp [hq])]
theorem stop_hq : stopF (hq m s u r t f k n) = ([], newH m s u r t) := by
  unfold stopF
  rw [if_neg (by simp [hq])]
  rfl
theorem tick_lt (h : n + 1 < t * 2 ^ k) : tickF (hq m s u r t f k n) = ([], hq m s u r t f k (n + 1)) := by
  unfold tickF
  rw [if_pos (by exact Or.inl rfl), if_pos (by exact h)]
  rfl
theorem tick_more (h : n + 1 = t * 2 ^ k) (hk : k ≠ r) : tickF (hq m s u r t f k n) = ([f], hq m s u r t f (k + 1) 0) := by
  unfold tickF
  rw [if_pos (by exact Or.inl rfl), if_neg (by show ¬ n + 1 < t * 2 ^ k; omega), if_neg (by exact hk)]
  rfl
theorem tick_last (h : n + 1 = t * 2 ^ k) (hk : k = r) : tickF (hq m s u r t f k n) = ([], hfail m s u r t) := by
  unfold tickF
  rw [if_pos (by exact Or.inl rfl), if_neg (by show ¬ n + 1 < t * 2 ^ k; omega), if_pos (by exact hk)]
  rfl
theorem tick_fail : tickF (hfail m s u r t) = ([], hfail m s u r t) := by
  unfold tickF
  rw [if_neg (by simp [hfail])]

variable {w W : World} {b : Nat} {vs : List (Value × List Fr)} {c c' : Hs} {l : List Fr}
theorem HSt.startBy (h : HSt w W b c vs) (hg : GoodH c) (e : Go.Proofs.YtffnppfoofifgaaGreat.startF c = (l, c')) :
    Calls Tryz.prog 7 #[.pointer (some ⟨b, 0, none⟩)] W fun e w'' => ∃ p cap, e = .returned (.slice p l.length cap) ∧ HSt w w'' b c' ((.slice p l.length cap, l) :: vs) :=
  h.call (fun S hS => by
    have := start_any b c hg W hS
    rw [e] at this
    exact this)
theorem HSt.stopBy (h : HSt w W b c vs) (hg : GoodH c) (e : stopF c = (l, c')) :
    Calls Tryz.prog 9 #[.pointer (some ⟨b, 0, none⟩)] W fun e w'' => ∃ p cap, e = .returned (.slice p l.length cap) ∧ HSt w w'' b c' ((.slice p l.length cap, l) :: vs) :=
  h.call (fun S hS => by
    have := stop_any b c hg W hS
    rw [e] at this
    exact this)
theorem HSt.tickBy (h : HSt w W b c vs) (hg : GoodH c) (e : tickF c = (l, c')) :
    Calls Tryz.prog 11 #[.pointer (some ⟨b, 0, none⟩)] W fun e w'' => ∃ p cap, e = .returned (.slice p l.length cap) ∧ HSt w w'' b c' ((.slice p l.length cap, l) :: vs) :=
  h.call (fun S hS => by
    have := tick_any b c hg W hS
    rw [e] at this
    exact this)
theorem HSt.stateBy (h : HSt w W b c vs) (hg : GoodH c) (hc : c.conc = mac0) {st ss : Int} (hst : c.state = st) (hss : c.session = ss) :
    Calls Tryz.prog 20 #[.pointer (some ⟨b, 0, none⟩)] W fun e w'' => e = .returned (.tuple #[.int .i64 st, .agg #[.int .u8 0, .int .u8 0, .int .u8 0, .int .u8 0, .int .u8 0, .int .u8 0], .int .i64 ss]) ∧ HSt w w'' b c vs := by
  have h' := h.read (fun av hH => state_any b av c hg W hH)
  unfold stateV at h'
  rw [hc, hst, hss] at h'
  exact h'
end

/-- The first frame's cells. -/
theorem OwnE.first {w : World} {base : Nat} {v : Value} {f : Fr} (h : OwnE w base v [f]) : ∃ g cap, v = .slice (some ⟨g, 0, none⟩) 1 cap ∧ 1 ≤ cap ∧ ∀ j u, j < 14 → (frList f)[j]? = some u → w.cell? ⟨g, j, none⟩ = some u := by
  rcases h.2 with ⟨_, h0⟩ | ⟨g, cap, cur, rfl, hb, hg, h1, h2, h3, h4⟩
  · cases h0
  · refine ⟨g, cap, rfl, h1, fun j u hj hu => ?_⟩
    rw [cell_of_row w g j _ _ _ hg]
    have e : rowE [f] = frList f := by simp [rowE]
    rw [e] at h4
    rw [← h4, List.getElem?_take_of_lt (by simpa using hj)] at hu
    simpa using hu

def m1 : List UInt8 := [1, 0, 0, 0, 0, 0]
def eB : ByteArray := ⟨#[]⟩
def uB : ByteArray := ⟨#[117]⟩
def fA : Fr := ⟨everyF, m1, 34915, ⟨#[17, 9, 0, 0, 0, 9, 1, 1, 0, 0, 1, 3, 0, 1, 117]⟩⟩
theorem ck_A (r t : Nat) (hr : r ≤ 10) (h1 : 1 ≤ t) (h2 : t ≤ 100) : Ck m1 eB uB r t fA := ⟨rfl, by decide, by decide, hr, h1, h2, by kernel_rfl, ⟨rfl, rfl⟩⟩
def fE : Fr := ⟨everyF, m1, 34915, ⟨#[17, 9, 0, 0, 0, 4, 1, 1, 0, 0]⟩⟩
theorem ck_E (r t : Nat) (hr : r ≤ 10) (h1 : 1 ≤ t) (h2 : t ≤ 100) : Ck m1 eB eB r t fE := ⟨rfl, by decide, by decide, hr, h1, h2, by kernel_rfl, ⟨rfl, rfl⟩⟩
def m111 : List UInt8 := [1, 1, 1, 0, 0, 0]
def fI : Fr := ⟨everyF, m111, 34915, ⟨#[17, 9, 0, 0, 0, 9, 1, 1, 0, 0, 1, 3, 0, 1, 117]⟩⟩
theorem ck_I (r t : Nat) (hr : r ≤ 10) (h1 : 1 ≤ t) (h2 : t ≤ 100) : Ck m111 eB uB r t fI := ⟨rfl, by decide, by decide, hr, h1, h2, by kernel_rfl, ⟨rfl, rfl⟩⟩

theorem newA (r t : Nat) (hr : r ≤ 10) (h1 : 1 ≤ t) (h2 : t ≤ 100) (w : World) :
    Calls Tryz.prog 5 #[.agg #[.int .u8 1, .int .u8 0, .int .u8 0, .int .u8 0, .int .u8 0, .int .u8 0], .string ⟨#[]⟩, .string ⟨#[117]⟩, .int .i64 (r : Int), .int .i64 (t : Int)] w fun e w' => ∃ B, e = .returned (.tuple #[.pointer (some ⟨B, 0, none⟩), .int .i64 0]) ∧ HSt w w' B (newH m1 eB uB r t) [] :=
  (newH_ok m1 rfl eB uB (by decide) (by decide) r t hr h1 h2 w).mono fun _ _ ⟨he, hn⟩ => ⟨_, he, hn⟩
theorem newE (r t : Nat) (hr : r ≤ 10) (h1 : 1 ≤ t) (h2 : t ≤ 100) (w : World) :
    Calls Tryz.prog 5 #[.agg #[.int .u8 1, .int .u8 0, .int .u8 0, .int .u8 0, .int .u8 0, .int .u8 0], .string ⟨#[]⟩, .string ⟨#[]⟩, .int .i64 (r : Int), .int .i64 (t : Int)] w fun e w' => ∃ B, e = .returned (.tuple #[.pointer (some ⟨B, 0, none⟩), .int .i64 0]) ∧ HSt w w' B (newH m1 eB eB r t) [] :=
  (newH_ok m1 rfl eB eB (by decide) (by decide) r t hr h1 h2 w).mono fun _ _ ⟨he, hn⟩ => ⟨_, he, hn⟩
theorem newI (r t : Nat) (hr : r ≤ 10) (h1 : 1 ≤ t) (h2 : t ≤ 100) (w : World) :
    Calls Tryz.prog 5 #[.agg #[.int .u8 1, .int .u8 1, .int .u8 1, .int .u8 0, .int .u8 0, .int .u8 0], .string ⟨#[]⟩, .string ⟨#[117]⟩, .int .i64 (r : Int), .int .i64 (t : Int)] w fun e w' => ∃ B, e = .returned (.tuple #[.pointer (some ⟨B, 0, none⟩), .int .i64 0]) ∧ HSt w w' B (newH m111 eB uB r t) [] :=
  (newH_ok m111 rfl eB uB (by decide) (by decide) r t hr h1 h2 w).mono fun _ _ ⟨he, hn⟩ => ⟨_, he, hn⟩
end Go.Proofs.YtffnppfoofifgaaGreat

namespace Go.Proofs.YtffnppfoofifgaaGreat
open Go.RowKit

def IsW (w W : World) : Prop := W = w

theorem fA_cells : frList fA = [.int .u8 255, .int .u8 255, .int .u8 255, .int .u8 255, .int .u8 255, .int .u8 255, .int .u8 1, .int .u8 0, .int .u8 0, .int .u8 0, .int .u8 0, .int .u8 0, .int .i64 34915, .string ⟨#[17, 9, 0, 0, 0, 9, 1, 1, 0, 0, 1, 3, 0, 1, 117]⟩] := rfl

set_option maxHeartbeats 4000000 in
set_option maxRecDepth 100000 in
theorem alive_any (w : World) : Calls Tryz.prog 4 #[] w fun e w' => e = .returned (.bool true) ∧ Kept (fun _ => False) w w' := by
  have q1 := mac_eq9 everyF everyF rfl rfl
  have q2 := mac_eq9 m1 m1 rfl rfl
  have q3 := mac_eq everyF everyF rfl rfl
  rw [decide_eq_true rfl] at q1 q2 q3
  change ∀ W, Sem.run Tryz.prog (Op.equalIn 9999 23 (.agg #[.int .u8 255, .int .u8 255, .int .u8 255, .int .u8 255, .int .u8 255, .int .u8 255]) (.agg #[.int .u8 255, .int .u8 255, .int .u8 255, .int .u8 255, .int .u8 255, .int .u8 255])) W = .ok true W at q1
  change ∀ W, Sem.run Tryz.prog (Op.equalIn 9999 23 (.agg #[.int .u8 1, .int .u8 0, .int .u8 0, .int .u8 0, .int .u8 0, .int .u8 0]) (.agg #[.int .u8 1, .int .u8 0, .int .u8 0, .int .u8 0, .int .u8 0, .int .u8 0])) W = .ok true W at q2
  change ∀ W, Sem.run Tryz.prog (Op.equalIn 10000 23 (.agg #[.int .u8 255, .int .u8 255, .int .u8 255, .int .u8 255, .int .u8 255, .int .u8 255]) (.agg #[.int .u8 255, .int .u8 255, .int .u8 255, .int .u8 255, .int .u8 255, .int .u8 255])) W = .ok true W at q3
  have CK := hid (ck_A 1 2 (by decide) (by decide) (by decide))
  have HN0 := hid (newA 1 2 (by decide) (by decide) (by decide))
  go_enter Tryz.func4, Tryz.ntmps4
  go_wp2_with fail
  refine (HN0.out _).mono ?_
  rintro e w1 ⟨B, rfl, h1⟩
  clear HN0
  have H1 := hid h1
  clear h1
  go_wp2_with fail
  refine (H1.out.startBy CK.out.good0 CK.out.start0).mono ?_
  rintro e w2 ⟨p2, c2, rfl, h2⟩
  have H2 := hid h2
  clear h2 H1
  go_wp2_with fail
  refine (H2.out.tickBy (CK.out.good (by decide) (by decide)) (tick_lt (by decide))).mono ?_
  rintro e w3 ⟨p3, c3, rfl, h3⟩
  have H3 := hid h3
  clear h3 H2
  go_wp2_with fail
  refine (H3.out.tickBy (CK.out.good (by decide) (by decide)) (tick_more (by decide) (by decide))).mono ?_
  rintro e w4 ⟨p4, c4, rfl, h4⟩
  have H4 := hid (h4.sub (us := [(.slice p4 1 c4, [fA]), (.slice p3 0 c3, []), (.slice p2 1 c2, [fA])]) (fun p hp => hp))
  clear h4 H3
  go_wp2_with fail
  refine wp_loop_rounds 5 ?_
  rw [rounds_succ]
  go_wp2_with fail
  refine (H4.out.tickBy (CK.out.good (by decide) (by decide)) (tick_lt (by decide))).mono ?_
  rintro e w5 ⟨p5, c5, rfl, h5⟩
  have H5 := hid (h5.sub (us := [(.slice p4 1 c4, [fA]), (.slice p3 0 c3, []), (.slice p2 1 c2, [fA])]) (fun p hp => by simp only [List.mem_cons, List.not_mem_nil, or_false] at hp ⊢; right; exact hp))
  clear h5 H4
  go_wp2_with fail
  rw [rounds_succ]
  go_wp2_with fail
  refine (H5.out.tickBy (CK.out.good (by decide) (by decide)) (tick_lt (by decide))).mono ?_
  rintro e w6 ⟨p6, c6, rfl, h6⟩
  have H6 := hid (h6.sub (us := [(.slice p4 1 c4, [fA]), (.slice p3 0 c3, []), (.slice p2 1 c2, [fA])]) (fun p hp => by simp only [List.mem_cons, List.not_mem_nil, or_false] at hp ⊢; right; exact hp))
  clear h6 H5
  go_wp2_with fail
  rw [rounds_succ]
  go_wp2_with fail
  refine (H6.out.tickBy (CK.out.good (by decide) (by decide)) (tick_lt (by decide))).mono ?_
  rintro e w7 ⟨p7, c7, rfl, h7⟩
  have H7 := hid (h7.sub (us := [(.slice p4 1 c4, [fA]), (.slice p3 0 c3, []), (.slice p2 1 c2, [fA])]) (fun p hp => by simp only [List.mem_cons, List.not_mem_nil, or_false] at hp ⊢; right; exact hp))
  clear h7 H6
  go_wp2_with fail
  rw [rounds_succ]
  go_wp2_with fail
  refine (H7.out.tickBy (CK.out.good (by decide) (by decide)) (tick_last (by decide) (by decide))).mono ?_
  rintro e w8 ⟨p8, c8, rfl, h8⟩
  have H8 := hid (h8.sub (us := [(.slice p4 1 c4, [fA]), (.slice p3 0 c3, []), (.slice p2 1 c2, [fA])]) (fun p hp => by simp only [List.mem_cons, List.not_mem_nil, or_false] at hp ⊢; right; exact hp))
  clear h8 H7
  go_wp2_with fail
  rw [rounds_succ]
  go_wp2_with fail
  refine (H8.out.stateBy CK.out.goodF rfl (st := 4) (ss := 0) rfl rfl).mono ?_
  rintro e w9 ⟨rfl, h9⟩
  obtain ⟨w10, hw10⟩ : ∃ w10, w10 = w9.alloc (.cells #[.int .u8 0, .int .u8 0, .int .u8 0, .int .u8 0, .int .u8 0, .int .u8 0] 23) := ⟨_, rfl⟩
  have Hw := hid hw10
  have h10 : HSt w w10 B (hfail m1 eB uB 1 2) [(.slice p4 1 c4, [fA]), (.slice p3 0 c3, []), (.slice p2 1 c2, [fA])] := by rw [hw10]; exact h9.still ((Kept.refl _ w9).alloc _)
  have HK := hid h10.kept
  obtain ⟨g4, cap4, e4, l4, y4⟩ := (h10.own (v := .slice p4 1 c4) (l := [fA]) (by simp)).first
  obtain ⟨g2, cap2, e2, l2, y2⟩ := (h10.own (v := .slice p2 1 c2) (l := [fA]) (by simp)).first
  simp only [Value.slice.injEq, true_and] at e4 e2
  obtain ⟨rfl, rfl⟩ := e4
  obtain ⟨rfl, rfl⟩ := e2
  rw [fA_cells] at y4 y2
  clear hw10 h9 h10 H8 CK
  have s4_0 : ∀ W, IsW w10.drew W → W.cell? ⟨g4, 0, none⟩ = some (.int .u8 255) := fun W h => by rw [show W = w10.drew from h]; exact y4 0 _ (by decide) rfl
  have s4_1 : ∀ W, IsW w10.drew W → W.cell? ⟨g4, 1, none⟩ = some (.int .u8 255) := fun W h => by rw [show W = w10.drew from h]; exact y4 1 _ (by decide) rfl
  have s4_2 : ∀ W, IsW w10.drew W → W.cell? ⟨g4, 2, none⟩ = some (.int .u8 255) := fun W h => by rw [show W = w10.drew from h]; exact y4 2 _ (by decide) rfl
  have s4_3 : ∀ W, IsW w10.drew W → W.cell? ⟨g4, 3, none⟩ = some (.int .u8 255) := fun W h => by rw [show W = w10.drew from h]; exact y4 3 _ (by decide) rfl
  have s4_4 : ∀ W, IsW w10.drew W → W.cell? ⟨g4, 4, none⟩ = some (.int .u8 255) := fun W h => by rw [show W = w10.drew from h]; exact y4 4 _ (by decide) rfl
  have s4_5 : ∀ W, IsW w10.drew W → W.cell? ⟨g4, 5, none⟩ = some (.int .u8 255) := fun W h => by rw [show W = w10.drew from h]; exact y4 5 _ (by decide) rfl
  have s4_6 : ∀ W, IsW w10.drew W → W.cell? ⟨g4, 6, none⟩ = some (.int .u8 1) := fun W h => by rw [show W = w10.drew from h]; exact y4 6 _ (by decide) rfl
  have s4_7 : ∀ W, IsW w10.drew W → W.cell? ⟨g4, 7, none⟩ = some (.int .u8 0) := fun W h => by rw [show W = w10.drew from h]; exact y4 7 _ (by decide) rfl
  have s4_8 : ∀ W, IsW w10.drew W → W.cell? ⟨g4, 8, none⟩ = some (.int .u8 0) := fun W h => by rw [show W = w10.drew from h]; exact y4 8 _ (by decide) rfl
  have s4_9 : ∀ W, IsW w10.drew W → W.cell? ⟨g4, 9, none⟩ = some (.int .u8 0) := fun W h => by rw [show W = w10.drew from h]; exact y4 9 _ (by decide) rfl
  have s4_10 : ∀ W, IsW w10.drew W → W.cell? ⟨g4, 10, none⟩ = some (.int .u8 0) := fun W h => by rw [show W = w10.drew from h]; exact y4 10 _ (by decide) rfl
  have s4_11 : ∀ W, IsW w10.drew W → W.cell? ⟨g4, 11, none⟩ = some (.int .u8 0) := fun W h => by rw [show W = w10.drew from h]; exact y4 11 _ (by decide) rfl
  have s4_12 : ∀ W, IsW w10.drew W → W.cell? ⟨g4, 12, none⟩ = some (.int .i64 34915) := fun W h => by rw [show W = w10.drew from h]; exact y4 12 _ (by decide) rfl
  have s4_13 : ∀ W, IsW w10.drew W → W.cell? ⟨g4, 13, none⟩ = some (.string ⟨#[17, 9, 0, 0, 0, 9, 1, 1, 0, 0, 1, 3, 0, 1, 117]⟩) := fun W h => by rw [show W = w10.drew from h]; exact y4 13 _ (by decide) rfl
  have s2_0 : ∀ W, IsW w10.drew W → W.cell? ⟨g2, 0, none⟩ = some (.int .u8 255) := fun W h => by rw [show W = w10.drew from h]; exact y2 0 _ (by decide) rfl
  have s2_1 : ∀ W, IsW w10.drew W → W.cell? ⟨g2, 1, none⟩ = some (.int .u8 255) := fun W h => by rw [show W = w10.drew from h]; exact y2 1 _ (by decide) rfl
  have s2_2 : ∀ W, IsW w10.drew W → W.cell? ⟨g2, 2, none⟩ = some (.int .u8 255) := fun W h => by rw [show W = w10.drew from h]; exact y2 2 _ (by decide) rfl
  have s2_3 : ∀ W, IsW w10.drew W → W.cell? ⟨g2, 3, none⟩ = some (.int .u8 255) := fun W h => by rw [show W = w10.drew from h]; exact y2 3 _ (by decide) rfl
  have s2_4 : ∀ W, IsW w10.drew W → W.cell? ⟨g2, 4, none⟩ = some (.int .u8 255) := fun W h => by rw [show W = w10.drew from h]; exact y2 4 _ (by decide) rfl
  have s2_5 : ∀ W, IsW w10.drew W → W.cell? ⟨g2, 5, none⟩ = some (.int .u8 255) := fun W h => by rw [show W = w10.drew from h]; exact y2 5 _ (by decide) rfl
  have s2_6 : ∀ W, IsW w10.drew W → W.cell? ⟨g2, 6, none⟩ = some (.int .u8 1) := fun W h => by rw [show W = w10.drew from h]; exact y2 6 _ (by decide) rfl
  have s2_7 : ∀ W, IsW w10.drew W → W.cell? ⟨g2, 7, none⟩ = some (.int .u8 0) := fun W h => by rw [show W = w10.drew from h]; exact y2 7 _ (by decide) rfl
  have s2_8 : ∀ W, IsW w10.drew W → W.cell? ⟨g2, 8, none⟩ = some (.int .u8 0) := fun W h => by rw [show W = w10.drew from h]; exact y2 8 _ (by decide) rfl
  have s2_9 : ∀ W, IsW w10.drew W → W.cell? ⟨g2, 9, none⟩ = some (.int .u8 0) := fun W h => by rw [show W = w10.drew from h]; exact y2 9 _ (by decide) rfl
  have s2_10 : ∀ W, IsW w10.drew W → W.cell? ⟨g2, 10, none⟩ = some (.int .u8 0) := fun W h => by rw [show W = w10.drew from h]; exact y2 10 _ (by decide) rfl
  have s2_11 : ∀ W, IsW w10.drew W → W.cell? ⟨g2, 11, none⟩ = some (.int .u8 0) := fun W h => by rw [show W = w10.drew from h]; exact y2 11 _ (by decide) rfl
  have s2_12 : ∀ W, IsW w10.drew W → W.cell? ⟨g2, 12, none⟩ = some (.int .i64 34915) := fun W h => by rw [show W = w10.drew from h]; exact y2 12 _ (by decide) rfl
  have s2_13 : ∀ W, IsW w10.drew W → W.cell? ⟨g2, 13, none⟩ = some (.string ⟨#[17, 9, 0, 0, 0, 9, 1, 1, 0, 0, 1, 3, 0, 1, 117]⟩) := fun W h => by rw [show W = w10.drew from h]; exact y2 13 _ (by decide) rfl
  clear y4 y2
  go_wp2_with fail
  rw [← Hw.out]
  refine wp_region_held_drew (S := IsW w10.drew) (by kernel_rfl) (rfl) (fun hSd => ?_)
  refine Tks.out (l := [(0, some none), (1, some none)]) ?_
  iterate 2
   refine tkT (v := ?_) rfl (by kernel_rfl) (by kernel_rfl) (by kernel_rfl) (fun _ _ _ h => h) (Or.inl ⟨by kernel_rfl, fun W hSW => by go_simp; try with_reducible rfl⟩) (by assumption) ?_
   try simp only [List.getElem_toArray, List.getElem_cons_succ, List.getElem_cons_zero]
   try go_frame
  refine tkE ?_
  refine Tks.out (l := [(2, some (some (.bool true))), (3, some (some (.bool true)))]) ?_
  iterate 2
   refine tkV rfl (by kernel_rfl) (by kernel_rfl) (by kernel_rfl) (fun _ _ _ h => h) (Or.inl ⟨by kernel_rfl, fun W hSW => by go_simp; try with_reducible rfl⟩) (by assumption) ?_
   try simp only [List.getElem_toArray, List.getElem_cons_succ, List.getElem_cons_zero]
   try go_frame
  refine tkE ?_
  refine Tks.out (l := [(4, some none), (5, some none)]) ?_
  iterate 2
   refine tkT (v := ?_) rfl (by kernel_rfl) (by kernel_rfl) (by kernel_rfl) (fun _ _ _ h => h) (Or.inl ⟨by kernel_rfl, fun W hSW => by go_simp; try with_reducible rfl⟩) (by assumption) ?_
   try simp only [List.getElem_toArray, List.getElem_cons_succ, List.getElem_cons_zero]
   try go_frame
  refine tkE ?_
  refine Tks.out (l := [(6, some (some (.bool true))), (7, some (some (.bool true))), (8, some (some (.bool true)))]) ?_
  iterate 3
   refine tkV rfl (by kernel_rfl) (by kernel_rfl) (by kernel_rfl) (fun _ _ _ h => h) (Or.inl ⟨by kernel_rfl, fun W hSW => by go_simp; try with_reducible rfl⟩) (by assumption) ?_
   try simp only [List.getElem_toArray, List.getElem_cons_succ, List.getElem_cons_zero]
   try go_frame
  refine tkE ?_
  refine Tks.out (l := [(9, some none), (10, some none)]) ?_
  iterate 2
   refine tkT (v := ?_) rfl (by kernel_rfl) (by kernel_rfl) (by kernel_rfl) (fun _ _ _ h => h) (Or.inl ⟨by kernel_rfl, fun W hSW => by go_simp; try with_reducible rfl⟩) (by assumption) ?_
   try simp only [List.getElem_toArray, List.getElem_cons_succ, List.getElem_cons_zero]
   try go_frame
  refine tkE ?_
  refine Tks.out (l := [(11, some (some (.bool true))), (12, some (some (.bool true))), (13, some (some (.bool true)))]) ?_
  iterate 3
   refine tkV rfl (by kernel_rfl) (by kernel_rfl) (by kernel_rfl) (fun _ _ _ h => h) (Or.inl ⟨by kernel_rfl, fun W hSW => by go_simp; try with_reducible rfl⟩) (by assumption) ?_
   try simp only [List.getElem_toArray, List.getElem_cons_succ, List.getElem_cons_zero]
   try go_frame
  refine tkE ?_
  refine Tks.out (l := [(14, some none), (15, some none), (16, some none), (17, some none), (18, some none), (19, some none)]) ?_
  iterate 6
   refine tkT (v := ?_) rfl (by kernel_rfl) (by kernel_rfl) (by kernel_rfl) (fun _ _ _ h => h) (Or.inl ⟨by kernel_rfl, fun W hSW => by go_simp; try with_reducible rfl⟩) (by assumption) ?_
   try simp only [List.getElem_toArray, List.getElem_cons_succ, List.getElem_cons_zero]
   try go_frame
  refine tkE ?_
  refine Tks.out (l := [(20, some (some (.bool true))), (21, some (some (.bool true))), (22, some (some (.bool true)))]) ?_
  iterate 3
   refine tkV rfl (by kernel_rfl) (by kernel_rfl) (by kernel_rfl) (fun _ _ _ h => h) (Or.inl ⟨by kernel_rfl, fun W hSW => by go_simp; try with_reducible rfl⟩) (by assumption) ?_
   try simp only [List.getElem_toArray, List.getElem_cons_succ, List.getElem_cons_zero]
   try go_frame
  refine tkE ?_
  refine Tks.out (l := [(23, some none), (24, some none), (25, some none), (26, some none), (27, some none)]) ?_
  iterate 5
   refine tkT (v := ?_) rfl (by kernel_rfl) (by kernel_rfl) (by kernel_rfl) (fun _ _ _ h => h) (Or.inl ⟨by kernel_rfl, fun W hSW => by go_simp; try with_reducible rfl⟩) (by assumption) ?_
   try simp only [List.getElem_toArray, List.getElem_cons_succ, List.getElem_cons_zero]
   try go_frame
  refine tkE ?_
  refine Tks.out (l := [(28, some (some (.bool true))), (29, some (some (.bool true))), (30, some (some (.bool true)))]) ?_
  iterate 3
   refine tkV rfl (by kernel_rfl) (by kernel_rfl) (by kernel_rfl) (fun _ _ _ h => h) (Or.inl ⟨by kernel_rfl, fun W hSW => by go_simp; try with_reducible rfl⟩) (by assumption) ?_
   try simp only [List.getElem_toArray, List.getElem_cons_succ, List.getElem_cons_zero]
   try go_frame
  refine tkE ?_
  refine wpAnyH_take (i := 31) (v := ?_) rfl (by kernel_rfl) (by kernel_rfl) (by kernel_rfl) (fun _ _ _ h => h) (Or.inl ⟨by kernel_rfl, fun W hSW => by go_simp; try with_reducible rfl⟩) (by assumption) ?_
  try simp only [List.getElem_toArray, List.getElem_cons_succ, List.getElem_cons_zero]
  try go_frame
  refine Tks.out (l := [(32, some (some (.bool true))), (33, some (some (.bool true)))]) ?_
  iterate 2
   refine tkV rfl (by kernel_rfl) (by kernel_rfl) (by kernel_rfl) (fun _ _ _ h => h) (Or.inl ⟨by kernel_rfl, fun W hSW => by go_simp; try with_reducible rfl⟩) (by assumption) ?_
   try simp only [List.getElem_toArray, List.getElem_cons_succ, List.getElem_cons_zero]
   try go_frame
  refine tkE ?_
  refine wpAnyH_take (i := 34) (v := ?_) rfl (by kernel_rfl) (by kernel_rfl) (by kernel_rfl) (fun _ _ _ h => h) (Or.inl ⟨by kernel_rfl, fun W hSW => by go_simp; try with_reducible rfl⟩) (by assumption) ?_
  try simp only [List.getElem_toArray, List.getElem_cons_succ, List.getElem_cons_zero]
  try go_frame
  refine wpAnyH_done (by kernel_rfl) ?_ _
  go_wp2
  go_ret
  exact ⟨rfl, HK.out.drew⟩
end Go.Proofs.YtffnppfoofifgaaGreat
