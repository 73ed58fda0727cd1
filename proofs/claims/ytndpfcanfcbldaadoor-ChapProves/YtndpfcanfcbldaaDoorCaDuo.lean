/- A server and a client of chap beside each other, and the steps by which a proof goes from the one to the other. -/
import Derived.Test.YtndpfcanfcbldaaDoorCaTake
import Derived.Test.YtndpfcanfcbldaaDoorCaCli
namespace Go.Proofs.YtndpfcanfcbldaaDoor
open Go.RowKit

theorem psNew_ok (n : ByteArray) (hn : n.size ≤ 60) (retry wait : Int) (hr : 0 ≤ retry ∧ retry ≤ 10) (hw : 1 ≤ wait ∧ wait ≤ 100) (w : World) :
    Calls Tryd.prog 12 #[.string n, .int .i64 retry, .int .i64 wait] w fun e w' => ∃ b, w.heap.size ≤ b ∧ e = .returned (.tuple #[.pointer (some ⟨b, 0, none⟩), .int .i64 0]) ∧ PsIn w' b (newP n retry wait) ∧ Kept (fun _ => False) w w' := by
  refine (psNew_any n (by omega) retry wait w).mono ?_
  rintro e w' ⟨h, hk⟩
  rcases h with ⟨h1, _⟩ | ⟨_, h1, _⟩ | ⟨_, _, rfl, hc⟩
  · omega
  · omega
  · exact ⟨_, Nat.le_refl _, rfl, hc, hk⟩
theorem lcNew_ok (n s : ByteArray) (hn : n.size ≤ 60) (hs : s.size ≤ 60) (w : World) :
    Calls Tryd.prog 13 #[.string n, .string s] w fun e w' => ∃ b, w.heap.size ≤ b ∧ e = .returned (.tuple #[.pointer (some ⟨b, 0, none⟩), .int .i64 0]) ∧ LcIn w' b (newCr n s) ∧ Kept (fun _ => False) w w' := by
  refine (lcNew_any n s (by omega) (by omega) w).mono ?_
  rintro e w' ⟨h, hk⟩
  rcases h with ⟨h1, _⟩ | ⟨_, rfl, hc⟩
  · omega
  · exact ⟨_, Nat.le_refl _, rfl, hc, hk⟩

/-- The two, in blocks of the law's own. -/
structure Duo (w W : World) (bs bc : Nat) (s : Ps) (c : Cr) : Prop where
  sv : PsIn W bs s
  cl : LcIn W bc c
  ls : w.heap.size ≤ bs
  lc : w.heap.size ≤ bc
  bel : Below w.heap.size w W

section
variable {w W W' : World} {bs bc : Nat} {s s' : Ps} {c c' : Cr}
theorem Duo.ne (h : Duo w W bs bc s c) : bs ≠ bc := fun e => by
  have h1 := h.sv
  have h2 := h.cl
  unfold PsIn at h1
  unfold LcIn at h2
  rw [e, h2] at h1
  simp at h1
theorem Duo.kept0 (h : Duo w W bs bc s c) (hk : Kept (fun _ => False) W W') : Duo w W' bs bc s c := ⟨h.sv.kept0 hk, h.cl.kept0 hk, h.ls, h.lc, h.bel.trans (hk.below h.bel.size (fun _ h => h.elim))⟩
theorem Duo.byS (h : Duo w W bs bc s c) (hs : PsIn W' bs s') (hk : Kept (fun i => i = bs) W W') : Duo w W' bs bc s' c := ⟨hs, h.cl.kept hk h.ne.symm, h.ls, h.lc, h.bel.trans (hk.below h.bel.size (fun i hi => by have := h.ls; omega))⟩
theorem Duo.byC (h : Duo w W bs bc s c) (hc : LcIn W' bc c') (hk : Kept (fun i => i = bc) W W') : Duo w W' bs bc s c' := ⟨h.sv.kept hk h.ne, hc, h.ls, h.lc, h.bel.trans (hk.below h.bel.size (fun i hi => by have := h.lc; omega))⟩
theorem Duo.tab (h : Duo w W bs bc s c) (hT : Tables w) : TabB bc W := TabB.mk hT h.bel h.lc
theorem Duo.ownS {v : Value} {base : Nat} {l : List Pq} (h : Duo w W bs bc s c) (ho : OwnQ W base v l) (hk : Kept (fun i => i = bs) W W') : OwnQ W' base v l := ho.keptS hk (fun _ hi => h.sv.ne ho hi)
theorem Duo.ownC {v : Value} {base : Nat} {l : List Pq} (h : Duo w W bs bc s c) (ho : OwnQ W base v l) (hk : Kept (fun i => i = bc) W W') : OwnQ W' base v l := ho.keptS hk (fun _ hi => h.cl.ne ho hi)
end

/-! The way of a proof, as plain data: n, s: the client's name and secret; v: the value that is asked; srv, r, k: the server's. -/
def sv1 (srv v : ByteArray) (r k : Int) : Ps := ⟨srv, r, k, v, 1, 1, 0, 0⟩
def sv2 (srv v : ByteArray) (r k : Int) : Ps := ⟨srv, r, k, v, 1, 2, 0, 0⟩
def sv3 (srv v : ByteArray) (r k : Int) (good : Bool) : Ps := ⟨srv, r, k, v, 1, if good then 4 else 5, 0, 0⟩
def cl1 (n s : ByteArray) : Cr := ⟨n, s, false, false, true, 1⟩
def cl2 (n s : ByteArray) (good : Bool) : Cr := ⟨n, s, true, good, true, 1⟩
def codeOf (good : Bool) : Int := if good then 3 else 4

section
variable {srv v n s : ByteArray} {r k : Int} {good : Bool}
theorem way0 (h1 : 1 ≤ v.size) (h2 : v.size ≤ 60) (hk : k ≠ 0) : startP (newP srv r k) v = ([⟨1, 1, layF v ++ srv⟩], sv1 srv v r k) := by
  unfold startP
  rw [if_neg (by simp only [newP]; omega)]
  rfl
theorem way1 (h1 : 1 ≤ v.size) (h2 : v.size ≤ 60) (hs : srv.size ≤ 60) : takeCr chapK (newCr n s) 1 1 (layF v ++ srv) = ([⟨2, 1, layF (chapK 1 s v) ++ n⟩], cl1 n s) := by
  unfold takeCr
  rw [if_pos rfl, getValF_put v srv h1 h2 hs, if_pos rfl]
  rfl
theorem way2 (hn : n.size ≤ 60) : takeP (sv1 srv v r k) 2 1 (layF (chapK 1 s v) ++ n) = (⟨n, v, chapK 1 s v, 1⟩, true, sv2 srv v r k) := by
  have hz := chapK_size 1 s v
  unfold takeP
  rw [getValF_put (chapK 1 s v) n (by omega) (by omega) hn, if_pos ⟨rfl, rfl, rfl, rfl⟩]
  rfl
theorem way3 : judgeP (sv2 srv v r k) good = ([⟨codeOf good, 1, ⟨#[]⟩⟩], sv3 srv v r k good) := by cases good <;> rfl
theorem way4 : takeCr chapK (cl1 n s) (codeOf good) 1 ⟨#[]⟩ = ([], cl2 n s good) := by cases good <;> rfl
theorem way5 : againP (sv3 srv v r k good) 2 1 = [⟨codeOf good, 1, ⟨#[]⟩⟩] := by cases good <;> rfl
theorem way6 (d : ByteArray) : takeP (sv3 srv v r k good) 2 1 d = (noCm, false, sv3 srv v r k good) := by
  unfold takeP
  rw [if_neg (fun h => by have := h.1; cases good <;> simp [sv3] at this)]
theorem way7 (g : Bool) : judgeP (sv3 srv v r k good) g = ([], sv3 srv v r k good) := by cases good <;> rfl
end

/-! The steps. -/
section
variable {w W : World} {bs bc : Nat} {srv v n s : ByteArray} {r k : Int} {good : Bool} {c : Cr} {p : Ps}
/-- A list of one packet of the law's own. -/
def One (w W : World) (g cap : Nat) (q : Pq) : Prop := OwnQ W w.heap.size (.slice (some ⟨g, 0, none⟩) 1 cap) [q]
theorem one_of {w W : World} {base : Nat} {u : Value} {q : Pq} (h : OwnQ W base u [q]) (hb : w.heap.size ≤ base) : ∃ g cap, u = .slice (some ⟨g, 0, none⟩) 1 cap ∧ 1 ≤ cap ∧ cap ≤ maxLen ∧ One w W g cap q := by
  obtain ⟨g, cap, rfl, h1, h2, _, _⟩ := h.one
  exact ⟨g, cap, rfl, h1, h2, h.mono hb⟩
theorem One.box {w W : World} {g cap : Nat} {q : Pq} (h : One w W g cap q) : Box4 W g (.int .i64 q.code) (.int .i64 q.id) (.slice none 0 0) (.string q.data) := by
  obtain ⟨g', cap', e, _, _, _, bx⟩ := OwnQ.one h
  cases e
  exact bx

theorem duo_start (h : Duo w W bs bc (newP srv r k) c) (hs : srv.size ≤ 60) (h1 : 1 ≤ v.size) (h2 : v.size ≤ 60) (hk : 1 ≤ k) :
    Calls Tryd.prog 14 #[.pointer (some ⟨bs, 0, none⟩), .string v] W fun e w' => ∃ g cap, e = .returned (.slice (some ⟨g, 0, none⟩) 1 cap) ∧ 1 ≤ cap ∧ cap ≤ maxLen ∧ Hid (Duo w w' bs bc (sv1 srv v r k) c ∧ One w w' g cap ⟨1, 1, layF v ++ srv⟩) := by
  refine (psStart_any bs (newP srv r k) hs ⟨Int.le_refl _, (by decide : (0 : Int) ≤ 255)⟩ v (by omega) W h.sv).mono ?_
  rintro e w' ⟨u, rfl, hc, ho, hk'⟩
  rw [way0 h1 h2 (by omega)] at hc ho
  obtain ⟨g, cap, rfl, a1, a2, a3⟩ := one_of (w := w) ho h.bel.size
  exact ⟨g, cap, rfl, a1, a2, h.byS hc hk', a3⟩
theorem duo_answer (hT : Tables w) (h : Duo w W bs bc p (newCr n s)) (hn : n.size ≤ 60) (hs : s.size ≤ 60) (hsv : srv.size ≤ 60) (h1 : 1 ≤ v.size) (h2 : v.size ≤ 60) :
    Calls Tryd.prog 15 #[.pointer (some ⟨bc, 0, none⟩), .agg #[.int .i64 1, .int .i64 1, .slice none 0 0, .string (layF v ++ srv)]] W fun e w' => ∃ g cap, e = .returned (.slice (some ⟨g, 0, none⟩) 1 cap) ∧ 1 ≤ cap ∧ cap ≤ maxLen ∧ Hid (Duo w w' bs bc p (cl1 n s) ∧ One w w' g cap ⟨2, 1, layF (chapK 1 s v) ++ n⟩ ∧ Kept (fun i => i = bc) W w') := by
  refine (lcTake_any bc (newCr n s) hn hs 1 1 none 0 0 (layF v ++ srv) (by rw [ByteArray.size_append, layF_size]; omega) W (h.tab hT) h.cl).mono ?_
  rintro e w' ⟨u, rfl, hc, ho, hk'⟩
  rw [way1 h1 h2 hsv] at hc ho
  obtain ⟨g, cap, rfl, a1, a2, a3⟩ := one_of (w := w) ho h.bel.size
  exact ⟨g, cap, rfl, a1, a2, h.byC hc hk', a3, hk'⟩
theorem duo_claim (h : Duo w W bs bc (sv1 srv v r k) c) (hn : n.size ≤ 60) :
    Calls Tryd.prog 16 #[.pointer (some ⟨bs, 0, none⟩), .agg #[.int .i64 2, .int .i64 1, .slice none 0 0, .string (layF (chapK 1 s v) ++ n)]] W fun e w' => e = .returned (.tuple #[.agg #[.string n, .string v, .string (chapK 1 s v), .int .i64 1], .bool true]) ∧ Hid (Duo w w' bs bc (sv2 srv v r k) c ∧ Kept (fun i => i = bs) W w') := by
  have hz := chapK_size 1 s v
  refine (psTake_any bs (sv1 srv v r k) 2 1 none 0 0 (layF (chapK 1 s v) ++ n) (by rw [ByteArray.size_append, layF_size]; omega) W h.sv).mono ?_
  rintro e w' ⟨rfl, hc, hk'⟩
  rw [way2 hn] at hc ⊢
  exact ⟨rfl, h.byS hc hk', hk'⟩
theorem duo_judge (h : Duo w W bs bc (sv2 srv v r k) c) :
    Calls Tryd.prog 20 #[.pointer (some ⟨bs, 0, none⟩), .bool good] W fun e w' => ∃ g cap, e = .returned (.slice (some ⟨g, 0, none⟩) 1 cap) ∧ 1 ≤ cap ∧ cap ≤ maxLen ∧ Hid (Duo w w' bs bc (sv3 srv v r k good) c ∧ One w w' g cap ⟨codeOf good, 1, ⟨#[]⟩⟩ ∧ Kept (fun i => i = bs) W w') := by
  refine (psJudge_any bs (sv2 srv v r k) good W h.sv).mono ?_
  rintro e w' ⟨u, rfl, hc, ho, hk'⟩
  rw [way3] at hc ho
  obtain ⟨g, cap, rfl, a1, a2, a3⟩ := one_of (w := w) ho h.bel.size
  exact ⟨g, cap, rfl, a1, a2, h.byS hc hk', a3, hk'⟩
theorem duo_told (hT : Tables w) (h : Duo w W bs bc p (cl1 n s)) (hn : n.size ≤ 60) (hs : s.size ≤ 60) :
    Calls Tryd.prog 15 #[.pointer (some ⟨bc, 0, none⟩), .agg #[.int .i64 (codeOf good), .int .i64 1, .slice none 0 0, .string ⟨#[]⟩]] W fun e w' => ∃ q cap, e = .returned (.slice q 0 cap) ∧ Hid (Duo w w' bs bc p (cl2 n s good) ∧ Kept (fun i => i = bc) W w') := by
  refine (lcTake_any bc (cl1 n s) hn hs (codeOf good) 1 none 0 0 ⟨#[]⟩ (by decide) W (h.tab hT) h.cl).mono ?_
  rintro e w' ⟨u, rfl, hc, ho, hk'⟩
  rw [way4] at hc ho
  obtain ⟨q, cap, hq⟩ := slice_of ho
  exact ⟨q, cap, by rw [hq]; rfl, h.byC hc hk', hk'⟩
end
end Go.Proofs.YtndpfcanfcbldaaDoor
