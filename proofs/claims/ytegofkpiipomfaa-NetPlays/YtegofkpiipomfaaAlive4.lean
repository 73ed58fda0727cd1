/- Nets of a law's own; and the laws' alive returns true. -/
import Derived.Test.YtegofkpiipomfaaTwice
namespace Go.Proofs.Ytegofkpiipomfaa
open Go.RowKit

/-- A net that was made behind w, and nothing of w has turned. -/
def Mine (w W : World) (b : Nat) (s : NetSt) : Prop := Next (fun _ => False) w W b s

section
variable {w W W' : World} {b : Nat} {s s' : NetSt}

theorem Mine.call {f : FuncId} {args : Array Value} {r : Ending} (h : Mine w W b s) (hc : ∀ S1, NetAt S1 W b s → Calls Try.prog f args W fun e w' => e = r ∧ Next S1 W w' b s') :
    Calls Try.prog f args W fun e w' => e = r ∧ Mine w w' b s' := by
  obtain ⟨S1, h1, h2, h3⟩ := h
  refine (hc S1 h1).mono ?_
  rintro e w' ⟨rfl, hn⟩
  exact ⟨rfl, hn.andThen h2 h3⟩

theorem Mine.call0 {f : FuncId} {args : Array Value} {r : Ending} (h : Mine w W b s) (hc : ∀ S1, NetAt S1 W b s → Calls Try.prog f args W fun e w' => e = r ∧ Kept (fun _ => False) W w') :
    Calls Try.prog f args W fun e w' => e = r ∧ Mine w w' b s := by
  obtain ⟨S1, h1, h2, h3⟩ := h
  refine (hc S1 h1).mono ?_
  rintro e w' ⟨rfl, hk⟩
  exact ⟨rfl, S1, h1.kept0 hk, h2, h3.trans hk⟩

theorem Mine.callS {f : FuncId} {args : Array Value} {r : Ending} (h : Mine w W b s) (hc : ∀ S1, NetAt S1 W b s → Calls Try.prog f args W fun e w' => e = r ∧ w' = W) :
    Calls Try.prog f args W fun e w' => e = r ∧ w' = W := by
  obtain ⟨S1, h1, h2, h3⟩ := h
  exact hc S1 h1

theorem Mine.kept (h : Mine w W b s) : Kept (fun _ => False) w W := by
  obtain ⟨_, _, _, h3⟩ := h
  exact h3

theorem Mine.still (h : Mine w W b s) (hk : Kept (fun _ => False) W W') : Mine w W' b s := Next.still0 h hk

/-- Blocks of the law's own, no net's, may turn. -/
theorem Mine.lt (h : Mine w W b s) : w.heap.size ≤ b ∧ b < W.heap.size := by
  obtain ⟨S1, ⟨gv, tm, cm, h1, hS⟩, h2, h3⟩ := h
  have hb := (hS b).2 (Or.inl rfl)
  exact ⟨(h2 b hb).elim False.elim id, h1.lt (Or.inl rfl)⟩

theorem mine_new (w : World) : Mine w (w.alloc (.cells #[.slice none 0 0, .map none, .map none] 35)) w.heap.size s0 :=
  ⟨_, new_at w, fun _ hi => Or.inr (Nat.le_of_eq hi.symm), (Kept.refl _ w).alloc _⟩

end

def aB : ByteArray := ⟨#[97]⟩
def bB : ByteArray := ⟨#[98]⟩
def s12 : NetSt := ⟨[⟨1, 2, ⟨#[97]⟩, 1⟩, ⟨1, 2, ⟨#[98]⟩, 2⟩], [⟨1, 2, 2, 0⟩], []⟩
theorem s1_is : sendS s0 1 2 aB = ⟨[⟨1, 2, ⟨#[97]⟩, 1⟩], [⟨1, 2, 1, 0⟩], []⟩ := by rfl
theorem s12_is : sendS (sendS s0 1 2 aB) 1 2 bB = s12 := by rw [s1_is]; rfl

theorem in1 : In64 1 := by unfold In64; omega
theorem in2 : In64 2 := by unfold In64; omega

set_option maxHeartbeats 1000000 in
set_option maxRecDepth 100000 in
theorem alive_any (w : World) : Calls Try.prog 4 #[] w fun e w' => e = .returned (.bool true) ∧ Kept (fun _ => False) w w' := by
  have hG1 : Good (sendS s0 1 2 aB) := good0.send in1 in2 aB
  have hG2 : Good s12 := s12_is ▸ hG1.send in1 in2 bB
  have C1 := hid (fun W b (h : Mine w W b s0) => h.call (fun S1 h => send_in (k := 1) (i := 2) (x := aB) h good0 (by decide) in1 in2 (by decide)))
  have C2 := hid (fun W b (h : Mine w W b (sendS s0 1 2 aB)) => h.call (fun S1 h => send_in (k := 1) (i := 2) (x := bB) h hG1 (by rw [s1_is]; decide) in1 in2 (by decide)))
  rw [s12_is] at C2
  have C3 := hid (fun W b (h : Mine w W b s12) => h.call (fun S1 h => twice_ok h 0 (by decide) (by decide)))
  have C4 := hid (fun W b (h : Mine w W b (twiceS s12 0)) => h.call (fun S1 h => deliver_ok h 2 (by decide)))
  have C5 := hid (fun W b (h : Mine w W b { twiceS s12 0 with grams := (twiceS s12 0).grams.eraseIdx 2 }) => h.callS (fun S1 h => len_any h))
  have C6 := hid (fun W b (h : Mine w W b { twiceS s12 0 with grams := (twiceS s12 0).grams.eraseIdx 2 }) => h.call0 (fun S1 h => sent_any h in1 in2))
  have e4 : ansV (getG (twiceS s12 0).grams 2) 0 = .tuple #[.agg #[.int .i64 1, .int .i64 2, .string ⟨#[98]⟩], .int .i64 0] := by rfl
  have e5 : (((twiceS s12 0).grams.eraseIdx 2).length : Int) = 2 := by rfl
  have e6 : sentS { twiceS s12 0 with grams := (twiceS s12 0).grams.eraseIdx 2 } 1 2 = 2 := by rfl
  rw [e4] at C4
  simp only [e5] at C5
  rw [e6] at C6
  have Hm := hid (mine_new w)
  have hnw := w.heap.size
  clear hG1 hG2 e4 e5 e6
  generalize ({ twiceS s12 0 with grams := (twiceS s12 0).grams.eraseIdx 2 } : NetSt) = t4 at *
  generalize twiceS s12 0 = t3 at *
  generalize s12 = t2 at *
  generalize sendS s0 1 2 aB = t1 at *
  unfold keyV at C6
  unfold aB at C1
  unfold bB at C2
  go_enter Try.func4, Try.ntmps4
  go_wp2_with (first
    | (go_at_call 5; refine (new_any _).mono ?_; rintro e w1 ⟨rfl, rfl⟩)
    | (go_at_call 6; refine (C1.out _ _ Hm.out).mono ?_; rintro e w2 ⟨rfl, hm2⟩; have Hm2 := hid hm2; clear hm2 C1 Hm)
    | (go_at_call 6; refine (C2.out _ _ Hm2.out).mono ?_; rintro e w3 ⟨rfl, hm3⟩; have Hm3 := hid hm3; clear hm3 C2 Hm2)
    | (go_at_call 12; refine (C3.out _ _ Hm3.out).mono ?_; rintro e w4 ⟨rfl, hm4⟩; have Hm4 := hid hm4; clear hm4 C3 Hm3)
    | (go_at_call 8; refine (C4.out _ _ Hm4.out).mono ?_; rintro e w5 ⟨rfl, hm5⟩; have Hm5 := hid (hm5.still ((Kept.refl (fun _ => False) w5).alloc (.cells #[.int .i64 1, .int .i64 2, .string ⟨#[98]⟩] 39))); clear hm5 C4 Hm4)
    | (go_at_call 21; refine (C5.out _ _ Hm5.out).mono ?_; rintro e w6 ⟨rfl, rfl⟩)
    | (go_at_call 23; refine (C6.out _ _ Hm5.out).mono ?_; rintro e w7 ⟨rfl, hm7⟩; have Hm7 := hid hm7; clear hm7 C6 Hm5))
  go_ret
  exact ⟨rfl, Hm7.out.kept⟩

end Go.Proofs.Ytegofkpiipomfaa
