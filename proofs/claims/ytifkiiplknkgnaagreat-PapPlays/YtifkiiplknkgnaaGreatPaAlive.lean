/- The contract of alive, of the laws of chapter 13; a client that New makes. -/
import Derived.Test.YtifkiiplknkgnaaGreatPaAnswer
namespace Go.Proofs.YtifkiiplknkgnaaGreat
open Go.RowKit

theorem newC_ok (n s : ByteArray) (hn : n.size ≤ 60) (hs : s.size ≤ 60) (retry wait : Int) (hr : 0 ≤ retry ∧ retry ≤ 10) (hw : 1 ≤ wait ∧ wait ≤ 100) (w : World) :
    Calls Tryz.prog 6 #[.string n, .string s, .int .i64 retry, .int .i64 wait] w fun e w' => ∃ b, w.heap.size ≤ b ∧ e = .returned (.tuple #[.pointer (some ⟨b, 0, none⟩), .int .i64 0]) ∧ ClIn w' b (newC (layF n ++ layF s) retry wait) ∧ Kept (fun _ => False) w w' := by
  have e : putReqF n s = (layF n ++ layF s, 0) := by
    unfold putReqF
    rw [if_neg (by simp [longB]; omega)]
  refine (newC_any n s (by omega) (by omega) retry wait w).mono ?_
  rintro r w' ⟨h, hk⟩
  rw [e] at h
  rcases h with ⟨E, h0, h1, _⟩ | ⟨_, h1, _⟩ | ⟨_, _, b, hb, rfl, hc⟩
  · exact absurd h1.symm h0
  · exact absurd ⟨hr.1, hr.2, hw.1, hw.2⟩ h1
  · exact ⟨b, hb, rfl, hc, hk⟩

/-- A packet of a row of its own is handed over. -/
theorem pq_data (q : Pq) : pqV q = pkV q.code q.id (.slice none 0 0) q.data := rfl

theorem field_code (c i : Int) (v : Value) (s : ByteArray) (W : World) : Sem.run Tryz.prog (Instr.field 56 (.agg #[.int .i64 c, .int .i64 i, v, .string s]) 0) W = .ok (.int .i64 c) W := by kernel_rfl

set_option maxHeartbeats 1000000 in
set_option maxRecDepth 100000 in
theorem aliveP_any (w : World) : Calls Tryz.prog 5 #[] w fun e w' => e = .returned (.bool true) ∧ Kept (fun _ => False) w w' := by
  have C1 := hid (putReq_any ⟨#[97]⟩ ⟨#[98, 99]⟩ (by decide) (by decide))
  have C2 := hid (getReq_any ⟨#[1, 97, 2, 98, 99]⟩ (by decide))
  have C3 := hid (newC_ok ⟨#[97]⟩ ⟨#[98, 99]⟩ (by decide) (by decide) 2 3 (by decide) (by decide))
  have C4 := hid (fun b W (h : ClIn W b (newC ⟨#[1, 97, 2, 98, 99]⟩ 2 3)) => start_any b _ (GoodC.new (by decide) (by decide)) W h)
  have C5 := hid (fun W => serve_any 1 1 none 0 0 ⟨#[1, 97, 2, 98, 99]⟩ (by decide) W)
  have C6 := hid (fun W => answer_any 1 1 none 0 0 ⟨#[1, 97, 2, 98, 99]⟩ true W)
  rw [show putReqF ⟨#[97]⟩ ⟨#[98, 99]⟩ = (⟨#[1, 97, 2, 98, 99]⟩, 0) from rfl] at C1
  rw [show getReqF ⟨#[1, 97, 2, 98, 99]⟩ = (⟨#[97]⟩, ⟨#[98, 99]⟩, 0) from rfl] at C2
  rw [show layF ⟨#[97]⟩ ++ layF ⟨#[98, 99]⟩ = ⟨#[1, 97, 2, 98, 99]⟩ from rfl] at C3
  rw [show (startC (newC ⟨#[1, 97, 2, 98, 99]⟩ 2 3)).1 = [⟨1, 1, ⟨#[1, 97, 2, 98, 99]⟩⟩] from rfl] at C4
  rw [show serveF 1 0 ⟨#[1, 97, 2, 98, 99]⟩ = (⟨#[97]⟩, ⟨#[98, 99]⟩, true) from rfl] at C5
  rw [show answerQ 1 true = ⟨2, 1, ⟨#[2, 111, 107]⟩⟩ from rfl] at C6
  unfold pkV pqV at *
  have fc := field_code 2 1 (.slice none 0 0) ⟨#[2, 111, 107]⟩
  go_enter Tryz.func5, Tryz.ntmps5
  go_wp2_with fail
  refine (C1.out _).mono ?_
  rintro e w1 ⟨rfl, hk1⟩
  go_wp2_with fail
  refine (C2.out _).mono ?_
  rintro e w2 ⟨rfl, hk2⟩
  go_wp2_with fail
  refine (C3.out _).mono ?_
  rintro e w3 ⟨b, hb, rfl, hc, hk3⟩
  have HC := hid hc
  have HK3 := hid ((hk1.trans hk2).trans hk3)
  have hs2 := (hk1.trans hk2).size
  clear hc hk1 hk2 hk3 C1 C2 C3
  go_wp2_with fail
  refine (C4.out _ _ HC.out).mono ?_
  rintro e w4 ⟨v, rfl, hc, ho, hk4⟩
  obtain ⟨g, cap, rfl, hcap, hcap2, hg, bx⟩ := ho.one
  have HK4 : Hid (Kept (fun _ => False) w w4) := HK3.out.andThen hk4 (fun i hi e => by omega)
  have BX := hid bx
  obtain ⟨d0, d1, d2, d3⟩ := bx
  clear hc ho hk4 HC HK3 C4
  go_wp2_with fail
  refine (C5.out _).mono ?_
  rintro e w5 ⟨rfl, hk5⟩
  have HK5 := hid (HK4.out.trans hk5)
  have bx := BX.out.kept hk5 id
  clear BX d0 d1 d2 d3 HK4 hk5
  obtain ⟨d0, d1, d2, d3⟩ := bx
  go_wp2_with fail
  refine (C6.out _).mono ?_
  rintro e w6 ⟨rfl, hk6⟩
  have HK6 := hid (HK5.out.trans hk6)
  clear hk6 HK5
  go_wp2
  go_ret
  exact ⟨rfl, HK6.out⟩
end Go.Proofs.YtifkiiplknkgnaaGreat
