/- The contract of Answer. -/
import Derived.Test.YtifkiiplknkgnaaGreatPaTake
namespace Go.Proofs.YtifkiiplknkgnaaGreat
open Go.RowKit

/-- What Answer answers. -/
def answerQ (id : Int) (good : Bool) : Pq := if good then ⟨2, id, ⟨#[2, 111, 107]⟩⟩ else ⟨3, id, ⟨#[2, 110, 111]⟩⟩

set_option maxHeartbeats 1000000 in
set_option maxRecDepth 100000 in
theorem answer_any (code id : Int) (p : Option Addr) (n cap : Nat) (s : ByteArray) (good : Bool) (w : World) :
    Calls Tryz.prog 19 #[pkV code id (.slice p n cap) s, .bool good] w fun e w' => e = .returned (pqV (answerQ id good)) ∧ Kept (fun _ => False) w w' := by
  unfold pkV pqV
  have O1 := hid (own4_new (w.alloc (.cells #[.int .i64 code, .int .i64 id, .slice p n cap, .string s] 56)) 56 (.int .i64 0) (.int .i64 0) (.slice none 0 0) (.string ⟨#[]⟩))
  have P1 := hid ((PkAt.new w code id (.slice p n cap) s).kept ((Kept.refl (fun _ => False) _).alloc (.cells #[.int .i64 0, .int .i64 0, .slice none 0 0, .string ⟨#[]⟩] 56)) (fun h => h))
  have K1 := hid (((Kept.refl (fun _ => False) w).alloc (.cells #[.int .i64 code, .int .i64 id, .slice p n cap, .string s] 56)).alloc (.cells #[.int .i64 0, .int .i64 0, .slice none 0 0, .string ⟨#[]⟩] 56))
  have hsz : (w.alloc (.cells #[.int .i64 code, .int .i64 id, .slice p n cap, .string s] 56)).heap.size = w.heap.size + 1 := by simp
  rw [hsz] at O1
  clear hsz
  cases good with
  | false =>
    have HL := hid (lay_any ⟨#[110, 111]⟩ (by decide))
    rw [show layF ⟨#[110, 111]⟩ = ⟨#[2, 110, 111]⟩ from rfl] at HL
    go_enter Tryz.func19, Tryz.ntmps19
    go_upto_region 4 with fail
    generalize (w.alloc (.cells #[.int .i64 code, .int .i64 id, .slice p n cap, .string s] 56)).alloc (.cells #[.int .i64 0, .int .i64 0, .slice none 0 0, .string ⟨#[]⟩] 56) = W at *
    have D1 := (Kept.refl (fun _ => False) W).drew
    obtain ⟨d0, d1, d2, d3⟩ := P1.out.cells
    go_wp2_with fail
    go_region_with (go_at_call 31; refine (HL.out _).mono ?_; rintro e w5 ⟨rfl, hk5⟩; obtain ⟨⟨c0, c1, c2, c3⟩, f0⟩ := O1.out.kept (D1.trans hk5); obtain ⟨g0, g1, g2, g3⟩ := (P1.out.kept (D1.trans hk5) (fun h => h)).cells; have HK := hid (K1.out.trans (D1.trans hk5)); clear hk5)
    all_goals
      go_wp2
      refine bodyPost_ret (v := .agg #[.int .i64 3, .int .i64 id, .slice none 0 0, .string ⟨#[2, 110, 111]⟩]) (by simp [results, Tryz.results19, go_sem, c0, c1, c2, c3]) rfl ⟨rfl, ?_⟩
      exact (((HK.out.setCell (Or.inl (Nat.le_succ _)) _).setCell (Or.inl (Nat.le_succ _)) _).setCell (Or.inl (Nat.le_succ _)) _).setCell (Or.inl (Nat.le_succ _)) _
  | true =>
    have HL := hid (lay_any ⟨#[111, 107]⟩ (by decide))
    rw [show layF ⟨#[111, 107]⟩ = ⟨#[2, 111, 107]⟩ from rfl] at HL
    go_enter Tryz.func19, Tryz.ntmps19
    go_upto_region 4 with fail
    generalize (w.alloc (.cells #[.int .i64 code, .int .i64 id, .slice p n cap, .string s] 56)).alloc (.cells #[.int .i64 0, .int .i64 0, .slice none 0 0, .string ⟨#[]⟩] 56) = W at *
    have D1 := (Kept.refl (fun _ => False) W).drew
    obtain ⟨d0, d1, d2, d3⟩ := P1.out.cells
    go_wp2_with fail
    go_region_with (go_at_call 31; refine (HL.out _).mono ?_; rintro e w5 ⟨rfl, hk5⟩; obtain ⟨⟨c0, c1, c2, c3⟩, f0⟩ := O1.out.kept (D1.trans hk5); obtain ⟨g0, g1, g2, g3⟩ := (P1.out.kept (D1.trans hk5) (fun h => h)).cells; have HK := hid (K1.out.trans (D1.trans hk5)); clear hk5)
    all_goals
      go_wp2
      refine bodyPost_ret (v := .agg #[.int .i64 2, .int .i64 id, .slice none 0 0, .string ⟨#[2, 111, 107]⟩]) (by simp [results, Tryz.results19, go_sem, c0, c1, c2, c3]) rfl ⟨rfl, ?_⟩
      exact (((HK.out.setCell (Or.inl (Nat.le_succ _)) _).setCell (Or.inl (Nat.le_succ _)) _).setCell (Or.inl (Nat.le_succ _)) _).setCell (Or.inl (Nat.le_succ _)) _
end Go.Proofs.YtifkiiplknkgnaaGreat
