/- The contracts of Peek and Drop, and of Spoil where there is none. -/
import Derived.Test.YtegofkpiipomfaaNetOps
namespace Go.Proofs.Ytegofkpiipomfaa
open Go.RowKit

section
variable {S : Nat → Prop} {w : World} {b : Nat} {s : NetSt}

/-- Where place answers an error, so do the two. -/
theorem peek_no (p : Value) (i e : Int) (he : e ≠ 0) (hp : ∀ W, Kept (fun _ => False) w W → Calls Try.prog 31 #[p, .int .i64 i] W fun e' w' => e' = .returned (.int .i64 e) ∧ w' = W) :
    Calls Try.prog 18 #[p, .int .i64 i] w fun e' w' => e' = .returned (ansV g0 e) ∧ Kept (fun _ => False) w w' := by
  have Hp := hid (fun o => hp (w.alloc o) ((Kept.refl _ w).alloc o))
  have hne : ((e : Int) != 0) = true := by simpa using he
  clear hp
  unfold ansV g0
  go_enter Try.func18, Try.ntmps18
  go_wp2_with fail
  refine (Hp.out _).mono ?_
  rintro e' w' ⟨rfl, rfl⟩
  go_wp2
  (try simp only [Exit.inBlock, Exit.then])
  refine bodyPost_ret (v := .tuple #[.agg #[.int .i64 0, .int .i64 0, .string ⟨#[]⟩], .int .i64 e]) (by simp [results, Try.results18, go_sem]) rfl ⟨rfl, ?_⟩
  exact (Kept.refl _ w).alloc _

theorem drop_no (p : Value) (i e : Int) (he : e ≠ 0) (hp : Calls Try.prog 31 #[p, .int .i64 i] w fun e' w' => e' = .returned (.int .i64 e) ∧ w' = w) :
    Calls Try.prog 10 #[p, .int .i64 i] w fun e' w' => e' = .returned (.int .i64 e) ∧ w' = w := by
  have Hp := hid hp
  have hne : ((e : Int) != 0) = true := by simpa using he
  clear hp
  go_enter Try.func10, Try.ntmps10
  go_wp2_with fail
  refine (Hp.out).mono ?_
  rintro e' w' ⟨rfl, rfl⟩
  go_wp2
  go_ret
  exact ⟨rfl, rfl⟩

theorem spoil_no (p : Value) (i e at' by' : Int) (he : e ≠ 0) (hp : Calls Try.prog 31 #[p, .int .i64 i] w fun e' w' => e' = .returned (.int .i64 e) ∧ w' = w) :
    Calls Try.prog 14 #[p, .int .i64 i, .int .i64 at', .int .i64 by'] w fun e' w' => e' = .returned (.int .i64 e) ∧ w' = w := by
  have Hp := hid hp
  have hne : ((e : Int) != 0) = true := by simpa using he
  clear hp
  go_enter Try.func14, Try.ntmps14
  go_wp2_with fail
  refine (Hp.out).mono ?_
  rintro e' w' ⟨rfl, rfl⟩
  go_wp2
  go_ret
  exact ⟨rfl, rfl⟩

set_option maxHeartbeats 1000000 in
set_option maxRecDepth 100000 in
theorem peek_ok (h : NetAt S w b s) (j : Nat) (hj : j < s.grams.length) :
    Calls Try.prog 18 #[.pointer (some ⟨b, 0, none⟩), .int .i64 (j : Int)] w fun e w' => e = .returned (ansV (getG s.grams j) 0) ∧ Kept (fun _ => False) w w' := by
  have Hp := hid (fun o => place_good h j hj (w.alloc o) ((Kept.refl _ w).alloc o))
  obtain ⟨gv, tm, cm, hN, hS⟩ := h
  rcases hN.own.cases with ⟨_, e⟩ | ⟨g, cap, rfl, _, hr⟩
  · rw [e] at hj
    cases hj
  have h63 : s.grams.length ≤ 9223372036854775807 := Nat.le_trans hr.le hr.le63
  have c0 := fun o => (hN.alloc o).c0
  have hrow := fun o => (hr.same (((Kept.refl (fun _ => False) w).alloc o).block g hr.lt id)).cells4 (getG_at hj)
  have r0 := fun o => (hrow o).1
  have r1 := fun o => (hrow o).2.1
  have r2 := fun o => (hrow o).2.2.1
  clear hr hN hS hrow
  unfold ansV
  generalize getG s.grams j = x at *
  have hjz : (j : Int) < (s.grams.length : Int) := by omega
  go_enter Try.func18, Try.ntmps18
  go_wp2_with fail
  refine (Hp.out _).mono ?_
  rintro e' w' ⟨rfl, rfl⟩
  go_wp2
  (try simp only [Exit.inBlock, Exit.then])
  refine bodyPost_ret (v := .tuple #[.agg #[.int .i64 x.src, .int .i64 x.dst, .string x.data], .int .i64 0]) (by simp [results, Try.results18, go_sem]) rfl ⟨rfl, ?_⟩
  exact (Kept.refl _ w).alloc _

set_option maxHeartbeats 1000000 in
theorem drop_ok (h : NetAt S w b s) (hG : Good s) (hroom : s.tals.length < 1000000) (j : Nat) (hj : j < s.grams.length) :
    Calls Try.prog 10 #[.pointer (some ⟨b, 0, none⟩), .int .i64 (j : Int)] w fun e w' => e = .returned (.int .i64 0) ∧ Next S w w' b (countS { s with grams := s.grams.eraseIdx j } (getG s.grams j).src (getG s.grams j).dst 0 1) := by
  have Hp := hid (place_good h j hj w (Kept.refl _ w))
  have Ht := hid (take_any h j hj)
  have hx := hG.ok _ (List.mem_of_getElem? (getG_at hj))
  have Hc := hid (fun S1 W (hW : NetAt S1 W b { s with grams := s.grams.eraseIdx j }) => count_any (a := 0) (l := 1) hW hx.src hx.dst (hG.sent _ _) (hG.lost _ _) ⟨by omega, by omega⟩ ⟨by omega, by omega⟩ hroom)
  have Hx := hid (fun W => pair_any (getG s.grams j) W)
  clear h hj hx hG hroom
  generalize getG s.grams j = x at *
  unfold grV at Ht Hx
  unfold keyV at Hx Hc
  go_enter Try.func10, Try.ntmps10
  go_wp2_with fail
  refine (Hp.out).mono ?_
  rintro e' w' ⟨rfl, rfl⟩
  go_wp2_with fail
  refine (Ht.out).mono ?_
  rintro e' w2 ⟨rfl, hn2⟩
  have Hn2 := hid hn2
  clear hn2
  go_wp2_with fail
  refine (Hx.out _).mono ?_
  rintro e' w3 ⟨rfl, hk3⟩
  obtain ⟨S3, hA3, hS3, hK3⟩ := Hn2.out.still0 hk3
  have HA3 := hid hA3
  have HS3 := hid hS3
  have HK3 := hid hK3
  clear hk3 Hn2 hA3 hS3 hK3
  go_wp2_with fail
  refine (Hc.out S3 _ HA3.out).mono ?_
  rintro e' w4 ⟨rfl, hn4⟩
  have Hn4 := hid hn4
  clear hn4
  go_wp2
  go_ret
  exact ⟨rfl, Hn4.out.andThen HS3.out HK3.out⟩

end
end Go.Proofs.Ytegofkpiipomfaa
