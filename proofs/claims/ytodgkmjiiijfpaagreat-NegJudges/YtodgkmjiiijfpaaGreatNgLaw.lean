/- The laws' own rule and setup; takeAnswer of an ack. -/
import Derived.Test.YtodgkmjiiijfpaaGreatNgTakeAll
import Derived.Test.YtodgkmjiiijfpaaGreatNgMake
namespace Go.Proofs.YtodgkmjiiijfpaaGreat
open Go.RowKit

set_option maxHeartbeats 2000000 in
set_option maxRecDepth 100000 in
theorem takeAnswer_2 {base b : Nat} {a : Nm} {n : Ng} (p : Pk0) (v : Value) (w : World) (h : NegIn w base b a n) (hp : PkIn w b a p v) (hc : p.code = 2) :
    Calls Tryz.prog 113 #[.pointer (some ⟨b, 0, none⟩), pkV p.code p.id v p.data] w fun e w' => ∃ vo, e = .returned vo ∧ Sent w w' base b a (ackN n p) vo := by
  unfold pkV
  obtain ⟨pv, cv, hv⟩ := hp.at_.1.slice
  have T := TakeA.of h hp
  generalize hAe : w.alloc (.cells #[.int .i64 p.code, .int .i64 p.id, v, .string p.data] 73) = A at *
  have HAe := hid hAe
  obtain ⟨⟨q0, q1, q2, q3⟩, _⟩ := T.own
  have HH := hid (takeAck_any p v A T.neg T.pk)
  unfold pkV at HH
  rw [hc] at HH q0
  rw [hc] at hAe HAe ⊢
  have HT := hid T
  subst hv
  clear hAe h hp T hc
  go_enter Tryz.func113, Tryz.ntmps113
  go_upto_region 1 with fail
  rw [HAe.out]
  clear HAe
  go_wp2_with fail
  refine HH.out.mono ?_
  rintro e w4 ⟨vo, rfl, HS0⟩
  have HS := hid (HS0.before0 HT.out.k)
  obtain ⟨po, co, rfl⟩ := HS0.slice
  clear HS0
  go_wp2
  go_ret
  exact ⟨_, rfl, HS.out⟩

def rule1 : Rl := ⟨1, 2, 64, 1492, ⟨#[5, 212]⟩⟩
theorem good1 : GoodR [rule1] := ⟨by decide, fun r hr => by
  rw [List.mem_singleton.1 hr]
  exact ⟨⟨by decide, by decide⟩, by decide, by decide⟩⟩
theorem short1 : ShortR [rule1] := fun r hr => by
  rw [List.mem_singleton.1 hr]
  decide
theorem goodNil : GoodR [] := ⟨Nat.zero_le _, fun _ h => absurd h List.not_mem_nil⟩

set_option maxRecDepth 100000 in
theorem lawRule_any (w : World) : Calls Tryz.prog 19 #[] w fun e w' => e = .returned (rlV rule1) ∧ Kept (fun _ => False) w w' := by
  unfold rlV rule1
  have hf : ∀ j, (w.alloc (.cells #[.int .i64 0, .int .i64 0, .int .i64 0, .int .i64 0, .string ⟨#[]⟩] 25)).frozen? ⟨w.heap.size, j, none⟩ = false := fun j => frozen_of_row _ w.heap.size j _ _ (heap_alloc_new w _)
  go_enter Tryz.func19, Tryz.ntmps19
  go_wp2
  refine bodyPost_ret (v := .agg #[.int .i64 1, .int .i64 2, .int .i64 64, .int .i64 1492, .string ⟨#[5, 212]⟩]) (by simp [results, Tryz.results19, go_sem]) rfl ⟨rfl, ?_⟩
  first
    | exact (Kept.refl _ w).alloc _
    | (repeat refine Kept.setCell ?_ (Or.inl (Nat.le_refl _)) _
       exact (Kept.refl _ w).alloc _)

/-- A row of one option, of one rule. -/
theorem one_opt {W : World} {g base : Nat} {x : Tg} (h : BoxO W g x) (hb : base ≤ g) : OwnO W base (.slice (some ⟨g, 0, none⟩) 1 1) [x] :=
  ⟨rfl, Or.inr ⟨g, 1, _, rfl, hb, h, Nat.le_refl _, by decide, rfl, rfl⟩⟩
def BoxRl (W : World) (g : Nat) (r : Rl) : Prop := W.heap[g]? = some (.cells #[.int .i64 r.type, .int .i64 r.len, .int .i64 r.min, .int .i64 r.max, .string r.suggest] 25 (0, 0))
theorem one_rule {W : World} {g : Nat} {r : Rl} (h : BoxRl W g r) : RulesAt W (.slice (some ⟨g, 0, none⟩) 1 1) [r] := by
  refine Or.inr ⟨g, 0, 1, rfl, Nat.le_refl _, by decide, fun j x hj i u hu => ?_⟩
  cases j with
  | succ j => simp at hj
  | zero =>
    have : r = x := by simpa using hj
    subst this
    have h' : W.heap[g]? = _ := h
    simp only [Nat.zero_mul, Nat.zero_add]
    simp only [World.cell?, h', Option.isSome_none, Bool.false_eq_true, if_false]
    rw [← hu]
    simp [rlCells]
theorem RulesAt.nil (W : World) : RulesAt W (.slice none 0 0) [] := Or.inl ⟨rfl, none, 0, rfl⟩
theorem alone1 (x : Tg) : Alone [x] := fun j y hj => by
  cases j with
  | succ j => simp at hj
  | zero => rfl
theorem fine1 {x : Tg} (h1 : In64 x.type) (h2 : x.value.size ≤ 140737488351232) : FineO [x] := ⟨by simp, fun y hy => by rw [List.mem_singleton.1 hy]; exact h1, fun y hy => by rw [List.mem_singleton.1 hy]; exact h2⟩
theorem put1 {v : ByteArray} (h : v.size ≤ 253) : (putOptsF [⟨1, v⟩]).2 = 0 := by
  unfold putOptsF
  rw [if_neg (by simp), if_neg]
  simp [okO]
  exact h

end Go.Proofs.YtodgkmjiiijfpaaGreat
