/- The contract of neg.Fits. -/
import Derived.Test.YtcmdfcdmfdheeaaNgPlain
import Derived.Test.YtcmdfcdmfdheeaaOpFind
namespace Go.Proofs.Ytcmdfcdmfdheeaa
open Go.RowKit

/-- The five cells of a boxed rule. -/
def BoxR (w : World) (b : Nat) (r : Rl) : Prop := w.cell? ⟨b, 0, none⟩ = some (.int .i64 r.type) ∧ w.cell? ⟨b, 1, none⟩ = some (.int .i64 r.len) ∧ w.cell? ⟨b, 2, none⟩ = some (.int .i64 r.min) ∧ w.cell? ⟨b, 3, none⟩ = some (.int .i64 r.max) ∧ w.cell? ⟨b, 4, none⟩ = some (.string r.suggest)
theorem boxR_new (w : World) (r : Rl) : BoxR (w.alloc (.cells #[.int .i64 r.type, .int .i64 r.len, .int .i64 r.min, .int .i64 r.max, .string r.suggest] 56)) w.heap.size r := by
  refine ⟨?_, ?_, ?_, ?_, ?_⟩ <;> rw [World.cell?_alloc_new] <;> rfl

theorem valueF_short {l : List UInt8} (h : ¬ 7 < l.length) : valueF l = (numOf l, true) := by unfold valueF; rw [if_neg h]

set_option maxHeartbeats 2000000 in
set_option maxRecDepth 100000 in
theorem fits_any (r : Rl) (v : ByteArray) (hv : v.size ≤ 140737488351232) (w : World) :
    Calls Try.prog 58 #[rlV r, .string v] w fun e w' => e = .returned (.bool (fitsF r v)) ∧ Kept (fun _ => False) w w' := by
  unfold rlV
  obtain ⟨b0, b1, b2, b3, b4⟩ := boxR_new w r
  have HK := hid ((Kept.refl (fun _ => False) w).alloc (.cells #[.int .i64 r.type, .int .i64 r.len, .int .i64 r.min, .int .i64 r.max, .string r.suggest] 56))
  have hl : v.data.toList.length = v.size := (Lib.size_eq v).symm
  by_cases h : (v.size : Int) = r.len
  · have hne : ((v.size : Int) != r.len) = false := by simp [h]
    obtain ⟨V, hV, hV7, hVn⟩ : ∃ V : ByteArray, V = v.extract 0 (min v.size 7) ∧ V.size ≤ 7 ∧ numOf V.data.toList = numOf (v.data.toList.take 7) := by
      refine ⟨_, rfl, ?_, ?_⟩
      · rw [ByteArray.size_extract]
        omega
      · rw [Lib.extract_data, Nat.sub_zero, List.drop_zero]
        by_cases h7 : 7 ≤ v.size
        · rw [Nat.min_eq_right h7]
        · rw [Nat.min_eq_left (by omega), List.take_of_length_le (by omega), List.take_of_length_le (by omega)]
    have hVl : ¬ 7 < V.data.toList.length := by rw [← Lib.size_eq]; omega
    have HN := hid (value_any V (by unfold maxLen; omega))
    rw [valueF_short hVl] at HN
    simp only at HN
    rw [hVn] at HN
    have e : fitsF r v = (decide (r.min ≤ (numOf (v.data.toList.take 7) : Int)) && decide ((numOf (v.data.toList.take 7) : Int) ≤ r.max)) := by
      unfold fitsF
      rw [decide_eq_true h, Bool.true_and]
    rw [e]
    generalize (numOf (v.data.toList.take 7) : Int) = M at *
    have j7 := first_at v (min v.size 7) (Nat.min_le_left _ _) (min (v.size : Int) 7) (by omega)
    rw [← hV] at j7
    clear e hVn hl h hV hVl hV7
    by_cases h1 : r.min ≤ M
    · have D1 : Hid (decide (r.min ≤ M) = true) := decide_eq_true h1
      by_cases h2 : M ≤ r.max
      all_goals
        go_enter Try.func58, Try.ntmps58
        go_wp2_with fail
        refine (HN.out _).mono ?_
        rintro e w1 ⟨rfl, rfl⟩
        go_wp2
        go_ret
        exact ⟨by rw [D1.out, Bool.true_and]; first | rfl | (simp [h2]), HK.out⟩
    · have D1 : Hid (decide (r.min ≤ M) = false) := decide_eq_false h1
      go_enter Try.func58, Try.ntmps58
      go_wp2_with fail
      refine (HN.out _).mono ?_
      rintro e w1 ⟨rfl, rfl⟩
      go_wp2
      go_ret
      exact ⟨by rw [D1.out]; rfl, HK.out⟩
  · have hne : ((v.size : Int) != r.len) = true := by simpa using h
    have e : fitsF r v = false := by
      unfold fitsF
      rw [decide_eq_false h, Bool.false_and]
    rw [e]
    clear e h hl
    go_enter Try.func58, Try.ntmps58
    go_wp2
    go_ret
    exact ⟨rfl, HK.out⟩
end Go.Proofs.Ytcmdfcdmfdheeaa
