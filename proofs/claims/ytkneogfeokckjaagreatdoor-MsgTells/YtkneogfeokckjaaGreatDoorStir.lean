/- The contract of package digest's inner stir: the 64 steps of a block, where the two tables hold what the program's text lays. -/
import Derived.Test.YtkneogfeokckjaaGreatDoorSpread
import Derived.Deep.RegionWith
import Derived.Deep.RegionLaw
namespace Go.Proofs.YtkneogfeokckjaaGreatDoor
open Go.RowKit

/-- The two tables, as the program's text lays them. -/
def Tables (w : World) : Prop := (∀ i, i < 64 → w.cell? ⟨0, i, none⟩ = some (.int .u32 (sineF i : Int))) ∧ ∀ i, i < 64 → w.cell? ⟨1, i / 16 * 4 + i % 4, none⟩ = some (.int .i64 (turnF i : Int))
theorem cell_lt {w : World} {b j : Nat} {v : Value} (h : w.cell? ⟨b, j, none⟩ = some v) : b < w.heap.size := by
  rcases Nat.lt_or_ge b w.heap.size with h1 | h1
  · exact h1
  · simp [World.cell?, Array.getElem?_eq_none h1] at h
theorem Tables.next {w w' : World} (h : Tables w) (hb : Below w.heap.size w w') : Tables w' :=
  ⟨fun i hi => (hb.cell (p := ⟨0, i, none⟩) (cell_lt (h.1 i hi))).trans (h.1 i hi), fun i hi => (hb.cell (p := ⟨1, i / 16 * 4 + i % 4, none⟩) (cell_lt (h.2 i hi))).trans (h.2 i hi)⟩

abbrev Z4 : Array Value := #[.int .u32 0, .int .u32 0, .int .u32 0, .int .u32 0]

theorem sum_step (word : Nat → Nat) (k : Nat) (S : Four) :
    (((S.a : Int) + (mixF k S.b S.c S.d : Int) + (word (pickF k) : Int)) % 4294967296 + (sineF k : Int)) % 4294967296 = ((sumF word k S : Nat) : Int) := by
  unfold sumF
  generalize mixF k S.b S.c S.d = x
  generalize word (pickF k) = y
  generalize sineF k = z
  omega
theorem rot_step (word : Nat → Nat) (k : Nat) (S : Four) (ht : turnF k < 32) (w : World) :
    Calls Tryz.prog 199 #[.int .u32 (sumF word k S : Int), .int .i64 (turnF k : Int)] w fun e w' => e = .returned (.int .u32 (rotF (sumF word k S) (turnF k) : Int)) ∧ w' = w := by
  have e2 : ((turnF k : Int) % 32).toNat = turnF k := by
    generalize turnF k = x at ht
    omega
  have h := rotate_any (sumF word k S) (Nat.mod_lt _ (by decide)) (turnF k : Int) w
  rw [e2] at h
  exact h
theorem step_b (word : Nat → Nat) (k : Nat) (S : Four) : Value.int .u32 (((S.b : Int) + (rotF (sumF word k S) (turnF k) : Int)) % 4294967296) = .int .u32 ((stepF word k S).b : Int) := by
  show _ = Value.int .u32 (((S.b + rotF (sumF word k S) (turnF k)) % 4294967296 : Nat) : Int)
  rw [Int.natCast_emod, Int.natCast_add]
  rfl
theorem step_a (word : Nat → Nat) (k : Nat) (S : Four) : (stepF word k S).a = S.d := rfl
theorem step_c (word : Nat → Nat) (k : Nat) (S : Four) : (stepF word k S).c = S.b := rfl
theorem step_d (word : Nat → Nat) (k : Nat) (S : Four) : (stepF word k S).d = S.c := rfl
theorem four_end (s : Four) (word : Nat → Nat) : fourCells (stirF s word) = #[.int .u32 (((s.a : Int) + (stepsF word 64 s).a) % 4294967296), .int .u32 (((s.b : Int) + (stepsF word 64 s).b) % 4294967296), .int .u32 (((s.c : Int) + (stepsF word 64 s).c) % 4294967296), .int .u32 (((s.d : Int) + (stepsF word 64 s).d) % 4294967296)] := by
  unfold stirF
  generalize stepsF word 64 s = S
  simp only [fourCells, joinF, Int.natCast_emod, Int.natCast_add]
  rfl

set_option maxHeartbeats 1000000 in
theorem stir_any (s : Four) (hs : s.ok) (ws : Array Value) (word : Nat → Nat) (hw : ∀ j, j < 16 → ws[j]? = some (.int .u32 (word j : Int))) (hwl : ∀ j, word j < 4294967296) (w : World) (hT : Tables w) :
    Calls Tryz.prog 196 #[.agg (fourCells s), .agg ws] w fun e w' => e = .returned (.agg (fourCells (stirF s word))) ∧ Below w.heap.size w w' := by
  obtain ⟨cs, hcs⟩ : ∃ cs, cs = fourCells s := ⟨_, rfl⟩
  have f0 : cs[0]? = some (.int .u32 (s.a : Int)) := by rw [hcs]; rfl
  have f1 : cs[1]? = some (.int .u32 (s.b : Int)) := by rw [hcs]; rfl
  have f2 : cs[2]? = some (.int .u32 (s.c : Int)) := by rw [hcs]; rfl
  have f3 : cs[3]? = some (.int .u32 (s.d : Int)) := by rw [hcs]; rfl
  rw [← hcs]
  have HW := hide hw
  have HWL := hide hwl
  have HT := hide hT
  have HS := hide hs
  clear hw hwl hT hcs hs
  go_enter Tryz.func196, Tryz.ntmps196
  go_wp2
  go_region
  go_wp2
  go_loopw [5, 6, 7, 8, 9, 10, 11, 12, 21] (fun va vb vc vd _ _ _ _ vi wr => ∃ (k : Nat) (u : World), k ≤ 64 ∧ vi = .int .i64 (k : Int) ∧ va = .int .u32 ((stepsF word k s).a : Int) ∧ vb = .int .u32 ((stepsF word k s).b : Int) ∧ vc = .int .u32 ((stepsF word k s).c : Int) ∧ vd = .int .u32 ((stepsF word k s).d : Int) ∧
      wr = ((u.alloc (.cells cs 246)).alloc (.cells ws 250)).alloc (.cells Z4 246) ∧ u.heap.size = w.heap.size ∧ Below w.heap.size w u)
    (fun _ _ _ _ _ _ _ _ vi _ => 64 - (intOf vi).toNat)
  case atStart => exact ⟨0, w.drew, Nat.zero_le _, rfl, rfl, rfl, rfl, rfl, rfl, rfl, (Below.refl _ _).drew⟩
  case round =>
    obtain ⟨k, u, hk, rfl, rfl, rfl, rfl, rfl, rfl, hu, hb⟩ := hrel
    by_cases hlt : k < 64
    · have hok := Four.ok_steps (word := word) HS.out k
      obtain ⟨ha1, hb1, hc1, hd1⟩ := hok
      have HST := hide (show stepsF word (k + 1) s = stepF word k (stepsF word k s) from rfl)
      generalize stepsF word k s = S at ha1 hb1 hc1 hd1 HST
      have HM := hide (mix_any k S.b S.c S.d hlt hb1 hc1 hd1)
      have hp := pickF_lt hlt
      have hml := mixF_lt (i := k) hb1 hc1 hd1
      have hsl := sineF_lt k
      have htl := turnF_lt k
      have hpl := HWL.out (pickF k)
      have c1 : ws[pickF k]? = some (.int .u32 (word (pickF k) : Int)) := HW.out _ hp
      have HT2 := HT.out.next ((hb.alloc (show w.heap.size ≤ u.heap.size by omega) (.cells cs 246)).alloc (by simp; omega) (.cells ws 250) |>.alloc (by simp; omega) (.cells Z4 246))
      have c2 := HT2.1 k hlt
      have c3 := HT2.2 k hlt
      clear HT2
      go_wp2_with (go_at_call 198; refine (HM.out _).mono ?_; rintro e w1 ⟨rfl, rfl⟩)
      go_region
      have HR := hide (rot_step word k S htl)
      rw [sum_step word k S]
      clear hml hsl htl hpl
      have HB' := hide (step_b word k S)
      generalize rotF (sumF word k S) (turnF k) = R at HR HB'
      generalize sumF word k S = X at HR
      go_wp2_with (go_at_call 199; refine (HR.out _).mono ?_; rintro e w2 ⟨rfl, rfl⟩)
      clear HR HM hp c1 c2 c3 ha1 hb1 hc1 hd1
      go_roundw
      case rel =>
        refine ⟨k + 1, u.drew, by omega, by go_num, ?_, ?_, ?_, ?_, rfl, hu, hb.drew⟩
        · rw [HST.out, step_a]
        · rw [HST.out]
          exact HB'.out
        · rw [HST.out, step_c]
        · rw [HST.out, step_d]
      case measure => simp [intOf]; omega
    · obtain rfl : k = 64 := by omega
      have HF := hide (four_end s word)
      generalize stepsF word 64 s = S at HF
      clear hlt hk
      go_wp2
      rw [← HF.out]
      have hsz : ((u.alloc (.cells cs 246)).alloc (.cells ws 250)).heap.size = w.heap.size + 1 + 1 := by simp [hu]
      have h2 := heap_alloc_new ((u.alloc (.cells cs 246)).alloc (.cells ws 250)) (.cells (fourCells (stirF s word)) 246)
      rw [hsz] at h2
      refine bodyPost_ret (v := .agg (fourCells (stirF s word))) ?_ rfl ⟨rfl, ((hb.alloc (show w.heap.size ≤ u.heap.size by omega) (.cells cs 246)).alloc (by simp; omega) (.cells ws 250)).alloc (by omega) _⟩
      exact results_cell_row Tryz.results196 _ _ (w.heap.size + 1 + 1) 246 (fourCells (stirF s word)) (0, 0) _ rfl h2 Tryz.underlying246 rfl (by kernel_rfl)
end Go.Proofs.YtkneogfeokckjaaGreatDoor
