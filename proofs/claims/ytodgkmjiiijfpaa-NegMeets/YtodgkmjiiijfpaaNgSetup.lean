/- The laws' own setup. -/
import Derived.Test.YtodgkmjiiijfpaaNgLaw
namespace Go.Proofs.Ytodgkmjiiijfpaa
open Go.RowKit

set_option maxHeartbeats 2000000 in
set_option maxRecDepth 100000 in
theorem lawSetup_any (s : ByteArray) (f : Int) (w : World) : Calls Try.prog 20 #[.string s, .int .i64 f] w fun e w' => ∃ va vo vp, e = .returned (setupV va vo vp 5 2 f 2) ∧ OptsAt w' va [⟨1, s⟩] ∧ RulesAt w' vo [rule1] ∧ RulesAt w' vp [rule1] ∧ Kept (fun _ => False) w w' := by
  have HRu := hid lawRule_any
  unfold rlV rule1 at HRu
  unfold setupV
  simp only at HRu
  have kA := (Kept.refl (fun _ => False) w).alloc (.cells #[.slice none 0 0, .slice none 0 0, .slice none 0 0, .slice none 0 0, .int .i64 0, .int .i64 0, .int .i64 0, .int .i64 0] 51)
  have hf : ∀ j, (w.alloc (.cells #[.slice none 0 0, .slice none 0 0, .slice none 0 0, .slice none 0 0, .int .i64 0, .int .i64 0, .int .i64 0, .int .i64 0] 51)).frozen? ⟨w.heap.size, j, none⟩ = false := fun j => frozen_of_row _ w.heap.size j _ _ (heap_alloc_new w _)
  have c := cells8_new w 51 (.slice none 0 0) (.slice none 0 0) (.slice none 0 0) (.slice none 0 0) (.int .i64 0) (.int .i64 0) (.int .i64 0) (.int .i64 0)
  have hlt : w.heap.size < (w.alloc (.cells #[.slice none 0 0, .slice none 0 0, .slice none 0 0, .slice none 0 0, .int .i64 0, .int .i64 0, .int .i64 0, .int .i64 0] 51)).heap.size := by simp
  have hsz : (w.alloc (.cells #[.slice none 0 0, .slice none 0 0, .slice none 0 0, .slice none 0 0, .int .i64 0, .int .i64 0, .int .i64 0, .int .i64 0] 51)).heap.size = w.heap.size + 1 := by simp
  have kB := kA.alloc (.cells #[.int .i64 1, .string s] 62)
  have B1 := BoxO.new (w.alloc (.cells #[.slice none 0 0, .slice none 0 0, .slice none 0 0, .slice none 0 0, .int .i64 0, .int .i64 0, .int .i64 0, .int .i64 0] 51)) ⟨1, s⟩
  rw [hsz] at B1
  have HB1 := hid B1
  have HKB := hid kB
  have Hc : Hid (∀ W, Kept (fun _ => False) (w.alloc (.cells #[.slice none 0 0, .slice none 0 0, .slice none 0 0, .slice none 0 0, .int .i64 0, .int .i64 0, .int .i64 0, .int .i64 0] 51)) W → (∀ j u, [Value.slice none 0 0, .slice none 0 0, .slice none 0 0, .slice none 0 0, .int .i64 0, .int .i64 0, .int .i64 0, .int .i64 0][j]? = some u → W.cell? ⟨w.heap.size, j, none⟩ = some u) ∧ ∀ j, W.frozen? ⟨w.heap.size, j, none⟩ = false) := fun W k => ⟨fun j u hj => (k.cell (p := ⟨w.heap.size, j, none⟩) hlt id).trans (c j u hj), fun j => (k.frozen (p := ⟨w.heap.size, j, none⟩) hlt id).trans (hf j)⟩
  have HkB : Hid (Kept (fun _ => False) (w.alloc (.cells #[.slice none 0 0, .slice none 0 0, .slice none 0 0, .slice none 0 0, .int .i64 0, .int .i64 0, .int .i64 0, .int .i64 0] 51)) ((w.alloc (.cells #[.slice none 0 0, .slice none 0 0, .slice none 0 0, .slice none 0 0, .int .i64 0, .int .i64 0, .int .i64 0, .int .i64 0] 51)).alloc (.cells #[.int .i64 1, .string s] 62))) := (Kept.refl _ _).alloc _
  clear kA hf c hlt hsz kB B1
  go_enter Try.func20, Try.ntmps20
  go_wp2_with fail
  refine (HRu.out _).mono ?_
  rintro e w1 ⟨rfl, hk1⟩
  have K1 := hid (HKB.out.trans hk1)
  have KS1 := hid (HkB.out.trans hk1)
  have B1 := hid (((hk1.block _ (BoxO.lt (x := ⟨1, s⟩) HB1.out) id).trans HB1.out : BoxO w1 (w.heap.size + 1) ⟨1, s⟩))
  clear hk1 HKB HkB HB1
  go_wp2_with fail
  refine (HRu.out _).mono ?_
  rintro e w2 ⟨rfl, hk2⟩
  have ka := ((Kept.refl (fun _ => False) w1).alloc (.cells #[.int .i64 1, .int .i64 2, .int .i64 64, .int .i64 1492, .string ⟨#[5, 212]⟩] 59))
  have R1 : BoxRl (w1.alloc (.cells #[.int .i64 1, .int .i64 2, .int .i64 64, .int .i64 1492, .string ⟨#[5, 212]⟩] 59)) w1.heap.size rule1 := heap_alloc_new w1 _
  have hlt1 : w1.heap.size < (w1.alloc (.cells #[.int .i64 1, .int .i64 2, .int .i64 64, .int .i64 1492, .string ⟨#[5, 212]⟩] 59)).heap.size := by simp
  have R1' : BoxRl w2 w1.heap.size rule1 := (hk2.block _ hlt1 id).trans R1
  have KS3 := (KS1.out.trans ka).trans hk2
  obtain ⟨c3, f3⟩ := Hc.out _ KS3
  have z0 := c3 0 _ rfl
  have z1 := c3 1 _ rfl
  have z2 := c3 2 _ rfl
  have z3 := c3 3 _ rfl
  have z4 := c3 4 _ rfl
  have z5 := c3 5 _ rfl
  have z6 := c3 6 _ rfl
  have z7 := c3 7 _ rfl
  have RA := hid (one_rule R1')
  have K2 := hid ((K1.out.trans ka).trans hk2)
  have k13 := ka.trans hk2
  have OA := hid (one_opt (base := 0) ((k13.block _ (BoxO.lt (x := ⟨1, s⟩) B1.out) id).trans B1.out : BoxO _ (w.heap.size + 1) ⟨1, s⟩) (Nat.zero_le _)).at
  have hsz12 : w.heap.size < w1.heap.size ∧ w.heap.size < w2.heap.size := by
    have h1 := BoxO.lt (x := ⟨1, s⟩) B1.out
    have h2 := (ka.trans hk2).size
    omega
  clear hk2 ka R1 R1' hlt1 KS3 KS1 c3 k13 K1 B1
  obtain ⟨hs1, hs2⟩ := hsz12
  have e1 : ¬ w.heap.size = w2.heap.size := by omega
  have e2 : ¬ w2.heap.size = w.heap.size := by omega
  have hsc : ∀ (X : World) (p : Addr) (v : Value), (X.setCell p v).heap.size = X.heap.size := fun X p v => by simp [World.setCell]
  have key : ∀ (X : World) (o : Obj) (j : Nat), w.heap.size < X.heap.size → (X.alloc o).cell? ⟨w.heap.size, j, none⟩ = X.cell? ⟨w.heap.size, j, none⟩ := fun X o j h => World.cell?_alloc_lt X o ⟨w.heap.size, j, none⟩ h
  go_wp2
  refine bodyPost_ret (v := .agg #[.slice (some ⟨w.heap.size + 1, 0, none⟩) 1 1, .slice (some ⟨w1.heap.size, 0, none⟩) 1 1, .slice (some ⟨w2.heap.size, 0, none⟩) 1 1, .slice none 0 0, .int .i64 5, .int .i64 2, .int .i64 f, .int .i64 2]) (by simp [results, Try.results20, go_sem, key, hsc, hs2, z0, z1, z2, z3, z4, z5, z6, z7]) rfl ?_
  have kS : ∀ X : World, Kept (fun i => i = w.heap.size) w2 X → X.heap.size = w2.heap.size → Kept (fun _ => False) w X → ∃ va vo vp, Ending.returned (.agg #[.slice (some ⟨w.heap.size + 1, 0, none⟩) 1 1, .slice (some ⟨w1.heap.size, 0, none⟩) 1 1, .slice (some ⟨w2.heap.size, 0, none⟩) 1 1, .slice none 0 0, .int .i64 5, .int .i64 2, .int .i64 f, .int .i64 2]) = .returned (.agg #[va, vo, vp, .slice none 0 0, .int .i64 5, .int .i64 2, .int .i64 f, .int .i64 2]) ∧ OptsAt (X.alloc (.cells #[.int .i64 1, .int .i64 2, .int .i64 64, .int .i64 1492, .string ⟨#[5, 212]⟩] 59)) va [⟨1, s⟩] ∧ RulesAt (X.alloc (.cells #[.int .i64 1, .int .i64 2, .int .i64 64, .int .i64 1492, .string ⟨#[5, 212]⟩] 59)) vo [rule1] ∧ RulesAt (X.alloc (.cells #[.int .i64 1, .int .i64 2, .int .i64 64, .int .i64 1492, .string ⟨#[5, 212]⟩] 59)) vp [rule1] ∧ Kept (fun _ => False) w (X.alloc (.cells #[.int .i64 1, .int .i64 2, .int .i64 64, .int .i64 1492, .string ⟨#[5, 212]⟩] 59)) := fun X k hX k0 => by
    have kx := (Kept.refl (fun _ => False) X).alloc (.cells #[.int .i64 1, .int .i64 2, .int .i64 64, .int .i64 1492, .string ⟨#[5, 212]⟩] 59)
    refine ⟨_, _, _, rfl, (OA.kept k (fun i _ e h => by simp [Value.ownBlock] at h; omega)).kept0 kx, (RA.out.kept k (fun i _ e h => by simp [Value.ownBlock] at h; omega)).kept0 kx, ?_, k0.trans kx⟩
    rw [← hX]
    exact one_rule (show BoxRl (X.alloc (.cells #[.int .i64 1, .int .i64 2, .int .i64 64, .int .i64 1492, .string ⟨#[5, 212]⟩] 59)) X.heap.size rule1 from heap_alloc_new X _)
  generalize hX : World.setCell _ ⟨w.heap.size, 7, none⟩ (Value.int .i64 2) = X
  have k1 : Kept (fun i => i = w.heap.size) w2 X := by
    rw [← hX]
    refine Kept.setCell (S := fun i => i = w.heap.size) (p := ⟨w.heap.size, 7, none⟩) ?_ (Or.inr rfl) _
    refine Kept.setCell (S := fun i => i = w.heap.size) (p := ⟨w.heap.size, 6, none⟩) ?_ (Or.inr rfl) _
    refine Kept.setCell (S := fun i => i = w.heap.size) (p := ⟨w.heap.size, 5, none⟩) ?_ (Or.inr rfl) _
    refine Kept.setCell (S := fun i => i = w.heap.size) (p := ⟨w.heap.size, 4, none⟩) ?_ (Or.inr rfl) _
    refine Kept.setCell (S := fun i => i = w.heap.size) (p := ⟨w.heap.size, 3, none⟩) ?_ (Or.inr rfl) _
    refine Kept.setCell (S := fun i => i = w.heap.size) (p := ⟨w.heap.size, 2, none⟩) ?_ (Or.inr rfl) _
    refine Kept.setCell (S := fun i => i = w.heap.size) (p := ⟨w.heap.size, 1, none⟩) ?_ (Or.inr rfl) _
    refine Kept.setCell (S := fun i => i = w.heap.size) (p := ⟨w.heap.size, 0, none⟩) ?_ (Or.inr rfl) _
    exact Kept.refl _ _
  have k2 : X.heap.size = w2.heap.size := by rw [← hX]; simp only [hsc]
  have k3 : Kept (fun _ => False) w X := by
    rw [← hX]
    refine Kept.setCell (p := ⟨w.heap.size, 7, none⟩) ?_ (Or.inl (Nat.le_refl _)) _
    refine Kept.setCell (p := ⟨w.heap.size, 6, none⟩) ?_ (Or.inl (Nat.le_refl _)) _
    refine Kept.setCell (p := ⟨w.heap.size, 5, none⟩) ?_ (Or.inl (Nat.le_refl _)) _
    refine Kept.setCell (p := ⟨w.heap.size, 4, none⟩) ?_ (Or.inl (Nat.le_refl _)) _
    refine Kept.setCell (p := ⟨w.heap.size, 3, none⟩) ?_ (Or.inl (Nat.le_refl _)) _
    refine Kept.setCell (p := ⟨w.heap.size, 2, none⟩) ?_ (Or.inl (Nat.le_refl _)) _
    refine Kept.setCell (p := ⟨w.heap.size, 1, none⟩) ?_ (Or.inl (Nat.le_refl _)) _
    refine Kept.setCell (p := ⟨w.heap.size, 0, none⟩) ?_ (Or.inl (Nat.le_refl _)) _
    exact K2.out
  exact kS X k1 k2 k3
end Go.Proofs.Ytodgkmjiiijfpaa
