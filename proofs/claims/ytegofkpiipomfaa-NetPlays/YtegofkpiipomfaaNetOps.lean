/- The contracts of New and Deliver, for every net, a nil one too. -/
import Derived.Test.YtegofkpiipomfaaDel1
namespace Go.Proofs.Ytegofkpiipomfaa
open Go.RowKit

theorem new_any (w : World) : Calls Try.prog 5 #[] w fun e w' => e = .returned (.pointer (some ⟨w.heap.size, 0, none⟩)) ∧ w' = w.alloc (.cells #[.slice none 0 0, .map none, .map none] 35) := by
  go_enter Try.func5, Try.ntmps5
  go_wp2
  go_ret
  exact ⟨rfl, rfl⟩

def s0 : NetSt := ⟨[], [], []⟩

theorem new_at (w : World) : NetAt (fun i => i = w.heap.size) (w.alloc (.cells #[.slice none 0 0, .map none, .map none] 35)) w.heap.size s0 := by
  refine ⟨.slice none 0 0, none, none, ⟨by simp, by simp, by simp, fun i => (by rw [World.frozen?, heap_alloc_new]; simp), OwnG.nil _ _, rfl, rfl, (by simp [Value.ownBlock]), (by simp), (by simp), fun i h => (by cases h), fun i h => (by cases h), fun i h => (by cases h)⟩, fun i => ?_⟩
  constructor
  · intro h
    exact Or.inl h
  · rintro (h | h | h | h)
    · exact h
    · cases h
    · cases h
    · cases h

theorem good0 : Good s0 := ⟨fun x hx => (by cases hx), fun k i => ⟨(by simp [sentS, s0, findT, sentOf]), (by simp [sentS, s0, findT, sentOf])⟩, fun k i => ⟨(by simp [lostS, s0, findT, lostOf]), (by simp [lostS, s0, findT, lostOf])⟩, (by simp [s0])⟩

section
variable {S : Nat → Prop} {w : World} {b : Nat} {s : NetSt}

theorem Next.andThen {S3 : Nat → Prop} {w' w'' : World} {s' : NetSt} (h : ∀ i, S3 i → S i ∨ w.heap.size ≤ i) (hk : Kept S w w') (hn : Next S3 w' w'' b s') : Next S w w'' b s' := by
  obtain ⟨S2, h4, h5, h6⟩ := hn
  refine ⟨S2, h4, fun i hi => ?_, hk.andThen h6 (fun i hi t => ?_)⟩
  · rcases h5 i hi with h' | h'
    · exact h i h'
    · exact Or.inr (Nat.le_trans hk.size h')
  · rcases h i t with h' | h'
    · exact h'
    · omega

theorem fieldG (a c t : Int) (x : ByteArray) (w : World) : Sem.run Try.prog (Instr.field 56 (.agg #[.int .i64 a, .int .i64 c, .string x, .int .i64 t]) 0) w = .ok (.agg #[.int .i64 a, .int .i64 c, .string x]) w := by kernel_rfl

/-- An answer: the datagram, or none and the error. -/
def ansV (x : Gr) (e : Int) : Value := .tuple #[.agg #[.int .i64 x.src, .int .i64 x.dst, .string x.data], .int .i64 e]
def g0 : Gr := ⟨0, 0, ⟨#[]⟩, 0⟩

theorem deliver_no (p : Value) (i e : Int) (he : e ≠ 0) (hp : ∀ W, Kept (fun _ => False) w W → Calls Try.prog 31 #[p, .int .i64 i] W fun e' w' => e' = .returned (.int .i64 e) ∧ w' = W) :
    Calls Try.prog 8 #[p, .int .i64 i] w fun e' w' => e' = .returned (ansV g0 e) ∧ Kept (fun _ => False) w w' := by
  have Hp := hid (fun o => hp (w.alloc o) ((Kept.refl _ w).alloc o))
  have hne : ((e : Int) != 0) = true := by simpa using he
  clear hp
  unfold ansV g0
  go_enter Try.func8, Try.ntmps8
  go_wp2_with fail
  refine (Hp.out _).mono ?_
  rintro e' w' ⟨rfl, rfl⟩
  go_wp2
  (try simp only [Exit.inBlock, Exit.then])
  refine bodyPost_ret (v := .tuple #[.agg #[.int .i64 0, .int .i64 0, .string ⟨#[]⟩], .int .i64 e]) (by simp [results, Try.results8, go_sem]) rfl ⟨rfl, ?_⟩
  exact (Kept.refl _ w).alloc _

theorem twice_no (p : Value) (i e : Int) (he : e ≠ 0) (hp : Calls Try.prog 31 #[p, .int .i64 i] w fun e' w' => e' = .returned (.int .i64 e) ∧ w' = w) :
    Calls Try.prog 12 #[p, .int .i64 i] w fun e' w' => e' = .returned (.int .i64 e) ∧ w' = w := by
  have Hp := hid hp
  have hne : ((e : Int) != 0) = true := by simpa using he
  clear hp
  go_enter Try.func12, Try.ntmps12
  go_wp2_with fail
  refine (Hp.out).mono ?_
  rintro e' w' ⟨rfl, rfl⟩
  go_wp2
  go_ret
  exact ⟨rfl, rfl⟩

theorem place_bad (h : NetAt S w b s) (i : Int) (hi : i < 0 ∨ (s.grams.length : Int) ≤ i) : ∀ W, Kept (fun _ => False) w W → Calls Try.prog 31 #[.pointer (some ⟨b, 0, none⟩), .int .i64 i] W fun e' w' => e' = .returned (.int .i64 3) ∧ w' = W := fun W hW => by
  have := place_any (h.kept0 hW) i
  rwa [placeI, if_pos hi] at this

theorem place_good (h : NetAt S w b s) (j : Nat) (hj : j < s.grams.length) : ∀ W, Kept (fun _ => False) w W → Calls Try.prog 31 #[.pointer (some ⟨b, 0, none⟩), .int .i64 (j : Int)] W fun e' w' => e' = .returned (.int .i64 0) ∧ w' = W := fun W hW => by
  have := place_any (h.kept0 hW) (j : Int)
  rwa [placeI, if_neg (by omega)] at this

set_option maxHeartbeats 1000000 in
set_option maxRecDepth 100000 in
theorem deliver_ok (h : NetAt S w b s) (j : Nat) (hj : j < s.grams.length) :
    Calls Try.prog 8 #[.pointer (some ⟨b, 0, none⟩), .int .i64 (j : Int)] w fun e w' => e = .returned (ansV (getG s.grams j) 0) ∧ Next S w w' b { s with grams := s.grams.eraseIdx j } := by
  have Hp := hid (fun o => place_good h j hj (w.alloc o) ((Kept.refl _ w).alloc o))
  have Ht := hid (fun o => take_any (h.alloc o) j hj)
  have Hlt : Hid (∀ i, S i → i < w.heap.size) := fun i hi => h.lt hi
  clear h hj
  unfold ansV
  unfold grV at Ht
  generalize getG s.grams j = x at *
  have hf := fieldG x.src x.dst x.turn x.data
  go_enter Try.func8, Try.ntmps8
  go_wp2_with fail
  refine (Hp.out _).mono ?_
  rintro e' w' ⟨rfl, rfl⟩
  go_wp2_with fail
  refine (Ht.out _).mono ?_
  rintro e' w2 ⟨rfl, S2, hA2, hS2, hK2⟩
  have hns : ¬ S w.heap.size := fun e => by have := Hlt.out _ e; omega
  have hR : w2.heap[w.heap.size]? = _ := (hK2.block w.heap.size (by simp) hns).trans (heap_alloc_new w _)
  have R0 : w2.cell? ⟨w.heap.size, 0, none⟩ = some (.int .i64 0) := by simp only [World.cell?, hR]; rfl
  have R1 : w2.cell? ⟨w.heap.size, 1, none⟩ = some (.int .i64 0) := by simp only [World.cell?, hR]; rfl
  have R2 : w2.cell? ⟨w.heap.size, 2, none⟩ = some (.string ⟨#[]⟩) := by simp only [World.cell?, hR]; rfl
  have RF : ∀ j, w2.frozen? ⟨w.heap.size, j, none⟩ = false := fun j => by simp [World.frozen?, hR]
  have F0 := RF 0
  have F1 := RF 1
  have F2 := RF 2
  have fin : Hid (∀ vs, Next S w (w2.setCells w.heap.size 0 vs) b { s with grams := s.grams.eraseIdx j }) := fun vs => by
    have hgw := grown_setCells (g := w.heap.size) vs 0 w2
    refine ⟨S2, hA2.kept (T := fun i => i = w.heap.size) ((Kept.refl _ w2).grown hgw (fun j hj => Or.inr (Option.some.inj hj).symm)) (fun i hi e => ?_), fun i hi => ?_, ?_⟩
    · rcases hS2 i hi with h | h
      · exact hns (e ▸ h)
      · simp at h
        omega
    · rcases hS2 i hi with h | h
      · exact Or.inl h
      · simp at h
        exact Or.inr (by omega)
    · exact ((((Kept.refl S w).alloc _).andThen hK2 (fun i _ h => h)).grown hgw (fun j hj => Or.inl (Nat.le_of_eq (Option.some.inj hj))))
  clear hR RF hA2 hS2 hK2 hns Ht Hp
  go_wp2
  (try simp only [Exit.inBlock, Exit.then])
  refine bodyPost_ret (v := .tuple #[.agg #[.int .i64 x.src, .int .i64 x.dst, .string x.data], .int .i64 0]) (by simp [results, Try.results8, go_sem, R0, R1, R2]) rfl ⟨rfl, ?_⟩
  exact fin.out [.int .i64 x.src, .int .i64 x.dst, .string x.data]

end
end Go.Proofs.Ytegofkpiipomfaa
