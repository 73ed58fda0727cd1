/- The contracts of the host's small calls: New, isNone, wanted, mark, State. -/
import Derived.Test.YthpgmfijameddaaHsMem
import Derived.Test.YthpgmfijameddaaAcApp
namespace Go.Proofs.Ythpgmfijameddaa
open Go.RowKit

set_option maxRecDepth 100000 in
theorem isNone_nil (w : World) : Calls Try.prog 16 #[.pointer none] w fun e w' => e = .returned (.bool true) ∧ w' = w := by
  go_enter Try.func16, Try.ntmps16
  go_wp2
  go_ret
  exact ⟨rfl, rfl⟩

set_option maxRecDepth 100000 in
theorem isNone_some (b : Nat) (n : Int) (hn : n ≠ 0) (w : World) (h : w.cell? ⟨b, 9, none⟩ = some (.int .i64 n)) : Calls Try.prog 16 #[.pointer (some ⟨b, 0, none⟩)] w fun e w' => e = .returned (.bool false) ∧ w' = w := by
  have hz : (n == 0) = false := by simpa using hn
  go_enter Try.func16, Try.ntmps16
  go_wp2
  go_ret
  exact ⟨rfl, rfl⟩

theorem HostIn.notNone {w : World} {b : Nat} {av : Value} {h : Hs} (hH : HostIn w b av h) (hg : GoodH h) : Calls Try.prog 16 #[.pointer (some ⟨b, 0, none⟩)] w fun e w' => e = .returned (.bool false) ∧ w' = w := by
  obtain ⟨x0, x1, x2, x3, x4, x5, hx⟩ := six_cells hg.mac
  obtain ⟨y0, y1, y2, y3, y4, y5, hy⟩ := six_cells hg.conc
  exact isNone_some b (h.wait : Int) (by have := hg.wait1; omega) w (hH.cells hx hy).c9

theorem own_one (w : World) (base : Nat) (hb : base ≤ w.heap.size) (t : Int) (v : ByteArray) : OwnT (w.alloc (.cells #[.int .i64 t, .string v] 70)) base (.slice (some ⟨w.heap.size, 0, none⟩) 1 1) [⟨t, v⟩] :=
  ⟨rfl, Or.inr ⟨w.heap.size, 1, #[.int .i64 t, .string v], rfl, hb, heap_alloc_new w _, Nat.le_refl _, by unfold maxLen; omega, rfl, rfl⟩⟩

set_option maxRecDepth 100000 in
theorem wanted_any (b : Nat) (s : ByteArray) (w : World) (h : w.cell? ⟨b, 6, none⟩ = some (.string s)) : Calls Try.prog 30 #[.pointer (some ⟨b, 0, none⟩)] w fun e w' => e = .returned (.agg #[.int .i64 257, .string s]) ∧ Kept (fun _ => False) w w' := by
  have hlt := lt_of_cell h
  simp only [] at hlt
  go_enter Try.func30, Try.ntmps30
  go_wp2
  refine bodyPost_ret (v := .agg #[.int .i64 257, .string s]) (by simp [results, Try.results30, go_sem]) rfl ⟨rfl, ?_⟩
  repeat (refine Kept.setCell ?_ (Or.inl (by simp)) _)
  exact (Kept.refl _ w).alloc _

def markT (u : ByteArray) : List Tg := if u.toList.isEmpty then [] else [⟨259, u⟩]
theorem markF_eq (h : Hs) : markF h = markT h.uniq := rfl
set_option maxRecDepth 100000 in
theorem mark_any (b : Nat) (u : ByteArray) (w : World) (h : w.cell? ⟨b, 7, none⟩ = some (.string u)) : Calls Try.prog 31 #[.pointer (some ⟨b, 0, none⟩)] w fun e w' => ∃ v, e = .returned v ∧ OwnT w' w.heap.size v (markT u) ∧ Kept (fun _ => False) w w' := by
  unfold markT
  by_cases hu : u.toList = []
  · rw [hu]
    simp only [List.isEmpty_nil, if_true]
    go_enter Try.func31, Try.ntmps31
    go_wp2
    go_ret
    exact ⟨_, rfl, OwnT.nil _ _, Kept.refl _ _⟩
  · rw [if_neg (by simpa using hu)]
    have hne : u.toList.isEmpty = false := by simpa using hu
    clear hu
    go_enter Try.func31, Try.ntmps31
    go_wp2
    go_ret
    exact ⟨_, rfl, own_one w w.heap.size (Nat.le_refl _) 259 u, (Kept.refl _ w).alloc _⟩

set_option maxHeartbeats 1000000 in
set_option maxRecDepth 100000 in
theorem newH_ok (m : List UInt8) (hm : m.length = 6) (s u : ByteArray) (hs : s.size ≤ 40) (hu : u.size ≤ 40) (r t : Nat) (hr : r ≤ 10) (h1 : 1 ≤ t) (h2 : t ≤ 100) (w : World) :
    Calls Try.prog 15 #[.agg (Lib.byteCells m).toArray, .string s, .string u, .int .i64 (r : Int), .int .i64 (t : Int)] w fun e w' => e = .returned (.tuple #[.pointer (some ⟨w.heap.size + 1, 0, none⟩), .int .i64 0]) ∧ HSt w w' (w.heap.size + 1) (newH m s u r t) [] := by
  obtain ⟨x0, x1, x2, x3, x4, x5, hx⟩ := six_cells hm
  have Hfin : Hid (HSt w ((w.alloc (.cells #[.int .u8 x0, .int .u8 x1, .int .u8 x2, .int .u8 x3, .int .u8 x4, .int .u8 x5] 23)).alloc (.cells #[.int .u8 x0, .int .u8 x1, .int .u8 x2, .int .u8 x3, .int .u8 x4, .int .u8 x5, .string s, .string u, .int .i64 (r : Int), .int .i64 (t : Int), .int .i64 0, .int .u8 0, .int .u8 0, .int .u8 0, .int .u8 0, .int .u8 0, .int .u8 0, .int .i64 0, .slice none 0 0, .int .i64 0, .int .i64 0] 50)) (w.heap.size + 1) (newH m s u r t) []) := by
    refine ⟨ofHost (w.heap.size + 1) (.slice none 0 0), ⟨.slice none 0 0, ⟨?_, OwnE.nil _ _⟩, fun i => Iff.rfl⟩, fun i hi => ?_, ((Kept.refl _ w).alloc _).alloc _, fun p hp => by simp at hp⟩
    · have h := heap_alloc_new (w.alloc (.cells #[.int .u8 x0, .int .u8 x1, .int .u8 x2, .int .u8 x3, .int .u8 x4, .int .u8 x5] 23)) (.cells #[.int .u8 x0, .int .u8 x1, .int .u8 x2, .int .u8 x3, .int .u8 x4, .int .u8 x5, .string s, .string u, .int .i64 (r : Int), .int .i64 (t : Int), .int .i64 0, .int .u8 0, .int .u8 0, .int .u8 0, .int .u8 0, .int .u8 0, .int .u8 0, .int .i64 0, .slice none 0 0, .int .i64 0, .int .i64 0] 50)
      rw [show (w.alloc (.cells #[.int .u8 x0, .int .u8 x1, .int .u8 x2, .int .u8 x3, .int .u8 x4, .int .u8 x5] 23)).heap.size = w.heap.size + 1 from by simp] at h
      unfold hostList newH
      simp only []
      rw [hx]
      exact h
    · rcases hi with hi | hi
      · omega
      · cases hi
  rw [hx]
  have q1 : ¬ (s.size > 40) := by omega
  have q2 : ¬ (u.size > 40) := by omega
  clear hx
  go_enter Try.func15, Try.ntmps15
  go_wp2
  go_ret2
  exact ⟨rfl, Hfin.out⟩

/-- What State tells. -/
def stateV (h : Hs) : Value := .tuple #[.int .i64 h.state, .agg (Lib.byteCells h.conc).toArray, .int .i64 h.session]
set_option maxHeartbeats 1000000 in
set_option maxRecDepth 100000 in
theorem state_any (b : Nat) (av : Value) (h : Hs) (hg : GoodH h) (w : World) (hH : HostIn w b av h) :
    Calls Try.prog 10 #[.pointer (some ⟨b, 0, none⟩)] w fun e w' => e = .returned (stateV h) ∧ Kept (fun _ => False) w w' := by
  obtain ⟨x0, x1, x2, x3, x4, x5, hx⟩ := six_cells hg.mac
  obtain ⟨y0, y1, y2, y3, y4, y5, hy⟩ := six_cells hg.conc
  have hlt : b < w.heap.size := hH.lt (Or.inl rfl)
  have HN := hid (fun W (hk : Kept (fun _ => False) w W) => (hH.kept0 hk).notNone hg)
  have HC := hid (fun W (hk : Kept (fun _ => False) w W) => (hH.kept0 hk).cells hx hy)
  obtain ⟨w1, hw1⟩ : ∃ w1, w1 = w.alloc (.cells #[.int .u8 0, .int .u8 0, .int .u8 0, .int .u8 0, .int .u8 0, .int .u8 0] 23) := ⟨_, rfl⟩
  have Hw1 := hid hw1
  have K1 : Hid (Kept (fun _ => False) w w1) := by rw [hw1]; exact (Kept.refl _ w).alloc _
  have O1 : Hid (w1.heap[w.heap.size]? = some (.cells #[.int .u8 0, .int .u8 0, .int .u8 0, .int .u8 0, .int .u8 0, .int .u8 0] 23 (0, 0))) := by rw [hw1]; exact heap_alloc_new w _
  have HN1 := hid (HN.out w1 K1.out)
  rw [hw1] at HN1
  unfold stateV
  rw [hy]
  clear hH hg hx hy hw1 HN
  go_enter Try.func10, Try.ntmps10
  go_wp2_with (go_at_call 16; refine HN1.out.mono ?_; rintro e w' ⟨rfl, rfl⟩)
  rw [← Hw1.out]
  have KK : ∀ {W : World}, Kept (fun i => i = w.heap.size) w1 W → Kept (fun _ => False) w W := fun h => K1.out.andThen h (fun i hi e => absurd e (by omega))
  have r10 : ∀ W, Kept (fun i => i = w.heap.size) w1 W → W.cell? ⟨b, 10, none⟩ = some (.int .i64 h.state) := fun W hW => (HC.out W (KK hW)).c10
  have r11 : ∀ W, Kept (fun i => i = w.heap.size) w1 W → W.cell? ⟨b, 11, none⟩ = some (.int .u8 y0) := fun W hW => (HC.out W (KK hW)).c11
  have r12 : ∀ W, Kept (fun i => i = w.heap.size) w1 W → W.cell? ⟨b, 12, none⟩ = some (.int .u8 y1) := fun W hW => (HC.out W (KK hW)).c12
  have r13 : ∀ W, Kept (fun i => i = w.heap.size) w1 W → W.cell? ⟨b, 13, none⟩ = some (.int .u8 y2) := fun W hW => (HC.out W (KK hW)).c13
  have r14 : ∀ W, Kept (fun i => i = w.heap.size) w1 W → W.cell? ⟨b, 14, none⟩ = some (.int .u8 y3) := fun W hW => (HC.out W (KK hW)).c14
  have r15 : ∀ W, Kept (fun i => i = w.heap.size) w1 W → W.cell? ⟨b, 15, none⟩ = some (.int .u8 y4) := fun W hW => (HC.out W (KK hW)).c15
  have r16 : ∀ W, Kept (fun i => i = w.heap.size) w1 W → W.cell? ⟨b, 16, none⟩ = some (.int .u8 y5) := fun W hW => (HC.out W (KK hW)).c16
  have r17 : ∀ W, Kept (fun i => i = w.heap.size) w1 W → W.cell? ⟨b, 17, none⟩ = some (.int .i64 h.session) := fun W hW => (HC.out W (KK hW)).c17
  clear HN1 HC
  refine wp_region_held_drew (S := Kept (fun i => i = w.heap.size) w1) (by kernel_rfl) ((Kept.refl _ w1).drew) (fun hSd => ?_)
  refine wpAnyH_take (i := 0) (v := ?_) rfl (by kernel_rfl) (by kernel_rfl) (by kernel_rfl) (fun _ _ _ h => h) (Or.inl ⟨by kernel_rfl, fun W hSW => by go_simp; try with_reducible rfl⟩) (by assumption) ?_
  try simp only [List.getElem_toArray]
  try simp only [List.getElem_cons_succ]
  try simp only [List.getElem_cons_zero]
  try simp only [Act.put]
  try simp only [List.setIfInBounds_toArray]
  try simp only [List.set_cons_succ]
  try simp only [List.set_cons_zero]
  refine wpAnyH_take (i := 1) (v := ?_) rfl (by kernel_rfl) (by kernel_rfl) (by kernel_rfl) (fun _ _ _ h => h) (Or.inl ⟨by kernel_rfl, fun W hSW => by go_simp; try with_reducible rfl⟩) (by assumption) ?_
  try simp only [List.getElem_toArray]
  try simp only [List.getElem_cons_succ]
  try simp only [List.getElem_cons_zero]
  try simp only [Act.put]
  try simp only [List.setIfInBounds_toArray]
  try simp only [List.set_cons_succ]
  try simp only [List.set_cons_zero]
  refine wpAnyH_take (i := 2) (v := ?_) rfl (by kernel_rfl) (by kernel_rfl) (by kernel_rfl) (fun _ _ _ h => h) (Or.inl ⟨by kernel_rfl, fun W hSW => by go_simp; try with_reducible rfl⟩) (by assumption) ?_
  try simp only [List.getElem_toArray]
  try simp only [List.getElem_cons_succ]
  try simp only [List.getElem_cons_zero]
  try simp only [Act.put]
  try simp only [List.setIfInBounds_toArray]
  try simp only [List.set_cons_succ]
  try simp only [List.set_cons_zero]
  refine wpAnyH_take (i := 3) (v := ?_) rfl (by kernel_rfl) (by kernel_rfl) (by kernel_rfl) (fun _ _ _ h => h) (Or.inl ⟨by kernel_rfl, fun W hSW => by go_simp; try with_reducible rfl⟩) (by assumption) ?_
  try simp only [List.getElem_toArray]
  try simp only [List.getElem_cons_succ]
  try simp only [List.getElem_cons_zero]
  try simp only [Act.put]
  try simp only [List.setIfInBounds_toArray]
  try simp only [List.set_cons_succ]
  try simp only [List.set_cons_zero]
  refine wpAnyH_take (i := 4) (v := ?_) rfl (by kernel_rfl) (by kernel_rfl) (by kernel_rfl) (fun _ _ _ h => h) (Or.inl ⟨by kernel_rfl, fun W hSW => by go_simp; try with_reducible rfl⟩) (by assumption) ?_
  try simp only [List.getElem_toArray]
  try simp only [List.getElem_cons_succ]
  try simp only [List.getElem_cons_zero]
  try simp only [Act.put]
  try simp only [List.setIfInBounds_toArray]
  try simp only [List.set_cons_succ]
  try simp only [List.set_cons_zero]
  refine wpAnyH_take (i := 5) (v := ?_) rfl (by kernel_rfl) (by kernel_rfl) (by kernel_rfl) (fun _ _ _ h => h) (Or.inl ⟨by kernel_rfl, fun W hSW => by go_simp; try with_reducible rfl⟩) (by assumption) ?_
  try simp only [List.getElem_toArray]
  try simp only [List.getElem_cons_succ]
  try simp only [List.getElem_cons_zero]
  try simp only [Act.put]
  try simp only [List.setIfInBounds_toArray]
  try simp only [List.set_cons_succ]
  try simp only [List.set_cons_zero]
  refine wpAnyH_take (i := 6) (v := ?_) rfl (by kernel_rfl) (by kernel_rfl) (by kernel_rfl) (fun _ _ _ h => h) (Or.inl ⟨by kernel_rfl, fun W hSW => by go_simp; try with_reducible rfl⟩) (by assumption) ?_
  try simp only [List.getElem_toArray]
  try simp only [List.getElem_cons_succ]
  try simp only [List.getElem_cons_zero]
  try simp only [Act.put]
  try simp only [List.setIfInBounds_toArray]
  try simp only [List.set_cons_succ]
  try simp only [List.set_cons_zero]
  refine wpAnyH_take (i := 7) (v := ?_) rfl (by kernel_rfl) (by kernel_rfl) (by kernel_rfl) (fun _ _ _ h => h) (Or.inl ⟨by kernel_rfl, fun W hSW => by go_simp; try with_reducible rfl⟩) (by assumption) ?_
  try simp only [List.getElem_toArray]
  try simp only [List.getElem_cons_succ]
  try simp only [List.getElem_cons_zero]
  try simp only [Act.put]
  try simp only [List.setIfInBounds_toArray]
  try simp only [List.set_cons_succ]
  try simp only [List.set_cons_zero]
  refine wpAnyH_take (i := 8) (v := ?_) rfl (by kernel_rfl) (by kernel_rfl) (by kernel_rfl) (fun _ _ _ h => h) (Or.inl ⟨by kernel_rfl, fun W hSW => by go_simp; try with_reducible rfl⟩) (by assumption) ?_
  try simp only [List.getElem_toArray]
  try simp only [List.getElem_cons_succ]
  try simp only [List.getElem_cons_zero]
  try simp only [Act.put]
  try simp only [List.setIfInBounds_toArray]
  try simp only [List.set_cons_succ]
  try simp only [List.set_cons_zero]
  refine wpAnyH_take (i := 9) (v := ?_) rfl (by kernel_rfl) (by kernel_rfl) (by kernel_rfl) (fun _ _ _ h => h) (Or.inl ⟨by kernel_rfl, fun W hSW => by go_simp; try with_reducible rfl⟩) (by assumption) ?_
  try simp only [List.getElem_toArray]
  try simp only [List.getElem_cons_succ]
  try simp only [List.getElem_cons_zero]
  try simp only [Act.put]
  try simp only [List.setIfInBounds_toArray]
  try simp only [List.set_cons_succ]
  try simp only [List.set_cons_zero]
  refine wpAnyH_take (i := 10) (v := ?_) rfl (by kernel_rfl) (by kernel_rfl) (by kernel_rfl) (fun _ _ _ h => h) (Or.inl ⟨by kernel_rfl, fun W hSW => by go_simp; try with_reducible rfl⟩) (by assumption) ?_
  try simp only [List.getElem_toArray]
  try simp only [List.getElem_cons_succ]
  try simp only [List.getElem_cons_zero]
  try simp only [Act.put]
  try simp only [List.setIfInBounds_toArray]
  try simp only [List.set_cons_succ]
  try simp only [List.set_cons_zero]
  refine wpAnyH_take (i := 11) (v := ?_) rfl (by kernel_rfl) (by kernel_rfl) (by kernel_rfl) (fun _ _ _ h => h) (Or.inl ⟨by kernel_rfl, fun W hSW => by go_simp; try with_reducible rfl⟩) (by assumption) ?_
  try simp only [List.getElem_toArray]
  try simp only [List.getElem_cons_succ]
  try simp only [List.getElem_cons_zero]
  try simp only [Act.put]
  try simp only [List.setIfInBounds_toArray]
  try simp only [List.set_cons_succ]
  try simp only [List.set_cons_zero]
  refine wpAnyH_take (i := 12) (v := ?_) rfl (by kernel_rfl) (by kernel_rfl) (by kernel_rfl) (fun _ _ _ h => h) (Or.inl ⟨by kernel_rfl, fun W hSW => by go_simp; try with_reducible rfl⟩) (by assumption) ?_
  try simp only [List.getElem_toArray]
  try simp only [List.getElem_cons_succ]
  try simp only [List.getElem_cons_zero]
  try simp only [Act.put]
  try simp only [List.setIfInBounds_toArray]
  try simp only [List.set_cons_succ]
  try simp only [List.set_cons_zero]
  refine wpAnyH_take (i := 13) (v := ?_) rfl (by kernel_rfl) (by kernel_rfl) (by kernel_rfl) (fun _ _ _ h => h) (Or.inl ⟨by kernel_rfl, fun W hSW => by go_simp; try with_reducible rfl⟩) (by assumption) ?_
  try simp only [List.getElem_toArray]
  try simp only [List.getElem_cons_succ]
  try simp only [List.getElem_cons_zero]
  try simp only [Act.put]
  try simp only [List.setIfInBounds_toArray]
  try simp only [List.set_cons_succ]
  try simp only [List.set_cons_zero]
  refine wpAnyH_take (i := 14) (v := ?_) rfl (by kernel_rfl) (by kernel_rfl) (by kernel_rfl) (fun _ _ _ h => h) (Or.inl ⟨by kernel_rfl, fun W hSW => by go_simp; try with_reducible rfl⟩) (by assumption) ?_
  try simp only [List.getElem_toArray]
  try simp only [List.getElem_cons_succ]
  try simp only [List.getElem_cons_zero]
  try simp only [Act.put]
  try simp only [List.setIfInBounds_toArray]
  try simp only [List.set_cons_succ]
  try simp only [List.set_cons_zero]
  refine wpAnyH_take (i := 15) (v := ?_) rfl (by kernel_rfl) (by kernel_rfl) (by kernel_rfl) (fun _ _ _ h => h) (Or.inl ⟨by kernel_rfl, fun W hSW => by go_simp; try with_reducible rfl⟩) (by assumption) ?_
  try simp only [List.getElem_toArray]
  try simp only [List.getElem_cons_succ]
  try simp only [List.getElem_cons_zero]
  try simp only [Act.put]
  try simp only [List.setIfInBounds_toArray]
  try simp only [List.set_cons_succ]
  try simp only [List.set_cons_zero]
  refine wpAnyH_ready (rs := [16]) (by kernel_rfl) (by simp) ?_
  refine AllReadyH.cons rfl (fun K hK => ?_) AllReadyH.nil
  refine step_store_row rfl _ _ _ rfl w.heap.size #[.int .u8 0, .int .u8 0, .int .u8 0, .int .u8 0, .int .u8 0, .int .u8 0] #[.int .u8 y0, .int .u8 y1, .int .u8 y2, .int .u8 y3, .int .u8 y4, .int .u8 y5] rfl rfl O1.out (by kernel_rfl) rfl (by simp [Value.oneCell']) ?_
  refine hK.out _ _ (hSd.setRow (Or.inr (by rfl)) _) (fun _ => ?_)
  clear hK K
  try simp only [List.getElem_toArray]
  try simp only [List.getElem_cons_succ]
  try simp only [List.getElem_cons_zero]
  try simp only [Act.put]
  try simp only [List.setIfInBounds_toArray]
  try simp only [List.set_cons_succ]
  try simp only [List.set_cons_zero]
  refine wpAnyH_take (i := 17) (v := ?_) rfl (by kernel_rfl) (by kernel_rfl) (by kernel_rfl) (fun _ _ _ h => h) (Or.inl ⟨by kernel_rfl, fun W hSW => by go_simp; try with_reducible rfl⟩) (by assumption) ?_
  try simp only [List.getElem_toArray]
  try simp only [List.getElem_cons_succ]
  try simp only [List.getElem_cons_zero]
  try simp only [Act.put]
  try simp only [List.setIfInBounds_toArray]
  try simp only [List.set_cons_succ]
  try simp only [List.set_cons_zero]
  refine wpAnyH_done (by kernel_rfl) ?_ _
  have hs := setRow_heap w1.drew w.heap.size #[.int .u8 0, .int .u8 0, .int .u8 0, .int .u8 0, .int .u8 0, .int .u8 0] #[.int .u8 y0, .int .u8 y1, .int .u8 y2, .int .u8 y3, .int .u8 y4, .int .u8 y5] 23 (0, 0) O1.out
  have K2 := hid ((K1.out.drew).setRow (g := w.heap.size) (Or.inl (Nat.le_refl _)) #[.int .u8 y0, .int .u8 y1, .int .u8 y2, .int .u8 y3, .int .u8 y4, .int .u8 y5])
  generalize w1.drew.setRow w.heap.size #[.int .u8 y0, .int .u8 y1, .int .u8 y2, .int .u8 y3, .int .u8 y4, .int .u8 y5] = w2 at *
  have hg2 := fun j => cell_of_row w2 w.heap.size j _ _ _ hs
  have g0 := hg2 0
  have g1 := hg2 1
  have g2 := hg2 2
  have g3 := hg2 3
  have g4 := hg2 4
  have g5 := hg2 5
  simp only [List.getElem?_toArray, List.getElem?_cons_zero, List.getElem?_cons_succ] at g0 g1 g2 g3 g4 g5
  clear hg2 hs
  go_wp2
  refine bodyPost_ret (v := .tuple #[.int .i64 h.state, .agg #[.int .u8 y0, .int .u8 y1, .int .u8 y2, .int .u8 y3, .int .u8 y4, .int .u8 y5], .int .i64 h.session]) (by simp [results, Try.results10, go_sem, g0, g1, g2, g3, g4, g5]) rfl ⟨rfl, ?_⟩
  exact K2.out
end Go.Proofs.Ythpgmfijameddaa
