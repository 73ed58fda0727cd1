/- The contract of pool.New. -/
import Derived.Test.YtblcojggjplndaaDoorPpMem
import Derived.Test.YtblcojggjplndaaDoorPpAdd
namespace Go.Proofs.YtblcojggjplndaaDoor
open Go.RowKit

set_option maxHeartbeats 2000000 in
set_option maxRecDepth 100000 in
theorem new_bad (x : Ad) (n : Int) (hn : I64 n) (h : ¬ goodP x n) (w : World) :
    Calls Tryd.prog 9 #[adV x, .int .i64 n] w fun e w' => e = .returned (.tuple #[.pointer none, .int .i64 1]) ∧ Kept (fun _ => False) w w' := by
  have HN := hid (number_any x)
  have hr := numAd_range x
  unfold goodP at h
  unfold adV at *
  generalize numAd x = nx at *
  have X1 := hid (four4_new w 23 (.int .u8 (x.a.toNat : Int)) (.int .u8 (x.b.toNat : Int)) (.int .u8 (x.c.toNat : Int)) (.int .u8 (x.d.toNat : Int)))
  have K0 := hid ((Kept.refl (fun _ => False) w).alloc (.cells #[.int .u8 (x.a.toNat : Int), .int .u8 (x.b.toNat : Int), .int .u8 (x.c.toNat : Int), .int .u8 (x.d.toNat : Int)] 23))
  obtain ⟨hn1, hn2⟩ := hn
  go_enter Tryd.func9, Tryd.ntmps9
  go_upto_region 1 with fail
  generalize w.alloc (.cells #[.int .u8 (x.a.toNat : Int), .int .u8 (x.b.toNat : Int), .int .u8 (x.c.toNat : Int), .int .u8 (x.d.toNat : Int)] 23) = W at *
  obtain ⟨⟨c0, c1, c2, c3⟩, _⟩ := X1.out
  by_cases h1 : n < 1
  · clear h hr
    go_wp2
    exact bodyPost_ret (v := .tuple #[.pointer none, .int .i64 1]) (by simp [results, Tryd.results9, go_sem]) rfl ⟨rfl, K0.out⟩
  · by_cases h2 : 256 < n
    · clear h hr
      go_wp2
      exact bodyPost_ret (v := .tuple #[.pointer none, .int .i64 1]) (by simp [results, Tryd.results9, go_sem]) rfl ⟨rfl, K0.out⟩
    · have h3 : 4294967296 < nx + n := by omega
      have w1 : IntKind.u64.wrap nx = nx := by rw [IntKind.wrap_u64]; omega
      have w2 : IntKind.u64.wrap n = n := by rw [IntKind.wrap_u64]; omega
      have w3 : IntKind.u64.wrap (nx + n) = nx + n := by rw [IntKind.wrap_u64]; omega
      clear h
      go_wp2_with fail
      refine (HN.out _).mono ?_
      rintro e w1 ⟨rfl, hk⟩
      have HK := hid (K0.out.trans hk)
      clear hk c0 c1 c2 c3
      go_wp2
      exact bodyPost_ret (v := .tuple #[.pointer none, .int .i64 1]) (by simp [results, Tryd.results9, go_sem]) rfl ⟨rfl, HK.out⟩

set_option maxHeartbeats 4000000 in
set_option maxRecDepth 100000 in
theorem new_good (x : Ad) (n : Nat) (h1 : 1 ≤ n) (h2 : n ≤ 256) (h3 : numAd x + (n : Int) ≤ 4294967296) (w : World) :
    Calls Tryd.prog 9 #[adV x, .int .i64 (n : Int)] w fun e w' => ∃ b, w.heap.size ≤ b ∧ e = .returned (.tuple #[.pointer (some ⟨b, 0, none⟩), .int .i64 0]) ∧ PpAt w' w.heap.size b x (List.replicate n lt0) ∧ Kept (fun _ => False) w w' := by
  have HN := hid (number_any x)
  have hr := numAd_range x
  have HG : Hid (GoodL x (List.replicate n lt0)) := ⟨⟨by rw [List.length_replicate]; omega, fun e he => by rw [List.eq_of_mem_replicate he]; exact ⟨⟨by decide, by decide⟩, ⟨by decide, by decide⟩⟩⟩, Once.nobody n, by rw [List.length_replicate]; exact h3⟩
  unfold adV at *
  generalize hnx : numAd x = nx at *
  have X1 := hid (four4_new w 23 (.int .u8 (x.a.toNat : Int)) (.int .u8 (x.b.toNat : Int)) (.int .u8 (x.c.toNat : Int)) (.int .u8 (x.d.toNat : Int)))
  have K0 := hid ((Kept.refl (fun _ => False) w).alloc (.cells #[.int .u8 (x.a.toNat : Int), .int .u8 (x.b.toNat : Int), .int .u8 (x.c.toNat : Int), .int .u8 (x.d.toNat : Int)] 23))
  have g1 : ¬ (n : Int) < 1 := by omega
  have g2 : ¬ 256 < (n : Int) := by omega
  have g3 : ¬ 4294967296 < nx + (n : Int) := by omega
  have w1 : IntKind.u64.wrap nx = nx := by rw [IntKind.wrap_u64]; omega
  have w2 : IntKind.u64.wrap (n : Int) = (n : Int) := by rw [IntKind.wrap_u64]; omega
  have w3 : IntKind.u64.wrap (nx + (n : Int)) = nx + (n : Int) := by rw [IntKind.wrap_u64]; omega
  clear hnx h1 h2 h3
  go_enter Tryd.func9, Tryd.ntmps9
  go_upto_region 1 with fail
  generalize w.alloc (.cells #[.int .u8 (x.a.toNat : Int), .int .u8 (x.b.toNat : Int), .int .u8 (x.c.toNat : Int), .int .u8 (x.d.toNat : Int)] 23) = W at *
  obtain ⟨⟨c0, c1, c2, c3⟩, _⟩ := X1.out
  go_wp2_with fail
  refine (HN.out _).mono ?_
  rintro e w5 ⟨rfl, hk⟩
  have HK := hid (K0.out.trans hk)
  obtain ⟨⟨d0, d1, d2, d3⟩, _⟩ := X1.out.kept hk (fun h => h)
  clear hk c0 c1 c2 c3
  have hsz : (w5.alloc (.map #[] 0)).heap.size = w5.heap.size + 1 := by simp
  have hsz2 : ((w5.alloc (.map #[] 0)).alloc (.map #[] 0)).heap.size = w5.heap.size + 2 := by simp
  have hmm := @run_makeMap Tryd.prog
  go_upto_region 3 with fail
  go_wp2
  refine bodyPost_ret (v := .tuple #[.pointer (some ⟨w5.heap.size + 2, 0, none⟩), .int .i64 0]) (by simp [results, Tryd.results9, go_sem]) rfl ⟨w5.heap.size + 2, Nat.le_trans HK.out.size (by omega), rfl, ?_, ?_⟩
  · have hA := Assoc.made w5 Tryd.prog 34
    have hB := Assoc.made (w5.alloc (.map #[] 0)) Tryd.prog 23
    have hb := heap_alloc_new ((w5.alloc (.map #[] 0)).alloc (.map #[] 0)) (.cells #[.int .u8 (x.a.toNat : Int), .int .u8 (x.b.toNat : Int), .int .u8 (x.c.toNat : Int), .int .u8 (x.d.toNat : Int), .int .i64 (n : Int), .map (some w5.heap.size), .map (some (w5.heap.size + 1))] 59)
    rw [hsz2] at hb
    rw [hsz] at hB
    refine ⟨some w5.heap.size, some (w5.heap.size + 1), by rw [List.length_replicate]; exact hb, fun e => (by cases e), fun e => (by cases e), fun mb e => ?_, fun kb e => ?_, fun mb kb e1 e2 => ?_, HG.out⟩
    · cases e
      rw [rowP_none]
      exact ⟨HK.out.size, (hA.alloc _).alloc _⟩
    · cases e
      rw [rowP_none]
      exact ⟨Nat.le_succ_of_le HK.out.size, hB.alloc _⟩
    · cases e1
      cases e2
      omega
  · exact ((HK.out.alloc _).alloc _).alloc _
end Go.Proofs.YtblcojggjplndaaDoor
