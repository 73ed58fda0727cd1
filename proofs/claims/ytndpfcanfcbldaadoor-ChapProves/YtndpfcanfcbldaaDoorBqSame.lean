/- The book's SamePackets at two lists of the same packets, without options. -/
import Derived.Test.YtndpfcanfcbldaaDoorBqRow
import Derived.Deep.QuietTactic
import Derived.BigQuiet
namespace Go.Proofs.YtndpfcanfcbldaaDoor.BPackets
open Go.RowKit

set_option maxHeartbeats 400000 in
set_option maxRecDepth 100000 in
theorem sameNone (w : World) : Calls Tryd.prog 40 #[.slice none 0 0, .slice none 0 0] w fun e w' => e = .returned (.bool true) ∧ w' = w := by
  go_enter Tryd.func40, Tryd.ntmps40
  go_wp2
  go_loopw [5] (fun vi wr => vi = .int .i64 0 ∧ wr = w) (fun _ _ => 0)
  case atStart => exact ⟨rfl, rfl⟩
  case round =>
    obtain ⟨rfl, rfl⟩ := hrel
    go_wp2
    go_ret
    exact ⟨rfl, rfl⟩

set_option maxHeartbeats 4000000 in
set_option maxRecDepth 100000 in
theorem samePackets_eq (v u : Value) (l : List Pq) (w : World) (hv : RdQ w v l) (hu : RdQ w u l) (hl : l.length ≤ 1000000) :
    Calls Tryd.prog 23 #[v, u] w fun e w' => e = .returned (.bool true) ∧ Kept (fun _ => False) w w' := by
  obtain ⟨b1, hv⟩ := hv
  obtain ⟨b2, hu⟩ := hu
  obtain ⟨p, cap, hp⟩ := slice_of hv
  subst hp
  obtain ⟨q, cbp, hq⟩ := slice_of hu
  subst hq
  have HV := hid (fun W (hk : Kept (fun _ => False) w W) => hv.kept hk)
  have HU := hid (fun W (hk : Kept (fun _ => False) w W) => hu.kept hk)
  have HS := hid sameNone
  clear hv hu
  go_enter Tryd.func23, Tryd.ntmps23
  go_wp2
  go_loopw [5] (fun vi wr => ∃ j : Nat, j ≤ l.length ∧ vi = .int .i64 (j : Int) ∧ Hid (Kept (fun _ => False) w wr)) (fun vi _ => l.length - (intOf vi).toNat)
  case atStart => exact ⟨0, Nat.zero_le _, rfl, Kept.refl _ _⟩
  case round =>
    obtain ⟨j, hj, rfl, HI⟩ := hrel
    by_cases hlt : j < l.length
    · have hltz : (j : Int) < (l.length : Int) := by omega
      obtain ⟨x, hx⟩ : ∃ x, l[j]? = some x := ⟨l[j], by simp [hlt]⟩
      obtain ⟨g, rfl, hcap, c0, c1, c2, c3, _⟩ := (HV.out _ HI.out).at hx
      obtain ⟨g2, rfl, hcbp, d0, d1, d2, d3, _⟩ := (HU.out _ HI.out).at hx
      obtain ⟨xc, xi, xd⟩ := x
      simp only at c0 c1 c3 d0 d1 d3
      have e1 : (xc == xc) = true := by simp
      have e2 : (xi == xi) = true := by simp
      have e3 : (xd.toList == xd.toList) = true := by simp
      clear hx
      go_wp2
      go_quiet ((go_at_call 40; exact Calls.quiet_of_same (HS.out _)))
      go_wp2
      exact ⟨⟨j + 1, hlt, by go_num, HI.out.drewN _⟩, by simp [intOf]; omega⟩
    · obtain rfl : j = l.length := by omega
      have hltz : ¬ (l.length : Int) < (l.length : Int) := by omega
      go_wp2
      go_ret
      exact ⟨rfl, HI.out⟩
end Go.Proofs.YtndpfcanfcbldaaDoor.BPackets
