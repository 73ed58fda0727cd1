/- The parts of the table of package auto: each function that makes one makes a map of just these rows. -/
import Derived.Test.YtcmdfcdmfdheeaaAuLit2
namespace Go.Proofs.Ytcmdfcdmfdheeaa
open Go.RowKit

def wantedR : List Rw := [⟨0, 0, 2, []⟩, ⟨1, 0, 6, [4, 6]⟩, ⟨2, 1, 0, []⟩, ⟨3, 1, 1, [2]⟩, ⟨4, 1, 0, []⟩, ⟨5, 1, 1, []⟩, ⟨6, 1, 1, []⟩, ⟨7, 1, 1, []⟩, ⟨8, 1, 1, []⟩, ⟨9, 1, 1, [1]⟩, ⟨0, 2, 1, [2]⟩, ⟨2, 2, 6, [4, 6]⟩, ⟨4, 2, 5, []⟩, ⟨1, 3, 0, [3]⟩, ⟨3, 3, 2, []⟩, ⟨5, 3, 4, []⟩, ⟨6, 3, 4, [4, 9]⟩, ⟨7, 3, 4, [4, 9]⟩, ⟨8, 3, 4, [4, 9]⟩, ⟨9, 3, 4, [1, 4, 9]⟩]
set_option maxHeartbeats 4000000 in
set_option maxRecDepth 100000 in
theorem wanted_any (w : World) : Calls Try.prog 85 #[] w fun e w' => ∃ v, e = .returned v ∧ LitIs w w' v wantedR ∧ Kept (fun _ => False) w w' := by
  go_enter Try.func85, Try.ntmps85
  go_wp2
  refine lit_region "table.go:35" wantedR 53 (by kernel_rfl) (by kernel_rfl) (by kernel_rfl) (by kernel_rfl) (by rfl) ?_
  rintro ⟨tm, df⟩ w' hk hs hd ⟨v, hv, hl⟩
  simp only at hs hd
  subst hd
  go_wp2
  refine bodyPost_ret (v := v) ?_ rfl ⟨v, rfl, hl, hk⟩
  simp [results, Try.results85, go_sem]
  simpa [slot, Array.getD_eq_getD_getElem?] using hv

def waitedR : List Rw := [⟨4, 4, 4, [9]⟩, ⟨5, 4, 5, [9]⟩, ⟨6, 4, 6, [6]⟩, ⟨7, 4, 6, [6]⟩, ⟨8, 4, 8, [6]⟩, ⟨4, 5, 2, [3]⟩, ⟨5, 5, 3, [3]⟩, ⟨6, 5, 3, [3]⟩, ⟨7, 5, 3, [3]⟩, ⟨8, 5, 3, [3]⟩]
set_option maxHeartbeats 4000000 in
set_option maxRecDepth 100000 in
theorem waited_any (w : World) : Calls Try.prog 86 #[] w fun e w' => ∃ v, e = .returned v ∧ LitIs w w' v waitedR ∧ Kept (fun _ => False) w w' := by
  go_enter Try.func86, Try.ntmps86
  go_wp2
  refine lit_region "table.go:64" waitedR 33 (by kernel_rfl) (by kernel_rfl) (by kernel_rfl) (by kernel_rfl) (by rfl) ?_
  rintro ⟨tm, df⟩ w' hk hs hd ⟨v, hv, hl⟩
  simp only at hs hd
  subst hd
  go_wp2
  refine bodyPost_ret (v := v) ?_ rfl ⟨v, rfl, hl, hk⟩
  simp [results, Try.results86, go_sem]
  simpa [slot, Array.getD_eq_getD_getElem?] using hv

def askedR : List Rw := [⟨2, 6, 2, [10]⟩, ⟨3, 6, 8, [4, 6, 7]⟩, ⟨6, 6, 8, [7]⟩, ⟨7, 6, 9, [7, 0]⟩, ⟨8, 6, 8, [7]⟩, ⟨9, 6, 8, [1, 6, 7]⟩, ⟨2, 7, 2, [10]⟩, ⟨3, 7, 6, [4, 6, 8]⟩, ⟨6, 7, 6, [8]⟩, ⟨7, 7, 7, [8]⟩, ⟨8, 7, 6, [8]⟩, ⟨9, 7, 6, [1, 6, 8]⟩]
set_option maxHeartbeats 4000000 in
set_option maxRecDepth 100000 in
theorem asked_any (w : World) : Calls Try.prog 87 #[] w fun e w' => ∃ v, e = .returned v ∧ LitIs w w' v askedR ∧ Kept (fun _ => False) w w' := by
  go_enter Try.func87, Try.ntmps87
  go_wp2
  refine lit_region "table.go:81" askedR 39 (by kernel_rfl) (by kernel_rfl) (by kernel_rfl) (by kernel_rfl) (by rfl) ?_
  rintro ⟨tm, df⟩ w' hk hs hd ⟨v, hv, hl⟩
  simp only at hs hd
  subst hd
  go_wp2
  refine bodyPost_ret (v := v) ?_ rfl ⟨v, rfl, hl, hk⟩
  simp [results, Try.results87, go_sem]
  simpa [slot, Array.getD_eq_getD_getElem?] using hv

def answeredR : List Rw := [⟨2, 8, 2, [10]⟩, ⟨3, 8, 3, [10]⟩, ⟨6, 8, 7, [4]⟩, ⟨7, 8, 6, [6]⟩, ⟨8, 8, 9, [4, 0]⟩, ⟨9, 8, 6, [1, 6]⟩, ⟨2, 9, 2, [10]⟩, ⟨3, 9, 3, [10]⟩, ⟨6, 9, 6, [4, 6]⟩, ⟨7, 9, 6, [6]⟩, ⟨8, 9, 8, [4, 6]⟩, ⟨9, 9, 6, [1, 6]⟩]
set_option maxHeartbeats 4000000 in
set_option maxRecDepth 100000 in
theorem answered_any (w : World) : Calls Try.prog 88 #[] w fun e w' => ∃ v, e = .returned v ∧ LitIs w w' v answeredR ∧ Kept (fun _ => False) w w' := by
  go_enter Try.func88, Try.ntmps88
  go_wp2
  refine lit_region "table.go:100" answeredR 39 (by kernel_rfl) (by kernel_rfl) (by kernel_rfl) (by kernel_rfl) (by rfl) ?_
  rintro ⟨tm, df⟩ w' hk hs hd ⟨v, hv, hl⟩
  simp only at hs hd
  subst hd
  go_wp2
  refine bodyPost_ret (v := v) ?_ rfl ⟨v, rfl, hl, hk⟩
  simp [results, Try.results88, go_sem]
  simpa [slot, Array.getD_eq_getD_getElem?] using hv

def endedR : List Rw := [⟨2, 10, 2, [10]⟩, ⟨3, 10, 3, [10]⟩, ⟨4, 10, 4, [10]⟩, ⟨5, 10, 5, [10]⟩, ⟨6, 10, 6, [10]⟩, ⟨7, 10, 6, [10]⟩, ⟨8, 10, 6, [10]⟩, ⟨9, 10, 5, [1, 5, 10]⟩, ⟨4, 11, 2, [3]⟩, ⟨5, 11, 3, [3]⟩, ⟨7, 11, 6, []⟩, ⟨9, 11, 6, [1, 6]⟩]
set_option maxHeartbeats 4000000 in
set_option maxRecDepth 100000 in
theorem ended_any (w : World) : Calls Try.prog 89 #[] w fun e w' => ∃ v, e = .returned v ∧ LitIs w w' v endedR ∧ Kept (fun _ => False) w w' := by
  go_enter Try.func89, Try.ntmps89
  go_wp2
  refine lit_region "table.go:119" endedR 38 (by kernel_rfl) (by kernel_rfl) (by kernel_rfl) (by kernel_rfl) (by rfl) ?_
  rintro ⟨tm, df⟩ w' hk hs hd ⟨v, hv, hl⟩
  simp only at hs hd
  subst hd
  go_wp2
  refine bodyPost_ret (v := v) ?_ rfl ⟨v, rfl, hl, hk⟩
  simp [results, Try.results89, go_sem]
  simpa [slot, Array.getD_eq_getD_getElem?] using hv

def rejectedR : List Rw := [⟨2, 12, 2, [11]⟩, ⟨3, 12, 3, [11]⟩, ⟨4, 12, 4, [11]⟩, ⟨5, 12, 5, [11]⟩, ⟨6, 12, 6, [11]⟩, ⟨7, 12, 7, [11]⟩, ⟨8, 12, 8, [11]⟩, ⟨9, 12, 9, [11]⟩, ⟨7, 13, 6, []⟩, ⟨2, 14, 2, [3]⟩, ⟨3, 14, 3, [3]⟩, ⟨4, 14, 2, [3]⟩, ⟨5, 14, 3, [3]⟩, ⟨6, 14, 3, [3]⟩, ⟨7, 14, 3, [3]⟩, ⟨8, 14, 3, [3]⟩, ⟨9, 14, 5, [1, 4, 9]⟩, ⟨9, 15, 9, [12]⟩]
set_option maxHeartbeats 4000000 in
set_option maxRecDepth 100000 in
theorem rejected_any (w : World) : Calls Try.prog 90 #[] w fun e w' => ∃ v, e = .returned v ∧ LitIs w w' v rejectedR ∧ Kept (fun _ => False) w w' := by
  go_enter Try.func90, Try.ntmps90
  go_wp2
  refine lit_region "table.go:138" rejectedR 56 (by kernel_rfl) (by kernel_rfl) (by kernel_rfl) (by kernel_rfl) (by rfl) ?_
  rintro ⟨tm, df⟩ w' hk hs hd ⟨v, hv, hl⟩
  simp only at hs hd
  subst hd
  go_wp2
  refine bodyPost_ret (v := v) ?_ rfl ⟨v, rfl, hl, hk⟩
  simp [results, Try.results90, go_sem]
  simpa [slot, Array.getD_eq_getD_getElem?] using hv

end Go.Proofs.Ytcmdfcdmfdheeaa
