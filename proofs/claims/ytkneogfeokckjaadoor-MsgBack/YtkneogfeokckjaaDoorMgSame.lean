/- The contract of the document's own SameCtl, at two messages that are the same. -/
import Derived.Test.YtkneogfeokckjaaDoorAvRefS
import Derived.Test.YtkneogfeokckjaaDoorMsIn
import Derived.Test.YtkneogfeokckjaaDoorAvPut
namespace Go.Proofs.YtkneogfeokckjaaDoor
open Go.RowKit

set_option maxHeartbeats 4000000 in
set_option maxRecDepth 100000 in
theorem rSameCtl_self (t s n r : Int) (u u' : Value) (l : List Av) (w : World) (hv : AvsAt w u l) (hu : AvsAt w u' l) (hl : l.length ≤ 1000000) (gl : ∀ x ∈ l, GoodA x) :
    Calls Tryd.prog 12 #[.agg #[.int .i64 t, .int .i64 s, .int .i64 n, .int .i64 r, u], .agg #[.int .i64 t, .int .i64 s, .int .i64 n, .int .i64 r, u']] w fun e w' => e = .returned (.bool true) ∧ Kept (fun _ => False) w w' := by
  obtain ⟨p, c, rfl⟩ := RowsAt.slice hv
  obtain ⟨q, d, rfl⟩ := RowsAt.slice hu
  have HS := hid (fun W (hk : Kept (fun _ => False) w W) => rSame_any (.slice p l.length c) (.slice q l.length d) l l W (RowsAt.kept0 hv hk) (RowsAt.kept0 hu hk) hl gl gl)
  rw [sameL_self] at HS
  have hs : (w.alloc (.cells #[.int .i64 t, .int .i64 s, .int .i64 n, .int .i64 r, .slice p l.length c] 24)).heap.size = w.heap.size + 1 := by simp
  have HA := hid ((CtAt.new w t s n r (.slice p l.length c)).kept ((Kept.refl (fun _ => False) (w.alloc (.cells #[.int .i64 t, .int .i64 s, .int .i64 n, .int .i64 r, .slice p l.length c] 24))).alloc (.cells #[.int .i64 t, .int .i64 s, .int .i64 n, .int .i64 r, .slice q l.length d] 24)))
  have HB : Hid (CtAt ((w.alloc (.cells #[.int .i64 t, .int .i64 s, .int .i64 n, .int .i64 r, .slice p l.length c] 24)).alloc (.cells #[.int .i64 t, .int .i64 s, .int .i64 n, .int .i64 r, .slice q l.length d] 24)) (w.heap.size + 1) t s n r (.slice q l.length d)) := by
    have h := CtAt.new (w.alloc (.cells #[.int .i64 t, .int .i64 s, .int .i64 n, .int .i64 r, .slice p l.length c] 24)) t s n r (.slice q l.length d)
    rw [hs] at h
    exact h
  have HK := hid (((Kept.refl (fun _ => False) w).alloc (.cells #[.int .i64 t, .int .i64 s, .int .i64 n, .int .i64 r, .slice p l.length c] 24)).alloc (.cells #[.int .i64 t, .int .i64 s, .int .i64 n, .int .i64 r, .slice q l.length d] 24))
  clear hv hu gl hs
  go_enter Tryd.func12, Tryd.ntmps12
  go_upto_region 1 with fail
  generalize (w.alloc (.cells #[.int .i64 t, .int .i64 s, .int .i64 n, .int .i64 r, .slice p l.length c] 24)).alloc (.cells #[.int .i64 t, .int .i64 s, .int .i64 n, .int .i64 r, .slice q l.length d] 24) = W0 at *
  obtain ⟨a0, a1, a2, a3, a4⟩ := HA.out.cells
  obtain ⟨b0, b1, b2, b3, b4⟩ := HB.out.cells
  go_wp2_with fail
  refine (HS.out _ HK.out).mono ?_
  rintro e w1 ⟨rfl, hk1⟩
  have HK1 := hid (HK.out.trans hk1)
  clear hk1
  go_wp2
  go_ret
  exact ⟨rfl, HK1.out⟩
end Go.Proofs.YtkneogfeokckjaaDoor
