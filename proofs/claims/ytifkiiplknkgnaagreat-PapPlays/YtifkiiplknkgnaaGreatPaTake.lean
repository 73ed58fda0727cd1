/- The contracts of Take, Serve and Answer. -/
import Derived.Test.YtifkiiplknkgnaaGreatPaClient
import Derived.Deep.RegionHeld3
namespace Go.Proofs.YtifkiiplknkgnaaGreat
open Go.RowKit

set_option maxHeartbeats 1000000 in
set_option maxRecDepth 100000 in
theorem takeC_any (b : Nat) (c : Pc) (code id : Int) (p : Option Addr) (n cap : Nat) (s : ByteArray) (w : World) (h : ClIn w b c) :
    Calls Tryz.prog 12 #[.pointer (some ⟨b, 0, none⟩), pkV code id (.slice p n cap) s] w fun e w' => e = .returned undef ∧ ClIn w' b (takeC c code id) ∧ Kept (fun i => i = b) w w' := by
  unfold pkV
  have hk := (Kept.refl (fun _ => False) w).alloc (.cells #[.int .i64 code, .int .i64 id, .slice p n cap, .string s] 56)
  have h1 := h.kept0 hk
  have H1 := hid h1
  have K1 := hid (Kept.ofNone (b := b) hk)
  obtain ⟨d0, d1, d2, d3⟩ := (PkAt.new w code id (.slice p n cap) s).cells
  have c3 := h1.c3
  have c4 := h1.c4
  have f4 := h1.fz 4
  have HA := hid (fun W' (hk : ClIn W' b c) => asks_any b c W' hk)
  unfold takeC
  by_cases hs : c.st = 1
  · rw [show (c.st == 1) = true by simp [hs]] at HA
    by_cases hi : id = c.id
    · rw [if_pos ⟨hs, hi⟩]
      have hid' : (id != c.id) = false := by simp [hi]
      clear hs hi h h1 hk
      by_cases e2 : code = 2
      · rw [if_pos e2]
        have e2' : (code == 2) = true := by simp [e2]
        clear e2
        go_enter Tryz.func12, Tryz.ntmps12
        go_upto_region 1 with fail
        generalize hW : w.alloc (.cells #[.int .i64 code, .int .i64 id, .slice p n cap, .string s] 56) = W at *
        clear hW
        go_quiet ((go_at_call 26; refine Calls.quiet_of_same (HA.out _ ?_); exact H1.out))
        go_wp2
        go_end0
        exact ⟨rfl, (show ClIn (W.drewN _) b c from H1.out).set4 2, (K1.out.drewN _).own 4 _⟩
      · rw [if_neg e2]
        have e2' : (code == 2) = false := by simpa using e2
        clear e2
        by_cases e3 : code = 3
        · rw [if_pos e3]
          have e3' : (code == 3) = true := by simp [e3]
          clear e3
          go_enter Tryz.func12, Tryz.ntmps12
          go_upto_region 1 with fail
          generalize hW : w.alloc (.cells #[.int .i64 code, .int .i64 id, .slice p n cap, .string s] 56) = W at *
          clear hW
          go_quiet ((go_at_call 26; refine Calls.quiet_of_same (HA.out _ ?_); exact H1.out))
          go_wp2
          go_end0
          exact ⟨rfl, (show ClIn (W.drewN _) b c from H1.out).set4 3, (K1.out.drewN _).own 4 _⟩
        · rw [if_neg e3]
          have e3' : (code == 3) = false := by simpa using e3
          clear e3
          go_enter Tryz.func12, Tryz.ntmps12
          go_upto_region 1 with fail
          generalize hW : w.alloc (.cells #[.int .i64 code, .int .i64 id, .slice p n cap, .string s] 56) = W at *
          clear hW
          go_quiet ((go_at_call 26; refine Calls.quiet_of_same (HA.out _ ?_); exact H1.out))
          go_wp2
          go_end0
          exact ⟨rfl, H1.out, K1.out.drewN _⟩
    · rw [if_neg (fun h => hi h.2)]
      have hid' : (id != c.id) = true := by simpa using hi
      clear hs hi h h1 hk
      go_enter Tryz.func12, Tryz.ntmps12
      go_upto_region 1 with fail
      generalize hW : w.alloc (.cells #[.int .i64 code, .int .i64 id, .slice p n cap, .string s] 56) = W at *
      clear hW
      go_quiet ((go_at_call 26; refine Calls.quiet_of_same (HA.out _ ?_); exact H1.out))
      go_wp2
      (try simp only [Exit.inBlock, Exit.then]); refine bodyPost_ret (results_none rfl _ _ _) rfl ?_
      exact ⟨rfl, H1.out, K1.out.drewN _⟩
  · rw [show (c.st == 1) = false by simpa using hs] at HA
    rw [if_neg (fun h => hs h.1)]
    clear hs h h1 hk
    go_enter Tryz.func12, Tryz.ntmps12
    go_upto_region 1 with fail
    generalize hW : w.alloc (.cells #[.int .i64 code, .int .i64 id, .slice p n cap, .string s] 56) = W at *
    clear hW
    go_quiet ((go_at_call 26; refine Calls.quiet_of_same (HA.out _ ?_); exact H1.out))
    go_wp2
    (try simp only [Exit.inBlock, Exit.then]); refine bodyPost_ret (results_none rfl _ _ _) rfl ?_
    exact ⟨rfl, H1.out, K1.out.drewN _⟩

/-- What Serve answers. -/
def serveF (code : Int) (m : Nat) (d : ByteArray) : ByteArray × ByteArray × Bool := if code ≠ 1 ∨ 0 < m then (⟨#[]⟩, ⟨#[]⟩, false) else ((getReqF d).1, (getReqF d).2.1, (getReqF d).2.2 == 0)

set_option maxHeartbeats 1000000 in
set_option maxRecDepth 100000 in
theorem serve_any (code id : Int) (p : Option Addr) (n cap : Nat) (s : ByteArray) (hs : s.size ≤ 140737488351232) (w : World) :
    Calls Tryz.prog 16 #[pkV code id (.slice p n cap) s] w fun e w' => e = .returned (.tuple #[.string (serveF code n s).1, .string (serveF code n s).2.1, .bool (serveF code n s).2.2]) ∧ Kept (fun _ => False) w w' := by
  unfold pkV
  have K1 := hid ((Kept.refl (fun _ => False) w).alloc (.cells #[.int .i64 code, .int .i64 id, .slice p n cap, .string s] 56))
  obtain ⟨d0, d1, d2, d3⟩ := (PkAt.new w code id (.slice p n cap) s).cells
  unfold serveF
  by_cases h1 : code = 1
  · have h1' : (code != 1) = false := by simp [h1]
    by_cases h2 : 0 < n
    · rw [if_pos (Or.inr h2)]
      have h2z : (0 : Int) < (n : Int) := by omega
      clear h1 h2
      go_enter Tryz.func16, Tryz.ntmps16
      go_wp2
      go_ret3
      exact ⟨rfl, K1.out⟩
    · rw [if_neg (by rintro (h | h); exact h h1; exact h2 h)]
      have h2z : ¬ (0 : Int) < (n : Int) := by omega
      have HG := hid (getReq_any s hs)
      generalize getReqF s = R at *
      obtain ⟨x, y, E⟩ := R
      simp only at HG ⊢
      clear h1 h2
      go_enter Tryz.func16, Tryz.ntmps16
      go_wp2_with fail
      refine (HG.out _).mono ?_
      rintro e w1 ⟨rfl, hk1⟩
      go_wp2
      go_ret3
      exact ⟨rfl, K1.out.trans hk1⟩
  · rw [if_pos (Or.inl h1)]
    have h1' : (code != 1) = true := by simpa using h1
    clear h1
    go_enter Tryz.func16, Tryz.ntmps16
    go_wp2
    go_ret3
    exact ⟨rfl, K1.out⟩
end Go.Proofs.YtifkiiplknkgnaaGreat
