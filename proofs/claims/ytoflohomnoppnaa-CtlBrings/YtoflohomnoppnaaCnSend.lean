/- The contract of an end's Send. (Written by gen_cnsend.py.) -/
import Derived.Test.YtoflohomnoppnaaCnTick
import Derived.Test.YtoflohomnoppnaaCnPush
namespace Go.Proofs.Ytoflohomnoppnaa
open Go.RowKit

theorem nonempty {x : ByteArray} (h : ¬ x.size = 0) : x.toList.isEmpty = false := by
  rw [ByteArray.toList_eq]
  rw [Lib.size_eq] at h
  cases hq : x.data.toList with
  | nil => rw [hq] at h; simp at h
  | cons a r => rfl
theorem isempty {x : ByteArray} (h : x.size = 0) : x = ⟨#[]⟩ := by
  obtain ⟨d⟩ := x
  simp [ByteArray.size] at h
  rw [h]

set_option maxHeartbeats 4000000 in
set_option maxRecDepth 100000 in
theorem send_dead (b : Nat) (c : Cn) (p q : Option Addr) (cap cag : Nat) (x : ByteArray) (w : World) (h : CnIn w b c (.slice p c.waits.length cap) (.slice q c.flies.length cag)) (hg : GoodN c) (hd : c.dead = true) :
    Calls Try.prog 14 #[.pointer (some ⟨b, 0, none⟩), .string x] w fun e w' => e = .returned (.int .i64 20) ∧ NextN w w' b (.slice p c.waits.length cap) (.slice q c.flies.length cag) c (.slice p c.waits.length cap) (.slice q c.flies.length cag) := by
  obtain ⟨c0, c1, c2, c3, c4, c5, c6, c7, c8, c9, c10, c11, c12, c13, c14, c15⟩ := h.blk.cells
  have H1 := hid (dead_any b c _ _ w h.blk hg.wait.1)
  have HN := hid (fun W (hk : Kept (fun _ => False) w W) => NextN.same h hk)
  clear hg h
  obtain ⟨queue, retry, wait, win, room, mark, count, next, come, waits, flies, owed, again, ticks, tries, dead⟩ := c
  dsimp only at *
  subst hd
  go_enter Try.func14, Try.ntmps14
  go_wp2_with fail
  refine (H1.out).mono ?_
  rintro e w1 ⟨rfl, hq⟩
  rw [hq]
  clear hq w1 H1
  go_wp2
  iterate 4
    try (go_quiet (fail))
    try go_wp2
  go_returns
  exact ⟨rfl, HN.out _ ⟨rfl, rfl, rfl, Nat.le_refl _, fun _ _ _ => rfl⟩⟩

set_option maxHeartbeats 4000000 in
set_option maxRecDepth 100000 in
theorem send_none (b : Nat) (c : Cn) (p q : Option Addr) (cap cag : Nat) (x : ByteArray) (w : World) (h : CnIn w b c (.slice p c.waits.length cap) (.slice q c.flies.length cag)) (hg : GoodN c) (hd : c.dead = false) (hx : x = ⟨#[]⟩) :
    Calls Try.prog 14 #[.pointer (some ⟨b, 0, none⟩), .string x] w fun e w' => e = .returned (.int .i64 1) ∧ NextN w w' b (.slice p c.waits.length cap) (.slice q c.flies.length cag) c (.slice p c.waits.length cap) (.slice q c.flies.length cag) := by
  obtain ⟨c0, c1, c2, c3, c4, c5, c6, c7, c8, c9, c10, c11, c12, c13, c14, c15⟩ := h.blk.cells
  have H1 := hid (dead_any b c _ _ w h.blk hg.wait.1)
  have HN := hid (fun W (hk : Kept (fun _ => False) w W) => NextN.same h hk)
  subst hx
  clear hg h
  obtain ⟨queue, retry, wait, win, room, mark, count, next, come, waits, flies, owed, again, ticks, tries, dead⟩ := c
  dsimp only at *
  subst hd
  go_enter Try.func14, Try.ntmps14
  go_wp2_with fail
  refine (H1.out).mono ?_
  rintro e w1 ⟨rfl, hq⟩
  rw [hq]
  clear hq w1 H1
  go_wp2
  iterate 4
    try (go_quiet (fail))
    try go_wp2
  go_returns
  exact ⟨rfl, HN.out _ ⟨rfl, rfl, rfl, Nat.le_refl _, fun _ _ _ => rfl⟩⟩

set_option maxHeartbeats 4000000 in
set_option maxRecDepth 100000 in
theorem send_long (b : Nat) (c : Cn) (p q : Option Addr) (cap cag : Nat) (x : ByteArray) (w : World) (h : CnIn w b c (.slice p c.waits.length cap) (.slice q c.flies.length cag)) (hg : GoodN c) (hd : c.dead = false) (hx : ¬ x.size = 0) (hl : (1500 : Int) < (x.size : Int)) :
    Calls Try.prog 14 #[.pointer (some ⟨b, 0, none⟩), .string x] w fun e w' => e = .returned (.int .i64 1) ∧ NextN w w' b (.slice p c.waits.length cap) (.slice q c.flies.length cag) c (.slice p c.waits.length cap) (.slice q c.flies.length cag) := by
  obtain ⟨c0, c1, c2, c3, c4, c5, c6, c7, c8, c9, c10, c11, c12, c13, c14, c15⟩ := h.blk.cells
  have H1 := hid (dead_any b c _ _ w h.blk hg.wait.1)
  have HN := hid (fun W (hk : Kept (fun _ => False) w W) => NextN.same h hk)
  have hx0 : x.toList.isEmpty = false := nonempty hx
  clear hg h
  obtain ⟨queue, retry, wait, win, room, mark, count, next, come, waits, flies, owed, again, ticks, tries, dead⟩ := c
  dsimp only at *
  subst hd
  go_enter Try.func14, Try.ntmps14
  go_wp2_with fail
  refine (H1.out).mono ?_
  rintro e w1 ⟨rfl, hq⟩
  rw [hq]
  clear hq w1 H1
  go_wp2
  iterate 4
    try (go_quiet (fail))
    try go_wp2
  go_returns
  exact ⟨rfl, HN.out _ ⟨rfl, rfl, rfl, Nat.le_refl _, fun _ _ _ => rfl⟩⟩

set_option maxHeartbeats 4000000 in
set_option maxRecDepth 100000 in
theorem send_full (b : Nat) (c : Cn) (p q : Option Addr) (cap cag : Nat) (x : ByteArray) (w : World) (h : CnIn w b c (.slice p c.waits.length cap) (.slice q c.flies.length cag)) (hg : GoodN c) (hd : c.dead = false) (hx : ¬ x.size = 0) (hl : ¬ (1500 : Int) < (x.size : Int)) (hf : c.queue ≤ (c.waits.length : Int)) :
    Calls Try.prog 14 #[.pointer (some ⟨b, 0, none⟩), .string x] w fun e w' => e = .returned (.int .i64 10) ∧ NextN w w' b (.slice p c.waits.length cap) (.slice q c.flies.length cag) c (.slice p c.waits.length cap) (.slice q c.flies.length cag) := by
  obtain ⟨c0, c1, c2, c3, c4, c5, c6, c7, c8, c9, c10, c11, c12, c13, c14, c15⟩ := h.blk.cells
  have H1 := hid (dead_any b c _ _ w h.blk hg.wait.1)
  have HN := hid (fun W (hk : Kept (fun _ => False) w W) => NextN.same h hk)
  have hx0 : x.toList.isEmpty = false := nonempty hx
  clear hg h
  obtain ⟨queue, retry, wait, win, room, mark, count, next, come, waits, flies, owed, again, ticks, tries, dead⟩ := c
  dsimp only at *
  subst hd
  go_enter Try.func14, Try.ntmps14
  go_wp2_with fail
  refine (H1.out).mono ?_
  rintro e w1 ⟨rfl, hq⟩
  rw [hq]
  clear hq w1 H1
  go_wp2
  iterate 4
    try (go_quiet (fail))
    try go_wp2
  go_returns
  exact ⟨rfl, HN.out _ ⟨rfl, rfl, rfl, Nat.le_refl _, fun _ _ _ => rfl⟩⟩


set_option maxHeartbeats 4000000 in
set_option maxRecDepth 100000 in
theorem send_ok (b : Nat) (c : Cn) (p q : Option Addr) (cap cag : Nat) (x : ByteArray) (w : World) (h : CnIn w b c (.slice p c.waits.length cap) (.slice q c.flies.length cag)) (hg : GoodN c) (hd : c.dead = false) (hx : ¬ x.size = 0) (hl : ¬ (1500 : Int) < (x.size : Int)) (hf : ¬ c.queue ≤ (c.waits.length : Int)) :
    Calls Try.prog 14 #[.pointer (some ⟨b, 0, none⟩), .string x] w fun e w' => e = .returned (.int .i64 0) ∧ ∃ vw', NextN w w' b (.slice p c.waits.length cap) (.slice q c.flies.length cag) { c with waits := c.waits ++ [x] } vw' (.slice q c.flies.length cag) := by
  obtain ⟨c0, c1, c2, c3, c4, c5, c6, c7, c8, c9, c10, c11, c12, c13, c14, c15⟩ := h.blk.cells
  have H1 := hid (dead_any b c _ _ w h.blk hg.wait.1)
  have H := hid h
  have hq40 : Hid (c.waits.length ≤ 10000) := by
    show _ ≤ _
    have h1 := hg.waits.1
    have h2 := hg.queue
    omega
  have hx0 : x.toList.isEmpty = false := nonempty hx
  clear hg h
  obtain ⟨queue, retry, wait, win, room, mark, count, next, come, waits, flies, owed, again, ticks, tries, dead⟩ := c
  dsimp only at *
  subst hd
  go_enter Try.func14, Try.ntmps14
  go_wp2_with fail
  refine (H1.out).mono ?_
  rintro e w1 ⟨rfl, hq⟩
  rw [hq]
  clear hq w1 H1
  go_wp2
  go_quiet (fail)
  rename_i nq
  go_upto_region 7 with fail
  have HX := hid (H.out.kept0 ((Kept.refl (fun _ => False) w).drewN nq))
  have HK := hid ((Kept.refl (fun _ => False) w).drewN nq)
  generalize w.drewN nq = X at *
  obtain ⟨v1, w1, happ, ho, hk, hnew⟩ := push_one tyS encS_ok HX.out.rw (Nat.zero_le _) x hq40.out
  obtain ⟨p1, cap1, hv1⟩ := own_slice ho
  generalize (waits ++ [x]).length = n1 at hv1
  subst hv1
  have hB1 := HX.out.blk.kept hk (fun e => HX.out.nw e)
  have f9 := hB1.soft 9
  obtain ⟨d0, d1, d2, d3, d4, d5, d6, d7, d8, d9, d10, d11, d12, d13, d14, d15⟩ := hB1.cells
  obtain ⟨e0, e1, e2, e3, e4, e5, e6, e7, e8, e9, e10, e11, e12, e13, e14, e15⟩ := HX.out.blk.cells
  have hb2 : CnB (w1.setCell ⟨b, 9, none⟩ (.slice p1 n1 cap1)) b _ (.slice p1 n1 cap1) (.slice q flies.length cag) := hB1.set 9 _ rfl
  have HB2 := hid hb2
  have HO := hid ho
  have HK1 := hid hk
  have HN := hid hnew
  have Happ := hid happ
  clear hb2 ho hk hnew happ hB1
  dsimp only at *
  go_wp2_with (at_builtin; refine Lib.wpList_append_run _ rfl _ _ _ _ rfl _ _ rfl rfl _ _ (Happ.out _) ?_)
  go_wp2
  go_returns
  refine ⟨rfl, .slice p1 n1 cap1, ?_⟩
  have hkX : Kept (fun i => i = b) w1 (w1.setCell ⟨b, 9, none⟩ (.slice p1 n1 cap1)) := kept_cn (Kept.refl (fun i => i = b) w1) rfl 9 _
  have hap : ∀ i, Value.ownBlock (.slice p1 n1 cap1) = some i → Value.ownBlock (.slice q flies.length cag) ≠ some i := fun i hi hq => by
    rcases HN.out i hi with g | g
    · exact H.out.ap i g hq
    · have := (HX.out.rf.block hq).2.2
      omega
  have hne : ∀ i, Value.ownBlock (.slice p1 n1 cap1) = some i → i ≠ b := fun i hi e => by
    rcases HN.out i hi with g | g
    · exact H.out.nw (by rw [← e]; exact g)
    · have := HX.out.blk.lt
      omega
  refine ⟨⟨HB2.out, HO.out.keptS hkX hne, (HX.out.rf.keptS HK1.out (fun i hi hi2 => H.out.ap i hi2 hi)).keptS hkX (fun i hi e => H.out.nf (by rw [← e]; exact hi)), hap⟩, ?_, ?_⟩
  · exact ((HK.out.mono (fun _ _ f => f.elim)).andThen (HK1.out.mono (fun i _ e => (Or.inr (Or.inl e) : Sn b (.slice p waits.length cap) (.slice q flies.length cag) i))) (fun _ _ s => s)).trans (hkX.mono (fun i _ e => Or.inl e))
  · rintro i (e | e | e)
    · exact Or.inl (Or.inl e)
    · rcases HN.out i e with g | g
      · exact Or.inl (Or.inr (Or.inl g))
      · exact Or.inr (by have := HK.out.size; omega)
    · exact Or.inl (Or.inr (Or.inr e))

theorem send_any {w : World} {b : Nat} {c : Cn} {vw vf : Value} (h : CnIn w b c vw vf) (hg : GoodN c) (x : ByteArray) :
    Calls Try.prog 14 #[.pointer (some ⟨b, 0, none⟩), .string x] w fun e w' => e = .returned (.int .i64 (giveN c x).2) ∧ ∃ vw', NextN w w' b vw vf (giveN c x).1 vw' vf := by
  obtain ⟨p, cap, rfl⟩ := own_slice h.rw
  obtain ⟨q, cag, rfl⟩ := own_slice h.rf
  unfold giveN
  by_cases hd : c.dead = true
  · rw [if_pos hd]
    refine (send_dead b c p q cap cag x w h hg hd).mono ?_
    rintro e w' ⟨rfl, hn⟩
    exact ⟨rfl, _, hn⟩
  · rw [if_neg hd]
    have hd' : c.dead = false := by simpa using hd
    by_cases hx : x.size = 0
    · rw [if_pos (Or.inl hx)]
      refine (send_none b c p q cap cag x w h hg hd' (isempty hx)).mono ?_
      rintro e w' ⟨rfl, hn⟩
      exact ⟨rfl, _, hn⟩
    · by_cases hl : 1500 < x.size
      · rw [if_pos (Or.inr hl)]
        refine (send_long b c p q cap cag x w h hg hd' hx (by omega)).mono ?_
        rintro e w' ⟨rfl, hn⟩
        exact ⟨rfl, _, hn⟩
      · rw [if_neg (fun g => g.elim hx hl)]
        by_cases hf : c.queue ≤ (c.waits.length : Int)
        · rw [if_pos hf]
          refine (send_full b c p q cap cag x w h hg hd' hx (by omega) hf).mono ?_
          rintro e w' ⟨rfl, hn⟩
          exact ⟨rfl, _, hn⟩
        · rw [if_neg hf]
          refine (send_ok b c p q cap cag x w h hg hd' hx (by omega) hf).mono ?_
          rintro e w' ⟨rfl, vw', hn⟩
          exact ⟨rfl, vw', hn⟩
end Go.Proofs.Ytoflohomnoppnaa
