/- The contracts of the book's copyOptions, LentOptions, StaysOptions. -/
import Derived.Test.YtdifdcceigoedaaGreatBoGrow
import Derived.Deep.RegionHeldLaw
import Derived.Deep.AppendLies
namespace Go.Proofs.YtdifdcceigoedaaGreat
open Go.RowKit

set_option maxHeartbeats 1000000 in
set_option maxRecDepth 100000 in
theorem copyOptions_any (v : Value) (l : List Tg) (w : World) (hv : TagsAt w v l) (hl : l.length ≤ 100000) :
    Calls Tryz.prog 40 #[v] w fun e w' => ∃ u, e = .returned u ∧ OwnO w' w.heap.size u l ∧ Kept (fun _ => False) w w' := by
  obtain ⟨u, w1, hr, ho, hk⟩ := appendO_run (Kept.refl (fun _ => False) w) (OwnO.nil w w.heap.size) hv (by simp; omega)
  rw [List.nil_append] at ho
  have HO := hid ho
  have HK := hid hk
  clear ho hk hv
  go_enter Tryz.func40, Tryz.ntmps40
  go_wp2_with (at_builtin; refine Lib.wpList_append_run _ rfl _ _ _ _ rfl _ _ rfl rfl _ _ (hr _) ?_)
  go_ret
  exact ⟨_, rfl, HO.out, HK.out⟩

def lentT : Tg := ⟨-77, ⟨#[]⟩⟩
/-- A list with one more, hidden, behind it. -/
def LentAt (W : World) (base g cap : Nat) (l : List Tg) : Prop := OwnO W base (.slice (some ⟨g, 0, none⟩) (l.length + 1) cap) (l ++ [lentT])

theorem LentAt.own {W : World} {base g cap : Nat} {l : List Tg} (h : LentAt W base g cap l) : OwnO W base (.slice (some ⟨g, 0, none⟩) l.length cap) l := by
  have h' : W.ownsRow base 67 2 (.slice (some ⟨g, 0, none⟩) (l.length + 1) cap) (l.length + 1) (rowT (l ++ [lentT])) := by
    have e : (l ++ [lentT]).length = l.length + 1 := by simp
    unfold LentAt OwnO at h
    rw [e] at h
    exact h
  have := owned_first h' (m := l.length) (by omega)
  rw [rowT_append, List.take_append_of_le_length (by rw [rowT_length]; exact Nat.le_refl _), List.take_of_length_le (by rw [rowT_length]; exact Nat.le_refl _)] at this
  exact this
theorem LentAt.kept {W W' : World} {base g cap : Nat} {l : List Tg} (h : LentAt W base g cap l) (hk : Kept (fun _ => False) W W') : LentAt W' base g cap l := OwnO.kept h hk
theorem LentAt.cap {W : World} {base g cap : Nat} {l : List Tg} (h : LentAt W base g cap l) : l.length + 1 ≤ cap ∧ cap ≤ maxLen := by
  rcases h.2 with ⟨h', _⟩ | ⟨g', cap', cur, h', hb, hg, h1, h2, _⟩
  · simp at h'
  · simp only [Value.slice.injEq] at h'
    simp at h1
    omega

set_option maxHeartbeats 1000000 in
set_option maxRecDepth 100000 in
theorem lentOptions_any (v : Value) (l : List Tg) (w : World) (hv : TagsAt w v l) (hl : l.length ≤ 10000) :
    Calls Tryz.prog 6 #[v] w fun e w' => ∃ g cap, e = .returned (.slice (some ⟨g, 0, none⟩) l.length cap) ∧ LentAt w' w.heap.size g cap l ∧ Kept (fun _ => False) w w' := by
  obtain ⟨i0, hi0, hz0, hz1, hz2⟩ := info_parts infoOpt
  obtain ⟨p, cp, rfl⟩ := hv.slice
  obtain ⟨u, w1, hr, ho, hk⟩ := appendO_run (Kept.refl (fun _ => False) w) (OwnO.nil w w.heap.size) hv (by simp; omega)
  rw [List.nil_append] at ho
  have HO := hid ho
  have HK := hid hk
  have hs1 := hk.size
  clear ho hk hv
  go_enter Tryz.func6, Tryz.ntmps6
  go_wp2_with (first
    | (at_builtin; refine Lib.wpList_append_run _ rfl _ _ _ _ rfl _ _ rfl rfl _ _ (hr _) ?_)
    | (at_builtin; refine wpList_append_lies _ rfl _ _ 22 rfl w.heap.size 67 i0 (.agg #[.int .i64 0, .string ⟨#[]⟩]) 2 24 Tryz.underlying22 hi0 hz0 hz1 hz2 rfl (by decide) _ l.length (rowT l) rfl (World.ownsRow.alloc HO.out _) ⟨w1.heap.size, 0, none⟩ 1 1 [.int .i64 (-77), .string ⟨#[]⟩] rfl rfl (cells_two_new _ _ _ _) (by intro u hu; simp at hu; rcases hu with rfl | rfl <;> rfl) (by decide) (by unfold maxLen; omega) (by omega) (by simp; omega) _ rfl ?_; intro g cap w2 hown' hgrow _ _; have R := own_moreO (x := lentT) HK.out HO.out hown' hgrow; have hcap := LentAt.cap (l := l) R.1; have HR := hid R; clear hown' hgrow R; obtain ⟨hc1, hc2⟩ := hcap; unfold maxLen at hc2))
  go_ret
  exact ⟨_, _, rfl, HR.out.1, HR.out.2⟩
end Go.Proofs.YtdifdcceigoedaaGreat
