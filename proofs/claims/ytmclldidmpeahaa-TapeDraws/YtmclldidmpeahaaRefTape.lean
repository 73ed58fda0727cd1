/- The document's own tape: its Next and Bytes come to what the program's come to. -/
import Derived.Test.YtmclldidmpeahaaBytes3
namespace Go.Proofs.Ytmclldidmpeahaa
open Go.RowKit

theorem refNext_low (b : Nat) (n : Int) (hn : n < 1) (w : World) : Calls Try.prog 15 #[.pointer (some ⟨b, 0, none⟩), .int .i64 n] w fun e w' => e = .returned (.int .i64 0) ∧ w' = w := by
  go_enter Try.func15, Try.ntmps15
  go_wp2
  go_ret
  exact ⟨rfl, rfl⟩

set_option maxHeartbeats 1000000 in
set_option maxRecDepth 100000 in
theorem refNext_behind (b : Nat) (p : Option Addr) (cap : Nat) (asked n : Nat) (hn : 1 ≤ n) (hn2 : n ≤ 9223372036854775807) (ha : asked ≤ 1000000) (w : World) (h : IsTape w b p cap [] asked) :
    Calls Try.prog 15 #[.pointer (some ⟨b, 0, none⟩), .int .i64 (n : Int)] w fun e w' => e = .returned (.int .i64 (7 * ((asked + 1 : Nat) : Int) % (n : Int))) ∧ IsTape w' b p cap [] (asked + 1) ∧ Kept (fun i => i = b) w w' := by
  have c0 : w.cell? ⟨b, 0, none⟩ = some (.slice p 0 cap) := h.c0
  have c1 := h.c1
  have f1 := h.f 1
  have Hfin := hid (⟨⟨(World.cell?_setCell_other _ _ _ _ (by simp)).trans h.c0, World.cell?_setCell_same _ _ _ h.c1, fun i => (World.frozen?_setCell _ _ _ _).trans (h.f i), h.le, fun hne => absurd rfl hne⟩, (Kept.refl (fun i => i = b) w).setCell (p := ⟨b, 1, none⟩) (Or.inr rfl) _⟩ : IsTape (w.setCell ⟨b, 1, none⟩ (.int .i64 ((asked : Int) + 1))) b p cap [] (asked + 1) ∧ Kept (fun i => i = b) w (w.setCell ⟨b, 1, none⟩ (.int .i64 ((asked : Int) + 1))))
  have h0 : ((n : Int) == 0) = false := by rw [beq_eq_false_iff_ne]; omega
  have ht : (7 * ((asked : Int) + 1)).tmod (n : Int) = 7 * ((asked : Int) + 1) % (n : Int) := Int.tmod_eq_emod_of_nonneg (by omega)
  rw [show ((asked + 1 : Nat) : Int) = (asked : Int) + 1 from rfl]
  clear h
  go_enter Try.func15, Try.ntmps15
  go_wp2
  go_ret
  exact ⟨rfl, Hfin.out⟩

set_option maxHeartbeats 1000000 in
set_option maxRecDepth 100000 in
theorem refNext_more (b : Nat) (p : Option Addr) (cap : Nat) (v : Int) (r : List Int) (asked n : Nat) (hn : 1 ≤ n) (hn2 : n ≤ 9223372036854775807) (w : World) (h : IsTape w b p cap (v :: r) asked) :
    Calls Try.prog 15 #[.pointer (some ⟨b, 0, none⟩), .int .i64 (n : Int)] w fun e w' => e = .returned (.int .i64 (v % (n : Int))) ∧ (∃ p' cap', IsTape w' b p' cap' r asked ∧ ∀ i, onTape p' r i → onTape p (v :: r) i) ∧ Kept (fun i => i = b) w w' := by
  obtain ⟨g, o, rfl, hg, hr⟩ := h.row (by simp)
  have c0 : w.cell? ⟨b, 0, none⟩ = some (.slice (some ⟨g, o, none⟩) (r.length + 1) cap) := h.c0
  have q0 : w.cell? ⟨g, o, none⟩ = some (.int .i64 v) := hr 0 v rfl
  have f0 := h.f 0
  have hle : r.length + 1 ≤ cap := h.le
  have fin : ∀ p' cap', r.length ≤ cap' → (r ≠ [] → p' = some ⟨g, o + 1, none⟩) → IsTape (w.setCell ⟨b, 0, none⟩ (.slice p' r.length cap')) b p' cap' r asked ∧ Kept (fun i => i = b) w (w.setCell ⟨b, 0, none⟩ (.slice p' r.length cap')) := fun p' cap' h1 h2 =>
    ⟨⟨World.cell?_setCell_same _ _ _ h.c0, (World.cell?_setCell_other _ _ _ _ (by simp)).trans h.c1, fun i => (World.frozen?_setCell _ _ _ _).trans (h.f i), h1, fun hne => ⟨g, o + 1, h2 hne, hg, fun j u hj => by
      rw [World.cell?_setCell_other _ _ _ _ (by simp), Nat.add_assoc, Nat.add_comm 1 j]
      exact hr (j + 1) u (by simpa using hj)⟩⟩, (Kept.refl (fun i => i = b) w).setCell (p := ⟨b, 0, none⟩) (Or.inr rfl) _⟩
  have hon : ∀ p' : Option Addr, p' = some ⟨g, o, none⟩ ∨ p' = some ⟨g, o + 1, none⟩ → ∀ i, onTape p' r i → onTape (some ⟨g, o, none⟩) (v :: r) i := fun p' hp i hi => by
    obtain ⟨_, a, e, rfl⟩ := hi
    rcases hp with rfl | rfl <;> cases e <;> exact ⟨by simp, _, rfl, rfl⟩
  have hb : -(n : Int) ≤ v.tmod (n : Int) := by
    have h := tmod_mod v n (by omega)
    have h1 := Int.emod_nonneg v (show (n : Int) ≠ 0 by omega)
    split at h
    · omega
    · omega
  have h0 : ((n : Int) == 0) = false := by rw [beq_eq_false_iff_ne]; omega
  have Hm := hid (tmod_mod v n (by omega))
  have hw : v.tmod (n : Int) < 0 → wrap64 (v.tmod (n : Int) + (n : Int)) = v.tmod (n : Int) + (n : Int) := fun _ => by unfold wrap64; omega
  have Hw := hid hw
  have Hfin := hid fin
  have Hon := hid hon
  clear h fin hr hon hw
  go_enter Try.func15, Try.ntmps15
  go_wp2
  all_goals go_ret
  · have hm : v.tmod (n : Int) + (n : Int) = v % (n : Int) := by have := Hm.out; rwa [if_pos (by assumption)] at this
    have hz : r.length = 0 := by omega
    have hf := Hfin.out (some ⟨g, o, none⟩) 0 (by omega) (fun hne => absurd (List.eq_nil_of_length_eq_zero hz) hne)
    exact ⟨by rw [← hm]; rfl, ⟨_, ⟨_, hf.1⟩, Hon.out _ (Or.inl rfl)⟩, hf.2⟩
  · have hm : v.tmod (n : Int) + (n : Int) = v % (n : Int) := by have := Hm.out; rwa [if_pos (by assumption)] at this
    have hf := Hfin.out (some ⟨g, o + 1, none⟩) (cap - 1) (by omega) (fun _ => rfl)
    exact ⟨by rw [← hm]; rfl, ⟨_, ⟨_, hf.1⟩, Hon.out _ (Or.inr rfl)⟩, hf.2⟩
  · have hm : v.tmod (n : Int) = v % (n : Int) := by have := Hm.out; rwa [if_neg (by omega)] at this
    have hz : r.length = 0 := by omega
    have hf := Hfin.out (some ⟨g, o, none⟩) 0 (by omega) (fun hne => absurd (List.eq_nil_of_length_eq_zero hz) hne)
    exact ⟨by rw [← hm]; rfl, ⟨_, ⟨_, hf.1⟩, Hon.out _ (Or.inl rfl)⟩, hf.2⟩
  · have hm : v.tmod (n : Int) = v % (n : Int) := by have := Hm.out; rwa [if_neg (by omega)] at this
    have hf := Hfin.out (some ⟨g, o + 1, none⟩) (cap - 1) (by omega) (fun _ => rfl)
    exact ⟨by rw [← hm]; rfl, ⟨_, ⟨_, hf.1⟩, Hon.out _ (Or.inr rfl)⟩, hf.2⟩

theorem refNext_any (b : Nat) (p : Option Addr) (cap : Nat) (rest : List Int) (asked n : Nat) (hn : 1 ≤ n) (hn2 : n ≤ 9223372036854775807) (ha : asked ≤ 1000000) (w : World) (h : IsTape w b p cap rest asked) :
    Calls Try.prog 15 #[.pointer (some ⟨b, 0, none⟩), .int .i64 (n : Int)] w fun e w' => e = .returned (.int .i64 (drawn rest asked (n : Int))) ∧ (∃ p' cap', IsTape w' b p' cap' rest.tail (askedOn rest asked) ∧ ∀ i, onTape p' rest.tail i → onTape p rest i) ∧ Kept (fun i => i = b) w w' := by
  cases rest with
  | nil => exact (refNext_behind b p cap asked n hn hn2 ha w h).mono fun e w' ⟨he, h1, h2⟩ => ⟨he, ⟨p, cap, h1, fun _ hi => absurd rfl hi.1⟩, h2⟩
  | cons v r => exact refNext_more b p cap v r asked n hn hn2 w h

theorem refBytes_out (v : Value) (n : Int) (h : n < 1 ∨ 64 < n) (w : World) : Calls Try.prog 13 #[v, .int .i64 n] w fun e w' => e = .returned (.string ByteArray.empty) ∧ w' = w := by
  by_cases h1 : n < 1
  · go_enter Try.func13, Try.ntmps13
    go_wp2
    go_ret
    exact ⟨rfl, rfl⟩
  · have h2 : 64 < n := by omega
    go_enter Try.func13, Try.ntmps13
    go_wp2
    go_ret
    exact ⟨rfl, rfl⟩

/-- What the loop has come to. -/
def RefBytesTo (w wr : World) (b : Nat) (p : Option Addr) (l : List Int) (asked j : Nat) (v : Value) : Prop :=
  (∃ p' cap', IsTape wr b p' cap' (l.drop j) (asked + (j - l.length)) ∧ ∀ i, onTape p' (l.drop j) i → onTape p l i) ∧ wr.ownsRow w.heap.size 5 1 v j (Lib.byteCells (bytesF l asked j)) ∧ Kept (fun i => i = b) w wr

theorem bytesF_snoc (l : List Int) (asked j : Nat) : Lib.byteCells (bytesF l asked (j + 1)) = Lib.byteCells (bytesF l asked j) ++ [.int .u8 (byteAt l asked j)] := by
  obtain ⟨b0, b1⟩ := byteAt_bounds l asked j
  have e : (UInt8.ofNat (byteAt l asked j).toNat).toNat = (byteAt l asked j).toNat := UInt8.toNat_ofNat_of_lt (show (byteAt l asked j).toNat < 256 by omega)
  unfold bytesF
  rw [List.range_succ, List.map_append, Lib.byteCells_append]
  congr 1
  simp [Lib.byteCells, e, Int.toNat_of_nonneg b0]

theorem refBytes_step {w wr w2 w4 : World} {b : Nat} {p pj p' : Option Addr} {cap' : Nat} {l : List Int} {asked j : Nat} {v v' : Value} {o : Obj} (hb : b < w.heap.size) (hp : ∀ i, onTape p l i → i < w.heap.size) (hpj : ∀ i, onTape pj (l.drop j) i → onTape p l i)
    (hrow : wr.ownsRow w.heap.size 5 1 v j (Lib.byteCells (bytesF l asked j))) (hk : Kept (fun i => i = b) w wr)
    (ht : IsTape w2 b p' cap' (l.drop j).tail (askedOn (l.drop j) (asked + (j - l.length)))) (hp' : ∀ i, onTape p' (l.drop j).tail i → onTape pj (l.drop j) i) (hk2 : Kept (fun i => i = b) wr w2)
    (hown : w4.ownsRow w.heap.size 5 1 v' (j + 1) (Lib.byteCells (bytesF l asked j) ++ [.int .u8 (byteAt l asked j)])) (hgrow : (w2.alloc o).grownBy w4 v.ownBlock) : RefBytesTo w w4 b p l asked (j + 1) v' := by
  have hv : ∀ g, v.ownBlock = some g → w.heap.size ≤ g := fun g hg => (hrow.lt g hg).1
  have hk4 : Kept (fun i => v.ownBlock = some i) w2 w4 := ((Kept.refl (fun i => v.ownBlock = some i) w2).alloc o).grown hgrow (fun j hj => Or.inr hj)
  rw [List.tail_drop] at hp'
  refine ⟨⟨p', cap', ?_, fun i hi => hpj i (hp' i hi)⟩, by rw [bytesF_snoc]; exact hown, (hk.trans hk2).andThen hk4 (fun i hi e => by have := hv i e; omega)⟩
  rw [askedOn_drop, List.tail_drop] at ht
  exact ht.kept hk4 (fun e => by have := hv b e; omega) (fun i hi e => by have := hv i e; have := hp i (hpj i (hp' i hi)); omega)

set_option maxHeartbeats 1000000 in
set_option maxRecDepth 100000 in
theorem refBytes_any (b : Nat) (p : Option Addr) (cap : Nat) (l : List Int) (asked n : Nat) (hn : 1 ≤ n) (hn2 : n ≤ 64) (ha : asked ≤ 900000) (w : World) (h : IsTape w b p cap l asked) :
    Calls Try.prog 13 #[.pointer (some ⟨b, 0, none⟩), .int .i64 (n : Int)] w fun e w' => e = .returned (.string ⟨(bytesF l asked n).toArray⟩) ∧ (∃ p' cap', IsTape w' b p' cap' (l.drop n) (asked + (n - l.length)) ∧ ∀ i, onTape p' (l.drop n) i → onTape p l i) ∧ Kept (fun i => i = b) w w' := by
  obtain ⟨i0, hi, hz0, hz1, hz2⟩ := info_parts info5
  have hbl := h.lt
  have hpl : ∀ i, onTape p l i → i < w.heap.size := h.rows
  have hst : RefBytesTo w w b p l asked 0 (.slice none 0 0) := ⟨⟨p, cap, by rw [List.drop_zero, show asked + (0 - l.length) = asked from by omega]; exact h, fun _ hi => hi⟩, World.ownsRow_nil _ _ _ _, Kept.refl _ w⟩
  clear h
  go_enter Try.func13, Try.ntmps13
  go_wp2
  go_loopw [5, 6] (fun v s wr => ∃ j : Nat, j ≤ n ∧ s = .int .i64 (j : Int) ∧ RefBytesTo w wr b p l asked j v) (fun _ s _ => n - (intOf s).toNat)
  case atStart => exact ⟨0, Nat.zero_le _, rfl, hst⟩
  case round =>
    obtain ⟨j, hj, rfl, ⟨pj, capj, htj, hpj⟩, hrow, hk⟩ := hrel
    clear hst
    by_cases hlt : j < n
    · have Hn := hid (show Calls Try.prog 15 #[.pointer (some ⟨b, 0, none⟩), .int .i64 256] wr fun e w' => e = .returned (.int .i64 (byteAt l asked j)) ∧ (∃ p' cap', IsTape w' b p' cap' (l.drop j).tail (askedOn (l.drop j) (asked + (j - l.length))) ∧ ∀ i, onTape p' (l.drop j).tail i → onTape pj (l.drop j) i) ∧ Kept (fun i => i = b) wr w' from refNext_any b pj capj (l.drop j) (asked + (j - l.length)) 256 (by decide) (by decide) (by omega) wr htj)
      obtain ⟨b0, b1⟩ := byteAt_bounds l asked j
      have hsz := hk.size
      have hrow' := hid hrow
      clear htj hrow
      go_wp2_with fail
      refine Hn.out.mono ?_
      rintro e w2 ⟨rfl, ⟨p', cap', ht', hp'⟩, hk2⟩
      have hrow2 := rowKept hrow'.out hk2 (fun g hg e => by have := (hrow'.out.lt g hg).1; omega)
      have R := hid (fun w4 v' o hown hgrow => refBytes_step (w4 := w4) (v' := v') (o := o) hbl hpl hpj hrow'.out hk ht' hp' hk2 hown hgrow)
      have hsz2 := hk2.size
      generalize byteAt l asked j = d at *
      clear ht' hp' hk2
      go_wp2_with (at_builtin; refine wpList_append_own _ rfl _ _ 55 rfl w.heap.size 5 i0 (.int .u8 0) 1 1 Try.underlying55 hi hz0 hz1 hz2 rfl (by decide) _ _ _ rfl (hrow2.alloc _) ⟨w2.heap.size, 0, none⟩ 1 1 [.int .u8 d] rfl rfl ?c1 ?c2 ?c3 ?c4 ?c5 ?_)
      case c1 => exact cell_one_new _ _ _
      case c2 => intro u hu; simp at hu; subst hu; rfl
      case c3 => unfold maxLen; omega
      case c4 => omega
      case c5 => simp; omega
      intro v' w4 hown' hgrow _
      have R4 := hid (R.out w4 v' _ hown' hgrow)
      clear hown' hgrow hrow2
      go_wp2
      go_roundw
      case rel => exact ⟨j + 1, hlt, by go_num, R4.out⟩
      case measure => simp [intOf]; omega
    · obtain rfl : j = n := by omega
      have hcv := conv_own hrow 55 9 Try.underlying55 Try.underlying5 Try.underlying9
      have R := hid (⟨pj, capj, htj, hpj⟩ : ∃ p' cap', IsTape wr b p' cap' (l.drop j) (asked + (j - l.length)) ∧ ∀ i, onTape p' (l.drop j) i → onTape p l i)
      clear htj hpj hrow
      go_wp2
      go_ret
      exact ⟨rfl, R.out, hk⟩
end Go.Proofs.Ytmclldidmpeahaa
