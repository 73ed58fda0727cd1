/- The contract of Tape.Bytes: as many draws of 256 as are asked, as bytes. -/
import Derived.Test.YtklapjfljffahaaGreatTpNew
import Derived.Laws.OwnMore
namespace Go.Proofs.YtklapjfljffahaaGreat.Tp
open Go.RowKit

/-- The j-th draw of 256 of a tape that has l left and was asked so often behind its end. -/
def byteAt (l : List Int) (asked j : Nat) : Int := drawn (l.drop j) (asked + (j - l.length)) 256
def bytesF (l : List Int) (asked n : Nat) : List UInt8 := (List.range n).map (fun j => UInt8.ofNat (byteAt l asked j).toNat)

theorem drawn_bounds (l : List Int) (asked : Nat) (n : Int) (hn : 0 < n) : 0 ≤ drawn l asked n ∧ drawn l asked n < n := by
  unfold drawn
  split
  · exact ⟨Int.emod_nonneg _ (by omega), Int.emod_lt_of_pos _ hn⟩
  · exact ⟨Int.emod_nonneg _ (by omega), Int.emod_lt_of_pos _ hn⟩

theorem byteAt_bounds (l : List Int) (asked j : Nat) : 0 ≤ byteAt l asked j ∧ byteAt l asked j < 256 := drawn_bounds _ _ 256 (by decide)

/-- What the row holds behind j rounds. -/
def rowF (l : List Int) (asked n j : Nat) : List Value := (List.range n).map (fun i => .int .u8 (if i < j then byteAt l asked i else 0))

theorem rowF_set (l : List Int) (asked n j : Nat) (_hj : j < n) : (rowF l asked n j).set j (.int .u8 (byteAt l asked j)) = rowF l asked n (j + 1) := by
  apply List.ext_getElem?
  intro i
  unfold rowF
  rw [List.getElem?_set]
  by_cases hij : j = i
  · subst hij
    simp [_hj]
  · simp only [hij, if_false, List.getElem?_map]
    by_cases hi : i < n
    · rw [List.getElem?_range hi]
      simp only [Option.map_some]
      congr 2
      by_cases h1 : i < j
      · simp [h1, Nat.lt_succ_of_lt h1]
      · have : ¬ i < j + 1 := by omega
        simp [h1, this]
    · rw [List.getElem?_eq_none (by simpa using hi)]
      rfl

theorem rowF_end (l : List Int) (asked n : Nat) : rowF l asked n n = Lib.byteCells (bytesF l asked n) := by
  unfold rowF bytesF Lib.byteCells
  rw [List.map_map]
  refine List.map_congr_left (fun i hi => ?_)
  have hi' := List.mem_range.1 hi
  obtain ⟨b0, b1⟩ := byteAt_bounds l asked i
  simp only [Function.comp, hi', if_true]
  have e : (UInt8.ofNat (byteAt l asked i).toNat).toNat = (byteAt l asked i).toNat := UInt8.toNat_ofNat_of_lt (show (byteAt l asked i).toNat < 256 by omega)
  rw [e, Int.toNat_of_nonneg b0]

theorem rowF_zero (l : List Int) (asked n : Nat) : (madeCells #[Value.int .u8 0] n).toList = rowF l asked n 0 := by
  unfold madeCells rowF
  rw [Array.toList_map, Array.toList_range]
  refine List.map_congr_left (fun i _ => ?_)
  simp [Nat.mod_one]

theorem askedOn_drop (l : List Int) (asked j : Nat) : askedOn (l.drop j) (asked + (j - l.length)) = asked + (j + 1 - l.length) := by
  unfold askedOn
  split
  · rename_i h
    have : l.length ≤ j := by
      have := congrArg List.length h
      simp at this
      omega
    omega
  · rename_i h
    have : ¬ l.length ≤ j := fun e => h (List.drop_of_length_le e)
    omega

theorem own_at {g g' n c : Nat} (h : (Value.slice (some ⟨g, 0, none⟩) n c).ownBlock = some g') : g = g' := by simpa [Value.ownBlock] using h

theorem rowKept {S : Nat → Prop} {w w' : World} {base n : Nat} {e : TypeId} {sz : Nat} {v : Value} {xs : List Value} (h : w.ownsRow base e sz v n xs) (hk : Kept S w w') (hS : ∀ g, v.ownBlock = some g → ¬ S g) : w'.ownsRow base e sz v n xs := by
  refine ⟨h.1, ?_⟩
  rcases h.2 with h2 | ⟨g, cap, cur, rfl, hb, hh, r⟩
  · exact Or.inl h2
  · exact Or.inr ⟨g, cap, cur, rfl, hb, (hk.block g (Array.getElem?_eq_some_iff.1 hh).1 (hS g rfl)).trans hh, r⟩

theorem info5 : (Tryz.prog.info? 5).map (fun i => (i.zero, i.size, i.bytes)) = some (some (.int .u8 0), 1, 1) := by kernel_rfl

theorem addr_add (g i : Nat) : (⟨g, 0, none⟩ : Addr).add i = ⟨g, i, none⟩ := by
  unfold Addr.add
  split
  · simp_all
  · simp

/-- 'string(b)' where the call itself owns b's bytes. -/
theorem conv_own {P : Program} {w : World} {base n : Nat} {e : TypeId} {v : Value} {l : List UInt8} (hown : w.ownsRow base e 1 v n (Lib.byteCells l)) (src dst : TypeId)
    (hs : P.underlying src = some (.slice e)) (he : P.underlying e = some (.int .u8)) (hd : P.underlying dst = some .string) :
    (convert src dst v).run P w = .ok (.string ⟨l.toArray⟩) w := by
  have hl : l.length = n := by have := hown.1; rw [Lib.byteCells_length] at this; omega
  rcases hown.2 with ⟨rfl, rfl⟩ | ⟨g, cap, cur, rfl, hg, hh, hn, hm, hc, ht⟩
  · have : l = [] := List.eq_nil_of_length_eq_zero hl
    subst this
    exact run_convert_bytes_nil w src e hs he 0 0 dst hd
  · have hb := run_convert_bytes_arg (P := P) w src e hs he g 0 n cap (l.map fun b => (b.toNat : Int)) (by simp [hl]) (fun i hi => by
      have hcell := hown.cells (g := g) rfl i (.int .u8 ((l[i]'(by omega)).toNat : Int)) (by simp [Lib.byteCells, List.getElem?_eq_getElem (show i < l.length by omega)])
      rw [addr_add] at hcell
      rw [Nat.zero_add, hcell]
      simp [List.getElem?_eq_getElem (show i < l.length by omega)]) dst hd
    rw [hb]
    congr 2
    apply ByteArray.ext
    apply Array.toList_inj.1
    rw [strOfNums_data, List.map_map]
    refine (List.map_congr_left (g := id) ?_).trans (List.map_id l)
    intro x _
    simp

theorem bytes_out (v : Value) (n : Int) (h : n < 1 ∨ 64 < n) (w : World) : Calls Tryz.prog 104 #[v, .int .i64 n] w fun e w' => e = .returned (.string ByteArray.empty) ∧ w' = w := by
  by_cases h1 : n < 1
  · go_enter Tryz.func104, Tryz.ntmps104
    go_wp2
    go_ret
    exact ⟨rfl, rfl⟩
  · have h2 : 64 < n := by omega
    go_enter Tryz.func104, Tryz.ntmps104
    go_wp2
    go_ret
    exact ⟨rfl, rfl⟩

/-- What the loop has come to. -/
def BytesTo (w wr : World) (b : Nat) (p : Option Addr) (l : List Int) (asked n j : Nat) : Prop :=
  (∃ p' cap', IsTape wr b p' cap' (l.drop j) (asked + (j - l.length)) ∧ ∀ i, onTape p' (l.drop j) i → onTape p l i) ∧ wr.ownsRow w.heap.size 5 1 (.slice (some ⟨w.heap.size, 0, none⟩) n n) n (rowF l asked n j) ∧ Kept (fun i => i = b) w wr

theorem bytes_step {w wr w2 : World} {b : Nat} {p pj p' : Option Addr} {cap' : Nat} {l : List Int} {asked n j : Nat} (hj : j < n) (hb : b < w.heap.size) (hp : ∀ i, onTape p l i → i < w.heap.size) (hpj : ∀ i, onTape pj (l.drop j) i → onTape p l i)
    (hrow : wr.ownsRow w.heap.size 5 1 (.slice (some ⟨w.heap.size, 0, none⟩) n n) n (rowF l asked n j)) (hk : Kept (fun i => i = b) w wr)
    (ht : IsTape w2 b p' cap' (l.drop j).tail (askedOn (l.drop j) (asked + (j - l.length)))) (hp' : ∀ i, onTape p' (l.drop j).tail i → onTape pj (l.drop j) i) (hk2 : Kept (fun i => i = b) wr w2) :
    BytesTo w (w2.setCell ⟨w.heap.size, j, none⟩ (.int .u8 (byteAt l asked j))) b p l asked n (j + 1) := by
  have hrow2 := rowKept hrow hk2 (fun g hg e => by have := own_at hg; omega)
  have hs := hrow2.stored j (.int .u8 (byteAt l asked j))
  have hks : Kept (fun i => i = w.heap.size) w2 (w2.setCell ⟨w.heap.size, j, none⟩ (.int .u8 (byteAt l asked j))) := (Kept.refl (fun i => i = w.heap.size) w2).setCell (p := ⟨w.heap.size, j, none⟩) (Or.inr rfl) _
  rw [List.tail_drop] at hp'
  refine ⟨⟨p', cap', ?_, fun i hi => hpj i (hp' i hi)⟩, ?_, ((hk.trans hk2).andThen hks (fun i hi e => by omega))⟩
  · rw [askedOn_drop, List.tail_drop] at ht
    exact ht.kept hks (by omega) (fun i hi e => by have := hp i (hpj i (hp' i hi)); omega)
  · rw [rowF_set _ _ _ _ hj] at hs
    exact hs.1

theorem row_open {w : World} {base g n : Nat} {e : TypeId} {xs : List Value} (h : w.ownsRow base e 1 (.slice (some ⟨g, 0, none⟩) n n) n xs) (j : Nat) (hj : j < n) : w.frozen? ⟨g, j, none⟩ = false ∧ ∃ u, w.cell? ⟨g, j, none⟩ = some u := by
  rcases h.2 with ⟨h0, _⟩ | ⟨g', cap', cur, he, hb, hh, hn, hm, hs, ht⟩
  · cases h0
  · cases he
    refine ⟨by simp [World.frozen?, hh], cur[j]'(by omega), ?_⟩
    simp [World.cell?, hh]

set_option maxHeartbeats 1000000 in
set_option maxRecDepth 100000 in
theorem bytes_any (b : Nat) (p : Option Addr) (cap : Nat) (l : List Int) (asked n : Nat) (hn : 1 ≤ n) (hn2 : n ≤ 64) (ha : asked ≤ 900000) (w : World) (h : IsTape w b p cap l asked) :
    Calls Tryz.prog 104 #[.pointer (some ⟨b, 0, none⟩), .int .i64 (n : Int)] w fun e w' => e = .returned (.string ⟨(bytesF l asked n).toArray⟩) ∧ (∃ p' cap', IsTape w' b p' cap' (l.drop n) (asked + (n - l.length)) ∧ ∀ i, onTape p' (l.drop n) i → onTape p l i) ∧ Kept (fun i => i = b) w w' := by
  obtain ⟨i0, hi, hz0, hz1, hz2⟩ := info_parts info5
  have hbl := h.lt
  have hpl : ∀ i, onTape p l i → i < w.heap.size := h.rows
  have Ht := hid h
  clear h
  go_enter Tryz.func104, Tryz.ntmps104
  go_wp2_with (at_make; refine wpList_make_full _ rfl _ _ 64 rfl w.heap.size 5 i0 (.int .u8 0) 1 Tryz.underlying64 hi hz0 hz1 .i64 .i64 _ _ n rfl rfl ?m0 ?m1 ?m2 ?m3 ?m4 ?_)
  case m0 => rfl
  case m1 => rfl
  case m2 => rw [hz2]; omega
  case m3 => unfold maxLen; omega
  case m4 => exact Nat.le_refl _
  intro w1 hown1 hg1
  have hk1 : Kept (fun i => i = b) w w1 := (Kept.refl _ w).grown hg1 (fun j hj => by cases hj)
  have hst : BytesTo w w1 b p l asked n 0 := ⟨⟨p, cap, by rw [List.drop_zero, show asked + (0 - l.length) = asked from by omega]; exact Ht.out.kept (S := fun _ => False) ((Kept.refl _ w).grown hg1 (fun j hj => by cases hj)) id (fun _ _ => id), fun _ hi => hi⟩, by rw [← rowF_zero]; exact hown1, hk1⟩
  clear hown1 hg1 hk1
  go_wp2
  go_loopw [6, 17] (fun _ s wr => ∃ j : Nat, j ≤ n ∧ s = .int .i64 (j : Int) ∧ BytesTo w wr b p l asked n j) (fun _ s _ => n - (intOf s).toNat)
  case atStart => exact ⟨0, Nat.zero_le _, rfl, hst⟩
  case round =>
    obtain ⟨j, hj, rfl, ⟨pj, capj, htj, hpj⟩, hrow, hk⟩ := hrel
    clear hst
    by_cases hlt : j < n
    · have Hn := hid (show Calls Tryz.prog 116 #[.pointer (some ⟨b, 0, none⟩), .int .i64 256] wr _ from next_any b pj capj (l.drop j) (asked + (j - l.length)) 256 (by decide) (by decide) (by omega) wr htj)
      obtain ⟨b0, b1⟩ := byteAt_bounds l asked j
      have hrow' := hid hrow
      clear htj hrow
      go_wp2_with fail
      refine Hn.out.mono ?_
      rintro e w2 ⟨rfl, ⟨p', cap', ht', hp'⟩, hk2⟩
      obtain ⟨hfz, u, hcl⟩ := row_open (rowKept hrow'.out hk2 (fun g hg e => by have := own_at hg; omega)) j hlt
      have R := hid (bytes_step hlt hbl hpl hpj hrow'.out hk ht' hp' hk2)
      have hd : drawn (l.drop j) (asked + (j - l.length)) ((256 : Nat) : Int) = byteAt l asked j := rfl
      rw [hd]
      generalize byteAt l asked j = d at *
      clear hk2 ht' hp' hd
      go_wp2
      exact ⟨⟨j + 1, hlt, by go_num, R.out⟩, by simp [intOf]; omega⟩
    · obtain rfl : j = n := by omega
      rw [rowF_end] at hrow
      have hcv := conv_own hrow 64 9 Tryz.underlying64 Tryz.underlying5 Tryz.underlying9
      have R := hid (⟨pj, capj, htj, hpj⟩ : ∃ p' cap', IsTape wr b p' cap' (l.drop j) (asked + (j - l.length)) ∧ ∀ i, onTape p' (l.drop j) i → onTape p l i)
      clear htj hpj hrow
      go_wp2
      go_ret
      exact ⟨rfl, R.out, hk⟩
end Go.Proofs.YtklapjfljffahaaGreat.Tp
