/- The contracts of the document's own PutOptions and GetOptions (tollgateref9). -/
import Derived.Test.YtdifdcceigoedaaGreatOpRef1
import Derived.Deep.RegionHeldLaw
import Derived.Deep.AppendLies
namespace Go.Proofs.YtdifdcceigoedaaGreat
open Go.RowKit

/-- 'string([]byte{x, y})'. -/
theorem two_conv (W : World) (g : Nat) (x y : Nat) (hx : x < 256) (hy : y < 256) (X Y : Int) (hX : X = (x : Int)) (hY : Y = (y : Int)) (hg : W.heap[g]? = some (.cells #[.int .u8 X, .int .u8 Y] 5 (0, 0))) :
    (convert 70 9 (.slice (some ⟨g, 0, none⟩) 2 2)).run Tryz.prog W = .ok (.string ⟨#[UInt8.ofNat x, UInt8.ofNat y]⟩) W := by
  subst hX hY
  refine put_conv (base := 0) (n := 2) (l := [UInt8.ofNat x, UInt8.ofNat y]) ⟨rfl, Or.inr ⟨g, 2, _, rfl, Nat.zero_le _, hg, Nat.le_refl _, by unfold maxLen; omega, rfl, ?_⟩⟩
  simp only [Lib.byteCells, List.map_cons, List.map_nil, UInt8.toNat_ofNat']
  rw [Nat.mod_eq_of_lt (show x < 2 ^ 8 by omega), Nat.mod_eq_of_lt (show y < 2 ^ 8 by omega)]
  rfl

set_option maxHeartbeats 400000 in
set_option maxRecDepth 100000 in
theorem rPutOpts_many (v : Value) (l : List Tg) (w : World) (hv : TagsAt w v l) (hl : 30 < l.length) :
    Calls Tryz.prog 10 #[v] w fun e w' => e = .returned (.tuple #[.string ⟨#[]⟩, .int .i64 2]) ∧ Kept (fun _ => False) w w' := by
  obtain ⟨p, cap, rfl⟩ := hv.slice
  have hlz : (30 : Int) < (l.length : Int) := by omega
  clear hv hl
  go_enter Tryz.func10, Tryz.ntmps10
  go_wp2
  go_ret2
  exact ⟨rfl, Kept.refl _ _⟩

set_option maxHeartbeats 4000000 in
set_option maxRecDepth 100000 in
theorem rPutOpts_in (v : Value) (l : List Tg) (w : World) (hv : TagsAt w v l) (hl : l.length ≤ 30) (hsz : ∀ x ∈ l, x.value.size ≤ 140737488351232) :
    Calls Tryz.prog 10 #[v] w fun e w' => e = .returned (.tuple #[.string ⟨(putOptsF l).1.toArray⟩, .int .i64 (putOptsF l).2]) ∧ Kept (fun _ => False) w w' := by
  obtain ⟨p, cap, rfl⟩ := hv.slice
  have Hat : Hid (∀ (j : Nat) (x : Tg), l[j]? = some x → ∀ W, Kept (fun _ => False) w W → ∃ g o, p = some ⟨g, o, none⟩ ∧ l.length ≤ cap ∧ W.cell? ⟨g, o + j * 2, none⟩ = some (.int .i64 x.type) ∧ W.cell? ⟨g, o + j * 2 + 1, none⟩ = some (.string x.value)) :=
    fun j x hj W hW => (hv.kept0 hW).at hj
  have Hsz := hid hsz
  have hlz : (l.length : Int) ≤ 30 := by omega
  have hNo : Hid (l.all okO = false → putOptsF l = ([], 1)) := fun h => by unfold putOptsF; rw [if_neg (by omega), if_pos h]
  have hYes : Hid (l.all okO = true → putOptsF l = (bytesO l, 0)) := fun h => by unfold putOptsF; rw [if_neg (by omega), if_neg (by rw [h]; simp)]
  clear hv hsz
  go_enter Tryz.func10, Tryz.ntmps10
  go_wp2
  go_loopw [4, 5] (fun vs vi wr => ∃ (j : Nat) (S : ByteArray), j ≤ l.length ∧ vi = .int .i64 (j : Int) ∧ vs = .string S ∧ S.size ≤ j * 255 ∧ Hid (S = ⟨(bytesO (l.take j)).toArray⟩ ∧ (l.take j).all okO = true ∧ Kept (fun _ => False) w wr)) (fun _ vi _ => l.length - (intOf vi).toNat)
  case atStart => exact ⟨0, ⟨#[]⟩, Nat.zero_le _, rfl, rfl, Nat.zero_le _, rfl, rfl, Kept.refl _ _⟩
  case round =>
    obtain ⟨j, S, hj, rfl, rfl, hS, HI⟩ := hrel
    by_cases hlt : j < l.length
    · have hltz : (j : Int) < (l.length : Int) := by omega
      obtain ⟨x, hx⟩ : ∃ x, l[j]? = some x := ⟨l[j], by simp [hlt]⟩
      have hxs := Hsz.out x (List.mem_of_getElem? hx)
      have HA := hid (fun W (k : Kept (fun _ => False) w W) => Hat.out j x hx W k)
      obtain ⟨g, o, rfl, hcap, c0, c1⟩ := Hat.out j x hx wr HI.out.2.2
      have HK4 := hid HI.out.2.2
      cases hok : okO x with
      | false =>
        have hall : l.all okO = false := by
          rw [List.all_eq_false]
          exact ⟨x, List.mem_of_getElem? hx, by rw [hok]; simp⟩
        have HP := hid (hNo.out hall)
        have hr : x.type < 1 ∨ (1 ≤ x.type ∧ 255 < x.type) ∨ (1 ≤ x.type ∧ x.type ≤ 255 ∧ 253 < x.value.size) := by
          have h2 : ¬ ((1 ≤ x.type ∧ x.type ≤ 255) ∧ x.value.size ≤ 253) := by simpa [okO] using hok
          omega
        clear hok hall hx HI HA
        generalize x.type = T at *
        generalize x.value = V at *
        rcases hr with hr | ⟨hr, hr2⟩ | ⟨hr, hr2, hr3⟩
        · go_wp2
          go_ret2
          exact ⟨by rw [HP.out]; rfl, HK4.out⟩
        · have hn0 : ¬ T < 1 := by omega
          go_wp2
          go_ret2
          exact ⟨by rw [HP.out]; rfl, HK4.out⟩
        · have hn0 : ¬ T < 1 := by omega
          have hn1 : ¬ 255 < T := by omega
          have hvz : (253 : Int) < (V.size : Int) := by omega
          go_wp2
          go_ret2
          exact ⟨by rw [HP.out]; rfl, HK4.out⟩
      | true =>
        obtain ⟨a, ha, ha1, ha2, hv3⟩ := okO_range hok
        have R : Hid ((⟨(bytesO (l.take (j + 1))).toArray⟩ : ByteArray) = S ++ ⟨#[UInt8.ofNat a, UInt8.ofNat (x.value.size + 2)]⟩ ++ x.value ∧ (l.take (j + 1)).all okO = true) := by
          refine ⟨?_, by rw [take_next hx, List.all_append, HI.out.2.1]; simp [hok]⟩
          apply bytes_ext
          rw [take_next hx, bytesO_snoc, HI.out.1, optBytes, ha, Int.toNat_natCast, Nat.add_comm 2]
          simp [ByteArray.data_append]
        rw [ha] at c0 HA
        have hn0 : ¬ (a : Int) < 1 := by omega
        have hn1 : ¬ (255 : Int) < (a : Int) := by omega
        have hvz : ¬ (253 : Int) < (x.value.size : Int) := by omega
        have hwa : IntKind.u8.wrap (a : Int) = (a : Int) := by show (a : Int) % 256 = _; omega
        have hwv : IntKind.u8.wrap ((x.value.size : Int) + 2) = (x.value.size : Int) + 2 := by show ((x.value.size : Int) + 2) % 256 = _; omega
        have hws : IntKind.i64.wrap ((x.value.size : Int) + 2) = (x.value.size : Int) + 2 := by rw [IntKind.wrap_i64]; omega
        have hc1 := two_conv (wr.alloc (.cells #[.int .u8 (a : Int), .int .u8 ((x.value.size : Int) + 2)] 5)).drew wr.heap.size a (x.value.size + 2) (by omega) (by omega) (a : Int) ((x.value.size : Int) + 2) rfl (by omega) (heap_alloc_new wr _)
        have e2 : (⟨#[UInt8.ofNat a, UInt8.ofNat (x.value.size + 2)]⟩ : ByteArray).size = 2 := rfl
        obtain ⟨C, hC⟩ : ∃ C : ByteArray, C = ⟨#[UInt8.ofNat a, UInt8.ofNat (x.value.size + 2)]⟩ := ⟨_, rfl⟩
        rw [← hC] at R hc1 e2
        have hq1 : ¬ (9223372036854775807 < S.size + C.size) := by omega
        have hq2 : ¬ (9223372036854775807 < S.size + C.size + x.value.size) := by omega
        have hS2 : (S ++ C ++ x.value).size ≤ (j + 1) * 255 := by rw [ByteArray.size_append, ByteArray.size_append]; omega
        obtain ⟨g', o', eg, _, d0, d1⟩ := HA.out _ (HK4.out.alloc (.cells #[.int .u8 (a : Int), .int .u8 ((x.value.size : Int) + 2)] 5))
        simp only [Option.some.injEq, Addr.mk.injEq, and_true] at eg
        obtain ⟨rfl, rfl⟩ := eg
        have HK5 := hid (HK4.out.alloc (.cells #[.int .u8 (a : Int), .int .u8 ((x.value.size : Int) + 2)] 5)).drew
        clear hok hx ha hxs HI hC e2
        generalize x.value = V at *
        go_wp2
        go_region
        all_goals
          go_wp2
          exact ⟨⟨j + 1, _, hlt, by go_num, rfl, hS2, R.out.1.symm, R.out.2, HK5.out⟩, by simp [intOf]; omega⟩
    · obtain rfl : j = l.length := by omega
      obtain ⟨h1, h2, h3⟩ := HI.out
      rw [List.take_length] at h1 h2
      have HP := hid (hYes.out h2)
      have H1 := hid h1
      clear hlt h1 h2 hS
      go_wp2
      go_ret2
      exact ⟨by rw [HP.out, H1.out]; rfl, h3⟩
/-- The document's PutOptions. -/
theorem rPutOpts_any (v : Value) (l : List Tg) (w : World) (hv : TagsAt w v l) (hsz : ∀ x ∈ l, x.value.size ≤ 140737488351232) :
    Calls Tryz.prog 10 #[v] w fun e w' => e = .returned (.tuple #[.string ⟨(putOptsF l).1.toArray⟩, .int .i64 (putOptsF l).2]) ∧ Kept (fun _ => False) w w' := by
  by_cases h : 30 < l.length
  · have e : putOptsF l = ([], 2) := by unfold putOptsF; rw [if_pos h]
    rw [e]
    exact rPutOpts_many v l w hv h
  · exact rPutOpts_in v l w hv (by omega) hsz

set_option maxHeartbeats 4000000 in
set_option maxRecDepth 100000 in
theorem rGetOpts_any (s : ByteArray) (hs : s.size ≤ 140737488351232) (w : World) :
    Calls Tryz.prog 19 #[.string s] w fun e w' => ∃ v, e = .returned (.tuple #[v, .int .i64 (optsOn s.data.toList []).2]) ∧ OwnO w' w.heap.size v (optsOn s.data.toList []).1 ∧ Kept (fun _ => False) w w' := by
  obtain ⟨i0, hi, hz0, hz1, hz2⟩ := info_parts infoOpt
  obtain ⟨R, hR⟩ : ∃ R, R = optsOn s.data.toList [] := ⟨_, rfl⟩
  rw [← hR]
  have HR := hid hR.symm
  clear hR
  go_enter Tryz.func19, Tryz.ntmps19
  go_wp2
  go_loopw [0, 4] (fun vb vl wr => ∃ (b : ByteArray) (acc : List Tg), vb = .string b ∧ Hid (b.size ≤ s.size ∧ acc.length ≤ 30 ∧ optsOn b.data.toList acc = R ∧ MidO w vl acc wr)) (fun vb _ _ => (strV vb).size)
  case atStart => exact ⟨s, [], rfl, Nat.le_refl _, Nat.zero_le _, HR.out, OwnO.nil _ _, Kept.refl _ _⟩
  case round =>
    obtain ⟨b, acc, rfl, HI⟩ := hrel
    obtain ⟨hbs, h30, hT, hmid⟩ := HI.out
    have hbl : b.data.toList.length = b.size := (Lib.size_eq b).symm
    rw [optsOn_eq, hbl] at hT
    have Hm := hid hmid
    clear HI HR hmid
    by_cases h0 : b.size = 0
    · rw [if_pos h0] at hT
      have HT := hid hT
      have h0z : ¬ (0 : Int) < (b.size : Int) := by omega
      clear hT hbl h0
      go_wp2
      go_ret2
      exact ⟨_, by rw [← HT.out]; rfl, by rw [← HT.out]; exact Hm.out.1, Hm.out.2⟩
    · rw [if_neg h0] at hT
      have h0z : (0 : Int) < (b.size : Int) := by omega
      by_cases h1 : b.size < 2
      · rw [if_pos h1] at hT
        have HT := hid hT
        have h1z : ((b.size : Int) == 1) = true := by rw [beq_iff_eq]; omega
        clear hT hbl
        go_wp2
        go_ret2
        exact ⟨_, by rw [← HT.out]; rfl, by rw [← HT.out]; exact OwnO.nil _ _, Hm.out.2⟩
      · rw [if_neg h1] at hT
        have h1z : ((b.size : Int) == 1) = false := by rw [beq_eq_false_iff_ne]; omega
        have x0 := index_at b 0 (by omega) 0 rfl
        have x1 := index_at b 1 (by omega) 1 rfl
        have bA := (b.data.toList.getD 0 0).toNat_lt
        have bB := (b.data.toList.getD 1 0).toNat_lt
        generalize (b.data.toList.getD 0 0).toNat = A at *
        generalize (b.data.toList.getD 1 0).toNat = B at *
        have hwA : IntKind.i64.wrap (A : Int) = (A : Int) := by rw [IntKind.wrap_i64]; omega
        have hwB : IntKind.i64.wrap (B : Int) = (B : Int) := by rw [IntKind.wrap_i64]; omega
        by_cases h3 : A = 0 ∨ B < 2
        · rw [if_pos h3] at hT
          have HT := hid hT
          clear hT hbl
          cases hA : ((A : Int) == 0) with
          | true =>
            go_wp2
            go_ret2
            exact ⟨_, by rw [← HT.out]; rfl, by rw [← HT.out]; exact OwnO.nil _ _, Hm.out.2⟩
          | false =>
            have hA0 : A ≠ 0 := by intro e; rw [e] at hA; simp at hA
            have hBz : (B : Int) < 2 := by omega
            clear hA0 h3
            go_wp2
            go_ret2
            exact ⟨_, by rw [← HT.out]; rfl, by rw [← HT.out]; exact OwnO.nil _ _, Hm.out.2⟩
        · rw [if_neg h3] at hT
          have hA : ((A : Int) == 0) = false := by rw [beq_eq_false_iff_ne]; omega
          have hBz : ¬ (B : Int) < 2 := by omega
          have hB2 : 2 ≤ B := by omega
          clear h3
          by_cases h4 : b.size < B
          · rw [if_pos h4] at hT
            have HT := hid hT
            have h4z : (b.size : Int) < (B : Int) := by omega
            clear hT hbl
            go_wp2
            go_ret2
            exact ⟨_, by rw [← HT.out]; rfl, by rw [← HT.out]; exact OwnO.nil _ _, Hm.out.2⟩
          · rw [if_neg h4] at hT
            have h4z : ¬ (b.size : Int) < (B : Int) := by omega
            obtain ⟨p, cap, hv4⟩ := slice_of Hm.out.1
            subst hv4
            by_cases h6 : 30 ≤ acc.length
            · rw [if_pos h6] at hT
              have HT := hid hT
              have h6z : (30 : Int) ≤ (acc.length : Int) := by omega
              clear hT hbl
              go_wp2
              go_ret2
              exact ⟨_, by rw [← HT.out]; rfl, by rw [← HT.out]; exact OwnO.nil _ _, Hm.out.2⟩
            · rw [if_neg h6] at hT
              have h6z : ¬ (30 : Int) ≤ (acc.length : Int) := by omega
              have j2 := mid_at b 2 B (by omega) (by omega) 2 (B : Int) rfl rfl
              have jE := last_at b B (by omega) (B : Int) rfl
              have eV : (⟨((b.data.toList.drop 2).take (B - 2)).toArray⟩ : ByteArray) = b.extract 2 B := by
                apply bytes_ext
                rw [Lib.extract_data]
              rw [eV, ← sub_data b B] at hT
              have hsz : (b.extract B b.size).size < b.size := by rw [ByteArray.size_extract]; omega
              obtain ⟨X, hX⟩ : ∃ X, X = b.extract 2 B := ⟨_, rfl⟩
              rw [← hX] at hT j2
              have HT := hid hT
              have HO : Hid (∀ W o, MidO w (.slice p acc.length cap) acc W → (W.alloc o).drew.ownsRow w.heap.size 67 2 (.slice p acc.length cap) acc.length (rowT acc)) := fun W o h => World.ownsRow.alloc h.1 o
              have HS : Hid (∀ W o, MidO w (.slice p acc.length cap) acc W → w.heap.size ≤ (W.alloc o).drew.heap.size) := fun W o h => (h.2.alloc o).size
              have HF : Hid (∀ W w' g' cap', MidO w (.slice p acc.length cap) acc W → w'.ownsRow w.heap.size 67 2 (.slice (some ⟨g', 0, none⟩) (acc.length + 1) cap') (acc.length + 1) (rowT acc ++ [.int .i64 (A : Int), .string X]) → (W.alloc (.cells #[.int .i64 (A : Int), .string X] 67)).drew.grownBy w' (Value.slice p acc.length cap).ownBlock → MidO w (.slice (some ⟨g', 0, none⟩) (acc.length + 1) cap') (acc ++ [⟨(A : Int), X⟩]) w') :=
                fun W w' g' cap' h1 h2 h3 => own_moreO (x := ⟨(A : Int), X⟩) h1.2 h1.1 h2 ⟨h3.os, h3.tape, h3.output, h3.size, h3.block⟩
              have h30' : acc.length < 30 := by omega
              have hM2 : MidO w (.slice p acc.length cap) acc wr := Hm.out
              have hK2 := hM2.2
              clear hT hbl hX eV h6 h4 Hm
              go_wp2
              go_region_held_law (fun W => Kept (fun _ => False) w W) (first | assumption | exact hK2.drew | (refine Kept.drew ?_; refine Kept.alloc ?_ _; exact hK2))
                (first
                  | (refine step_append_lies _ rfl (.tmp 29) (.tmp 37) 22 rfl w.heap.size 67 i0 (.agg #[.int .i64 0, .string ⟨#[]⟩]) 2 24 Tryz.underlying22 hi hz0 hz1 hz2 rfl (by decide) _ acc.length (rowT acc) rfl (HO.out _ _ (by assumption)) _ 1 1 [.int .i64 (A : Int), .string X] rfl rfl (World.news_of_block (heap_alloc_new _ _)) (by intro u hu; simp at hu; rcases hu with rfl | rfl <;> rfl) (by decide) (by unfold maxLen; omega) (by omega) (HS.out _ _ (by assumption)) _ rfl ?_; intro g' cap' w6 hown' hgrow hgg hgl'; have hM6 := HF.out _ _ _ _ (by assumption) hown' hgrow; have hK6 := hM6.2))
              all_goals
                clear hown' hgrow hgg hgl'
                go_wp2
                exact ⟨⟨_, _, rfl, by omega, by simp; omega, HT.out, hM6⟩, by simp [strV]; omega⟩
end Go.Proofs.YtdifdcceigoedaaGreat
