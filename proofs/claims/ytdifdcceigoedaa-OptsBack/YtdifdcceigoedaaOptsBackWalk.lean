/- The law OptsBack: it returns true for every packet, every bytes behind it and every place of a cut, and leaves what was there. -/
import Derived.Test.YtdifdcceigoedaaOptsBackKit
namespace Go.Proofs.Ytdifdcceigoedaa
open Go.RowKit

set_option maxHeartbeats 1000000 in
set_option maxRecDepth 100000 in
theorem optsBack_not (c i : Int) (u : Value) (o : List Tg) (x more : ByteArray) (cut : Int) (w : World) (hu : TagsAt w u o) (hon : o.length ≤ maxLen) (hso : ∀ z ∈ o, z.value.size ≤ 140737488351232) (hx : x.size ≤ 140737488351232) (hm : more.size ≤ 140737488351232)
    (h : lightO o = false ∨ (lightO o = true ∧ 3000 < x.size + more.size)) :
    Calls Try.prog 3 #[pkV c i u x, .string more, .int .i64 cut] w fun e w' => e = .returned (.bool true) ∧ Below w.heap.size w w' := by
  have Ha := hid aliveO_any
  obtain ⟨p, cap, rfl⟩ := hu.slice
  unfold pkV
  have P0 := hid (PkAt.new w c i (.slice p o.length cap) x)
  have K0 := hid ((Kept.refl (fun _ => False) w).alloc (.cells #[.int .i64 c, .int .i64 i, .slice p o.length cap, .string x] 24))
  obtain ⟨b0, b1, b2, b3⟩ := P0.out.cells
  rcases h with h | ⟨h, h6⟩
  · have HL := lightHid hu hon hso h
    clear hu hso hon h
    go_enter Try.func3, Try.ntmps3
    go_wp2_with fail
    refine (HL.out _ K0.out).mono ?_
    rintro e w1 ⟨rfl, hk1⟩
    have HK1 := hid (K0.out.trans hk1)
    clear hk1
    go_wp2_with fail
    refine (Ha.out _).mono ?_
    rintro e w2 ⟨rfl, hk2⟩
    go_wp2
    go_ret
    exact ⟨rfl, below_of (HK1.out.trans hk2)⟩
  · have HL := lightHid hu hon hso h
    have h6z : (3000 : Int) < (x.size : Int) + (more.size : Int) := by omega
    clear hu hso hon h h6
    go_enter Try.func3, Try.ntmps3
    go_wp2_with fail
    refine (HL.out _ K0.out).mono ?_
    rintro e w1 ⟨rfl, hk1⟩
    have HK1 := hid (K0.out.trans hk1)
    obtain ⟨d0, d1, d2, d3⟩ := (P0.out.kept hk1 id).cells
    clear hk1
    go_wp2_with fail
    refine (Ha.out _).mono ?_
    rintro e w2 ⟨rfl, hk2⟩
    go_wp2
    go_ret
    exact ⟨rfl, below_of (HK1.out.trans hk2)⟩

theorem app_data (X : List UInt8) (m : ByteArray) : ((⟨X.toArray⟩ : ByteArray) ++ m).data.toList = X ++ m.data.toList := by rw [ByteArray.data_append]; simp
theorem app_size (X : List UInt8) (m : ByteArray) : ((⟨X.toArray⟩ : ByteArray) ++ m).size = X.length + m.size := by rw [ByteArray.size_append]; rfl
theorem back_bytes (x : ByteArray) : (⟨x.data.toList.toArray⟩ : ByteArray) = x := bytes_ext rfl

/-- The law's own box, and what was there. -/
def Bx (w : World) (c i : Int) (u : Value) (x : ByteArray) (W : World) : Prop := Kept (fun _ => False) w W ∧ PkAt W w.heap.size c i u x
theorem Bx.next {w W W' : World} {c i : Int} {u : Value} {x : ByteArray} (h : Bx w c i u x W) (k : Kept (fun _ => False) W W') : Bx w c i u x W' := ⟨h.1.trans k, h.2.kept k id⟩

set_option maxHeartbeats 4000000 in
set_option maxRecDepth 100000 in
theorem optsBack_in (c i : Int) (u : Value) (o : List Tg) (x more : ByteArray) (cut : Int) (w : World) (hu : TagsAt w u o) (hon : o.length ≤ maxLen) (hso : ∀ z ∈ o, z.value.size ≤ 140737488351232)
    (hl : lightO o = true) (h3 : x.size + more.size ≤ 3000) :
    Calls Try.prog 3 #[pkV c i u x, .string more, .int .i64 cut] w fun e w' => e = .returned (.bool true) ∧ Below w.heap.size w w' := by
  have Ha := hid aliveO_any
  have HL := lightHid hu hon hso hl
  have ho5 := (lightO_true hl).1
  have HD := hid (fun W (h : Kept (fun _ => False) w W) => putData_any c i u o x (by omega) W (hu.kept0 h))
  have HP := hid (fun W (h : Kept (fun _ => False) w W) => putPack_any c i u o x (by omega) W (hu.kept0 h) hso)
  have HSm := hid (fun W y k (h : Kept (fun _ => False) w W) (hy : OwnO W k y o) => sameO_any y u o o W hy.tags (hu.kept0 h) (by omega))
  rw [sameF_self] at HSm
  obtain ⟨p, cap, rfl⟩ := hu.slice
  unfold pkV at *
  have B0 : Hid (Bx w c i (.slice p o.length cap) x (w.alloc (.cells #[.int .i64 c, .int .i64 i, .slice p o.length cap, .string x] 24))) := ⟨(Kept.refl (fun _ => False) w).alloc _, PkAt.new w c i _ x⟩
  obtain ⟨b0, b1, b2, b3⟩ := B0.out.2.cells
  have h3z : ¬ (3000 : Int) < (x.size : Int) + (more.size : Int) := by omega
  have HE1 : Hid ((putDataF c i o x.data.toList).2 = 0 → ∃ a b : Nat, c = (a : Int) ∧ i = (b : Int) ∧ ((⟨(putDataF c i o x.data.toList).1.toArray⟩ : ByteArray).size ≤ 1492) ∧ ∀ W, Calls Try.prog 10 #[.string (⟨(putDataF c i o x.data.toList).1.toArray⟩ ++ more)] W fun e w' => e = .returned (.tuple #[.agg #[.int .i64 (a : Int), .int .i64 (b : Int), .slice none 0 0, .string x], .int .i64 0]) ∧ Kept (fun _ => False) W w') := fun h => by
    obtain ⟨a, b, ha, hb, ha2, hb2, _, hxl, e⟩ := putData_ok h
    rw [e]
    refine ⟨a, b, ha, hb, by show (headF a b (4 + x.data.toList.length) ++ x.data.toList).length ≤ _; rw [List.length_append]; simp only [headF, List.length_cons, List.length_nil]; omega, fun W => ?_⟩
    have hg := getData_any (⟨(headF a b (4 + x.data.toList.length) ++ x.data.toList).toArray⟩ ++ more) (by rw [app_size, List.length_append]; simp only [headF, List.length_cons, List.length_nil]; omega) W
    rw [app_data, getData_pack a b ha2 hb2 _ _ hxl] at hg
    unfold pkD pkV at hg
    simp only [back_bytes] at hg
    exact hg
  have HE2 : Hid ((putPackF c i o x.data.toList).2 = 0 → ∃ a b : Nat, c = (a : Int) ∧ i = (b : Int) ∧ 4 ≤ (⟨(putPackF c i o x.data.toList).1.toArray⟩ : ByteArray).size ∧ (⟨(putPackF c i o x.data.toList).1.toArray⟩ : ByteArray).size ≤ 1492 ∧
      (∀ W, Calls Try.prog 12 #[.string (⟨(putPackF c i o x.data.toList).1.toArray⟩ ++ more)] W fun e w' => ∃ y, e = .returned (.tuple #[.agg #[.int .i64 (a : Int), .int .i64 (b : Int), y, .string x], .int .i64 0]) ∧ OwnO w' W.heap.size y o ∧ Kept (fun _ => False) W w') ∧
      (∀ k, k < (⟨(putPackF c i o x.data.toList).1.toArray⟩ : ByteArray).size → ∀ W, Calls Try.prog 12 #[.string ((⟨(putPackF c i o x.data.toList).1.toArray⟩ : ByteArray).extract 0 k)] W fun e w' => ∃ y, e = .returned (.tuple #[.agg #[.int .i64 0, .int .i64 0, y, .string ⟨#[]⟩], .int .i64 5]) ∧ OwnO w' W.heap.size y [] ∧ Kept (fun _ => False) W w')) := fun h => by
    obtain ⟨a, b, L, ha, hb, ha2, hb2, hLl, e, hget⟩ := putPack_ok h
    rw [e]
    have hlen : (headF a b (4 + L.length) ++ L).length = 4 + L.length := by rw [List.length_append]; rfl
    refine ⟨a, b, ha, hb, by show 4 ≤ (headF a b (4 + L.length) ++ L).length; omega, by show (headF a b (4 + L.length) ++ L).length ≤ _; omega, fun W => ?_, fun k hk W => ?_⟩
    · have hg := getPack_any (⟨(headF a b (4 + L.length) ++ L).toArray⟩ ++ more) (by rw [app_size]; omega) W
      rw [app_data, hget _ (getData_pack a b ha2 hb2 L _ hLl)] at hg
      refine hg.mono ?_
      rintro r w' ⟨v, rfl, ⟨y, rfl, hy⟩, hk⟩
      unfold pkV
      simp only [back_bytes]
      exact ⟨y, rfl, hy, hk⟩
    · have hk' : k < 4 + L.length := by rw [← hlen]; exact hk
      have hg := getPack_any ((⟨(headF a b (4 + L.length) ++ L).toArray⟩ : ByteArray).extract 0 k) (by rw [ByteArray.size_extract]; omega) W
      have ed : ((⟨(headF a b (4 + L.length) ++ L).toArray⟩ : ByteArray).extract 0 k).data.toList = (headF a b (4 + L.length) ++ L).take k := by rw [Lib.extract_data, Nat.sub_zero, List.drop_zero]
      rw [ed, getPack_of (getData_cut a b ha2 hb2 L hLl k hk') (Or.inl (by decide))] at hg
      refine hg.mono ?_
      rintro r w' ⟨v, rfl, ⟨y, rfl, hy⟩, hk⟩
      exact ⟨y, rfl, hy, hk⟩
  have HE3 : Hid ((putPackF c i o x.data.toList).2 ≠ 0 → (⟨(putPackF c i o x.data.toList).1.toArray⟩ : ByteArray) = ⟨#[]⟩) := fun h => by rw [putPack_err h]
  generalize (putDataF c i o x.data.toList).2 = E1 at *
  generalize (⟨(putDataF c i o x.data.toList).1.toArray⟩ : ByteArray) = S1 at *
  generalize (putPackF c i o x.data.toList).2 = E2 at *
  generalize (⟨(putPackF c i o x.data.toList).1.toArray⟩ : ByteArray) = S2 at *
  clear hu hso hl hon
  go_enter Try.func3, Try.ntmps3
  go_wp2_with fail
  refine (HL.out _ B0.out.1).mono ?_
  rintro e w1 ⟨rfl, hk1⟩
  have B1 := hid (B0.out.next hk1)
  clear b0 b1 b2 b3 B0 hk1
  obtain ⟨b0, b1, b2, b3⟩ := B1.out.2.cells
  go_wp2_with fail
  refine (HD.out _ B1.out.1).mono ?_
  rintro e w2 ⟨rfl, hk2⟩
  have B2 := hid (B1.out.next hk2)
  clear b0 b1 b2 b3 B1 hk2
  obtain ⟨b0, b1, b2, b3⟩ := B2.out.2.cells
  go_upto_if 36 with fail
  go_cut [9, 10] (fun _ _ wx => Bx w c i (.slice p o.length cap) x wx)
  case first =>
    clear HP HSm HE2 HE3
    cases hE : (E1 == 0) with
    | false =>
      go_wp2
      go_meet
      exact B2.out
    | true =>
      obtain ⟨a, b, hca, hib, hsz1, hG⟩ := HE1.out (by simpa using hE)
      have HG := hid hG
      have hno : ¬ (9223372036854775807 < S1.size + more.size) := by omega
      subst hca hib
      clear hG HE1
      go_wp2_with fail
      refine (HG.out _).mono ?_
      rintro e w3 ⟨rfl, hk3⟩
      have B3 := hid (B2.out.next hk3)
      clear b0 b1 b2 b3 hk3
      go_upto_region 6 with fail
      have B4 := hid (B3.out.next ((Kept.refl _ w3).alloc (.cells #[.int .i64 (a : Int), .int .i64 (b : Int), .slice none 0 0, .string x] 24)))
      have Q4 := hid (PkAt.new w3 (a : Int) (b : Int) (.slice none 0 0) x)
      generalize w3.alloc (.cells #[.int .i64 (a : Int), .int .i64 (b : Int), .slice none 0 0, .string x] 24) = W4 at B4 Q4 ⊢
      obtain ⟨b0, b1, b2, b3⟩ := B4.out.2.cells
      obtain ⟨q0, q1, q2, q3⟩ := Q4.out.cells
      go_wp2
      go_meet
      exact B4.out
  case rest =>
    have B5 := hid hcut
    clear hcut b0 b1 b2 b3 B2 HE1 HD HL
    obtain ⟨b0, b1, b2, b3⟩ := B5.out.2.cells
    cases hE : (E2 == 0) with
    | false =>
      have hE0 : E2 ≠ 0 := by simpa using hE
      have hne : (E2 != 0) = true := by simpa using hE
      have hS := HE3.out hE0
      subst hS
      clear HE2 HE3 HSm hE hE0
      go_wp2_with fail
      refine (HP.out _ B5.out.1).mono ?_
      rintro e w6 ⟨rfl, hk6⟩
      have B6 := hid (B5.out.next hk6)
      clear b0 b1 b2 b3 hk6 B5
      go_wp2_with fail
      refine (Ha.out _).mono ?_
      rintro e w7 ⟨rfl, hk7⟩
      have B7 := hid (B6.out.next hk7)
      clear hk7 B6
      go_wp2
      go_ret
      exact ⟨rfl, below_of B7.out.1⟩
    | true =>
      have hE0 : E2 = 0 := by simpa using hE
      subst hE0
      obtain ⟨a, b, hca, hib, hs4, hs5, hG, hK⟩ := HE2.out rfl
      obtain ⟨k, hk, hkk⟩ := rem_in cut S2.size (by omega)
      have HG := hid hG
      have HK := hid (hK k hk)
      have jF := first_at S2 k (by omega) (k : Int) rfl
      have hno : ¬ (9223372036854775807 < S2.size + more.size) := by omega
      have hs4z : ¬ (S2.size : Int) < 4 := by omega
      have hs0z : ((S2.size : Int) == 0) = false := by rw [beq_eq_false_iff_ne]; omega
      subst hca hib
      clear hG hK HE2 HE3 hE
      go_wp2_with fail
      refine (HP.out _ B5.out.1).mono ?_
      rintro e w6 ⟨rfl, hk6⟩
      have B6 := hid (B5.out.next hk6)
      clear b0 b1 b2 b3 hk6 B5 HP
      go_wp2_with fail
      refine (HG.out _).mono ?_
      rintro e w7 ⟨y, rfl, hy, hk7⟩
      have B7 := hid (B6.out.next hk7)
      have Y7 := hid hy
      obtain ⟨py, cy, hpy⟩ := slice_of hy
      subst hpy
      clear hk7 B6 hy HG
      go_upto_region 12 with fail
      have k8 := (Kept.refl (fun _ => False) w7).alloc (.cells #[.int .i64 (a : Int), .int .i64 (b : Int), .slice py o.length cy, .string x] 24)
      have B8 := hid (B7.out.next k8)
      have Y8 := hid (Y7.out.kept k8)
      have Q8 := hid (PkAt.new w7 (a : Int) (b : Int) (.slice py o.length cy) x)
      clear k8 Y7
      generalize w7.alloc (.cells #[.int .i64 (a : Int), .int .i64 (b : Int), .slice py o.length cy, .string x] 24) = W8 at B8 Y8 Q8 ⊢
      obtain ⟨b0, b1, b2, b3⟩ := B8.out.2.cells
      obtain ⟨q0, q1, q2, q3⟩ := Q8.out.cells
      go_wp2_with fail
      refine (HSm.out _ _ _ B8.out.1 Y8.out).mono ?_
      rintro e w9 ⟨rfl, hk9⟩
      have B9 := hid (B8.out.next hk9)
      clear hk9 B8 Y8 Q8 b0 b1 b2 b3 q0 q1 q2 q3 B7 HSm
      go_upto_region 14 with fail
      rcases hkk with hkk | ⟨hkn, hkk⟩
      · have hkz : ¬ (k : Int) < 0 := by omega
        go_wp2_with fail
        refine (HK.out _).mono ?_
        rintro e w10 ⟨y, rfl, hy, hk10⟩
        obtain ⟨pz, cz, hpz⟩ := slice_of hy
        subst hpz
        have B10 := hid (B9.out.next hk10)
        clear hk10 B9 hy
        go_wp2_with fail
        refine (Ha.out _).mono ?_
        rintro e w11 ⟨rfl, hk11⟩
        have B11 := hid ((B10.out.next ((Kept.refl (fun _ => False) w10).alloc _)).next hk11)
        clear hk11 B10
        go_wp2
        go_ret
        exact ⟨rfl, below_of B11.out.1⟩
      · have hkw : IntKind.i64.wrap (cut.tmod (S2.size : Int) + (S2.size : Int)) = (k : Int) := by rw [hkk, IntKind.wrap_i64]; omega
        go_wp2_with fail
        refine (HK.out _).mono ?_
        rintro e w10 ⟨y, rfl, hy, hk10⟩
        obtain ⟨pz, cz, hpz⟩ := slice_of hy
        subst hpz
        have B10 := hid (B9.out.next hk10)
        clear hk10 B9 hy
        go_wp2_with fail
        refine (Ha.out _).mono ?_
        rintro e w11 ⟨rfl, hk11⟩
        have B11 := hid ((B10.out.next ((Kept.refl (fun _ => False) w10).alloc _)).next hk11)
        clear hk11 B10
        go_wp2
        go_ret
        exact ⟨rfl, below_of B11.out.1⟩

theorem optsBack_walk (c i : Int) (u : Value) (o : List Tg) (x more : ByteArray) (cut : Int) (w : World) (hu : TagsAt w u o) (hon : o.length ≤ maxLen) (hso : ∀ z ∈ o, z.value.size ≤ 140737488351232) (hx : x.size ≤ 140737488351232) (hm : more.size ≤ 140737488351232) (_ : -9223372036854775808 ≤ cut ∧ cut ≤ 9223372036854775807) :
    Calls Try.prog 3 #[pkV c i u x, .string more, .int .i64 cut] w fun e w' => e = .returned (.bool true) ∧ Below w.heap.size w w' := by
  cases h : lightO o with
  | false => exact optsBack_not c i u o x more cut w hu hon hso hx hm (Or.inl h)
  | true =>
    by_cases h3 : 3000 < x.size + more.size
    · exact optsBack_not c i u o x more cut w hu hon hso hx hm (Or.inr ⟨h, h3⟩)
    · exact optsBack_in c i u o x more cut w hu hon hso h (by omega)
end Go.Proofs.Ytdifdcceigoedaa
