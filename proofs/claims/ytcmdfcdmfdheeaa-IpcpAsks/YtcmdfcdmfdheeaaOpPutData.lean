/- The contracts of opts.PutData and opts.Put: a packet as bytes, or the error. -/
import Derived.Test.YtcmdfcdmfdheeaaOpEqual
import Derived.Test.YtcmdfcdmfdheeaaOpPk
namespace Go.Proofs.Ytcmdfcdmfdheeaa
open Go.RowKit

set_option maxHeartbeats 1000000 in
set_option maxRecDepth 100000 in
theorem putData_no (c i : Int) (p : Option Addr) (n cap : Nat) (s : ByteArray) (w : World) (h : byteB c = false ∨ (byteB c = true ∧ byteB i = false) ∨ (byteB c = true ∧ byteB i = true ∧ 0 < n)) :
    Calls Try.prog 83 #[pkV c i (.slice p n cap) s] w fun e w' => e = .returned (.tuple #[.string ⟨#[]⟩, .int .i64 1]) ∧ Kept (fun _ => False) w w' := by
  unfold pkV
  obtain ⟨b0, b1, b2, b3⟩ := box4_new w 40 (.int .i64 c) (.int .i64 i) (.slice p n cap) (.string s)
  have HK := hid ((Kept.refl (fun _ => False) w).alloc (.cells #[.int .i64 c, .int .i64 i, .slice p n cap, .string s] 40))
  have HC := hid (isByte_any c)
  have HI := hid (isByte_any i)
  rcases h with h | ⟨h1, h2⟩ | ⟨h1, h2, h3⟩
  · rw [h] at HC
    clear h
    go_enter Try.func83, Try.ntmps83
    go_wp2_with fail
    refine (HC.out _).mono ?_
    rintro e w1 ⟨rfl, rfl⟩
    go_wp2
    go_ret2
    exact ⟨rfl, HK.out⟩
  · rw [h1] at HC
    rw [h2] at HI
    clear h1 h2
    go_enter Try.func83, Try.ntmps83
    go_wp2_with fail
    refine (HC.out _).mono ?_
    rintro e w1 ⟨rfl, rfl⟩
    go_wp2_with fail
    refine (HI.out _).mono ?_
    rintro e w1 ⟨rfl, rfl⟩
    go_wp2
    go_ret2
    exact ⟨rfl, HK.out⟩
  · rw [h1] at HC
    rw [h2] at HI
    have h3z : (0 : Int) < (n : Int) := by omega
    clear h1 h2
    go_enter Try.func83, Try.ntmps83
    go_wp2_with fail
    refine (HC.out _).mono ?_
    rintro e w1 ⟨rfl, rfl⟩
    go_wp2_with fail
    refine (HI.out _).mono ?_
    rintro e w1 ⟨rfl, rfl⟩
    go_wp2
    go_ret2
    exact ⟨rfl, HK.out⟩

set_option maxHeartbeats 1000000 in
set_option maxRecDepth 100000 in
theorem putData_in (c i : Nat) (hc : c ≤ 255) (hi : i ≤ 255) (p : Option Addr) (cap : Nat) (s : ByteArray) (hs : s.size ≤ 140737488351232) (w : World) :
    Calls Try.prog 83 #[pkV (c : Int) (i : Int) (.slice p 0 cap) s] w fun e w' => e = .returned (.tuple #[.string ⟨(packF c i s.data.toList).1.toArray⟩, .int .i64 (packF c i s.data.toList).2]) ∧ Kept (fun _ => False) w w' := by
  unfold pkV
  obtain ⟨b0, b1, b2, b3⟩ := box4_new w 40 (.int .i64 (c : Int)) (.int .i64 (i : Int)) (.slice p 0 cap) (.string s)
  have HK := hid ((Kept.refl (fun _ => False) w).alloc (.cells #[.int .i64 (c : Int), .int .i64 (i : Int), .slice p 0 cap, .string s] 40))
  have HC := hid (isByte_any (c : Int))
  have HI := hid (isByte_any (i : Int))
  rw [show byteB (c : Int) = true by simp [byteB]; omega] at HC
  rw [show byteB (i : Int) = true by simp [byteB]; omega] at HI
  have HP := hid (pack_any c i hc hi s hs)
  generalize (packF c i s.data.toList).1.toArray = X at *
  generalize (packF c i s.data.toList).2 = E at *
  go_enter Try.func83, Try.ntmps83
  go_wp2_with fail
  refine (HC.out _).mono ?_
  rintro e w1 ⟨rfl, rfl⟩
  go_wp2_with fail
  refine (HI.out _).mono ?_
  rintro e w1 ⟨rfl, rfl⟩
  go_wp2_with fail
  refine (HP.out _).mono ?_
  rintro e w1 ⟨rfl, hk⟩
  have HK1 := hid (HK.out.trans hk)
  clear hk
  go_wp2
  go_ret2
  exact ⟨rfl, HK1.out⟩

/-- 'PutData(p)', by how many options there are alone. -/
theorem putData_len (c i : Int) (p : Option Addr) (cap : Nat) (o : List Tg) (s : ByteArray) (hs : s.size ≤ 140737488351232) (w : World) :
    Calls Try.prog 83 #[pkV c i (.slice p o.length cap) s] w fun e w' => e = .returned (.tuple #[.string ⟨(putDataF c i o s.data.toList).1.toArray⟩, .int .i64 (putDataF c i o s.data.toList).2]) ∧ Kept (fun _ => False) w w' := by
  unfold putDataF
  cases hc : byteB c with
  | false => exact putData_no c i p _ cap s w (Or.inl hc)
  | true =>
    cases hi : byteB i with
    | false => exact putData_no c i p _ cap s w (Or.inr (Or.inl ⟨hc, hi⟩))
    | true =>
      by_cases h0 : o.length = 0
      · obtain ⟨a, rfl, ha⟩ := byteB_nat hc
        obtain ⟨b, rfl, hb⟩ := byteB_nat hi
        rw [if_pos (by simp [h0]), Int.toNat_natCast, Int.toNat_natCast, h0]
        exact putData_in a b ha hb p cap s hs w
      · rw [if_neg (by simp [h0])]
        exact putData_no c i p _ cap s w (Or.inr (Or.inr ⟨hc, hi, by omega⟩))

/-- 'PutData(p)'. -/
theorem putData_any (c i : Int) (v : Value) (o : List Tg) (s : ByteArray) (hs : s.size ≤ 140737488351232) (w : World) (hv : TagsAt w v o) :
    Calls Try.prog 83 #[pkV c i v s] w fun e w' => e = .returned (.tuple #[.string ⟨(putDataF c i o s.data.toList).1.toArray⟩, .int .i64 (putDataF c i o s.data.toList).2]) ∧ Kept (fun _ => False) w w' := by
  obtain ⟨p, cap, rfl⟩ := hv.slice
  exact putData_len c i p cap o s hs w

set_option maxHeartbeats 1000000 in
set_option maxRecDepth 100000 in
theorem putPack_no (c i : Int) (hc : confB c = true) (p : Option Addr) (n cap : Nat) (s : ByteArray) (w : World) (h : byteB i = false ∨ (byteB i = true ∧ s.size ≠ 0)) :
    Calls Try.prog 78 #[pkV c i (.slice p n cap) s] w fun e w' => e = .returned (.tuple #[.string ⟨#[]⟩, .int .i64 1]) ∧ Kept (fun _ => False) w w' := by
  unfold pkV
  obtain ⟨b0, b1, b2, b3⟩ := box4_new w 40 (.int .i64 c) (.int .i64 i) (.slice p n cap) (.string s)
  have HK := hid ((Kept.refl (fun _ => False) w).alloc (.cells #[.int .i64 c, .int .i64 i, .slice p n cap, .string s] 40))
  have HC := hid (hasOptions_any c)
  have HI := hid (isByte_any i)
  rw [hc] at HC
  rcases h with h | ⟨h1, h2⟩
  · rw [h] at HI
    clear h
    go_enter Try.func78, Try.ntmps78
    go_wp2_with fail
    refine (HC.out _).mono ?_
    rintro e w1 ⟨rfl, rfl⟩
    go_wp2_with fail
    refine (HI.out _).mono ?_
    rintro e w1 ⟨rfl, rfl⟩
    go_wp2
    go_ret2
    exact ⟨rfl, HK.out⟩
  · rw [h1] at HI
    have hne0 := str_some h2
    have hne : s.toList.isEmpty = false := by rw [List.isEmpty_eq_false_iff]; exact hne0
    clear h1
    go_enter Try.func78, Try.ntmps78
    go_wp2_with fail
    refine (HC.out _).mono ?_
    rintro e w1 ⟨rfl, rfl⟩
    go_wp2_with fail
    refine (HI.out _).mono ?_
    rintro e w1 ⟨rfl, rfl⟩
    go_wp2
    go_ret2
    exact ⟨rfl, HK.out⟩

set_option maxHeartbeats 1000000 in
set_option maxRecDepth 100000 in
theorem putPack_data (c i : Int) (hc : confB c = false) (p : Option Addr) (n cap : Nat) (s : ByteArray) (w : World) (X : ByteArray) (E : Int)
    (HP : ∀ W, Calls Try.prog 83 #[pkV c i (.slice p n cap) s] W fun e w' => e = .returned (.tuple #[.string X, .int .i64 E]) ∧ Kept (fun _ => False) W w') :
    Calls Try.prog 78 #[pkV c i (.slice p n cap) s] w fun e w' => e = .returned (.tuple #[.string X, .int .i64 E]) ∧ Kept (fun _ => False) w w' := by
  unfold pkV at *
  obtain ⟨b0, b1, b2, b3⟩ := box4_new w 40 (.int .i64 c) (.int .i64 i) (.slice p n cap) (.string s)
  have HK := hid ((Kept.refl (fun _ => False) w).alloc (.cells #[.int .i64 c, .int .i64 i, .slice p n cap, .string s] 40))
  have HC := hid (hasOptions_any c)
  have HP' := hid HP
  rw [hc] at HC
  clear hc HP
  go_enter Try.func78, Try.ntmps78
  go_wp2_with fail
  refine (HC.out _).mono ?_
  rintro e w1 ⟨rfl, rfl⟩
  go_wp2_with fail
  refine (HP'.out _).mono ?_
  rintro e w1 ⟨rfl, hk⟩
  have HK1 := hid (HK.out.trans hk)
  clear hk
  go_wp2
  go_ret2
  exact ⟨rfl, HK1.out⟩

set_option maxHeartbeats 1000000 in
set_option maxRecDepth 100000 in
theorem putPack_in (c i : Nat) (hc : confB (c : Int) = true) (hi : i ≤ 255) (v : Value) (o : List Tg) (w : World) (hv : TagsAt w v o) (hsz : ∀ x ∈ o, x.value.size ≤ 140737488351232) :
    Calls Try.prog 78 #[pkV (c : Int) (i : Int) v ⟨#[]⟩] w fun e w' => e = .returned (.tuple #[.string ⟨(if (putOptsF o).2 = 0 then packF c i (putOptsF o).1 else ([], (putOptsF o).2)).1.toArray⟩, .int .i64 (if (putOptsF o).2 = 0 then packF c i (putOptsF o).1 else ([], (putOptsF o).2)).2]) ∧ Kept (fun _ => False) w w' := by
  obtain ⟨p, cap, rfl⟩ := hv.slice
  unfold pkV
  have Bx := box4_new w 40 (.int .i64 (c : Int)) (.int .i64 (i : Int)) (.slice p o.length cap) (.string ⟨#[]⟩)
  have HK0 := (Kept.refl (fun _ => False) w).alloc (.cells #[.int .i64 (c : Int), .int .i64 (i : Int), .slice p o.length cap, .string ⟨#[]⟩] 40)
  have HO := hid (fun W (hW : Kept (fun _ => False) w W) => putOpts_any _ o W (hv.kept0 hW) hsz)
  have HK := hid HK0
  have HBx := hid Bx
  obtain ⟨b0, b1, b2, b3⟩ := Bx
  have HC := hid (hasOptions_any (c : Int))
  have HI := hid (isByte_any (i : Int))
  rw [hc] at HC
  rw [show byteB (i : Int) = true by simp [byteB]; omega] at HI
  have hc2 : c ≤ 255 := by
    have hr : 1 ≤ (c : Int) ∧ (c : Int) ≤ 4 := by simpa [confB] using hc
    omega
  have hlen : (putOptsF o).1.length ≤ 140737488351232 := by
    unfold putOptsF
    split
    · simp
    · split
      · simp
      · rename_i h1 h2
        have h3 := sizeO_le (l := o) (by simpa using h2)
        rw [bytesO_length]
        omega
  generalize putOptsF o = PO at *
  obtain ⟨l, e⟩ := PO
  simp only at HO hlen ⊢
  have HP := hid (fun W => pack_any c i hc2 hi ⟨l.toArray⟩ (by rw [Lib.size_eq]; exact hlen) W)
  clear hv hc HK0
  cases he : (e != 0) with
  | true =>
    have he0 : e ≠ 0 := by simpa using he
    rw [if_neg he0]
    clear he0
    go_enter Try.func78, Try.ntmps78
    go_wp2_with fail
    refine (HC.out _).mono ?_
    rintro e1 w1 ⟨rfl, rfl⟩
    go_wp2_with fail
    refine (HI.out _).mono ?_
    rintro e1 w1 ⟨rfl, rfl⟩
    go_wp2_with fail
    refine (HO.out _ HK.out).mono ?_
    rintro e1 w1 ⟨rfl, hk⟩
    have HK1 := hid (HK.out.trans hk)
    clear hk
    go_wp2
    go_ret2
    exact ⟨rfl, HK1.out⟩
  | false =>
    have he0 : e = 0 := by simpa using he
    subst he0
    rw [if_pos rfl]
    simp only at HP
    generalize packF c i l = PF at *
    obtain ⟨X, E⟩ := PF
    simp only at HP ⊢
    generalize X.toArray = X' at *
    clear he
    go_enter Try.func78, Try.ntmps78
    go_wp2_with fail
    refine (HC.out _).mono ?_
    rintro e1 w1 ⟨rfl, rfl⟩
    go_wp2_with fail
    refine (HI.out _).mono ?_
    rintro e1 w1 ⟨rfl, rfl⟩
    go_wp2_with fail
    refine (HO.out _ HK.out).mono ?_
    rintro e1 w1 ⟨rfl, hk⟩
    have HK1 := hid (HK.out.trans hk)
    obtain ⟨d0, d1, d2, d3⟩ := HBx.out.kept hk id
    clear hk b0 b1 b2 b3
    go_wp2_with fail
    refine (HP.out _).mono ?_
    rintro e1 w2 ⟨rfl, hk⟩
    have HK2 := hid (HK1.out.trans hk)
    clear hk
    go_wp2
    go_ret2
    exact ⟨rfl, HK2.out⟩

/-- 'Put(p)'. -/
theorem putPack_any (c i : Int) (v : Value) (o : List Tg) (s : ByteArray) (hs : s.size ≤ 140737488351232) (w : World) (hv : TagsAt w v o) (hsz : ∀ x ∈ o, x.value.size ≤ 140737488351232) :
    Calls Try.prog 78 #[pkV c i v s] w fun e w' => e = .returned (.tuple #[.string ⟨(putPackF c i o s.data.toList).1.toArray⟩, .int .i64 (putPackF c i o s.data.toList).2]) ∧ Kept (fun _ => False) w w' := by
  unfold putPackF
  cases hc : confB c with
  | false =>
    rw [if_pos rfl]
    obtain ⟨p, cap, rfl⟩ := hv.slice
    refine putPack_data c i hc p _ cap s w _ _ (fun W => ?_)
    exact putData_len c i p cap o s hs W
  | true =>
    rw [if_neg (by simp)]
    have hl : s.data.toList.length = s.size := (Lib.size_eq s).symm
    rw [hl]
    cases hi : byteB i with
    | false =>
      obtain ⟨p, cap, rfl⟩ := hv.slice
      exact putPack_no c i hc p _ cap s w (Or.inl hi)
    | true =>
      by_cases h0 : s.size = 0
      · obtain rfl := str_nil s h0
        obtain ⟨a, rfl, ha⟩ := confB_nat hc
        obtain ⟨b, rfl, hb⟩ := byteB_nat hi
        rw [if_pos (by simp [h0]), Int.toNat_natCast, Int.toNat_natCast]
        exact putPack_in a b hc hb v o w hv hsz
      · obtain ⟨p, cap, rfl⟩ := hv.slice
        rw [if_neg (by simp [h0])]
        exact putPack_no c i hc p _ cap s w (Or.inr ⟨hi, h0⟩)
end Go.Proofs.Ytcmdfcdmfdheeaa
