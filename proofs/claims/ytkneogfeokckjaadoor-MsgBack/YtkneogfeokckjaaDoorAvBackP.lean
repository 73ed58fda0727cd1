/- What was put is got, and what is cut is short, as plain facts with no Go in them. -/
import Derived.Test.YtkneogfeokckjaaDoorAvPlain
namespace Go.Proofs.YtkneogfeokckjaaDoor
open Go.RowKit

theorem ba_app_data (a b : ByteArray) : (a ++ b).data.toList = a.data.toList ++ b.data.toList := by rw [ByteArray.data_append, Array.toList_append]
theorem ba_app_assoc (a b c : ByteArray) : (a ++ b) ++ c = a ++ (b ++ c) := by
  apply bytes_ext
  simp only [ba_app_data, List.append_assoc]
theorem ba_nil_app (x : ByteArray) : (⟨#[]⟩ : ByteArray) ++ x = x := by
  apply bytes_ext
  rw [ba_app_data]
  rfl
theorem ba_app_nil (x : ByteArray) : x ++ (⟨#[]⟩ : ByteArray) = x := by
  apply bytes_ext
  rw [ba_app_data]
  exact List.append_nil _
theorem ba_nil {b : ByteArray} (h : b.size = 0) : b = ⟨#[]⟩ := by
  apply bytes_ext
  exact List.eq_nil_of_length_eq_zero (by rw [← Lib.size_eq]; exact h)
theorem ext_data (b : ByteArray) (i j : Nat) : (b.extract i j).data.toList = (b.data.toList.drop i).take (j - i) := Lib.extract_data b i j
theorem ext_left (a r : ByteArray) : (a ++ r).extract a.size (a ++ r).size = r := by
  apply bytes_ext
  rw [ext_data, ba_app_data, ByteArray.size_append, Lib.size_eq a, List.drop_left]
  exact List.take_of_length_le (by rw [← Lib.size_eq r]; omega)
theorem ext_part (a v r : ByteArray) : ((a ++ v) ++ r).extract a.size (a.size + v.size) = v := by
  apply bytes_ext
  rw [ext_data, ba_app_assoc, ba_app_data, Lib.size_eq a, List.drop_left, Nat.add_sub_cancel_left, ba_app_data, Lib.size_eq v, List.take_left]
theorem ext_more (a r : ByteArray) {m : Nat} (h : a.size ≤ m) : (a ++ r).extract 0 m = a ++ r.extract 0 (m - a.size) := by
  apply bytes_ext
  rw [ext_data, ba_app_data, ba_app_data, ext_data, List.drop_zero, List.drop_zero, Nat.sub_zero, Nat.sub_zero, List.take_append, ← Lib.size_eq, List.take_of_length_le (by rw [← Lib.size_eq]; exact h)]

theorem numAt_app (a r : ByteArray) (k : Nat) (h : k + 2 ≤ a.size) : numAt (a ++ r) k = numAt a k := by
  unfold numAt
  rw [ba_app_data, List.drop_append_of_le_length (by rw [← Lib.size_eq]; omega), List.take_append_of_le_length (by rw [List.length_drop, ← Lib.size_eq]; omega)]
theorem numAt_ext (a : ByteArray) (k m : Nat) (h : k + 2 ≤ m) : numAt (a.extract 0 m) k = numAt a k := by
  unfold numAt
  rw [ext_data, List.drop_zero, Nat.sub_zero, List.drop_take, List.take_take]
  congr 2
  omega
theorem numAt_low (n : Nat) (r : ByteArray) (h : n < 65536) : numAt (two n ++ r) 0 = n := by
  unfold numAt two
  rw [ba_app_data, List.drop_zero]
  have e : (low n 2).length = 2 := low_length n 2
  rw [show (⟨(low n 2).toArray⟩ : ByteArray).data.toList = low n 2 from rfl, List.take_append_of_le_length (by omega), List.take_of_length_le (by omega), numOf_low]
  omega
theorem numAt_skip (a r : ByteArray) (k : Nat) (h : a.size = k) : numAt (a ++ r) k = numAt r 0 := by
  unfold numAt
  rw [ba_app_data, ← h, Lib.size_eq a, List.drop_left, List.drop_zero]
theorem head_0 (x : Av) (n : Nat) (r : ByteArray) (h : 6 + n < 1024) : numAt (headF x n ++ r) 0 = shareN x.must x.hidden (6 + n) := by
  unfold headF
  rw [ba_app_assoc]
  exact numAt_low _ _ (shareN_lt h)
theorem head_2 (x : Av) (n : Nat) (r : ByteArray) (h : wordB x.vendor = true) : (numAt (headF x n ++ r) 2 : Int) = x.vendor := by
  have hv : 0 ≤ x.vendor ∧ x.vendor ≤ 65535 := by simpa [wordB] using h
  unfold headF
  rw [ba_app_assoc, numAt_skip _ _ 2 (two_size _), ba_app_assoc, numAt_low _ _ (by omega)]
  omega
theorem head_4 (x : Av) (n : Nat) (r : ByteArray) (h : wordB x.type = true) : (numAt (headF x n ++ r) 4 : Int) = x.type := by
  have hv : 0 ≤ x.type ∧ x.type ≤ 65535 := by simpa [wordB] using h
  unfold headF
  rw [← ba_app_assoc, ba_app_assoc, numAt_skip _ _ 4 (by rw [ByteArray.size_append, two_size, two_size]), numAt_low _ _ (by omega)]
  omega
theorem share_parts (must hidden : Bool) (n : Nat) (h : n < 1024) : shareN must hidden n % 1024 = n ∧ shareN must hidden n / 1024 % 16 = 0 ∧ hidB (shareN must hidden n) = hidden ∧ mustB (shareN must hidden n) = must := by
  unfold shareN hidB mustB
  cases must <;> cases hidden <;> simp <;> omega

/-- One value's bytes, and what is behind them, are cut into both. -/
theorem cut_laid (x : Av) (v r : ByteArray) (hn : namesB x = true) (hv : v.size ≤ mostF x.hidden) : cutF (laidA x v ++ r) = (⟨x.must, x.hidden, x.vendor, x.type, v⟩, r, 0) := by
  have hm : mostF x.hidden ≤ 1002 := by unfold mostF; split <;> omega
  have hs : (laidA x v ++ r).size = 6 + v.size + r.size := by rw [ByteArray.size_append, laidA_size]
  have ea : laidA x v ++ r = headF x v.size ++ (v ++ r) := ba_app_assoc _ _ _
  obtain ⟨p1, p2, p3, p4⟩ := share_parts x.must x.hidden (6 + v.size) (by omega)
  unfold namesB at hn
  simp only [Bool.and_eq_true] at hn
  have h0 : numAt (laidA x v ++ r) 0 = shareN x.must x.hidden (6 + v.size) := by rw [ea]; exact head_0 x v.size _ (by omega)
  have h2 : (numAt (laidA x v ++ r) 2 : Int) = x.vendor := by rw [ea]; exact head_2 x v.size _ hn.1
  have h4 : (numAt (laidA x v ++ r) 4 : Int) = x.type := by rw [ea]; exact head_4 x v.size _ hn.2
  unfold cutF
  rw [if_neg (by omega), h0, p1, p2, p3, p4, h2, h4, if_neg (by omega), if_neg (by omega), if_neg (by omega)]
  have e1 : (laidA x v ++ r).extract 6 (6 + v.size) = v := by
    have := ext_part (headF x v.size) v r
    rw [headF_size] at this
    exact this
  have e2 : (laidA x v ++ r).extract (6 + v.size) (laidA x v ++ r).size = r := by
    have := ext_left (laidA x v) r
    rw [laidA_size] at this
    exact this
  rw [e1, e2]
/-- A value that is cut is short. -/
theorem cut_short (x : Av) (v r : ByteArray) (m : Nat) (hv : v.size ≤ 1002) (h0 : 0 < m) (hm : m < 6 + v.size) : (cutF ((laidA x v ++ r).extract 0 m)).2.2 = 5 := by
  have hs : (laidA x v ++ r).size = 6 + v.size + r.size := by rw [ByteArray.size_append, laidA_size]
  have hx : ((laidA x v ++ r).extract 0 m).size = m := by rw [ByteArray.size_extract]; omega
  unfold cutF
  by_cases h6 : m < 6
  · rw [if_pos (by omega)]
  · have ea : laidA x v ++ r = headF x v.size ++ (v ++ r) := ba_app_assoc _ _ _
    have e0 : numAt ((laidA x v ++ r).extract 0 m) 0 = shareN x.must x.hidden (6 + v.size) := by
      rw [numAt_ext _ 0 m (by omega), ea]
      exact head_0 x v.size _ (by omega)
    obtain ⟨p1, p2, p3, p4⟩ := share_parts x.must x.hidden (6 + v.size) (by omega)
    rw [if_neg (by omega), e0, p1, p2, if_neg (by omega), if_pos (by omega)]

theorem unmask (k : Int) (s v x : ByteArray) : maskA true k s v (maskA false k s v x) = x := by
  apply bytes_ext
  exact unmask_mask _ _ _ (firstF_length _ _ _)
theorem show_hide (c : Cov) (k : Int) (x : ByteArray) (hx : x.size ≤ 1000) (h : (hideF c k x).2 = 0) : showF c k (hideF c k x).1 = (x, 0) := by
  unfold hideF at h ⊢
  split at h
  · rename_i h0
    rw [if_pos h0]
    have hs : (maskA false k c.secret c.vector (two x.size ++ x)).size = 2 + x.size := by rw [maskA_size, ByteArray.size_append, two_size]
    unfold showF
    rw [if_pos h0]
    simp only
    rw [if_neg (by omega), unmask, numAt_low _ _ (by omega), if_pos (by omega), hs]
    have e := ext_left (two x.size) x
    rw [ByteArray.size_append, two_size] at e
    rw [e]
  · rename_i h0
    exact absurd h h0

/-- What a value is laid as, and that it is told as it was. -/
theorem one_back {x : Av} {c : Cov} (h : (putOneF x c).2 = 0) : ∃ v : ByteArray, (putOneF x c).1 = laidA x v ∧ v.size ≤ 1002 ∧ (∀ r, cutF (laidA x v ++ r) = (⟨x.must, x.hidden, x.vendor, x.type, v⟩, r, 0)) ∧ toldF c ⟨x.must, x.hidden, x.vendor, x.type, v⟩ = (x, 0) := by
  unfold putOneF at h ⊢
  split at h
  · cases h
  rename_i hn
  rw [if_neg hn]
  have hn' : namesB x = true := by simpa using hn
  split at h
  · cases h
  rename_i hv
  rw [if_neg hv]
  split at h
  · rename_i hh
    rw [if_pos hh]
    split at h
    · rename_i h2
      rw [if_pos h2]
      have hds := hideF_size (c := c) (k := x.type) (x := x.value)
      refine ⟨_, rfl, by omega, fun r => cut_laid x _ r hn' (by rw [hh]; show _ ≤ 1002; omega), ?_⟩
      unfold toldF
      simp only [hh, if_true]
      rw [show_hide c x.type x.value (by omega) h2]
      obtain ⟨m, q, n, t, v⟩ := x
      simp only at hh
      subst hh
      rfl
    · rename_i h2
      exact absurd h h2
  · rename_i hh
    rw [if_neg hh]
    have hf : x.hidden = false := by simpa using hh
    refine ⟨_, rfl, by omega, fun r => cut_laid x _ r hn' (by rw [hf]; show _ ≤ 1000; omega), ?_⟩
    unfold toldF
    simp only [hf]
    obtain ⟨m, q, n, t, v⟩ := x
    simp only at hf
    subst hf
    rfl

/-- The bytes of some values, and that they can be laid. -/
def encA : List Av → Cov → ByteArray
  | [], _ => ⟨#[]⟩
  | x :: r, c => (putOneF x c).1 ++ encA r (passF c x)
def okA : List Av → Cov → Prop
  | [], _ => True
  | x :: r, c => (putOneF x c).2 = 0 ∧ okA r (passF c x)
theorem put_enc {l : List Av} {c : Cov} {acc S : ByteArray} (h : putOn acc l c = (S, 0)) : okA l c ∧ S = acc ++ encA l c := by
  induction l generalizing acc c with
  | nil =>
    simp only [putOn, Prod.mk.injEq, and_true] at h
    exact ⟨trivial, by rw [encA, ba_app_nil]; exact h.symm⟩
  | cons x r ih =>
    simp only [putOn] at h
    split at h
    · rename_i h0
      obtain ⟨h1, h2⟩ := ih h
      exact ⟨⟨h0, h1⟩, by rw [h2, encA, ba_app_assoc]⟩
    · rename_i h0
      exact absurd (congrArg Prod.snd h) h0
theorem get_enc {l : List Av} {c : Cov} {acc : List Av} (h : okA l c) (hn : acc.length + l.length ≤ 40) : getOn (encA l c) acc c = (acc ++ l, 0) := by
  induction l generalizing acc c with
  | nil =>
    rw [getOn_eq, encA, if_pos (show (⟨#[]⟩ : ByteArray).size = 0 from rfl), List.append_nil]
  | cons x r ih =>
    obtain ⟨h0, h1⟩ := h
    rw [List.length_cons] at hn
    obtain ⟨v, e1, hv, e2, e3⟩ := one_back h0
    rw [getOn_eq, encA, e1, e2]
    simp only
    rw [if_neg (by rw [ByteArray.size_append, laidA_size]; omega), if_pos trivial, if_neg (by omega), e3]
    simp only
    rw [if_pos trivial, ih h1 (by rw [List.length_append, List.length_singleton]; omega), List.append_assoc, List.singleton_append]
theorem get_cut {l : List Av} {c : Cov} {acc : List Av} (h : okA l c) (hn : acc.length + l.length ≤ 40) (m : Nat) (hm : m < (encA l c).size) :
    getOn ((encA l c).extract 0 m) acc c = ([], 5) ∨ ∃ k, k ≤ l.length ∧ getOn ((encA l c).extract 0 m) acc c = (acc ++ l.take k, 0) := by
  induction l generalizing acc c m with
  | nil => exact absurd hm (Nat.not_lt_zero _)
  | cons x r ih =>
    obtain ⟨h0, h1⟩ := h
    rw [List.length_cons] at hn
    obtain ⟨v, e1, hv, e2, e3⟩ := one_back h0
    rw [encA, e1] at hm ⊢
    by_cases hz : m = 0
    · subst hz
      refine Or.inr ⟨0, Nat.zero_le _, ?_⟩
      rw [getOn_eq, if_pos (by rw [ByteArray.size_extract]; omega), List.take_zero, List.append_nil]
    · by_cases hs : m < 6 + v.size
      · left
        rw [getOn_eq, cut_short x v _ m hv (by omega) hs, if_neg (by rw [ByteArray.size_extract]; omega), if_neg (by decide)]
      · have e4 := ext_more (laidA x v) (encA r (passF c x)) (m := m) (by rw [laidA_size]; omega)
        rw [laidA_size] at e4
        rw [ByteArray.size_append, laidA_size] at hm
        rw [e4, getOn_eq, e2]
        simp only
        rw [if_neg (by rw [ByteArray.size_append, laidA_size]; omega), if_pos trivial, if_neg (by omega), e3]
        simp only
        rw [if_pos trivial]
        rcases ih h1 (acc := acc ++ [x]) (by rw [List.length_append, List.length_singleton]; omega) (m - (6 + v.size)) (by omega) with hk | ⟨k, hk, hk2⟩
        · exact Or.inl hk
        · refine Or.inr ⟨k + 1, by rw [List.length_cons]; omega, ?_⟩
          rw [hk2, List.append_assoc, List.take_succ_cons, List.singleton_append]

/-- Where Put is well. -/
theorem putAF_ok {l : List Av} {s : ByteArray} (h : (putAF l s).2 = 0) : okA l (cov0 s) ∧ (putAF l s).1 = encA l (cov0 s) ∧ l.length ≤ 40 ∧ (putAF l s).1.size ≤ 1488 := by
  unfold putAF at h ⊢
  split at h
  · cases h
  rename_i h40
  rw [if_neg h40]
  split at h
  · rename_i h0
    rw [if_pos h0]
    split at h
    · cases h
    rename_i h8
    rw [if_neg h8]
    obtain ⟨h1, h2⟩ := put_enc (S := (putOn ⟨#[]⟩ l (cov0 s)).1) (Prod.ext rfl h0)
    exact ⟨h1, by rw [h2, ba_nil_app], by omega, by show (putOn ⟨#[]⟩ l (cov0 s)).1.size ≤ 1488; omega⟩
  · rename_i h0
    exact absurd h h0
theorem putAF_err {l : List Av} {s : ByteArray} (h : (putAF l s).2 ≠ 0) : (putAF l s).1 = ⟨#[]⟩ := by
  unfold putAF at h ⊢
  split
  · rfl
  split
  · split
    · rfl
    · rename_i h1 h2 h3
      rw [if_neg h1, if_pos h2, if_neg h3] at h
      exact absurd rfl h
  · rfl
theorem back_all {l : List Av} {s : ByteArray} (h : (putAF l s).2 = 0) : getAF (putAF l s).1 s = (l, 0) := by
  obtain ⟨h1, h2, h3, _⟩ := putAF_ok h
  rw [h2]
  exact get_enc h1 (by simpa using h3)
theorem back_cut {l : List Av} {s : ByteArray} (h : (putAF l s).2 = 0) (m : Nat) (hm : m < (putAF l s).1.size) : getAF ((putAF l s).1.extract 0 m) s = ([], 5) ∨ ∃ k, k ≤ l.length ∧ getAF ((putAF l s).1.extract 0 m) s = (l.take k, 0) := by
  obtain ⟨h1, h2, h3, _⟩ := putAF_ok h
  rw [h2] at hm ⊢
  exact get_cut h1 (by simpa using h3) m hm
end Go.Proofs.YtkneogfeokckjaaDoor
