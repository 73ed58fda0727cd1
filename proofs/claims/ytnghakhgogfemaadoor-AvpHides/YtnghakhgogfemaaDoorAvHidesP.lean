/- A vector and a hidden value behind it: what is put, what is got with another secret; as plain facts with no Go in them. -/
import Derived.Test.YtnghakhgogfemaaDoorAvBackP
namespace Go.Proofs.YtnghakhgogfemaaDoor
open Go.RowKit

theorem piece_of_maskU (un : Bool) (first secret v : List UInt8) (h : first.length = 16) (j : Nat) (hj : 16 * j < v.length) : pieceF (maskF un first secret v) j = xorL (pieceF v j) (keyB un first secret v j) := by
  have e : (maskF un first secret v).take (16 * (j + 1)) = (maskB un first secret v (j + 1)).1 := maskB_take un first secret v h (j + 1) _ (by omega)
  have hl := maskB_length un first secret v h j
  rw [pieceF_eq, e, maskB_out, List.drop_append, List.drop_of_length_le (by omega), List.nil_append, hl, show 16 * j - min (16 * j) v.length = 0 by omega, List.drop_zero]
/-- What was shown is hidden as it was. -/
theorem mask_unmask (first secret v : List UInt8) (h : first.length = 16) : maskF false first secret (maskF true first secret v) = v := by
  have hlen := maskF_length true first secret v h
  have key : ∀ j, 16 * j < v.length + 16 → (maskB false first secret (maskF true first secret v) j).1 = v.take (16 * j) ∧ (maskB false first secret (maskF true first secret v) j).2 = (maskB true first secret v j).2 := by
    intro j
    induction j with
    | zero => intro _; simp [maskB]
    | succ j ih =>
      intro hj
      obtain ⟨i1, i2⟩ := ih (by omega)
      have hp := piece_of_maskU true first secret v h j (by omega)
      have hk : keyB false first secret (maskF true first secret v) j = keyB true first secret v j := by
        unfold keyB
        rw [i2]
      have hx : xorL (pieceF (maskF true first secret v) j) (keyB false first secret (maskF true first secret v) j) = pieceF v j := by
        rw [hp, hk, xorL_xorL _ _ (by rw [pieceF_length, keyB_length _ _ _ _ _ h]; omega)]
      constructor
      · rw [maskB_out, i1, hx, pieceF_eq]
        have e : v.take (16 * j) = (v.take (16 * (j + 1))).take (16 * j) := by rw [List.take_take]; congr 1; omega
        rw [e, List.take_append_drop]
      · rw [maskB_last, maskB_last, hx]
        simp
  have hK := key ((v.length + 15) / 16) (by omega)
  unfold maskF at hlen hK ⊢
  rw [hlen, hK.1]
  exact List.take_of_length_le (by omega)
theorem mask_unmaskA (k : Int) (s v x : ByteArray) : maskA false k s v (maskA true k s v x) = x := by
  apply bytes_ext
  exact mask_unmask _ _ _ (firstF_length _ _ _)
theorem low_num (l : List UInt8) (h : 2 ≤ l.length) : low (numOf (l.take 2)) 2 = l.take 2 := by
  match l, h with
  | a :: b :: r, _ =>
    have ha := a.toNat_lt
    have hb := b.toNat_lt
    simp only [List.take_succ_cons, List.take_zero]
    have e : numOf [a, b] = a.toNat * 256 + b.toNat := by simp [numOf]
    rw [e]
    simp only [low, List.nil_append, List.cons_append]
    rw [show (a.toNat * 256 + b.toNat) / 256 % 256 = a.toNat by omega, show (a.toNat * 256 + b.toNat) % 256 = b.toNat by omega]
    simp
theorem two_join (u : ByteArray) (h : 2 ≤ u.size) : two (numAt u 0) ++ u.extract 2 u.size = u := by
  apply bytes_ext
  rw [ba_app_data, ext_data]
  unfold two numAt
  have e1 : (u.data.toList.drop 2).take (u.size - 2) = u.data.toList.drop 2 := List.take_of_length_le (by rw [List.length_drop, ← Lib.size_eq]; exact Nat.le_refl _)
  have e2 : low (numOf (u.data.toList.take 2)) 2 = u.data.toList.take 2 := low_num _ (by rw [← Lib.size_eq]; exact h)
  rw [List.drop_zero, show (⟨(low (numOf (u.data.toList.take 2)) 2).toArray⟩ : ByteArray).data.toList = low (numOf (u.data.toList.take 2)) 2 from rfl, e2, e1, List.take_append_drop]

def vecA (vector : ByteArray) : Av := ⟨true, false, 0, 36, vector⟩
def hidA (kind : Int) (x : ByteArray) : Av := ⟨true, true, 0, kind, x⟩
def covA (s vector : ByteArray) : Cov := ⟨s, vector, true⟩
theorem pass_vec (s vector : ByteArray) : passF (cov0 s) (vecA vector) = covA s vector := rfl
theorem one_vec {vector : ByteArray} (c : Cov) (hc : vector.size ≤ 200) : putOneF (vecA vector) c = (laidA (vecA vector) vector, 0) := by
  have e1 : namesB (vecA vector) = true := rfl
  have e2 : (vecA vector).hidden = false := rfl
  have e3 : (vecA vector).value = vector := rfl
  unfold putOneF
  rw [e1, e2, e3, if_neg (by decide), if_neg (by omega), if_neg (by decide)]
theorem names_hid {kind : Int} (x : ByteArray) (hk : 0 ≤ kind ∧ kind ≤ 65535) : namesB (hidA kind x) = true := by
  unfold namesB hidA wordB
  simp
  omega
theorem one_hid {kind : Int} {value : ByteArray} (c : Cov) (hk : 0 ≤ kind ∧ kind ≤ 65535) (hv : value.size ≤ 1000) : putOneF (hidA kind value) c = if lacksF c = 0 then (laidA (hidA kind value) (maskA false kind c.secret c.vector (two value.size ++ value)), 0) else (⟨#[]⟩, lacksF c) := by
  have e1 := names_hid value hk
  have e2 : (hidA kind value).hidden = true := rfl
  have e3 : (hidA kind value).value = value := rfl
  have e4 : (hidA kind value).type = kind := rfl
  unfold putOneF
  rw [e1, e2, e3, e4, if_neg (by decide), if_neg (by omega), if_pos rfl]
  unfold hideF
  by_cases h : lacksF c = 0
  · rw [if_pos h, if_pos h, if_pos rfl]
  · rw [if_neg h, if_neg h, if_neg h]
theorem lacks_cov {vector : ByteArray} (s : ByteArray) (hs : s.size ≠ 0) : lacksF (covA s vector) = 0 := by
  have e1 : (covA s vector).secret = s := rfl
  have e2 : (covA s vector).has = true := rfl
  unfold lacksF
  rw [e1, e2, if_neg hs, if_neg (by decide)]
/-- What both are laid as. -/
def bothA (kind : Int) (vector M : ByteArray) : ByteArray := laidA (vecA vector) vector ++ laidA (hidA kind ⟨#[]⟩) M
theorem laid_hid {kind : Int} (x y M : ByteArray) : laidA (hidA kind x) M = laidA (hidA kind y) M := rfl
theorem both_size {kind : Int} {vector : ByteArray} (M : ByteArray) : (bothA kind vector M).size = 12 + vector.size + M.size := by
  unfold bothA
  rw [ByteArray.size_append, laidA_size, laidA_size]
  omega
theorem hides_any {kind : Int} {value vector : ByteArray} (hk : 0 ≤ kind ∧ kind ≤ 65535) (hv : value.size ≤ 200) (hc : vector.size ≤ 200) (s : ByteArray) : putAF [vecA vector, hidA kind value] s = if lacksF (covA s vector) = 0 then (bothA kind vector (maskA false kind s vector (two value.size ++ value)), 0) else (⟨#[]⟩, lacksF (covA s vector)) := by
  have hM : (maskA false kind s vector (two value.size ++ value)).size = 2 + value.size := by rw [maskA_size, ByteArray.size_append, two_size]
  have hB := both_size (kind := kind) (vector := vector) (maskA false kind s vector (two value.size ++ value))
  have e2 := one_hid (value := value) (covA s vector) hk (by omega)
  have hO : putOn ⟨#[]⟩ [vecA vector, hidA kind value] (cov0 s) = if lacksF (covA s vector) = 0 then (bothA kind vector (maskA false kind s vector (two value.size ++ value)), 0) else (⟨#[]⟩, lacksF (covA s vector)) := by
    simp only [putOn, one_vec (cov0 s) hc, pass_vec, e2]
    by_cases h : lacksF (covA s vector) = 0
    · simp only [h, if_true, ba_nil_app]
      rfl
    · simp only [h, if_true, if_false]
  unfold putAF
  rw [if_neg (by simp), hO]
  by_cases h : lacksF (covA s vector) = 0
  · rw [if_pos h, if_pos rfl, if_neg (by show ¬ 1488 < (bothA kind vector (maskA false kind s vector (two value.size ++ value))).size; omega)]
  · rw [if_neg h, if_neg h]
theorem hides_ok {kind : Int} {value vector s : ByteArray} (hk : 0 ≤ kind ∧ kind ≤ 65535) (hv : value.size ≤ 200) (hc : vector.size ≤ 200) (hs : s.size ≠ 0) : putAF [vecA vector, hidA kind value] s = (bothA kind vector (maskA false kind s vector (two value.size ++ value)), 0) := by
  rw [hides_any hk hv hc, if_pos (lacks_cov s hs)]
theorem hides_30 {kind : Int} {value vector : ByteArray} (hk : 0 ≤ kind ∧ kind ≤ 65535) (hv : value.size ≤ 200) (hc : vector.size ≤ 200) : putAF [vecA vector, hidA kind value] ⟨#[]⟩ = (⟨#[]⟩, 30) := by
  have e : lacksF (covA ⟨#[]⟩ vector) = 30 := rfl
  rw [hides_any hk hv hc, e, if_neg (by decide)]
theorem hides_40 {kind : Int} {value vector s : ByteArray} (hk : 0 ≤ kind ∧ kind ≤ 65535) (hv : value.size ≤ 200) (hs : s.size ≠ 0) : putAF [hidA kind value, vecA vector] s = (⟨#[]⟩, 40) := by
  have e1 : lacksF (cov0 s) = 40 := by
    have e1 : (cov0 s).secret = s := rfl
    have e2 : (cov0 s).has = false := rfl
    unfold lacksF
    rw [e1, e2, if_neg hs, if_pos rfl]
  have e2 := one_hid (value := value) (cov0 s) hk (by omega)
  rw [e1, if_neg (by decide)] at e2
  have hO : putOn ⟨#[]⟩ [hidA kind value, vecA vector] (cov0 s) = (⟨#[]⟩, 40) := by
    simp only [putOn, e2]
    rw [if_neg (by decide)]
  unfold putAF
  rw [if_neg (by simp), hO, if_neg (by decide)]
/-- Both are got, by whatever secret. -/
theorem hides_get {kind : Int} {vector M : ByteArray} (s : ByteArray) (hk : 0 ≤ kind ∧ kind ≤ 65535) (hM : M.size ≤ 1002) (hc : vector.size ≤ 200) : getAF (bothA kind vector M) s = if (showF (covA s vector) kind M).2 = 0 then ([vecA vector, hidA kind (showF (covA s vector) kind M).1], 0) else ([], (showF (covA s vector) kind M).2) := by
  have c1 := cut_laid (vecA vector) vector (laidA (hidA kind ⟨#[]⟩) M) rfl (by show vector.size ≤ 1000; omega)
  have c2 := cut_laid (hidA kind ⟨#[]⟩) M ⟨#[]⟩ (names_hid _ hk) hM
  rw [ba_app_nil] at c2
  have e1 : (⟨(vecA vector).must, (vecA vector).hidden, (vecA vector).vendor, (vecA vector).type, vector⟩ : Av) = vecA vector := rfl
  have e2 : (⟨(hidA kind ⟨#[]⟩).must, (hidA kind ⟨#[]⟩).hidden, (hidA kind ⟨#[]⟩).vendor, (hidA kind ⟨#[]⟩).type, M⟩ : Av) = hidA kind M := rfl
  rw [e1] at c1
  rw [e2] at c2
  have t1 : toldF (cov0 s) (vecA vector) = (vecA vector, 0) := rfl
  have t2 : toldF (covA s vector) (hidA kind M) = (hidA kind (showF (covA s vector) kind M).1, (showF (covA s vector) kind M).2) := rfl
  have z1 : (bothA kind vector M).size ≠ 0 := by rw [both_size]; omega
  have z2 : (laidA (hidA kind ⟨#[]⟩) M).size ≠ 0 := by rw [laidA_size]; omega
  have hL : getOn (laidA (hidA kind ⟨#[]⟩) M) [vecA vector] (covA s vector) = if (showF (covA s vector) kind M).2 = 0 then ([vecA vector, hidA kind (showF (covA s vector) kind M).1], 0) else ([], (showF (covA s vector) kind M).2) := by
    rw [getOn_eq, if_neg z2, c2]
    simp only [t2]
    rw [if_pos trivial, if_neg (by simp)]
    by_cases h : (showF (covA s vector) kind M).2 = 0
    · rw [if_pos h, if_pos h, getOn_eq, if_pos (show (⟨#[]⟩ : ByteArray).size = 0 from rfl)]
      rfl
    · rw [if_neg h, if_neg h]
  unfold getAF
  rw [getOn_eq, if_neg z1]
  unfold bothA
  rw [c1]
  simp only [t1]
  rw [if_pos trivial, if_neg (by simp), if_pos trivial, pass_vec, List.nil_append]
  exact hL
/-- By an empty secret they are not. -/
theorem hides_get30 {kind : Int} {vector M : ByteArray} (hk : 0 ≤ kind ∧ kind ≤ 65535) (hM : M.size ≤ 1002) (hc : vector.size ≤ 200) : getAF (bothA kind vector M) ⟨#[]⟩ = ([], 30) := by
  have e : showF (covA ⟨#[]⟩ vector) kind M = (⟨#[]⟩, 30) := rfl
  rw [hides_get ⟨#[]⟩ hk hM hc, e, if_neg (by decide)]
/-- What is got by another secret, if anything is, is put as it was. -/
theorem hides_again {kind : Int} {vector M s : ByteArray} (hk : 0 ≤ kind ∧ kind ≤ 65535) (hM : M.size ≤ 202) (hc : vector.size ≤ 200) (hs : s.size ≠ 0) (h : (showF (covA s vector) kind M).2 = 0) :
    putAF [vecA vector, hidA kind (showF (covA s vector) kind M).1] s = (bothA kind vector M, 0) ∧ (showF (covA s vector) kind M).1.size ≤ 200 := by
  have h0 := lacks_cov (vector := vector) s hs
  have hms := maskA_size true kind s vector M
  unfold showF at h ⊢
  rw [if_pos h0] at h ⊢
  split at h
  · cases h
  rename_i h2
  rw [if_neg h2]
  split at h
  · rename_i h3
    rw [if_pos h3]
    have hx : ((maskA true kind s vector M).extract 2 M.size).size = M.size - 2 := by rw [ByteArray.size_extract, hms]; omega
    have hj := two_join (maskA true kind s vector M) (by omega)
    have h3' : numAt (maskA true kind s vector M) 0 = M.size - 2 := h3
    rw [h3', hms] at hj
    refine ⟨?_, by show ((maskA true kind s vector M).extract 2 M.size).size ≤ 200; omega⟩
    show putAF [vecA vector, hidA kind ((maskA true kind s vector M).extract 2 M.size)] s = _
    rw [hides_ok hk (by omega) hc hs, hx, hj, mask_unmaskA]
  · cases h
/-- What is told of them by a secret is 4, or nothing. -/
theorem show_err {c : Cov} {k : Int} {x : ByteArray} (h0 : lacksF c = 0) (h : (showF c k x).2 ≠ 0) : (showF c k x).2 = 4 := by
  unfold showF at h ⊢
  rw [if_pos h0] at h ⊢
  split
  · rfl
  split
  · rename_i h1 h2
    rw [if_neg h1, if_pos h2] at h
    exact absurd rfl h
  · rfl
end Go.Proofs.YtnghakhgogfemaaDoor
