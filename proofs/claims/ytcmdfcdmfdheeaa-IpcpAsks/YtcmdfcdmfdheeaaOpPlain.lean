/- Options and packets of negotiation in bytes, as plain functions with no Go in them; and what follows of these. -/
import Derived.Test.YtcmdfcdmfdheeaaTagPlain
namespace Go.Proofs.Ytcmdfcdmfdheeaa
open Go.RowKit

/-- Types of 1 to 255, values of at most 253 bytes. -/
def okO (t : Tg) : Bool := decide (1 ≤ t.type) && decide (t.type ≤ 255) && decide (t.value.size ≤ 253)
def optBytes (t : Tg) : List UInt8 := [UInt8.ofNat t.type.toNat, UInt8.ofNat (2 + t.value.size)] ++ t.value.data.toList
def bytesO (l : List Tg) : List UInt8 := l.flatMap optBytes
def sizeO (l : List Tg) : Nat := (l.map fun t => 2 + t.value.size).sum
def putOptsF (l : List Tg) : List UInt8 × Int := if 30 < l.length then ([], 2) else if l.all okO = false then ([], 1) else (bytesO l, 0)

theorem sizeO_snoc (l : List Tg) (t : Tg) : sizeO (l ++ [t]) = sizeO l + (2 + t.value.size) := by simp [sizeO]
theorem sizeO_cons (l : List Tg) (t : Tg) : sizeO (t :: l) = 2 + t.value.size + sizeO l := by simp [sizeO]
theorem sizeO_append (l m : List Tg) : sizeO (l ++ m) = sizeO l + sizeO m := by simp [sizeO]
theorem bytesO_snoc (l : List Tg) (t : Tg) : bytesO (l ++ [t]) = bytesO l ++ optBytes t := by simp [bytesO]
theorem bytesO_cons (l : List Tg) (t : Tg) : bytesO (t :: l) = optBytes t ++ bytesO l := by simp [bytesO]
theorem bytesO_append (l m : List Tg) : bytesO (l ++ m) = bytesO l ++ bytesO m := by simp [bytesO]
theorem optBytes_length (t : Tg) : (optBytes t).length = 2 + t.value.size := by
  unfold optBytes
  rw [List.length_append, ← Lib.size_eq]
  rfl
theorem bytesO_length (l : List Tg) : (bytesO l).length = sizeO l := by
  induction l with
  | nil => rfl
  | cons t l ih => rw [bytesO_cons, List.length_append, optBytes_length, ih, sizeO_cons]

theorem okO_range {t : Tg} (h : okO t = true) : ∃ a : Nat, t.type = (a : Int) ∧ 1 ≤ a ∧ a ≤ 255 ∧ t.value.size ≤ 253 := by
  have hr : (1 ≤ t.type ∧ t.type ≤ 255) ∧ t.value.size ≤ 253 := by simpa [okO] using h
  exact ⟨t.type.toNat, by omega, by omega, by omega, by omega⟩
theorem sizeO_le {l : List Tg} (h : l.all okO = true) : sizeO l ≤ l.length * 255 := by
  induction l with
  | nil => simp [sizeO]
  | cons a r ih =>
    simp at h
    obtain ⟨_, _, _, _, h4⟩ := okO_range h.1
    have := ih (by simpa using h.2)
    rw [sizeO_cons, List.length_cons]
    omega

/-- The options of some bytes, behind those that were read ahead of them; n at a time. -/
def optsN : Nat → List UInt8 → List Tg → List Tg × Int
  | 0, _, _ => ([], 0)
  | n + 1, l, acc =>
    if l.length = 0 then (acc, 0)
    else if l.length < 2 then ([], 5)
    else if (l.getD 0 0).toNat = 0 ∨ (l.getD 1 0).toNat < 2 then ([], 4)
    else if l.length < (l.getD 1 0).toNat then ([], 5)
    else if 30 ≤ acc.length then ([], 2)
    else optsN n (l.drop (l.getD 1 0).toNat) (acc ++ [⟨((l.getD 0 0).toNat : Int), ⟨((l.drop 2).take ((l.getD 1 0).toNat - 2)).toArray⟩⟩])
def optsOn (l : List UInt8) (acc : List Tg) : List Tg × Int := optsN (l.length + 1) l acc

theorem optsN_enough (n m : Nat) (l : List UInt8) (acc : List Tg) (hn : l.length < n) (hm : l.length < m) : optsN n l acc = optsN m l acc := by
  induction n generalizing m l acc with
  | zero => omega
  | succ n ih =>
    cases m with
    | zero => omega
    | succ m =>
      simp only [optsN]
      by_cases h1 : l.length = 0
      · rw [if_pos h1, if_pos h1]
      · rw [if_neg h1, if_neg h1]
        by_cases h2 : l.length < 2
        · rw [if_pos h2, if_pos h2]
        · rw [if_neg h2, if_neg h2]
          by_cases h3 : (l.getD 0 0).toNat = 0 ∨ (l.getD 1 0).toNat < 2
          · rw [if_pos h3, if_pos h3]
          · rw [if_neg h3, if_neg h3]
            by_cases h4 : l.length < (l.getD 1 0).toNat
            · rw [if_pos h4, if_pos h4]
            · rw [if_neg h4, if_neg h4]
              by_cases h5 : 30 ≤ acc.length
              · rw [if_pos h5, if_pos h5]
              · rw [if_neg h5, if_neg h5]
                exact ih m _ _ (by rw [List.length_drop]; omega) (by rw [List.length_drop]; omega)

theorem optsOn_eq (l : List UInt8) (acc : List Tg) : optsOn l acc =
    if l.length = 0 then (acc, 0)
    else if l.length < 2 then ([], 5)
    else if (l.getD 0 0).toNat = 0 ∨ (l.getD 1 0).toNat < 2 then ([], 4)
    else if l.length < (l.getD 1 0).toNat then ([], 5)
    else if 30 ≤ acc.length then ([], 2)
    else optsOn (l.drop (l.getD 1 0).toNat) (acc ++ [⟨((l.getD 0 0).toNat : Int), ⟨((l.drop 2).take ((l.getD 1 0).toNat - 2)).toArray⟩⟩]) := by
  unfold optsOn
  simp only [optsN]
  by_cases h1 : l.length = 0
  · rw [if_pos h1, if_pos h1]
  · rw [if_neg h1, if_neg h1]
    by_cases h2 : l.length < 2
    · rw [if_pos h2, if_pos h2]
    · rw [if_neg h2, if_neg h2]
      by_cases h3 : (l.getD 0 0).toNat = 0 ∨ (l.getD 1 0).toNat < 2
      · rw [if_pos h3, if_pos h3]
      · rw [if_neg h3, if_neg h3]
        by_cases h4 : l.length < (l.getD 1 0).toNat
        · rw [if_pos h4, if_pos h4]
        · rw [if_neg h4, if_neg h4]
          by_cases h5 : 30 ≤ acc.length
          · rw [if_pos h5, if_pos h5]
          · rw [if_neg h5, if_neg h5]
            exact optsN_enough _ _ _ _ (by rw [List.length_drop]; omega) (Nat.lt_succ_self _)

theorem optsOn_nil (acc : List Tg) : optsOn [] acc = (acc, 0) := by
  have h : ([] : List UInt8).length = 0 := rfl
  rw [optsOn_eq, if_pos h]

/-- The parts of an option that was put. -/
theorem optBytes_parts {t : Tg} (ht : okO t = true) (r : List UInt8) :
    ((optBytes t ++ r).getD 0 0).toNat = t.type.toNat ∧ ((optBytes t ++ r).getD 1 0).toNat = 2 + t.value.size ∧ ((optBytes t ++ r).drop 2).take t.value.size = t.value.data.toList ∧ (optBytes t ++ r).drop (2 + t.value.size) = r := by
  obtain ⟨a, ha, h1, h2, h3⟩ := okO_range ht
  have e : optBytes t ++ r = UInt8.ofNat t.type.toNat :: UInt8.ofNat (2 + t.value.size) :: (t.value.data.toList ++ r) := by simp [optBytes]
  refine ⟨?_, ?_, ?_, drop_left (optBytes_length t)⟩
  · rw [e]
    show (UInt8.ofNat t.type.toNat).toNat = _
    simp
    omega
  · rw [e]
    show (UInt8.ofNat (2 + t.value.size)).toNat = _
    simp
    omega
  · rw [e]
    show (t.value.data.toList ++ r).take t.value.size = _
    rw [take_left (by rw [← Lib.size_eq])]

/-- An option that was put is got. -/
theorem optsOn_opt {t : Tg} (ht : okO t = true) (r : List UInt8) (acc : List Tg) (ha : acc.length < 30) : optsOn (optBytes t ++ r) acc = optsOn r (acc ++ [t]) := by
  obtain ⟨p1, p2, p3, p4⟩ := optBytes_parts ht r
  obtain ⟨a, ha', h1, h2, h3⟩ := okO_range ht
  have hl : (optBytes t ++ r).length = 2 + t.value.size + r.length := by rw [List.length_append, optBytes_length]
  have hv : (⟨(t.value.data.toList).toArray⟩ : ByteArray) = t.value := bytes_ext rfl
  have hT : (t.type.toNat : Int) = t.type := by omega
  rw [optsOn_eq, if_neg (by omega), if_neg (by omega), p1, p2, if_neg (by omega), if_neg (by omega), if_neg (by omega), Nat.add_sub_cancel_left, p3, p4, hv, hT]

theorem optsOn_all (l : List Tg) (hl : l.all okO = true) (r : List UInt8) (acc : List Tg) (ha : acc.length + l.length ≤ 30) : optsOn (bytesO l ++ r) acc = optsOn r (acc ++ l) := by
  induction l generalizing acc with
  | nil => simp [bytesO]
  | cons t l ih =>
    simp at hl ha
    rw [bytesO_cons, List.append_assoc, optsOn_opt hl.1 _ _ (by omega), ih (by simpa using hl.2) _ (by simp; omega), List.append_assoc]
    rfl

/-- One option more than may be. -/
theorem optsOn_full {t : Tg} (ht : okO t = true) (r : List UInt8) (acc : List Tg) (ha : 30 ≤ acc.length) : optsOn (optBytes t ++ r) acc = ([], 2) := by
  obtain ⟨p1, p2, p3, p4⟩ := optBytes_parts ht r
  obtain ⟨a, ha', h1, h2, h3⟩ := okO_range ht
  have hl : (optBytes t ++ r).length = 2 + t.value.size + r.length := by rw [List.length_append, optBytes_length]
  rw [optsOn_eq, if_neg (by omega), if_neg (by omega), p1, p2, if_neg (by omega), if_neg (by omega), if_pos ha]

theorem optsOn_many (l : List Tg) (hl : l.all okO = true) (r : List UInt8) (acc : List Tg) (ha : 30 < acc.length + l.length) (hm : acc.length ≤ 30) : optsOn (bytesO l ++ r) acc = ([], 2) := by
  induction l generalizing acc with
  | nil => simp at ha; omega
  | cons t l ih =>
    simp at hl ha
    rw [bytesO_cons, List.append_assoc]
    by_cases h : 30 ≤ acc.length
    · exact optsOn_full hl.1 _ _ h
    · rw [optsOn_opt hl.1 _ _ (by omega), ih (by simpa using hl.2) _ (by simp; omega) (by simp; omega)]

/-! Found options, numbers. -/
def findO (l : List Tg) (kind : Int) : Option ByteArray := (l.find? fun t => t.type == kind).map fun t => t.value
def findOB (l : List Tg) (kind : Int) : ByteArray := (findO l kind).getD ⟨#[]⟩
theorem findO_append (l m : List Tg) (kind : Int) : findO (l ++ m) kind = (findO l kind).or (findO m kind) := by
  unfold findO
  rw [List.find?_append]
  cases l.find? fun t => t.type == kind <;> rfl
def valueF (l : List UInt8) : Nat × Bool := if 7 < l.length then (0, false) else (numOf l, true)

/-! Packets. -/
def confB (c : Int) : Bool := decide (1 ≤ c) && decide (c ≤ 4)
def headF (c i n : Nat) : List UInt8 := [UInt8.ofNat c, UInt8.ofNat i, UInt8.ofNat (n / 256), UInt8.ofNat (n % 256)]
def packF (c i : Nat) (l : List UInt8) : List UInt8 × Int := if 1488 < l.length then ([], 2) else (headF c i (4 + l.length) ++ l, 0)
def putDataF (c i : Int) (o : List Tg) (l : List UInt8) : List UInt8 × Int :=
  if (byteB c && byteB i && decide (o.length = 0)) = true then packF c.toNat i.toNat l else ([], 1)
def putPackF (c i : Int) (o : List Tg) (l : List UInt8) : List UInt8 × Int :=
  if confB c = false then putDataF c i o l else if (byteB i && decide (l.length = 0)) = true then (if (putOptsF o).2 = 0 then packF c.toNat i.toNat (putOptsF o).1 else ([], (putOptsF o).2)) else ([], 1)
/-- A packet as it is got. -/
structure Pk where
  code : Nat
  id : Nat
  opts : List Tg
  data : List UInt8
def getDataF (l : List UInt8) : Pk × Int :=
  if l.length < 4 then (⟨0, 0, [], []⟩, 5) else if numOf ((l.drop 2).take 2) < 4 then (⟨0, 0, [], []⟩, 4) else if 1492 < numOf ((l.drop 2).take 2) then (⟨0, 0, [], []⟩, 2) else
    if l.length < numOf ((l.drop 2).take 2) then (⟨0, 0, [], []⟩, 5) else
      (⟨(l.getD 0 0).toNat, (l.getD 1 0).toNat, [], (l.drop 4).take (numOf ((l.drop 2).take 2) - 4)⟩, 0)
def getPackF (l : List UInt8) : Pk × Int :=
  if (getDataF l).2 ≠ 0 ∨ confB ((getDataF l).1.code : Int) = false then getDataF l
  else if (optsOn (getDataF l).1.data []).2 ≠ 0 then (⟨0, 0, [], []⟩, (optsOn (getDataF l).1.data []).2)
  else (⟨(getDataF l).1.code, (getDataF l).1.id, (optsOn (getDataF l).1.data []).1, []⟩, 0)

theorem headF_parts (c i n : Nat) (hc : c ≤ 255) (hi : i ≤ 255) (hn : n ≤ 65535) (l : List UInt8) :
    ((headF c i n ++ l).getD 0 0).toNat = c ∧ ((headF c i n ++ l).getD 1 0).toNat = i ∧ numOf (((headF c i n ++ l).drop 2).take 2) = n ∧ (headF c i n ++ l).drop 4 = l := by
  refine ⟨?_, ?_, ?_, rfl⟩
  · show (UInt8.ofNat c).toNat = c
    simp
    omega
  · show (UInt8.ofNat i).toNat = i
    simp
    omega
  · show numOf [UInt8.ofNat (n / 256), UInt8.ofNat (n % 256)] = n
    simp [numOf]
    omega

/-- What was put is got, with whatever behind it. -/
theorem getData_pack (c i : Nat) (hc : c ≤ 255) (hi : i ≤ 255) (l r : List UInt8) (hl : l.length ≤ 1488) : getDataF (headF c i (4 + l.length) ++ l ++ r) = (⟨c, i, [], l⟩, 0) := by
  obtain ⟨p0, p1, p2, p3⟩ := headF_parts c i (4 + l.length) hc hi (by omega) (l ++ r)
  have hlen : (headF c i (4 + l.length) ++ (l ++ r)).length = 4 + l.length + r.length := by simp [headF]; omega
  rw [List.append_assoc]
  unfold getDataF
  rw [if_neg (by omega), p2, if_neg (by omega), if_neg (by omega), if_neg (by omega), p0, p1, p3, Nat.add_sub_cancel_left, take_left rfl]

/-- Cut, it is short. -/
theorem getData_cut (c i : Nat) (hc : c ≤ 255) (hi : i ≤ 255) (l : List UInt8) (hl : l.length ≤ 1488) (k : Nat) (hk : k < 4 + l.length) : getDataF ((headF c i (4 + l.length) ++ l).take k) = (⟨0, 0, [], []⟩, 5) := by
  obtain ⟨p0, p1, p2, p3⟩ := headF_parts c i (4 + l.length) hc hi (by omega) l
  have hlen : ((headF c i (4 + l.length) ++ l).take k).length = k := by simp [headF]; omega
  unfold getDataF
  rw [hlen]
  by_cases h4 : k < 4
  · rw [if_pos h4]
  · have q : numOf ((((headF c i (4 + l.length) ++ l).take k).drop 2).take 2) = 4 + l.length := by
      rw [List.drop_take, List.take_take, Nat.min_eq_left (by omega), p2]
    rw [if_neg h4, q, if_neg (by omega), if_neg (by omega), if_pos (by omega)]

theorem getPack_of {l : List UInt8} {p : Pk} {e : Int} (h : getDataF l = (p, e)) (he : e ≠ 0 ∨ confB (p.code : Int) = false) : getPackF l = (p, e) := by
  unfold getPackF
  rw [h, if_pos he]
theorem getPack_no {l : List UInt8} {p : Pk} {o : List Tg} {e : Int} (h : getDataF l = (p, 0)) (hc : confB (p.code : Int) = true) (ho : optsOn p.data [] = (o, e)) (he : e ≠ 0) : getPackF l = (⟨0, 0, [], []⟩, e) := by
  unfold getPackF
  rw [h, if_neg (by rintro (h | h); exact h rfl; rw [hc] at h; cases h), ho, if_pos he]
theorem getPack_yes {l : List UInt8} {p : Pk} {o : List Tg} (h : getDataF l = (p, 0)) (hc : confB (p.code : Int) = true) (ho : optsOn p.data [] = (o, 0)) : getPackF l = (⟨p.code, p.id, o, []⟩, 0) := by
  unfold getPackF
  rw [h, if_neg (by rintro (h | h); exact h rfl; rw [hc] at h; cases h), ho, if_neg (by simp)]

theorem num_next {l : List UInt8} {j : Nat} (h : j < l.length) : numOf (l.take (j + 1)) = numOf (l.take j) * 256 + (l.getD j 0).toNat := by
  rw [List.take_add_one, List.getElem?_eq_getElem h]
  show numOf (l.take j ++ [l[j]]) = _
  rw [numOf_snoc, List.getD_eq_getElem?_getD, List.getElem?_eq_getElem h]
  rfl
theorem num_bound {l : List UInt8} {j : Nat} (h : j < 7) : numOf (l.take j) < 281474976710656 := by
  have h1 := numOf_lt (l.take j)
  have : 256 ^ (l.take j).length ≤ 256 ^ 6 := Nat.pow_le_pow_right (by decide) (by rw [List.length_take]; omega)
  omega
end Go.Proofs.Ytcmdfcdmfdheeaa
