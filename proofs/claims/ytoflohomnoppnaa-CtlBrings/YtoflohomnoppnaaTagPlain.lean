/- Tags and packets in bytes, as plain functions with no Go in them; and what follows of these. -/
import Derived.Test.YtoflohomnoppnaaPlain
import Derived.Test.YtoflohomnoppnaaKept
import Derived.Lib.Hide
namespace Go.Proofs.Ytoflohomnoppnaa
open Go.RowKit

theorem hid {p : Prop} (h : p) : Hid p := h

theorem bytes_ext {a b : ByteArray} (h : a.data.toList = b.data.toList) : a = b := by
  apply ByteArray.ext
  exact Array.toList_inj.1 h

/-- A tag. -/
structure Tg where
  type : Int
  value : ByteArray

/-- Types of 1 to 65535. -/
def okT (t : Tg) : Bool := decide (1 ≤ t.type) && decide (t.type ≤ 65535)
def sizeT (l : List Tg) : Nat := (l.map fun t => 4 + t.value.size).sum
def tagBytes (t : Tg) : List UInt8 := low t.type.toNat 2 ++ low t.value.size 2 ++ t.value.data.toList
def bytesT (l : List Tg) : List UInt8 := l.flatMap tagBytes

def putTagsF (l : List Tg) : List UInt8 × Int :=
  if 20 < l.length then ([], 2) else if l.all okT = false then ([], 1) else if 1494 < sizeT l then ([], 2) else (bytesT l, 0)

/-- The tags of some bytes, behind those that were read ahead of them; n at a time. -/
def tagsN : Nat → List UInt8 → List Tg → List Tg × Int
  | 0, _, _ => ([], 0)
  | n + 1, l, acc =>
    if l.length = 0 ∨ (2 ≤ l.length ∧ numOf (l.take 2) = 0) then (acc, 0)
    else if l.length < 4 then ([], 5)
    else if l.length < 4 + numOf ((l.drop 2).take 2) then ([], 5)
    else if 20 ≤ acc.length then ([], 2)
    else tagsN n (l.drop (4 + numOf ((l.drop 2).take 2))) (acc ++ [⟨(numOf (l.take 2) : Int), ⟨((l.drop 4).take (numOf ((l.drop 2).take 2))).toArray⟩⟩])
def tagsOn (l : List UInt8) (acc : List Tg) : List Tg × Int := tagsN (l.length + 1) l acc

theorem tagsN_enough (n m : Nat) (l : List UInt8) (acc : List Tg) (hn : l.length < n) (hm : l.length < m) : tagsN n l acc = tagsN m l acc := by
  induction n generalizing m l acc with
  | zero => omega
  | succ n ih =>
    cases m with
    | zero => omega
    | succ m =>
      simp only [tagsN]
      by_cases h1 : l.length = 0 ∨ (2 ≤ l.length ∧ numOf (l.take 2) = 0)
      · rw [if_pos h1, if_pos h1]
      · rw [if_neg h1, if_neg h1]
        by_cases h2 : l.length < 4
        · rw [if_pos h2, if_pos h2]
        · rw [if_neg h2, if_neg h2]
          by_cases h3 : l.length < 4 + numOf ((l.drop 2).take 2)
          · rw [if_pos h3, if_pos h3]
          · rw [if_neg h3, if_neg h3]
            by_cases h4 : 20 ≤ acc.length
            · rw [if_pos h4, if_pos h4]
            · rw [if_neg h4, if_neg h4]
              exact ih m _ _ (by rw [List.length_drop]; omega) (by rw [List.length_drop]; omega)

theorem tagsOn_eq (l : List UInt8) (acc : List Tg) : tagsOn l acc =
    if l.length = 0 ∨ (2 ≤ l.length ∧ numOf (l.take 2) = 0) then (acc, 0)
    else if l.length < 4 then ([], 5)
    else if l.length < 4 + numOf ((l.drop 2).take 2) then ([], 5)
    else if 20 ≤ acc.length then ([], 2)
    else tagsOn (l.drop (4 + numOf ((l.drop 2).take 2))) (acc ++ [⟨(numOf (l.take 2) : Int), ⟨((l.drop 4).take (numOf ((l.drop 2).take 2))).toArray⟩⟩]) := by
  unfold tagsOn
  simp only [tagsN]
  by_cases h1 : l.length = 0 ∨ (2 ≤ l.length ∧ numOf (l.take 2) = 0)
  · rw [if_pos h1, if_pos h1]
  · rw [if_neg h1, if_neg h1]
    by_cases h2 : l.length < 4
    · rw [if_pos h2, if_pos h2]
    · rw [if_neg h2, if_neg h2]
      by_cases h3 : l.length < 4 + numOf ((l.drop 2).take 2)
      · rw [if_pos h3, if_pos h3]
      · rw [if_neg h3, if_neg h3]
        by_cases h4 : 20 ≤ acc.length
        · rw [if_pos h4, if_pos h4]
        · rw [if_neg h4, if_neg h4]
          exact tagsN_enough _ _ _ _ (by rw [List.length_drop]; omega) (Nat.lt_succ_self _)

theorem sizeT_nil : sizeT [] = 0 := rfl
theorem sizeT_snoc (l : List Tg) (t : Tg) : sizeT (l ++ [t]) = sizeT l + (4 + t.value.size) := by simp [sizeT]
theorem sizeT_cons (l : List Tg) (t : Tg) : sizeT (t :: l) = 4 + t.value.size + sizeT l := by simp [sizeT]
theorem sizeT_append (l m : List Tg) : sizeT (l ++ m) = sizeT l + sizeT m := by simp [sizeT]
theorem bytesT_snoc (l : List Tg) (t : Tg) : bytesT (l ++ [t]) = bytesT l ++ tagBytes t := by simp [bytesT]
theorem bytesT_cons (l : List Tg) (t : Tg) : bytesT (t :: l) = tagBytes t ++ bytesT l := by simp [bytesT]
theorem bytesT_append (l m : List Tg) : bytesT (l ++ m) = bytesT l ++ bytesT m := by simp [bytesT]
theorem tagBytes_length (t : Tg) : (tagBytes t).length = 4 + t.value.size := by
  unfold tagBytes
  simp only [List.length_append, low_length]
  rw [← Lib.size_eq]
theorem bytesT_length (l : List Tg) : (bytesT l).length = sizeT l := by
  induction l with
  | nil => rfl
  | cons t l ih => rw [bytesT_cons, List.length_append, tagBytes_length, ih, sizeT_cons]

theorem take_left {α : Type} {n : Nat} {a b : List α} (h : a.length = n) : (a ++ b).take n = a := by
  rw [List.take_append_of_le_length (by omega), List.take_of_length_le (by omega)]
theorem drop_left {α : Type} {n : Nat} {a b : List α} (h : a.length = n) : (a ++ b).drop n = b := by
  rw [List.drop_append_of_le_length (by omega), List.drop_of_length_le (by omega), List.nil_append]

theorem okT_range {t : Tg} (h : okT t = true) : ∃ a : Nat, t.type = (a : Int) ∧ 1 ≤ a ∧ a ≤ 65535 := by
  have hr : 1 ≤ t.type ∧ t.type ≤ 65535 := by simpa [okT] using h
  exact ⟨t.type.toNat, by omega, by omega, by omega⟩

theorem numOf_low2 (a : Nat) (h : a ≤ 65535) : numOf (low a 2) = a := by rw [numOf_low]; omega

/-- The four bytes that open a tag. -/
theorem tagBytes_parts {t : Tg} (ht : okT t = true) (hs : t.value.size ≤ 65535) (r : List UInt8) :
    numOf ((tagBytes t ++ r).take 2) = t.type.toNat ∧ numOf (((tagBytes t ++ r).drop 2).take 2) = t.value.size ∧ ((tagBytes t ++ r).drop 4).take t.value.size = t.value.data.toList ∧ (tagBytes t ++ r).drop (4 + t.value.size) = r := by
  obtain ⟨a, ha, h1, h2⟩ := okT_range ht
  have e : tagBytes t ++ r = low t.type.toNat 2 ++ (low t.value.size 2 ++ (t.value.data.toList ++ r)) := by simp [tagBytes]
  refine ⟨?_, ?_, ?_, drop_left (tagBytes_length t)⟩
  · rw [e, take_left (low_length _ _), numOf_low2 _ (by omega)]
  · rw [e, drop_left (low_length _ _), take_left (low_length _ _), numOf_low2 _ hs]
  · rw [e, show (4 : Nat) = 2 + 2 from rfl, ← List.drop_drop, drop_left (low_length _ _), drop_left (low_length _ _), take_left (by rw [← Lib.size_eq])]

/-- A tag that was put is got. -/
theorem tagsOn_tag {t : Tg} (ht : okT t = true) (hs : t.value.size ≤ 65535) (r : List UInt8) (acc : List Tg) (ha : acc.length < 20) : tagsOn (tagBytes t ++ r) acc = tagsOn r (acc ++ [t]) := by
  obtain ⟨p1, p2, p3, p4⟩ := tagBytes_parts ht hs r
  obtain ⟨a, ha', h1, h2⟩ := okT_range ht
  have hl : (tagBytes t ++ r).length = 4 + t.value.size + r.length := by rw [List.length_append, tagBytes_length]
  have hv : (⟨(t.value.data.toList).toArray⟩ : ByteArray) = t.value := bytes_ext rfl
  have hT : (t.type.toNat : Int) = t.type := by omega
  rw [tagsOn_eq, if_neg (by rw [p1]; omega), if_neg (by omega), p2, if_neg (by omega), if_neg (by omega), p1, p3, p4, hv, hT]

theorem tagsOn_all (l : List Tg) (hl : l.all okT = true) (hs : ∀ t ∈ l, t.value.size ≤ 65535) (r : List UInt8) (acc : List Tg) (ha : acc.length + l.length ≤ 20) : tagsOn (bytesT l ++ r) acc = tagsOn r (acc ++ l) := by
  induction l generalizing acc with
  | nil => simp [bytesT]
  | cons t l ih =>
    simp at hl ha
    rw [bytesT_cons, List.append_assoc, tagsOn_tag hl.1 (hs t (by simp)) _ _ (by omega), ih (by simpa using hl.2) (fun x hx => hs x (by simp [hx])) _ (by simp; omega), List.append_assoc]
    rfl

theorem tagsOn_nil (acc : List Tg) : tagsOn [] acc = (acc, 0) := by
  have h : ([] : List UInt8).length = 0 ∨ (2 ≤ ([] : List UInt8).length ∧ numOf (([] : List UInt8).take 2) = 0) := Or.inl rfl
  rw [tagsOn_eq, if_pos h]
theorem tagsOn_end (r : List UInt8) (acc : List Tg) : tagsOn (0 :: 0 :: r) acc = (acc, 0) := by
  rw [tagsOn_eq, if_pos (Or.inr ⟨by simp, by simp [numOf]⟩)]

/-- A tag that is cut is short. -/
theorem tagsOn_cut {t : Tg} (ht : okT t = true) (hs : t.value.size ≤ 65535) (r : List UInt8) (n : Nat) (h0 : 0 < n) (hn : n < 4 + t.value.size) (acc : List Tg) : tagsOn ((tagBytes t ++ r).take n) acc = ([], 5) := by
  obtain ⟨p1, p2, _, _⟩ := tagBytes_parts ht hs r
  obtain ⟨a, ha', h1, h2⟩ := okT_range ht
  have hl : ((tagBytes t ++ r).take n).length = n := by
    rw [List.length_take, List.length_append, tagBytes_length]
    omega
  rw [tagsOn_eq, hl]
  have hne : ¬ (n = 0 ∨ 2 ≤ n ∧ numOf (((tagBytes t ++ r).take n).take 2) = 0) := by
    rintro (h | ⟨h, h'⟩)
    · omega
    · rw [List.take_take, Nat.min_eq_left h, p1] at h'
      omega
  rw [if_neg hne]
  by_cases h4 : n < 4
  · rw [if_pos h4]
  · rw [if_neg h4, if_pos]
    rw [List.drop_take, List.take_take, Nat.min_eq_left (by omega), p2]
    exact hn

/-! Found tags. -/
def findOn (kind : Int) (s : ByteArray × Nat) (t : Tg) : ByteArray × Nat := if t.type = kind then (if s.2 = 0 then t.value else s.1, s.2 + 1) else s
def findF (l : List Tg) (kind : Int) : ByteArray × Nat := l.foldl (findOn kind) (⟨#[]⟩, 0)
theorem findF_snoc (l : List Tg) (t : Tg) (kind : Int) : findF (l ++ [t]) kind = findOn kind (findF l kind) t := by simp [findF]
theorem findF_le (l : List Tg) (kind : Int) : (findF l kind).2 ≤ l.length := by
  suffices h : ∀ (l : List Tg) (s : ByteArray × Nat), (l.foldl (findOn kind) s).2 ≤ s.2 + l.length by
    have := h l (⟨#[]⟩, 0)
    rw [Nat.zero_add] at this
    exact this
  intro l
  induction l with
  | nil => simp
  | cons t l ih =>
    intro s
    refine Nat.le_trans (ih _) ?_
    unfold findOn
    split <;> simp <;> omega

theorem findF_none {l : List Tg} {kind : Int} (h : (findF l kind).2 = 0) : (findF l kind).1 = ⟨#[]⟩ := by
  suffices h2 : ∀ (l : List Tg) (s : ByteArray × Nat), (s.2 = 0 → s.1 = ⟨#[]⟩) → ((l.foldl (findOn kind) s).2 = 0 → (l.foldl (findOn kind) s).1 = ⟨#[]⟩) from h2 l _ (fun _ => rfl) h
  intro l
  induction l with
  | nil => exact fun s hs => hs
  | cons t l ih =>
    intro s hs
    refine ih _ ?_
    unfold findOn
    split
    · intro h0
      simp at h0
    · exact hs

/-- Two lists, one behind the other. -/
theorem findF_append (l m : List Tg) (kind : Int) : findF (l ++ m) kind = (if (findF l kind).2 = 0 then (findF m kind).1 else (findF l kind).1, (findF l kind).2 + (findF m kind).2) := by
  have key : ∀ (n : Nat) (m : List Tg), m.length = n → ∀ (s : ByteArray × Nat), (s.2 = 0 → s.1 = ⟨#[]⟩) → m.foldl (findOn kind) s = (if s.2 = 0 then (findF m kind).1 else s.1, s.2 + (findF m kind).2) := by
    intro n
    induction n with
    | zero =>
      intro m hm s hs
      obtain rfl := List.eq_nil_of_length_eq_zero hm
      by_cases h : s.2 = 0
      · rw [if_pos h]; simp [findF]; rw [← hs h]
      · rw [if_neg h]; simp [findF]
    | succ n ih =>
      intro m hm s hs
      obtain ⟨m', t, rfl⟩ : ∃ m' t, m = m' ++ [t] := ⟨m.dropLast, m.getLast (by intro e; rw [e] at hm; simp at hm), (List.dropLast_concat_getLast _).symm⟩
      rw [List.foldl_append, ih m' (by simpa using hm) s hs, findF_snoc]
      simp only [List.foldl_cons, List.foldl_nil]
      unfold findOn
      by_cases ht : t.type = kind
      · rw [if_pos ht, if_pos ht]
        by_cases h : s.2 = 0
        · rw [if_pos h, h]
          simp
        · rw [if_neg h]
          simp [h]
          omega
      · rw [if_neg ht, if_neg ht]
  unfold findF
  rw [List.foldl_append]
  exact key _ m rfl _ (fun h => findF_none h)

/-! Tags that are alike. -/
def sameT (a b : Tg) : Bool := (a.type == b.type) && (a.value.data.toList == b.value.data.toList)
def sameF : List Tg → List Tg → Bool
  | [], [] => true
  | a :: l, b :: m => sameT a b && sameF l m
  | _, _ => false
theorem sameT_iff {a b : Tg} : sameT a b = true ↔ a = b := by
  constructor
  · intro h
    simp only [sameT, Bool.and_eq_true, beq_iff_eq] at h
    obtain ⟨h1, h2⟩ := h
    cases a
    cases b
    simp only at h1 h2
    rw [h1, bytes_ext h2]
  · rintro rfl
    simp [sameT]
theorem sameF_iff {a b : List Tg} : sameF a b = true ↔ a = b := by
  induction a generalizing b with
  | nil => cases b <;> simp [sameF]
  | cons x a ih => cases b <;> simp [sameF, sameT_iff, ih]
theorem sameF_self (a : List Tg) : sameF a a = true := sameF_iff.2 rfl

/-! Packets. -/
def byteB (v : Int) : Bool := decide (0 ≤ v) && decide (v ≤ 255)
def discF (c s : Nat) (l : List UInt8) : List UInt8 := [17] ++ low c 1 ++ low s 2 ++ low l.length 2 ++ l
def putDiscF (c s : Int) (l : List UInt8) : List UInt8 × Int :=
  if (byteB c && wordB s) = true then (if 1494 < l.length then ([], 2) else (discF c.toNat s.toNat l, 0)) else ([], 1)
structure Dc where
  code : Nat
  session : Nat
  data : List UInt8
def getDiscF (l : List UInt8) : Dc × Int :=
  if l.length < 6 then (⟨0, 0, []⟩, 5) else if (l.getD 0 0).toNat ≠ 17 then (⟨0, 0, []⟩, 4) else
    if 1494 < numOf ((l.drop 4).take 2) then (⟨0, 0, []⟩, 2) else if l.length - 6 < numOf ((l.drop 4).take 2) then (⟨0, 0, []⟩, 5) else
      (⟨(l.getD 1 0).toNat, numOf ((l.drop 2).take 2), (l.drop 6).take (numOf ((l.drop 4).take 2))⟩, 0)

theorem discF_length (c s : Nat) (l : List UInt8) : (discF c s l).length = 6 + l.length := by simp [discF, low_length]; omega

theorem low_one (c : Nat) (h : c ≤ 255) : low c 1 = [UInt8.ofNat c] := by
  simp only [low, List.nil_append]
  rw [Nat.mod_eq_of_lt (by omega)]

theorem discF_parts (c s : Nat) (hc : c ≤ 255) (hs : s ≤ 65535) (l r : List UInt8) (hl : l.length ≤ 65535) :
    (discF c s l ++ r).getD 0 0 = 17 ∧ ((discF c s l ++ r).getD 1 0).toNat = c ∧ numOf (((discF c s l ++ r).drop 2).take 2) = s ∧ numOf (((discF c s l ++ r).drop 4).take 2) = l.length ∧ ((discF c s l ++ r).drop 6).take l.length = l := by
  have e : discF c s l ++ r = [17, UInt8.ofNat c] ++ (low s 2 ++ (low l.length 2 ++ (l ++ r))) := by simp [discF, low_one c hc]
  refine ⟨by rw [e]; rfl, ?_, ?_, ?_, ?_⟩
  · rw [e]
    show (UInt8.ofNat c).toNat = c
    simp
    omega
  · rw [e, drop_left (n := 2) (a := [17, UInt8.ofNat c]) rfl, take_left (low_length _ _), numOf_low2 _ hs]
  · rw [e, show (4 : Nat) = 2 + 2 from rfl, ← List.drop_drop, drop_left (n := 2) (a := [17, UInt8.ofNat c]) rfl, drop_left (low_length _ _), take_left (low_length _ _), numOf_low2 _ hl]
  · rw [e, show (6 : Nat) = 2 + 2 + 2 from rfl, ← List.drop_drop, ← List.drop_drop, drop_left (n := 2) (a := [17, UInt8.ofNat c]) rfl, drop_left (low_length _ _), drop_left (low_length _ _), take_left rfl]

/-- A packet that was put is got. -/
theorem getDisc_put (c s : Nat) (hc : c ≤ 255) (hs : s ≤ 65535) (l r : List UInt8) (hl : l.length ≤ 1494) : getDiscF (discF c s l ++ r) = (⟨c, s, l⟩, 0) := by
  obtain ⟨p0, p1, p2, p3, p4⟩ := discF_parts c s hc hs l r (by omega)
  have hlen : (discF c s l ++ r).length = 6 + l.length + r.length := by rw [List.length_append, discF_length]
  unfold getDiscF
  rw [if_neg (by omega), p0, if_neg (by decide), p3, if_neg (by omega), if_neg (by omega), p1, p2, p4]

/-- A packet that is cut is short. -/
theorem getDisc_cut (c s : Nat) (hc : c ≤ 255) (hs : s ≤ 65535) (l : List UInt8) (hl : l.length ≤ 1494) (n : Nat) (hn : n < 6 + l.length) : (getDiscF ((discF c s l).take n)).2 = 5 := by
  obtain ⟨p0, p1, p2, p3, p4⟩ := discF_parts c s hc hs l [] (by omega)
  rw [List.append_nil] at p0 p3
  have hlen : ((discF c s l).take n).length = n := by rw [List.length_take, discF_length]; omega
  unfold getDiscF
  rw [hlen]
  by_cases h6 : n < 6
  · rw [if_pos h6]
  · have q0 : ((discF c s l).take n).getD 0 0 = 17 := by
      rw [List.getD_eq_getElem?_getD, List.getElem?_take_of_lt (by omega), ← List.getD_eq_getElem?_getD, p0]
    have q3 : numOf ((((discF c s l).take n).drop 4).take 2) = l.length := by
      rw [List.drop_take, List.take_take, Nat.min_eq_left (by omega), p3]
    rw [if_neg h6, q0, if_neg (by decide), q3, if_neg (by omega), if_pos (by omega)]

end Go.Proofs.Ytoflohomnoppnaa
