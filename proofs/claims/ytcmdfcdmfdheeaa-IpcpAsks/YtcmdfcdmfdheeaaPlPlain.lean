/- Addresses and a pool of them (chapter 16), as plain functions with no Go in them; and what follows of these. -/
import Derived.Test.YtcmdfcdmfdheeaaTagPlain
namespace Go.Proofs.Ytcmdfcdmfdheeaa
open Go.RowKit

/-- An address. -/
structure Ad where
  a : UInt8
  b : UInt8
  c : UInt8
  d : UInt8
def ad0 : Ad := ⟨0, 0, 0, 0⟩
def numAd (x : Ad) : Int := (x.a.toNat : Int) * 16777216 + (x.b.toNat : Int) * 65536 + (x.c.toNat : Int) * 256 + (x.d.toNat : Int)
def byteI (v : Int) : UInt8 := UInt8.ofNat (v % 256).toNat
def addrOf (v : Int) : Ad := ⟨byteI (v / 16777216), byteI (v / 65536), byteI (v / 256), byteI v⟩
def addAd (x : Ad) (n : Int) : Ad := addrOf (numAd x + n)

theorem byteI_nat (v : Int) : ((byteI v).toNat : Int) = v % 256 := by
  unfold byteI
  rw [UInt8.toNat_ofNat']
  omega
theorem numAd_range (x : Ad) : 0 ≤ numAd x ∧ numAd x < 4294967296 := by
  have h1 := x.a.toNat_lt; have h2 := x.b.toNat_lt; have h3 := x.c.toNat_lt; have h4 := x.d.toNat_lt
  unfold numAd
  omega
theorem Ad.ext' {x y : Ad} (h1 : x.a.toNat = y.a.toNat) (h2 : x.b.toNat = y.b.toNat) (h3 : x.c.toNat = y.c.toNat) (h4 : x.d.toNat = y.d.toNat) : x = y := by
  cases x
  cases y
  simp only [Ad.mk.injEq]
  exact ⟨UInt8.toNat_inj.1 h1, UInt8.toNat_inj.1 h2, UInt8.toNat_inj.1 h3, UInt8.toNat_inj.1 h4⟩
theorem addrOf_num (v : Int) : numAd (addrOf v) = v % 4294967296 := by
  have h1 := byteI_nat (v / 16777216); have h2 := byteI_nat (v / 65536); have h3 := byteI_nat (v / 256); have h4 := byteI_nat v
  unfold numAd addrOf
  simp only
  rw [h1, h2, h3, h4]
  omega
theorem numAd_inj {x y : Ad} (h : numAd x = numAd y) : x = y := by
  have h1 := x.a.toNat_lt; have h2 := x.b.toNat_lt; have h3 := x.c.toNat_lt; have h4 := x.d.toNat_lt
  have k1 := y.a.toNat_lt; have k2 := y.b.toNat_lt; have k3 := y.c.toNat_lt; have k4 := y.d.toNat_lt
  unfold numAd at h
  refine Ad.ext' ?_ ?_ ?_ ?_ <;> omega
/-- An address hangs on the number modulo 2^32 alone. -/
theorem addrOf_mod {u v : Int} (h : u % 4294967296 = v % 4294967296) : addrOf u = addrOf v := numAd_inj (by rw [addrOf_num, addrOf_num, h])
theorem addrOf_numAd (x : Ad) : addrOf (numAd x) = x := numAd_inj (by rw [addrOf_num]; have := numAd_range x; omega)
theorem addAd_add (x : Ad) (n m : Int) : addAd (addAd x n) m = addAd x (n + m) := by
  unfold addAd
  apply addrOf_mod
  rw [addrOf_num]
  omega

/-- A place of the pool: whether it is lent, and to whom. -/
structure Lt where
  is : Bool
  t : Int
  s : Int
def lt0 : Lt := ⟨false, 0, 0⟩
def hitL (t s : Int) (e : Lt) : Bool := e.is && (e.t == t && e.s == s)
def findL (l : List Lt) (t s : Int) : Option Nat := l.findIdx? (hitL t s)
def freeL (l : List Lt) : Option Nat := l.findIdx? (fun e => !e.is)
def hasL (x : Ad) (l : List Lt) (t s : Int) : Ad × Bool := match findL l t s with | none => (ad0, false) | some i => (addAd x (i : Int), true)
def takeL (x : Ad) (l : List Lt) (t s : Int) : Ad × Int × List Lt :=
  match findL l t s with
  | some i => (addAd x (i : Int), 0, l)
  | none => match freeL l with
    | none => (ad0, 10, l)
    | some i => (addAd x (i : Int), 0, l.set i ⟨true, t, s⟩)
def giveL (l : List Lt) (t s : Int) : Int × List Lt := match findL l t s with | none => (3, l) | some i => (0, l.set i lt0)
def atL (x y : Ad) (l : List Lt) : Option Nat := (List.range l.length).find? fun i => (match l[i]? with | none => false | some e => e.is) && decide (numAd (addAd x (i : Int)) = numAd y)
def whoL (x : Ad) (l : List Lt) (y : Ad) : Int × Int × Bool := match atL x y l with | none => (0, 0, false) | some i => match l[i]? with | none => (0, 0, false) | some e => (e.t, e.s, true)
def nFree (l : List Lt) : Nat := l.countP (fun e => !e.is)

def I64 (x : Int) : Prop := -9223372036854775808 ≤ x ∧ x ≤ 9223372036854775807
/-- Few enough, and their keys are ints. -/
def FewL (l : List Lt) : Prop := l.length ≤ 1000 ∧ ∀ e ∈ l, I64 e.t ∧ I64 e.s
theorem FewL.set {l : List Lt} (h : FewL l) (i : Nat) {y : Lt} (hy : I64 y.t ∧ I64 y.s) : FewL (l.set i y) := by
  refine ⟨by rw [List.length_set]; exact h.1, fun e he => ?_⟩
  rcases List.mem_or_eq_of_mem_set he with he | rfl
  · exact h.2 e he
  · exact hy

/-- Nothing so far, and what comes next. -/
theorem idx_go {α : Type} {q : α → Bool} {l : List α} {j : Nat} {x : α} (h : (l.take j).findIdx? q = none) (hx : l[j]? = some x) (hp : q x = false) : (l.take (j + 1)).findIdx? q = none := by
  rw [List.findIdx?_eq_none_iff] at *
  intro y hy
  rw [List.take_add_one, hx] at hy
  rcases List.mem_append.1 hy with hy | hy
  · exact h y hy
  · simp at hy
    rw [hy]
    exact hp
theorem idx_at {α : Type} {q : α → Bool} {l : List α} {j : Nat} {x : α} (h : (l.take j).findIdx? q = none) (hx : l[j]? = some x) (hp : q x = true) : l.findIdx? q = some j := by
  rw [List.findIdx?_eq_none_iff] at h
  obtain ⟨hlt, he⟩ := List.getElem?_eq_some_iff.1 hx
  rw [List.findIdx?_eq_some_iff_getElem]
  refine ⟨hlt, by rw [he]; exact hp, fun i hi => ?_⟩
  have := h l[i] (by rw [List.mem_take_iff_getElem]; exact ⟨i, by omega, rfl⟩)
  simpa using this

/-- What New takes. -/
def goodP (x : Ad) (n : Int) : Prop := 1 ≤ n ∧ n ≤ 256 ∧ numAd x + n ≤ 4294967296
end Go.Proofs.Ytcmdfcdmfdheeaa
