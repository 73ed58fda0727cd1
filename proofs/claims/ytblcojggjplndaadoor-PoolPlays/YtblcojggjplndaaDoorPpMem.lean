/- The program's pool in memory: its base, how many there are, and its two maps, by keys and by addresses; what a look-up, a store, a delete and len give. -/
import Derived.Test.YtblcojggjplndaaDoorPpRow
import Derived.Test.YtblcojggjplndaaDoorPlEq
import Derived.Test.YtblcojggjplndaaDoorAssocE
import Derived.Test.YtblcojggjplndaaDoorKept
import Derived.WalkSpells
import Derived.WalkLawsBesides
import Derived.DeepKeys4
namespace Go.Proofs.YtblcojggjplndaaDoor
open Go.RowKit
open Go.Maps (Keyed)

theorem laidOutT : laidOutB Tryd.prog = true := by kernel_rfl
theorem keyKey : Keyed Tryd.prog 34 := Keyed.of_law (deep_law_laid laidOutT (m := 5) (by decide) (of_decide_eq_true (by kernel_rfl)) (by kernel_rfl) (by kernel_rfl))
theorem keyAddr : Keyed Tryd.prog 23 := Keyed.of_law (deep_law_laid laidOutT (m := 5) (by decide) (of_decide_eq_true (by kernel_rfl)) (by kernel_rfl) (by kernel_rfl))
theorem keyTypeKey : Tryd.prog.keyType 34 = true := by kernel_rfl
theorem keyTypeAddr : Tryd.prog.keyType 23 = true := by kernel_rfl
theorem cellsKeyP : Tryd.prog.cellsOf 34 = 2 := by kernel_rfl
theorem cellsIntP : Tryd.prog.cellsOf 3 = 1 := by kernel_rfl
theorem typesPos : ∃ n, Tryd.prog.types.size = n + 3 := ⟨Tryd.prog.types.size - 3, by have : 3 ≤ Tryd.prog.types.size := of_decide_eq_true (by kernel_rfl); omega⟩
def keyV (t s : Int) : Value := .agg #[.int .i64 t, .int .i64 s]
theorem keyV_inj {t s t' s' : Int} (h : keyV t s = keyV t' s') : t = t' ∧ s = s' := by
  simpa [keyV] using h
theorem adV_inj {x y : Ad} (h : adV x = adV y) : x = y := by
  simp [adV] at h
  exact Ad.ext' (by omega) (by omega) (by omega) (by omega)
theorem keyLitsP (d : Nat) {t s : Int} (ht : I64 t) (hs : I64 s) : Tryd.prog.keyLits (d + 2) 34 [.int .i64 t, .int .i64 s] = some [.int .i64 t, .int .i64 s] := by
  have h2 : ∀ x : Int, I64 x → Tryd.prog.keyLits (d + 1) 3 [.int .i64 x] = some [.int .i64 x] := fun x hx => by
    unfold Program.keyLits
    rw [Tryd.underlying3]
    simp [WalkArith.wf_i64 hx]
  unfold Program.keyLits
  rw [Tryd.underlying34]
  simp [cellsKeyP, cellsIntP, h2 t ht, h2 s hs]
theorem key_reads {t s : Int} (ht : I64 t) (hs : I64 s) : ∃ l, keyOf Tryd.prog 34 (keyV t s) = some l := by
  obtain ⟨n, hn⟩ := typesPos
  refine ⟨.string (keyBytes [.int .i64 t, .int .i64 s]), ?_⟩
  have hl := keyLitsP (n + 2) ht hs
  unfold keyOf keyV
  rw [hn]
  simp [Tryd.underlying34, keyTypeKey, cellsKeyP, Value.formed, Value.cells, hl]
theorem ad_reads (x : Ad) : ∃ l, keyOf Tryd.prog 23 (adV x) = some l := by
  obtain ⟨n, hn⟩ := typesPos
  refine ⟨.string (keyBytes [.int .u8 (x.a.toNat : Int), .int .u8 (x.b.toNat : Int), .int .u8 (x.c.toNat : Int), .int .u8 (x.d.toNat : Int)]), ?_⟩
  have hl := adLits (n + 2) x
  unfold adCells at hl
  unfold keyOf adV
  rw [hn]
  simp [Tryd.underlying23, keyTypeAddr, cellsAd, Value.formed, Value.cells, hl]
theorem zeroAd (w : World) : (zeroValue 23).run Tryd.prog w = .ok (adV ad0) w := by kernel_rfl
theorem zeroKey (w : World) : (zeroValue 34).run Tryd.prog w = .ok (keyV 0 0) w := by kernel_rfl
theorem keptM {w w' : World} {b : Nat} (h : w.mapTurned w' b) : Kept (fun i => i = b) w w' := by
  have hg := h.grown
  exact ⟨hg.os, hg.tape, hg.output, hg.size, fun k hk hn => hg.block k hk (fun e => hn (by simpa using e))⟩

/-- The rows of the two maps. -/
def hasR (x : Ad) (i : Nat) (e : Lt) : Value × Value := (keyV e.t e.s, adV (addAd x (i : Int)))
def whoR (x : Ad) (i : Nat) (e : Lt) : Value × Value := (adV (addAd x (i : Int)), keyV e.t e.s)
/-- The pool's numbers are small, no key has two places, and its addresses are some. -/
structure GoodL (x : Ad) (l : List Lt) : Prop where
  few : FewL l
  once : Once l
  room : numAd x + (l.length : Int) ≤ 4294967296
theorem GoodL.on {x : Ad} {l : List Lt} (h : GoodL x l) {t s : Int} (ht : I64 t) (hs : I64 s) (hf : findL l t s = none) (i : Nat) : GoodL x (l.set i ⟨true, t, s⟩) :=
  ⟨h.few.set i ⟨ht, hs⟩, h.once.on hf i, by rw [List.length_set]; exact h.room⟩
theorem GoodL.off {x : Ad} {l : List Lt} (h : GoodL x l) (i : Nat) : GoodL x (l.set i lt0) :=
  ⟨h.few.set i ⟨⟨by decide, by decide⟩, ⟨by decide, by decide⟩⟩, h.once.off i, by rw [List.length_set]; exact h.room⟩

section
variable {W : World} {mb : Nat} {x : Ad} {l : List Lt}
theorem has_look (h : Assoc W Tryd.prog 34 mb (rowP (hasR x) 0 l)) (hl : GoodL x l) {t s : Int} (ht : I64 t) (hs : I64 s) :
    (Instr.lookup 56 (.map (some mb)) (keyV t s) true).run Tryd.prog W = .ok (.tuple #[adV (hasL x l t s).1, .bool (hasL x l t s).2]) W := by
  obtain ⟨kl, hkl⟩ := key_reads ht hs
  rcases h.look true keyKey Tryd.underlying56 (zeroAd W) hkl with ⟨hn, hr⟩ | ⟨v, hv, hr⟩
  · have hf : findL l t s = none := by
      cases hf : findL l t s with
      | none => rfl
      | some i =>
        obtain ⟨e, h1, h2, h3, h4⟩ := findL_hit hf
        refine absurd ?_ (hn _ (rowP_mem.2 ⟨i, e, h1, h2, rfl⟩))
        show keyV e.t e.s = keyV t s
        rw [h3, h4]
    unfold hasL
    rw [hf]
    exact hr
  · obtain ⟨i, e, h1, h2, h3⟩ := rowP_mem.1 hv
    obtain ⟨ea, eb⟩ := Prod.mk.inj h3
    obtain ⟨rfl, rfl⟩ := keyV_inj ea
    have hf := hl.once.find h1 h2
    unfold hasL
    rw [hf]
    rw [eb, Nat.zero_add] at hr
    exact hr
theorem who_look (h : Assoc W Tryd.prog 23 mb (rowP (whoR x) 0 l)) (hl : GoodL x l) (y : Ad) :
    (Instr.lookup 57 (.map (some mb)) (adV y) true).run Tryd.prog W = .ok (.tuple #[keyV (whoL x l y).1 (whoL x l y).2.1, .bool (whoL x l y).2.2]) W := by
  obtain ⟨kl, hkl⟩ := ad_reads y
  rcases h.look true keyAddr Tryd.underlying57 (zeroKey W) hkl with ⟨hn, hr⟩ | ⟨v, hv, hr⟩
  · have hf : atL x y l = none := by
      cases hf : atL x y l with
      | none => rfl
      | some i =>
        obtain ⟨e, h1, h2, h3⟩ := atL_hit hf
        refine absurd ?_ (hn _ (rowP_mem.2 ⟨i, e, h1, h2, rfl⟩))
        show adV (addAd x ((0 + i : Nat) : Int)) = adV y
        rw [h3, Nat.zero_add]
    unfold whoL
    rw [hf]
    exact hr
  · obtain ⟨i, e, h1, h2, h3⟩ := rowP_mem.1 hv
    obtain ⟨ea, eb⟩ := Prod.mk.inj h3
    rw [Nat.zero_add] at ea
    obtain rfl := adV_inj ea
    have hf := atL_at hl.room h1 h2
    unfold whoL
    rw [hf]
    simp only [h1]
    rw [eb] at hr
    exact hr
end

/-! A map that is nil. -/
theorem nil_has (W : World) {t s : Int} (ht : I64 t) (hs : I64 s) : (Instr.lookup 56 (.map none) (keyV t s) true).run Tryd.prog W = .ok (.tuple #[adV ad0, .bool false]) W := by
  obtain ⟨kl, hkl⟩ := key_reads ht hs
  rcases keyKey.find W hkl [] (fun x hx => absurd hx List.not_mem_nil) with ⟨h1, _⟩ | ⟨j, e0, _, h2, _⟩
  · have hz := zeroAd W
    unfold adV ad0 at *
    simp [Instr.lookup, run_underlying Tryd.underlying56, keyKey.check W _ hkl, h1, Result.andThen, hz]
  · cases h2
theorem nil_who (W : World) (y : Ad) : (Instr.lookup 57 (.map none) (adV y) true).run Tryd.prog W = .ok (.tuple #[keyV 0 0, .bool false]) W := by
  obtain ⟨kl, hkl⟩ := ad_reads y
  rcases keyAddr.find W hkl [] (fun x hx => absurd hx List.not_mem_nil) with ⟨h1, _⟩ | ⟨j, e0, _, h2, _⟩
  · have hz := zeroKey W
    unfold keyV at *
    simp [Instr.lookup, run_underlying Tryd.underlying57, keyAddr.check W _ hkl, h1, Result.andThen, hz]
  · cases h2
theorem nil_len (W : World) (ty : TypeId) : (Builtin.len_ #[57] ty #[.map none]).run Tryd.prog W = .ok (.int .i64 0) W := by
  simp [Builtin.len_, run_underlying Tryd.underlying57, Result.andThen, goInt]

/-- The program's pool at block b, its maps at base or behind. -/
structure PpIn (w : World) (base b : Nat) (m k : Option Nat) (x : Ad) (l : List Lt) : Prop where
  blk : w.heap[b]? = some (.cells #[.int .u8 (x.a.toNat : Int), .int .u8 (x.b.toNat : Int), .int .u8 (x.c.toNat : Int), .int .u8 (x.d.toNat : Int), .int .i64 (l.length : Int), .map m, .map k] 59 (0, 0))
  nil1 : m = none → l = []
  nil2 : k = none → l = []
  has : ∀ mb, m = some mb → base ≤ mb ∧ Assoc w Tryd.prog 34 mb (rowP (hasR x) 0 l)
  who : ∀ kb, k = some kb → base ≤ kb ∧ Assoc w Tryd.prog 23 kb (rowP (whoR x) 0 l)
  ne : ∀ mb kb, m = some mb → k = some kb → mb ≠ kb
  good : GoodL x l
def PpAt (w : World) (base b : Nat) (x : Ad) (l : List Lt) : Prop := ∃ m k, PpIn w base b m k x l
/-- From w to w' nothing has turned but maps at base or behind. -/
def PpK (base : Nat) (w w' : World) : Prop := Kept (fun i => base ≤ i ∧ ∃ es c, w.heap[i]? = some (.map es c)) w w'
theorem PpK.none {base : Nat} {w w' : World} (h : Kept (fun _ => False) w w') : PpK base w w' := h.mono (fun _ _ h => h.elim)
theorem PpK.trans {base : Nat} {a c w : World} (h : PpK base a w) (k : PpK base w c) : PpK base a c := by
  refine ⟨k.os.trans h.os, k.tape.trans h.tape, k.output.trans h.output, Nat.le_trans h.size k.size, fun i hi hn => ?_⟩
  have e := h.block i hi hn
  refine (k.block i (Nat.lt_of_lt_of_le hi h.size) (fun hh => hn ?_)).trans e
  obtain ⟨h1, es, cc, h2⟩ := hh
  exact ⟨h1, es, cc, by rw [← e]; exact h2⟩
theorem Assoc.isMap {w : World} {P : Program} {k : TypeId} {b : Nat} {L : List (Value × Value)} (h : Assoc w P k b L) : ∃ es c, w.heap[b]? = some (.map es c) := by
  obtain ⟨es, c, hb, _⟩ := h
  exact ⟨es, c, hb⟩

section
variable {w w' : World} {base b : Nat} {m k : Option Nat} {x : Ad} {l : List Lt}
theorem PpIn.lt (h : PpIn w base b m k x l) : b < w.heap.size := (Array.getElem?_eq_some_iff.1 h.blk).1
theorem PpIn.c0 (h : PpIn w base b m k x l) : w.cell? ⟨b, 0, none⟩ = some (.int .u8 (x.a.toNat : Int)) := by simp [World.cell?, h.blk]
theorem PpIn.c1 (h : PpIn w base b m k x l) : w.cell? ⟨b, 1, none⟩ = some (.int .u8 (x.b.toNat : Int)) := by simp [World.cell?, h.blk]
theorem PpIn.c2 (h : PpIn w base b m k x l) : w.cell? ⟨b, 2, none⟩ = some (.int .u8 (x.c.toNat : Int)) := by simp [World.cell?, h.blk]
theorem PpIn.c3 (h : PpIn w base b m k x l) : w.cell? ⟨b, 3, none⟩ = some (.int .u8 (x.d.toNat : Int)) := by simp [World.cell?, h.blk]
theorem PpIn.c4 (h : PpIn w base b m k x l) : w.cell? ⟨b, 4, none⟩ = some (.int .i64 (l.length : Int)) := by simp [World.cell?, h.blk]
theorem PpIn.c5 (h : PpIn w base b m k x l) : w.cell? ⟨b, 5, none⟩ = some (.map m) := by simp [World.cell?, h.blk]
theorem PpIn.c6 (h : PpIn w base b m k x l) : w.cell? ⟨b, 6, none⟩ = some (.map k) := by simp [World.cell?, h.blk]
theorem PpIn.kept {S : Nat → Prop} (h : PpIn w base b m k x l) (hk : Kept S w w') (h0 : ¬ S b) (h1 : ∀ mb, m = some mb → ¬ S mb) (h2 : ∀ kb, k = some kb → ¬ S kb) : PpIn w' base b m k x l :=
  ⟨(hk.block b h.lt h0).trans h.blk, h.nil1, h.nil2, fun mb e => ⟨(h.has mb e).1, (h.has mb e).2.same (hk.block mb (h.has mb e).2.lt (h1 mb e))⟩, fun kb e => ⟨(h.who kb e).1, (h.who kb e).2.same (hk.block kb (h.who kb e).2.lt (h2 kb e))⟩, h.ne, h.good⟩
theorem PpIn.kept0 (h : PpIn w base b m k x l) (hk : Kept (fun _ => False) w w') : PpIn w' base b m k x l := h.kept hk id (fun _ _ => id) (fun _ _ => id)
theorem PpIn.hasAt (h : PpIn w base b m k x l) {t s : Int} (ht : I64 t) (hs : I64 s) : (Instr.lookup 56 (.map m) (keyV t s) true).run Tryd.prog w = .ok (.tuple #[adV (hasL x l t s).1, .bool (hasL x l t s).2]) w := by
  cases m with
  | none => rw [h.nil1 rfl]; exact nil_has w ht hs
  | some mb => exact has_look (h.has mb rfl).2 h.good ht hs
theorem PpIn.whoAt (h : PpIn w base b m k x l) (y : Ad) : (Instr.lookup 57 (.map k) (adV y) true).run Tryd.prog w = .ok (.tuple #[keyV (whoL x l y).1 (whoL x l y).2.1, .bool (whoL x l y).2.2]) w := by
  cases k with
  | none => rw [h.nil2 rfl]; exact nil_who w y
  | some kb => exact who_look (h.who kb rfl).2 h.good y
theorem PpIn.len (h : PpIn w base b m k x l) (ty : TypeId) : (Builtin.len_ #[57] ty #[.map k]).run Tryd.prog w = .ok (.int .i64 ((l.length - nFree l : Nat) : Int)) w := by
  cases k with
  | none => rw [h.nil2 rfl]; exact nil_len w ty
  | some kb =>
    have := (h.who kb rfl).2.len (ty := ty) Tryd.underlying57
    have e : (rowP (whoR x) 0 l).length = l.length - nFree l := by
      have := rowP_length (f := whoR x) (k := 0) (l := l)
      omega
    rw [e] at this
    exact this
theorem PpIn.neM (h : PpIn w base b m k x l) {mb : Nat} (hm : m = some mb) : b ≠ mb := fun e => by
  obtain ⟨es, c, h2⟩ := (h.has mb hm).2.isMap
  have := h.blk
  rw [e, h2] at this
  cases this
theorem PpIn.neK (h : PpIn w base b m k x l) {kb : Nat} (hk : k = some kb) : b ≠ kb := fun e => by
  obtain ⟨es, c, h2⟩ := (h.who kb hk).2.isMap
  have := h.blk
  rw [e, h2] at this
  cases this
/-- What turns the two maps turns nothing else. -/
theorem PpIn.turned {mb kb : Nat} (h : PpIn w base b (some mb) (some kb) x l) (hk : Kept (fun i => i = mb ∨ i = kb) w w') : PpK base w w' := by
  refine hk.mono (fun i _ e => ?_)
  rcases e with rfl | rfl
  · exact ⟨(h.has _ rfl).1, (h.has _ rfl).2.isMap⟩
  · exact ⟨(h.who _ rfl).1, (h.who _ rfl).2.isMap⟩
theorem PpIn.some1 (h : PpIn w base b m k x l) (hl : l ≠ []) : ∃ mb kb, m = some mb ∧ k = some kb := by
  cases m with
  | none => exact absurd (h.nil1 rfl) hl
  | some mb =>
    cases k with
    | none => exact absurd (h.nil2 rfl) hl
    | some kb => exact ⟨mb, kb, rfl, rfl⟩
end
end Go.Proofs.YtblcojggjplndaaDoor
