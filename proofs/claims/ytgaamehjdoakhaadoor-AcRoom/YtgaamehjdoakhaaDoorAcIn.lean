/- Contracts of calls, several texts in one: no condition but what each theorem says. -/
import Derived.Test.YtgaamehjdoakhaaDoorAcEth
import Derived.Shelf.Spec.TrailingZeros
import Derived.Test.YtgaamehjdoakhaaDoorProg
import Derived.Test.YtgaamehjdoakhaaDoorAcBas
import Derived.WalkKit
import Derived.WalkSpells
import Derived.WalkLawsBesides
import Derived.DeepKeys4
import Derived.Deep.RegionHeld3
import Derived.Deep.RegionHeldLaw
import Derived.BigRegion
import Derived.DeepKeys
import Derived.Shelf.Lays7
namespace Go.Proofs.YtgaamehjdoakhaaDoor

/-- A session: whose, which, by which uniq, used or not. -/
structure Sn where
  mac : List UInt8
  num : Nat
  uniq : ByteArray
  used : Bool

/-- A concentrator. -/
structure Cs where
  mac : List UInt8
  name : ByteArray
  secret : ByteArray
  most : Int
  sess : List Sn
  last : Nat
  gone : List (List UInt8 × Int)

def frameF (c : Cs) (to : List UInt8) (kind code session : Int) (data : List UInt8) : Fr × Int := etFrame to c.mac kind code session data
def sendF (c : Cs) (to : List UInt8) (code session : Int) (tags : List Tg) : List Fr := etDisc to c.mac code session tags
def echoF (asked : List Tg) : List Tg := if (findF asked 259).2 = 0 then [] else [⟨259, (findF asked 259).1⟩]
/-- (Without services there is the empty one alone.) -/
def servesF (service : ByteArray) : Bool := service.toList.isEmpty

/-- Is it the session of a card for a uniq, not used yet? -/
def isFor (m : List UInt8) (uniq : ByteArray) (x : Sn) : Bool := decide (x.mac = m) && sameB x.uniq uniq && !x.used
def unusedF (c : Cs) (m : List UInt8) (uniq : ByteArray) : Nat := match c.sess.find? (isFor m uniq) with
  | some x => x.num
  | none => 0
def isOfMac (m : List UInt8) (x : Sn) : Bool := decide (x.mac = m)
def eachF (c : Cs) (m : List UInt8) : Nat := (c.sess.filter (isOfMac m)).length
def roomF (c : Cs) (m : List UInt8) : Bool := decide ((c.sess.length : Int) < c.most) && decide (eachF c m < 2)
/-- How many numbers part a number from the last one. -/
def offF (last num : Nat) : Nat := (num + 65534 - last) % 65535
/-- The bits of numbers that are taken. -/
def bitF (t : Nat) (n : Nat) : Nat := if n < 64 then t ||| 2 ^ n else t
def takenF (c : Cs) : Nat := (c.sess.map (fun x => offF c.last x.num)).foldl bitF 0
def nextF (c : Cs) : Nat := (c.last + Lib.ctz 64 (18446744073709551615 - takenF c)) % 65535 + 1
def isIdZ (m : List UInt8) (n : Int) (x : Sn) : Bool := decide (x.mac = m) && decide ((x.num : Int) = n)
def findS (ss : List Sn) (m : List UInt8) (n : Int) : Option Sn := ss.find? (isIdZ m n)
def dropS (ss : List Sn) (m : List UInt8) (n : Int) : List Sn := ss.filter (fun x => !isIdZ m n x)
def uniqOf : Option Sn → ByteArray | none => ⟨#[]⟩ | some x => x.uniq
def usedOf : Option Sn → Bool | none => false | some x => x.used
def beginF (c : Cs) (m : List UInt8) (uniq : ByteArray) : Cs := { c with last := nextF c, sess := dropS c.sess m (nextF c : Int) ++ [⟨m, nextF c, uniq, false⟩] }
def endF (c : Cs) (m : List UInt8) (n : Int) : Cs := if (findS c.sess m n).isSome then { c with sess := dropS c.sess m n, gone := c.gone ++ [(m, n)] } else c
def useF (c : Cs) (m : List UInt8) (n : Nat) : Cs := if (findS c.sess m (n : Int)).isSome then { c with sess := dropS c.sess m (n : Int) ++ [⟨m, n, uniqOf (findS c.sess m (n : Int)), true⟩] } else c
/-- The number of the session, the tag that says why there is none, and what is left. -/
def admitF (c : Cs) (m : List UInt8) (service uniq : ByteArray) : Nat × Int × Cs :=
  if servesF service = false then (0, 513, c) else if unusedF c m uniq ≠ 0 then (unusedF c m uniq, 0, c) else if roomF c m = false then (0, 514, c) else (nextF c, 0, beginF c m uniq)
def offerF (make : ByteArray → Int → List UInt8) (c : Cs) (to : List UInt8) (asked : List Tg) (time : Int) : List Fr :=
  if (findF asked 257).2 ≠ 1 ∨ servesF (findF asked 257).1 = false then [] else
    sendF c to 7 0 (([⟨258, c.name⟩, ⟨257, (findF asked 257).1⟩] ++ [⟨260, ⟨(make (findF asked 257).1 time).toArray⟩⟩]) ++ echoF asked)
def grantTags (service : ByteArray) (session : Nat) (why : Int) : List Tg := [⟨257, service⟩] ++ (if session = 0 then [⟨why, ⟨#[]⟩⟩] else [])
def grantF (check : ByteArray → ByteArray → Int → Bool) (c : Cs) (to : List UInt8) (asked : List Tg) (time : Int) : List Fr × Cs :=
  if (findF asked 257).2 ≠ 1 ∨ (findF asked 260).2 = 0 ∨ check (findF asked 257).1 (findF asked 260).1 time = false then ([], c) else
    (sendF (admitF c to (findF asked 257).1 (findF asked 259).1).2.2 to 101 ((admitF c to (findF asked 257).1 (findF asked 259).1).1 : Int)
      (grantTags (findF asked 257).1 (admitF c to (findF asked 257).1 (findF asked 259).1).1 (admitF c to (findF asked 257).1 (findF asked 259).1).2.1 ++ echoF asked), (admitF c to (findF asked 257).1 (findF asked 259).1).2.2)
def takeF (make : ByteArray → List UInt8 → ByteArray → Int → List UInt8) (check : ByteArray → List UInt8 → ByteArray → ByteArray → Int → Bool) (c : Cs) (f : Fr) (time : Int) : List Fr × Cs :=
  if f.type ≠ 34915 ∨ f.src = c.mac then ([], c) else
  if (getDiscF f.data.data.toList).2 ≠ 0 then ([], c) else
  if (tagsOn (getDiscF f.data.data.toList).1.data []).2 ≠ 0 then ([], c) else
  if (getDiscF f.data.data.toList).1.code = 9 ∧ f.dst = everyF ∧ (getDiscF f.data.data.toList).1.session = 0 then (offerF (make c.secret f.src) c f.src (tagsOn (getDiscF f.data.data.toList).1.data []).1 time, c) else
  if (getDiscF f.data.data.toList).1.code = 25 ∧ f.dst = c.mac ∧ (getDiscF f.data.data.toList).1.session = 0 then grantF (check c.secret f.src) c f.src (tagsOn (getDiscF f.data.data.toList).1.data []).1 time else
  if (getDiscF f.data.data.toList).1.code = 167 ∧ f.dst = c.mac ∧ (getDiscF f.data.data.toList).1.session ≠ 0 then ([], endF c f.src ((getDiscF f.data.data.toList).1.session : Int)) else ([], c)
end Go.Proofs.YtgaamehjdoakhaaDoor

/- The sessions of a concentrator as the entries of its map: keys are a card and a number. -/
namespace Go.Proofs.YtgaamehjdoakhaaDoor
open Go.RowKit
open Go.Maps (Keyed)

def In64 (x : Int) : Prop := -9223372036854775808 ≤ x ∧ x ≤ 9223372036854775807

def idCells (m : List UInt8) (n : Int) : List Value := Lib.byteCells m ++ [.int .i64 n]
def idV (m : List UInt8) (n : Int) : Value := .agg (idCells m n).toArray
def leaseV (u : ByteArray) (q : Bool) : Value := .agg #[.string u, .bool q]
def snV (x : Sn) : Value × Value := (idV x.mac (x.num : Int), leaseV x.uniq x.used)

theorem laidOutA : laidOutB Tryd.prog = true := by kernel_rfl
theorem keyLaw : Keyed Tryd.prog 27 := Keyed.of_law (deep_law_laid laidOutA (m := 8) (by decide) (of_decide_eq_true (by kernel_rfl)) (by kernel_rfl) (by kernel_rfl))
theorem zeroLease (w : World) : (zeroValue 82).run Tryd.prog w = .ok (leaseV ⟨#[]⟩ false) w := by kernel_rfl

theorem typesPos : ∃ n, Tryd.prog.types.size = n + 3 := ⟨Tryd.prog.types.size - 3, by have : 3 ≤ Tryd.prog.types.size := of_decide_eq_true (by kernel_rfl); omega⟩
theorem keyTypeId : Tryd.prog.keyType 27 = true := by kernel_rfl
theorem cellsId : Tryd.prog.cellsOf 27 = 7 := by kernel_rfl
theorem cellsMac : Tryd.prog.cellsOf 23 = 6 := by kernel_rfl
theorem cells3 : Tryd.prog.cellsOf 3 = 1 := by kernel_rfl
theorem cells5 : Tryd.prog.cellsOf 5 = 1 := by kernel_rfl

theorem idCells_length {m : List UInt8} (h : m.length = 6) (n : Int) : (idCells m n).length = 7 := by simp [idCells, Lib.byteCells_length, h]
theorem six_bytes {m : List UInt8} (h : m.length = 6) : ∃ a b c d e f : UInt8, m = [a, b, c, d, e, f] := by
  match m, h with
  | [a, b, c, d, e, f], _ => exact ⟨a, b, c, d, e, f, rfl⟩

theorem wf64 {x : Int} (h : In64 x) : (Lit.int .i64 x).wf = true := WalkArith.wf_i64 h
theorem byte_lits (d : Nat) (b : UInt8) : Tryd.prog.keyLits (d + 1) 5 [.int .u8 (b.toNat : Int)] = some [.int .u8 (b.toNat : Int)] := by
  have hb := b.toNat_lt
  have hw : (Lit.int .u8 (b.toNat : Int)).wf = true := WalkArith.wf_u8 (by omega)
  unfold Program.keyLits
  rw [Tryd.underlying5]
  simp [hw]
theorem mac_lits (d : Nat) (l : List UInt8) (h : l.length = 6) : ∃ L, Tryd.prog.keyLits (d + 2) 23 (Lib.byteCells l) = some L := by
  obtain ⟨a, b, c, e, f, g, rfl⟩ := six_bytes h
  refine ⟨[.int .u8 (a.toNat : Int), .int .u8 (b.toNat : Int), .int .u8 (c.toNat : Int), .int .u8 (e.toNat : Int), .int .u8 (f.toNat : Int), .int .u8 (g.toNat : Int)], ?_⟩
  have hr : List.range 6 = [0, 1, 2, 3, 4, 5] := rfl
  unfold Program.keyLits
  rw [Tryd.underlying23]
  simp [cellsMac, cells5, Lib.byteCells, hr, byte_lits]
theorem id_lits (d : Nat) (m : List UInt8) (hm : m.length = 6) {n : Int} (hn : In64 n) : ∃ L, Tryd.prog.keyLits (d + 3) 27 (idCells m n) = some L := by
  obtain ⟨L1, h1⟩ := mac_lits d m hm
  have h3 : Tryd.prog.keyLits (d + 2) 3 [.int .i64 n] = some [.int .i64 n] := by
    unfold Program.keyLits
    rw [Tryd.underlying3]
    simp [wf64 hn]
  have e1 : (idCells m n).take 6 = Lib.byteCells m := by
    unfold idCells
    rw [List.take_append_of_le_length (by rw [Lib.byteCells_length]; omega)]
    exact List.take_of_length_le (by rw [Lib.byteCells_length]; omega)
  have e2 : (idCells m n).drop 6 = [.int .i64 n] := by
    have h := List.drop_left (l₁ := Lib.byteCells m) (l₂ := [.int .i64 n])
    rw [Lib.byteCells_length, hm] at h
    exact h
  refine ⟨L1 ++ [.int .i64 n], ?_⟩
  unfold Program.keyLits
  rw [Tryd.underlying27]
  simp [cellsId, idCells_length hm, cellsMac, cells3, e1, e2, h1, h3]
theorem key_reads {m : List UInt8} (hm : m.length = 6) {n : Int} (hn : In64 n) : ∃ l, keyOf Tryd.prog 27 (idV m n) = some l := by
  obtain ⟨q, hq⟩ := typesPos
  obtain ⟨L, hL⟩ := id_lits (q + 1) m hm hn
  refine ⟨.string (keyBytes L), ?_⟩
  unfold keyOf idV
  rw [hq]
  simp [Tryd.underlying27, keyTypeId, cellsId, Value.formed, Value.cells, idCells_length hm, hL]

/-- The sessions that the map in block b holds, in some order. -/
def SsIn (w : World) (b : Nat) (ss : List Sn) : Prop := Assoc w Tryd.prog 27 b (ss.map snV)


theorem byteCells_inj {a b : List UInt8} (h : Lib.byteCells a = Lib.byteCells b) : a = b := by
  induction a generalizing b with
  | nil => cases b with
    | nil => rfl
    | cons y b => simp [Lib.byteCells] at h
  | cons x a ih => cases b with
    | nil => simp [Lib.byteCells] at h
    | cons y b =>
      simp only [Lib.byteCells, List.map_cons, List.cons.injEq, Value.int.injEq] at h
      obtain ⟨⟨_, h1⟩, h2⟩ := h
      have h3 : x.toNat = y.toNat := by omega
      rw [UInt8.toNat_inj.1 h3, ih h2]
theorem idV_inj {m m' : List UInt8} {n n' : Int} (h : idV m n = idV m' n') : m = m' ∧ n = n' := by
  unfold idV idCells at h
  simp only [Value.agg.injEq] at h
  have h2 := congrArg Array.toList h
  simp only at h2
  have h3 := List.append_inj' h2 rfl
  exact ⟨byteCells_inj h3.1, by simpa using h3.2⟩

theorem isIdZ_iff {m : List UInt8} {n : Int} {x : Sn} : isIdZ m n x = true ↔ (snV x).1 = idV m n := by
  unfold isIdZ snV
  rw [Bool.and_eq_true, decide_eq_true_eq, decide_eq_true_eq]
  exact ⟨fun h => by rw [h.1, h.2], fun h => idV_inj h⟩

/-- No two sessions have one card and one number. -/
def ApartS (ss : List Sn) : Prop := ss.Pairwise (fun a b => ¬ (a.mac = b.mac ∧ a.num = b.num))

theorem SsIn.apart {w : World} {b : Nat} {ss : List Sn} (h : SsIn w b ss) : ApartS ss := by
  have := Assoc.keys (L := ss.map snV) h
  rw [List.pairwise_map] at this
  exact this.imp (fun {a b} hne e => hne (by unfold snV; simp [e.1, e.2]))

theorem find_of_mem : ∀ {ss : List Sn}, ApartS ss → ∀ {x : Sn}, x ∈ ss → ∀ {m : List UInt8} {n : Int}, x.mac = m → (x.num : Int) = n → findS ss m n = some x
  | a :: r, hA, x, hx, m, n, hm, hn => by
    obtain ⟨h1, h2⟩ := List.pairwise_cons.1 hA
    unfold findS
    rcases List.mem_cons.1 hx with rfl | hx
    · rw [List.find?_cons_of_pos]
      simp [isIdZ, hm, hn]
    · rw [List.find?_cons_of_neg]
      · exact find_of_mem h2 hx hm hn
      · simp only [isIdZ, Bool.and_eq_true, decide_eq_true_eq]
        intro e
        exact h1 x hx ⟨e.1.trans hm.symm, by omega⟩

theorem find_none {ss : List Sn} {m : List UInt8} {n : Int} (h : ∀ x ∈ ss, isIdZ m n x = false) : findS ss m n = none := by
  unfold findS
  rw [List.find?_eq_none]
  intro t ht
  rw [h t ht]
  simp

/-- 'm[k]' and 'v, ok := m[k]'. -/
theorem SsIn.look {w : World} {b : Nat} {ss : List Sn} (h : SsIn w b ss) (c : Bool) {m : List UInt8} {n : Int} (hm : m.length = 6) (hn : In64 n) :
    (Instr.lookup 31 (.map (some b)) (idV m n) c).run Tryd.prog w =
      .ok (if c then .tuple #[leaseV (uniqOf (findS ss m n)) (usedOf (findS ss m n)), .bool (findS ss m n).isSome] else leaseV (uniqOf (findS ss m n)) (usedOf (findS ss m n))) w := by
  obtain ⟨l, hl⟩ := key_reads hm hn
  have h' : Assoc w Tryd.prog 27 b (ss.map snV) := h
  rcases h'.look c keyLaw Tryd.underlying31 (zeroLease w) hl with ⟨h1, h2⟩ | ⟨v, h1, h2⟩
  · have hf : findS ss m n = none := find_none (fun t ht => by
      cases e : isIdZ m n t
      · rfl
      · exact absurd (isIdZ_iff.1 e) (h1 _ (List.mem_map.2 ⟨t, ht, rfl⟩)))
    rw [hf, h2]
    rfl
  · obtain ⟨t, ht, e⟩ := List.mem_map.1 h1
    have e1 : isIdZ m n t = true := isIdZ_iff.2 (by rw [e])
    simp only [isIdZ, Bool.and_eq_true, decide_eq_true_eq] at e1
    have hf := find_of_mem h.apart ht e1.1 e1.2
    have e2 : v = leaseV t.uniq t.used := by rw [snV] at e; exact (Prod.mk.inj e).2.symm
    rw [hf, h2, e2]
    rfl

theorem SsIn.len {w : World} {b : Nat} {ss : List Sn} (h : SsIn w b ss) (ty : TypeId) :
    (Builtin.len_ #[31] ty #[.map (some b)]).run Tryd.prog w = .ok (.int .i64 (ss.length : Nat)) w := by
  have h' : Assoc w Tryd.prog 27 b (ss.map snV) := h
  rw [h'.len Tryd.underlying31, List.length_map]

theorem strikes_drop {ss : List Sn} (hA : ApartS ss) (m : List UInt8) (n : Int) : Strikes (ss.map snV) (idV m n) ((dropS ss m n).map snV) := by
  induction ss with
  | nil => exact Or.inl ⟨by simp [dropS], by simp [dropS]⟩
  | cons a r ih =>
    obtain ⟨h1, h2⟩ := List.pairwise_cons.1 hA
    cases e : isIdZ m n a
    · have e1 : dropS (a :: r) m n = a :: dropS r m n := by simp [dropS, e]
      rw [e1]
      rcases ih h2 with ⟨hp, hn⟩ | ⟨v, hp⟩
      · refine Or.inl ⟨by simpa using hp.cons (snV a), fun p hp' => ?_⟩
        rcases List.mem_cons.1 hp' with rfl | hp'
        · intro e2
          rw [isIdZ_iff.2 e2] at e
          cases e
        · exact hn p hp'
      · exact Or.inr ⟨v, by simpa using (hp.cons (snV a)).trans (List.Perm.swap _ _ _)⟩
    · have e1 : dropS (a :: r) m n = r := by
        have : ∀ t ∈ r, isIdZ m n t = false := fun t ht => by
          cases e2 : isIdZ m n t
          · rfl
          · simp only [isIdZ, Bool.and_eq_true, decide_eq_true_eq] at e e2
            exact absurd ⟨e.1.trans e2.1.symm, by omega⟩ (h1 t ht)
        rw [dropS, List.filter_cons, if_neg (by simp [e])]
        exact List.filter_eq_self.2 (fun t ht => by simp [this t ht])
      rw [e1]
      refine Or.inr ⟨leaseV a.uniq a.used, ?_⟩
      have : snV a = (idV m n, leaseV a.uniq a.used) := by rw [← isIdZ_iff.1 e]; rfl
      rw [List.map_cons, this]

theorem SsIn.drop {w : World} {b : Nat} {ss : List Sn} (h : SsIn w b ss) {m : List UInt8} {n : Int} (hm : m.length = 6) (hn : In64 n) (ty : TypeId) :
    ∃ w', (Builtin.delete_ #[31, 27] ty #[.map (some b), idV m n]).run Tryd.prog w = .ok (.tuple #[]) w' ∧ SsIn w' b (dropS ss m n) ∧ w.grownBy w' (some b) ∧ w'.heap.size = w.heap.size := by
  obtain ⟨l, hl⟩ := key_reads hm hn
  have h' : Assoc w Tryd.prog 27 b (ss.map snV) := h
  obtain ⟨w', h1, h2, h3⟩ := h'.drop (ty := ty) keyLaw Tryd.underlying31 hl (strikes_drop h.apart m n)
  refine ⟨w', h1, h2, h3.grown, ?_⟩
  obtain ⟨es, clock, es', clock', _, rfl⟩ := h3
  simp [ChangeMaps.setBlock]

theorem SsIn.store {w : World} {b : Nat} {ss : List Sn} (h : SsIn w b ss) (hroom : ss.length < 1000) {m : List UInt8} {n : Nat} (hm : m.length = 6) (hn : n ≤ 65535) (u : ByteArray) (q : Bool) :
    ∃ w', (Instr.mapUpdate 31 (.map (some b)) (idV m (n : Int)) (leaseV u q)).run Tryd.prog w = .ok () w' ∧ SsIn w' b (dropS ss m (n : Int) ++ [⟨m, n, u, q⟩]) ∧ w.grownBy w' (some b) ∧ w'.heap.size = w.heap.size := by
  obtain ⟨l, hl⟩ := key_reads hm (n := (n : Int)) (by unfold In64; omega)
  have h' : Assoc w Tryd.prog 27 b (ss.map snV) := h
  obtain ⟨w', h1, h2, h3⟩ := h'.store (val := leaseV u q) keyLaw Tryd.underlying31 (by rw [List.length_map]; unfold maxLen; omega) hl (strikes_drop h.apart m (n : Int))
  refine ⟨w', h1, ?_, h3.grown, ?_⟩
  · show Assoc w' Tryd.prog 27 b ((dropS ss m (n : Int) ++ [(⟨m, n, u, q⟩ : Sn)]).map snV)
    refine h2.perm ?_
    rw [List.map_append]
    exact (List.perm_append_singleton _ _).symm
  · obtain ⟨es, clock, es', clock', _, rfl⟩ := h3
    simp [ChangeMaps.setBlock]

theorem SsIn.same {w w' : World} {b : Nat} {ss : List Sn} (h : SsIn w b ss) (hb : w'.heap[b]? = w.heap[b]?) : SsIn w' b ss := Assoc.same (L := ss.map snV) h hb
theorem SsIn.lt {w : World} {b : Nat} {ss : List Sn} (h : SsIn w b ss) : b < w.heap.size := Assoc.lt (L := ss.map snV) h
theorem SsIn.perm {w : World} {b : Nat} {ss tt : List Sn} (h : SsIn w b ss) (hp : ss.Perm tt) : SsIn w b tt := Assoc.perm (L := ss.map snV) h (hp.map snV)
end Go.Proofs.YtgaamehjdoakhaaDoor

/- A concentrator in memory: its thirteen cells, its map of sessions, the row of those that went; and words for one that is under way. -/
namespace Go.Proofs.YtgaamehjdoakhaaDoor
open Go.RowKit

def concList (c : Cs) (mb : Nat) (gv : Value) : List Value := Lib.byteCells c.mac ++ [.string c.name, .slice none 0 0, .string c.secret, .int .i64 c.most, .map (some mb), .int .i64 (c.last : Int), gv]

/-- A row of ids. -/
def idRow (l : List (List UInt8 × Int)) : List Value := l.flatMap (fun p => idCells p.1 p.2)
def OwnI (w : World) (base : Nat) (v : Value) (l : List (List UInt8 × Int)) : Prop := w.ownsRow base 27 7 v l.length (idRow l)

/-- What holds of every concentrator that New made. -/
structure Good (c : Cs) : Prop where
  mac : c.mac.length = 6
  name1 : 1 ≤ c.name.size
  name : c.name.size ≤ 40
  secret : c.secret.size ≤ 1000
  most1 : 1 ≤ c.most
  most : c.most ≤ 60
  len : (c.sess.length : Int) ≤ c.most
  ids : ∀ x ∈ c.sess, x.mac.length = 6 ∧ 1 ≤ x.num ∧ x.num ≤ 65535
  last : c.last ≤ 65535
  one : ∀ m u, ∀ x ∈ c.sess, ∀ y ∈ c.sess, isFor m u x = true → isFor m u y = true → x = y
  nums : c.sess.Pairwise (fun x y => x.num ≠ y.num)
  each : ∀ m, eachF c m ≤ 2
  gone : c.gone.length ≤ 1000000
  goneM : ∀ p ∈ c.gone, p.1.length = 6

structure ConcIn (w : World) (b mb : Nat) (gv : Value) (c : Cs) : Prop where
  blk : w.heap[b]? = some (.cells (concList c mb gv).toArray 34 (0, 0))
  ses : SsIn w mb c.sess
  own : OwnI w 0 gv c.gone

/-- The blocks of a concentrator. -/
def ofConc (b mb : Nat) (gv : Value) (i : Nat) : Prop := i = b ∨ i = mb ∨ gv.ownBlock = some i

section
variable {w w' : World} {b mb : Nat} {gv : Value} {c : Cs}

theorem OwnI.same {l : List (List UInt8 × Int)} {base : Nat} (h : OwnI w base gv l) (hb : ∀ i, gv.ownBlock = some i → w'.heap[i]? = w.heap[i]?) : OwnI w' base gv l := by
  rcases h.2 with ⟨rfl, h0⟩ | ⟨g, cap, cur, rfl, hb', hg, h1, h2, h3, h4⟩
  · exact ⟨h.1, Or.inl ⟨rfl, h0⟩⟩
  · exact ⟨h.1, Or.inr ⟨g, cap, cur, rfl, hb', (hb g rfl).trans hg, h1, h2, h3, h4⟩⟩
theorem OwnI.block {l : List (List UInt8 × Int)} {base i : Nat} (h : OwnI w base gv l) (hi : gv.ownBlock = some i) : ∃ cur, w.heap[i]? = some (.cells cur 27 (0, 0)) := by
  rcases h.2 with ⟨rfl, h0⟩ | ⟨g, cap, cur, rfl, hb', hg, h1, h2, h3, h4⟩
  · cases hi
  · have : g = i := by simpa [Value.ownBlock] using hi
    subst this
    exact ⟨cur, hg⟩

theorem ConcIn.nm (h : ConcIn w b mb gv c) : mb ≠ b := by
  rintro rfl
  obtain ⟨es, clock, h1, _⟩ := h.ses
  rw [h.blk] at h1
  cases h1
theorem ConcIn.ng (h : ConcIn w b mb gv c) : gv.ownBlock ≠ some b := fun e => by
  obtain ⟨cur, h1⟩ := h.own.block e
  rw [h.blk] at h1
  simp at h1
theorem ConcIn.gm (h : ConcIn w b mb gv c) : gv.ownBlock ≠ some mb := fun e => by
  obtain ⟨cur, h1⟩ := h.own.block e
  obtain ⟨es, clock, h2, _⟩ := h.ses
  rw [h1] at h2
  cases h2
theorem ConcIn.lt (h : ConcIn w b mb gv c) {i : Nat} (hi : ofConc b mb gv i) : i < w.heap.size := by
  rcases hi with rfl | rfl | hi
  · exact (Array.getElem?_eq_some_iff.1 h.blk).1
  · exact h.ses.lt
  · obtain ⟨cur, h1⟩ := h.own.block hi
    exact (Array.getElem?_eq_some_iff.1 h1).1
theorem ConcIn.same (h : ConcIn w b mb gv c) (hb : ∀ i, ofConc b mb gv i → w'.heap[i]? = w.heap[i]?) : ConcIn w' b mb gv c :=
  ⟨(hb b (Or.inl rfl)).trans h.blk, h.ses.same (hb mb (Or.inr (Or.inl rfl))), h.own.same (fun i hi => hb i (Or.inr (Or.inr hi)))⟩
theorem ConcIn.kept {S : Nat → Prop} (h : ConcIn w b mb gv c) (hk : Kept S w w') (hS : ∀ i, ofConc b mb gv i → ¬ S i) : ConcIn w' b mb gv c := h.same (fun i hi => hk.block i (h.lt hi) (hS i hi))
theorem ConcIn.kept0 (h : ConcIn w b mb gv c) (hk : Kept (fun _ => False) w w') : ConcIn w' b mb gv c := h.kept hk (fun _ _ => id)
theorem ConcIn.alloc (h : ConcIn w b mb gv c) (o : Obj) : ConcIn (w.alloc o) b mb gv c := h.kept0 ((Kept.refl _ w).alloc o)
theorem ConcIn.drew (h : ConcIn w b mb gv c) : ConcIn w.drew b mb gv c := h.same (fun _ _ => rfl)

/-- The cells, where the card is written out. -/
structure Cells13 (W : World) (b : Nat) (x0 x1 x2 x3 x4 x5 : Value) (name secret : ByteArray) (most : Int) (mb : Nat) (last : Int) (gv : Value) : Prop where
  c0 : W.cell? ⟨b, 0, none⟩ = some x0
  c1 : W.cell? ⟨b, 1, none⟩ = some x1
  c2 : W.cell? ⟨b, 2, none⟩ = some x2
  c3 : W.cell? ⟨b, 3, none⟩ = some x3
  c4 : W.cell? ⟨b, 4, none⟩ = some x4
  c5 : W.cell? ⟨b, 5, none⟩ = some x5
  c6 : W.cell? ⟨b, 6, none⟩ = some (.string name)
  c7 : W.cell? ⟨b, 7, none⟩ = some (.slice none 0 0)
  c8 : W.cell? ⟨b, 8, none⟩ = some (.string secret)
  c9 : W.cell? ⟨b, 9, none⟩ = some (.int .i64 most)
  c10 : W.cell? ⟨b, 10, none⟩ = some (.map (some mb))
  c11 : W.cell? ⟨b, 11, none⟩ = some (.int .i64 last)
  c12 : W.cell? ⟨b, 12, none⟩ = some gv
  f : ∀ i, W.frozen? ⟨b, i, none⟩ = false

theorem ConcIn.cells (h : ConcIn w b mb gv c) {x0 x1 x2 x3 x4 x5 : Value} (hx : Lib.byteCells c.mac = [x0, x1, x2, x3, x4, x5]) : Cells13 w b x0 x1 x2 x3 x4 x5 c.name c.secret c.most mb (c.last : Int) gv := by
  have hb := h.blk
  unfold concList at hb
  rw [hx] at hb
  have hc : ∀ j, w.cell? ⟨b, j, none⟩ = _ := fun j => cell_of_row w b j _ _ _ hb
  exact ⟨hc 0, hc 1, hc 2, hc 3, hc 4, hc 5, hc 6, hc 7, hc 8, hc 9, hc 10, hc 11, hc 12, fun i => frozen_of_row w b i _ _ hb⟩

theorem conc_set {m : List UInt8} (hm : m.length = 6) (r : List Value) (j : Nat) (v : Value) : ((Lib.byteCells m ++ r).toArray.setIfInBounds (6 + j) v) = (Lib.byteCells m ++ r.set j v).toArray := by
  apply Array.toList_inj.1
  have hl : (Lib.byteCells m).length = 6 := by rw [Lib.byteCells_length, hm]
  rw [Array.toList_setIfInBounds]
  show (Lib.byteCells m ++ r).set (6 + j) v = Lib.byteCells m ++ r.set j v
  rw [List.set_append_right _ _ (by omega), hl, Nat.add_sub_cancel_left]

/-- The number that was given last is written. -/
theorem ConcIn.set11 (h : ConcIn w b mb gv c) (hm : c.mac.length = 6) (n : Nat) : ConcIn (w.setCell ⟨b, 11, none⟩ (.int .i64 (n : Int))) b mb gv { c with last := n } := by
  refine ⟨?_, h.ses.same (Below.heap_setCell _ _ _ _ h.nm), h.own.same (fun i hi => Below.heap_setCell _ _ _ _ (fun e => h.ng (by rw [hi, e])))⟩
  have := Joins.block_setCell h.blk (i := 11) (.int .i64 (n : Int))
  exact this.trans (congrArg (fun a => some (Obj.cells a 34 (0, 0))) (conc_set hm _ 5 _))
/-- The row of those that went is written. -/
theorem ConcIn.set12 (h : ConcIn w b mb gv c) (hm : c.mac.length = 6) {gv' : Value} {l : List (List UInt8 × Int)} (hown : OwnI w 0 gv' l) : ConcIn (w.setCell ⟨b, 12, none⟩ gv') b mb gv' { c with gone := l } := by
  have hng : ∀ i, gv'.ownBlock = some i → i ≠ b := fun i hi e => by
    obtain ⟨cur, h1⟩ := hown.block hi
    rw [e, h.blk] at h1
    simp at h1
  refine ⟨?_, h.ses.same (Below.heap_setCell _ _ _ _ h.nm), hown.same (fun i hi => Below.heap_setCell _ _ _ _ (hng i hi))⟩
  have := Joins.block_setCell h.blk (i := 12) gv'
  exact this.trans (congrArg (fun a => some (Obj.cells a 34 (0, 0))) (conc_set hm _ 6 _))
/-- The map has turned. -/
theorem ConcIn.turned {ss : List Sn} (h : ConcIn w b mb gv c) (hg : w.grownBy w' (some mb)) (hs : SsIn w' mb ss) : ConcIn w' b mb gv { c with sess := ss } :=
  ⟨(hg.block b (h.lt (Or.inl rfl)) (fun e => h.nm (Option.some.inj e).symm)).trans h.blk, hs, h.own.same (fun i hi => hg.block i (h.lt (Or.inr (Or.inr hi))) (fun e => h.gm (by rw [hi]; exact e)))⟩
end

/-- A concentrator at block b, whose blocks are those of S. -/
def CAt (S : Nat → Prop) (w : World) (b : Nat) (c : Cs) : Prop := ∃ mb gv, ConcIn w b mb gv c ∧ ∀ i, S i ↔ ofConc b mb gv i

/-- From w to w' the concentrator at b, whose blocks were those of S, came to c; nothing else has turned. -/
def CNext (S : Nat → Prop) (w w' : World) (b : Nat) (c : Cs) : Prop := ∃ S', CAt S' w' b c ∧ (∀ i, S' i → S i ∨ w.heap.size ≤ i) ∧ Kept S w w'

section
variable {S T : Nat → Prop} {w w' w'' : World} {b : Nat} {c c' : Cs}
theorem CAt.lt (h : CAt S w b c) {i : Nat} (hi : S i) : i < w.heap.size := by
  obtain ⟨mb, gv, h1, h2⟩ := h
  exact h1.lt ((h2 i).1 hi)
theorem CAt.self (h : CAt S w b c) : S b := by
  obtain ⟨mb, gv, h1, h2⟩ := h
  exact (h2 b).2 (Or.inl rfl)
theorem CAt.kept (h : CAt S w b c) (hk : Kept T w w') (hT : ∀ i, S i → ¬ T i) : CAt S w' b c := by
  obtain ⟨mb, gv, h1, h2⟩ := h
  exact ⟨mb, gv, h1.kept hk (fun i hi => hT i ((h2 i).2 hi)), h2⟩
theorem CAt.kept0 (h : CAt S w b c) (hk : Kept (fun _ => False) w w') : CAt S w' b c := h.kept hk (fun _ _ => id)
theorem CAt.alloc (h : CAt S w b c) (o : Obj) : CAt S (w.alloc o) b c := h.kept0 ((Kept.refl _ w).alloc o)
theorem CAt.next (h : CAt S w b c) : CNext S w w b c := ⟨S, h, fun _ hi => Or.inl hi, Kept.refl _ _⟩
theorem CNext.step (hn : CNext S w w' b c) (h : ∀ S', CAt S' w' b c → CNext S' w' w'' b c') : CNext S w w'' b c' := by
  obtain ⟨S1, h1, h2, h3⟩ := hn
  obtain ⟨S2, h4, h5, h6⟩ := h S1 h1
  refine ⟨S2, h4, fun i hi => ?_, h3.andThen h6 (fun i hi t => ?_)⟩
  · rcases h5 i hi with h | h
    · exact h2 i h
    · exact Or.inr (Nat.le_trans h3.size h)
  · rcases h2 i t with h | h
    · exact h
    · omega
theorem CNext.still (hn : CNext S w w' b c) (hk : Kept (fun _ => False) w' w'') : CNext S w w'' b c := by
  obtain ⟨S1, h1, h2, h3⟩ := hn
  exact ⟨S1, h1.kept0 hk, h2, h3.andThen hk (fun i hi t => t.elim)⟩
/-- The start is drawn back. -/
theorem CNext.back (hn : CNext S w' w'' b c) (hk : Kept (fun _ => False) w w') : CNext S w w'' b c := by
  obtain ⟨S1, h1, h2, h3⟩ := hn
  exact ⟨S1, h1, fun i hi => (h2 i hi).imp id (fun h => Nat.le_trans hk.size h), (hk.mono (T := S) (fun _ _ h => h.elim)).trans h3⟩
theorem CNext.kept (hn : CNext S w w' b c) : Kept S w w' := by
  obtain ⟨S1, h1, h2, h3⟩ := hn
  exact h3
theorem CNext.call {f : FuncId} {args : Array Value} {Q : Ending → World → Prop} (h : CNext S w w' b c) (hc : ∀ S1, CAt S1 w' b c → Calls Tryd.prog f args w' fun e w'' => Q e w'' ∧ CNext S1 w' w'' b c') :
    Calls Tryd.prog f args w' fun e w'' => Q e w'' ∧ CNext S w w'' b c' := by
  obtain ⟨S1, h1, h2, h3⟩ := h
  refine (hc S1 h1).mono ?_
  rintro e w2 ⟨hq, hn⟩
  refine ⟨hq, CNext.step ⟨S1, h1, h2, h3⟩ (fun S' h' => ?_)⟩
  obtain ⟨S2, h4, h5, h6⟩ := hn
  have hS : ∀ i, S' i ↔ S1 i := fun i => by
    obtain ⟨mb, gv, q1, q2⟩ := h1
    obtain ⟨mb', gv', r1, r2⟩ := h'
    have e0 := q1.blk.symm.trans r1.blk
    simp only [Option.some.injEq, Obj.cells.injEq, and_true] at e0
    have e1 := congrArg Array.toList e0
    simp only [concList] at e1
    have e2 := (List.append_inj e1 rfl).2
    simp at e2
    obtain ⟨rfl, rfl⟩ := e2
    exact (r2 i).trans (q2 i).symm
  exact ⟨S2, h4, fun i hi => (h5 i hi).imp (hS i).2 id, h6.mono (fun i _ => (hS i).2)⟩
end
end Go.Proofs.YtgaamehjdoakhaaDoor

/- The contracts of the concentrator's small inner calls: isNone, serves, echo. -/
namespace Go.Proofs.YtgaamehjdoakhaaDoor
open Go.RowKit

set_option maxRecDepth 100000 in
theorem isNone_nil (w : World) : Calls Tryd.prog 22 #[.pointer none] w fun e w' => e = .returned (.bool true) ∧ w' = w := by
  go_enter Tryd.func22, Tryd.ntmps22
  go_wp2
  go_ret
  exact ⟨rfl, rfl⟩

set_option maxRecDepth 100000 in
theorem isNone_some (b : Nat) (s : ByteArray) (w : World) (h : w.cell? ⟨b, 6, none⟩ = some (.string s)) : Calls Tryd.prog 22 #[.pointer (some ⟨b, 0, none⟩)] w fun e w' => e = .returned (.bool s.toList.isEmpty) ∧ w' = w := by
  go_enter Tryd.func22, Tryd.ntmps22
  go_wp2
  go_ret
  exact ⟨rfl, rfl⟩

set_option maxRecDepth 100000 in
theorem index_none (s : ByteArray) (w : World) : Calls Tryd.prog 79 #[.slice none 0 0, .string s] w fun e w' => e = .returned (.int .i64 (-1)) ∧ w' = w := by
  go_enter Tryd.func79, Tryd.ntmps79
  go_wp2
  refine wp_loop_rounds 1 ?_
  rw [rounds_succ]
  go_wp2
  go_ret
  exact ⟨rfl, rfl⟩
set_option maxRecDepth 100000 in
theorem contains_none (s : ByteArray) (w : World) : Calls Tryd.prog 61 #[.slice none 0 0, .string s] w fun e w' => e = .returned (.bool false) ∧ w' = w := by
  go_enter Tryd.func61, Tryd.ntmps61
  go_wp2_with (go_at_call 79; refine (index_none _ _).mono ?_; rintro e w' ⟨rfl, rfl⟩)
  go_ret
  exact ⟨rfl, rfl⟩
set_option maxRecDepth 100000 in
theorem serves_any (b : Nat) (s : ByteArray) (w : World) (h : w.cell? ⟨b, 7, none⟩ = some (.slice none 0 0)) : Calls Tryd.prog 48 #[.pointer (some ⟨b, 0, none⟩), .string s] w fun e w' => e = .returned (.bool (servesF s)) ∧ w' = w := by
  unfold servesF
  by_cases hs : s.toList = []
  · go_enter Tryd.func48, Tryd.ntmps48
    go_wp2
    go_ret
    exact ⟨by rw [hs]; rfl, rfl⟩
  · go_enter Tryd.func48, Tryd.ntmps48
    go_wp2_with (go_at_call 61; refine (contains_none _ _).mono ?_; rintro e w' ⟨rfl, rfl⟩)
    go_ret
    exact ⟨rfl, rfl⟩

theorem own_one (w : World) (base : Nat) (hb : base ≤ w.heap.size) (t : Int) (v : ByteArray) : OwnT (w.alloc (.cells #[.int .i64 t, .string v] 53)) base (.slice (some ⟨w.heap.size, 0, none⟩) 1 1) [⟨t, v⟩] :=
  ⟨rfl, Or.inr ⟨w.heap.size, 1, #[.int .i64 t, .string v], rfl, hb, heap_alloc_new w _, Nat.le_refl _, by unfold maxLen; omega, rfl, rfl⟩⟩

set_option maxRecDepth 100000 in
theorem echo_any (v : Value) (l : List Tg) (w : World) (hv : TagsAt w v l) (hl : l.length ≤ 1000000) (hsz : ∀ x ∈ l, x.value.size ≤ 140737488351232) :
    Calls Tryd.prog 49 #[v] w fun e w' => ∃ u, e = .returned u ∧ OwnT w' w.heap.size u (echoF l) ∧ Kept (fun _ => False) w w' := by
  have HF := hid (find_any v l 259 w hv hl hsz)
  unfold echoF
  generalize hq : (findF l 259).1 = S at *
  generalize hn : (findF l 259).2 = n at *
  clear hv hl hsz hq hn
  by_cases h0 : n = 0
  · rw [if_pos h0]
    subst h0
    go_enter Tryd.func49, Tryd.ntmps49
    go_wp2_with fail
    refine HF.out.mono ?_
    rintro e w1 ⟨rfl, hk1⟩
    go_wp2
    go_ret
    exact ⟨_, rfl, OwnT.nil _ _, hk1⟩
  · rw [if_neg h0]
    have hnz : ((n : Int) == 0) = false := by rw [beq_eq_false_iff_ne]; omega
    go_enter Tryd.func49, Tryd.ntmps49
    go_wp2_with fail
    refine HF.out.mono ?_
    rintro e w1 ⟨rfl, hk1⟩
    go_wp2
    go_ret
    exact ⟨_, rfl, own_one w1 w.heap.size hk1.size 259 S, hk1.alloc _⟩
end Go.Proofs.YtgaamehjdoakhaaDoor

/- ether.Disc, as a concentrator sends. -/
namespace Go.Proofs.YtgaamehjdoakhaaDoor
open Go.RowKit

theorem send_any {S : Nat → Prop} (b : Nat) (c : Cs) (hg : Good c) (to : List UInt8) (hto : to.length = 6) (code session : Int) (v : Value) (l : List Tg) (w : World) (hv : TagsAt w v l) (hsz : ∀ x ∈ l, x.value.size ≤ 140737488351232) (_hC : CAt S w b c) :
    Calls Tryd.prog 28 #[.agg (Lib.byteCells to).toArray, .agg (Lib.byteCells c.mac).toArray, .int .i64 code, .int .i64 session, v] w
      fun e w' => ∃ u, e = .returned u ∧ OwnE w' w.heap.size u (sendF c to code session l) ∧ Kept (fun _ => False) w w' := disc_any to c.mac hto hg.mac code session v l w hv hsz
end Go.Proofs.YtgaamehjdoakhaaDoor

/- Go's comparison of two cards, and of two ids: they are the same, or not. -/
namespace Go.Proofs.YtgaamehjdoakhaaDoor
open Go.RowKit

theorem mac_lits2 (d : Nat) (l : List UInt8) (h : l.length = 6) : Tryd.prog.keyLits (d + 2) 23 (Lib.byteCells l) = some (l.map fun b => Lit.int .u8 (b.toNat : Int)) := by
  obtain ⟨a, b, c, e, f, g, rfl⟩ := six_bytes h
  have hr : List.range 6 = [0, 1, 2, 3, 4, 5] := rfl
  unfold Program.keyLits
  rw [Tryd.underlying23]
  simp [cellsMac, cells5, Lib.byteCells, hr, byte_lits]
theorem lits_inj {a b : List UInt8} (h : (a.map fun b => Lit.int .u8 (b.toNat : Int)) = (b.map fun b => Lit.int .u8 (b.toNat : Int))) : a = b := by
  induction a generalizing b with
  | nil => cases b with
    | nil => rfl
    | cons y b => simp at h
  | cons x a ih => cases b with
    | nil => simp at h
    | cons y b =>
      simp only [List.map_cons, List.cons.injEq, Lit.int.injEq] at h
      obtain ⟨⟨_, h1⟩, h2⟩ := h
      have h3 : x.toNat = y.toNat := by omega
      rw [UInt8.toNat_inj.1 h3, ih h2]
theorem mac_eq (a b : List UInt8) (ha : a.length = 6) (hb : b.length = 6) (W : World) :
    Sem.run Tryd.prog (Op.equalIn 10000 23 (.agg (Lib.byteCells a).toArray) (.agg (Lib.byteCells b).toArray)) W = .ok (decide (a = b)) W := by
  have hk : Tryd.prog.keyTypeAt 2 23 = true := by kernel_rfl
  have hf : ∀ l : List UInt8, l.length = 6 → (Value.agg (Lib.byteCells l).toArray).formed Tryd.prog 23 = true := fun l hl => by simp [Value.formed, Tryd.underlying23, cellsMac, Lib.byteCells_length, hl]
  obtain ⟨r, hr, hiff⟩ := run_equalIn_deep (P := Tryd.prog) 9998 2 23 hk W 2 2 (.agg (Lib.byteCells a).toArray) (.agg (Lib.byteCells b).toArray) _ _ (hf a ha) (hf b hb) (mac_lits2 0 a ha) (mac_lits2 0 b hb)
  have hr' : (Op.equalIn 10000 23 (.agg (Lib.byteCells a).toArray) (.agg (Lib.byteCells b).toArray)).run Tryd.prog W = .ok r W := hr
  have hd : decide (a = b) = r := by
    cases r with
    | true => exact decide_eq_true (lits_inj (hiff.1 rfl))
    | false =>
      refine decide_eq_false (fun e => ?_)
      have := hiff.2 (by rw [e])
      cases this
  rw [hd]
  exact hr'
theorem id_lits2 (d : Nat) (m : List UInt8) (hm : m.length = 6) {n : Int} (hn : In64 n) : Tryd.prog.keyLits (d + 3) 27 (idCells m n) = some ((m.map fun b => Lit.int .u8 (b.toNat : Int)) ++ [.int .i64 n]) := by
  have h1 := mac_lits2 d m hm
  have h3 : Tryd.prog.keyLits (d + 2) 3 [.int .i64 n] = some [.int .i64 n] := by
    unfold Program.keyLits
    rw [Tryd.underlying3]
    simp [wf64 hn]
  have e1 : (idCells m n).take 6 = Lib.byteCells m := by
    unfold idCells
    rw [List.take_append_of_le_length (by rw [Lib.byteCells_length]; omega)]
    exact List.take_of_length_le (by rw [Lib.byteCells_length]; omega)
  have e2 : (idCells m n).drop 6 = [.int .i64 n] := by
    have h := List.drop_left (l₁ := Lib.byteCells m) (l₂ := [.int .i64 n])
    rw [Lib.byteCells_length, hm] at h
    exact h
  unfold Program.keyLits
  rw [Tryd.underlying27]
  simp [cellsId, idCells_length hm, cellsMac, cells3, e1, e2, h1, h3]
theorem id_eq (a b : List UInt8) (ha : a.length = 6) (hb : b.length = 6) (m n : Int) (hm : In64 m) (hn : In64 n) (W : World) :
    Sem.run Tryd.prog (Op.equalIn 10000 27 (idV a m) (idV b n)) W = .ok (decide (a = b ∧ m = n)) W := by
  have hk : Tryd.prog.keyTypeAt 3 27 = true := by kernel_rfl
  have hf : ∀ (l : List UInt8) (n : Int), l.length = 6 → (idV l n).formed Tryd.prog 27 = true := fun l n hl => by simp [idV, Value.formed, Tryd.underlying27, cellsId, idCells_length hl]
  obtain ⟨r, hr, hiff⟩ := run_equalIn_deep (P := Tryd.prog) 9997 3 27 hk W 3 3 (idV a m) (idV b n) _ _ (hf a m ha) (hf b n hb) (id_lits2 0 a ha hm) (id_lits2 0 b hb hn)
  have hr' : (Op.equalIn 10000 27 (idV a m) (idV b n)).run Tryd.prog W = .ok r W := hr
  have hd : decide (a = b ∧ m = n) = r := by
    cases r with
    | true =>
      have h3 := List.append_inj' (hiff.1 rfl) rfl
      exact decide_eq_true ⟨lits_inj h3.1, by simpa using h3.2⟩
    | false =>
      refine decide_eq_false (fun e => ?_)
      have := hiff.2 (by rw [e.1, e.2])
      cases this
  rw [hd]
  exact hr'

/-! A range over the sessions. -/
section
variable {P : Program} (w : World) {ops : Array Oper} {rest : List Oper} {o : Oper} {a : Act} {Q : Exit → Act → World → Prop}

theorem wpList_range_assoc (hg : o.guard = none) (m : Operand) (t : TypeId) (hop : o.op = Op.range t m) (k e : TypeId) (ht : P.underlying t = some (.map k e)) (b : Nat) (L : List (Value × Value)) (hm : a.eval m = .map (some b)) (h : Assoc w P k b L) (r : Nat) (hr : w.heap.size = r)
    (hK : ∀ w', Ranging w' P k b r L L → w.grownBy w' none → w'.heap.size = r + 1 → wpList P ops Q rest (a.put o.dst (.pointer (some ⟨r, 0, none⟩))) w') : wpList P ops Q (o :: rest) a w := by
  subst hr
  refine wpList_plain hg fun K' hK' => ?_
  obtain ⟨w', hrun, r1, r2, r3⟩ := h.range ht
  unfold Oper.wp
  simp [execOp, hop, hm, hrun, Result.andThen]
  exact hK' _ _ (hK w' r1 r2 r3)

theorem wpList_next_ranging (hg : o.guard = none) (it : Operand) (hop : o.op = Op.next it false) (k : TypeId) (b r : Nat) (ts Ns : List Sn) (hids : ∀ x ∈ Ns, x.mac.length = 6) (hit : a.eval it = .pointer (some ⟨r, 0, none⟩)) (h : Ranging w P k b r (ts.map snV) (Ns.map snV))
    (hDone : Ns = [] → wpList P ops Q rest (a.put o.dst (.tuple #[.bool false])) w)
    (hMore : ∀ (x : Sn) (Ms : List Sn) (w' : World) (x0 x1 x2 x3 x4 x5 : Int), Lib.byteCells x.mac = [.int .u8 x0, .int .u8 x1, .int .u8 x2, .int .u8 x3, .int .u8 x4, .int .u8 x5] → Ns.Perm (x :: Ms) → Ranging w' P k b r (ts.map snV) (Ms.map snV) → w.grownBy w' (some r) → w'.heap.size = w.heap.size →
      (Instr.entry (.pointer (some ⟨r, 0, none⟩))).run P w' = .ok (.tuple #[.agg #[.int .u8 x0, .int .u8 x1, .int .u8 x2, .int .u8 x3, .int .u8 x4, .int .u8 x5, .int .i64 (x.num : Int)], .agg #[.string x.uniq, .bool x.used]]) w' →
      wpList P ops Q rest (a.put o.dst (.tuple #[.bool true, .agg #[.int .u8 x0, .int .u8 x1, .int .u8 x2, .int .u8 x3, .int .u8 x4, .int .u8 x5, .int .i64 (x.num : Int)], .agg #[.string x.uniq, .bool x.used]])) w') : wpList P ops Q (o :: rest) a w := by
  refine wpList_plain hg fun K' hK' => ?_
  unfold Oper.wp
  rcases h.next o.type with ⟨h0, hrun⟩ | ⟨key, v, M, w', hp, hrun, hrg, hgr, hsz, hen⟩
  · simp [execOp, hop, hit, hrun, Result.andThen]
    exact hK' _ _ (hDone (by simpa using h0))
  · have hmem : (key, v) ∈ Ns.map snV := hp.mem_iff.2 (List.mem_cons_self ..)
    obtain ⟨t, ht, et⟩ := List.mem_map.1 hmem
    obtain ⟨rfl, rfl⟩ := Prod.mk.inj et
    obtain ⟨x0, x1, x2, x3, x4, x5, hx⟩ := six_cells (hids t ht)
    obtain ⟨s1, s2, rfl⟩ := List.append_of_mem ht
    have hq : (s1 ++ t :: s2).Perm (t :: (s1 ++ s2)) := List.perm_middle
    have hM : M.Perm ((s1 ++ s2).map snV) := by
      have h5 := hp.symm.trans (hq.map snV)
      rw [List.map_cons] at h5
      exact h5.cons_inv
    have hrg' : Ranging w' P k b r (ts.map snV) ((s1 ++ s2).map snV) := by
      obtain ⟨es, clock, since, seen, c0, q1, q2, q3, q4, q5, q6, q7, q8, q9⟩ := hrg
      exact ⟨es, clock, since, seen, c0, q1, q2, q3, q4, q5, q6, q7, q8.trans hM, q9⟩
    have hiv : idV t.mac (t.num : Int) = .agg #[.int .u8 x0, .int .u8 x1, .int .u8 x2, .int .u8 x3, .int .u8 x4, .int .u8 x5, .int .i64 (t.num : Int)] := by unfold idV idCells; rw [hx]; rfl
    rw [hiv] at hrun hen
    unfold leaseV at hrun hen
    simp [execOp, hop, hit, hrun, Result.andThen]
    exact hK' _ _ (hMore t (s1 ++ s2) w' x0 x1 x2 x3 x4 x5 hx hq hrg' hgr hsz hen)

theorem Ranging.left_eq {w : World} {k : TypeId} {b r : Nat} {L N : List (Value × Value)} (h : Ranging w P k b r L N) : w.rangeLeft b r = N.length := by
  obtain ⟨es, clock, since, seen, c0, hb, _, _, _, _, hr, _, hN, _⟩ := h
  simp only [World.rangeLeft, hb, hr]
  rw [← hN.length_eq]
  simp
end
end Go.Proofs.YtgaamehjdoakhaaDoor

/- The contracts of the concentrator's inner hasRoom and unused. -/
namespace Go.Proofs.YtgaamehjdoakhaaDoor
open Go.RowKit

def IsW (u W : World) : Prop := W = u

theorem Box6.grown {W W' : World} {b r : Nat} {x0 x1 x2 x3 x4 x5 : Value} (h : Box6 W b x0 x1 x2 x3 x4 x5) (hg : W.grownBy W' (some r)) (hne : b ≠ r) : Box6 W' b x0 x1 x2 x3 x4 x5 := by
  have hb : W'.heap[b]? = W.heap[b]? := hg.block b (lt_of_cell h.c0) (fun e => hne (Option.some.inj e))
  exact ⟨(World.cell?_of_block (a := ⟨b, 0, none⟩) hb).trans h.c0, (World.cell?_of_block (a := ⟨b, 1, none⟩) hb).trans h.c1, (World.cell?_of_block (a := ⟨b, 2, none⟩) hb).trans h.c2, (World.cell?_of_block (a := ⟨b, 3, none⟩) hb).trans h.c3, (World.cell?_of_block (a := ⟨b, 4, none⟩) hb).trans h.c4, (World.cell?_of_block (a := ⟨b, 5, none⟩) hb).trans h.c5⟩
theorem Box6.alloc {W : World} {b : Nat} {x0 x1 x2 x3 x4 x5 : Value} (h : Box6 W b x0 x1 x2 x3 x4 x5) (o : Obj) : Box6 (W.alloc o) b x0 x1 x2 x3 x4 x5 := h.kept ((Kept.refl _ W).alloc o)

/-- A range over the sessions under way: n counted so far. -/
def Cnt (w wr : World) (mb r : Nat) (ss Ns : List Sn) (m : List UInt8) (n : Nat) : Prop :=
  Ranging wr Tryd.prog 27 mb r (ss.map snV) (Ns.map snV) ∧ n + (Ns.filter (isOfMac m)).length = (ss.filter (isOfMac m)).length ∧ (∀ x ∈ Ns, x.mac.length = 6) ∧ Kept (fun _ => False) w wr ∧ r < wr.heap.size

set_option maxHeartbeats 2000000 in
set_option maxRecDepth 100000 in
theorem hasRoom_any (b mb : Nat) (gv : Value) (c : Cs) (hg : Good c) (m : List UInt8) (hm : m.length = 6) (w : World) (hC : ConcIn w b mb gv c) :
    Calls Tryd.prog 63 #[.pointer (some ⟨b, 0, none⟩), .agg (Lib.byteCells m).toArray] w
      fun e w' => e = .returned (.bool (roomF c m)) ∧ Kept (fun _ => False) w w' := by
  obtain ⟨y0, y1, y2, y3, y4, y5, hy⟩ := six_cells hm
  obtain ⟨x0, x1, x2, x3, x4, x5, hx⟩ := six_cells hg.mac
  have HE := hid (fun (x : Sn) (h : x.mac.length = 6) W => mac_eq x.mac m h hm W)
  rw [hy] at HE ⊢
  have HC := hid (fun W (hk : Kept (fun _ => False) w W) => (hC.kept0 hk).cells hx)
  have HL := hid (fun W (hk : Kept (fun _ => False) w W) ty => (hC.kept0 hk).ses.len ty)
  have hlen : c.sess.length ≤ 60 := by have := hg.len; have := hg.most; omega
  have hids : ∀ x ∈ c.sess, x.mac.length = 6 := fun x hx => (hg.ids x hx).1
  have hown : Assoc (w.alloc (.cells #[.int .u8 y0, .int .u8 y1, .int .u8 y2, .int .u8 y3, .int .u8 y4, .int .u8 y5] 23)) Tryd.prog 27 mb (c.sess.map snV) := (hC.alloc _).ses
  have K0 := hid ((Kept.refl (fun _ => False) w).alloc (.cells #[.int .u8 y0, .int .u8 y1, .int .u8 y2, .int .u8 y3, .int .u8 y4, .int .u8 y5] 23))
  have B0 := hid (box6_new w 23 (.int .u8 y0) (.int .u8 y1) (.int .u8 y2) (.int .u8 y3) (.int .u8 y4) (.int .u8 y5))
  obtain ⟨_, _, _, _, _, _, _, _, _, c9, c10, _, _, _⟩ := HC.out _ K0.out
  have hblt : b < w.heap.size := hC.lt (Or.inl rfl)
  have hmlt : mb < w.heap.size := hC.lt (Or.inr (Or.inl rfl))
  have hfl : (c.sess.filter (isOfMac m)).length ≤ 60 := Nat.le_trans (List.length_filter_le _ _) hlen
  have hroom : roomF c m = (decide ((c.sess.length : Int) < c.most) && decide (((c.sess.filter (isOfMac m)).length : Int) < 2)) := by
    unfold roomF eachF
    congr 1
    rw [decide_eq_decide]
    omega
  have HR := hid hroom
  clear hC hg hm hy hroom
  go_enter Tryd.func63, Tryd.ntmps63
  go_wp2_with (first | (at_range; refine wpList_range_assoc _ rfl _ 31 rfl 27 82 Tryd.underlying31 mb _ rfl hown (w.heap.size + 1) (by simp) ?_; intro w0 hrg0 hg0 hs0) | go_in)
  have hk0 : Kept (fun _ => False) w w0 := K0.out.grown hg0 (fun j hj => by cases hj)
  have B1 := hid (B0.out.kept ((Kept.refl _ _).grown hg0 (fun j hj => by cases hj)))
  have hst : Cnt w w0 mb (w.heap.size + 1) c.sess c.sess m 0 ∧ Box6 w0 w.heap.size (.int .u8 y0) (.int .u8 y1) (.int .u8 y2) (.int .u8 y3) (.int .u8 y4) (.int .u8 y5) := ⟨⟨hrg0, by simp, hids, hk0, hrg0.lt⟩, B1.out⟩
  clear hrg0 hg0 hs0 hown c9 c10 B0 B1 hk0 K0
  go_frame
  go_loopw [5, 6] (fun v _ wr => ∃ (n : Nat) (Ns : List Sn), v = .int .i64 (n : Int) ∧ Cnt w wr mb (w.heap.size + 1) c.sess Ns m n ∧ Box6 wr w.heap.size (.int .u8 y0) (.int .u8 y1) (.int .u8 y2) (.int .u8 y3) (.int .u8 y4) (.int .u8 y5)) (fun _ _ wr => wr.rangeLeft mb (w.heap.size + 1))
  case atStart => exact ⟨0, _, rfl, hst⟩
  case round =>
    obtain ⟨n, Ns, rfl, ⟨hrg, hn, hNi, hk, hrl⟩, hB⟩ := hrel
    have hn60 : n ≤ 60 := by omega
    go_wp2_with (first | (at_next; refine wpList_next_ranging _ rfl _ rfl 27 mb (w.heap.size + 1) c.sess Ns hNi rfl hrg ?_ ?_) | go_in)
    · intro hN
      subst hN
      simp only [List.filter_nil, List.length_nil, Nat.add_zero] at hn
      rw [← hn] at HR
      have q9 : ∀ W, IsW wr.drew W → W.cell? ⟨b, 9, none⟩ = some (.int .i64 c.most) := fun W h => by rw [show W = wr.drew from h]; exact (HC.out wr hk).c9
      have q10 : ∀ W, IsW wr.drew W → W.cell? ⟨b, 10, none⟩ = some (.map (some mb)) := fun W h => by rw [show W = wr.drew from h]; exact (HC.out wr hk).c10
      have ql : ∀ W, IsW wr.drew W → ∀ ty, Sem.run Tryd.prog (Builtin.len_ #[31] ty #[.map (some mb)]) W = .ok (.int .i64 (c.sess.length : Nat)) W := fun W h ty => by rw [show W = wr.drew from h]; exact HL.out wr.drew hk.drew ty
      have hk' := hid hk.drew
      generalize c.sess.length = q at *
      generalize c.most = ms at *
      clear hrg hn hNi hB hst hids HE HC HL
      by_cases hq : (q : Int) < ms
      · have hd : decide ((q : Int) < ms) = true := decide_eq_true hq
        go_wp2
        refine wp_region_held_drew (S := IsW wr.drew) (by kernel_rfl) (rfl) (fun hSd => ?_)
        refine wpAnyH_take (i := 0) (v := ?_) rfl (by kernel_rfl) (by kernel_rfl) (by kernel_rfl) (fun _ _ _ h => h) (Or.inl ⟨by kernel_rfl, fun W hSW => by go_simp; try with_reducible rfl⟩) (by assumption) ?_
        try simp only [List.getElem_toArray]
        try simp only [List.getElem_cons_succ]
        try simp only [List.getElem_cons_zero]
        try simp only [Act.put]
        try simp only [List.setIfInBounds_toArray]
        try simp only [List.set_cons_succ]
        try simp only [List.set_cons_zero]
        refine wpAnyH_take (i := 1) (v := ?_) rfl (by kernel_rfl) (by kernel_rfl) (by kernel_rfl) (fun _ _ _ h => h) (Or.inl ⟨by kernel_rfl, fun W hSW => by go_simp; try with_reducible rfl⟩) (by assumption) ?_
        try simp only [List.getElem_toArray]
        try simp only [List.getElem_cons_succ]
        try simp only [List.getElem_cons_zero]
        try simp only [Act.put]
        try simp only [List.setIfInBounds_toArray]
        try simp only [List.set_cons_succ]
        try simp only [List.set_cons_zero]
        refine wpAnyH_take (i := 2) (v := ?_) rfl (by kernel_rfl) (by kernel_rfl) (by kernel_rfl) (fun _ _ _ h => h) (Or.inl ⟨by kernel_rfl, fun W hSW => by go_simp; try with_reducible rfl⟩) (by assumption) ?_
        try simp only [List.getElem_toArray]
        try simp only [List.getElem_cons_succ]
        try simp only [List.getElem_cons_zero]
        try simp only [Act.put]
        try simp only [List.setIfInBounds_toArray]
        try simp only [List.set_cons_succ]
        try simp only [List.set_cons_zero]
        refine wpAnyH_take (i := 3) (v := ?_) rfl (by kernel_rfl) (by kernel_rfl) (by kernel_rfl) (fun _ _ _ h => h) (Or.inl ⟨by kernel_rfl, fun W hSW => by go_simp; try with_reducible rfl⟩) (by assumption) ?_
        try simp only [List.getElem_toArray]
        try simp only [List.getElem_cons_succ]
        try simp only [List.getElem_cons_zero]
        try simp only [Act.put]
        try simp only [List.setIfInBounds_toArray]
        try simp only [List.set_cons_succ]
        try simp only [List.set_cons_zero]
        refine wpAnyH_take (i := 4) (v := ?_) rfl (by kernel_rfl) (by kernel_rfl) (by kernel_rfl) (fun _ _ _ h => h) (Or.inl ⟨by kernel_rfl, fun W hSW => by go_simp; try with_reducible rfl⟩) (by assumption) ?_
        try simp only [List.getElem_toArray]
        try simp only [List.getElem_cons_succ]
        try simp only [List.getElem_cons_zero]
        try simp only [Act.put]
        try simp only [List.setIfInBounds_toArray]
        try simp only [List.set_cons_succ]
        try simp only [List.set_cons_zero]
        refine wpAnyH_take (i := 5) (v := ?_) rfl (by kernel_rfl) (by kernel_rfl) (by kernel_rfl) (fun _ _ _ h => h) (Or.inl ⟨by kernel_rfl, fun W hSW => by go_simp; try with_reducible rfl⟩) (by assumption) ?_
        try simp only [List.getElem_toArray]
        try simp only [List.getElem_cons_succ]
        try simp only [List.getElem_cons_zero]
        try simp only [Act.put]
        try simp only [List.setIfInBounds_toArray]
        try simp only [List.set_cons_succ]
        try simp only [List.set_cons_zero]
        refine wpAnyH_take (i := 6) (v := ?_) rfl (by kernel_rfl) (by kernel_rfl) (by kernel_rfl) (fun _ _ _ h => h) (Or.inl ⟨by kernel_rfl, fun W hSW => by go_simp; try with_reducible rfl⟩) (by assumption) ?_
        try simp only [List.getElem_toArray]
        try simp only [List.getElem_cons_succ]
        try simp only [List.getElem_cons_zero]
        try simp only [Act.put]
        try simp only [List.setIfInBounds_toArray]
        try simp only [List.set_cons_succ]
        try simp only [List.set_cons_zero]
        refine wpAnyH_take (i := 7) (v := ?_) rfl (by kernel_rfl) (by kernel_rfl) (by kernel_rfl) (fun _ _ _ h => h) (Or.inl ⟨by kernel_rfl, fun W hSW => by go_simp; try with_reducible rfl⟩) (by assumption) ?_
        try simp only [List.getElem_toArray]
        try simp only [List.getElem_cons_succ]
        try simp only [List.getElem_cons_zero]
        try simp only [Act.put]
        try simp only [List.setIfInBounds_toArray]
        try simp only [List.set_cons_succ]
        try simp only [List.set_cons_zero]
        refine wpAnyH_take (i := 8) (v := ?_) rfl (by kernel_rfl) (by kernel_rfl) (by kernel_rfl) (fun _ _ _ h => h) (Or.inl ⟨by kernel_rfl, fun W hSW => by go_simp; try with_reducible rfl⟩) (by assumption) ?_
        try simp only [List.getElem_toArray]
        try simp only [List.getElem_cons_succ]
        try simp only [List.getElem_cons_zero]
        try simp only [Act.put]
        try simp only [List.setIfInBounds_toArray]
        try simp only [List.set_cons_succ]
        try simp only [List.set_cons_zero]
        refine wpAnyH_take (i := 9) (v := ?_) rfl (by kernel_rfl) (by kernel_rfl) (by kernel_rfl) (fun _ _ _ h => h) (Or.inl ⟨by kernel_rfl, fun W hSW => by go_simp; try with_reducible rfl⟩) (by assumption) ?_
        try simp only [List.getElem_toArray]
        try simp only [List.getElem_cons_succ]
        try simp only [List.getElem_cons_zero]
        try simp only [Act.put]
        try simp only [List.setIfInBounds_toArray]
        try simp only [List.set_cons_succ]
        try simp only [List.set_cons_zero]
        refine wpAnyH_take (i := 10) (v := ?_) rfl (by kernel_rfl) (by kernel_rfl) (by kernel_rfl) (fun _ _ _ h => h) (Or.inl ⟨by kernel_rfl, fun W hSW => by go_simp; try with_reducible rfl⟩) (by assumption) ?_
        try simp only [List.getElem_toArray]
        try simp only [List.getElem_cons_succ]
        try simp only [List.getElem_cons_zero]
        try simp only [Act.put]
        try simp only [List.setIfInBounds_toArray]
        try simp only [List.set_cons_succ]
        try simp only [List.set_cons_zero]
        refine wpAnyH_take (i := 11) (v := ?_) rfl (by kernel_rfl) (by kernel_rfl) (by kernel_rfl) (fun _ _ _ h => h) (Or.inl ⟨by kernel_rfl, fun W hSW => by go_simp; try with_reducible rfl⟩) (by assumption) ?_
        try simp only [List.getElem_toArray]
        try simp only [List.getElem_cons_succ]
        try simp only [List.getElem_cons_zero]
        try simp only [Act.put]
        try simp only [List.setIfInBounds_toArray]
        try simp only [List.set_cons_succ]
        try simp only [List.set_cons_zero]
        refine wpAnyH_take (i := 12) (v := ?_) rfl (by kernel_rfl) (by kernel_rfl) (by kernel_rfl) (fun _ _ _ h => h) (Or.inl ⟨by kernel_rfl, fun W hSW => by go_simp; try with_reducible rfl⟩) (by assumption) ?_
        try simp only [List.getElem_toArray]
        try simp only [List.getElem_cons_succ]
        try simp only [List.getElem_cons_zero]
        try simp only [Act.put]
        try simp only [List.setIfInBounds_toArray]
        try simp only [List.set_cons_succ]
        try simp only [List.set_cons_zero]
        refine wpAnyH_take (i := 13) (v := ?_) rfl (by kernel_rfl) (by kernel_rfl) (by kernel_rfl) (fun _ _ _ h => h) (Or.inl ⟨by kernel_rfl, fun W hSW => by go_simp; try with_reducible rfl⟩) (by assumption) ?_
        try simp only [List.getElem_toArray]
        try simp only [List.getElem_cons_succ]
        try simp only [List.getElem_cons_zero]
        try simp only [Act.put]
        try simp only [List.setIfInBounds_toArray]
        try simp only [List.set_cons_succ]
        try simp only [List.set_cons_zero]
        refine wpAnyH_take (i := 14) (v := ?_) rfl (by kernel_rfl) (by kernel_rfl) (by kernel_rfl) (fun _ _ _ h => h) (Or.inl ⟨by kernel_rfl, fun W hSW => by go_simp; try with_reducible rfl⟩) (by assumption) ?_
        try simp only [List.getElem_toArray]
        try simp only [List.getElem_cons_succ]
        try simp only [List.getElem_cons_zero]
        try simp only [Act.put]
        try simp only [List.setIfInBounds_toArray]
        try simp only [List.set_cons_succ]
        try simp only [List.set_cons_zero]
        refine wpAnyH_done (by kernel_rfl) ?_ _
        go_wp2
        go_ret
        exact ⟨by rw [HR.out]; simp [hq], hk'.out⟩
      · have hd : decide ((q : Int) < ms) = false := decide_eq_false hq
        go_wp2
        refine wp_region_held_drew (S := IsW wr.drew) (by kernel_rfl) (rfl) (fun hSd => ?_)
        refine wpAnyH_take (i := 0) (v := ?_) rfl (by kernel_rfl) (by kernel_rfl) (by kernel_rfl) (fun _ _ _ h => h) (Or.inl ⟨by kernel_rfl, fun W hSW => by go_simp; try with_reducible rfl⟩) (by assumption) ?_
        try simp only [List.getElem_toArray]
        try simp only [List.getElem_cons_succ]
        try simp only [List.getElem_cons_zero]
        try simp only [Act.put]
        try simp only [List.setIfInBounds_toArray]
        try simp only [List.set_cons_succ]
        try simp only [List.set_cons_zero]
        refine wpAnyH_take (i := 1) (v := ?_) rfl (by kernel_rfl) (by kernel_rfl) (by kernel_rfl) (fun _ _ _ h => h) (Or.inl ⟨by kernel_rfl, fun W hSW => by go_simp; try with_reducible rfl⟩) (by assumption) ?_
        try simp only [List.getElem_toArray]
        try simp only [List.getElem_cons_succ]
        try simp only [List.getElem_cons_zero]
        try simp only [Act.put]
        try simp only [List.setIfInBounds_toArray]
        try simp only [List.set_cons_succ]
        try simp only [List.set_cons_zero]
        refine wpAnyH_take (i := 2) (v := ?_) rfl (by kernel_rfl) (by kernel_rfl) (by kernel_rfl) (fun _ _ _ h => h) (Or.inl ⟨by kernel_rfl, fun W hSW => by go_simp; try with_reducible rfl⟩) (by assumption) ?_
        try simp only [List.getElem_toArray]
        try simp only [List.getElem_cons_succ]
        try simp only [List.getElem_cons_zero]
        try simp only [Act.put]
        try simp only [List.setIfInBounds_toArray]
        try simp only [List.set_cons_succ]
        try simp only [List.set_cons_zero]
        refine wpAnyH_take (i := 3) (v := ?_) rfl (by kernel_rfl) (by kernel_rfl) (by kernel_rfl) (fun _ _ _ h => h) (Or.inl ⟨by kernel_rfl, fun W hSW => by go_simp; try with_reducible rfl⟩) (by assumption) ?_
        try simp only [List.getElem_toArray]
        try simp only [List.getElem_cons_succ]
        try simp only [List.getElem_cons_zero]
        try simp only [Act.put]
        try simp only [List.setIfInBounds_toArray]
        try simp only [List.set_cons_succ]
        try simp only [List.set_cons_zero]
        refine wpAnyH_take (i := 4) (v := ?_) rfl (by kernel_rfl) (by kernel_rfl) (by kernel_rfl) (fun _ _ _ h => h) (Or.inl ⟨by kernel_rfl, fun W hSW => by go_simp; try with_reducible rfl⟩) (by assumption) ?_
        try simp only [List.getElem_toArray]
        try simp only [List.getElem_cons_succ]
        try simp only [List.getElem_cons_zero]
        try simp only [Act.put]
        try simp only [List.setIfInBounds_toArray]
        try simp only [List.set_cons_succ]
        try simp only [List.set_cons_zero]
        refine wpAnyH_take (i := 5) (v := ?_) rfl (by kernel_rfl) (by kernel_rfl) (by kernel_rfl) (fun _ _ _ h => h) (Or.inl ⟨by kernel_rfl, fun W hSW => by go_simp; try with_reducible rfl⟩) (by assumption) ?_
        try simp only [List.getElem_toArray]
        try simp only [List.getElem_cons_succ]
        try simp only [List.getElem_cons_zero]
        try simp only [Act.put]
        try simp only [List.setIfInBounds_toArray]
        try simp only [List.set_cons_succ]
        try simp only [List.set_cons_zero]
        refine wpAnyH_take (i := 6) (v := ?_) rfl (by kernel_rfl) (by kernel_rfl) (by kernel_rfl) (fun _ _ _ h => h) (Or.inl ⟨by kernel_rfl, fun W hSW => by go_simp; try with_reducible rfl⟩) (by assumption) ?_
        try simp only [List.getElem_toArray]
        try simp only [List.getElem_cons_succ]
        try simp only [List.getElem_cons_zero]
        try simp only [Act.put]
        try simp only [List.setIfInBounds_toArray]
        try simp only [List.set_cons_succ]
        try simp only [List.set_cons_zero]
        refine wpAnyH_take (i := 7) (v := ?_) rfl (by kernel_rfl) (by kernel_rfl) (by kernel_rfl) (fun _ _ _ h => h) (Or.inl ⟨by kernel_rfl, fun W hSW => by go_simp; try with_reducible rfl⟩) (by assumption) ?_
        try simp only [List.getElem_toArray]
        try simp only [List.getElem_cons_succ]
        try simp only [List.getElem_cons_zero]
        try simp only [Act.put]
        try simp only [List.setIfInBounds_toArray]
        try simp only [List.set_cons_succ]
        try simp only [List.set_cons_zero]
        refine wpAnyH_take (i := 8) (v := ?_) rfl (by kernel_rfl) (by kernel_rfl) (by kernel_rfl) (fun _ _ _ h => h) (Or.inl ⟨by kernel_rfl, fun W hSW => by go_simp; try with_reducible rfl⟩) (by assumption) ?_
        try simp only [List.getElem_toArray]
        try simp only [List.getElem_cons_succ]
        try simp only [List.getElem_cons_zero]
        try simp only [Act.put]
        try simp only [List.setIfInBounds_toArray]
        try simp only [List.set_cons_succ]
        try simp only [List.set_cons_zero]
        refine wpAnyH_take (i := 9) (v := ?_) rfl (by kernel_rfl) (by kernel_rfl) (by kernel_rfl) (fun _ _ _ h => h) (Or.inl ⟨by kernel_rfl, fun W hSW => by go_simp; try with_reducible rfl⟩) (by assumption) ?_
        try simp only [List.getElem_toArray]
        try simp only [List.getElem_cons_succ]
        try simp only [List.getElem_cons_zero]
        try simp only [Act.put]
        try simp only [List.setIfInBounds_toArray]
        try simp only [List.set_cons_succ]
        try simp only [List.set_cons_zero]
        refine wpAnyH_take (i := 10) (v := ?_) rfl (by kernel_rfl) (by kernel_rfl) (by kernel_rfl) (fun _ _ _ h => h) (Or.inl ⟨by kernel_rfl, fun W hSW => by go_simp; try with_reducible rfl⟩) (by assumption) ?_
        try simp only [List.getElem_toArray]
        try simp only [List.getElem_cons_succ]
        try simp only [List.getElem_cons_zero]
        try simp only [Act.put]
        try simp only [List.setIfInBounds_toArray]
        try simp only [List.set_cons_succ]
        try simp only [List.set_cons_zero]
        refine wpAnyH_take (i := 11) rfl (by kernel_rfl) (by kernel_rfl) (by kernel_rfl) (fun _ _ _ h => h) (Or.inr ⟨by kernel_rfl, rfl⟩) (by assumption) ?_
        try simp only [List.getElem_toArray]
        try simp only [List.getElem_cons_succ]
        try simp only [List.getElem_cons_zero]
        try simp only [Act.put]
        try simp only [List.setIfInBounds_toArray]
        try simp only [List.set_cons_succ]
        try simp only [List.set_cons_zero]
        refine wpAnyH_take (i := 12) rfl (by kernel_rfl) (by kernel_rfl) (by kernel_rfl) (fun _ _ _ h => h) (Or.inr ⟨by kernel_rfl, rfl⟩) (by assumption) ?_
        try simp only [List.getElem_toArray]
        try simp only [List.getElem_cons_succ]
        try simp only [List.getElem_cons_zero]
        try simp only [Act.put]
        try simp only [List.setIfInBounds_toArray]
        try simp only [List.set_cons_succ]
        try simp only [List.set_cons_zero]
        refine wpAnyH_take (i := 13) (v := ?_) rfl (by kernel_rfl) (by kernel_rfl) (by kernel_rfl) (fun _ _ _ h => h) (Or.inl ⟨by kernel_rfl, fun W hSW => by go_simp; try with_reducible rfl⟩) (by assumption) ?_
        try simp only [List.getElem_toArray]
        try simp only [List.getElem_cons_succ]
        try simp only [List.getElem_cons_zero]
        try simp only [Act.put]
        try simp only [List.setIfInBounds_toArray]
        try simp only [List.set_cons_succ]
        try simp only [List.set_cons_zero]
        refine wpAnyH_take (i := 14) (v := ?_) rfl (by kernel_rfl) (by kernel_rfl) (by kernel_rfl) (fun _ _ _ h => h) (Or.inl ⟨by kernel_rfl, fun W hSW => by go_simp; try with_reducible rfl⟩) (by assumption) ?_
        try simp only [List.getElem_toArray]
        try simp only [List.getElem_cons_succ]
        try simp only [List.getElem_cons_zero]
        try simp only [Act.put]
        try simp only [List.setIfInBounds_toArray]
        try simp only [List.set_cons_succ]
        try simp only [List.set_cons_zero]
        refine wpAnyH_done (by kernel_rfl) ?_ _
        go_wp2
        go_ret
        exact ⟨by rw [HR.out, hd]; rfl, hk'.out⟩
    · intro x Ms w2 a0 a1 a2 a3 a4 a5 ha hpN hrg2 hg2 hs2 hen
      have hk2 : Kept (fun _ => False) w w2 := hk.grown hg2 (fun j hj => by cases hj; exact Or.inl (by omega))
      have hB2 := hB.grown hg2 (by omega)
      have hxl : x.mac.length = 6 := hNi x (hpN.mem_iff.2 (List.mem_cons_self ..))
      have hMi : ∀ y ∈ Ms, y.mac.length = 6 := fun y hy => hNi y (hpN.mem_iff.2 (List.mem_cons_of_mem _ hy))
      have hE := HE.out x hxl
      rw [ha] at hE
      have d0 := fun o => (hB2.alloc o).c0
      have d1 := fun o => (hB2.alloc o).c1
      have d2 := fun o => (hB2.alloc o).c2
      have d3 := fun o => (hB2.alloc o).c3
      have d4 := fun o => (hB2.alloc o).c4
      have d5 := fun o => (hB2.alloc o).c5
      have hmeas : Ms.length < Ns.length := by rw [hpN.length_eq]; simp
      have HML : Hid (wr.rangeLeft mb (w.heap.size + 1) = (Ns.map snV).length) := hrg.left_eq
      have hcnt : (Ns.filter (isOfMac m)).length = ((x :: Ms).filter (isOfMac m)).length := (hpN.filter _).length_eq
      have hfin := hid (fun (o : Obj) (n' : Nat) (h : n' + (Ms.filter (isOfMac m)).length = (c.sess.filter (isOfMac m)).length) => show Cnt w (w2.alloc o) mb (w.heap.size + 1) c.sess Ms m n' ∧ Box6 (w2.alloc o) w.heap.size (.int .u8 y0) (.int .u8 y1) (.int .u8 y2) (.int .u8 y3) (.int .u8 y4) (.int .u8 y5) ∧ (w2.alloc o).rangeLeft mb (w.heap.size + 1) = (Ms.map snV).length from
        have hr := hrg2.kept (World.grownBy_alloc w2 o none) (by simp) (by simp)
        ⟨⟨hr, h, hMi, hk2.alloc o, by simp; omega⟩, hB2.alloc o, hr.left_eq⟩)
      clear hrg2 hg2 hB2 hk hB hrg hst hids hk2
      by_cases hxm : x.mac = m
      · have hq : decide (x.mac = m) = true := decide_eq_true hxm
        rw [hq] at hE
        rw [List.filter_cons, if_pos (by simp [isOfMac, hxm]), List.length_cons] at hcnt
        go_wp2
        obtain ⟨R1, R2, R3⟩ := hfin.out (.cells #[.int .u8 a0, .int .u8 a1, .int .u8 a2, .int .u8 a3, .int .u8 a4, .int .u8 a5, .int .i64 (x.num : Int)] 27) (n + 1) (by omega)
        go_roundw
        case rel => exact ⟨n + 1, Ms, by go_num, R1, R2⟩
        case measure => rw [R3, HML.out]; simpa using hmeas
      · have hq : decide (x.mac = m) = false := decide_eq_false hxm
        rw [hq] at hE
        rw [List.filter_cons, if_neg (by simp [isOfMac, hxm])] at hcnt
        go_wp2
        obtain ⟨R1, R2, R3⟩ := hfin.out (.cells #[.int .u8 a0, .int .u8 a1, .int .u8 a2, .int .u8 a3, .int .u8 a4, .int .u8 a5, .int .i64 (x.num : Int)] 27) n (by omega)
        go_roundw
        case rel => exact ⟨n, Ms, rfl, R1, R2⟩
        case measure => rw [R3, HML.out]; simpa using hmeas
end Go.Proofs.YtgaamehjdoakhaaDoor

/- The contract of the concentrator's inner unused. -/
namespace Go.Proofs.YtgaamehjdoakhaaDoor
open Go.RowKit

theorem isFor_eq (m : List UInt8) (u : ByteArray) (x : Sn) : isFor m u x = (decide (x.mac = m) && (x.uniq.toList == u.toList) && !x.used) := by
  unfold isFor sameB
  rw [ByteArray.toList_eq, ByteArray.toList_eq]

theorem unused_some {c : Cs} {m : List UInt8} {u : ByteArray} (h1 : ∀ x ∈ c.sess, ∀ y ∈ c.sess, isFor m u x = true → isFor m u y = true → x = y) {x : Sn} (hx : x ∈ c.sess) (hf : isFor m u x = true) : unusedF c m u = x.num := by
  unfold unusedF
  cases h : c.sess.find? (isFor m u) with
  | none =>
    rw [List.find?_eq_none] at h
    exact absurd hf (h x hx)
  | some y =>
    have hy := List.find?_some h
    rw [h1 x hx y (List.mem_of_find?_eq_some h) hf hy]
theorem unused_none {c : Cs} {m : List UInt8} {u : ByteArray} (h : ∀ x ∈ c.sess, isFor m u x = false) : unusedF c m u = 0 := by
  unfold unusedF
  rw [List.find?_eq_none.2 (fun x hx => by rw [h x hx]; simp)]

/-- A range over the sessions under way: none of those that are behind is the one that is looked for. -/
def Seek (w wr : World) (mb r : Nat) (ss Ns : List Sn) (m : List UInt8) (u : ByteArray) : Prop :=
  Ranging wr Tryd.prog 27 mb r (ss.map snV) (Ns.map snV) ∧ (∀ x ∈ ss, isFor m u x = true → x ∈ Ns) ∧ (∀ x ∈ Ns, x.mac.length = 6 ∧ x ∈ ss) ∧ Kept (fun _ => False) w wr ∧ r < wr.heap.size

set_option maxHeartbeats 2000000 in
set_option maxRecDepth 100000 in
theorem unused_any (b mb : Nat) (gv : Value) (c : Cs) (hg : Good c) (m : List UInt8) (hm : m.length = 6) (u : ByteArray) (w : World) (hC : ConcIn w b mb gv c) :
    Calls Tryd.prog 62 #[.pointer (some ⟨b, 0, none⟩), .agg (Lib.byteCells m).toArray, .string u] w
      fun e w' => e = .returned (.int .i64 (unusedF c m u : Int)) ∧ Kept (fun _ => False) w w' := by
  obtain ⟨y0, y1, y2, y3, y4, y5, hy⟩ := six_cells hm
  obtain ⟨x0, x1, x2, x3, x4, x5, hx⟩ := six_cells hg.mac
  have HE := hid (fun (x : Sn) (h : x.mac.length = 6) W => mac_eq x.mac m h hm W)
  rw [hy] at HE ⊢
  have hids : ∀ x ∈ c.sess, x.mac.length = 6 := fun x hx => (hg.ids x hx).1
  have hown : Assoc (w.alloc (.cells #[.int .u8 y0, .int .u8 y1, .int .u8 y2, .int .u8 y3, .int .u8 y4, .int .u8 y5] 23)) Tryd.prog 27 mb (c.sess.map snV) := (hC.alloc _).ses
  have K0 := hid ((Kept.refl (fun _ => False) w).alloc (.cells #[.int .u8 y0, .int .u8 y1, .int .u8 y2, .int .u8 y3, .int .u8 y4, .int .u8 y5] 23))
  have B0 := hid (box6_new w 23 (.int .u8 y0) (.int .u8 y1) (.int .u8 y2) (.int .u8 y3) (.int .u8 y4) (.int .u8 y5))
  have c10 := ((hC.alloc (.cells #[.int .u8 y0, .int .u8 y1, .int .u8 y2, .int .u8 y3, .int .u8 y4, .int .u8 y5] 23)).cells hx).c10
  have hmlt : mb < w.heap.size := hC.lt (Or.inr (Or.inl rfl))
  have Hone := hid (hg.one m u)
  clear hC hg hm hy
  go_enter Tryd.func62, Tryd.ntmps62
  go_wp2_with (first | (at_range; refine wpList_range_assoc _ rfl _ 31 rfl 27 82 Tryd.underlying31 mb _ rfl hown (w.heap.size + 1) (by simp) ?_; intro w0 hrg0 hg0 hs0) | go_in)
  have hk0 : Kept (fun _ => False) w w0 := K0.out.grown hg0 (fun j hj => by cases hj)
  have B1 := hid (B0.out.kept ((Kept.refl _ _).grown hg0 (fun j hj => by cases hj)))
  have hst : Seek w w0 mb (w.heap.size + 1) c.sess c.sess m u ∧ Box6 w0 w.heap.size (.int .u8 y0) (.int .u8 y1) (.int .u8 y2) (.int .u8 y3) (.int .u8 y4) (.int .u8 y5) := ⟨⟨hrg0, fun x hx _ => hx, fun x hx => ⟨hids x hx, hx⟩, hk0, hrg0.lt⟩, B1.out⟩
  clear hrg0 hg0 hs0 hown c10 B0 B1 hk0 K0 hids
  go_frame
  go_loopw [7, 8] (fun _ _ wr => ∃ (Ns : List Sn), Seek w wr mb (w.heap.size + 1) c.sess Ns m u ∧ Box6 wr w.heap.size (.int .u8 y0) (.int .u8 y1) (.int .u8 y2) (.int .u8 y3) (.int .u8 y4) (.int .u8 y5)) (fun _ _ wr => wr.rangeLeft mb (w.heap.size + 1))
  case atStart => exact ⟨_, hst⟩
  case round =>
    obtain ⟨Ns, ⟨hrg, hn, hNi, hk, hrl⟩, hB⟩ := hrel
    go_wp2_with (first | (at_next; refine wpList_next_ranging _ rfl _ rfl 27 mb (w.heap.size + 1) c.sess Ns (fun x hx => (hNi x hx).1) rfl hrg ?_ ?_) | go_in)
    · intro hN
      subst hN
      have HR : Hid (unusedF c m u = 0) := unused_none (fun x hx => by
        cases h : isFor m u x with
        | false => rfl
        | true => exact absurd (hn x hx h) (by simp))
      clear hrg hNi hB hst HE hn
      go_wp2
      go_ret
      exact ⟨by rw [HR.out]; rfl, hk⟩
    · intro x Ms w2 a0 a1 a2 a3 a4 a5 ha hpN hrg2 hg2 hs2 hen
      have hk2 : Kept (fun _ => False) w w2 := hk.grown hg2 (fun j hj => by cases hj; exact Or.inl (by omega))
      have hB2 := hB.grown hg2 (by omega)
      have hxN := hNi x (hpN.mem_iff.2 (List.mem_cons_self ..))
      have hMi : ∀ y ∈ Ms, y.mac.length = 6 ∧ y ∈ c.sess := fun y hy => hNi y (hpN.mem_iff.2 (List.mem_cons_of_mem _ hy))
      have hE := HE.out x hxN.1
      rw [ha] at hE
      have d0 := fun o o' => ((hB2.alloc o).alloc o').c0
      have d1 := fun o o' => ((hB2.alloc o).alloc o').c1
      have d2 := fun o o' => ((hB2.alloc o).alloc o').c2
      have d3 := fun o o' => ((hB2.alloc o).alloc o').c3
      have d4 := fun o o' => ((hB2.alloc o).alloc o').c4
      have d5 := fun o o' => ((hB2.alloc o).alloc o').c5
      have hmeas : Ms.length < Ns.length := by rw [hpN.length_eq]; simp
      have HML : Hid (wr.rangeLeft mb (w.heap.size + 1) = (Ns.map snV).length) := hrg.left_eq
      have hfin := hid (fun (o o' : Obj) (h : isFor m u x = false) => show Seek w ((w2.alloc o).alloc o') mb (w.heap.size + 1) c.sess Ms m u ∧ Box6 ((w2.alloc o).alloc o') w.heap.size (.int .u8 y0) (.int .u8 y1) (.int .u8 y2) (.int .u8 y3) (.int .u8 y4) (.int .u8 y5) ∧ ((w2.alloc o).alloc o').rangeLeft mb (w.heap.size + 1) = (Ms.map snV).length from
        have hr := (hrg2.kept (World.grownBy_alloc w2 o none) (by simp) (by simp)).kept (World.grownBy_alloc _ o' none) (by simp) (by simp)
        ⟨⟨hr, fun y hy hf => by
          rcases List.mem_cons.1 (hpN.mem_iff.1 (hn y hy hf)) with e | h2
          · rw [e, h] at hf
            cases hf
          · exact h2, hMi, (hk2.alloc o).alloc o', by simp; omega⟩, (hB2.alloc o).alloc o', hr.left_eq⟩)
      have Hfound := hid (fun (h : isFor m u x = true) => unused_some Hone.out hxN.2 h)
      have hK2 := hid (fun o o' => (hk2.alloc o).alloc o')
      have hf := isFor_eq m u x
      clear hrg2 hg2 hB2 hk hB hrg hst hk2 hn hNi hMi HE
      generalize decide (x.mac = m) = q1 at *
      generalize hq2 : (x.uniq.toList == u.toList) = q2 at *
      generalize x.used = q3 at *
      cases q1 with
      | false =>
        have hff : isFor m u x = false := by rw [hf]; rfl
        go_wp2
        obtain ⟨R1, R2, R3⟩ := hfin.out _ _ hff
        go_roundw
        case rel => exact ⟨Ms, R1, R2⟩
        case measure => rw [R3, HML.out]; simpa using hmeas
      | true => cases q2 with
        | false =>
          have hff : isFor m u x = false := by rw [hf]; rfl
          go_wp2
          obtain ⟨R1, R2, R3⟩ := hfin.out _ _ hff
          go_roundw
          case rel => exact ⟨Ms, R1, R2⟩
          case measure => rw [R3, HML.out]; simpa using hmeas
        | true => cases q3 with
          | true =>
            have hff : isFor m u x = false := by rw [hf]; rfl
            go_wp2
            obtain ⟨R1, R2, R3⟩ := hfin.out _ _ hff
            go_roundw
            case rel => exact ⟨Ms, R1, R2⟩
            case measure => rw [R3, HML.out]; simpa using hmeas
          | false =>
            have HF2 := hid (Hfound.out (by rw [hf]; rfl))
            go_wp2
            go_ret
            exact ⟨by rw [HF2.out]; rfl, hK2.out _ _⟩
end Go.Proofs.YtgaamehjdoakhaaDoor

/- A laying of the library's own contracts at this program: math/bits.Len64. -/
namespace Go.Proofs.YtgaamehjdoakhaaDoor
open Go.RowKit Go.Shelf

def tzRen : Ren := ⟨fun | 29 => 88 | n => n, fun | 22 => 109 | 25 => 55 | 54 => 153 | n => n, fun | 1 => 2 | n => n⟩
theorem tzLays : Lays7.n29 Tryd.prog tzRen := {
  mixed := by kernel_rfl,
  f29 := by kernel_rfl,
  t0 := by kernel_rfl,
  a0 := fun w => by kernel_rfl,
  z0 := fun w => by kernel_rfl,
  v0 := fun w => by kernel_rfl,
  i0 := by kernel_rfl,
  t3 := by kernel_rfl,
  a3 := fun w => by kernel_rfl,
  z3 := fun w => by kernel_rfl,
  v3 := fun w => by kernel_rfl,
  i3 := by kernel_rfl,
  t4 := by kernel_rfl,
  a4 := fun w => by kernel_rfl,
  z4 := fun w => by kernel_rfl,
  v4 := fun w => by kernel_rfl,
  i4 := by kernel_rfl,
  t5 := by kernel_rfl,
  a5 := fun w => by kernel_rfl,
  z5 := fun w => by kernel_rfl,
  v5 := fun w => by kernel_rfl,
  i5 := by kernel_rfl,
  t22 := by kernel_rfl,
  a22 := fun w => by kernel_rfl,
  z22 := fun w => by kernel_rfl,
  v22 := fun w => by kernel_rfl,
  i22 := by kernel_rfl,
  t25 := by kernel_rfl,
  a25 := fun w => by kernel_rfl,
  z25 := fun w => by kernel_rfl,
  v25 := fun w => by kernel_rfl,
  i25 := by kernel_rfl,
  t54 := by kernel_rfl,
  a54 := fun w => by kernel_rfl,
  z54 := fun w => by kernel_rfl,
  g1 := by kernel_rfl }
end Go.Proofs.YtgaamehjdoakhaaDoor

/- The contract of the concentrator's inner next: the first number behind the last one that no session has. -/
namespace Go.Proofs.YtgaamehjdoakhaaDoor
open Go.RowKit

def TabTz (w : World) : Prop := Go.Proofs.TabAt 2 Lib.deBruijn64tab w
theorem tz_any (x : Nat) (hx : x < 18446744073709551616) (w : World) (hT : TabTz w) : Calls Tryd.prog 88 #[.int .u64 (x : Int)] w fun e w' => e = .returned (.int .i64 (Lib.ctz 64 x : Int)) ∧ w' = w :=
  Go.Proofs.Any7.bits_TrailingZeros64 tzLays x hx w (fun _ => hT)
theorem TabTz.kept {w w' : World} (h : TabTz w) (hk : Kept (fun _ => False) w w') : TabTz w' := fun j hj =>
  (hk.cell (p := ⟨2, j, none⟩) (lt_of_cell (h j hj)) id).trans (h j hj)

theorem bitF_comm (t a b : Nat) : bitF (bitF t a) b = bitF (bitF t b) a := by
  unfold bitF
  by_cases ha : a < 64 <;> by_cases hb : b < 64 <;> simp only [ha, hb, if_true, if_false]
  rw [Nat.or_assoc, Nat.or_assoc, Nat.or_comm (2 ^ a)]
theorem bits_perm {l m : List Nat} (h : l.Perm m) (t : Nat) : l.foldl bitF t = m.foldl bitF t := h.foldl_eq' (fun x _ y _ z => bitF_comm z x y) t
theorem bitF_lt {t a : Nat} (h : t < 2 ^ 64) : bitF t a < 2 ^ 64 := by
  unfold bitF
  split
  · exact Nat.or_lt_two_pow h (Nat.pow_lt_pow_right (by omega) (by omega))
  · exact h
theorem off_eq {last num : Nat} (h1 : 1 ≤ num) (h2 : num ≤ 65535) (hl : last ≤ 65535) : ((num : Int) - 1 - (last : Int) + 65535).tmod 65535 = (offF last num : Int) := by
  unfold offF
  rw [Int.tmod_eq_emod_of_nonneg (by omega)]
  omega

theorem not_u64 (t : Nat) (ht : t < 2 ^ 64) : bits BinOp.xor IntKind.u64 (if IntKind.u64.signed = true then -1 else IntKind.u64.max) (t : Int) = ((18446744073709551615 - t : Nat) : Int) := by
  have e1 : (if IntKind.u64.signed = true then (-1 : Int) else IntKind.u64.max) = ((18446744073709551615 : Nat) : Int) := by rfl
  rw [e1]
  have h1 : (BitVec.ofInt 64 ((18446744073709551615 : Nat) : Int)) = BitVec.allOnes 64 := by rfl
  have h2 : (BitVec.ofInt 64 (t : Int)).toNat = t := by rw [BitVec.ofInt_natCast, BitVec.toNat_ofNat]; exact Nat.mod_eq_of_lt ht
  show IntKind.u64.wrap ((BitVec.ofInt 64 ((18446744073709551615 : Nat) : Int) ^^^ BitVec.ofInt 64 (t : Int)).toNat : Int) = _
  rw [h1, BitVec.allOnes_xor, BitVec.toNat_not, h2, IntKind.wrap_u64]
  omega

/-- A range over the sessions under way: the bits so far, and those of the sessions to come, are all. -/
def Bits (w wr : World) (mb r : Nat) (c : Cs) (Ns : List Sn) (t : Nat) : Prop :=
  Ranging wr Tryd.prog 27 mb r (c.sess.map snV) (Ns.map snV) ∧ (Ns.map (fun x => offF c.last x.num)).foldl bitF t = takenF c ∧ t < 2 ^ 64 ∧ (∀ x ∈ Ns, x.mac.length = 6 ∧ 1 ≤ x.num ∧ x.num ≤ 65535) ∧ Kept (fun _ => False) w wr ∧ r < wr.heap.size

set_option maxHeartbeats 2000000 in
set_option maxRecDepth 100000 in
theorem next_any (b mb : Nat) (gv : Value) (c : Cs) (hg : Good c) (w : World) (hT : TabTz w) (hC : ConcIn w b mb gv c) :
    Calls Tryd.prog 80 #[.pointer (some ⟨b, 0, none⟩)] w fun e w' => e = .returned (.int .i64 (nextF c : Int)) ∧ Kept (fun _ => False) w w' := by
  obtain ⟨x0, x1, x2, x3, x4, x5, hx⟩ := six_cells hg.mac
  have HC := hid (fun W (hk : Kept (fun _ => False) w W) => (hC.kept0 hk).cells hx)
  have c10 := (hC.cells hx).c10
  have hown : Assoc w Tryd.prog 27 mb (c.sess.map snV) := hC.ses
  have hmlt : mb < w.heap.size := hC.lt (Or.inr (Or.inl rfl))
  have hblt : b < w.heap.size := hC.lt (Or.inl rfl)
  have hids := hg.ids
  have hlast := hg.last
  have HT := hid hT
  clear hC hg hT
  go_enter Tryd.func80, Tryd.ntmps80
  go_wp2_with (first | (at_range; refine wpList_range_assoc _ rfl _ 31 rfl 27 82 Tryd.underlying31 mb _ rfl hown w.heap.size rfl ?_; intro w0 hrg0 hg0 hs0) | go_in)
  have hk0 : Kept (fun _ => False) w w0 := (Kept.refl _ w).grown hg0 (fun j hj => by cases hj)
  have hst : Bits w w0 mb w.heap.size c c.sess 0 := ⟨hrg0, rfl, by decide, hids, hk0, hrg0.lt⟩
  clear hrg0 hg0 hs0 hown c10 hk0 hids
  go_frame
  go_loopw [3, 4, 5] (fun v _ _ wr => ∃ (t : Nat) (Ns : List Sn), v = .int .u64 (t : Int) ∧ Bits w wr mb w.heap.size c Ns t) (fun _ _ _ wr => wr.rangeLeft mb w.heap.size)
  case atStart => exact ⟨0, _, rfl, hst⟩
  case round =>
    obtain ⟨t, Ns, rfl, hrg, hn, ht, hNi, hk, hrl⟩ := hrel
    go_wp2_with (first | (at_next; refine wpList_next_ranging _ rfl _ rfl 27 mb w.heap.size c.sess Ns (fun x hx => (hNi x hx).1) rfl hrg ?_ ?_) | go_in)
    · intro hN
      subst hN
      have hn' : t = takenF c := hn
      have HR : Hid (nextF c = (c.last + Lib.ctz 64 (18446744073709551615 - t)) % 65535 + 1) := by show _ = _; unfold nextF; rw [hn']
      have hctz : Lib.ctz 64 (18446744073709551615 - t) ≤ 64 := by
        by_cases h0 : 18446744073709551615 - t = 0
        · rw [h0]; decide
        · exact Nat.le_of_lt (Lib.lowest_bit 64 _ h0 (by omega)).2
      have HZ := hid (fun W (hW : Kept (fun _ => False) w W) => tz_any (18446744073709551615 - t) (by omega) W (HT.out.kept hW))
      generalize Lib.ctz 64 (18446744073709551615 - t) = Z at *
      have q11 : ∀ W, IsW wr.drew W → W.cell? ⟨b, 11, none⟩ = some (.int .i64 (c.last : Int)) := fun W h => by rw [show W = wr.drew from h]; exact (HC.out wr hk).c11
      have hX := not_u64 t ht
      have hk' := hid hk.drew
      generalize c.last = L at *
      clear hrg hn hNi hst HC hn' HT
      go_wp2
      refine wp_region_held_drew (S := IsW wr.drew) (by kernel_rfl) (rfl) (fun hSd => ?_)
      refine wpAnyH_take (i := 0) (v := ?_) rfl (by kernel_rfl) (by kernel_rfl) (by kernel_rfl) (fun _ _ _ h => h) (Or.inl ⟨by kernel_rfl, fun W hSW => by go_simp; try with_reducible rfl⟩) (by assumption) ?_
      try simp only [List.getElem_toArray]
      try simp only [List.getElem_cons_succ]
      try simp only [List.getElem_cons_zero]
      try simp only [Act.put]
      try simp only [List.setIfInBounds_toArray]
      try simp only [List.set_cons_succ]
      try simp only [List.set_cons_zero]
      refine wpAnyH_take (i := 1) (v := ?_) rfl (by kernel_rfl) (by kernel_rfl) (by kernel_rfl) (fun _ _ _ h => h) (Or.inl ⟨by kernel_rfl, fun W hSW => by go_simp; try with_reducible rfl⟩) (by assumption) ?_
      try simp only [List.getElem_toArray]
      try simp only [List.getElem_cons_succ]
      try simp only [List.getElem_cons_zero]
      try simp only [Act.put]
      try simp only [List.setIfInBounds_toArray]
      try simp only [List.set_cons_succ]
      try simp only [List.set_cons_zero]
      refine wpAnyH_take (i := 2) (v := ?_) rfl (by kernel_rfl) (by kernel_rfl) (by kernel_rfl) (fun _ _ _ h => h) (Or.inl ⟨by kernel_rfl, fun W hSW => by go_simp; try with_reducible rfl⟩) (by assumption) ?_
      try simp only [List.getElem_toArray]
      try simp only [List.getElem_cons_succ]
      try simp only [List.getElem_cons_zero]
      try simp only [Act.put]
      try simp only [List.setIfInBounds_toArray]
      try simp only [List.set_cons_succ]
      try simp only [List.set_cons_zero]
      refine wpAnyH_take (i := 3) (v := ?_) rfl (by kernel_rfl) (by kernel_rfl) (by kernel_rfl) (fun _ _ _ h => h) (Or.inl ⟨by kernel_rfl, fun W hSW => by go_simp; try with_reducible rfl⟩) (by assumption) ?_
      try simp only [List.getElem_toArray]
      try simp only [List.getElem_cons_succ]
      try simp only [List.getElem_cons_zero]
      try simp only [Act.put]
      try simp only [List.setIfInBounds_toArray]
      try simp only [List.set_cons_succ]
      try simp only [List.set_cons_zero]
      refine wpAnyH_take (i := 4) (v := ?_) rfl (by kernel_rfl) (by kernel_rfl) (by kernel_rfl) (fun _ _ _ h => h) (Or.inl ⟨by kernel_rfl, fun W hSW => by go_simp; try with_reducible rfl⟩) (by assumption) ?_
      try simp only [List.getElem_toArray]
      try simp only [List.getElem_cons_succ]
      try simp only [List.getElem_cons_zero]
      try simp only [Act.put]
      try simp only [List.setIfInBounds_toArray]
      try simp only [List.set_cons_succ]
      try simp only [List.set_cons_zero]
      refine wpAnyH_take (i := 5) (v := ?_) rfl (by kernel_rfl) (by kernel_rfl) (by kernel_rfl) (fun _ _ _ h => h) (Or.inl ⟨by kernel_rfl, fun W hSW => by go_simp; try with_reducible rfl⟩) (by assumption) ?_
      try simp only [List.getElem_toArray]
      try simp only [List.getElem_cons_succ]
      try simp only [List.getElem_cons_zero]
      try simp only [Act.put]
      try simp only [List.setIfInBounds_toArray]
      try simp only [List.set_cons_succ]
      try simp only [List.set_cons_zero]
      refine wpAnyH_ready (rs := [6]) (by kernel_rfl) (by simp) ?_
      refine AllReadyH.cons rfl (fun K hK => ?_) AllReadyH.nil
      go_simp
      refine (HZ.out _ hk'.out).mono ?_
      rintro e w' ⟨rfl, rfl⟩
      refine hK.out _ _ (rfl) (fun _ => ?_)
      clear hK K
      try simp only [List.getElem_toArray]
      try simp only [List.getElem_cons_succ]
      try simp only [List.getElem_cons_zero]
      try simp only [Act.put]
      try simp only [List.setIfInBounds_toArray]
      try simp only [List.set_cons_succ]
      try simp only [List.set_cons_zero]
      refine wpAnyH_take (i := 7) (v := ?_) rfl (by kernel_rfl) (by kernel_rfl) (by kernel_rfl) (fun _ _ _ h => h) (Or.inl ⟨by kernel_rfl, fun W hSW => by go_simp; try with_reducible rfl⟩) (by assumption) ?_
      try simp only [List.getElem_toArray]
      try simp only [List.getElem_cons_succ]
      try simp only [List.getElem_cons_zero]
      try simp only [Act.put]
      try simp only [List.setIfInBounds_toArray]
      try simp only [List.set_cons_succ]
      try simp only [List.set_cons_zero]
      refine wpAnyH_take (i := 8) (v := ?_) rfl (by kernel_rfl) (by kernel_rfl) (by kernel_rfl) (fun _ _ _ h => h) (Or.inl ⟨by kernel_rfl, fun W hSW => by go_simp; try with_reducible rfl⟩) (by assumption) ?_
      try simp only [List.getElem_toArray]
      try simp only [List.getElem_cons_succ]
      try simp only [List.getElem_cons_zero]
      try simp only [Act.put]
      try simp only [List.setIfInBounds_toArray]
      try simp only [List.set_cons_succ]
      try simp only [List.set_cons_zero]
      refine wpAnyH_take (i := 9) (v := ?_) rfl (by kernel_rfl) (by kernel_rfl) (by kernel_rfl) (fun _ _ _ h => h) (Or.inl ⟨by kernel_rfl, fun W hSW => by go_simp; try with_reducible rfl⟩) (by assumption) ?_
      try simp only [List.getElem_toArray]
      try simp only [List.getElem_cons_succ]
      try simp only [List.getElem_cons_zero]
      try simp only [Act.put]
      try simp only [List.setIfInBounds_toArray]
      try simp only [List.set_cons_succ]
      try simp only [List.set_cons_zero]
      refine wpAnyH_take (i := 10) (v := ?_) rfl (by kernel_rfl) (by kernel_rfl) (by kernel_rfl) (fun _ _ _ h => h) (Or.inl ⟨by kernel_rfl, fun W hSW => by go_simp; try with_reducible rfl⟩) (by assumption) ?_
      try simp only [List.getElem_toArray]
      try simp only [List.getElem_cons_succ]
      try simp only [List.getElem_cons_zero]
      try simp only [Act.put]
      try simp only [List.setIfInBounds_toArray]
      try simp only [List.set_cons_succ]
      try simp only [List.set_cons_zero]
      refine wpAnyH_done (by kernel_rfl) ?_ _
      go_wp2
      go_ret
      have hres : IntKind.i64.wrap ((IntKind.i64.wrap ((L : Int) + (Z : Int))).tmod 65535 + 1) = (((L + Z) % 65535 + 1 : Nat) : Int) := by
        have e1 : IntKind.i64.wrap ((L : Int) + (Z : Int)) = ((L + Z : Nat) : Int) := by rw [IntKind.wrap_i64]; omega
        rw [e1, Int.tmod_eq_emod_of_nonneg (by omega), IntKind.wrap_i64]
        omega
      exact ⟨by rw [HR.out]; exact congrArg (fun z => Ending.returned (.int .i64 z)) hres, hk'.out⟩
    · intro x Ms w2 a0 a1 a2 a3 a4 a5 ha hpN hrg2 hg2 hs2 hen
      have hk2 : Kept (fun _ => False) w w2 := hk.grown hg2 (fun j hj => by cases hj; exact Or.inl (Nat.le_refl _))
      have hxN := hNi x (hpN.mem_iff.2 (List.mem_cons_self ..))
      have hMi : ∀ y ∈ Ms, y.mac.length = 6 ∧ 1 ≤ y.num ∧ y.num ≤ 65535 := fun y hy => hNi y (hpN.mem_iff.2 (List.mem_cons_of_mem _ hy))
      have hmeas : Ms.length < Ns.length := by rw [hpN.length_eq]; simp
      have HML : Hid (wr.rangeLeft mb w.heap.size = (Ns.map snV).length) := hrg.left_eq
      have hcnt : (Ms.map (fun x => offF c.last x.num)).foldl bitF (bitF t (offF c.last x.num)) = takenF c := by
        rw [← hn, bits_perm (hpN.map (fun x => offF c.last x.num)) t]
        rfl
      have hfin := hid (fun (o : Obj) => show Bits w (w2.alloc o).drew mb w.heap.size c Ms (bitF t (offF c.last x.num)) ∧ (w2.alloc o).drew.rangeLeft mb w.heap.size = (Ms.map snV).length from
        have hr : Ranging (w2.alloc o).drew Tryd.prog 27 mb w.heap.size (c.sess.map snV) (Ms.map snV) := (hrg2.kept (World.grownBy_alloc w2 o none) (by simp) (by simp)).same rfl rfl
        ⟨⟨hr, hcnt, bitF_lt ht, hMi, (hk2.alloc o).drew, by show _ < (w2.alloc o).heap.size; simp; omega⟩, hr.left_eq⟩)
      have hoff := off_eq hxN.2.1 hxN.2.2 hlast
      have w1 : IntKind.i64.wrap ((x.num : Int) - 1) = (x.num : Int) - 1 := by rw [IntKind.wrap_i64]; omega
      have w2' : IntKind.i64.wrap ((x.num : Int) - 1 - (c.last : Int)) = (x.num : Int) - 1 - (c.last : Int) := by rw [IntKind.wrap_i64]; omega
      have w3' : IntKind.i64.wrap ((x.num : Int) - 1 - (c.last : Int) + 65535) = (x.num : Int) - 1 - (c.last : Int) + 65535 := by rw [IntKind.wrap_i64]; omega
      have qx : ∀ W, IsW (w2.alloc (.cells #[.int .u8 a0, .int .u8 a1, .int .u8 a2, .int .u8 a3, .int .u8 a4, .int .u8 a5, .int .i64 (x.num : Int)] 27)).drew W → W.cell? ⟨w2.heap.size, 6, none⟩ = some (.int .i64 (x.num : Int)) := fun W h => by rw [show W = _ from h]; show (w2.alloc _).cell? _ = _; rw [World.cell?_alloc_new]; rfl
      have q11 : ∀ W, IsW (w2.alloc (.cells #[.int .u8 a0, .int .u8 a1, .int .u8 a2, .int .u8 a3, .int .u8 a4, .int .u8 a5, .int .i64 (x.num : Int)] 27)).drew W → W.cell? ⟨b, 11, none⟩ = some (.int .i64 (c.last : Int)) := fun W h => by rw [show W = _ from h]; exact (HC.out _ (hk2.alloc _)).c11
      have hN65 : offF c.last x.num < 65535 := Nat.mod_lt _ (by omega)
      generalize hO : offF c.last x.num = O at *
      clear hrg2 hg2 hk hrg hst hk2 hn hNi hMi hcnt hO hs2
      go_wp2
      refine wp_region_held_drew (S := IsW (w2.alloc (.cells #[.int .u8 a0, .int .u8 a1, .int .u8 a2, .int .u8 a3, .int .u8 a4, .int .u8 a5, .int .i64 (x.num : Int)] 27)).drew) (by kernel_rfl) (rfl) (fun hSd => ?_)
      refine wpAnyH_take (i := 0) (v := ?_) rfl (by kernel_rfl) (by kernel_rfl) (by kernel_rfl) (fun _ _ _ h => h) (Or.inl ⟨by kernel_rfl, fun W hSW => by go_simp; try with_reducible rfl⟩) (by assumption) ?_
      try simp only [List.getElem_toArray]
      try simp only [List.getElem_cons_succ]
      try simp only [List.getElem_cons_zero]
      try simp only [Act.put]
      try simp only [List.setIfInBounds_toArray]
      try simp only [List.set_cons_succ]
      try simp only [List.set_cons_zero]
      refine wpAnyH_take (i := 1) (v := ?_) rfl (by kernel_rfl) (by kernel_rfl) (by kernel_rfl) (fun _ _ _ h => h) (Or.inl ⟨by kernel_rfl, fun W hSW => by go_simp; try with_reducible rfl⟩) (by assumption) ?_
      try simp only [List.getElem_toArray]
      try simp only [List.getElem_cons_succ]
      try simp only [List.getElem_cons_zero]
      try simp only [Act.put]
      try simp only [List.setIfInBounds_toArray]
      try simp only [List.set_cons_succ]
      try simp only [List.set_cons_zero]
      refine wpAnyH_take (i := 2) (v := ?_) rfl (by kernel_rfl) (by kernel_rfl) (by kernel_rfl) (fun _ _ _ h => h) (Or.inl ⟨by kernel_rfl, fun W hSW => by go_simp; try with_reducible rfl⟩) (by assumption) ?_
      try simp only [List.getElem_toArray]
      try simp only [List.getElem_cons_succ]
      try simp only [List.getElem_cons_zero]
      try simp only [Act.put]
      try simp only [List.setIfInBounds_toArray]
      try simp only [List.set_cons_succ]
      try simp only [List.set_cons_zero]
      refine wpAnyH_take (i := 3) (v := ?_) rfl (by kernel_rfl) (by kernel_rfl) (by kernel_rfl) (fun _ _ _ h => h) (Or.inl ⟨by kernel_rfl, fun W hSW => by go_simp; try with_reducible rfl⟩) (by assumption) ?_
      try simp only [List.getElem_toArray]
      try simp only [List.getElem_cons_succ]
      try simp only [List.getElem_cons_zero]
      try simp only [Act.put]
      try simp only [List.setIfInBounds_toArray]
      try simp only [List.set_cons_succ]
      try simp only [List.set_cons_zero]
      refine wpAnyH_take (i := 4) (v := ?_) rfl (by kernel_rfl) (by kernel_rfl) (by kernel_rfl) (fun _ _ _ h => h) (Or.inl ⟨by kernel_rfl, fun W hSW => by go_simp; try with_reducible rfl⟩) (by assumption) ?_
      try simp only [List.getElem_toArray]
      try simp only [List.getElem_cons_succ]
      try simp only [List.getElem_cons_zero]
      try simp only [Act.put]
      try simp only [List.setIfInBounds_toArray]
      try simp only [List.set_cons_succ]
      try simp only [List.set_cons_zero]
      refine wpAnyH_take (i := 5) (v := ?_) rfl (by kernel_rfl) (by kernel_rfl) (by kernel_rfl) (fun _ _ _ h => h) (Or.inl ⟨by kernel_rfl, fun W hSW => by go_simp; try with_reducible rfl⟩) (by assumption) ?_
      try simp only [List.getElem_toArray]
      try simp only [List.getElem_cons_succ]
      try simp only [List.getElem_cons_zero]
      try simp only [Act.put]
      try simp only [List.setIfInBounds_toArray]
      try simp only [List.set_cons_succ]
      try simp only [List.set_cons_zero]
      refine wpAnyH_take (i := 6) (v := ?_) rfl (by kernel_rfl) (by kernel_rfl) (by kernel_rfl) (fun _ _ _ h => h) (Or.inl ⟨by kernel_rfl, fun W hSW => by go_simp; try with_reducible rfl⟩) (by assumption) ?_
      try simp only [List.getElem_toArray]
      try simp only [List.getElem_cons_succ]
      try simp only [List.getElem_cons_zero]
      try simp only [Act.put]
      try simp only [List.setIfInBounds_toArray]
      try simp only [List.set_cons_succ]
      try simp only [List.set_cons_zero]
      refine wpAnyH_take (i := 7) (v := ?_) rfl (by kernel_rfl) (by kernel_rfl) (by kernel_rfl) (fun _ _ _ h => h) (Or.inl ⟨by kernel_rfl, fun W hSW => by go_simp; try with_reducible rfl⟩) (by assumption) ?_
      try simp only [List.getElem_toArray]
      try simp only [List.getElem_cons_succ]
      try simp only [List.getElem_cons_zero]
      try simp only [Act.put]
      try simp only [List.setIfInBounds_toArray]
      try simp only [List.set_cons_succ]
      try simp only [List.set_cons_zero]
      refine wpAnyH_take (i := 8) (v := ?_) rfl (by kernel_rfl) (by kernel_rfl) (by kernel_rfl) (fun _ _ _ h => h) (Or.inl ⟨by kernel_rfl, fun W hSW => by go_simp; try with_reducible rfl⟩) (by assumption) ?_
      try simp only [List.getElem_toArray]
      try simp only [List.getElem_cons_succ]
      try simp only [List.getElem_cons_zero]
      try simp only [Act.put]
      try simp only [List.setIfInBounds_toArray]
      try simp only [List.set_cons_succ]
      try simp only [List.set_cons_zero]
      refine wpAnyH_take (i := 9) (v := ?_) rfl (by kernel_rfl) (by kernel_rfl) (by kernel_rfl) (fun _ _ _ h => h) (Or.inl ⟨by kernel_rfl, fun W hSW => by go_simp; try with_reducible rfl⟩) (by assumption) ?_
      try simp only [List.getElem_toArray]
      try simp only [List.getElem_cons_succ]
      try simp only [List.getElem_cons_zero]
      try simp only [Act.put]
      try simp only [List.setIfInBounds_toArray]
      try simp only [List.set_cons_succ]
      try simp only [List.set_cons_zero]
      refine wpAnyH_take (i := 10) (v := ?_) rfl (by kernel_rfl) (by kernel_rfl) (by kernel_rfl) (fun _ _ _ h => h) (Or.inl ⟨by kernel_rfl, fun W hSW => by go_simp; try with_reducible rfl⟩) (by assumption) ?_
      try simp only [List.getElem_toArray]
      try simp only [List.getElem_cons_succ]
      try simp only [List.getElem_cons_zero]
      try simp only [Act.put]
      try simp only [List.setIfInBounds_toArray]
      try simp only [List.set_cons_succ]
      try simp only [List.set_cons_zero]
      refine wpAnyH_done (by kernel_rfl) ?_ _
      by_cases hO64 : O < 64
      · have hlt : (O : Int) < 64 := by omega
        have hp : 2 ^ O < 18446744073709551616 := Nat.pow_lt_pow_right (a := 2) (m := O) (n := 64) (by omega) hO64
        have e1 : IntKind.u64.wrap ((2 : Int) ^ O) = ((2 ^ O : Nat) : Int) := by
          have e0 : ((2 : Int) ^ O) = ((2 ^ O : Nat) : Int) := by push_cast; rfl
          rw [e0, IntKind.wrap_u64]
          exact Int.emod_eq_of_lt (Int.natCast_nonneg _) (Int.ofNat_lt.2 hp)
        have hbit : bits BinOp.or IntKind.u64 (t : Int) (IntKind.u64.wrap ((2 : Int) ^ O)) = ((bitF t O : Nat) : Int) := by
          rw [e1, bits_or_u64_nat t (2 ^ O) ht hp]
          unfold bitF
          rw [if_pos hO64]
        have Hb := hid hbit
        clear e1 hbit hp
        go_wp2
        obtain ⟨R1, R3⟩ := hfin.out (.cells #[.int .u8 a0, .int .u8 a1, .int .u8 a2, .int .u8 a3, .int .u8 a4, .int .u8 a5, .int .i64 (x.num : Int)] 27)
        exact ⟨⟨bitF t O, Ms, by rw [Hb.out], R1⟩, by rw [R3, HML.out]; simpa using hmeas⟩
      · have hlt : ¬ (O : Int) < 64 := by omega
        have hb : bitF t O = t := by unfold bitF; rw [if_neg hO64]
        rw [hb] at hfin
        go_wp2
        obtain ⟨R1, R3⟩ := hfin.out (.cells #[.int .u8 a0, .int .u8 a1, .int .u8 a2, .int .u8 a3, .int .u8 a4, .int .u8 a5, .int .i64 (x.num : Int)] 27)
        go_roundw
        case rel => exact ⟨t, Ms, rfl, R1⟩
        case measure => rw [R3, HML.out]; simpa using hmeas
end Go.Proofs.YtgaamehjdoakhaaDoor

/- The contract of the concentrator's inner begin: a new session is given out. -/
namespace Go.Proofs.YtgaamehjdoakhaaDoor
open Go.RowKit

theorem nextF_le (c : Cs) : 1 ≤ nextF c ∧ nextF c ≤ 65535 := by
  unfold nextF
  have : (c.last + Lib.ctz 64 (18446744073709551615 - takenF c)) % 65535 < 65535 := Nat.mod_lt _ (by omega)
  omega

set_option maxHeartbeats 2000000 in
set_option maxRecDepth 100000 in
theorem begin_any {S : Nat → Prop} (b : Nat) (c : Cs) (hg : Good c) (m : List UInt8) (hm : m.length = 6) (u : ByteArray) (w : World) (hT : TabTz w) (hA : CAt S w b c) :
    Calls Tryd.prog 64 #[.pointer (some ⟨b, 0, none⟩), .agg (Lib.byteCells m).toArray, .string u] w fun e w' => e = .returned (.int .i64 (nextF c : Int)) ∧ CNext S w w' b (beginF c m u) := by
  obtain ⟨mb, gv, hC, hS⟩ := hA
  obtain ⟨y0, y1, y2, y3, y4, y5, hy⟩ := six_cells hm
  obtain ⟨x0, x1, x2, x3, x4, x5, hx⟩ := six_cells hg.mac
  have hblt : b < w.heap.size := hC.lt (Or.inl rfl)
  have hmlt : mb < w.heap.size := hC.lt (Or.inr (Or.inl rfl))
  have hnm := hC.nm
  have HN := hid (fun W (hk : Kept (fun _ => False) w W) => next_any b mb gv c hg W (hT.kept hk) (hC.kept0 hk))
  have hlen : c.sess.length < 1000 := by have := hg.len; have := hg.most; omega
  have hnx := nextF_le c
  have HC1 := hid (fun W (hk : Kept (fun _ => False) w W) => (hC.kept0 hk).set11 hg.mac (nextF c))
  have HC0 := hid (fun W (hk : Kept (fun _ => False) w W) => (hC.kept0 hk).cells hx)
  have hmacs := hid hg.mac
  have HST := hid (fun W (h : SsIn W mb c.sess) => h.store hlen hm hnx.2 u false)
  have hiv : idV m (nextF c : Int) = .agg #[.int .u8 y0, .int .u8 y1, .int .u8 y2, .int .u8 y3, .int .u8 y4, .int .u8 y5, .int .i64 (nextF c : Int)] := by unfold idV idCells; rw [hy]; rfl
  rw [hiv] at HST
  have hbg : beginF c m u = { c with last := nextF c, sess := dropS c.sess m (nextF c : Int) ++ [⟨m, nextF c, u, false⟩] } := rfl
  rw [hbg, hy]
  generalize dropS c.sess m (nextF c : Int) ++ [(⟨m, nextF c, u, false⟩ : Sn)] = ss at *
  generalize nextF c = nx at *
  have K0 := hid ((Kept.refl (fun _ => False) w).alloc (.cells #[.int .u8 y0, .int .u8 y1, .int .u8 y2, .int .u8 y3, .int .u8 y4, .int .u8 y5] 23))
  have B0 := hid (box6_new w 23 (.int .u8 y0) (.int .u8 y1) (.int .u8 y2) (.int .u8 y3) (.int .u8 y4) (.int .u8 y5))
  clear hC hT hg hbg hiv
  go_enter Tryd.func64, Tryd.ntmps64
  go_wp2_with fail
  refine (HN.out _ K0.out).mono ?_
  rintro e w1 ⟨rfl, hk1⟩
  have K1 := hid (K0.out.trans hk1)
  have B1 := hid (B0.out.kept hk1)
  have c11 := (HC0.out w1 K1.out).c11
  have f11 := (HC0.out w1 K1.out).f 11
  have hC2 := HC1.out w1 K1.out
  have hw1s : w.heap.size < w1.heap.size := by have := hk1.size; simp at this; omega
  clear HN HC1 hk1 K0 B0
  have hK2 : Kept (fun i => i = b) w (w1.setCell ⟨b, 11, none⟩ (.int .i64 (nx : Int))) := Kept.setCell (S := fun i => i = b) (K1.out.mono (fun _ _ h => h.elim)) (p := ⟨b, 11, none⟩) (Or.inr rfl) _
  have hB2 : Box6 (w1.setCell ⟨b, 11, none⟩ (.int .i64 (nx : Int))) w.heap.size (.int .u8 y0) (.int .u8 y1) (.int .u8 y2) (.int .u8 y3) (.int .u8 y4) (.int .u8 y5) := by
    have hb : (w1.setCell ⟨b, 11, none⟩ (.int .i64 (nx : Int))).heap[w.heap.size]? = w1.heap[w.heap.size]? := Below.heap_setCell _ _ _ _ (by show w.heap.size ≠ b; omega)
    have h := B1.out
    exact ⟨(World.cell?_of_block (a := ⟨_, 0, none⟩) hb).trans h.c0, (World.cell?_of_block (a := ⟨_, 1, none⟩) hb).trans h.c1, (World.cell?_of_block (a := ⟨_, 2, none⟩) hb).trans h.c2, (World.cell?_of_block (a := ⟨_, 3, none⟩) hb).trans h.c3, (World.cell?_of_block (a := ⟨_, 4, none⟩) hb).trans h.c4, (World.cell?_of_block (a := ⟨_, 5, none⟩) hb).trans h.c5⟩
  go_wp2
  have hsz2 : (w1.setCell ⟨b, 11, none⟩ (.int .i64 (nx : Int))).heap.size = w1.heap.size := by simp
  generalize hw2 : w1.setCell ⟨b, 11, none⟩ (.int .i64 (nx : Int)) = w2 at *
  clear hw2 c11 f11 B1
  have hcc := hC2.cells hx
  have hlt2 : w.heap.size < w2.heap.size := by omega
  have q10 : ∀ W, Kept (fun i => i = mb) w2 W → W.cell? ⟨b, 10, none⟩ = some (.map (some mb)) := fun W h => (h.cell (p := ⟨b, 10, none⟩) (lt_of_cell hcc.c10) (fun e => hnm e.symm)).trans hcc.c10
  have q11 : ∀ W, Kept (fun i => i = mb) w2 W → W.cell? ⟨b, 11, none⟩ = some (.int .i64 (nx : Int)) := fun W h => (h.cell (p := ⟨b, 11, none⟩) (lt_of_cell hcc.c11) (fun e => hnm e.symm)).trans hcc.c11
  have r0 : ∀ W, Kept (fun i => i = mb) w2 W → W.cell? ⟨w.heap.size, 0, none⟩ = some (.int .u8 y0) := fun W h => (h.cell (p := ⟨w.heap.size, 0, none⟩) hlt2 (by show w.heap.size ≠ mb; omega)).trans hB2.c0
  have r1 : ∀ W, Kept (fun i => i = mb) w2 W → W.cell? ⟨w.heap.size, 1, none⟩ = some (.int .u8 y1) := fun W h => (h.cell (p := ⟨w.heap.size, 1, none⟩) hlt2 (by show w.heap.size ≠ mb; omega)).trans hB2.c1
  have r2 : ∀ W, Kept (fun i => i = mb) w2 W → W.cell? ⟨w.heap.size, 2, none⟩ = some (.int .u8 y2) := fun W h => (h.cell (p := ⟨w.heap.size, 2, none⟩) hlt2 (by show w.heap.size ≠ mb; omega)).trans hB2.c2
  have r3 : ∀ W, Kept (fun i => i = mb) w2 W → W.cell? ⟨w.heap.size, 3, none⟩ = some (.int .u8 y3) := fun W h => (h.cell (p := ⟨w.heap.size, 3, none⟩) hlt2 (by show w.heap.size ≠ mb; omega)).trans hB2.c3
  have r4 : ∀ W, Kept (fun i => i = mb) w2 W → W.cell? ⟨w.heap.size, 4, none⟩ = some (.int .u8 y4) := fun W h => (h.cell (p := ⟨w.heap.size, 4, none⟩) hlt2 (by show w.heap.size ≠ mb; omega)).trans hB2.c4
  have r5 : ∀ W, Kept (fun i => i = mb) w2 W → W.cell? ⟨w.heap.size, 5, none⟩ = some (.int .u8 y5) := fun W h => (h.cell (p := ⟨w.heap.size, 5, none⟩) hlt2 (by show w.heap.size ≠ mb; omega)).trans hB2.c5
  obtain ⟨F, hF1, hF2, hF3, hF4⟩ := HST.out w2.drew hC2.drew.ses
  unfold leaseV at hF1
  have hSF : Kept (fun i => i = mb) w2 F := (Kept.refl _ w2).drew.grown hF3 (fun j hj => by cases hj; exact Or.inr rfl)
  have Hfin : Hid (CNext S w F b { c with last := nx, sess := ss }) := by
    refine ⟨S, ⟨mb, gv, hC2.drew.turned hF3 hF2, hS⟩, fun _ h => Or.inl h, ?_⟩
    refine (hK2.mono (T := S) (fun i _ e => (hS i).2 (Or.inl e))).andThen hSF (fun i _ e => (hS i).2 (Or.inr (Or.inl e)))
  clear hF2 hF3 hF4 hC2 hK2 hB2 HST hcc hmacs HC0 K1 hsz2
  refine wp_region_held_drew (S := Kept (fun i => i = mb) w2) (by kernel_rfl) ((Kept.refl _ w2).drew) (fun hSd => ?_)
  refine wpAnyH_take (i := 0) (v := ?_) rfl (by kernel_rfl) (by kernel_rfl) (by kernel_rfl) (fun _ _ _ h => h) (Or.inl ⟨by kernel_rfl, fun W hSW => by go_simp; try with_reducible rfl⟩) (by assumption) ?_
  try simp only [List.getElem_toArray]
  try simp only [List.getElem_cons_succ]
  try simp only [List.getElem_cons_zero]
  try simp only [Act.put]
  try simp only [List.setIfInBounds_toArray]
  try simp only [List.set_cons_succ]
  try simp only [List.set_cons_zero]
  refine wpAnyH_take (i := 1) (v := ?_) rfl (by kernel_rfl) (by kernel_rfl) (by kernel_rfl) (fun _ _ _ h => h) (Or.inl ⟨by kernel_rfl, fun W hSW => by go_simp; try with_reducible rfl⟩) (by assumption) ?_
  try simp only [List.getElem_toArray]
  try simp only [List.getElem_cons_succ]
  try simp only [List.getElem_cons_zero]
  try simp only [Act.put]
  try simp only [List.setIfInBounds_toArray]
  try simp only [List.set_cons_succ]
  try simp only [List.set_cons_zero]
  refine wpAnyH_take (i := 2) (v := ?_) rfl (by kernel_rfl) (by kernel_rfl) (by kernel_rfl) (fun _ _ _ h => h) (Or.inl ⟨by kernel_rfl, fun W hSW => by go_simp; try with_reducible rfl⟩) (by assumption) ?_
  try simp only [List.getElem_toArray]
  try simp only [List.getElem_cons_succ]
  try simp only [List.getElem_cons_zero]
  try simp only [Act.put]
  try simp only [List.setIfInBounds_toArray]
  try simp only [List.set_cons_succ]
  try simp only [List.set_cons_zero]
  refine wpAnyH_take (i := 3) (v := ?_) rfl (by kernel_rfl) (by kernel_rfl) (by kernel_rfl) (fun _ _ _ h => h) (Or.inl ⟨by kernel_rfl, fun W hSW => by go_simp; try with_reducible rfl⟩) (by assumption) ?_
  try simp only [List.getElem_toArray]
  try simp only [List.getElem_cons_succ]
  try simp only [List.getElem_cons_zero]
  try simp only [Act.put]
  try simp only [List.setIfInBounds_toArray]
  try simp only [List.set_cons_succ]
  try simp only [List.set_cons_zero]
  refine wpAnyH_take (i := 4) (v := ?_) rfl (by kernel_rfl) (by kernel_rfl) (by kernel_rfl) (fun _ _ _ h => h) (Or.inl ⟨by kernel_rfl, fun W hSW => by go_simp; try with_reducible rfl⟩) (by assumption) ?_
  try simp only [List.getElem_toArray]
  try simp only [List.getElem_cons_succ]
  try simp only [List.getElem_cons_zero]
  try simp only [Act.put]
  try simp only [List.setIfInBounds_toArray]
  try simp only [List.set_cons_succ]
  try simp only [List.set_cons_zero]
  refine wpAnyH_take (i := 5) (v := ?_) rfl (by kernel_rfl) (by kernel_rfl) (by kernel_rfl) (fun _ _ _ h => h) (Or.inl ⟨by kernel_rfl, fun W hSW => by go_simp; try with_reducible rfl⟩) (by assumption) ?_
  try simp only [List.getElem_toArray]
  try simp only [List.getElem_cons_succ]
  try simp only [List.getElem_cons_zero]
  try simp only [Act.put]
  try simp only [List.setIfInBounds_toArray]
  try simp only [List.set_cons_succ]
  try simp only [List.set_cons_zero]
  refine wpAnyH_take (i := 6) (v := ?_) rfl (by kernel_rfl) (by kernel_rfl) (by kernel_rfl) (fun _ _ _ h => h) (Or.inl ⟨by kernel_rfl, fun W hSW => by go_simp; try with_reducible rfl⟩) (by assumption) ?_
  try simp only [List.getElem_toArray]
  try simp only [List.getElem_cons_succ]
  try simp only [List.getElem_cons_zero]
  try simp only [Act.put]
  try simp only [List.setIfInBounds_toArray]
  try simp only [List.set_cons_succ]
  try simp only [List.set_cons_zero]
  refine wpAnyH_take (i := 7) (v := ?_) rfl (by kernel_rfl) (by kernel_rfl) (by kernel_rfl) (fun _ _ _ h => h) (Or.inl ⟨by kernel_rfl, fun W hSW => by go_simp; try with_reducible rfl⟩) (by assumption) ?_
  try simp only [List.getElem_toArray]
  try simp only [List.getElem_cons_succ]
  try simp only [List.getElem_cons_zero]
  try simp only [Act.put]
  try simp only [List.setIfInBounds_toArray]
  try simp only [List.set_cons_succ]
  try simp only [List.set_cons_zero]
  refine wpAnyH_take (i := 8) (v := ?_) rfl (by kernel_rfl) (by kernel_rfl) (by kernel_rfl) (fun _ _ _ h => h) (Or.inl ⟨by kernel_rfl, fun W hSW => by go_simp; try with_reducible rfl⟩) (by assumption) ?_
  try simp only [List.getElem_toArray]
  try simp only [List.getElem_cons_succ]
  try simp only [List.getElem_cons_zero]
  try simp only [Act.put]
  try simp only [List.setIfInBounds_toArray]
  try simp only [List.set_cons_succ]
  try simp only [List.set_cons_zero]
  refine wpAnyH_take (i := 9) (v := ?_) rfl (by kernel_rfl) (by kernel_rfl) (by kernel_rfl) (fun _ _ _ h => h) (Or.inl ⟨by kernel_rfl, fun W hSW => by go_simp; try with_reducible rfl⟩) (by assumption) ?_
  try simp only [List.getElem_toArray]
  try simp only [List.getElem_cons_succ]
  try simp only [List.getElem_cons_zero]
  try simp only [Act.put]
  try simp only [List.setIfInBounds_toArray]
  try simp only [List.set_cons_succ]
  try simp only [List.set_cons_zero]
  refine wpAnyH_take (i := 10) (v := ?_) rfl (by kernel_rfl) (by kernel_rfl) (by kernel_rfl) (fun _ _ _ h => h) (Or.inl ⟨by kernel_rfl, fun W hSW => by go_simp; try with_reducible rfl⟩) (by assumption) ?_
  try simp only [List.getElem_toArray]
  try simp only [List.getElem_cons_succ]
  try simp only [List.getElem_cons_zero]
  try simp only [Act.put]
  try simp only [List.setIfInBounds_toArray]
  try simp only [List.set_cons_succ]
  try simp only [List.set_cons_zero]
  refine wpAnyH_take (i := 11) (v := ?_) rfl (by kernel_rfl) (by kernel_rfl) (by kernel_rfl) (fun _ _ _ h => h) (Or.inl ⟨by kernel_rfl, fun W hSW => by go_simp; try with_reducible rfl⟩) (by assumption) ?_
  try simp only [List.getElem_toArray]
  try simp only [List.getElem_cons_succ]
  try simp only [List.getElem_cons_zero]
  try simp only [Act.put]
  try simp only [List.setIfInBounds_toArray]
  try simp only [List.set_cons_succ]
  try simp only [List.set_cons_zero]
  refine wpAnyH_ready (rs := [12]) (by kernel_rfl) (by simp) ?_
  refine AllReadyH.cons rfl (fun K hK => ?_) AllReadyH.nil
  go_simp
  refine hK.out _ _ (hSF) (fun _ => ?_)
  clear hK K
  try simp only [List.getElem_toArray]
  try simp only [List.getElem_cons_succ]
  try simp only [List.getElem_cons_zero]
  try simp only [Act.put]
  try simp only [List.setIfInBounds_toArray]
  try simp only [List.set_cons_succ]
  try simp only [List.set_cons_zero]
  refine wpAnyH_done (by kernel_rfl) ?_ _
  have e11 := q11 F hSF
  clear q10 q11 r0 r1 r2 r3 r4 r5 hF1
  go_wp2
  go_ret
  exact ⟨rfl, Hfin.out⟩
end Go.Proofs.YtgaamehjdoakhaaDoor

/- What a concentrator's calls leave is a concentrator again: numbers are not 0 and unlike, there are never more than most, nor more than 2 of one card. -/
namespace Go.Proofs.YtgaamehjdoakhaaDoor

theorem nodup_le {l m : List Nat} (hl : l.Nodup) (hs : ∀ x ∈ l, x ∈ m) : l.length ≤ m.length := by
  induction l generalizing m with
  | nil => simp
  | cons a r ih =>
    obtain ⟨h1, h2⟩ := List.nodup_cons.1 hl
    obtain ⟨p, q, rfl⟩ := List.append_of_mem (hs a (by simp))
    have := ih (m := p ++ q) h2 (fun x hx => by
      have hne : x ≠ a := fun e => h1 (e ▸ hx)
      have := hs x (List.mem_cons_of_mem _ hx)
      simp only [List.mem_append, List.mem_cons] at this ⊢
      rcases this with h | h | h
      · exact Or.inl h
      · exact absurd h hne
      · exact Or.inr h)
    simp at this ⊢
    omega

theorem bits_mem (l : List Nat) : ∀ (t k : Nat), (l.foldl bitF t).testBit k = true ↔ t.testBit k = true ∨ (k ∈ l ∧ k < 64) := by
  induction l with
  | nil => intro t k; simp
  | cons a r ih =>
    intro t k
    rw [List.foldl_cons, ih]
    unfold bitF
    by_cases ha : a < 64
    · rw [if_pos ha, Nat.testBit_or, Bool.or_eq_true, Nat.testBit_two_pow]
      simp only [decide_eq_true_eq, List.mem_cons]
      constructor
      · rintro ((h | h) | h)
        · exact Or.inl h
        · exact Or.inr ⟨Or.inl h.symm, h ▸ ha⟩
        · exact Or.inr ⟨Or.inr h.1, h.2⟩
      · rintro (h | ⟨h | h, h2⟩)
        · exact Or.inl (Or.inl h)
        · exact Or.inl (Or.inr h.symm)
        · exact Or.inr ⟨h, h2⟩
    · rw [if_neg ha]
      simp only [List.mem_cons]
      constructor
      · rintro (h | h)
        · exact Or.inl h
        · exact Or.inr ⟨Or.inr h.1, h.2⟩
      · rintro (h | ⟨h | h, h2⟩)
        · exact Or.inl h
        · omega
        · exact Or.inr ⟨h, h2⟩

theorem takenF_lt (c : Cs) : takenF c < 2 ^ 64 := by
  unfold takenF
  suffices h : ∀ (l : List Nat) (t : Nat), t < 2 ^ 64 → l.foldl bitF t < 2 ^ 64 from h _ _ (by decide)
  intro l
  induction l with
  | nil => intro t h; exact h
  | cons a r ih => intro t h; exact ih _ (bitF_lt h)

/-- The bit that is found is free. -/
theorem free_bit (c : Cs) (hl : c.sess.length ≤ 60) : Lib.ctz 64 (18446744073709551615 - takenF c) < 64 ∧ (takenF c).testBit (Lib.ctz 64 (18446744073709551615 - takenF c)) = false := by
  have hlt := takenF_lt c
  have hne : 18446744073709551615 - takenF c ≠ 0 := by
    intro h0
    have ht : takenF c = 2 ^ 64 - 1 := by omega
    have hall : ∀ k ∈ List.range 64, k ∈ c.sess.map (fun x => offF c.last x.num) := fun k hk => by
      have hk64 := List.mem_range.1 hk
      have hb : (takenF c).testBit k = true := by rw [ht, Nat.testBit_two_pow_sub_one]; simpa using hk64
      rcases (bits_mem _ 0 k).1 hb with h | h
      · simp at h
      · exact h.1
    have := nodup_le List.nodup_range hall
    simp at this
    omega
  obtain ⟨_, hk⟩ := Lib.lowest_bit 64 _ hne (by omega)
  refine ⟨hk, ?_⟩
  have hz : Lib.ctz 64 (18446744073709551615 - takenF c) = Lib.ctzFrom 64 (18446744073709551615 - takenF c) := by unfold Lib.ctz; rw [if_neg hne]
  obtain ⟨m, hm, _⟩ := Lib.ctzFrom_spec 64 (18446744073709551615 - takenF c) (by omega) (by omega)
  have hbit : (18446744073709551615 - takenF c).testBit (Lib.ctz 64 (18446744073709551615 - takenF c)) = true := by
    rw [hz]
    generalize Lib.ctzFrom 64 (18446744073709551615 - takenF c) = Z at hm
    rw [hm, Nat.testBit_two_pow_mul, decide_eq_true (Nat.le_refl Z)]
    simp [Nat.testBit_zero]
  have e : 18446744073709551615 - takenF c = 2 ^ 64 - (takenF c + 1) := by omega
  generalize Lib.ctz 64 (18446744073709551615 - takenF c) = Z at *
  rw [e, Nat.testBit_two_pow_sub_succ hlt] at hbit
  simp at hbit
  exact hbit.2

/-- No session has the next number. -/
theorem next_fresh {c : Cs} (hg : Good c) : ∀ x ∈ c.sess, x.num ≠ nextF c := by
  intro x hx e
  have hlen : c.sess.length ≤ 60 := by have := hg.len; have := hg.most; omega
  obtain ⟨h1, h2⟩ := free_bit c hlen
  obtain ⟨_, hn1, hn2⟩ := hg.ids x hx
  have hlast := hg.last
  have ho : offF c.last x.num = Lib.ctz 64 (18446744073709551615 - takenF c) := by
    rw [e]
    unfold nextF offF
    generalize Lib.ctz 64 (18446744073709551615 - takenF c) = Z at *
    omega
  have hb : (takenF c).testBit (Lib.ctz 64 (18446744073709551615 - takenF c)) = true := (bits_mem _ 0 _).2 (Or.inr ⟨List.mem_map.2 ⟨x, hx, ho⟩, h1⟩)
  rw [h2] at hb
  cases hb

theorem drop_fresh {c : Cs} (hg : Good c) (m : List UInt8) : dropS c.sess m (nextF c : Int) = c.sess := by
  unfold dropS
  refine List.filter_eq_self.2 (fun x hx => ?_)
  have := next_fresh hg x hx
  have h : decide ((x.num : Int) = (nextF c : Int)) = false := decide_eq_false (by omega)
  simp only [isIdZ, h, Bool.and_false, Bool.not_false]

theorem good_begin {c : Cs} (hg : Good c) {m : List UInt8} (hm : m.length = 6) {u : ByteArray} (hu : unusedF c m u = 0) (hr : roomF c m = true) : Good (beginF c m u) := by
  have hd := drop_fresh hg m
  have hb : beginF c m u = { c with last := nextF c, sess := c.sess ++ [⟨m, nextF c, u, false⟩] } := by unfold beginF; rw [hd]
  have hn := nextF_le c
  unfold roomF at hr
  simp only [Bool.and_eq_true, decide_eq_true_eq] at hr
  have hno : ∀ x ∈ c.sess, isFor m u x = false := fun x hx => by
    cases h : isFor m u x with
    | false => rfl
    | true =>
      have := unused_some (hg.one m u) hx h
      have := (hg.ids x hx).2.1
      omega
  rw [hb]
  refine ⟨hg.mac, hg.name1, hg.name, hg.secret, hg.most1, hg.most, ?_, ?_, hn.2, ?_, ?_, ?_, hg.gone, hg.goneM⟩
  · simp; omega
  · intro x hx
    simp only [List.mem_append, List.mem_singleton] at hx
    rcases hx with hx | rfl
    · exact hg.ids x hx
    · exact ⟨hm, hn.1, hn.2⟩
  · intro m' u' x hx y hy h1 h2
    simp only [List.mem_append, List.mem_singleton] at hx hy
    have key : ∀ z ∈ c.sess, isFor m' u' z = true → isFor m' u' ⟨m, nextF c, u, false⟩ = true → False := fun z hz hz1 hz2 => by
      have e1 : m = m' ∧ u = u' := by
        simp only [isFor, Bool.and_eq_true, decide_eq_true_eq, sameB_iff] at hz2
        exact ⟨hz2.1.1, hz2.1.2⟩
      rw [← e1.1, ← e1.2, hno z hz] at hz1
      cases hz1
    rcases hx with hx | rfl
    · rcases hy with hy | rfl
      · exact hg.one m' u' x hx y hy h1 h2
      · exact (key x hx h1 h2).elim
    · rcases hy with hy | rfl
      · exact (key y hy h2 h1).elim
      · rfl
  · rw [List.pairwise_append]
    refine ⟨hg.nums, by simp, fun x hx y hy => ?_⟩
    simp only [List.mem_singleton] at hy
    subst hy
    exact next_fresh hg x hx
  · intro m'
    unfold eachF
    simp only [List.filter_append, List.length_append]
    have h1 := hg.each m'
    unfold eachF at h1 hr
    by_cases e : m = m'
    · subst e
      simp [isOfMac]
      omega
    · have : ([⟨m, nextF c, u, false⟩] : List Sn).filter (isOfMac m') = [] := by simp [isOfMac, e]
      rw [this]
      simpa using h1

theorem good_drop {c : Cs} (hg : Good c) (m : List UInt8) (n : Int) : Good { c with sess := dropS c.sess m n } := by
  have hsub : (dropS c.sess m n).Sublist c.sess := List.filter_sublist
  refine ⟨hg.mac, hg.name1, hg.name, hg.secret, hg.most1, hg.most, ?_, fun x hx => hg.ids x (hsub.subset hx), hg.last, fun m u x hx y hy => hg.one m u x (hsub.subset hx) y (hsub.subset hy), hg.nums.sublist hsub, ?_, hg.gone, hg.goneM⟩
  · have := hsub.length_le; have := hg.len; simp only []; omega
  · intro m'
    have := (hsub.filter (isOfMac m')).length_le
    have h2 := hg.each m'
    unfold eachF at h2 ⊢
    simp only []
    omega

theorem good_end {c : Cs} (hg : Good c) (hgl : c.gone.length + 1 ≤ 1000000) {m : List UInt8} (hm : m.length = 6) (n : Int) : Good (endF c m n) := by
  unfold endF
  split
  · have h := good_drop hg m n
    refine ⟨h.mac, h.name1, h.name, h.secret, h.most1, h.most, h.len, h.ids, h.last, h.one, h.nums, h.each, by simp; omega, fun p hp => ?_⟩
    simp only [List.mem_append, List.mem_singleton] at hp
    rcases hp with hp | rfl
    · exact hg.goneM p hp
    · exact hm
  · exact hg
theorem good_admit {c : Cs} (hg : Good c) {m : List UInt8} (hm : m.length = 6) (s u : ByteArray) : Good (admitF c m s u).2.2 := by
  unfold admitF
  by_cases h1 : servesF s = false
  · rw [if_pos h1]; exact hg
  · rw [if_neg h1]
    by_cases h2 : unusedF c m u ≠ 0
    · rw [if_pos h2]; exact hg
    · rw [if_neg h2]
      by_cases h3 : roomF c m = false
      · rw [if_pos h3]; exact hg
      · rw [if_neg h3]; exact good_begin hg hm (by omega) (by simpa using h3)
end Go.Proofs.YtgaamehjdoakhaaDoor

/- The contract of the concentrator's inner end: a session ends, if it is one. -/
namespace Go.Proofs.YtgaamehjdoakhaaDoor
open Go.RowKit

theorem infoId : (Tryd.prog.info? 27).map (fun i => (i.zero, i.size, i.bytes)) = some (some (.agg #[.int .u8 0, .int .u8 0, .int .u8 0, .int .u8 0, .int .u8 0, .int .u8 0, .int .i64 0]), 7, 16) := by kernel_rfl

/-- The seven cells of an id's box. -/
def Box7 (W : World) (b : Nat) (cs : Array Value) : Prop := W.heap[b]? = some (.cells cs 27 (0, 0))
theorem Box7.lt {W : World} {b : Nat} {cs : Array Value} (h : Box7 W b cs) : b < W.heap.size := (Array.getElem?_eq_some_iff.1 h).1
theorem Box7.cell {W : World} {b : Nat} {cs : Array Value} (h : Box7 W b cs) (j : Nat) : W.cell? ⟨b, j, none⟩ = cs[j]? := cell_of_row W b j _ _ _ h
theorem Box7.kept {T : Nat → Prop} {W W' : World} {b : Nat} {cs : Array Value} (h : Box7 W b cs) (hk : Kept T W W') (hn : ¬ T b) : Box7 W' b cs := (hk.block b h.lt hn).trans h

set_option maxHeartbeats 4000000 in
set_option maxRecDepth 100000 in
theorem end_none {S : Nat → Prop} (b : Nat) (c : Cs) (hg : Good c) (m : List UInt8) (hm : m.length = 6) (n : Int) (hn : In64 n) (w : World) (hA : CAt S w b c) (hf : findS c.sess m n = none) :
    Calls Tryd.prog 27 #[.pointer (some ⟨b, 0, none⟩), idV m n] w fun e w' => e = .returned (.tuple #[]) ∧ Kept (fun _ => False) w w' := by
  obtain ⟨mb, gv, hC, hS⟩ := hA
  obtain ⟨y0, y1, y2, y3, y4, y5, hy⟩ := six_cells hm
  obtain ⟨x0, x1, x2, x3, x4, x5, hx⟩ := six_cells hg.mac
  have hiv : idV m n = .agg #[.int .u8 y0, .int .u8 y1, .int .u8 y2, .int .u8 y3, .int .u8 y4, .int .u8 y5, .int .i64 n] := by unfold idV idCells; rw [hy]; rfl
  obtain ⟨w1, hw1⟩ : ∃ w1, w1 = w.alloc (.cells #[.int .u8 y0, .int .u8 y1, .int .u8 y2, .int .u8 y3, .int .u8 y4, .int .u8 y5, .int .i64 n] 27) := ⟨_, rfl⟩
  have hk1 : Kept (fun _ => False) w w1 := by rw [hw1]; exact (Kept.refl _ w).alloc _
  have hB1 : Box7 w1 w.heap.size #[.int .u8 y0, .int .u8 y1, .int .u8 y2, .int .u8 y3, .int .u8 y4, .int .u8 y5, .int .i64 n] := by rw [hw1]; exact heap_alloc_new w _
  have hC1 := hC.kept0 hk1
  have hcc := hC1.cells hx
  have ql : ∀ W, Kept (fun _ => False) w1 W → Sem.run Tryd.prog (Instr.lookup 31 (.map (some mb)) (.agg #[.int .u8 y0, .int .u8 y1, .int .u8 y2, .int .u8 y3, .int .u8 y4, .int .u8 y5, .int .i64 n]) true) W = .ok (.tuple #[.agg #[.string ⟨#[]⟩, .bool false], .bool false]) W := fun W h => by
    have := (hC1.kept0 h).ses.look true hm hn
    rw [hf, hiv] at this
    exact this
  have q10 : ∀ W, Kept (fun _ => False) w1 W → W.cell? ⟨b, 10, none⟩ = some (.map (some mb)) := fun W h => (h.cell (p := ⟨b, 10, none⟩) (lt_of_cell hcc.c10) id).trans hcc.c10
  have r0 : ∀ W, Kept (fun _ => False) w1 W → W.cell? ⟨w.heap.size, 0, none⟩ = some (.int .u8 y0) := fun W h => (hB1.kept h id).cell 0
  have r1 : ∀ W, Kept (fun _ => False) w1 W → W.cell? ⟨w.heap.size, 1, none⟩ = some (.int .u8 y1) := fun W h => (hB1.kept h id).cell 1
  have r2 : ∀ W, Kept (fun _ => False) w1 W → W.cell? ⟨w.heap.size, 2, none⟩ = some (.int .u8 y2) := fun W h => (hB1.kept h id).cell 2
  have r3 : ∀ W, Kept (fun _ => False) w1 W → W.cell? ⟨w.heap.size, 3, none⟩ = some (.int .u8 y3) := fun W h => (hB1.kept h id).cell 3
  have r4 : ∀ W, Kept (fun _ => False) w1 W → W.cell? ⟨w.heap.size, 4, none⟩ = some (.int .u8 y4) := fun W h => (hB1.kept h id).cell 4
  have r5 : ∀ W, Kept (fun _ => False) w1 W → W.cell? ⟨w.heap.size, 5, none⟩ = some (.int .u8 y5) := fun W h => (hB1.kept h id).cell 5
  have r6 : ∀ W, Kept (fun _ => False) w1 W → W.cell? ⟨w.heap.size, 6, none⟩ = some (.int .i64 n) := fun W h => (hB1.kept h id).cell 6
  rw [hiv]
  have hsz1 : w1.heap.size = w.heap.size + 1 := by rw [hw1]; simp
  have Hk1 := hid hk1
  have hL : (w1.alloc (.cells #[.string ⟨#[]⟩, .bool false] 82)).drew.heap[w.heap.size + 1]? = some (.cells #[.string ⟨#[]⟩, .bool false] 82 (0, 0)) := by rw [← hsz1]; exact heap_alloc_new w1 _
  go_enter Tryd.func27, Tryd.ntmps27
  go_wp2
  rw [← hw1]
  clear hw1
  refine wp_region_held_drew (S := Kept (fun _ => False) w1) (by kernel_rfl) ((Kept.refl _ w1).drew) (fun hSd => ?_)
  refine wpAnyH_take (i := 0) (v := ?_) rfl (by kernel_rfl) (by kernel_rfl) (by kernel_rfl) (fun _ _ _ h => h) (Or.inl ⟨by kernel_rfl, fun W hSW => by go_simp; try with_reducible rfl⟩) (by assumption) ?_
  try simp only [List.getElem_toArray]
  try simp only [List.getElem_cons_succ]
  try simp only [List.getElem_cons_zero]
  try simp only [Act.put]
  try simp only [List.setIfInBounds_toArray]
  try simp only [List.set_cons_succ]
  try simp only [List.set_cons_zero]
  refine wpAnyH_take (i := 1) (v := ?_) rfl (by kernel_rfl) (by kernel_rfl) (by kernel_rfl) (fun _ _ _ h => h) (Or.inl ⟨by kernel_rfl, fun W hSW => by go_simp; try with_reducible rfl⟩) (by assumption) ?_
  try simp only [List.getElem_toArray]
  try simp only [List.getElem_cons_succ]
  try simp only [List.getElem_cons_zero]
  try simp only [Act.put]
  try simp only [List.setIfInBounds_toArray]
  try simp only [List.set_cons_succ]
  try simp only [List.set_cons_zero]
  refine wpAnyH_take (i := 2) (v := ?_) rfl (by kernel_rfl) (by kernel_rfl) (by kernel_rfl) (fun _ _ _ h => h) (Or.inl ⟨by kernel_rfl, fun W hSW => by go_simp; try with_reducible rfl⟩) (by assumption) ?_
  try simp only [List.getElem_toArray]
  try simp only [List.getElem_cons_succ]
  try simp only [List.getElem_cons_zero]
  try simp only [Act.put]
  try simp only [List.setIfInBounds_toArray]
  try simp only [List.set_cons_succ]
  try simp only [List.set_cons_zero]
  refine wpAnyH_take (i := 3) (v := ?_) rfl (by kernel_rfl) (by kernel_rfl) (by kernel_rfl) (fun _ _ _ h => h) (Or.inl ⟨by kernel_rfl, fun W hSW => by go_simp; try with_reducible rfl⟩) (by assumption) ?_
  try simp only [List.getElem_toArray]
  try simp only [List.getElem_cons_succ]
  try simp only [List.getElem_cons_zero]
  try simp only [Act.put]
  try simp only [List.setIfInBounds_toArray]
  try simp only [List.set_cons_succ]
  try simp only [List.set_cons_zero]
  refine wpAnyH_take (i := 4) (v := ?_) rfl (by kernel_rfl) (by kernel_rfl) (by kernel_rfl) (fun _ _ _ h => h) (Or.inl ⟨by kernel_rfl, fun W hSW => by go_simp; try with_reducible rfl⟩) (by assumption) ?_
  try simp only [List.getElem_toArray]
  try simp only [List.getElem_cons_succ]
  try simp only [List.getElem_cons_zero]
  try simp only [Act.put]
  try simp only [List.setIfInBounds_toArray]
  try simp only [List.set_cons_succ]
  try simp only [List.set_cons_zero]
  refine wpAnyH_take (i := 5) (v := ?_) rfl (by kernel_rfl) (by kernel_rfl) (by kernel_rfl) (fun _ _ _ h => h) (Or.inl ⟨by kernel_rfl, fun W hSW => by go_simp; try with_reducible rfl⟩) (by assumption) ?_
  try simp only [List.getElem_toArray]
  try simp only [List.getElem_cons_succ]
  try simp only [List.getElem_cons_zero]
  try simp only [Act.put]
  try simp only [List.setIfInBounds_toArray]
  try simp only [List.set_cons_succ]
  try simp only [List.set_cons_zero]
  refine wpAnyH_take (i := 6) (v := ?_) rfl (by kernel_rfl) (by kernel_rfl) (by kernel_rfl) (fun _ _ _ h => h) (Or.inl ⟨by kernel_rfl, fun W hSW => by go_simp; try with_reducible rfl⟩) (by assumption) ?_
  try simp only [List.getElem_toArray]
  try simp only [List.getElem_cons_succ]
  try simp only [List.getElem_cons_zero]
  try simp only [Act.put]
  try simp only [List.setIfInBounds_toArray]
  try simp only [List.set_cons_succ]
  try simp only [List.set_cons_zero]
  refine wpAnyH_take (i := 7) (v := ?_) rfl (by kernel_rfl) (by kernel_rfl) (by kernel_rfl) (fun _ _ _ h => h) (Or.inl ⟨by kernel_rfl, fun W hSW => by go_simp; try with_reducible rfl⟩) (by assumption) ?_
  try simp only [List.getElem_toArray]
  try simp only [List.getElem_cons_succ]
  try simp only [List.getElem_cons_zero]
  try simp only [Act.put]
  try simp only [List.setIfInBounds_toArray]
  try simp only [List.set_cons_succ]
  try simp only [List.set_cons_zero]
  refine wpAnyH_take (i := 8) (v := ?_) rfl (by kernel_rfl) (by kernel_rfl) (by kernel_rfl) (fun _ _ _ h => h) (Or.inl ⟨by kernel_rfl, fun W hSW => by go_simp; try with_reducible rfl⟩) (by assumption) ?_
  try simp only [List.getElem_toArray]
  try simp only [List.getElem_cons_succ]
  try simp only [List.getElem_cons_zero]
  try simp only [Act.put]
  try simp only [List.setIfInBounds_toArray]
  try simp only [List.set_cons_succ]
  try simp only [List.set_cons_zero]
  refine wpAnyH_ready (rs := [9]) (by kernel_rfl) (by simp) ?_
  refine AllReadyH.cons rfl (fun K hK => ?_) AllReadyH.nil
  go_simp
  refine hK.out _ _ (((Kept.refl _ w1).alloc _).drew) (fun _ => ?_)
  clear hK K
  try simp only [List.getElem_toArray]
  try simp only [List.getElem_cons_succ]
  try simp only [List.getElem_cons_zero]
  try simp only [Act.put]
  try simp only [List.setIfInBounds_toArray]
  try simp only [List.set_cons_succ]
  try simp only [List.set_cons_zero]
  refine wpAnyH_ready (rs := [10]) (by kernel_rfl) (by simp) ?_
  refine AllReadyH.cons rfl (fun K hK => ?_) AllReadyH.nil
  refine step_store_row rfl _ _ _ rfl (w.heap.size + 1) #[.string ⟨#[]⟩, .bool false] #[.string ⟨#[]⟩, .bool false] rfl rfl hL (by kernel_rfl) rfl (by simp [Value.oneCell']) ?_
  refine hK.out _ _ (((Kept.refl _ w1).alloc _).drew.setRow (Or.inl (by omega)) _) (fun _ => ?_)
  clear hK K
  try simp only [List.getElem_toArray]
  try simp only [List.getElem_cons_succ]
  try simp only [List.getElem_cons_zero]
  try simp only [Act.put]
  try simp only [List.setIfInBounds_toArray]
  try simp only [List.set_cons_succ]
  try simp only [List.set_cons_zero]
  refine wpAnyH_take (i := 11) (v := ?_) rfl (by kernel_rfl) (by kernel_rfl) (by kernel_rfl) (fun _ _ _ h => h) (Or.inl ⟨by kernel_rfl, fun W hSW => by go_simp; try with_reducible rfl⟩) (by assumption) ?_
  try simp only [List.getElem_toArray]
  try simp only [List.getElem_cons_succ]
  try simp only [List.getElem_cons_zero]
  try simp only [Act.put]
  try simp only [List.setIfInBounds_toArray]
  try simp only [List.set_cons_succ]
  try simp only [List.set_cons_zero]
  refine wpAnyH_done (by kernel_rfl) ?_ _
  have K3 : Kept (fun _ => False) w1 ((w1.alloc (.cells #[.string ⟨#[]⟩, .bool false] 82)).drew.setRow (w.heap.size + 1) #[.string ⟨#[]⟩, .bool false]) := ((Kept.refl _ w1).alloc _).drew.setRow (Or.inl (by omega)) _
  have hL3 := setRow_heap (w1.alloc (.cells #[.string ⟨#[]⟩, .bool false] 82)).drew (w.heap.size + 1) #[.string ⟨#[]⟩, .bool false] #[.string ⟨#[]⟩, .bool false] 82 (0, 0) hL
  generalize (w1.alloc (.cells #[.string ⟨#[]⟩, .bool false] 82)).drew.setRow (w.heap.size + 1) #[.string ⟨#[]⟩, .bool false] = w3 at *
  go_wp2
  go_end0
  exact ⟨rfl, Hk1.out.trans K3⟩

set_option maxHeartbeats 4000000 in
set_option maxRecDepth 100000 in
theorem end_some {S : Nat → Prop} (b : Nat) (c : Cs) (hg : Good c) (hgl : c.gone.length + 1 ≤ 1000000) (m : List UInt8) (hm : m.length = 6) (n : Int) (hn : In64 n) (w : World) (hA : CAt S w b c) (x : Sn) (hf : findS c.sess m n = some x) :
    Calls Tryd.prog 27 #[.pointer (some ⟨b, 0, none⟩), idV m n] w fun e w' => e = .returned (.tuple #[]) ∧ CNext S w w' b { c with sess := dropS c.sess m n, gone := c.gone ++ [(m, n)] } := by
  obtain ⟨i0, hi, hz0, hz1, hz2⟩ := info_parts infoId
  obtain ⟨mb, gv, hC, hS⟩ := hA
  obtain ⟨y0, y1, y2, y3, y4, y5, hy⟩ := six_cells hm
  obtain ⟨x0, x1, x2, x3, x4, x5, hx⟩ := six_cells hg.mac
  have hiv : idV m n = .agg #[.int .u8 y0, .int .u8 y1, .int .u8 y2, .int .u8 y3, .int .u8 y4, .int .u8 y5, .int .i64 n] := by unfold idV idCells; rw [hy]; rfl
  obtain ⟨w1, hw1⟩ : ∃ w1, w1 = w.alloc (.cells #[.int .u8 y0, .int .u8 y1, .int .u8 y2, .int .u8 y3, .int .u8 y4, .int .u8 y5, .int .i64 n] 27) := ⟨_, rfl⟩
  have hk1 : Kept (fun _ => False) w w1 := by rw [hw1]; exact (Kept.refl _ w).alloc _
  have hB1 : Box7 w1 w.heap.size #[.int .u8 y0, .int .u8 y1, .int .u8 y2, .int .u8 y3, .int .u8 y4, .int .u8 y5, .int .i64 n] := by rw [hw1]; exact heap_alloc_new w _
  have hC1 := hC.kept0 hk1
  have hcc := hC1.cells hx
  have ql : ∀ W, Kept (fun _ => False) w1 W → Sem.run Tryd.prog (Instr.lookup 31 (.map (some mb)) (.agg #[.int .u8 y0, .int .u8 y1, .int .u8 y2, .int .u8 y3, .int .u8 y4, .int .u8 y5, .int .i64 n]) true) W = .ok (.tuple #[.agg #[.string x.uniq, .bool x.used], .bool true]) W := fun W h => by
    have := (hC1.kept0 h).ses.look true hm hn
    rw [hf, hiv] at this
    exact this
  have q10 : ∀ W, Kept (fun _ => False) w1 W → W.cell? ⟨b, 10, none⟩ = some (.map (some mb)) := fun W h => (h.cell (p := ⟨b, 10, none⟩) (lt_of_cell hcc.c10) id).trans hcc.c10
  have r0 : ∀ W, Kept (fun _ => False) w1 W → W.cell? ⟨w.heap.size, 0, none⟩ = some (.int .u8 y0) := fun W h => (hB1.kept h id).cell 0
  have r1 : ∀ W, Kept (fun _ => False) w1 W → W.cell? ⟨w.heap.size, 1, none⟩ = some (.int .u8 y1) := fun W h => (hB1.kept h id).cell 1
  have r2 : ∀ W, Kept (fun _ => False) w1 W → W.cell? ⟨w.heap.size, 2, none⟩ = some (.int .u8 y2) := fun W h => (hB1.kept h id).cell 2
  have r3 : ∀ W, Kept (fun _ => False) w1 W → W.cell? ⟨w.heap.size, 3, none⟩ = some (.int .u8 y3) := fun W h => (hB1.kept h id).cell 3
  have r4 : ∀ W, Kept (fun _ => False) w1 W → W.cell? ⟨w.heap.size, 4, none⟩ = some (.int .u8 y4) := fun W h => (hB1.kept h id).cell 4
  have r5 : ∀ W, Kept (fun _ => False) w1 W → W.cell? ⟨w.heap.size, 5, none⟩ = some (.int .u8 y5) := fun W h => (hB1.kept h id).cell 5
  have r6 : ∀ W, Kept (fun _ => False) w1 W → W.cell? ⟨w.heap.size, 6, none⟩ = some (.int .i64 n) := fun W h => (hB1.kept h id).cell 6
  rw [hiv]
  have hsz1 : w1.heap.size = w.heap.size + 1 := by rw [hw1]; simp
  have Hk1 := hid hk1
  have hL : (w1.alloc (.cells #[.string ⟨#[]⟩, .bool false] 82)).drew.heap[w.heap.size + 1]? = some (.cells #[.string ⟨#[]⟩, .bool false] 82 (0, 0)) := by rw [← hsz1]; exact heap_alloc_new w1 _
  go_enter Tryd.func27, Tryd.ntmps27
  go_wp2
  rw [← hw1]
  clear hw1
  refine wp_region_held_drew (S := Kept (fun _ => False) w1) (by kernel_rfl) ((Kept.refl _ w1).drew) (fun hSd => ?_)
  refine wpAnyH_take (i := 0) (v := ?_) rfl (by kernel_rfl) (by kernel_rfl) (by kernel_rfl) (fun _ _ _ h => h) (Or.inl ⟨by kernel_rfl, fun W hSW => by go_simp; try with_reducible rfl⟩) (by assumption) ?_
  try simp only [List.getElem_toArray]
  try simp only [List.getElem_cons_succ]
  try simp only [List.getElem_cons_zero]
  try simp only [Act.put]
  try simp only [List.setIfInBounds_toArray]
  try simp only [List.set_cons_succ]
  try simp only [List.set_cons_zero]
  refine wpAnyH_take (i := 1) (v := ?_) rfl (by kernel_rfl) (by kernel_rfl) (by kernel_rfl) (fun _ _ _ h => h) (Or.inl ⟨by kernel_rfl, fun W hSW => by go_simp; try with_reducible rfl⟩) (by assumption) ?_
  try simp only [List.getElem_toArray]
  try simp only [List.getElem_cons_succ]
  try simp only [List.getElem_cons_zero]
  try simp only [Act.put]
  try simp only [List.setIfInBounds_toArray]
  try simp only [List.set_cons_succ]
  try simp only [List.set_cons_zero]
  refine wpAnyH_take (i := 2) (v := ?_) rfl (by kernel_rfl) (by kernel_rfl) (by kernel_rfl) (fun _ _ _ h => h) (Or.inl ⟨by kernel_rfl, fun W hSW => by go_simp; try with_reducible rfl⟩) (by assumption) ?_
  try simp only [List.getElem_toArray]
  try simp only [List.getElem_cons_succ]
  try simp only [List.getElem_cons_zero]
  try simp only [Act.put]
  try simp only [List.setIfInBounds_toArray]
  try simp only [List.set_cons_succ]
  try simp only [List.set_cons_zero]
  refine wpAnyH_take (i := 3) (v := ?_) rfl (by kernel_rfl) (by kernel_rfl) (by kernel_rfl) (fun _ _ _ h => h) (Or.inl ⟨by kernel_rfl, fun W hSW => by go_simp; try with_reducible rfl⟩) (by assumption) ?_
  try simp only [List.getElem_toArray]
  try simp only [List.getElem_cons_succ]
  try simp only [List.getElem_cons_zero]
  try simp only [Act.put]
  try simp only [List.setIfInBounds_toArray]
  try simp only [List.set_cons_succ]
  try simp only [List.set_cons_zero]
  refine wpAnyH_take (i := 4) (v := ?_) rfl (by kernel_rfl) (by kernel_rfl) (by kernel_rfl) (fun _ _ _ h => h) (Or.inl ⟨by kernel_rfl, fun W hSW => by go_simp; try with_reducible rfl⟩) (by assumption) ?_
  try simp only [List.getElem_toArray]
  try simp only [List.getElem_cons_succ]
  try simp only [List.getElem_cons_zero]
  try simp only [Act.put]
  try simp only [List.setIfInBounds_toArray]
  try simp only [List.set_cons_succ]
  try simp only [List.set_cons_zero]
  refine wpAnyH_take (i := 5) (v := ?_) rfl (by kernel_rfl) (by kernel_rfl) (by kernel_rfl) (fun _ _ _ h => h) (Or.inl ⟨by kernel_rfl, fun W hSW => by go_simp; try with_reducible rfl⟩) (by assumption) ?_
  try simp only [List.getElem_toArray]
  try simp only [List.getElem_cons_succ]
  try simp only [List.getElem_cons_zero]
  try simp only [Act.put]
  try simp only [List.setIfInBounds_toArray]
  try simp only [List.set_cons_succ]
  try simp only [List.set_cons_zero]
  refine wpAnyH_take (i := 6) (v := ?_) rfl (by kernel_rfl) (by kernel_rfl) (by kernel_rfl) (fun _ _ _ h => h) (Or.inl ⟨by kernel_rfl, fun W hSW => by go_simp; try with_reducible rfl⟩) (by assumption) ?_
  try simp only [List.getElem_toArray]
  try simp only [List.getElem_cons_succ]
  try simp only [List.getElem_cons_zero]
  try simp only [Act.put]
  try simp only [List.setIfInBounds_toArray]
  try simp only [List.set_cons_succ]
  try simp only [List.set_cons_zero]
  refine wpAnyH_take (i := 7) (v := ?_) rfl (by kernel_rfl) (by kernel_rfl) (by kernel_rfl) (fun _ _ _ h => h) (Or.inl ⟨by kernel_rfl, fun W hSW => by go_simp; try with_reducible rfl⟩) (by assumption) ?_
  try simp only [List.getElem_toArray]
  try simp only [List.getElem_cons_succ]
  try simp only [List.getElem_cons_zero]
  try simp only [Act.put]
  try simp only [List.setIfInBounds_toArray]
  try simp only [List.set_cons_succ]
  try simp only [List.set_cons_zero]
  refine wpAnyH_take (i := 8) (v := ?_) rfl (by kernel_rfl) (by kernel_rfl) (by kernel_rfl) (fun _ _ _ h => h) (Or.inl ⟨by kernel_rfl, fun W hSW => by go_simp; try with_reducible rfl⟩) (by assumption) ?_
  try simp only [List.getElem_toArray]
  try simp only [List.getElem_cons_succ]
  try simp only [List.getElem_cons_zero]
  try simp only [Act.put]
  try simp only [List.setIfInBounds_toArray]
  try simp only [List.set_cons_succ]
  try simp only [List.set_cons_zero]
  refine wpAnyH_ready (rs := [9]) (by kernel_rfl) (by simp) ?_
  refine AllReadyH.cons rfl (fun K hK => ?_) AllReadyH.nil
  go_simp
  refine hK.out _ _ (((Kept.refl _ w1).alloc _).drew) (fun _ => ?_)
  clear hK K
  try simp only [List.getElem_toArray]
  try simp only [List.getElem_cons_succ]
  try simp only [List.getElem_cons_zero]
  try simp only [Act.put]
  try simp only [List.setIfInBounds_toArray]
  try simp only [List.set_cons_succ]
  try simp only [List.set_cons_zero]
  refine wpAnyH_ready (rs := [10]) (by kernel_rfl) (by simp) ?_
  refine AllReadyH.cons rfl (fun K hK => ?_) AllReadyH.nil
  refine step_store_row rfl _ _ _ rfl (w.heap.size + 1) #[.string ⟨#[]⟩, .bool false] #[.string x.uniq, .bool x.used] rfl rfl hL (by kernel_rfl) rfl (by simp [Value.oneCell']) ?_
  refine hK.out _ _ (((Kept.refl _ w1).alloc _).drew.setRow (Or.inl (by omega)) _) (fun _ => ?_)
  clear hK K
  try simp only [List.getElem_toArray]
  try simp only [List.getElem_cons_succ]
  try simp only [List.getElem_cons_zero]
  try simp only [Act.put]
  try simp only [List.setIfInBounds_toArray]
  try simp only [List.set_cons_succ]
  try simp only [List.set_cons_zero]
  refine wpAnyH_take (i := 11) (v := ?_) rfl (by kernel_rfl) (by kernel_rfl) (by kernel_rfl) (fun _ _ _ h => h) (Or.inl ⟨by kernel_rfl, fun W hSW => by go_simp; try with_reducible rfl⟩) (by assumption) ?_
  try simp only [List.getElem_toArray]
  try simp only [List.getElem_cons_succ]
  try simp only [List.getElem_cons_zero]
  try simp only [Act.put]
  try simp only [List.setIfInBounds_toArray]
  try simp only [List.set_cons_succ]
  try simp only [List.set_cons_zero]
  refine wpAnyH_done (by kernel_rfl) ?_ _
  have K3 : Kept (fun _ => False) w1 ((w1.alloc (.cells #[.string ⟨#[]⟩, .bool false] 82)).drew.setRow (w.heap.size + 1) #[.string x.uniq, .bool x.used]) := ((Kept.refl _ w1).alloc _).drew.setRow (Or.inl (by omega)) _
  have hL3 := setRow_heap (w1.alloc (.cells #[.string ⟨#[]⟩, .bool false] 82)).drew (w.heap.size + 1) #[.string ⟨#[]⟩, .bool false] #[.string x.uniq, .bool x.used] 82 (0, 0) hL
  generalize (w1.alloc (.cells #[.string ⟨#[]⟩, .bool false] 82)).drew.setRow (w.heap.size + 1) #[.string x.uniq, .bool x.used] = w3 at *
  have hC3 := hC1.kept0 K3
  have hB3 := hB1.kept K3 id
  obtain ⟨F, hF1, hF2, hF3, hF4⟩ : ∃ F, (∀ ty, Sem.run Tryd.prog (Builtin.delete_ #[31, 27] ty #[.map (some mb), .agg #[.int .u8 y0, .int .u8 y1, .int .u8 y2, .int .u8 y3, .int .u8 y4, .int .u8 y5, .int .i64 n]]) w3.drew = .ok (.tuple #[]) F) ∧ SsIn F mb (dropS c.sess m n) ∧ w3.drew.grownBy F (some mb) ∧ F.heap.size = w3.drew.heap.size := by
    obtain ⟨F, h1, h2, h3, h4⟩ := hC3.drew.ses.drop hm hn 0
    rw [hiv] at h1
    exact ⟨F, fun _ => h1, h2, h3, h4⟩
  have hSF : Kept (fun i => i = mb) w3 F := (Kept.refl _ w3).drew.grown hF3 (fun j hj => by cases hj; exact Or.inr rfl)
  have hnm := hC3.nm
  have hmlt : mb < w.heap.size := hC.lt (Or.inr (Or.inl rfl))
  have hblt : b < w.heap.size := hC.lt (Or.inl rfl)
  have hcc3 := hC3.cells hx
  have s10 : ∀ W, Kept (fun i => i = mb) w3 W → W.cell? ⟨b, 10, none⟩ = some (.map (some mb)) := fun W h => (h.cell (p := ⟨b, 10, none⟩) (lt_of_cell hcc3.c10) (fun e => hnm e.symm)).trans hcc3.c10
  have t0 : ∀ W, Kept (fun i => i = mb) w3 W → W.cell? ⟨w.heap.size, 0, none⟩ = some (.int .u8 y0) := fun W h => (hB3.kept h (by show w.heap.size ≠ mb; omega)).cell 0
  have t1 : ∀ W, Kept (fun i => i = mb) w3 W → W.cell? ⟨w.heap.size, 1, none⟩ = some (.int .u8 y1) := fun W h => (hB3.kept h (by show w.heap.size ≠ mb; omega)).cell 1
  have t2 : ∀ W, Kept (fun i => i = mb) w3 W → W.cell? ⟨w.heap.size, 2, none⟩ = some (.int .u8 y2) := fun W h => (hB3.kept h (by show w.heap.size ≠ mb; omega)).cell 2
  have t3 : ∀ W, Kept (fun i => i = mb) w3 W → W.cell? ⟨w.heap.size, 3, none⟩ = some (.int .u8 y3) := fun W h => (hB3.kept h (by show w.heap.size ≠ mb; omega)).cell 3
  have t4 : ∀ W, Kept (fun i => i = mb) w3 W → W.cell? ⟨w.heap.size, 4, none⟩ = some (.int .u8 y4) := fun W h => (hB3.kept h (by show w.heap.size ≠ mb; omega)).cell 4
  have t5 : ∀ W, Kept (fun i => i = mb) w3 W → W.cell? ⟨w.heap.size, 5, none⟩ = some (.int .u8 y5) := fun W h => (hB3.kept h (by show w.heap.size ≠ mb; omega)).cell 5
  have t6 : ∀ W, Kept (fun i => i = mb) w3 W → W.cell? ⟨w.heap.size, 6, none⟩ = some (.int .i64 n) := fun W h => (hB3.kept h (by show w.heap.size ≠ mb; omega)).cell 6
  clear ql q10 r0 r1 r2 r3 r4 r5 r6
  go_wp2
  refine wp_region_held_drew (S := Kept (fun i => i = mb) w3) (by kernel_rfl) ((Kept.refl _ w3).drew) (fun hSd => ?_)
  refine wpAnyH_take (i := 0) (v := ?_) rfl (by kernel_rfl) (by kernel_rfl) (by kernel_rfl) (fun _ _ _ h => h) (Or.inl ⟨by kernel_rfl, fun W hSW => by go_simp; try with_reducible rfl⟩) (by assumption) ?_
  try simp only [List.getElem_toArray]
  try simp only [List.getElem_cons_succ]
  try simp only [List.getElem_cons_zero]
  try simp only [Act.put]
  try simp only [List.setIfInBounds_toArray]
  try simp only [List.set_cons_succ]
  try simp only [List.set_cons_zero]
  refine wpAnyH_take (i := 1) (v := ?_) rfl (by kernel_rfl) (by kernel_rfl) (by kernel_rfl) (fun _ _ _ h => h) (Or.inl ⟨by kernel_rfl, fun W hSW => by go_simp; try with_reducible rfl⟩) (by assumption) ?_
  try simp only [List.getElem_toArray]
  try simp only [List.getElem_cons_succ]
  try simp only [List.getElem_cons_zero]
  try simp only [Act.put]
  try simp only [List.setIfInBounds_toArray]
  try simp only [List.set_cons_succ]
  try simp only [List.set_cons_zero]
  refine wpAnyH_take (i := 2) (v := ?_) rfl (by kernel_rfl) (by kernel_rfl) (by kernel_rfl) (fun _ _ _ h => h) (Or.inl ⟨by kernel_rfl, fun W hSW => by go_simp; try with_reducible rfl⟩) (by assumption) ?_
  try simp only [List.getElem_toArray]
  try simp only [List.getElem_cons_succ]
  try simp only [List.getElem_cons_zero]
  try simp only [Act.put]
  try simp only [List.setIfInBounds_toArray]
  try simp only [List.set_cons_succ]
  try simp only [List.set_cons_zero]
  refine wpAnyH_take (i := 3) (v := ?_) rfl (by kernel_rfl) (by kernel_rfl) (by kernel_rfl) (fun _ _ _ h => h) (Or.inl ⟨by kernel_rfl, fun W hSW => by go_simp; try with_reducible rfl⟩) (by assumption) ?_
  try simp only [List.getElem_toArray]
  try simp only [List.getElem_cons_succ]
  try simp only [List.getElem_cons_zero]
  try simp only [Act.put]
  try simp only [List.setIfInBounds_toArray]
  try simp only [List.set_cons_succ]
  try simp only [List.set_cons_zero]
  refine wpAnyH_take (i := 4) (v := ?_) rfl (by kernel_rfl) (by kernel_rfl) (by kernel_rfl) (fun _ _ _ h => h) (Or.inl ⟨by kernel_rfl, fun W hSW => by go_simp; try with_reducible rfl⟩) (by assumption) ?_
  try simp only [List.getElem_toArray]
  try simp only [List.getElem_cons_succ]
  try simp only [List.getElem_cons_zero]
  try simp only [Act.put]
  try simp only [List.setIfInBounds_toArray]
  try simp only [List.set_cons_succ]
  try simp only [List.set_cons_zero]
  refine wpAnyH_ready (rs := [5]) (by kernel_rfl) (by simp) ?_
  refine AllReadyH.cons rfl (fun K hK => ?_) AllReadyH.nil
  go_simp
  refine hK.out _ _ (hSF) (fun _ => ?_)
  clear hK K
  try simp only [List.getElem_toArray]
  try simp only [List.getElem_cons_succ]
  try simp only [List.getElem_cons_zero]
  try simp only [Act.put]
  try simp only [List.setIfInBounds_toArray]
  try simp only [List.set_cons_succ]
  try simp only [List.set_cons_zero]
  refine wpAnyH_done (by kernel_rfl) ?_ _
  have hCF := hC3.drew.turned hF3 hF2
  have hBF := hB3.kept hSF (by show w.heap.size ≠ mb; omega)
  have hccF := hCF.cells (c := { c with sess := dropS c.sess m n }) hx
  clear s10 t0 t1 t2 t3 t4 t5 t6
  have hFs : w.heap.size < F.heap.size := hBF.lt
  have hown : OwnI F 0 gv c.gone := hCF.own
  have hglt : ∀ i, gv.ownBlock = some i → i < w.heap.size := fun i hi => hC.lt (Or.inr (Or.inr hi))
  have KwF : Kept S w F := (((Hk1.out.trans K3).mono (T := S) (fun _ _ h => h.elim))).andThen hSF (fun i _ e => (hS i).2 (Or.inr (Or.inl e)))
  obtain ⟨A, hA'⟩ : ∃ A, A = (F.alloc (.cells #[.int .u8 y0, .int .u8 y1, .int .u8 y2, .int .u8 y3, .int .u8 y4, .int .u8 y5, .int .i64 n] 27)).drew := ⟨_, rfl⟩
  have HA' := hid hA'
  have kFA : Kept (fun _ => False) F A := by rw [hA']; exact ((Kept.refl _ F).alloc _).drew
  have hAown : OwnI A 0 gv c.gone := hown.same (fun i hi => kFA.block i (by have := hglt i hi; omega) id)
  have hnew : A.heap[F.heap.size]? = some (.cells #[.int .u8 y0, .int .u8 y1, .int .u8 y2, .int .u8 y3, .int .u8 y4, .int .u8 y5, .int .i64 n] 27 (0, 0)) := by rw [hA']; exact heap_alloc_new F _
  obtain ⟨v', A', hrun, hown', hgrew⟩ := owned_append (P := Tryd.prog) (t := 32) (bytes := 16) Tryd.underlying32 hi hz0 hz1 hz2 rfl (by decide) hAown (Nat.zero_le _) ⟨F.heap.size, 0, none⟩ 1 1 [.int .u8 y0, .int .u8 y1, .int .u8 y2, .int .u8 y3, .int .u8 y4, .int .u8 y5, .int .i64 n] (by decide) rfl
    (fun j u hj => by rw [addr_add, cell_of_row A F.heap.size j _ _ _ hnew]; simpa using hj) (by intro u hu; simp at hu; rcases hu with rfl | rfl | rfl | rfl | rfl | rfl | rfl <;> rfl) (by omega) (by decide)
  obtain ⟨pv, cv, rfl⟩ := slice_of hown'
  have hrow : OwnI A' 0 (.slice pv (c.gone.length + 1) cv) (c.gone ++ [(m, n)]) := by
    have e : idRow (c.gone ++ [(m, n)]) = idRow c.gone ++ [.int .u8 y0, .int .u8 y1, .int .u8 y2, .int .u8 y3, .int .u8 y4, .int .u8 y5, .int .i64 n] := by
      have e2 : idCells m n = [.int .u8 y0, .int .u8 y1, .int .u8 y2, .int .u8 y3, .int .u8 y4, .int .u8 y5, .int .i64 n] := by unfold idCells; rw [hy]; rfl
      simp [idRow, e2]
    unfold OwnI
    rw [e, List.length_append]
    exact hown'
  have hGk : Kept (fun i => gv.ownBlock = some i) A A' := by
    rcases hgrew with ⟨g, cap, h1, _, h3⟩ | ⟨cap', _, h3, _⟩
    · exact h3.mono (fun i _ e => by rw [h1, e]; rfl)
    · exact h3.mono (fun _ _ h => h.elim)
  have hvb : ∀ i, (Value.slice pv (c.gone.length + 1) cv).ownBlock = some i → gv.ownBlock = some i ∨ w.heap.size ≤ i := fun i hi => by
    rcases hgrew with ⟨g, cap, h1, h2, h3⟩ | ⟨cap', h2, h3, _⟩
    · rw [h2] at hi
      rw [h1]
      exact Or.inl hi
    · rw [h2] at hi
      simp [Value.ownBlock] at hi
      right
      have := kFA.size
      omega
  have hCA : ConcIn A b mb gv { c with sess := dropS c.sess m n } := hCF.kept0 kFA
  have hbg : gv.ownBlock ≠ some b := hCA.ng
  have hmg : gv.ownBlock ≠ some mb := hCA.gm
  have hCA' : A'.heap[b]? = A.heap[b]? := hGk.block b (by have := kFA.size; omega) hbg
  have hCB : ConcIn A' b mb gv { c with sess := dropS c.sess m n } → ConcIn (A'.setCell ⟨b, 12, none⟩ (.slice pv (c.gone.length + 1) cv)) b mb (.slice pv (c.gone.length + 1) cv) { c with sess := dropS c.sess m n, gone := c.gone ++ [(m, n)] } := fun h => h.set12 hg.mac hrow
  have hblkA' := hCA'.trans hCA.blk
  have hsesA' : SsIn A' mb (dropS c.sess m n) := hCA.ses.same (hGk.block mb (by have := kFA.size; omega) hmg)
  have e12 : A'.cell? ⟨b, 12, none⟩ = some gv := (World.cell?_of_block (a := ⟨b, 12, none⟩) hCA').trans (hCA.cells (c := { c with sess := dropS c.sess m n }) hx).c12
  have f12 : A'.frozen? ⟨b, 12, none⟩ = false := (World.frozen?_of_block (a := ⟨b, 12, none⟩) hCA').trans ((hCA.cells (c := { c with sess := dropS c.sess m n }) hx).f 12)
  have hbox : ∀ W, Kept (fun i => i = b ∨ gv.ownBlock = some i) F W → Box7 W w.heap.size #[.int .u8 y0, .int .u8 y1, .int .u8 y2, .int .u8 y3, .int .u8 y4, .int .u8 y5, .int .i64 n] := fun W h => hBF.kept h (fun e => by
    rcases e with e | e
    · omega
    · have := hglt _ e; omega)
  have bx0 := hbox F.drew (Kept.refl _ F).drew
  have bx1 : Box7 A w.heap.size #[.int .u8 y0, .int .u8 y1, .int .u8 y2, .int .u8 y3, .int .u8 y4, .int .u8 y5, .int .i64 n] := hbox A (kFA.mono (fun _ _ h => h.elim))
  have kFA' : Kept (fun i => i = b ∨ gv.ownBlock = some i) F A' := (kFA.mono (T := fun i => i = b ∨ gv.ownBlock = some i) (fun _ _ h => h.elim)).andThen hGk (fun i _ e => Or.inr e)
  have bx2 : Box7 A' w.heap.size #[.int .u8 y0, .int .u8 y1, .int .u8 y2, .int .u8 y3, .int .u8 y4, .int .u8 y5, .int .i64 n] := hbox A' kFA'
  have kFB : Kept (fun i => i = b ∨ gv.ownBlock = some i) F (A'.setCell ⟨b, 12, none⟩ (.slice pv (c.gone.length + 1) cv)) := kFA'.setCell (p := ⟨b, 12, none⟩) (Or.inr (Or.inl rfl)) _
  have bx3 : Box7 (A'.setCell ⟨b, 12, none⟩ (.slice pv (c.gone.length + 1) cv)) w.heap.size #[.int .u8 y0, .int .u8 y1, .int .u8 y2, .int .u8 y3, .int .u8 y4, .int .u8 y5, .int .i64 n] := hbox _ kFB
  have Hfin : Hid (CNext S w (A'.setCell ⟨b, 12, none⟩ (.slice pv (c.gone.length + 1) cv)) b { c with sess := dropS c.sess m n, gone := c.gone ++ [(m, n)] }) := by
    have hblk12 : (A'.setCell ⟨b, 12, none⟩ (.slice pv (c.gone.length + 1) cv)).heap[b]? = some (.cells (concList { c with sess := dropS c.sess m n, gone := c.gone ++ [(m, n)] } mb (.slice pv (c.gone.length + 1) cv)).toArray 34 (0, 0)) :=
      (Joins.block_setCell hblkA' (i := 12) (.slice pv (c.gone.length + 1) cv)).trans (congrArg (fun a => some (Obj.cells a 34 (0, 0))) (conc_set hg.mac _ 6 _))
    have hvne : ∀ i, (Value.slice pv (c.gone.length + 1) cv).ownBlock = some i → i ≠ b := fun i hi e => by
      obtain ⟨cur, h1⟩ := hrow.block hi
      rw [e, hblkA'] at h1
      simp at h1
    refine ⟨ofConc b mb (.slice pv (c.gone.length + 1) cv), ⟨mb, (.slice pv (c.gone.length + 1) cv), ⟨hblk12, hsesA'.same (Below.heap_setCell _ _ _ _ hnm), hrow.same (fun i hi => Below.heap_setCell _ _ _ _ (hvne i hi))⟩, fun i => Iff.rfl⟩, fun i hi => ?_, ?_⟩
    · rcases hi with hi | hi | hi
      · exact Or.inl ((hS i).2 (Or.inl hi))
      · exact Or.inl ((hS i).2 (Or.inr (Or.inl hi)))
      · exact (hvb i hi).imp (fun h => (hS i).2 (Or.inr (Or.inr h))) id
    · exact KwF.andThen kFB (fun i _ e => (hS i).2 (e.elim Or.inl (fun h => Or.inr (Or.inr h))))
  have c12F : F.cell? ⟨b, 12, none⟩ = some gv := hccF.c12
  have c12A : A.cell? ⟨b, 12, none⟩ = some gv := (hCA.cells (c := { c with sess := dropS c.sess m n }) hx).c12
  have t0 : ∀ W, Box7 W w.heap.size #[.int .u8 y0, .int .u8 y1, .int .u8 y2, .int .u8 y3, .int .u8 y4, .int .u8 y5, .int .i64 n] → W.cell? ⟨w.heap.size, 0, none⟩ = some (.int .u8 y0) := fun W h => h.cell 0
  have t1 : ∀ W, Box7 W w.heap.size #[.int .u8 y0, .int .u8 y1, .int .u8 y2, .int .u8 y3, .int .u8 y4, .int .u8 y5, .int .i64 n] → W.cell? ⟨w.heap.size, 1, none⟩ = some (.int .u8 y1) := fun W h => h.cell 1
  have t2 : ∀ W, Box7 W w.heap.size #[.int .u8 y0, .int .u8 y1, .int .u8 y2, .int .u8 y3, .int .u8 y4, .int .u8 y5, .int .i64 n] → W.cell? ⟨w.heap.size, 2, none⟩ = some (.int .u8 y2) := fun W h => h.cell 2
  have t3 : ∀ W, Box7 W w.heap.size #[.int .u8 y0, .int .u8 y1, .int .u8 y2, .int .u8 y3, .int .u8 y4, .int .u8 y5, .int .i64 n] → W.cell? ⟨w.heap.size, 3, none⟩ = some (.int .u8 y3) := fun W h => h.cell 3
  have t4 : ∀ W, Box7 W w.heap.size #[.int .u8 y0, .int .u8 y1, .int .u8 y2, .int .u8 y3, .int .u8 y4, .int .u8 y5, .int .i64 n] → W.cell? ⟨w.heap.size, 4, none⟩ = some (.int .u8 y4) := fun W h => h.cell 4
  have t5 : ∀ W, Box7 W w.heap.size #[.int .u8 y0, .int .u8 y1, .int .u8 y2, .int .u8 y3, .int .u8 y4, .int .u8 y5, .int .i64 n] → W.cell? ⟨w.heap.size, 5, none⟩ = some (.int .u8 y5) := fun W h => h.cell 5
  have t6 : ∀ W, Box7 W w.heap.size #[.int .u8 y0, .int .u8 y1, .int .u8 y2, .int .u8 y3, .int .u8 y4, .int .u8 y5, .int .i64 n] → W.cell? ⟨w.heap.size, 6, none⟩ = some (.int .i64 n) := fun W h => h.cell 6
  clear hA' hCB hblkA' hsesA' hCA' hCA hGk hvb hrow hown' hgrew hnew hAown kFA hown hF1 hF2 hF3 hF4 hSF KwF hccF hCF hBF hbox kFA' kFB
  go_wp2
  refine wp_region_noPanic ?_
  refine wp_region_held_drew (S := fun W => Box7 W w.heap.size #[.int .u8 y0, .int .u8 y1, .int .u8 y2, .int .u8 y3, .int .u8 y4, .int .u8 y5, .int .i64 n]) (by kernel_rfl) (bx0) (fun hSd => ?_)
  refine wpAnyH_take (i := 0) (v := ?_) rfl (by kernel_rfl) (by kernel_rfl) (by kernel_rfl) (fun _ _ _ h => h) (Or.inl ⟨by kernel_rfl, fun W hSW => by go_simp; try with_reducible rfl⟩) (by assumption) ?_
  try simp only [List.getElem_toArray]
  try simp only [List.getElem_cons_succ]
  try simp only [List.getElem_cons_zero]
  try simp only [Act.put]
  try simp only [List.setIfInBounds_toArray]
  try simp only [List.set_cons_succ]
  try simp only [List.set_cons_zero]
  refine wpAnyH_take (i := 1) (v := ?_) rfl (by kernel_rfl) (by kernel_rfl) (by kernel_rfl) (fun _ _ _ h => h) (Or.inl ⟨by kernel_rfl, fun W hSW => by go_simp; try with_reducible rfl⟩) (by assumption) ?_
  try simp only [List.getElem_toArray]
  try simp only [List.getElem_cons_succ]
  try simp only [List.getElem_cons_zero]
  try simp only [Act.put]
  try simp only [List.setIfInBounds_toArray]
  try simp only [List.set_cons_succ]
  try simp only [List.set_cons_zero]
  refine wpAnyH_take (i := 2) (v := ?_) rfl (by kernel_rfl) (by kernel_rfl) (by kernel_rfl) (fun _ _ _ h => h) (Or.inl ⟨by kernel_rfl, fun W hSW => by go_simp; try with_reducible rfl⟩) (by assumption) ?_
  try simp only [List.getElem_toArray]
  try simp only [List.getElem_cons_succ]
  try simp only [List.getElem_cons_zero]
  try simp only [Act.put]
  try simp only [List.setIfInBounds_toArray]
  try simp only [List.set_cons_succ]
  try simp only [List.set_cons_zero]
  refine wpAnyH_take (i := 3) (v := ?_) rfl (by kernel_rfl) (by kernel_rfl) (by kernel_rfl) (fun _ _ _ h => h) (Or.inl ⟨by kernel_rfl, fun W hSW => by go_simp; try with_reducible rfl⟩) (by assumption) ?_
  try simp only [List.getElem_toArray]
  try simp only [List.getElem_cons_succ]
  try simp only [List.getElem_cons_zero]
  try simp only [Act.put]
  try simp only [List.setIfInBounds_toArray]
  try simp only [List.set_cons_succ]
  try simp only [List.set_cons_zero]
  refine wpAnyH_take (i := 5) (v := ?_) rfl (by kernel_rfl) (by kernel_rfl) (by kernel_rfl) (fun _ _ _ h => h) (Or.inl ⟨by kernel_rfl, fun W hSW => by go_simp; try with_reducible rfl⟩) (by assumption) ?_
  try simp only [List.getElem_toArray]
  try simp only [List.getElem_cons_succ]
  try simp only [List.getElem_cons_zero]
  try simp only [Act.put]
  try simp only [List.setIfInBounds_toArray]
  try simp only [List.set_cons_succ]
  try simp only [List.set_cons_zero]
  refine wpAnyH_ready (rs := [4, 6]) (by kernel_rfl) (by simp) ?_
  refine AllReadyH.cons rfl (fun K hK => ?_) (AllReadyH.cons rfl (fun K hK => ?_) AllReadyH.nil)
  · go_simp
    refine hK.out _ _ (bx0) (fun _ => ?_)
    clear hK K
    try simp only [List.getElem_toArray]
    try simp only [List.getElem_cons_succ]
    try simp only [List.getElem_cons_zero]
    try simp only [Act.put]
    try simp only [List.setIfInBounds_toArray]
    try simp only [List.set_cons_succ]
    try simp only [List.set_cons_zero]
    refine wpAnyH_ready (rs := [6]) (by kernel_rfl) (by simp) ?_
    refine AllReadyH.cons rfl (fun K hK => ?_) AllReadyH.nil
    go_simp
    rw [← HA'.out]
    refine hK.out _ _ (bx1) (fun _ => ?_)
    clear hK K
    try simp only [List.getElem_toArray]
    try simp only [List.getElem_cons_succ]
    try simp only [List.getElem_cons_zero]
    try simp only [Act.put]
    try simp only [List.setIfInBounds_toArray]
    try simp only [List.set_cons_succ]
    try simp only [List.set_cons_zero]
    refine wpAnyH_ready (rs := [7]) (by kernel_rfl) (by simp) ?_
    refine AllReadyH.cons rfl (fun K hK => ?_) AllReadyH.nil
    refine step_append_run rfl (.tmp 25) (.tmp 27) 32 rfl gv (.slice (some ⟨F.heap.size, 0, none⟩) 1 1) rfl rfl (hrun _) ?_
    refine hK.out _ _ (bx2) (fun _ => ?_)
    clear hK K
    try simp only [List.getElem_toArray]
    try simp only [List.getElem_cons_succ]
    try simp only [List.getElem_cons_zero]
    try simp only [Act.put]
    try simp only [List.setIfInBounds_toArray]
    try simp only [List.set_cons_succ]
    try simp only [List.set_cons_zero]
    refine wpAnyH_take (i := 8) (v := ?_) rfl (by kernel_rfl) (by kernel_rfl) (by kernel_rfl) (fun _ _ _ h => h) (Or.inl ⟨by kernel_rfl, fun W hSW => by go_simp; try with_reducible rfl⟩) (by assumption) ?_
    try simp only [List.getElem_toArray]
    try simp only [List.getElem_cons_succ]
    try simp only [List.getElem_cons_zero]
    try simp only [Act.put]
    try simp only [List.setIfInBounds_toArray]
    try simp only [List.set_cons_succ]
    try simp only [List.set_cons_zero]
    refine wpAnyH_take (i := 9) (v := ?_) rfl (by kernel_rfl) (by kernel_rfl) (by kernel_rfl) (fun _ _ _ h => h) (Or.inl ⟨by kernel_rfl, fun W hSW => by go_simp; try with_reducible rfl⟩) (by assumption) ?_
    try simp only [List.getElem_toArray]
    try simp only [List.getElem_cons_succ]
    try simp only [List.getElem_cons_zero]
    try simp only [Act.put]
    try simp only [List.setIfInBounds_toArray]
    try simp only [List.set_cons_succ]
    try simp only [List.set_cons_zero]
    refine wpAnyH_ready (rs := [10]) (by kernel_rfl) (by simp) ?_
    refine AllReadyH.cons rfl (fun K hK => ?_) AllReadyH.nil
    go_simp
    refine hK.out _ _ (bx3) (fun _ => ?_)
    clear hK K
    try simp only [List.getElem_toArray]
    try simp only [List.getElem_cons_succ]
    try simp only [List.getElem_cons_zero]
    try simp only [Act.put]
    try simp only [List.setIfInBounds_toArray]
    try simp only [List.set_cons_succ]
    try simp only [List.set_cons_zero]
    refine wpAnyH_done (by kernel_rfl) ?_ _
    refine NoPanic.normal ?_
    go_wp2
    go_end0
    exact ⟨rfl, Hfin.out⟩
  · go_simp
    rw [← HA'.out]
    refine hK.out _ _ (bx1) (fun _ => ?_)
    clear hK K
    try simp only [List.getElem_toArray]
    try simp only [List.getElem_cons_succ]
    try simp only [List.getElem_cons_zero]
    try simp only [Act.put]
    try simp only [List.setIfInBounds_toArray]
    try simp only [List.set_cons_succ]
    try simp only [List.set_cons_zero]
    refine wpAnyH_ready (rs := [4]) (by kernel_rfl) (by simp) ?_
    refine AllReadyH.cons rfl (fun K hK => ?_) AllReadyH.nil
    go_simp
    refine hK.out _ _ (bx1) (fun _ => ?_)
    clear hK K
    try simp only [List.getElem_toArray]
    try simp only [List.getElem_cons_succ]
    try simp only [List.getElem_cons_zero]
    try simp only [Act.put]
    try simp only [List.setIfInBounds_toArray]
    try simp only [List.set_cons_succ]
    try simp only [List.set_cons_zero]
    refine wpAnyH_ready (rs := [7]) (by kernel_rfl) (by simp) ?_
    refine AllReadyH.cons rfl (fun K hK => ?_) AllReadyH.nil
    refine step_append_run rfl (.tmp 25) (.tmp 27) 32 rfl gv (.slice (some ⟨F.heap.size, 0, none⟩) 1 1) rfl rfl (hrun _) ?_
    refine hK.out _ _ (bx2) (fun _ => ?_)
    clear hK K
    try simp only [List.getElem_toArray]
    try simp only [List.getElem_cons_succ]
    try simp only [List.getElem_cons_zero]
    try simp only [Act.put]
    try simp only [List.setIfInBounds_toArray]
    try simp only [List.set_cons_succ]
    try simp only [List.set_cons_zero]
    refine wpAnyH_take (i := 8) (v := ?_) rfl (by kernel_rfl) (by kernel_rfl) (by kernel_rfl) (fun _ _ _ h => h) (Or.inl ⟨by kernel_rfl, fun W hSW => by go_simp; try with_reducible rfl⟩) (by assumption) ?_
    try simp only [List.getElem_toArray]
    try simp only [List.getElem_cons_succ]
    try simp only [List.getElem_cons_zero]
    try simp only [Act.put]
    try simp only [List.setIfInBounds_toArray]
    try simp only [List.set_cons_succ]
    try simp only [List.set_cons_zero]
    refine wpAnyH_take (i := 9) (v := ?_) rfl (by kernel_rfl) (by kernel_rfl) (by kernel_rfl) (fun _ _ _ h => h) (Or.inl ⟨by kernel_rfl, fun W hSW => by go_simp; try with_reducible rfl⟩) (by assumption) ?_
    try simp only [List.getElem_toArray]
    try simp only [List.getElem_cons_succ]
    try simp only [List.getElem_cons_zero]
    try simp only [Act.put]
    try simp only [List.setIfInBounds_toArray]
    try simp only [List.set_cons_succ]
    try simp only [List.set_cons_zero]
    refine wpAnyH_ready (rs := [10]) (by kernel_rfl) (by simp) ?_
    refine AllReadyH.cons rfl (fun K hK => ?_) AllReadyH.nil
    go_simp
    refine hK.out _ _ (bx3) (fun _ => ?_)
    clear hK K
    try simp only [List.getElem_toArray]
    try simp only [List.getElem_cons_succ]
    try simp only [List.getElem_cons_zero]
    try simp only [Act.put]
    try simp only [List.setIfInBounds_toArray]
    try simp only [List.set_cons_succ]
    try simp only [List.set_cons_zero]
    refine wpAnyH_done (by kernel_rfl) ?_ _
    refine NoPanic.normal ?_
    go_wp2
    go_end0
    exact ⟨rfl, Hfin.out⟩

theorem end_any {S : Nat → Prop} (b : Nat) (c : Cs) (hg : Good c) (hgl : c.gone.length + 1 ≤ 1000000) (m : List UInt8) (hm : m.length = 6) (n : Int) (hn : In64 n) (w : World) (hA : CAt S w b c) :
    Calls Tryd.prog 27 #[.pointer (some ⟨b, 0, none⟩), idV m n] w fun e w' => e = .returned (.tuple #[]) ∧ CNext S w w' b (endF c m n) := by
  unfold endF
  cases hf : findS c.sess m n with
  | none =>
    rw [if_neg (by simp)]
    exact (end_none b c hg m hm n hn w hA hf).mono fun _ _ ⟨he, hk⟩ => ⟨he, hA.next.still hk⟩
  | some x =>
    rw [if_pos (by simp)]
    exact end_some b c hg hgl m hm n hn w hA x hf
end Go.Proofs.YtgaamehjdoakhaaDoor

/- The contract of the concentrator's inner call that lets a card in: the session that a card has or gets, or why there is none. -/
namespace Go.Proofs.YtgaamehjdoakhaaDoor
open Go.RowKit

set_option maxHeartbeats 2000000 in
set_option maxRecDepth 100000 in
theorem admit_any {S : Nat → Prop} (b : Nat) (c : Cs) (hg : Good c) (m : List UInt8) (hm : m.length = 6) (s u : ByteArray) (w : World) (hT : TabTz w) (hA : CAt S w b c) :
    Calls Tryd.prog 50 #[.pointer (some ⟨b, 0, none⟩), .agg (Lib.byteCells m).toArray, .string s, .string u] w fun e w' => e = .returned (.tuple #[.int .i64 ((admitF c m s u).1 : Int), .int .i64 (admitF c m s u).2.1]) ∧ CNext S w w' b (admitF c m s u).2.2 := by
  obtain ⟨mb, gv, hC, hS⟩ := id hA
  obtain ⟨x0, x1, x2, x3, x4, x5, hx⟩ := six_cells hg.mac
  obtain ⟨y0, y1, y2, y3, y4, y5, hy⟩ := six_cells hm
  have H1 := hid (fun W (hk : Kept (fun _ => False) w W) => serves_any b s W ((hC.kept0 hk).cells hx).c7)
  have H2 := hid (fun W (hk : Kept (fun _ => False) w W) => unused_any b mb gv c hg m hm u W (hC.kept0 hk))
  have H3 := hid (fun W (hk : Kept (fun _ => False) w W) => hasRoom_any b mb gv c hg m hm W (hC.kept0 hk))
  have H4 := hid (fun W (hk : Kept (fun _ => False) w W) => begin_any b c hg m hm u W (hT.kept hk) (hA.kept0 hk))
  have HA := hid hA
  unfold admitF
  rw [hy] at H2 H3 H4 ⊢
  generalize nextF c = nx at *
  generalize beginF c m u = cb at *
  have K0 := hid ((Kept.refl (fun _ => False) w).alloc (.cells #[.int .u8 y0, .int .u8 y1, .int .u8 y2, .int .u8 y3, .int .u8 y4, .int .u8 y5] 23))
  have B0 := hid (box6_new w 23 (.int .u8 y0) (.int .u8 y1) (.int .u8 y2) (.int .u8 y3) (.int .u8 y4) (.int .u8 y5))
  clear hC hT hA hS
  generalize hs : servesF s = q1 at *
  generalize hu : unusedF c m u = q2 at *
  generalize hr : roomF c m = q3 at *
  cases q1 with
  | false =>
    rw [if_pos rfl]
    go_enter Tryd.func50, Tryd.ntmps50
    go_wp2_with fail
    refine (H1.out _ K0.out).mono ?_
    rintro e w1 ⟨rfl, rfl⟩
    go_wp2
    go_ret2
    exact ⟨rfl, HA.out.next.still K0.out⟩
  | true =>
    rw [if_neg (by simp)]
    by_cases hq2 : q2 ≠ 0
    · rw [if_pos hq2]
      have hnz : ((q2 : Int) != 0) = true := by simp; omega
      go_enter Tryd.func50, Tryd.ntmps50
      go_wp2_with fail
      refine (H1.out _ K0.out).mono ?_
      rintro e w1 ⟨rfl, rfl⟩
      obtain ⟨b0, b1, b2, b3, b4, b5⟩ := B0.out
      go_wp2_with fail
      refine (H2.out _ K0.out).mono ?_
      rintro e w2 ⟨rfl, hk2⟩
      clear b0 b1 b2 b3 b4 b5
      go_wp2
      go_ret2
      exact ⟨rfl, HA.out.next.still (K0.out.trans hk2)⟩
    · rw [if_neg hq2]
      obtain rfl : q2 = 0 := by omega
      cases q3 with
      | false =>
        rw [if_pos rfl]
        go_enter Tryd.func50, Tryd.ntmps50
        go_wp2_with fail
        refine (H1.out _ K0.out).mono ?_
        rintro e w1 ⟨rfl, rfl⟩
        obtain ⟨b0, b1, b2, b3, b4, b5⟩ := B0.out
        go_wp2_with fail
        refine (H2.out _ K0.out).mono ?_
        rintro e w2 ⟨rfl, hk2⟩
        clear b0 b1 b2 b3 b4 b5
        have K2 := hid (K0.out.trans hk2)
        obtain ⟨b0, b1, b2, b3, b4, b5⟩ := B0.out.kept hk2
        clear hk2
        go_wp2_with fail
        refine (H3.out _ K2.out).mono ?_
        rintro e w3 ⟨rfl, hk3⟩
        clear b0 b1 b2 b3 b4 b5
        go_wp2
        go_ret2
        exact ⟨rfl, HA.out.next.still (K2.out.trans hk3)⟩
      | true =>
        rw [if_neg (by simp)]
        go_enter Tryd.func50, Tryd.ntmps50
        go_wp2_with fail
        refine (H1.out _ K0.out).mono ?_
        rintro e w1 ⟨rfl, rfl⟩
        obtain ⟨b0, b1, b2, b3, b4, b5⟩ := B0.out
        go_wp2_with fail
        refine (H2.out _ K0.out).mono ?_
        rintro e w2 ⟨rfl, hk2⟩
        clear b0 b1 b2 b3 b4 b5
        have K2 := hid (K0.out.trans hk2)
        have B2 := hid (B0.out.kept hk2)
        obtain ⟨b0, b1, b2, b3, b4, b5⟩ := B2.out
        clear hk2
        go_wp2_with fail
        refine (H3.out _ K2.out).mono ?_
        rintro e w3 ⟨rfl, hk3⟩
        clear b0 b1 b2 b3 b4 b5
        have K3 := hid (K2.out.trans hk3)
        obtain ⟨b0, b1, b2, b3, b4, b5⟩ := B2.out.kept hk3
        clear hk3
        go_wp2_with fail
        refine (H4.out _ K3.out).mono ?_
        rintro e w4 ⟨rfl, hn4⟩
        clear b0 b1 b2 b3 b4 b5
        go_wp2
        go_ret2
        exact ⟨rfl, hn4.back K3.out⟩
end Go.Proofs.YtgaamehjdoakhaaDoor
