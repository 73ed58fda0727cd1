/- The program's pool and the document's one beside each other in one memory, and boxes beside both. -/
import Derived.Test.YtblcojggjplndaaDoorPpOne
import Derived.Test.YtblcojggjplndaaDoorPlRef3
import Derived.Test.YtblcojggjplndaaDoorPlRef4
import Derived.Test.YtblcojggjplndaaDoorPlNew
namespace Go.Proofs.YtblcojggjplndaaDoor
open Go.RowKit

/-- A block of cells. -/
def Bx (w : World) (b : Nat) (cs : Array Value) (T : TypeId) : Prop := w.heap[b]? = some (.cells cs T (0, 0))
theorem Bx.new (w : World) (cs : Array Value) (T : TypeId) : Bx (w.alloc (.cells cs T)) w.heap.size cs T := heap_alloc_new w _
theorem Bx.lt {w : World} {b : Nat} {cs : Array Value} {T : TypeId} (h : Bx w b cs T) : b < w.heap.size := (Array.getElem?_eq_some_iff.1 h).1
theorem Bx.cell {w : World} {b : Nat} {cs : Array Value} {T : TypeId} (h : Bx w b cs T) (i : Nat) : w.cell? ⟨b, i, none⟩ = cs[i]? := by
  have h' : w.heap[b]? = some (.cells cs T (0, 0)) := h
  simp [World.cell?, h']
/-- Boxes that are no places of the document's pool stay. -/
def Keeps (w w' : World) : Prop := ∀ c cs T, T ≠ 71 → Bx w c cs T → Bx w' c cs T
theorem Keeps.none {w w' : World} (hk : Kept (fun _ => False) w w') : Keeps w w' := fun _ _ _ _ h => (hk.block _ h.lt id).trans h
theorem Keeps.trans {a b c : World} (h : Keeps a b) (k : Keeps b c) : Keeps a c := fun _ _ _ hT hb => k _ _ _ hT (h _ _ _ hT hb)
theorem Keeps.ppk {base : Nat} {w w' : World} (hk : PpK base w w') : Keeps w w' := fun c cs T _ h => by
  refine (hk.block c h.lt (fun e => ?_)).trans h
  obtain ⟨_, es, cl, h2⟩ := e
  have h' : w.heap[c]? = some (.cells cs T (0, 0)) := h
  rw [h2] at h'
  cases h'
theorem Keeps.pok {base : Nat} {w w' : World} (hk : PoK base w w') : Keeps w w' := fun c cs T hT h => by
  refine (hk.block c h.lt (fun e => ?_)).trans h
  obtain ⟨_, cur, h2⟩ := e
  have h' : w.heap[c]? = some (.cells cs T (0, 0)) := h
  rw [h2] at h'
  cases h'
  exact hT rfl

theorem PpIn.pok {w w' : World} {base b : Nat} {m k : Option Nat} {x : Ad} {l : List Lt} (h : PpIn w base b m k x l) (hk : PoK base w w') : PpIn w' base b m k x l := by
  refine h.kept hk (fun e => ?_) (fun mb hm e => ?_) (fun kb hm e => ?_)
  · obtain ⟨_, cur, h2⟩ := e
    have := h.blk
    rw [h2] at this
    cases this
  · obtain ⟨_, cur, h2⟩ := e
    obtain ⟨es, c, h3⟩ := (h.has mb hm).2.isMap
    rw [h2] at h3
    cases h3
  · obtain ⟨_, cur, h2⟩ := e
    obtain ⟨es, c, h3⟩ := (h.who kb hm).2.isMap
    rw [h2] at h3
    cases h3
theorem PoAt.ppk {w w' : World} {base b : Nat} {x : Ad} {l : List Lt} (h : PoAt w base b x l) (hk : PpK base w w') : PoAt w' base b x l := by
  obtain ⟨v, h⟩ := h
  refine ⟨v, (hk.block b h.lt (fun e => ?_)).trans h.blk, h.own.keptS hk (fun i hi e => ?_)⟩
  · obtain ⟨_, es, c, h2⟩ := e
    have := h.blk
    rw [h2] at this
    cases this
  · obtain ⟨_, es, c, h2⟩ := e
    obtain ⟨⟨cur, h3⟩, _⟩ := h.own.block hi
    rw [h2] at h3
    cases h3
theorem PoAt.kept0 {w w' : World} {base b : Nat} {x : Ad} {l : List Lt} (h : PoAt w base b x l) (hk : Kept (fun _ => False) w w') : PoAt w' base b x l := by
  obtain ⟨v, h⟩ := h
  exact ⟨v, h.kept0 hk⟩

/-- The program's pool at b with the places l, the document's at d with the places q. -/
structure Duo (w0 w : World) (b d : Nat) (x : Ad) (l q : List Lt) : Prop where
  mine : PMine w0 w b x l
  its : PoAt w w0.heap.size d x q
section
variable {w0 w w' : World} {b d : Nat} {x : Ad} {l q : List Lt}
theorem Duo.kept (h : Duo w0 w b d x l q) : Kept (fun _ => False) w0 w := h.mine.kept
theorem Duo.still (h : Duo w0 w b d x l q) (hk : Kept (fun _ => False) w w') : Duo w0 w' b d x l q := ⟨h.mine.still hk, h.its.kept0 hk⟩
theorem Duo.dstep {q' : List Lt} (h : Duo w0 w b d x l q) (hq : PoAt w' w0.heap.size d x q') (hk : PoK w0.heap.size w w') : Duo w0 w' b d x l q' := by
  obtain ⟨m, k, hm⟩ := h.mine.here
  exact ⟨⟨⟨m, k, hm.pok hk⟩, h.mine.ge, h.mine.kept.andThen hk (fun _ hi e => absurd hi (Nat.not_lt.2 e.1))⟩, hq⟩
theorem Duo.ptake (h : Duo w0 w b d x l q) {t s : Int} (ht : I64 t) (hs : I64 s) (R : Ad × Int × List Lt) (hR : takeL x l t s = R) :
    Calls Tryd.prog 11 #[.pointer (some ⟨b, 0, none⟩), .agg #[.int .i64 t, .int .i64 s]] w fun e w' => e = .returned (.tuple #[adV R.1, .int .i64 R.2.1]) ∧ Duo w0 w' b d x R.2.2 q ∧ Keeps w w' :=
  (h.mine.take ht hs R hR).mono fun _ _ ⟨h1, h2, h3⟩ => ⟨h1, ⟨h2, h.its.ppk h3⟩, Keeps.ppk h3⟩
theorem Duo.dtake (h : Duo w0 w b d x l q) (hq : FewL q) {t s : Int} (ht : I64 t) (hs : I64 s) (R : Ad × Int × List Lt) (hR : takeL x q t s = R) :
    Calls Tryd.prog 12 #[.pointer (some ⟨d, 0, none⟩), .agg #[.int .i64 t, .int .i64 s]] w fun e w' => e = .returned (.tuple #[adV R.1, .int .i64 R.2.1]) ∧ Duo w0 w' b d x l R.2.2 ∧ Keeps w w' := by
  obtain ⟨v, hv⟩ := h.its
  rw [← hR]
  exact (rTake_any hv hq t s ht hs).mono fun _ _ ⟨h1, h2, h3⟩ => ⟨h1, h.dstep h2 h3, Keeps.pok h3⟩
theorem Duo.pgive (h : Duo w0 w b d x l q) {t s : Int} (ht : I64 t) (hs : I64 s) (R : Int × List Lt) (hR : giveL l t s = R) :
    Calls Tryd.prog 13 #[.pointer (some ⟨b, 0, none⟩), .agg #[.int .i64 t, .int .i64 s]] w fun e w' => e = .returned (.int .i64 R.1) ∧ Duo w0 w' b d x R.2 q ∧ Keeps w w' :=
  (h.mine.give ht hs R hR).mono fun _ _ ⟨h1, h2, h3⟩ => ⟨h1, ⟨h2, h.its.ppk h3⟩, Keeps.ppk h3⟩
theorem Duo.dgive (h : Duo w0 w b d x l q) (hq : FewL q) {t s : Int} (ht : I64 t) (hs : I64 s) (R : Int × List Lt) (hR : giveL q t s = R) :
    Calls Tryd.prog 14 #[.pointer (some ⟨d, 0, none⟩), .agg #[.int .i64 t, .int .i64 s]] w fun e w' => e = .returned (.int .i64 R.1) ∧ Duo w0 w' b d x l R.2 ∧ Keeps w w' := by
  obtain ⟨v, hv⟩ := h.its
  rw [← hR]
  exact (rGive_any hv hq t s ht hs).mono fun _ _ ⟨h1, h2, h3⟩ => ⟨h1, h.dstep h2 h3, Keeps.pok h3⟩
theorem Duo.phas (h : Duo w0 w b d x l q) {t s : Int} (ht : I64 t) (hs : I64 s) (R : Ad × Bool) (hR : hasL x l t s = R) :
    Calls Tryd.prog 15 #[.pointer (some ⟨b, 0, none⟩), .agg #[.int .i64 t, .int .i64 s]] w fun e w' => e = .returned (.tuple #[adV R.1, .bool R.2]) ∧ Kept (fun _ => False) w w' :=
  (h.mine.has ht hs R hR).mono fun _ _ ⟨h1, _, h3⟩ => ⟨h1, h3⟩
theorem Duo.dhas (h : Duo w0 w b d x l q) (hq : FewL q) {t s : Int} (ht : I64 t) (hs : I64 s) (R : Ad × Bool) (hR : hasL x q t s = R) :
    Calls Tryd.prog 16 #[.pointer (some ⟨d, 0, none⟩), .agg #[.int .i64 t, .int .i64 s]] w fun e w' => e = .returned (.tuple #[adV R.1, .bool R.2]) ∧ Kept (fun _ => False) w w' := by
  obtain ⟨v, hv⟩ := h.its
  rw [← hR]
  exact rHas_any hv hq t s ht hs
theorem Duo.pwho (h : Duo w0 w b d x l q) (y : Ad) (R : Int × Int × Bool) (hR : whoL x l y = R) :
    Calls Tryd.prog 17 #[.pointer (some ⟨b, 0, none⟩), adV y] w fun e w' => e = .returned (.tuple #[.agg #[.int .i64 R.1, .int .i64 R.2.1], .bool R.2.2]) ∧ Kept (fun _ => False) w w' :=
  (h.mine.who y R hR).mono fun _ _ ⟨h1, _, h3⟩ => ⟨h1, h3⟩
theorem Duo.dwho (h : Duo w0 w b d x l q) (hq : FewL q) (y : Ad) (R : Int × Int × Bool) (hR : whoL x q y = R) :
    Calls Tryd.prog 18 #[.pointer (some ⟨d, 0, none⟩), adV y] w fun e w' => e = .returned (.tuple #[.agg #[.int .i64 R.1, .int .i64 R.2.1], .bool R.2.2]) ∧ Kept (fun _ => False) w w' := by
  obtain ⟨v, hv⟩ := h.its
  rw [← hR]
  exact rWho_any hv hq y
theorem Duo.pfree (h : Duo w0 w b d x l q) : Calls Tryd.prog 19 #[.pointer (some ⟨b, 0, none⟩)] w fun e w' => e = .returned (.int .i64 (nFree l : Int)) ∧ Kept (fun _ => False) w w' :=
  h.mine.free.mono fun _ _ ⟨h1, _, h3⟩ => ⟨h1, h3⟩
theorem Duo.dfree (h : Duo w0 w b d x l q) (hq : FewL q) : Calls Tryd.prog 20 #[.pointer (some ⟨d, 0, none⟩)] w fun e w' => e = .returned (.int .i64 (nFree q : Int)) ∧ Kept (fun _ => False) w w' := by
  obtain ⟨v, hv⟩ := h.its
  exact rFree_any hv hq
/-- Both are made. -/
theorem Duo.made (h : PMine w0 w b x l) (n : Nat) (h1 : 1 ≤ n) (h2 : n ≤ 256) (h3 : numAd x + (n : Int) ≤ 4294967296) :
    Calls Tryd.prog 10 #[adV x, .int .i64 (n : Int)] w fun e w' => ∃ d, e = .returned (.tuple #[.pointer (some ⟨d, 0, none⟩), .int .i64 0]) ∧ Duo w0 w' b d x l (List.replicate n lt0) :=
  (rNewPool_good x n h1 h2 h3 w).mono fun _ _ ⟨d, _, he, ⟨v, hv⟩, hk⟩ => ⟨d, he, h.still hk, ⟨v, hv.blk, hv.own.mono h.kept.size⟩⟩
end
end Go.Proofs.YtblcojggjplndaaDoor
