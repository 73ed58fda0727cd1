/- Messages between tunnels' ends and their bytes, control and data, as plain functions with no Go in them. · The boxes of messages, control and data; rows of ints of a call's own. · The contracts of package msg's small functions: word, cut, areWords, IsCtl. · The contract of package msg's lay: a head's words and what stands behind it, as bytes. · The contract of msg.Kind (P1903) · The contract of msg.Needs (P1903): the types that must be there, in a row of the call's own. · The contracts of package msg's isKind, lengthOf and checkOne. · The contracts of msg.Put and msg.PutLoad: a message's bytes, or the error (P1901, P1902); what avp.Put comes to is a premise. · The contract of msg.Make: a message's values (P1903). · The contract of msg.Check: whether a message is whole (P1904). · The contract of alive, of the laws of chapter 19. · The contract of msg.Get: the control message of some bytes, or the error (P1901). (Written by gen_msget.py.) · The contracts of msg.PutLoad and msg.GetLoad: a data message's bytes, and the data message of some bytes, or the error (P1902). (Written by gen_msload.py.) -/
import Derived.Test.YtkneogfeokckjaaDoorAvPlain
import Derived.Test.YtkneogfeokckjaaDoorKept
import Derived.Test.YtkneogfeokckjaaDoorTagKit
import Derived.Test.YtkneogfeokckjaaDoorAvSmall
import Derived.Test.YtkneogfeokckjaaDoorGRow
import Derived.Test.YtkneogfeokckjaaDoorAvPut
import Derived.OwnWalkIn
import Derived.Deep.DeepCutAuto
import Derived.Deep.CutRange
import Derived.Deep.CutBlock
import Derived.Test.YtkneogfeokckjaaDoorAvLen
import Derived.Test.YtkneogfeokckjaaDoorAvEq
import Derived.Test.YtkneogfeokckjaaDoorAvApp
import Derived.Test.YtkneogfeokckjaaDoorAvNum
import Derived.Test.YtkneogfeokckjaaDoorAvFind
import Derived.Test.YtkneogfeokckjaaDoorAvGet
namespace Go.Proofs.YtkneogfeokckjaaDoor
open Go.RowKit

/-- A control message. -/
structure Ct where
  tunnel : Int
  session : Int
  ns : Int
  nr : Int
  avps : List Av
def ct0 : Ct := ⟨0, 0, 0, 0, []⟩
/-- A data message. -/
structure Ld where
  tunnel : Int
  session : Int
  seq : Bool
  ns : Int
  nr : Int
  data : ByteArray
def ld0 : Ld := ⟨0, 0, false, 0, 0, ⟨#[]⟩⟩
def byteN (b : ByteArray) (k : Nat) : Nat := (b.data.toList.getD k 0).toNat
theorem byteN_lt (b : ByteArray) (k : Nat) : byteN b k < 256 := (b.data.toList.getD k 0).toNat_lt
def wordsB (a b c d : Int) : Bool := wordB a && (wordB b && (wordB c && wordB d))
/-- A control message's bytes, of its values' bytes. -/
def rawF (t s n r : Int) (x : ByteArray) : ByteArray := ⟨#[200, 2]⟩ ++ two (x.size + 12) ++ two t.toNat ++ two s.toNat ++ two n.toNat ++ two r.toNat ++ x
def putCF (c : Ct) (s : ByteArray) : ByteArray × Int :=
  if wordsB c.tunnel c.session c.ns c.nr = true then
    if (putAF c.avps s).2 = 0 then (rawF c.tunnel c.session c.ns c.nr (putAF c.avps s).1, 0) else (⟨#[]⟩, (putAF c.avps s).2)
  else (⟨#[]⟩, 1)
def getCF (b s : ByteArray) : Ct × Int :=
  if b.size < 12 then (ct0, 5)
  else if byteN b 0 ≠ 200 ∨ byteN b 1 ≠ 2 then (ct0, 4)
  else if b.size < numAt b 2 then (ct0, 5)
  else if numAt b 2 < 12 then (ct0, 4)
  else if (getAF (b.extract 12 (numAt b 2)) s).2 = 0 then (⟨numAt b 4, numAt b 6, numAt b 8, numAt b 10, (getAF (b.extract 12 (numAt b 2)) s).1⟩, 0)
  else (ct0, (getAF (b.extract 12 (numAt b 2)) s).2)
def putLF (l : Ld) : ByteArray × Int :=
  if wordsB l.tunnel l.session l.ns l.nr = true ∧ (l.seq = true ∨ (l.ns = 0 ∧ l.nr = 0)) then
    if 1460 < l.data.size then (⟨#[]⟩, 2)
    else if l.seq = true then (⟨#[72, 2]⟩ ++ two (l.data.size + 12) ++ two l.tunnel.toNat ++ two l.session.toNat ++ two l.ns.toNat ++ two l.nr.toNat ++ l.data, 0)
    else (⟨#[64, 2]⟩ ++ two (l.data.size + 8) ++ two l.tunnel.toNat ++ two l.session.toNat ++ l.data, 0)
  else (⟨#[]⟩, 1)
def headL (b : ByteArray) : Nat := if byteN b 0 = 72 then 12 else 8
def getLF (b : ByteArray) : Ld × Int :=
  if b.size < 8 then (ld0, 5)
  else if (byteN b 0 ≠ 64 ∧ byteN b 0 ≠ 72) ∨ byteN b 1 ≠ 2 then (ld0, 4)
  else if b.size < numAt b 2 then (ld0, 5)
  else if numAt b 2 < headL b then (ld0, 4)
  else if 1460 < numAt b 2 - headL b then (ld0, 2)
  else (⟨numAt b 4, numAt b 6, decide (byteN b 0 = 72), if byteN b 0 = 72 then numAt b 8 else 0, if byteN b 0 = 72 then numAt b 10 else 0, b.extract (headL b) (numAt b 2)⟩, 0)
def isCF (b : ByteArray) : Bool := decide (0 < b.size) && decide (128 ≤ byteN b 0)
def kindF (l : List Av) : Int := match l with
  | [] => -2
  | x :: _ => if x.vendor = 0 ∧ x.type = 0 ∧ x.hidden = false ∧ x.value.size = 2 then (numAt x.value 0 : Int) else -1
def needsF (k : Int) : List Int :=
  if k = 1 ∨ k = 2 then [2, 3, 7, 9] else if k = 4 then [9, 1] else if k = 10 ∨ k = 7 then [14, 15] else if k = 11 ∨ k = 8 then [14]
  else if k = 12 ∨ k = 9 then [24, 19] else if k = 14 then [1, 14] else if k = 15 then [34] else if k = 16 then [35] else []
end Go.Proofs.YtkneogfeokckjaaDoor

namespace Go.Proofs.YtkneogfeokckjaaDoor
open Go.RowKit

/-- A control message's box. -/
def CtAt (W : World) (b : Nat) (t s n r : Int) (v : Value) : Prop := W.heap[b]? = some (.cells #[.int .i64 t, .int .i64 s, .int .i64 n, .int .i64 r, v] 24 (0, 0))
theorem CtAt.new (w : World) (t s n r : Int) (v : Value) : CtAt (w.alloc (.cells #[.int .i64 t, .int .i64 s, .int .i64 n, .int .i64 r, v] 24)) w.heap.size t s n r v := heap_alloc_new w _
theorem CtAt.kept {W W' : World} {b : Nat} {t s n r : Int} {v : Value} (h : CtAt W b t s n r v) (hk : Kept (fun _ => False) W W') : CtAt W' b t s n r v := (hk.block b (Array.getElem?_eq_some_iff.1 h).1 id).trans h
theorem CtAt.cells {W : World} {b : Nat} {t s n r : Int} {v : Value} (h : CtAt W b t s n r v) : W.cell? ⟨b, 0, none⟩ = some (.int .i64 t) ∧ W.cell? ⟨b, 1, none⟩ = some (.int .i64 s) ∧ W.cell? ⟨b, 2, none⟩ = some (.int .i64 n) ∧ W.cell? ⟨b, 3, none⟩ = some (.int .i64 r) ∧ W.cell? ⟨b, 4, none⟩ = some v := by
  unfold CtAt at h
  refine ⟨?_, ?_, ?_, ?_, ?_⟩ <;> simp [World.cell?, h]

/-- A data message's box. -/
def LdAt (W : World) (b : Nat) (t s : Int) (q : Bool) (n r : Int) (x : ByteArray) : Prop := W.heap[b]? = some (.cells #[.int .i64 t, .int .i64 s, .bool q, .int .i64 n, .int .i64 r, .string x] 26 (0, 0))
section
variable {W W' : World} {b : Nat} {t s : Int} {q : Bool} {n r : Int} {x : ByteArray}
theorem LdAt.new (w : World) (t s : Int) (q : Bool) (n r : Int) (x : ByteArray) : LdAt (w.alloc (.cells #[.int .i64 t, .int .i64 s, .bool q, .int .i64 n, .int .i64 r, .string x] 26)) w.heap.size t s q n r x := heap_alloc_new w _
theorem LdAt.kept (h : LdAt W b t s q n r x) (hk : Kept (fun _ => False) W W') : LdAt W' b t s q n r x := (hk.block b (Array.getElem?_eq_some_iff.1 h).1 id).trans h
theorem LdAt.cells (h : LdAt W b t s q n r x) : W.cell? ⟨b, 0, none⟩ = some (.int .i64 t) ∧ W.cell? ⟨b, 1, none⟩ = some (.int .i64 s) ∧ W.cell? ⟨b, 2, none⟩ = some (.bool q) ∧ W.cell? ⟨b, 3, none⟩ = some (.int .i64 n) ∧ W.cell? ⟨b, 4, none⟩ = some (.int .i64 r) ∧ W.cell? ⟨b, 5, none⟩ = some (.string x) := by
  unfold LdAt at h
  refine ⟨?_, ?_, ?_, ?_, ?_, ?_⟩ <;> simp [World.cell?, h]
end
theorem LdAt.soft {W : World} {b : Nat} {t s : Int} {q : Bool} {n r : Int} {x : ByteArray} (h : LdAt W b t s q n r x) : ∀ i, W.frozen? ⟨b, i, none⟩ = false := by
  unfold LdAt at h
  intro i
  simp [World.frozen?, h]

/-- The slice v holds the numbers of l, in a row of the call's own. -/
def OwnN (w : World) (base : Nat) (v : Value) (l : List Int) : Prop := w.ownsRow base 3 1 v l.length (l.map (fun i => Value.int .i64 i))
theorem OwnN.nil (w : World) (base : Nat) : OwnN w base (.slice none 0 0) [] := World.ownsRow_nil _ _ _ _
theorem ownN_new (w : World) (l : List Int) (hl : l.length ≤ 1000) : OwnN (w.alloc (.cells (l.map (fun i => Value.int .i64 i)).toArray 3)) w.heap.size (.slice (some ⟨w.heap.size, 0, none⟩) l.length l.length) l :=
  ⟨by simp, Or.inr ⟨w.heap.size, l.length, _, rfl, Nat.le_refl _, heap_alloc_new w _, Nat.le_refl _, by unfold maxLen; omega, by simp, by rw [Nat.mul_one]; exact List.take_of_length_le (by simp)⟩⟩
end Go.Proofs.YtkneogfeokckjaaDoor

namespace Go.Proofs.YtkneogfeokckjaaDoor
open Go.RowKit

theorem numAt_two (b : ByteArray) (k : Nat) (h : k + 2 ≤ b.size) : numAt b k = byteN b k * 256 + byteN b (k + 1) := by
  unfold numAt byteN
  rw [num_two (by rw [List.length_drop, ← Lib.size_eq]; omega)]
  simp only [List.getD_eq_getElem?_getD, List.getElem?_drop, Nat.add_zero]

set_option maxHeartbeats 1000000 in
set_option maxRecDepth 100000 in
theorem mword_any (b : ByteArray) (hb : b.size ≤ 140737488351232) (k : Nat) (h : k + 2 ≤ b.size) (i : Int) (hi : i = (k : Int)) (w : World) :
    Calls Tryd.prog 25 #[.string b, .int .i64 i] w fun e w' => e = .returned (.int .i64 (numAt b k : Int)) ∧ Kept (fun _ => False) w w' := by
  subst hi
  rw [numAt_two b k h]
  unfold byteN
  have b0 := (b.data.toList.getD k 0).toNat_lt
  have b1 := (b.data.toList.getD (k + 1) 0).toNat_lt
  have x0 := index_at b k (by omega) (k : Int) rfl
  have x1 := index_at b (k + 1) (by omega) ((k : Int) + 1) (by omega)
  have hw : IntKind.i64.wrap ((k : Int) + 1) = (k : Int) + 1 := by rw [IntKind.wrap_i64]; omega
  generalize (b.data.toList.getD k 0).toNat = A at b0 x0
  generalize (b.data.toList.getD (k + 1) 0).toNat = B at b1 x1
  have hor := i64_or_byte A B (by omega) (by omega)
  clear h
  go_enter Tryd.func25, Tryd.ntmps25
  go_wp2
  go_region
  go_wp2
  go_ret
  exact ⟨ret_int (by omega), (Kept.refl _ _).drew⟩

/-- What stands behind a head, up to the length that it names. -/
def cutM (b : ByteArray) (head : Nat) : ByteArray × Int :=
  if b.size < numAt b 2 then (⟨#[]⟩, 5) else if numAt b 2 < head then (⟨#[]⟩, 4) else (b.extract head (numAt b 2), 0)

set_option maxHeartbeats 1000000 in
set_option maxRecDepth 100000 in
theorem mcut_any (b : ByteArray) (hb : b.size ≤ 140737488351232) (h4 : 4 ≤ b.size) (head : Nat) (i : Int) (hi : i = (head : Int)) (w : World) :
    Calls Tryd.prog 26 #[.string b, .int .i64 i] w fun e w' => e = .returned (.tuple #[.string (cutM b head).1, .int .i64 (cutM b head).2]) ∧ Kept (fun _ => False) w w' := by
  subst hi
  have HW := hid (fun W => mword_any b hb 2 (by omega) 2 rfl W)
  unfold cutM
  generalize numAt b 2 = N at *
  by_cases h1 : b.size < N
  · rw [if_pos h1]
    have h1z : (b.size : Int) < (N : Int) := by omega
    clear h1
    go_enter Tryd.func26, Tryd.ntmps26
    go_wp2_with fail
    refine (HW.out _).mono ?_
    rintro e w1 ⟨rfl, hk1⟩
    have HK := hid hk1
    clear hk1
    go_wp2
    go_ret2
    exact ⟨rfl, HK.out⟩
  · rw [if_neg h1]
    have h1z : ¬ (b.size : Int) < (N : Int) := by omega
    by_cases h2 : N < head
    · rw [if_pos h2]
      have h2z : (N : Int) < (head : Int) := by omega
      clear h1 h2
      go_enter Tryd.func26, Tryd.ntmps26
      go_wp2_with fail
      refine (HW.out _).mono ?_
      rintro e w1 ⟨rfl, hk1⟩
      have HK := hid hk1
      clear hk1
      go_wp2
      go_ret2
      exact ⟨rfl, HK.out⟩
    · rw [if_neg h2]
      have h2z : ¬ (N : Int) < (head : Int) := by omega
      have hm := mid_at b head N (by omega) (by omega) (head : Int) (N : Int) rfl rfl
      clear h1 h2
      go_enter Tryd.func26, Tryd.ntmps26
      go_wp2_with fail
      refine (HW.out _).mono ?_
      rintro e w1 ⟨rfl, hk1⟩
      have HK := hid hk1
      clear hk1
      go_wp2
      go_ret2
      exact ⟨rfl, HK.out⟩

set_option maxHeartbeats 1000000 in
set_option maxRecDepth 100000 in
theorem mIsCtl_any (b : ByteArray) (hb : b.size ≤ 140737488351232) (w : World) :
    Calls Tryd.prog 13 #[.string b] w fun e w' => e = .returned (.bool (isCF b)) ∧ Kept (fun _ => False) w w' := by
  by_cases h0 : b.size = 0
  · obtain rfl := str_nil b h0
    go_enter Tryd.func13, Tryd.ntmps13
    go_wp2
    go_ret
    exact ⟨rfl, Kept.refl _ _⟩
  · have hne : b.toList.isEmpty = false := by
      rw [ByteArray.toList_eq]
      cases e : b.data.toList with
      | nil => exact absurd (by rw [Lib.size_eq, e]; rfl) h0
      | cons x r => rfl
    have x0 := index_at b 0 (by omega) 0 rfl
    have b0 := (b.data.toList.getD 0 0).toNat_lt
    have HB : Hid (isCF b = decide (128 ≤ byteN b 0)) := by
      show isCF b = _
      simp [isCF]
      omega
    unfold byteN at HB
    generalize (b.data.toList.getD 0 0).toNat = A at *
    by_cases h1 : 128 ≤ A
    · have h1z : ((A : Int) / 128 == 1) = true := by rw [beq_iff_eq]; omega
      rw [decide_eq_true h1] at HB
      go_enter Tryd.func13, Tryd.ntmps13
      go_wp2
      go_ret
      exact ⟨by rw [HB.out]; rfl, Kept.refl _ _⟩
    · have h1z : ((A : Int) / 128 == 1) = false := by rw [beq_eq_false_iff_ne]; omega
      rw [decide_eq_false h1] at HB
      go_enter Tryd.func13, Tryd.ntmps13
      go_wp2
      go_ret
      exact ⟨by rw [HB.out]; rfl, Kept.refl _ _⟩

theorem all_drop {l : List Int} {j : Nat} {x : Int} (hx : l[j]? = some x) (h : (l.take j).all wordB = true) : (l.take (j + 1)).all wordB = wordB x := by
  rw [take_next hx, List.all_append, h]
  simp
theorem all_no {l : List Int} {j : Nat} {x : Int} (hx : l[j]? = some x) (h : wordB x = false) : l.all wordB = false := by
  rw [← Bool.not_eq_true, List.all_eq_true]
  intro ha
  rw [ha x (List.mem_of_getElem? hx)] at h
  cases h

set_option maxHeartbeats 2000000 in
set_option maxRecDepth 100000 in
theorem areWords_any (v : Value) (l : List Int) (w : World) (hv : IntsV w v l) (hl : l.length ≤ 1000) :
    Calls Tryd.prog 22 #[v] w fun e w' => e = .returned (.bool (l.all wordB)) ∧ Kept (fun _ => False) w w' := by
  obtain ⟨p, cap, rfl⟩ := RowsAt.slice hv
  obtain ⟨R, hR⟩ : ∃ R, R = l.all wordB := ⟨_, rfl⟩
  rw [← hR]
  have Hat : Hid (∀ (j : Nat) (x : Int), l[j]? = some x → ∀ W, Kept (fun _ => False) w W → ∃ g o, p = some ⟨g, o, none⟩ ∧ l.length ≤ cap ∧ W.cell? ⟨g, o + j, none⟩ = some (.int .i64 x)) := fun j x hj W hW => by
    obtain ⟨g, o, e, hc, hq⟩ := (RowsAt.kept0 hv hW).at hj
    have := hq 0 (.int .i64 x) rfl
    rw [Nat.mul_one, Nat.add_zero] at this
    exact ⟨g, o, e, hc, this⟩
  have HR := hid hR
  clear hv hR
  go_enter Tryd.func22, Tryd.ntmps22
  go_wp2
  go_loopw [7] (fun vi wr => ∃ (j : Nat), j ≤ l.length ∧ vi = .int .i64 (j : Int) ∧ Hid ((l.take j).all wordB = true ∧ Kept (fun _ => False) w wr)) (fun vi _ => l.length - (intOf vi).toNat)
  case atStart => exact ⟨0, Nat.zero_le _, rfl, rfl, Kept.refl _ _⟩
  case round =>
    obtain ⟨j, hj, rfl, HI⟩ := hrel
    by_cases hlt : j < l.length
    · have hltz : (j : Int) < (l.length : Int) := by omega
      obtain ⟨x, hx⟩ : ∃ x, l[j]? = some x := ⟨l[j], by simp [hlt]⟩
      obtain ⟨g, o, rfl, hcap, c0⟩ := Hat.out j x hx wr HI.out.2
      have hD := all_drop hx HI.out.1
      have hF := fun h => all_no (l := l) hx h
      have HK := hid HI.out.2
      clear HI hx
      by_cases h1 : x < 0
      · have hb : wordB x = false := by simp [wordB]; omega
        have HT := hid (hF hb)
        clear hD hF hb
        go_wp2
        go_ret
        exact ⟨by rw [HR.out, HT.out]; rfl, HK.out⟩
      · by_cases h2 : 65535 < x
        · have hb : wordB x = false := by simp [wordB]; omega
          have HT := hid (hF hb)
          clear hD hF hb
          go_wp2
          go_ret
          exact ⟨by rw [HR.out, HT.out]; rfl, HK.out⟩
        · have hb : wordB x = true := by simp [wordB]; omega
          rw [hb] at hD
          have HT := hid hD
          clear hD hF hb
          go_wp2
          exact ⟨⟨j + 1, hlt, by go_num, HT.out, HK.out⟩, by simp [intOf]; omega⟩
    · obtain rfl : j = l.length := by omega
      have hltz : ¬ (l.length : Int) < (l.length : Int) := by omega
      have hT := HI.out.1
      rw [List.take_length] at hT
      have HT := hid hT
      have HK := hid HI.out.2
      clear hT HI hlt
      go_wp2
      go_ret
      exact ⟨by rw [HR.out, HT.out]; rfl, HK.out⟩
end Go.Proofs.YtkneogfeokckjaaDoor

namespace Go.Proofs.YtkneogfeokckjaaDoor
open Go.RowKit

def nCells (z : Int) : List Value := [.int .i64 z]
theorem nCells_one : ∀ (z : Int) (u : Value), u ∈ nCells z → u.oneCell' = true := fun z u hu => by
  simp [nCells] at hu
  subst hu
  rfl
theorem encN : EncG nCells 1 := ⟨fun _ => rfl, nCells_one, by decide⟩
theorem msInfo3 : (Tryd.prog.info? 3).map (fun i => (i.zero, i.size, i.bytes)) = some (some (.int .i64 0), 1, 8) := by kernel_rfl
theorem tyN : TyG Tryd.prog 40 3 1 (.int .i64 0) 8 := ⟨Tryd.underlying40, msInfo3, rfl, by decide⟩
/-- The slice v holds the numbers of l, in a row of the call's own. -/
def OwnZ (w : World) (base : Nat) (v : Value) (l : List Int) : Prop := OwnG nCells 1 3 w base v l
theorem own_two_z (w : World) (a b : Int) (base : Nat) (hb : base ≤ w.heap.size) : OwnZ (w.alloc (.cells #[.int .i64 a, .int .i64 b] 3)) base (.slice (some ⟨w.heap.size, 0, none⟩) 2 2) [a, b] :=
  ⟨rfl, Or.inr ⟨w.heap.size, 2, _, rfl, hb, heap_alloc_new w _, Nat.le_refl _, by unfold maxLen; omega, rfl, rfl⟩⟩
theorem IntsV.src {w : World} {p : Option Addr} {n cap : Nat} {l : List Int} (h : IntsV w (.slice p n cap) l) (hne : l ≠ []) : ∃ ad, p = some ad ∧ ∀ (j : Nat) (u : Value), (rowG nCells l)[j]? = some u → w.cell? (ad.add j) = some u := by
  rcases h with ⟨rfl, _⟩ | ⟨g, o, cap', e, h1, h2, hc⟩
  · exact absurd rfl hne
  · simp only [Value.slice.injEq] at e
    obtain ⟨rfl, rfl, rfl⟩ := e
    refine ⟨_, rfl, fun j u hu => ?_⟩
    have hj := (List.getElem?_eq_some_iff.1 hu).1
    rw [encN.length] at hj
    obtain ⟨x, hx⟩ : ∃ x, l[j]? = some x := ⟨l[j]'(by omega), by simp⟩
    have e1 : (rowG nCells l)[j * 1 + 0]? = (nCells x)[0]? := encN.get hx 0 (by omega)
    rw [show j * 1 + 0 = j by omega, hu] at e1
    have := hc j x hx 0 u e1.symm
    rw [add_none]
    rw [show o + j * 1 + 0 = o + j by omega] at this
    exact this
/-- Words behind bytes. -/
def twosF : ByteArray → List Int → ByteArray
  | acc, [] => acc
  | acc, z :: r => twosF (acc ++ two z.toNat) r
def layF (f : Int) (x : ByteArray) (ws : List Int) : ByteArray := twosF ⟨#[]⟩ (f :: ((2 * (2 + ws.length) + x.size : Nat) : Int) :: ws) ++ x
/-- How far the loop has come. -/
structure LayI (w : World) (L : List Int) (R : ByteArray) (ro : Value) (j : Nat) (acc : ByteArray) (vb : Value) (W : World) : Prop where
  own : W.ownsRow w.heap.size 5 1 vb acc.size (Lib.byteCells acc.data.toList)
  row : OwnZ W w.heap.size ro L
  on : twosF acc (L.drop j) = R
  size : acc.size = 2 * j
  kept : Kept (fun _ => False) w W
theorem rows_apart {W : World} {base base' n m : Nat} {v u : Value} {xs ys : List Value} (h : W.ownsRow base 5 1 v n xs) (h' : W.ownsRow base' 3 1 u m ys) : ∀ i, u.ownBlock = some i → ¬ (v.ownBlock = some i) := fun i hi hv => owned_unlike h h' (by decide) i hv hi

set_option maxHeartbeats 4000000 in
set_option maxRecDepth 100000 in
theorem lay_any2 (f : Int) (hf : wordB f = true) (x : ByteArray) (hx : x.size ≤ 60000) (ws : List Int) (hws : ∀ z ∈ ws, wordB z = true) (hn : ws.length ≤ 8) (v : Value) (w : World) (hv : IntsV w v ws) :
    Calls Tryd.prog 24 #[.int .i64 f, .string x, v] w fun e w' => e = .returned (.string (layF f x ws)) ∧ Kept (fun _ => False) w w' := by
  obtain ⟨i0, hi, hz0, hz1, hz2⟩ := info_parts info5
  obtain ⟨p, cap, rfl⟩ := RowsAt.slice hv
  obtain ⟨Z, hZ⟩ : ∃ Z, Z = 2 * (2 + ws.length) + x.size := ⟨_, rfl⟩
  have hZ64 : wordB (Z : Int) = true := by simp [wordB]; omega
  obtain ⟨L, hL⟩ : ∃ L, L = f :: (Z : Int) :: ws := ⟨_, rfl⟩
  have hLw : Hid (∀ z ∈ L, wordB z = true) := by
    show ∀ z ∈ L, wordB z = true
    rw [hL]
    intro z hz
    simp only [List.mem_cons] at hz
    rcases hz with rfl | rfl | hz
    · exact hf
    · exact hZ64
    · exact hws z hz
  have hLn : L.length = 2 + ws.length := by rw [hL]; simp; omega
  obtain ⟨R, hR⟩ : ∃ R, R = twosF ⟨#[]⟩ L := ⟨_, rfl⟩
  have hE : layF f x ws = R ++ x := by rw [hR, hL, hZ]; rfl
  rw [hE]
  have HR := hid hR.symm
  have HL := hid hL
  have HV := hid hv
  have hZz : (2 : Int) * (2 + (ws.length : Int)) + (x.size : Int) = (Z : Int) := by omega
  have HZb : Hid (Z ≤ 65535 ∧ L.length = 2 + ws.length) := ⟨by omega, hLn⟩
  clear hR hL hE hv hf hws hZ64 hLn
  have HZ := hid hZ
  clear hZ
  go_enter Tryd.func24, Tryd.ntmps24
  go_wp2_with (at_make; refine wpList_make_own _ rfl _ _ 71 rfl w.heap.size 5 i0 (.int .u8 0) 1 Tryd.underlying71 hi hz0 hz1 .i64 .i64 _ Z rfl rfl ?m1 ?m2 ?m3 ?m4 ?_)
  case m1 => omega
  case m2 => rw [hz2]; omega
  case m3 => unfold maxLen; omega
  case m4 => exact Nat.le_refl _
  intro w1 hown1 hg1
  have K1 := hid ((Kept.refl (fun _ => False) w).grown hg1 (fun j hj => by cases hj))
  have hs1 := K1.out.size
  have O2 := own_two_z w1 f (Z : Int) w.heap.size hs1
  have B2 := hown1.alloc (.cells #[.int .i64 f, .int .i64 (Z : Int)] 3)
  have K2 := K1.out.alloc (.cells #[.int .i64 f, .int .i64 (Z : Int)] 3)
  have V2 := RowsAt.kept0 HV.out K2
  obtain ⟨v3, w3, happ, O3, K3⟩ := OwnG.appendList tyN encN O2 K2.size p cap ws (fun hne => IntsV.src V2 hne) (by simp; omega)
  have hbb := rows_apart B2 O2
  have B3 := owned_kept B2 K3 (fun i h h' => hbb i h' h)
  have K3' := K2.andThen K3 (fun i hi h => by
    have : w1.heap.size = i := by simpa [Value.ownBlock] using h
    omega)
  have HI0 : Hid (LayI w L R v3 0 ⟨#[]⟩ (.slice (some ⟨w.heap.size, 0, none⟩) 0 Z) w3) := ⟨B3, by rw [HL.out]; exact O3, HR.out, rfl, K3'⟩
  obtain ⟨p3, c3, rfl⟩ := slice_of O3
  have hl3 : ([f, (Z : Int)] ++ ws).length = L.length := by rw [HL.out]; rfl
  rw [hl3] at happ HI0
  obtain ⟨m, hm⟩ : ∃ m, m = L.length := ⟨_, rfl⟩
  rw [← hm] at happ HI0 HZb
  have HM := hid hm
  have hmb : m ≤ 10 := by have := HZb.out.2; omega
  have Happ := hid happ
  clear hown1 hg1 O2 B2 K2 V2 O3 K3 B3 K3' hbb K1 hs1 hl3 hm happ HV
  go_wp2_with (at_builtin; refine Lib.wpList_append_run _ rfl _ _ _ _ rfl _ _ rfl rfl _ _ (Happ.out _) ?_)
  clear Happ
  go_loopw [8, 26] (fun vb vi wr => ∃ (j : Nat) (acc : ByteArray), j ≤ m ∧ vi = .int .i64 (j : Int) ∧ Hid (LayI w L R (.slice p3 m c3) j acc vb wr)) (fun _ vi _ => m - (intOf vi).toNat)
  case atStart => exact ⟨0, ⟨#[]⟩, Nat.zero_le _, rfl, HI0.out⟩
  case round =>
    obtain ⟨j, acc, hj, rfl, HI⟩ := hrel
    clear HI0
    by_cases hlt : j < m
    · have hltz : (j : Int) < (m : Int) := by omega
      obtain ⟨z, hz⟩ : ∃ z, L[j]? = some z := ⟨L[j]'(by rw [← HM.out]; exact hlt), by simp⟩
      obtain ⟨a, rfl, ha⟩ := wordB_nat (hLw.out z (List.mem_of_getElem? hz))
      obtain ⟨g3, hp3, hn3, hb3, hc3, hm3, hcell, hf3⟩ := OwnG.at HI.out.row encN hz
      clear hn3 hb3 hm3 hf3
      rw [← HM.out] at hc3
      subst hp3
      have c0 := hcell 0 _ rfl
      rw [Nat.mul_one, Nat.add_zero] at c0
      have hT := HI.out.on
      rw [drop_at hz] at hT
      simp only [twosF, Int.toNat_natCast] at hT
      have HT := hid hT
      have HAC := hid HI.out.size
      have hac : acc.size ≤ 20 := by have := HI.out.size; omega
      have hown := HI.out.own
      have hs := HI.out.kept.size
      have HRow := hid HI.out.row
      have HK := hid HI.out.kept
      have HAp := hid (rows_apart HI.out.own HI.out.row)
      have ha2 : a ≤ 65535 := by omega
      have E1 : Hid ((a : Int) / 256 = ((a / 256 : Nat) : Int)) := by show _ = _; omega
      have E2 : Hid ((a : Int) % 256 = ((a % 256 : Nat) : Int)) := by show _ = _; omega
      clear hT hz HI hcell ha
      go_wp2_with (at_builtin; refine wpList_append_own _ rfl _ _ 71 rfl w.heap.size 5 i0 (.int .u8 0) 1 1 Tryd.underlying71 hi hz0 hz1 hz2 rfl (by decide) _ _ _ rfl (hown.alloc _) ⟨wr.heap.size, 0, none⟩ 2 2 [.int .u8 ((a : Int) / 256), .int .u8 ((a : Int) % 256)] rfl rfl ?c1 ?c2 ?c3 ?c4 ?c5 ?_)
      case c1 => exact cells_two_new _ _ _ _
      case c2 => intro u hu; simp at hu; rcases hu with rfl | rfl <;> rfl
      case c3 => unfold maxLen; omega
      case c4 => omega
      case c5 => simp; omega
      intro v4 w4 hown4' hg4 _
      have e1 := E1.out
      have e2 := E2.out
      clear E1 E2
      rw [e1, e2] at hown4'
      have R4 := (append_two (x := a / 256) (y := a % 256) (by omega) (by omega) hs hown hown4' (by rw [← e1, ← e2]; exact hg4)).1
      have K4 : Kept (fun i => u8.ownBlock = some i) wr w4 := ((Kept.refl _ wr).alloc _).grown hg4 (fun j hj => Or.inr hj)
      have HN : Hid (LayI w L R (.slice (some ⟨g3, 0, none⟩) m c3) (j + 1) (acc ++ two a) v4 w4) := by
        refine ⟨?_, OwnG.keptS HRow.out K4 (HAp.out), HT.out, by rw [ByteArray.size_append, two_size, HAC.out]; omega, kept_base HK.out (Nat.le_refl _) hown K4⟩
        rw [ByteArray.size_append, two_size, ByteArray.data_append, Array.toList_append]
        show World.ownsRow _ _ _ _ _ _ (Lib.byteCells (acc.data.toList ++ low a 2))
        rw [low_two, Nat.mod_eq_of_lt (show a / 256 < 256 by omega)]
        exact R4
      clear hown4' hg4 R4 K4 hown HK HRow HAp e1 e2 c0 HT
      go_wp2
      exact ⟨⟨j + 1, _, hlt, by go_num, HN.out⟩, by simp [intOf]; omega⟩
    · obtain rfl : j = m := by omega
      have hltz : ¬ (j : Int) < (j : Int) := by omega
      have hT := HI.out.on
      rw [HM.out, List.drop_length] at hT
      simp only [twosF] at hT
      subst hT
      have hs := HI.out.kept.size
      have hown := HI.out.own
      have HAC := hid HI.out.size
      have hac : acc.size ≤ 20 := by have := HI.out.size; omega
      have HK := hid HI.out.kept
      clear HI hlt hj
      go_wp2_with (at_builtin; refine Lib.wpList_append_own_string _ rfl _ _ 71 9 rfl w.heap.size 5 i0 Tryd.underlying71 Tryd.underlying9 hi hz0 hz1 hz2 _ _ _ rfl hown x rfl ?c1 ?c2 ?c3 ?_)
      case c1 => unfold maxLen; omega
      case c2 => omega
      intro v7 w7 hown7 hg7 _
      have R7 := append_str hs hown hown7 hg7
      have hk7 : Kept (fun i => u8.ownBlock = some i) wr w7 := (Kept.refl _ wr).grown hg7 (fun j hj => Or.inr hj)
      have HK7 := hid (kept_base HK.out (Nat.le_refl _) hown hk7)
      have hcv := put_conv R7.1
      have HE : Hid ((⟨(acc.data.toList ++ x.data.toList).toArray⟩ : ByteArray) = acc ++ x) := bytes_ext (by rw [ByteArray.data_append, Array.toList_append])
      obtain ⟨q, cp, rfl⟩ := slice_of hown7
      clear hown7 hg7 R7 hk7 HK hown
      go_wp2
      go_ret
      exact ⟨by rw [← HE.out]; rfl, HK7.out⟩
end Go.Proofs.YtkneogfeokckjaaDoor

namespace Go.Proofs.YtkneogfeokckjaaDoor
open Go.RowKit

set_option maxHeartbeats 4000000 in
set_option maxRecDepth 100000 in
theorem mKind_none (t s n r : Int) (p : Option Addr) (c : Nat) (w : World) :
    Calls Tryd.prog 19 #[.agg #[.int .i64 t, .int .i64 s, .int .i64 n, .int .i64 r, .slice p 0 c]] w fun e w' => e = .returned (.int .i64 (-2)) ∧ Kept (fun _ => False) w w' := by
  obtain ⟨b0, b1, b2, b3, b4⟩ := (CtAt.new w t s n r (.slice p 0 c)).cells
  go_enter Tryd.func19, Tryd.ntmps19
  go_wp2
  go_ret
  exact ⟨rfl, (Kept.refl _ w).alloc _⟩

set_option maxHeartbeats 4000000 in
set_option maxRecDepth 100000 in
theorem mKind_v (t s n r : Int) (g o len c : Nat) (m q : Bool) (V T : Int) (x : ByteArray) (hl : 0 < len) (_hc : len ≤ c) (w : World) (x0 : w.cell? ⟨g, o, none⟩ = some (.bool m)) (x1 : w.cell? ⟨g, o + 1, none⟩ = some (.bool q)) (x2 : w.cell? ⟨g, o + 2, none⟩ = some (.int .i64 V)) (x3 : w.cell? ⟨g, o + 3, none⟩ = some (.int .i64 T)) (x4 : w.cell? ⟨g, o + 4, none⟩ = some (.string x)) (h : V ≠ 0) :
    Calls Tryd.prog 19 #[.agg #[.int .i64 t, .int .i64 s, .int .i64 n, .int .i64 r, .slice (some ⟨g, o, none⟩) len c]] w fun e w' => e = .returned (.int .i64 (-1)) ∧ Kept (fun _ => False) w w' := by
  have K0 := (Kept.refl (fun _ => False) w).alloc (.cells #[.int .i64 t, .int .i64 s, .int .i64 n, .int .i64 r, .slice (some ⟨g, o, none⟩) len c] 24)
  obtain ⟨b0, b1, b2, b3, b4⟩ := (CtAt.new w t s n r (.slice (some ⟨g, o, none⟩) len c)).cells
  have y0 := (K0.cell (lt_of_cell x0) id).trans x0
  have y1 := (K0.cell (lt_of_cell x1) id).trans x1
  have y2 := (K0.cell (lt_of_cell x2) id).trans x2
  have y3 := (K0.cell (lt_of_cell x3) id).trans x3
  have y4 := (K0.cell (lt_of_cell x4) id).trans x4
  have hlz : (0 : Int) < (len : Int) := by omega
  have hl0 : ¬ (len : Int) = 0 := by omega
  have hv : (V != 0) = true := by
    rw [bne_iff_ne]
    omega
  clear h
  have HK := hid K0
  clear x0 x1 x2 x3 x4 K0
  go_enter Tryd.func19, Tryd.ntmps19
  go_wp2
  go_ret
  exact ⟨rfl, HK.out.alloc _⟩

set_option maxHeartbeats 4000000 in
set_option maxRecDepth 100000 in
theorem mKind_t (t s n r : Int) (g o len c : Nat) (m q : Bool) (V T : Int) (x : ByteArray) (hl : 0 < len) (_hc : len ≤ c) (w : World) (x0 : w.cell? ⟨g, o, none⟩ = some (.bool m)) (x1 : w.cell? ⟨g, o + 1, none⟩ = some (.bool q)) (x2 : w.cell? ⟨g, o + 2, none⟩ = some (.int .i64 V)) (x3 : w.cell? ⟨g, o + 3, none⟩ = some (.int .i64 T)) (x4 : w.cell? ⟨g, o + 4, none⟩ = some (.string x)) (hV : V = 0) (h : T ≠ 0) :
    Calls Tryd.prog 19 #[.agg #[.int .i64 t, .int .i64 s, .int .i64 n, .int .i64 r, .slice (some ⟨g, o, none⟩) len c]] w fun e w' => e = .returned (.int .i64 (-1)) ∧ Kept (fun _ => False) w w' := by
  have K0 := (Kept.refl (fun _ => False) w).alloc (.cells #[.int .i64 t, .int .i64 s, .int .i64 n, .int .i64 r, .slice (some ⟨g, o, none⟩) len c] 24)
  obtain ⟨b0, b1, b2, b3, b4⟩ := (CtAt.new w t s n r (.slice (some ⟨g, o, none⟩) len c)).cells
  have y0 := (K0.cell (lt_of_cell x0) id).trans x0
  have y1 := (K0.cell (lt_of_cell x1) id).trans x1
  have y2 := (K0.cell (lt_of_cell x2) id).trans x2
  have y3 := (K0.cell (lt_of_cell x3) id).trans x3
  have y4 := (K0.cell (lt_of_cell x4) id).trans x4
  have hlz : (0 : Int) < (len : Int) := by omega
  have hl0 : ¬ (len : Int) = 0 := by omega
  subst hV
  have hv : (T != 0) = true := by
    rw [bne_iff_ne]
    omega
  clear h
  have HK := hid K0
  clear x0 x1 x2 x3 x4 K0
  go_enter Tryd.func19, Tryd.ntmps19
  go_wp2
  go_ret
  exact ⟨rfl, HK.out.alloc _⟩

set_option maxHeartbeats 4000000 in
set_option maxRecDepth 100000 in
theorem mKind_h (t s n r : Int) (g o len c : Nat) (m q : Bool) (V T : Int) (x : ByteArray) (hl : 0 < len) (_hc : len ≤ c) (w : World) (x0 : w.cell? ⟨g, o, none⟩ = some (.bool m)) (x1 : w.cell? ⟨g, o + 1, none⟩ = some (.bool q)) (x2 : w.cell? ⟨g, o + 2, none⟩ = some (.int .i64 V)) (x3 : w.cell? ⟨g, o + 3, none⟩ = some (.int .i64 T)) (x4 : w.cell? ⟨g, o + 4, none⟩ = some (.string x)) (hV : V = 0) (hT : T = 0) (hq : q = true) :
    Calls Tryd.prog 19 #[.agg #[.int .i64 t, .int .i64 s, .int .i64 n, .int .i64 r, .slice (some ⟨g, o, none⟩) len c]] w fun e w' => e = .returned (.int .i64 (-1)) ∧ Kept (fun _ => False) w w' := by
  have K0 := (Kept.refl (fun _ => False) w).alloc (.cells #[.int .i64 t, .int .i64 s, .int .i64 n, .int .i64 r, .slice (some ⟨g, o, none⟩) len c] 24)
  obtain ⟨b0, b1, b2, b3, b4⟩ := (CtAt.new w t s n r (.slice (some ⟨g, o, none⟩) len c)).cells
  have y0 := (K0.cell (lt_of_cell x0) id).trans x0
  have y1 := (K0.cell (lt_of_cell x1) id).trans x1
  have y2 := (K0.cell (lt_of_cell x2) id).trans x2
  have y3 := (K0.cell (lt_of_cell x3) id).trans x3
  have y4 := (K0.cell (lt_of_cell x4) id).trans x4
  have hlz : (0 : Int) < (len : Int) := by omega
  have hl0 : ¬ (len : Int) = 0 := by omega
  subst hV hT hq
  have HK := hid K0
  clear x0 x1 x2 x3 x4 K0
  go_enter Tryd.func19, Tryd.ntmps19
  go_wp2
  go_ret
  exact ⟨rfl, HK.out.alloc _⟩

set_option maxHeartbeats 4000000 in
set_option maxRecDepth 100000 in
theorem mKind_s (t s n r : Int) (g o len c : Nat) (m q : Bool) (V T : Int) (x : ByteArray) (hl : 0 < len) (_hc : len ≤ c) (w : World) (x0 : w.cell? ⟨g, o, none⟩ = some (.bool m)) (x1 : w.cell? ⟨g, o + 1, none⟩ = some (.bool q)) (x2 : w.cell? ⟨g, o + 2, none⟩ = some (.int .i64 V)) (x3 : w.cell? ⟨g, o + 3, none⟩ = some (.int .i64 T)) (x4 : w.cell? ⟨g, o + 4, none⟩ = some (.string x)) (hV : V = 0) (hT : T = 0) (hq : q = false) (h : x.size ≠ 2) :
    Calls Tryd.prog 19 #[.agg #[.int .i64 t, .int .i64 s, .int .i64 n, .int .i64 r, .slice (some ⟨g, o, none⟩) len c]] w fun e w' => e = .returned (.int .i64 (-1)) ∧ Kept (fun _ => False) w w' := by
  have K0 := (Kept.refl (fun _ => False) w).alloc (.cells #[.int .i64 t, .int .i64 s, .int .i64 n, .int .i64 r, .slice (some ⟨g, o, none⟩) len c] 24)
  obtain ⟨b0, b1, b2, b3, b4⟩ := (CtAt.new w t s n r (.slice (some ⟨g, o, none⟩) len c)).cells
  have y0 := (K0.cell (lt_of_cell x0) id).trans x0
  have y1 := (K0.cell (lt_of_cell x1) id).trans x1
  have y2 := (K0.cell (lt_of_cell x2) id).trans x2
  have y3 := (K0.cell (lt_of_cell x3) id).trans x3
  have y4 := (K0.cell (lt_of_cell x4) id).trans x4
  have hlz : (0 : Int) < (len : Int) := by omega
  have hl0 : ¬ (len : Int) = 0 := by omega
  subst hV hT hq
  have hv : ((x.size : Int) != 2) = true := by
    rw [bne_iff_ne]
    omega
  clear h
  have HK := hid K0
  clear x0 x1 x2 x3 x4 K0
  go_enter Tryd.func19, Tryd.ntmps19
  go_wp2
  go_ret
  exact ⟨rfl, HK.out.alloc _⟩

set_option maxHeartbeats 4000000 in
set_option maxRecDepth 100000 in
theorem mKind_ok (t s n r : Int) (g o len c : Nat) (m q : Bool) (V T : Int) (x : ByteArray) (hl : 0 < len) (_hc : len ≤ c) (w : World) (x0 : w.cell? ⟨g, o, none⟩ = some (.bool m)) (x1 : w.cell? ⟨g, o + 1, none⟩ = some (.bool q)) (x2 : w.cell? ⟨g, o + 2, none⟩ = some (.int .i64 V)) (x3 : w.cell? ⟨g, o + 3, none⟩ = some (.int .i64 T)) (x4 : w.cell? ⟨g, o + 4, none⟩ = some (.string x)) (hV : V = 0) (hT : T = 0) (hq : q = false) (h : x.size = 2) :
    Calls Tryd.prog 19 #[.agg #[.int .i64 t, .int .i64 s, .int .i64 n, .int .i64 r, .slice (some ⟨g, o, none⟩) len c]] w fun e w' => e = .returned (.int .i64 (numAt x 0 : Int)) ∧ Kept (fun _ => False) w w' := by
  have K0 := (Kept.refl (fun _ => False) w).alloc (.cells #[.int .i64 t, .int .i64 s, .int .i64 n, .int .i64 r, .slice (some ⟨g, o, none⟩) len c] 24)
  obtain ⟨b0, b1, b2, b3, b4⟩ := (CtAt.new w t s n r (.slice (some ⟨g, o, none⟩) len c)).cells
  have y0 := (K0.cell (lt_of_cell x0) id).trans x0
  have y1 := (K0.cell (lt_of_cell x1) id).trans x1
  have y2 := (K0.cell (lt_of_cell x2) id).trans x2
  have y3 := (K0.cell (lt_of_cell x3) id).trans x3
  have y4 := (K0.cell (lt_of_cell x4) id).trans x4
  have hlz : (0 : Int) < (len : Int) := by omega
  have hl0 : ¬ (len : Int) = 0 := by omega
  subst hV hT hq
  have hz : ((x.size : Int) != 2) = false := by
    simp [h]
  have HN := hid (fun W => mword_any x (by omega) 0 (by omega) 0 rfl W)
  clear h
  have HK := hid K0
  clear x0 x1 x2 x3 x4 K0
  go_enter Tryd.func19, Tryd.ntmps19
  go_wp2_with fail
  refine (HN.out _).mono ?_
  rintro e w1 ⟨rfl, hk⟩
  have HK1 := hid ((HK.out.alloc _).trans hk)
  clear hk
  go_wp2
  go_ret
  exact ⟨rfl, HK1.out⟩

/-- Of a list whose first value lies there. -/
theorem mKind_some (t s n r : Int) (g o len c : Nat) (x : Av) (l : List Av) (hl : 0 < len) (hc : len ≤ c) (w : World) (x0 : w.cell? ⟨g, o, none⟩ = some (.bool x.must)) (x1 : w.cell? ⟨g, o + 1, none⟩ = some (.bool x.hidden)) (x2 : w.cell? ⟨g, o + 2, none⟩ = some (.int .i64 x.vendor)) (x3 : w.cell? ⟨g, o + 3, none⟩ = some (.int .i64 x.type)) (x4 : w.cell? ⟨g, o + 4, none⟩ = some (.string x.value)) :
    Calls Tryd.prog 19 #[.agg #[.int .i64 t, .int .i64 s, .int .i64 n, .int .i64 r, .slice (some ⟨g, o, none⟩) len c]] w fun e w' => e = .returned (.int .i64 (kindF (x :: l))) ∧ Kept (fun _ => False) w w' := by
  rw [show kindF (x :: l) = (if x.vendor = 0 ∧ x.type = 0 ∧ x.hidden = false ∧ x.value.size = 2 then (numAt x.value 0 : Int) else -1) from rfl]
  by_cases hV : x.vendor = 0
  · by_cases hT : x.type = 0
    · cases hq : x.hidden with
      | true =>
        rw [if_neg (by simp)]
        exact mKind_h t s n r g o len c x.must x.hidden x.vendor x.type x.value hl hc w x0 x1 x2 x3 x4 hV hT hq
      | false =>
        by_cases hs : x.value.size = 2
        · rw [if_pos ⟨hV, hT, rfl, hs⟩]
          exact mKind_ok t s n r g o len c x.must x.hidden x.vendor x.type x.value hl hc w x0 x1 x2 x3 x4 hV hT hq hs
        · rw [if_neg (fun h => hs h.2.2.2)]
          exact mKind_s t s n r g o len c x.must x.hidden x.vendor x.type x.value hl hc w x0 x1 x2 x3 x4 hV hT hq hs
    · rw [if_neg (fun h => hT h.2.1)]
      exact mKind_t t s n r g o len c x.must x.hidden x.vendor x.type x.value hl hc w x0 x1 x2 x3 x4 hV hT
  · rw [if_neg (fun h => hV h.1)]
    exact mKind_v t s n r g o len c x.must x.hidden x.vendor x.type x.value hl hc w x0 x1 x2 x3 x4 hV

theorem mKind_any (t s n r : Int) (u : Value) (l : List Av) (w : World) (hv : AvsAt w u l) :
    Calls Tryd.prog 19 #[.agg #[.int .i64 t, .int .i64 s, .int .i64 n, .int .i64 r, u]] w fun e w' => e = .returned (.int .i64 (kindF l)) ∧ Kept (fun _ => False) w w' := by
  obtain ⟨p, c, rfl⟩ := RowsAt.slice hv
  cases l with
  | nil => exact mKind_none t s n r p c w
  | cons x m =>
    obtain ⟨g, o, rfl, hc, h0, h1, h2, h3, h4⟩ := AvsAt.at5 hv (j := 0) (x := x) rfl
    rw [Nat.zero_mul, Nat.add_zero] at h0 h1 h2 h3 h4
    exact mKind_some t s n r g o (x :: m).length c x m (Nat.succ_pos _) hc w h0 h1 h2 h3 h4
end Go.Proofs.YtkneogfeokckjaaDoor

namespace Go.Proofs.YtkneogfeokckjaaDoor
open Go.RowKit

set_option maxHeartbeats 4000000 in
set_option maxRecDepth 100000 in
theorem mNeeds_any (k : Int) (w : World) :
    Calls Tryd.prog 15 #[.int .i64 k] w fun e w' => ∃ v, e = .returned v ∧ OwnN w' w.heap.size v (needsF k) ∧ Kept (fun _ => False) w w' := by
  by_cases h1 : k = 1
  · subst h1
    have H := hid (ownN_new w [2, 3, 7, 9] (by decide))
    rw [show needsF 1 = [2, 3, 7, 9] from by decide]
    go_enter Tryd.func15, Tryd.ntmps15
    go_wp2
    go_ret
    exact ⟨_, rfl, H.out, (Kept.refl _ w).alloc _⟩
  by_cases h2 : k = 2
  · subst h2
    have H := hid (ownN_new w [2, 3, 7, 9] (by decide))
    rw [show needsF 2 = [2, 3, 7, 9] from by decide]
    go_enter Tryd.func15, Tryd.ntmps15
    go_wp2
    go_ret
    exact ⟨_, rfl, H.out, (Kept.refl _ w).alloc _⟩
  by_cases h4 : k = 4
  · subst h4
    have H := hid (ownN_new w [9, 1] (by decide))
    rw [show needsF 4 = [9, 1] from by decide]
    go_enter Tryd.func15, Tryd.ntmps15
    go_wp2
    go_ret
    exact ⟨_, rfl, H.out, (Kept.refl _ w).alloc _⟩
  by_cases h10 : k = 10
  · subst h10
    have H := hid (ownN_new w [14, 15] (by decide))
    rw [show needsF 10 = [14, 15] from by decide]
    go_enter Tryd.func15, Tryd.ntmps15
    go_wp2
    go_ret
    exact ⟨_, rfl, H.out, (Kept.refl _ w).alloc _⟩
  by_cases h7 : k = 7
  · subst h7
    have H := hid (ownN_new w [14, 15] (by decide))
    rw [show needsF 7 = [14, 15] from by decide]
    go_enter Tryd.func15, Tryd.ntmps15
    go_wp2
    go_ret
    exact ⟨_, rfl, H.out, (Kept.refl _ w).alloc _⟩
  by_cases h11 : k = 11
  · subst h11
    have H := hid (ownN_new w [14] (by decide))
    rw [show needsF 11 = [14] from by decide]
    go_enter Tryd.func15, Tryd.ntmps15
    go_wp2
    go_ret
    exact ⟨_, rfl, H.out, (Kept.refl _ w).alloc _⟩
  by_cases h8 : k = 8
  · subst h8
    have H := hid (ownN_new w [14] (by decide))
    rw [show needsF 8 = [14] from by decide]
    go_enter Tryd.func15, Tryd.ntmps15
    go_wp2
    go_ret
    exact ⟨_, rfl, H.out, (Kept.refl _ w).alloc _⟩
  by_cases h12 : k = 12
  · subst h12
    have H := hid (ownN_new w [24, 19] (by decide))
    rw [show needsF 12 = [24, 19] from by decide]
    go_enter Tryd.func15, Tryd.ntmps15
    go_wp2
    go_ret
    exact ⟨_, rfl, H.out, (Kept.refl _ w).alloc _⟩
  by_cases h9 : k = 9
  · subst h9
    have H := hid (ownN_new w [24, 19] (by decide))
    rw [show needsF 9 = [24, 19] from by decide]
    go_enter Tryd.func15, Tryd.ntmps15
    go_wp2
    go_ret
    exact ⟨_, rfl, H.out, (Kept.refl _ w).alloc _⟩
  by_cases h14 : k = 14
  · subst h14
    have H := hid (ownN_new w [1, 14] (by decide))
    rw [show needsF 14 = [1, 14] from by decide]
    go_enter Tryd.func15, Tryd.ntmps15
    go_wp2
    go_ret
    exact ⟨_, rfl, H.out, (Kept.refl _ w).alloc _⟩
  by_cases h15 : k = 15
  · subst h15
    have H := hid (ownN_new w [34] (by decide))
    rw [show needsF 15 = [34] from by decide]
    go_enter Tryd.func15, Tryd.ntmps15
    go_wp2
    go_ret
    exact ⟨_, rfl, H.out, (Kept.refl _ w).alloc _⟩
  by_cases h16 : k = 16
  · subst h16
    have H := hid (ownN_new w [35] (by decide))
    rw [show needsF 16 = [35] from by decide]
    go_enter Tryd.func15, Tryd.ntmps15
    go_wp2
    go_ret
    exact ⟨_, rfl, H.out, (Kept.refl _ w).alloc _⟩
  have e : needsF k = [] := by simp [needsF, h1, h2, h4, h10, h7, h11, h8, h12, h9, h14, h15, h16]
  rw [e]
  clear e
  go_enter Tryd.func15, Tryd.ntmps15
  go_wp2
  go_ret
  exact ⟨_, rfl, OwnN.nil _ _, Kept.refl _ w⟩
end Go.Proofs.YtkneogfeokckjaaDoor

namespace Go.Proofs.YtkneogfeokckjaaDoor
open Go.RowKit

/-- Is there such a kind? -/
def kindB (k : Int) : Bool := decide (k = 3) || (decide (k = 6) || decide (needsF k ≠ []))
def lenOfF (x : Av) : Int := if x.vendor = 0 then lengthF x.type else -2
def checkOneF (x : Av) : Int :=
  if lenOfF x = -2 then (if x.must = true then 40 else 0)
  else if lenOfF x ≠ -1 ∧ lenOfF x ≠ (x.value.size : Int) then 4
  else if x.type = 0 then 4 else 0

set_option maxHeartbeats 2000000 in
set_option maxRecDepth 100000 in
theorem isKind_any (k : Int) (w : World) :
    Calls Tryd.prog 31 #[.int .i64 k] w fun e w' => e = .returned (.bool (kindB k)) ∧ Kept (fun _ => False) w w' := by
  by_cases h3 : k = 3
  · subst h3
    go_enter Tryd.func31, Tryd.ntmps31
    go_wp2
    go_ret
    exact ⟨rfl, Kept.refl _ _⟩
  by_cases h6 : k = 6
  · subst h6
    go_enter Tryd.func31, Tryd.ntmps31
    go_wp2
    go_ret
    exact ⟨rfl, Kept.refl _ _⟩
  have HN := hid (fun W => mNeeds_any k W)
  have e3 : (k == 3) = false := by rw [beq_eq_false_iff_ne]; exact h3
  have e6 : (k == 6) = false := by rw [beq_eq_false_iff_ne]; exact h6
  by_cases hn : needsF k = []
  · have HB : Hid (kindB k = false) := by show _ = _; simp [kindB, h3, h6, hn]
    rw [hn] at HN
    clear hn
    go_enter Tryd.func31, Tryd.ntmps31
    go_wp2_with fail
    refine (HN.out _).mono ?_
    rintro e w1 ⟨v, rfl, ho, hk⟩
    have HK := hid hk
    obtain ⟨p, c, rfl⟩ := slice_of ho
    clear hk ho
    go_wp2
    go_ret
    exact ⟨by rw [HB.out]; rfl, HK.out⟩
  · have HB : Hid (kindB k = true) := by show _ = _; simp [kindB, hn]
    have hpos := List.length_pos_iff.2 hn
    generalize needsF k = L at *
    have hd : decide (0 < L.length) = true := decide_eq_true hpos
    clear hn hpos
    go_enter Tryd.func31, Tryd.ntmps31
    go_wp2_with fail
    refine (HN.out _).mono ?_
    rintro e w1 ⟨v, rfl, ho, hk⟩
    have HK := hid hk
    obtain ⟨p, c, rfl⟩ := slice_of ho
    clear hk ho
    go_wp2
    go_ret
    exact ⟨by rw [HB.out]; rfl, HK.out⟩

set_option maxHeartbeats 2000000 in
set_option maxRecDepth 100000 in
theorem lengthOf_any (x : Av) (hx : GoodA x) (w : World) :
    Calls Tryd.prog 40 #[avV x] w fun e w' => e = .returned (.int .i64 (lenOfF x)) ∧ Kept (fun _ => False) w w' := by
  have HL := hid (fun W => length_any x.type hx.type W)
  have C0 := (AvAt.new w x).cells
  have HK := hid ((Kept.refl (fun _ => False) w).alloc (.cells #[.bool x.must, .bool x.hidden, .int .i64 x.vendor, .int .i64 x.type, .string x.value] 43))
  obtain ⟨c0, c1, c2, c3, c4⟩ := C0
  unfold lenOfF
  unfold avV
  by_cases h : x.vendor = 0
  · rw [if_pos h]
    generalize lengthF x.type = N at *
    have hv : (x.vendor != 0) = false := by rw [h]; rfl
    clear h hx
    go_enter Tryd.func40, Tryd.ntmps40
    go_wp2_with fail
    refine (HL.out _).mono ?_
    rintro e w1 ⟨rfl, hk⟩
    have HK1 := hid (HK.out.trans hk)
    clear hk
    go_wp2
    go_ret
    exact ⟨rfl, HK1.out⟩
  · rw [if_neg h]
    have hv : (x.vendor != 0) = true := by rw [bne_iff_ne]; exact h
    clear h hx
    go_enter Tryd.func40, Tryd.ntmps40
    go_wp2
    go_ret
    exact ⟨rfl, HK.out⟩

set_option maxHeartbeats 4000000 in
set_option maxRecDepth 100000 in
theorem checkOne_any (x : Av) (hx : GoodA x) (hz : x.value.size ≤ 140737488351232) (w : World) :
    Calls Tryd.prog 32 #[avV x] w fun e w' => e = .returned (.int .i64 (checkOneF x)) ∧ Kept (fun _ => False) w w' := by
  have HL := hid (fun W => lengthOf_any x hx W)
  clear hx
  unfold checkOneF
  unfold avV at HL ⊢
  generalize lenOfF x = N at *
  obtain ⟨mu, hi, V, T, X⟩ := x
  dsimp only at HL hz ⊢
  have HC := hid (AvAt.new w ⟨mu, hi, V, T, X⟩)
  have HK := hid ((Kept.refl (fun _ => False) w).alloc (.cells #[.bool mu, .bool hi, .int .i64 V, .int .i64 T, .string X] 43))
  dsimp only at HC
  obtain ⟨c0, c1, c2, c3, c4⟩ := HC.out.cells
  dsimp only at c0 c1 c2 c3 c4
  by_cases h2 : N = -2
  · subst h2
    rw [if_pos rfl]
    cases mu with
    | true =>
      rw [if_pos rfl]
      go_enter Tryd.func32, Tryd.ntmps32
      go_wp2_with fail
      refine (HL.out _).mono ?_
      rintro e w1 ⟨rfl, hk⟩
      have HK1 := hid (HK.out.trans hk)
      clear c0 c1 c2 c3 c4
      obtain ⟨c0, c1, c2, c3, c4⟩ := (HC.out.kept0 hk).cells
      dsimp only at c0 c1 c2 c3 c4
      clear hk
      go_wp2
      go_ret
      exact ⟨rfl, HK1.out⟩
    | false =>
      rw [if_neg (by simp)]
      go_enter Tryd.func32, Tryd.ntmps32
      go_wp2_with fail
      refine (HL.out _).mono ?_
      rintro e w1 ⟨rfl, hk⟩
      have HK1 := hid (HK.out.trans hk)
      clear c0 c1 c2 c3 c4
      obtain ⟨c0, c1, c2, c3, c4⟩ := (HC.out.kept0 hk).cells
      dsimp only at c0 c1 c2 c3 c4
      clear hk
      go_wp2
      go_ret
      exact ⟨rfl, HK1.out⟩
  · rw [if_neg h2]
    have e0 : (N == -2) = false := by rw [beq_eq_false_iff_ne]; exact h2
    by_cases h4 : N ≠ -1 ∧ N ≠ (X.size : Int)
    · rw [if_pos h4]
      have e1 : (N != -1) = true := by rw [bne_iff_ne]; exact h4.1
      have e2 : (N != (X.size : Int)) = true := by rw [bne_iff_ne]; exact h4.2
      clear h4 h2
      go_enter Tryd.func32, Tryd.ntmps32
      go_wp2_with fail
      refine (HL.out _).mono ?_
      rintro e w1 ⟨rfl, hk⟩
      have HK1 := hid (HK.out.trans hk)
      clear c0 c1 c2 c3 c4
      obtain ⟨c0, c1, c2, c3, c4⟩ := (HC.out.kept0 hk).cells
      dsimp only at c0 c1 c2 c3 c4
      clear hk
      go_wp2
      go_ret
      exact ⟨rfl, HK1.out⟩
    · rw [if_neg h4]
      have HT : Hid (((N != -1) = true ∧ (N != (X.size : Int)) = false) ∨ N = -1) := by
        by_cases h1 : N = -1
        · exact Or.inr h1
        · refine Or.inl ⟨by rw [bne_iff_ne]; exact h1, ?_⟩
          have : N = (X.size : Int) := Classical.byContradiction fun h => h4 ⟨h1, h⟩
          rw [this]
          simp
      clear h4
      by_cases ht : T = 0
      · rw [if_pos ht]
        subst ht
        rcases HT.out with ⟨e1, e2⟩ | h1
        · clear HT h2
          go_enter Tryd.func32, Tryd.ntmps32
          go_wp2_with fail
          refine (HL.out _).mono ?_
          rintro e w1 ⟨rfl, hk⟩
          have HK1 := hid (HK.out.trans hk)
          clear c0 c1 c2 c3 c4
          obtain ⟨c0, c1, c2, c3, c4⟩ := (HC.out.kept0 hk).cells
          dsimp only at c0 c1 c2 c3 c4
          clear hk
          go_wp2
          go_ret
          exact ⟨rfl, HK1.out⟩
        · subst h1
          clear HT h2 e0
          go_enter Tryd.func32, Tryd.ntmps32
          go_wp2_with fail
          refine (HL.out _).mono ?_
          rintro e w1 ⟨rfl, hk⟩
          have HK1 := hid (HK.out.trans hk)
          clear c0 c1 c2 c3 c4
          obtain ⟨c0, c1, c2, c3, c4⟩ := (HC.out.kept0 hk).cells
          dsimp only at c0 c1 c2 c3 c4
          clear hk
          go_wp2
          go_ret
          exact ⟨rfl, HK1.out⟩
      · rw [if_neg ht]
        have et : (T == 0) = false := by rw [beq_eq_false_iff_ne]; exact ht
        rcases HT.out with ⟨e1, e2⟩ | h1
        · clear HT h2
          go_enter Tryd.func32, Tryd.ntmps32
          go_wp2_with fail
          refine (HL.out _).mono ?_
          rintro e w1 ⟨rfl, hk⟩
          have HK1 := hid (HK.out.trans hk)
          clear c0 c1 c2 c3 c4
          obtain ⟨c0, c1, c2, c3, c4⟩ := (HC.out.kept0 hk).cells
          dsimp only at c0 c1 c2 c3 c4
          clear hk
          go_wp2
          go_ret
          exact ⟨rfl, HK1.out⟩
        · subst h1
          clear HT h2 e0
          go_enter Tryd.func32, Tryd.ntmps32
          go_wp2_with fail
          refine (HL.out _).mono ?_
          rintro e w1 ⟨rfl, hk⟩
          have HK1 := hid (HK.out.trans hk)
          clear c0 c1 c2 c3 c4
          obtain ⟨c0, c1, c2, c3, c4⟩ := (HC.out.kept0 hk).cells
          dsimp only at c0 c1 c2 c3 c4
          clear hk
          go_wp2
          go_ret
          exact ⟨rfl, HK1.out⟩
end Go.Proofs.YtkneogfeokckjaaDoor

namespace Go.Proofs.YtkneogfeokckjaaDoor
open Go.RowKit

theorem two_ctl : two 51202 = ⟨#[200, 2]⟩ := by rfl
theorem two_seq : two 18434 = ⟨#[72, 2]⟩ := by rfl
theorem two_load : two 16386 = ⟨#[64, 2]⟩ := by rfl
theorem layF_four (f t s n r : Int) (x : ByteArray) : layF f x [t, s, n, r] = two f.toNat ++ two (x.size + 12) ++ two t.toNat ++ two s.toNat ++ two n.toNat ++ two r.toNat ++ x := by
  simp only [layF, twosF, empty_app, Int.toNat_natCast, List.length_cons, List.length_nil]
  rw [show 2 * (2 + (0 + 1 + 1 + 1 + 1)) + x.size = x.size + 12 by omega]
theorem layF_two (f t s : Int) (x : ByteArray) : layF f x [t, s] = two f.toNat ++ two (x.size + 8) ++ two t.toNat ++ two s.toNat ++ x := by
  simp only [layF, twosF, empty_app, Int.toNat_natCast, List.length_cons, List.length_nil]
  rw [show 2 * (2 + (0 + 1 + 1)) + x.size = x.size + 8 by omega]
theorem raw_lay (t s n r : Int) (x : ByteArray) : layF 51202 x [t, s, n, r] = rawF t s n r x := by
  rw [layF_four, show (51202 : Int).toNat = 51202 from rfl, two_ctl]
  rfl
theorem row_four (w : World) (a b c d : Int) : IntsV (w.alloc (.cells #[.int .i64 a, .int .i64 b, .int .i64 c, .int .i64 d] 3)) (.slice (some ⟨w.heap.size, 0, none⟩) 4 4) [a, b, c, d] := by
  refine Or.inr ⟨w.heap.size, 0, 4, rfl, Nat.le_refl _, by unfold maxLen; omega, fun j y hj i u hu => ?_⟩
  have hi : i = 0 := by have := (List.getElem?_eq_some_iff.1 hu).1; simp at this; omega
  subst hi
  rw [Nat.mul_one, Nat.add_zero, Nat.zero_add, cell_of_row _ _ _ _ _ _ (heap_alloc_new w _)]
  match j, hj with
  | 0, hj | 1, hj | 2, hj | 3, hj => simp at hj; subst hj; exact hu
theorem row_two (w : World) (a b : Int) : IntsV (w.alloc (.cells #[.int .i64 a, .int .i64 b] 3)) (.slice (some ⟨w.heap.size, 0, none⟩) 2 2) [a, b] := by
  refine Or.inr ⟨w.heap.size, 0, 2, rfl, Nat.le_refl _, by unfold maxLen; omega, fun j y hj i u hu => ?_⟩
  have hi : i = 0 := by have := (List.getElem?_eq_some_iff.1 hu).1; simp at this; omega
  subst hi
  rw [Nat.mul_one, Nat.add_zero, Nat.zero_add, cell_of_row _ _ _ _ _ _ (heap_alloc_new w _)]
  match j, hj with
  | 0, hj | 1, hj => simp at hj; subst hj; exact hu
theorem all_four (a b c d : Int) : [a, b, c, d].all wordB = wordsB a b c d := by simp [wordsB]
/-- areWords of four, as a call has it. -/
theorem are_four (a b c d : Int) (w : World) : Calls Tryd.prog 22 #[.slice (some ⟨w.heap.size, 0, none⟩) 4 4] (w.alloc (.cells #[.int .i64 a, .int .i64 b, .int .i64 c, .int .i64 d] 3)) fun e w' => e = .returned (.bool (wordsB a b c d)) ∧ Kept (fun _ => False) w w' := by
  refine (areWords_any _ [a, b, c, d] _ (row_four w a b c d) (by simp)).mono ?_
  rintro e w1 ⟨rfl, hk⟩
  exact ⟨by rw [all_four], ((Kept.refl (fun _ => False) w).alloc _).trans hk⟩
theorem wordsB_all {a b c d : Int} (h : wordsB a b c d = true) : ∀ z ∈ [a, b, c, d], wordB z = true := by
  rw [← all_four, List.all_eq_true] at h
  exact h
theorem lay_four (f : Int) (hf : wordB f = true) (x : ByteArray) (hx : x.size ≤ 60000) (a b c d : Int) (h : wordsB a b c d = true) (w : World) : Calls Tryd.prog 24 #[.int .i64 f, .string x, .slice (some ⟨w.heap.size, 0, none⟩) 4 4] (w.alloc (.cells #[.int .i64 a, .int .i64 b, .int .i64 c, .int .i64 d] 3)) fun e w' => e = .returned (.string (layF f x [a, b, c, d])) ∧ Kept (fun _ => False) w w' := by
  refine (lay_any2 f hf x hx [a, b, c, d] (wordsB_all h) (by simp) _ _ (row_four w a b c d)).mono ?_
  rintro e w1 ⟨rfl, hk⟩
  exact ⟨rfl, ((Kept.refl (fun _ => False) w).alloc _).trans hk⟩
theorem lay_two (f : Int) (hf : wordB f = true) (x : ByteArray) (hx : x.size ≤ 60000) (a b : Int) (ha : wordB a = true) (hb : wordB b = true) (w : World) : Calls Tryd.prog 24 #[.int .i64 f, .string x, .slice (some ⟨w.heap.size, 0, none⟩) 2 2] (w.alloc (.cells #[.int .i64 a, .int .i64 b] 3)) fun e w' => e = .returned (.string (layF f x [a, b])) ∧ Kept (fun _ => False) w w' := by
  refine (lay_any2 f hf x hx [a, b] (fun z hz => by simp at hz; rcases hz with rfl | rfl <;> assumption) (by simp) _ _ (row_two w a b)).mono ?_
  rintro e w1 ⟨rfl, hk⟩
  exact ⟨rfl, ((Kept.refl (fun _ => False) w).alloc _).trans hk⟩

set_option maxHeartbeats 4000000 in
set_option maxRecDepth 100000 in
theorem mPut_any (t s n r : Int) (p : Option Addr) (k c : Nat) (x : ByteArray) (w : World) (PV : ByteArray) (E : Int) (hP : ∀ W, Kept (fun _ => False) w W → Calls Tryd.prog 23 #[.slice p k c, .string x] W fun e w' => e = .returned (.tuple #[.string PV, .int .i64 E]) ∧ Kept (fun _ => False) W w') (hV : PV.size ≤ 60000) :
    Calls Tryd.prog 9 #[.agg #[.int .i64 t, .int .i64 s, .int .i64 n, .int .i64 r, .slice p k c], .string x] w fun e w' => e = .returned (.tuple #[.string (if wordsB t s n r = true then if E = 0 then rawF t s n r PV else ⟨#[]⟩ else ⟨#[]⟩), .int .i64 (if wordsB t s n r = true then E else 1)]) ∧ Kept (fun _ => False) w w' := by
  have L0 := hid (CtAt.new w t s n r (.slice p k c))
  have KA := hid ((Kept.refl (fun _ => False) w).alloc (.cells #[.int .i64 t, .int .i64 s, .int .i64 n, .int .i64 r, .slice p k c] 24))
  have HW := hid (fun W => are_four t s n r W)
  have HP := hid hP
  obtain ⟨b0, b1, b2, b3, b4⟩ := L0.out.cells
  clear hP
  cases hw : wordsB t s n r with
  | false =>
    rw [hw] at HW
    rw [if_neg (by simp), if_neg (by simp)]
    clear hw
    go_enter Tryd.func9, Tryd.ntmps9
    go_upto_region 1 with fail
    generalize w.alloc (.cells #[.int .i64 t, .int .i64 s, .int .i64 n, .int .i64 r, .slice p k c] 24) = W0 at *
    go_wp2_with fail
    refine (HW.out _).mono ?_
    rintro e w1 ⟨rfl, hk⟩
    have K1 := hid (KA.out.trans hk)
    clear hk
    go_wp2
    go_ret2
    exact ⟨rfl, K1.out⟩
  | true =>
    rw [hw] at HW
    rw [if_pos rfl, if_pos rfl]
    by_cases he : E = 0
    · subst he
      rw [if_pos rfl, ← raw_lay]
      have HL := hid (fun W => lay_four 51202 (by decide) PV hV t s n r hw W)
      generalize layF 51202 PV [t, s, n, r] = R at *
      clear hw
      go_enter Tryd.func9, Tryd.ntmps9
      go_upto_region 1 with fail
      generalize w.alloc (.cells #[.int .i64 t, .int .i64 s, .int .i64 n, .int .i64 r, .slice p k c] 24) = W0 at *
      go_wp2_with fail
      refine (HW.out _).mono ?_
      rintro e w1 ⟨rfl, hk⟩
      have K1 := hid (KA.out.trans hk)
      have L1 := hid (L0.out.kept hk)
      clear hk b0 b1 b2 b3 b4 L0 KA HW
      obtain ⟨b0, b1, b2, b3, b4⟩ := L1.out.cells
      go_wp2_with fail
      refine (HP.out _ K1.out).mono ?_
      rintro e w2 ⟨rfl, hk⟩
      have K2 := hid (K1.out.trans hk)
      have L2 := hid (L1.out.kept hk)
      clear hk b0 b1 b2 b3 b4 L1 K1 HP
      obtain ⟨b0, b1, b2, b3, b4⟩ := L2.out.cells
      go_wp2_with fail
      refine (HL.out _).mono ?_
      rintro e w3 ⟨rfl, hk⟩
      have K3 := hid (K2.out.trans hk)
      clear hk
      go_wp2
      go_ret2
      exact ⟨rfl, K3.out⟩
    · rw [if_neg he]
      have hne : (E != 0) = true := by rw [bne_iff_ne]; exact he
      clear hw
      go_enter Tryd.func9, Tryd.ntmps9
      go_upto_region 1 with fail
      generalize w.alloc (.cells #[.int .i64 t, .int .i64 s, .int .i64 n, .int .i64 r, .slice p k c] 24) = W0 at *
      go_wp2_with fail
      refine (HW.out _).mono ?_
      rintro e w1 ⟨rfl, hk⟩
      have K1 := hid (KA.out.trans hk)
      have L1 := hid (L0.out.kept hk)
      clear hk b0 b1 b2 b3 b4 L0 KA HW
      obtain ⟨b0, b1, b2, b3, b4⟩ := L1.out.cells
      go_wp2_with fail
      refine (HP.out _ K1.out).mono ?_
      rintro e w2 ⟨rfl, hk⟩
      have K2 := hid (K1.out.trans hk)
      clear hk he
      go_wp2
      go_ret2
      exact ⟨rfl, K2.out⟩
end Go.Proofs.YtkneogfeokckjaaDoor

namespace Go.Proofs.YtkneogfeokckjaaDoor
open Go.RowKit

/-- The value that says a message's kind. -/
def headK (k : Int) : Av := ⟨true, false, 0, 0, numV k 2⟩

set_option maxHeartbeats 2000000 in
set_option maxRecDepth 100000 in
theorem make_any (k : Int) (u : Value) (l : List Av) (w : World) (hv : AvsAt w u l) (hl : l.length ≤ 900000) :
    Calls Tryd.prog 18 #[.int .i64 k, u] w fun e w' => ∃ v, e = .returned v ∧ OwnAv w' w.heap.size v (headK k :: l) ∧ Kept (fun _ => False) w w' := by
  obtain ⟨p, c, rfl⟩ := RowsAt.slice hv
  have HN := hid (fun W => num_any 0 k 2 ⟨by decide, by decide⟩ W)
  unfold avV at HN
  have HV := hid hv
  have HA : Hid (∀ w1, Kept (fun _ => False) w w1 → ∃ v' w', AppG Tryd.prog 22 (w1.alloc (.cells #[.bool true, .bool false, .int .i64 0, .int .i64 0, .string (numV k 2)] 43)) (.slice (some ⟨w1.heap.size, 0, none⟩) 1 1) (.slice p l.length c) v' w' ∧ OwnAv w' w.heap.size v' (headK k :: l) ∧ Kept (fun _ => False) w w') := fun w1 hk => by
    have K2 := hk.alloc (.cells #[.bool true, .bool false, .int .i64 0, .int .i64 0, .string (numV k 2)] 43)
    have O1 : OwnAv (w1.alloc (.cells #[.bool true, .bool false, .int .i64 0, .int .i64 0, .string (numV k 2)] 43)) w.heap.size (.slice (some ⟨w1.heap.size, 0, none⟩) 1 1) [headK k] := own_one_av w1 (headK k) w.heap.size hk.size
    have V2 := RowsAt.kept0 HV.out K2
    obtain ⟨v', w', h1, h2, h3⟩ := OwnG.appendList tyAv encAv O1 K2.size p c l (fun hne => AvsAt.src V2 hne) (by simp; omega)
    refine ⟨v', w', h1, h2, K2.andThen h3 (fun i hi h => ?_)⟩
    have : w1.heap.size = i := by simpa [Value.ownBlock] using h
    have := hk.size
    omega
  clear hv
  generalize numV k 2 = X at *
  go_enter Tryd.func18, Tryd.ntmps18
  go_wp2_with fail
  refine (HN.out _).mono ?_
  rintro e w1 ⟨rfl, hk⟩
  obtain ⟨v', w', happ, ho, hk'⟩ := HA.out w1 hk
  have Happ := hid happ
  have HO := hid ho
  have HK := hid hk'
  clear hk happ ho hk'
  go_wp2_with (at_builtin; refine Lib.wpList_append_run _ rfl _ _ _ _ rfl _ _ rfl rfl _ _ (Happ.out _) ?_)
  go_ret
  exact ⟨_, rfl, HO.out, HK.out⟩
end Go.Proofs.YtkneogfeokckjaaDoor

namespace Go.Proofs.YtkneogfeokckjaaDoor
open Go.RowKit

/-- The first fault of values, or 0. -/
def checkRest : List Av → Int
  | [] => 0
  | x :: r => if checkOneF x = 0 then checkRest r else checkOneF x
def needB (l : List Av) (ks : List Int) : Bool := ks.all (fun k => (findA l k).isSome)
def checkF (l : List Av) : Int :=
  if l = [] then 0
  else if kindB (kindF l) = true then
    if checkRest (l.drop 1) = 0 then (if needB l (needsF (kindF l)) = true then 0 else 40) else checkRest (l.drop 1)
  else 40
theorem checkRest_at {l : List Av} {j : Nat} {x : Av} (hx : l[j]? = some x) : checkRest (l.drop j) = if checkOneF x = 0 then checkRest (l.drop (j + 1)) else checkOneF x := by
  rw [drop_at hx]
  rfl
theorem needB_no {l : List Av} {ks : List Int} {j : Nat} {k : Int} (hk : ks[j]? = some k) (h : (findA l k).isSome = false) : needB l ks = false := by
  rw [← Bool.not_eq_true]
  unfold needB
  rw [List.all_eq_true]
  intro ha
  rw [ha k (List.mem_of_getElem? hk)] at h
  cases h
theorem needB_on {l : List Av} {ks : List Int} {j : Nat} {k : Int} (hk : ks[j]? = some k) (h : (findA l k).isSome = true) (hj : needB l (ks.take j) = true) : needB l (ks.take (j + 1)) = true := by
  unfold needB at hj ⊢
  rw [take_next hk, List.all_append, hj]
  simp [h]

theorem needsF_le (k : Int) : (needsF k).length ≤ 4 := by
  unfold needsF
  split
  · decide
  split
  · decide
  split
  · decide
  split
  · decide
  split
  · decide
  split
  · decide
  split
  · decide
  split
  · decide
  · decide
theorem rowN (l : List Int) : rowG nCells l = l.map (fun i => Value.int .i64 i) := by
  induction l with
  | nil => rfl
  | cons a l ih => rw [rowG_cons, ih]; rfl
theorem OwnN.z {w : World} {base : Nat} {v : Value} {l : List Int} (h : OwnN w base v l) : OwnZ w base v l := by
  show World.ownsRow _ _ _ _ _ _ _
  rw [rowN]
  exact h

set_option maxHeartbeats 8000000 in
set_option maxRecDepth 100000 in
theorem check_any (t s n r : Int) (u : Value) (l : List Av) (w : World) (hv : AvsAt w u l) (hl : l.length ≤ 1000000) (hg : ∀ x ∈ l, GoodA x) (hsz : ∀ x ∈ l, x.value.size ≤ 140737488351232) :
    Calls Tryd.prog 17 #[.agg #[.int .i64 t, .int .i64 s, .int .i64 n, .int .i64 r, u]] w fun e w' => e = .returned (.int .i64 (checkF l)) ∧ Kept (fun _ => False) w w' := by
  obtain ⟨p, cap, rfl⟩ := RowsAt.slice hv
  have HB := hid (CtAt.new w t s n r (.slice p l.length cap))
  have HK := hid ((Kept.refl (fun _ => False) w).alloc (.cells #[.int .i64 t, .int .i64 s, .int .i64 n, .int .i64 r, .slice p l.length cap] 24))
  obtain ⟨b0, b1, b2, b3, b4⟩ := HB.out.cells
  by_cases he : l = []
  · subst he
    go_enter Tryd.func17, Tryd.ntmps17
    go_wp2
    go_ret
    exact ⟨rfl, HK.out⟩
  have hpos : 0 < l.length := List.length_pos_iff.2 he
  have HKi := hid (fun W (h : Kept (fun _ => False) w W) => mKind_any t s n r (.slice p l.length cap) l W (RowsAt.kept0 hv h))
  have HIs := hid (fun W => isKind_any (kindF l) W)
  have HNe := hid (fun W => mNeeds_any (kindF l) W)
  have HFi := hid (fun k W (h : Kept (fun _ => False) w W) => findA_any (.slice p l.length cap) l k W (RowsAt.kept0 hv h) hl hsz)
  have HOne := hid (fun (x : Av) (hx : x ∈ l) W => checkOne_any x (hg x hx) (hsz x hx) W)
  have Hat : Hid (∀ (j : Nat) (x : Av), l[j]? = some x → ∀ W, Kept (fun _ => False) w W → ∃ g o, p = some ⟨g, o, none⟩ ∧ l.length ≤ cap ∧ W.cell? ⟨g, o + j * 5, none⟩ = some (.bool x.must) ∧ W.cell? ⟨g, o + j * 5 + 1, none⟩ = some (.bool x.hidden) ∧ W.cell? ⟨g, o + j * 5 + 2, none⟩ = some (.int .i64 x.vendor) ∧ W.cell? ⟨g, o + j * 5 + 3, none⟩ = some (.int .i64 x.type) ∧ W.cell? ⟨g, o + j * 5 + 4, none⟩ = some (.string x.value)) :=
    fun j x hj W hW => AvsAt.at5 (RowsAt.kept0 hv hW) hj
  obtain ⟨Q, hQ⟩ : ∃ Q, Q = checkF l := ⟨_, rfl⟩
  have HQ : Hid (Q = if kindB (kindF l) = true then if checkRest (l.drop 1) = 0 then (if needB l (needsF (kindF l)) = true then 0 else 40) else checkRest (l.drop 1) else 40) := by
    show _ = _
    rw [hQ]
    unfold checkF
    rw [if_neg he]
  rw [← hQ]
  have hl0 : ((l.length : Int) == 0) = false := by rw [beq_eq_false_iff_ne]; omega
  clear hv hg hsz hQ he
  generalize kindF l = K at *
  cases hkb : kindB K with
  | false =>
    rw [hkb] at HIs HQ
    clear hkb
    go_enter Tryd.func17, Tryd.ntmps17
    go_wp2_with fail
    refine (HKi.out _ HK.out).mono ?_
    rintro e w1 ⟨rfl, hk1⟩
    have HK1 := hid (HK.out.trans hk1)
    clear b0 b1 b2 b3 b4
    obtain ⟨b0, b1, b2, b3, b4⟩ := (HB.out.kept hk1).cells
    clear hk1
    go_wp2_with fail
    refine (HIs.out _).mono ?_
    rintro e w2 ⟨rfl, hk2⟩
    have HK2 := hid (HK1.out.trans hk2)
    clear hk2
    go_wp2
    go_ret
    exact ⟨by rw [HQ.out]; rfl, HK2.out⟩
  | true =>
    rw [hkb] at HIs HQ
    clear hkb
    go_enter Tryd.func17, Tryd.ntmps17
    go_wp2_with fail
    refine (HKi.out _ HK.out).mono ?_
    rintro e w1 ⟨rfl, hk1⟩
    have HK1 := hid (HK.out.trans hk1)
    have HB1 := hid (HB.out.kept hk1)
    clear hk1 HKi
    go_wp2_with fail
    refine (HIs.out _).mono ?_
    rintro e w2 ⟨rfl, hk2⟩
    have HK2 := hid (HK1.out.trans hk2)
    have HB2 := hid (HB1.out.kept hk2)
    clear hk2 HK1 HB1 HB HIs HK b0 b1 b2 b3 b4
    obtain ⟨b0, b1, b2, b3, b4⟩ := HB2.out.cells
    obtain ⟨x0, hx0⟩ : ∃ x, l[0]? = some x := ⟨l[0], by simp [hpos]⟩
    obtain ⟨g, o, rfl, hcap, _⟩ := Hat.out 0 x0 hx0 w2 HK2.out
    clear hx0
    have h1z : (1 : Int) ≤ (l.length : Int) := by omega
    obtain ⟨M, hM⟩ : ∃ M, M = l.length - 1 := ⟨_, rfl⟩
    have HM := hid (show l.length = M + 1 by omega)
    have HMe := hid hM
    have hMb : M ≤ 1000000 := by omega
    clear hM
    go_upto_region 6 with fail
    go_cut [22, 23, 24] from 20 to 24 (fun v22 v23 v24 wx => ∃ pp cc, v22 = .slice pp M cc ∧ v23 = .int .i64 (M : Int) ∧ v24 = .int .i64 0 ∧ (0 < M → pp = some ⟨g, o + 5, none⟩ ∧ M ≤ cc) ∧ wx = w2)
    case first =>
      by_cases hc1 : cap = 1
      · subst hc1
        obtain rfl : M = 0 := by have := HM.out; omega
        clear hMb
        go_wp2
        go_meet
        exact ⟨_, _, rfl, rfl, rfl, fun h => absurd h (Nat.lt_irrefl 0), rfl⟩
      · go_wp2
        go_meet
        exact ⟨_, _, by rw [HMe.out], by rw [HMe.out], rfl, fun h => ⟨rfl, by have := HM.out; omega⟩, rfl⟩
    obtain ⟨pp, cc, rfl, rfl, rfl, hpp, hwx⟩ := hcut
    rw [hwx]
    have HPP := hid hpp
    clear hwx hpp HMe
    go_wp2
    go_loopw [24] (fun vi wr => ∃ (j : Nat), j ≤ M ∧ vi = .int .i64 (j : Int) ∧ Hid (checkRest (l.drop (1 + j)) = checkRest (l.drop 1) ∧ Kept (fun _ => False) w wr ∧ CtAt wr w.heap.size t s n r (.slice (some ⟨g, o, none⟩) l.length cap))) (fun vi _ => M - (intOf vi).toNat)
    case atStart => exact ⟨0, Nat.zero_le _, rfl, rfl, HK2.out, HB2.out⟩
    case round =>
      obtain ⟨j, hj, rfl, HI⟩ := hrel
      clear b0 b1 b2 b3 b4
      by_cases hlt : j < M
      · have hltz : (j : Int) < (M : Int) := by omega
        obtain ⟨x, hx⟩ : ∃ x, l[1 + j]? = some x := ⟨l[1 + j]'(by have := HM.out; omega), by simp⟩
        obtain ⟨g', o', hgo, _, x0, x1, x2, x3, x4⟩ := Hat.out (1 + j) x hx wr HI.out.2.1
        simp only [Option.some.injEq, Addr.mk.injEq, and_true] at hgo
        obtain ⟨rfl, rfl⟩ := hgo
        rw [show o + (1 + j) * 5 = o + 5 + j * 5 by omega] at x0 x1 x2 x3 x4
        obtain ⟨rfl, hMc⟩ := HPP.out (by omega)
        have hT := HI.out.1
        rw [checkRest_at hx] at hT
        have HO := hid (HOne.out x (List.mem_of_getElem? hx))
        unfold avV at HO
        have HX := hid (AvAt.new wr x)
        have HK3 := hid (HI.out.2.1.alloc (.cells #[.bool x.must, .bool x.hidden, .int .i64 x.vendor, .int .i64 x.type, .string x.value] 43))
        have HB3 := hid (HI.out.2.2.kept ((Kept.refl (fun _ => False) wr).alloc (.cells #[.bool x.must, .bool x.hidden, .int .i64 x.vendor, .int .i64 x.type, .string x.value] 43)))
        clear HI hx
        by_cases h1 : checkOneF x = 0
        · rw [if_pos h1] at hT
          rw [h1] at HO
          have HT := hid hT
          clear hT h1
          go_wp2_with fail
          refine (HO.out _).mono ?_
          rintro e w4 ⟨rfl, hk4⟩
          have HK4 := hid (HK3.out.trans hk4)
          have HB4 := hid (HB3.out.kept hk4)
          clear hk4 x0 x1 x2 x3 x4
          go_wp2
          exact ⟨⟨j + 1, hlt, by go_num, HT.out, HK4.out, HB4.out⟩, by simp [intOf]; omega⟩
        · rw [if_neg h1] at hT
          have hne : (checkOneF x != 0) = true := by rw [bne_iff_ne]; exact h1
          have HT := hid (show Q = checkOneF x by have hq := HQ.out; simp only [if_true] at hq; rw [hq, ← hT, if_neg h1])
          clear hT
          generalize checkOneF x = E at *
          go_wp2_with fail
          refine (HO.out _).mono ?_
          rintro e w4 ⟨rfl, hk4⟩
          have HK4 := hid (HK3.out.trans hk4)
          clear hk4 x0 x1 x2 x3 x4
          go_wp2
          go_ret
          exact ⟨by rw [HT.out]; rfl, HK4.out⟩
      · obtain rfl : j = M := by omega
        have hltz : ¬ (j : Int) < (j : Int) := by omega
        have hT := HI.out.1
        rw [show 1 + j = l.length by have := HM.out; omega, List.drop_length] at hT
        have HQ2 := hid (show Q = if needB l (needsF K) = true then 0 else 40 by have hq := HQ.out; simp only [if_true] at hq; rw [hq, if_pos (show checkRest (l.drop 1) = 0 from hT.symm)])
        have hkl := needsF_le K
        have HK3 := hid HI.out.2.1
        have HB3 := hid HI.out.2.2
        clear hT HI hlt hj HQ HB2 HK2
        generalize needsF K = ks at *
        go_wp2_with fail
        refine (HNe.out _).mono ?_
        rintro e w4 ⟨v4, rfl, ho4, hk4⟩
        have HK4 := hid (HK3.out.trans hk4)
        have HB4 := hid (HB3.out.kept hk4)
        have HO4 := hid (OwnN.z ho4)
        obtain ⟨p4, c4, rfl⟩ := slice_of ho4
        clear ho4 hk4 HNe HK3 HB3
        have hsz4 := HK4.out.size
        go_wp2
        go_loopw [37] (fun vi wx => ∃ (i : Nat), i ≤ ks.length ∧ vi = .int .i64 (i : Int) ∧ Hid (needB l (ks.take i) = true ∧ Kept (fun _ => False) w4 wx)) (fun vi _ => ks.length - (intOf vi).toNat)
        case atStart => exact ⟨0, Nat.zero_le _, rfl, rfl, Kept.refl _ _⟩
        case round =>
          obtain ⟨i, hi, rfl, HI⟩ := hrel
          have HB5 := hid (HB4.out.kept HI.out.2)
          obtain ⟨b0, b1, b2, b3, b4⟩ := HB5.out.cells
          by_cases hlt : i < ks.length
          · have hltz : (i : Int) < (ks.length : Int) := by omega
            obtain ⟨k, hk⟩ : ∃ k, ks[i]? = some k := ⟨ks[i], by simp [hlt]⟩
            obtain ⟨g4, hp4, hn4, hb4, hc4, hm4, hcell, hf4⟩ := OwnG.at (HO4.out.kept0 HI.out.2) encN hk
            clear hn4 hb4 hm4 hf4
            subst hp4
            have k0 := hcell 0 _ rfl
            rw [Nat.mul_one, Nat.add_zero] at k0
            have HF := hid (HFi.out k _ (HK4.out.trans HI.out.2))
            have HYes := hid (fun h => needB_on hk h HI.out.1)
            have HNo := hid (fun h => needB_no (l := l) hk h)
            have HK5 := hid HI.out.2
            clear HI hk hcell
            generalize findAB l k = FB at HF
            cases hfk : (findA l k).isSome with
            | true =>
              rw [hfk] at HF
              have HT := hid (HYes.out hfk)
              clear hfk HYes HNo
              go_wp2_with fail
              refine HF.out.mono ?_
              rintro e w6 ⟨rfl, hk6⟩
              have HK6 := hid (HK5.out.trans hk6)
              clear hk6 b0 b1 b2 b3 b4 k0
              go_wp2
              exact ⟨⟨i + 1, hlt, by go_num, HT.out, HK6.out⟩, by simp [intOf]; omega⟩
            | false =>
              rw [hfk] at HF
              have HT := hid (show Q = 40 by rw [HQ2.out, HNo.out hfk]; rfl)
              clear hfk HYes HNo
              go_wp2_with fail
              refine HF.out.mono ?_
              rintro e w6 ⟨rfl, hk6⟩
              have HK6 := hid (HK4.out.trans (HK5.out.trans hk6))
              clear hk6 b0 b1 b2 b3 b4 k0
              go_wp2
              go_ret
              exact ⟨by rw [HT.out]; rfl, HK6.out⟩
          · obtain rfl : i = ks.length := by omega
            have hltz : ¬ (ks.length : Int) < (ks.length : Int) := by omega
            have hT := HI.out.1
            rw [List.take_length] at hT
            have HT := hid (show Q = 0 by rw [HQ2.out, if_pos hT])
            have HK6 := hid (HK4.out.trans HI.out.2)
            clear hT HI hlt hi
            go_wp2
            go_ret
            exact ⟨by rw [HT.out]; rfl, HK6.out⟩
end Go.Proofs.YtkneogfeokckjaaDoor

namespace Go.Proofs.YtkneogfeokckjaaDoor
open Go.RowKit

def xs5 : Av := ⟨true, false, 0, 14, ⟨#[0, 5]⟩⟩
def raw0 : ByteArray := ⟨#[200, 2, 0, 12, 0, 0, 0, 0, 0, 0, 0, 0]⟩
theorem ma1 : checkF [headK 11] = 40 := by rfl
theorem ma2 : checkF [headK 11, xs5] = 0 := by rfl
theorem ma3 : checkF [headK 5] = 40 := by rfl
theorem ma4 : numV 5 2 = ⟨#[0, 5]⟩ := by rfl
theorem ma5 : rawF 0 0 0 0 ⟨#[]⟩ = ⟨#[200, 2, 0, 12, 0, 0, 0, 0, 0, 0, 0, 0]⟩ := by rfl
theorem ma6 : isCF ⟨#[200, 2, 0, 12, 0, 0, 0, 0, 0, 0, 0, 0]⟩ = true := by rfl
theorem ma7 : (headK 11).value.size = 2 ∧ (headK 5).value.size = 2 := by decide
theorem good_small (x : Av) (h1 : -9223372036854775808 ≤ x.vendor ∧ x.vendor ≤ 9223372036854775807) (h2 : -9223372036854775808 ≤ x.type ∧ x.type ≤ 9223372036854775807) (h3 : x.value.size ≤ 1000) : GoodA x ∧ x.value.size ≤ 140737488351232 := ⟨⟨h1, h2, by unfold maxLen; omega⟩, by omega⟩
theorem good_h11 : GoodA (headK 11) ∧ (headK 11).value.size ≤ 140737488351232 := good_small _ (by decide) (by decide) (by have := ma7.1; omega)
theorem good_h5 : GoodA (headK 5) ∧ (headK 5).value.size ≤ 140737488351232 := good_small _ (by decide) (by decide) (by have := ma7.2; omega)
theorem good_x5 : GoodA xs5 ∧ xs5.value.size ≤ 140737488351232 := good_small _ (by decide) (by decide) (by decide)
theorem avs_nil (W : World) : AvsAt W (.slice none 0 0) [] := Or.inl ⟨rfl, none, 0, rfl⟩
theorem put_nil (W : World) : Calls Tryd.prog 23 #[.slice none 0 0, .string ⟨#[]⟩] W fun e w' => e = .returned (.tuple #[.string ⟨#[]⟩, .int .i64 0]) ∧ Kept (fun _ => False) W w' :=
  putA_few (.slice none 0 0) [] ⟨#[]⟩ W (avs_nil W) (by decide) (by decide) (fun x hx => by cases hx) (fun h => absurd rfl h)
set_option maxHeartbeats 4000000 in
set_option maxRecDepth 100000 in
theorem aliveM_any (w : World) : Calls Tryd.prog 8 #[] w fun e w' => e = .returned (.bool true) ∧ Kept (fun _ => False) w w' := by
  have C1 := hid (fun W => mPut_any 0 0 0 0 none 0 0 ⟨#[]⟩ W ⟨#[]⟩ 0 (fun W' _ => put_nil W') (by decide))
  have C2 := hid (fun W => make_any 11 (.slice none 0 0) [] W (avs_nil W) (by decide))
  have C3 := hid (fun W p c (h : AvsAt W (.slice p 1 c) [headK 11]) => check_any 0 0 0 0 (.slice p 1 c) [headK 11] W h (by simp) (fun x hx => by simp at hx; subst hx; exact good_h11.1) (fun x hx => by simp at hx; subst hx; exact good_h11.2))
  have C4 := hid (fun W => num_any 14 5 2 ⟨by decide, by decide⟩ W)
  have C5 := hid (fun W b (h : AvsAt W (.slice (some ⟨b, 0, none⟩) 1 1) [xs5]) => make_any 11 (.slice (some ⟨b, 0, none⟩) 1 1) [xs5] W h (by simp))
  have C6 := hid (fun W p c (h : AvsAt W (.slice p 2 c) [headK 11, xs5]) => check_any 0 0 0 0 (.slice p 2 c) [headK 11, xs5] W h (by simp) (fun x hx => by simp at hx; rcases hx with rfl | rfl <;> first | exact good_h11.1 | exact good_x5.1) (fun x hx => by simp at hx; rcases hx with rfl | rfl <;> first | exact good_h11.2 | exact good_x5.2))
  have C7 := hid (fun W => mIsCtl_any ⟨#[200, 2, 0, 12, 0, 0, 0, 0, 0, 0, 0, 0]⟩ (by decide) W)
  have C8 := hid (fun W => make_any 5 (.slice none 0 0) [] W (avs_nil W) (by decide))
  have C9 := hid (fun W p c (h : AvsAt W (.slice p 1 c) [headK 5]) => check_any 0 0 0 0 (.slice p 1 c) [headK 5] W h (by simp) (fun x hx => by simp at hx; subst hx; exact good_h5.1) (fun x hx => by simp at hx; subst hx; exact good_h5.2))
  rw [ma1] at C3
  rw [ma4] at C4
  rw [ma2] at C6
  rw [ma6] at C7
  rw [ma3] at C9
  rw [show wordsB 0 0 0 0 = true from by decide, ma5] at C1
  simp only [if_true] at C1
  unfold avV at C4
  go_enter Tryd.func8, Tryd.ntmps8
  go_wp2_with fail
  refine (C1.out _).mono ?_
  rintro e w1 ⟨rfl, hk1⟩
  have HK1 := hid hk1
  clear hk1 C1
  go_wp2_with fail
  refine (C2.out _).mono ?_
  rintro e w2 ⟨v2, rfl, ho2, hk2⟩
  have HK2 := hid (HK1.out.trans hk2)
  obtain ⟨p2, c2, rfl⟩ := slice_of ho2
  have HA2 := hid (OwnAv.at ho2)
  clear hk2 C2 HK1 ho2
  go_wp2_with fail
  refine (C3.out _ _ _ HA2.out).mono ?_
  rintro e w3 ⟨rfl, hk3⟩
  have HK3 := hid (HK2.out.trans hk3)
  clear hk3 C3 HK2 HA2
  go_wp2_with fail
  refine (C4.out _).mono ?_
  rintro e w4 ⟨rfl, hk4⟩
  have HK4 := hid (HK3.out.trans hk4)
  clear hk4 C4 HK3
  have A4 := hid (avs_one w4 xs5)
  have K4 := hid (HK4.out.alloc (.cells #[.bool true, .bool false, .int .i64 0, .int .i64 14, .string ⟨#[0, 5]⟩] 43))
  go_wp2_with fail
  refine (C5.out _ _ A4.out).mono ?_
  rintro e w5 ⟨v5, rfl, ho5, hk5⟩
  have HK5 := hid (K4.out.trans hk5)
  obtain ⟨p5, c5, rfl⟩ := slice_of ho5
  have HA5 := hid (OwnAv.at ho5)
  clear hk5 C5 A4 K4 HK4 ho5
  go_wp2_with fail
  refine (C6.out _ _ _ HA5.out).mono ?_
  rintro e w6 ⟨rfl, hk6⟩
  have HK6 := hid (HK5.out.trans hk6)
  clear hk6 C6 HK5 HA5
  go_wp2_with fail
  refine (C7.out _).mono ?_
  rintro e w7 ⟨rfl, hk7⟩
  have HK7 := hid (HK6.out.trans hk7)
  clear hk7 C7 HK6
  go_wp2_with fail
  refine (C8.out _).mono ?_
  rintro e w8 ⟨v8, rfl, ho8, hk8⟩
  have HK8 := hid (HK7.out.trans hk8)
  obtain ⟨p8, c8, rfl⟩ := slice_of ho8
  have HA8 := hid (OwnAv.at ho8)
  clear hk8 C8 HK7 ho8
  go_wp2_with fail
  refine (C9.out _ _ _ HA8.out).mono ?_
  rintro e w9 ⟨rfl, hk9⟩
  have HK9 := hid (HK8.out.trans hk9)
  clear hk9 C9 HK8 HA8
  go_wp2
  go_ret
  exact ⟨rfl, HK9.out⟩
end Go.Proofs.YtkneogfeokckjaaDoor

namespace Go.Proofs.YtkneogfeokckjaaDoor
open Go.RowKit

/-- A message as a value. -/
def ctV (c : Ct) (v : Value) : Value := .agg #[.int .i64 c.tunnel, .int .i64 c.session, .int .i64 c.ns, .int .i64 c.nr, v]
theorem CtAt.soft {W : World} {b : Nat} {t s n r : Int} {v : Value} (h : CtAt W b t s n r v) : ∀ i, W.frozen? ⟨b, i, none⟩ = false := by
  unfold CtAt at h
  intro i
  simp [World.frozen?, h]
theorem OwnAv.ctl {W : World} {b base : Nat} {t s n r : Int} {u v : Value} {l : List Av} (h : OwnAv W base v l) (hc : CtAt W b t s n r u) : v.ownBlock ≠ some b := by
  intro e
  obtain ⟨⟨cur, hg⟩, _⟩ := OwnG.block h e
  rw [show W.heap[b]? = _ from hc] at hg
  simp at hg
theorem first_ctl (b : ByteArray) (h : 12 ≤ b.size) : ((numAt b 0 : Int) != 51202) = false ↔ ¬ (byteN b 0 ≠ 200 ∨ byteN b 1 ≠ 2) := by
  have e := numAt_two b 0 (by omega)
  rw [Nat.zero_add] at e
  have h0 := byteN_lt b 0
  have h1 := byteN_lt b 1
  rw [bne_eq_false_iff_eq]
  omega

set_option maxHeartbeats 4000000 in
set_option maxRecDepth 100000 in
theorem mGet_short (b s : ByteArray) (h : b.size < 12) (w : World) :
    Calls Tryd.prog 10 #[.string b, .string s] w fun e w' => e = .returned (.tuple #[.agg #[.int .i64 0, .int .i64 0, .int .i64 0, .int .i64 0, .slice none 0 0], .int .i64 5]) ∧ Kept (fun _ => False) w w' := by
  have hz : (b.size : Int) < 12 := by omega
  clear h
  obtain ⟨c0, c1, c2, c3, c4⟩ := (CtAt.new w 0 0 0 0 (.slice none 0 0)).cells
  go_enter Tryd.func10, Tryd.ntmps10
  go_wp2
  refine bodyPost_ret (v := .tuple #[.agg #[.int .i64 0, .int .i64 0, .int .i64 0, .int .i64 0, .slice none 0 0], .int .i64 5]) (by simp [results, Tryd.results10, go_sem, c0, c1, c2, c3, c4]) rfl ⟨rfl, ?_⟩
  exact (Kept.refl _ w).alloc _

set_option maxHeartbeats 4000000 in
set_option maxRecDepth 100000 in
theorem mGet_form (b s : ByteArray) (hb : b.size ≤ 140737488351232) (h : 12 ≤ b.size) (h1 : ((numAt b 0 : Int) != 51202) = true) (w : World) :
    Calls Tryd.prog 10 #[.string b, .string s] w fun e w' => e = .returned (.tuple #[.agg #[.int .i64 0, .int .i64 0, .int .i64 0, .int .i64 0, .slice none 0 0], .int .i64 4]) ∧ Kept (fun _ => False) w w' := by
  have hz : ¬ (b.size : Int) < 12 := by omega
  have HB := hid (CtAt.new w 0 0 0 0 (.slice none 0 0))
  have HK := hid ((Kept.refl (fun _ => False) w).alloc (.cells #[.int .i64 0, .int .i64 0, .int .i64 0, .int .i64 0, .slice none 0 0] 24))
  have HW := hid (fun W => mword_any b hb 0 (by omega) 0 rfl W)
  generalize numAt b 0 = N at *
  clear h
  go_enter Tryd.func10, Tryd.ntmps10
  go_upto_region 1 with fail
  generalize w.alloc (.cells #[.int .i64 0, .int .i64 0, .int .i64 0, .int .i64 0, .slice none 0 0] 24) = W0 at *
  go_wp2_with fail
  refine (HW.out _).mono ?_
  rintro e w1 ⟨rfl, hk1⟩
  have HK1 := hid (HK.out.trans hk1)
  have HB1 := hid (HB.out.kept hk1)
  clear hk1 HK HB HW
  obtain ⟨z0, z1, z2, z3, z4⟩ := (HB1.out).cells
  have f0 := (HB1.out).soft 0
  have f1 := (HB1.out).soft 1
  have f2 := (HB1.out).soft 2
  have f3 := (HB1.out).soft 3
  have f4 := (HB1.out).soft 4
  go_wp2
  refine bodyPost_ret (v := .tuple #[.agg #[.int .i64 0, .int .i64 0, .int .i64 0, .int .i64 0, .slice none 0 0], .int .i64 4]) (by simp [results, Tryd.results10, go_sem, z0, z1, z2, z3, z4]) rfl ⟨rfl, ?_⟩
  exact (((((HK1.out).setCell (Or.inl (Nat.le_refl _)) _).setCell (Or.inl (Nat.le_refl _)) _).setCell (Or.inl (Nat.le_refl _)) _).setCell (Or.inl (Nat.le_refl _)) _).setCell (Or.inl (Nat.le_refl _)) _

set_option maxHeartbeats 4000000 in
set_option maxRecDepth 100000 in
theorem mGet_cut (b s : ByteArray) (hb : b.size ≤ 140737488351232) (h : 12 ≤ b.size) (h1 : ((numAt b 0 : Int) != 51202) = false) (E : Int) (hE : E ≠ 0) (X : ByteArray) (hc : cutM b 12 = (X, E)) (w : World) :
    Calls Tryd.prog 10 #[.string b, .string s] w fun e w' => e = .returned (.tuple #[.agg #[.int .i64 0, .int .i64 0, .int .i64 0, .int .i64 0, .slice none 0 0], .int .i64 E]) ∧ Kept (fun _ => False) w w' := by
  have hz : ¬ (b.size : Int) < 12 := by omega
  have HB := hid (CtAt.new w 0 0 0 0 (.slice none 0 0))
  have HK := hid ((Kept.refl (fun _ => False) w).alloc (.cells #[.int .i64 0, .int .i64 0, .int .i64 0, .int .i64 0, .slice none 0 0] 24))
  have HW := hid (fun W => mword_any b hb 0 (by omega) 0 rfl W)
  have HC := hid (fun W => mcut_any b hb (by omega) 12 12 rfl W)
  rw [hc] at HC
  dsimp only at HC
  have hEz : (E != 0) = true := by rw [bne_iff_ne]; exact hE
  generalize numAt b 0 = N at *
  clear h hc hE
  go_enter Tryd.func10, Tryd.ntmps10
  go_upto_region 1 with fail
  generalize w.alloc (.cells #[.int .i64 0, .int .i64 0, .int .i64 0, .int .i64 0, .slice none 0 0] 24) = W0 at *
  go_wp2_with fail
  refine (HW.out _).mono ?_
  rintro e w1 ⟨rfl, hk1⟩
  have HK1 := hid (HK.out.trans hk1)
  have HB1 := hid (HB.out.kept hk1)
  clear hk1 HK HB HW
  go_wp2_with fail
  refine (HC.out _).mono ?_
  rintro e w2 ⟨rfl, hk2⟩
  have HK2 := hid (HK1.out.trans hk2)
  have HB2 := hid (HB1.out.kept hk2)
  clear hk2 HK1 HB1 HC
  obtain ⟨z0, z1, z2, z3, z4⟩ := (HB2.out).cells
  have f0 := (HB2.out).soft 0
  have f1 := (HB2.out).soft 1
  have f2 := (HB2.out).soft 2
  have f3 := (HB2.out).soft 3
  have f4 := (HB2.out).soft 4
  go_wp2
  refine bodyPost_ret (v := .tuple #[.agg #[.int .i64 0, .int .i64 0, .int .i64 0, .int .i64 0, .slice none 0 0], .int .i64 E]) (by simp [results, Tryd.results10, go_sem, z0, z1, z2, z3, z4]) rfl ⟨rfl, ?_⟩
  exact (((((HK2.out).setCell (Or.inl (Nat.le_refl _)) _).setCell (Or.inl (Nat.le_refl _)) _).setCell (Or.inl (Nat.le_refl _)) _).setCell (Or.inl (Nat.le_refl _)) _).setCell (Or.inl (Nat.le_refl _)) _

set_option maxHeartbeats 4000000 in
set_option maxRecDepth 100000 in
theorem mGet_get (b s : ByteArray) (hb : b.size ≤ 140737488351232) (hs : s.size ≤ 1000000) (h : 12 ≤ b.size) (h1 : ((numAt b 0 : Int) != 51202) = false) (X : ByteArray) (hX : X.size ≤ 140737488351232) (hc : cutM b 12 = (X, 0)) (w : World) (hM : s.size ≠ 0 → UnmAt w) (E : Int) (hE : E ≠ 0) (hg : (getAF X s).2 = E) :
    Calls Tryd.prog 10 #[.string b, .string s] w fun e w' => e = .returned (.tuple #[.agg #[.int .i64 0, .int .i64 0, .int .i64 0, .int .i64 0, .slice none 0 0], .int .i64 E]) ∧ Kept (fun _ => False) w w' := by
  have hz : ¬ (b.size : Int) < 12 := by omega
  have HB := hid (CtAt.new w 0 0 0 0 (.slice none 0 0))
  have HK := hid ((Kept.refl (fun _ => False) w).alloc (.cells #[.int .i64 0, .int .i64 0, .int .i64 0, .int .i64 0, .slice none 0 0] 24))
  have HW := hid (fun W => mword_any b hb 0 (by omega) 0 rfl W)
  have HC := hid (fun W => mcut_any b hb (by omega) 12 12 rfl W)
  have HG := hid (fun W (hk : Kept (fun _ => False) w W) => getA_any X s hX hs W (fun h => (hM h).kept hk))
  rw [hc] at HC
  rw [hg] at HG
  dsimp only at HC
  have hEz : (E != 0) = true := by rw [bne_iff_ne]; exact hE
  generalize numAt b 0 = N at *
  generalize (getAF X s).1 = L at *
  clear h hc hE hg
  go_enter Tryd.func10, Tryd.ntmps10
  go_upto_region 1 with fail
  generalize w.alloc (.cells #[.int .i64 0, .int .i64 0, .int .i64 0, .int .i64 0, .slice none 0 0] 24) = W0 at *
  go_wp2_with fail
  refine (HW.out _).mono ?_
  rintro e w1 ⟨rfl, hk1⟩
  have HK1 := hid (HK.out.trans hk1)
  have HB1 := hid (HB.out.kept hk1)
  clear hk1 HK HB HW
  go_wp2_with fail
  refine (HC.out _).mono ?_
  rintro e w2 ⟨rfl, hk2⟩
  have HK2 := hid (HK1.out.trans hk2)
  have HB2 := hid (HB1.out.kept hk2)
  clear hk2 HK1 HB1 HC
  go_wp2_with fail
  refine (HG.out _ HK2.out).mono ?_
  rintro e w3 ⟨v, rfl, ho3, hk3⟩
  obtain ⟨p, c, rfl⟩ := slice_of ho3
  have HK3 := hid (HK2.out.trans hk3)
  have HB3 := hid (HB2.out.kept hk3)
  have HO3 := hid (OwnG.mono ho3 HK2.out.size)
  clear hk3 ho3 HK2 HB2 HG
  obtain ⟨z0, z1, z2, z3, z4⟩ := (HB3.out).cells
  have f0 := (HB3.out).soft 0
  have f1 := (HB3.out).soft 1
  have f2 := (HB3.out).soft 2
  have f3 := (HB3.out).soft 3
  have f4 := (HB3.out).soft 4
  go_wp2
  refine bodyPost_ret (v := .tuple #[.agg #[.int .i64 0, .int .i64 0, .int .i64 0, .int .i64 0, .slice none 0 0], .int .i64 E]) (by simp [results, Tryd.results10, go_sem, z0, z1, z2, z3, z4]) rfl ⟨rfl, ?_⟩
  exact (((((HK3.out).setCell (Or.inl (Nat.le_refl _)) _).setCell (Or.inl (Nat.le_refl _)) _).setCell (Or.inl (Nat.le_refl _)) _).setCell (Or.inl (Nat.le_refl _)) _).setCell (Or.inl (Nat.le_refl _)) _

set_option maxHeartbeats 4000000 in
set_option maxRecDepth 100000 in
theorem mGet_ok (b s : ByteArray) (hb : b.size ≤ 140737488351232) (hs : s.size ≤ 1000000) (h : 12 ≤ b.size) (h1 : ((numAt b 0 : Int) != 51202) = false) (X : ByteArray) (hX : X.size ≤ 140737488351232) (hc : cutM b 12 = (X, 0)) (w : World) (hM : s.size ≠ 0 → UnmAt w) (hg : (getAF X s).2 = 0) :
    Calls Tryd.prog 10 #[.string b, .string s] w fun e w' => ∃ v, e = .returned (.tuple #[.agg #[.int .i64 (numAt b 4 : Int), .int .i64 (numAt b 6 : Int), .int .i64 (numAt b 8 : Int), .int .i64 (numAt b 10 : Int), v], .int .i64 0]) ∧ OwnAv w' w.heap.size v (getAF X s).1 ∧ Kept (fun _ => False) w w' := by
  have hz : ¬ (b.size : Int) < 12 := by omega
  have HB := hid (CtAt.new w 0 0 0 0 (.slice none 0 0))
  have HK := hid ((Kept.refl (fun _ => False) w).alloc (.cells #[.int .i64 0, .int .i64 0, .int .i64 0, .int .i64 0, .slice none 0 0] 24))
  have HW := hid (fun W => mword_any b hb 0 (by omega) 0 rfl W)
  have HC := hid (fun W => mcut_any b hb (by omega) 12 12 rfl W)
  have HG := hid (fun W (hk : Kept (fun _ => False) w W) => getA_any X s hX hs W (fun h => (hM h).kept hk))
  have HW4 := hid (fun W => mword_any b hb 4 (by omega) 4 rfl W)
  have HW6 := hid (fun W => mword_any b hb 6 (by omega) 6 rfl W)
  have HW8 := hid (fun W => mword_any b hb 8 (by omega) 8 rfl W)
  have HW10 := hid (fun W => mword_any b hb 10 (by omega) 10 rfl W)
  rw [hc] at HC
  rw [hg] at HG
  dsimp only at HC
  generalize numAt b 0 = N at *
  generalize (getAF X s).1 = L at *
  generalize numAt b 4 = N4 at *
  generalize numAt b 6 = N6 at *
  generalize numAt b 8 = N8 at *
  generalize numAt b 10 = N10 at *
  clear h hc hg
  go_enter Tryd.func10, Tryd.ntmps10
  go_upto_region 1 with fail
  generalize w.alloc (.cells #[.int .i64 0, .int .i64 0, .int .i64 0, .int .i64 0, .slice none 0 0] 24) = W0 at *
  go_wp2_with fail
  refine (HW.out _).mono ?_
  rintro e w1 ⟨rfl, hk1⟩
  have HK1 := hid (HK.out.trans hk1)
  have HB1 := hid (HB.out.kept hk1)
  clear hk1 HK HB HW
  go_wp2_with fail
  refine (HC.out _).mono ?_
  rintro e w2 ⟨rfl, hk2⟩
  have HK2 := hid (HK1.out.trans hk2)
  have HB2 := hid (HB1.out.kept hk2)
  clear hk2 HK1 HB1 HC
  go_wp2_with fail
  refine (HG.out _ HK2.out).mono ?_
  rintro e w3 ⟨v, rfl, ho3, hk3⟩
  obtain ⟨p, c, rfl⟩ := slice_of ho3
  have HK3 := hid (HK2.out.trans hk3)
  have HB3 := hid (HB2.out.kept hk3)
  have HO3 := hid (OwnG.mono ho3 HK2.out.size)
  clear hk3 ho3 HK2 HB2 HG
  go_wp2_with fail
  refine (HW4.out _).mono ?_
  rintro e w4 ⟨rfl, hk4⟩
  have HK4 := hid (HK3.out.trans hk4)
  have HB4 := hid (HB3.out.kept hk4)
  have HO4 := hid (OwnG.kept0 HO3.out hk4)
  clear hk4 HK3 HB3 HO3 HW4
  go_wp2_with fail
  refine (HW6.out _).mono ?_
  rintro e w5 ⟨rfl, hk5⟩
  have HK5 := hid (HK4.out.trans hk5)
  have HB5 := hid (HB4.out.kept hk5)
  have HO5 := hid (OwnG.kept0 HO4.out hk5)
  clear hk5 HK4 HB4 HO4 HW6
  go_wp2_with fail
  refine (HW8.out _).mono ?_
  rintro e w6 ⟨rfl, hk6⟩
  have HK6 := hid (HK5.out.trans hk6)
  have HB6 := hid (HB5.out.kept hk6)
  have HO6 := hid (OwnG.kept0 HO5.out hk6)
  clear hk6 HK5 HB5 HO5 HW8
  go_wp2_with fail
  refine (HW10.out _).mono ?_
  rintro e w7 ⟨rfl, hk7⟩
  have HK7 := hid (HK6.out.trans hk7)
  have HB7 := hid (HB6.out.kept hk7)
  have HO7 := hid (OwnG.kept0 HO6.out hk7)
  clear hk7 HK6 HB6 HO6 HW10
  obtain ⟨z0, z1, z2, z3, z4⟩ := (HB7.out).cells
  have f0 := (HB7.out).soft 0
  have f1 := (HB7.out).soft 1
  have f2 := (HB7.out).soft 2
  have f3 := (HB7.out).soft 3
  have f4 := (HB7.out).soft 4
  have HU := hid (OwnAv.ctl HO7.out HB7.out)
  go_wp2
  refine bodyPost_ret (v := .tuple #[.agg #[.int .i64 (N4 : Int), .int .i64 (N6 : Int), .int .i64 (N8 : Int), .int .i64 (N10 : Int), .slice p L.length c], .int .i64 0]) (by simp [results, Tryd.results10, go_sem, z0, z1, z2, z3, z4]) rfl ⟨_, rfl, ?_, ?_⟩
  · refine OwnG.keptS HO7.out (S := fun i => i = w.heap.size) ((((((Kept.refl (fun i => i = w.heap.size) w7).setCell (Or.inr rfl) _).setCell (Or.inr rfl) _).setCell (Or.inr rfl) _).setCell (Or.inr rfl) _).setCell (Or.inr rfl) _) ?_
    rintro i hi rfl
    exact HU.out hi
  · exact (((((HK7.out).setCell (Or.inl (Nat.le_refl _)) _).setCell (Or.inl (Nat.le_refl _)) _).setCell (Or.inl (Nat.le_refl _)) _).setCell (Or.inl (Nat.le_refl _)) _).setCell (Or.inl (Nat.le_refl _)) _

theorem mGet_any (b s : ByteArray) (hb : b.size ≤ 140737488351232) (hs : s.size ≤ 1000000) (w : World) (hM : s.size ≠ 0 → UnmAt w) :
    Calls Tryd.prog 10 #[.string b, .string s] w fun e w' => ∃ v, e = .returned (.tuple #[ctV (getCF b s).1 v, .int .i64 (getCF b s).2]) ∧ OwnAv w' w.heap.size v (getCF b s).1.avps ∧ Kept (fun _ => False) w w' := by
  have zero : ∀ {E : Int}, Calls Tryd.prog 10 #[.string b, .string s] w (fun e w' => e = .returned (.tuple #[.agg #[.int .i64 0, .int .i64 0, .int .i64 0, .int .i64 0, .slice none 0 0], .int .i64 E]) ∧ Kept (fun _ => False) w w') → Calls Tryd.prog 10 #[.string b, .string s] w fun e w' => ∃ v, e = .returned (.tuple #[ctV (ct0, E).1 v, .int .i64 (ct0, E).2]) ∧ OwnAv w' w.heap.size v (ct0, E).1.avps ∧ Kept (fun _ => False) w w' := fun h => h.mono fun e w' ⟨he, hk⟩ => ⟨.slice none 0 0, he, OwnG.nil _ _, hk⟩
  unfold getCF
  by_cases h12 : b.size < 12
  · rw [if_pos h12]
    exact zero (mGet_short b s h12 w)
  rw [if_neg h12]
  by_cases hf : byteN b 0 ≠ 200 ∨ byteN b 1 ≠ 2
  · rw [if_pos hf]
    refine zero (mGet_form b s hb (by omega) ?_ w)
    cases h : ((numAt b 0 : Int) != 51202) with
    | true => rfl
    | false => exact absurd hf ((first_ctl b (by omega)).1 h)
  rw [if_neg hf]
  have h1 := (first_ctl b (by omega)).2 hf
  by_cases h2 : b.size < numAt b 2
  · rw [if_pos h2]
    exact zero (mGet_cut b s hb (by omega) h1 5 (by decide) ⟨#[]⟩ (by unfold cutM; rw [if_pos h2]) w)
  rw [if_neg h2]
  by_cases h3 : numAt b 2 < 12
  · rw [if_pos h3]
    exact zero (mGet_cut b s hb (by omega) h1 4 (by decide) ⟨#[]⟩ (by unfold cutM; rw [if_neg h2, if_pos h3]) w)
  rw [if_neg h3]
  have hc : cutM b 12 = (b.extract 12 (numAt b 2), 0) := by unfold cutM; rw [if_neg h2, if_neg h3]
  have hX : (b.extract 12 (numAt b 2)).size ≤ 140737488351232 := by rw [ByteArray.size_extract]; omega
  by_cases he : (getAF (b.extract 12 (numAt b 2)) s).2 = 0
  · rw [if_pos he]
    exact mGet_ok b s hb hs (by omega) h1 _ hX hc w hM he
  · rw [if_neg he]
    exact zero (mGet_get b s hb hs (by omega) h1 _ hX hc w hM _ he rfl)
end Go.Proofs.YtkneogfeokckjaaDoor

namespace Go.Proofs.YtkneogfeokckjaaDoor
open Go.RowKit

theorem LdAt.lt {W : World} {b : Nat} {t s : Int} {q : Bool} {n r : Int} {x : ByteArray} (h : LdAt W b t s q n r x) : b < W.heap.size := (Array.getElem?_eq_some_iff.1 h).1
theorem LdAt.set3 {W : World} {b : Nat} {t s : Int} {q : Bool} {n r : Int} {x : ByteArray} (h : LdAt W b t s q n r x) (n' r' : Int) : LdAt (((W.setCell ⟨b, 2, none⟩ (.bool true)).setCell ⟨b, 3, none⟩ (.int .i64 n')).setCell ⟨b, 4, none⟩ (.int .i64 r')) b t s true n' r' x := by
  have hlt := h.lt
  have hv : W.heap[b] = .cells #[.int .i64 t, .int .i64 s, .bool q, .int .i64 n, .int .i64 r, .string x] 26 (0, 0) := (Array.getElem?_eq_some_iff.1 h).2
  unfold LdAt World.setCell
  rw [Array.getElem?_eq_getElem (by simpa using hlt), Array.getElem_modify, Array.getElem_modify, Array.getElem_modify]
  simp [hv]
theorem LdAt.other3 {W : World} {b g : Nat} {t s : Int} {q : Bool} {n r : Int} {x : ByteArray} (h : LdAt W b t s q n r x) (hne : b ≠ g) (n' r' : Int) : LdAt (((W.setCell ⟨g, 2, none⟩ (.bool true)).setCell ⟨g, 3, none⟩ (.int .i64 n')).setCell ⟨g, 4, none⟩ (.int .i64 r')) b t s q n r x :=
  (Below.heap_setCell _ _ _ _ hne).trans ((Below.heap_setCell _ _ _ _ hne).trans ((Below.heap_setCell _ _ _ _ hne).trans h))
/-- A data message as a value. -/
def ldV (l : Ld) : Value := .agg #[.int .i64 l.tunnel, .int .i64 l.session, .bool l.seq, .int .i64 l.ns, .int .i64 l.nr, .string l.data]

set_option maxHeartbeats 4000000 in
set_option maxRecDepth 100000 in
theorem mPutL_no (t s n r : Int) (q : Bool) (x : ByteArray) (_hx : x.size ≤ 140737488351232) (hw : wordsB t s n r = false) (w : World) :
    Calls Tryd.prog 14 #[.agg #[.int .i64 t, .int .i64 s, .bool q, .int .i64 n, .int .i64 r, .string x]] w fun e w' => e = .returned (.tuple #[.string ⟨#[]⟩, .int .i64 1]) ∧ Kept (fun _ => False) w w' := by
  have HB := hid (LdAt.new w t s q n r x)
  have HK := hid ((Kept.refl (fun _ => False) w).alloc (.cells #[.int .i64 t, .int .i64 s, .bool q, .int .i64 n, .int .i64 r, .string x] 26))
  obtain ⟨b0, b1, b2, b3, b4, b5⟩ := HB.out.cells
  have HW := hid (fun W => are_four t s n r W)
  rw [hw] at HW
  clear hw
  go_enter Tryd.func14, Tryd.ntmps14
  go_upto_region 1 with fail
  generalize w.alloc (.cells #[.int .i64 t, .int .i64 s, .bool q, .int .i64 n, .int .i64 r, .string x] 26) = W0 at *
  go_wp2_with fail
  refine (HW.out _).mono ?_
  rintro e w1 ⟨rfl, hk1⟩
  have HK1 := hid (HK.out.trans hk1)
  have HB1 := hid (HB.out.kept hk1)
  clear hk1 b0 b1 b2 b3 b4 b5 HK HB HW
  obtain ⟨b0, b1, b2, b3, b4, b5⟩ := HB1.out.cells
  go_wp2
  go_ret2
  exact ⟨rfl, HK1.out⟩

set_option maxHeartbeats 4000000 in
set_option maxRecDepth 100000 in
theorem mPutL_ns (t s n r : Int) (x : ByteArray) (_hx : x.size ≤ 140737488351232) (hw : wordsB t s n r = true) (h : n ≠ 0) (w : World) :
    Calls Tryd.prog 14 #[.agg #[.int .i64 t, .int .i64 s, .bool false, .int .i64 n, .int .i64 r, .string x]] w fun e w' => e = .returned (.tuple #[.string ⟨#[]⟩, .int .i64 1]) ∧ Kept (fun _ => False) w w' := by
  have HB := hid (LdAt.new w t s false n r x)
  have HK := hid ((Kept.refl (fun _ => False) w).alloc (.cells #[.int .i64 t, .int .i64 s, .bool false, .int .i64 n, .int .i64 r, .string x] 26))
  obtain ⟨b0, b1, b2, b3, b4, b5⟩ := HB.out.cells
  have HW := hid (fun W => are_four t s n r W)
  rw [hw] at HW
  have hz : (n != 0) = true := by rw [bne_iff_ne]; exact h
  clear h
  clear hw
  go_enter Tryd.func14, Tryd.ntmps14
  go_upto_region 1 with fail
  generalize w.alloc (.cells #[.int .i64 t, .int .i64 s, .bool false, .int .i64 n, .int .i64 r, .string x] 26) = W0 at *
  go_wp2_with fail
  refine (HW.out _).mono ?_
  rintro e w1 ⟨rfl, hk1⟩
  have HK1 := hid (HK.out.trans hk1)
  have HB1 := hid (HB.out.kept hk1)
  clear hk1 b0 b1 b2 b3 b4 b5 HK HB HW
  obtain ⟨b0, b1, b2, b3, b4, b5⟩ := HB1.out.cells
  go_wp2
  go_ret2
  exact ⟨rfl, HK1.out⟩

set_option maxHeartbeats 4000000 in
set_option maxRecDepth 100000 in
theorem mPutL_nr (t s n r : Int) (x : ByteArray) (_hx : x.size ≤ 140737488351232) (hw : wordsB t s n r = true) (h0 : n = 0) (h : r ≠ 0) (w : World) :
    Calls Tryd.prog 14 #[.agg #[.int .i64 t, .int .i64 s, .bool false, .int .i64 n, .int .i64 r, .string x]] w fun e w' => e = .returned (.tuple #[.string ⟨#[]⟩, .int .i64 1]) ∧ Kept (fun _ => False) w w' := by
  have HB := hid (LdAt.new w t s false n r x)
  have HK := hid ((Kept.refl (fun _ => False) w).alloc (.cells #[.int .i64 t, .int .i64 s, .bool false, .int .i64 n, .int .i64 r, .string x] 26))
  obtain ⟨b0, b1, b2, b3, b4, b5⟩ := HB.out.cells
  have HW := hid (fun W => are_four t s n r W)
  rw [hw] at HW
  have hz : (r != 0) = true := by rw [bne_iff_ne]; exact h
  have hz0 : (n != 0) = false := by rw [h0]; rfl
  clear h h0
  clear hw
  go_enter Tryd.func14, Tryd.ntmps14
  go_upto_region 1 with fail
  generalize w.alloc (.cells #[.int .i64 t, .int .i64 s, .bool false, .int .i64 n, .int .i64 r, .string x] 26) = W0 at *
  go_wp2_with fail
  refine (HW.out _).mono ?_
  rintro e w1 ⟨rfl, hk1⟩
  have HK1 := hid (HK.out.trans hk1)
  have HB1 := hid (HB.out.kept hk1)
  clear hk1 b0 b1 b2 b3 b4 b5 HK HB HW
  obtain ⟨b0, b1, b2, b3, b4, b5⟩ := HB1.out.cells
  go_wp2
  go_ret2
  exact ⟨rfl, HK1.out⟩

set_option maxHeartbeats 4000000 in
set_option maxRecDepth 100000 in
theorem mPutL_longq (t s n r : Int) (x : ByteArray) (hx : x.size ≤ 140737488351232) (hw : wordsB t s n r = true) (h : 1460 < x.size) (w : World) :
    Calls Tryd.prog 14 #[.agg #[.int .i64 t, .int .i64 s, .bool true, .int .i64 n, .int .i64 r, .string x]] w fun e w' => e = .returned (.tuple #[.string ⟨#[]⟩, .int .i64 2]) ∧ Kept (fun _ => False) w w' := by
  have HB := hid (LdAt.new w t s true n r x)
  have HK := hid ((Kept.refl (fun _ => False) w).alloc (.cells #[.int .i64 t, .int .i64 s, .bool true, .int .i64 n, .int .i64 r, .string x] 26))
  obtain ⟨b0, b1, b2, b3, b4, b5⟩ := HB.out.cells
  have HW := hid (fun W => are_four t s n r W)
  rw [hw] at HW
  have hz : (1460 : Int) < (x.size : Int) := by omega
  clear h
  clear hw
  go_enter Tryd.func14, Tryd.ntmps14
  go_upto_region 1 with fail
  generalize w.alloc (.cells #[.int .i64 t, .int .i64 s, .bool true, .int .i64 n, .int .i64 r, .string x] 26) = W0 at *
  go_wp2_with fail
  refine (HW.out _).mono ?_
  rintro e w1 ⟨rfl, hk1⟩
  have HK1 := hid (HK.out.trans hk1)
  have HB1 := hid (HB.out.kept hk1)
  clear hk1 b0 b1 b2 b3 b4 b5 HK HB HW
  obtain ⟨b0, b1, b2, b3, b4, b5⟩ := HB1.out.cells
  go_wp2
  go_ret2
  exact ⟨rfl, HK1.out⟩

set_option maxHeartbeats 4000000 in
set_option maxRecDepth 100000 in
theorem mPutL_long (t s n r : Int) (x : ByteArray) (hx : x.size ≤ 140737488351232) (hw : wordsB t s n r = true) (h0 : n = 0) (h1 : r = 0) (h : 1460 < x.size) (w : World) :
    Calls Tryd.prog 14 #[.agg #[.int .i64 t, .int .i64 s, .bool false, .int .i64 n, .int .i64 r, .string x]] w fun e w' => e = .returned (.tuple #[.string ⟨#[]⟩, .int .i64 2]) ∧ Kept (fun _ => False) w w' := by
  have HB := hid (LdAt.new w t s false n r x)
  have HK := hid ((Kept.refl (fun _ => False) w).alloc (.cells #[.int .i64 t, .int .i64 s, .bool false, .int .i64 n, .int .i64 r, .string x] 26))
  obtain ⟨b0, b1, b2, b3, b4, b5⟩ := HB.out.cells
  have HW := hid (fun W => are_four t s n r W)
  rw [hw] at HW
  have hz : (1460 : Int) < (x.size : Int) := by omega
  have hz0 : (n != 0) = false := by rw [h0]; rfl
  have hz1 : (r != 0) = false := by rw [h1]; rfl
  clear h h0 h1
  clear hw
  go_enter Tryd.func14, Tryd.ntmps14
  go_upto_region 1 with fail
  generalize w.alloc (.cells #[.int .i64 t, .int .i64 s, .bool false, .int .i64 n, .int .i64 r, .string x] 26) = W0 at *
  go_wp2_with fail
  refine (HW.out _).mono ?_
  rintro e w1 ⟨rfl, hk1⟩
  have HK1 := hid (HK.out.trans hk1)
  have HB1 := hid (HB.out.kept hk1)
  clear hk1 b0 b1 b2 b3 b4 b5 HK HB HW
  obtain ⟨b0, b1, b2, b3, b4, b5⟩ := HB1.out.cells
  go_wp2
  go_ret2
  exact ⟨rfl, HK1.out⟩

set_option maxHeartbeats 4000000 in
set_option maxRecDepth 100000 in
theorem mPutL_seq (t s n r : Int) (x : ByteArray) (hx : x.size ≤ 140737488351232) (hw : wordsB t s n r = true) (h : x.size ≤ 1460) (w : World) :
    Calls Tryd.prog 14 #[.agg #[.int .i64 t, .int .i64 s, .bool true, .int .i64 n, .int .i64 r, .string x]] w fun e w' => e = .returned (.tuple #[.string (layF 18434 x [t, s, n, r]), .int .i64 0]) ∧ Kept (fun _ => False) w w' := by
  have HB := hid (LdAt.new w t s true n r x)
  have HK := hid ((Kept.refl (fun _ => False) w).alloc (.cells #[.int .i64 t, .int .i64 s, .bool true, .int .i64 n, .int .i64 r, .string x] 26))
  obtain ⟨b0, b1, b2, b3, b4, b5⟩ := HB.out.cells
  have HW := hid (fun W => are_four t s n r W)
  rw [hw] at HW
  have hz : ¬ (1460 : Int) < (x.size : Int) := by omega
  have HL := hid (fun W => lay_four 18434 (by decide) x (by omega) t s n r hw W)
  generalize layF 18434 x [t, s, n, r] = R at *
  clear h
  clear hw
  go_enter Tryd.func14, Tryd.ntmps14
  go_upto_region 1 with fail
  generalize w.alloc (.cells #[.int .i64 t, .int .i64 s, .bool true, .int .i64 n, .int .i64 r, .string x] 26) = W0 at *
  go_wp2_with fail
  refine (HW.out _).mono ?_
  rintro e w1 ⟨rfl, hk1⟩
  have HK1 := hid (HK.out.trans hk1)
  have HB1 := hid (HB.out.kept hk1)
  clear hk1 b0 b1 b2 b3 b4 b5 HK HB HW
  obtain ⟨b0, b1, b2, b3, b4, b5⟩ := HB1.out.cells
  go_wp2_with fail
  refine (HL.out _).mono ?_
  rintro e w2 ⟨rfl, hk2⟩
  have HK2 := hid (HK1.out.trans hk2)
  clear hk2
  go_wp2
  go_ret2
  exact ⟨rfl, HK2.out⟩

set_option maxHeartbeats 4000000 in
set_option maxRecDepth 100000 in
theorem mPutL_two (t s n r : Int) (x : ByteArray) (hx : x.size ≤ 140737488351232) (hw : wordsB t s n r = true) (h0 : n = 0) (h1 : r = 0) (h : x.size ≤ 1460) (w : World) :
    Calls Tryd.prog 14 #[.agg #[.int .i64 t, .int .i64 s, .bool false, .int .i64 n, .int .i64 r, .string x]] w fun e w' => e = .returned (.tuple #[.string (layF 16386 x [t, s]), .int .i64 0]) ∧ Kept (fun _ => False) w w' := by
  have HB := hid (LdAt.new w t s false n r x)
  have HK := hid ((Kept.refl (fun _ => False) w).alloc (.cells #[.int .i64 t, .int .i64 s, .bool false, .int .i64 n, .int .i64 r, .string x] 26))
  obtain ⟨b0, b1, b2, b3, b4, b5⟩ := HB.out.cells
  have HW := hid (fun W => are_four t s n r W)
  rw [hw] at HW
  have hz : ¬ (1460 : Int) < (x.size : Int) := by omega
  have hz0 : (n != 0) = false := by rw [h0]; rfl
  have hz1 : (r != 0) = false := by rw [h1]; rfl
  have ht : wordB t = true := wordsB_all hw t (by simp)
  have hs : wordB s = true := wordsB_all hw s (by simp)
  have HL := hid (fun W => lay_two 16386 (by decide) x (by omega) t s ht hs W)
  generalize layF 16386 x [t, s] = R at *
  clear h h0 h1 ht hs
  clear hw
  go_enter Tryd.func14, Tryd.ntmps14
  go_upto_region 1 with fail
  generalize w.alloc (.cells #[.int .i64 t, .int .i64 s, .bool false, .int .i64 n, .int .i64 r, .string x] 26) = W0 at *
  go_wp2_with fail
  refine (HW.out _).mono ?_
  rintro e w1 ⟨rfl, hk1⟩
  have HK1 := hid (HK.out.trans hk1)
  have HB1 := hid (HB.out.kept hk1)
  clear hk1 b0 b1 b2 b3 b4 b5 HK HB HW
  obtain ⟨b0, b1, b2, b3, b4, b5⟩ := HB1.out.cells
  go_wp2_with fail
  refine (HL.out _).mono ?_
  rintro e w2 ⟨rfl, hk2⟩
  have HK2 := hid (HK1.out.trans hk2)
  clear hk2
  go_wp2
  go_ret2
  exact ⟨rfl, HK2.out⟩

theorem mPutLoad_any (l : Ld) (hx : l.data.size ≤ 140737488351232) (w : World) :
    Calls Tryd.prog 14 #[ldV l] w fun e w' => e = .returned (.tuple #[.string (putLF l).1, .int .i64 (putLF l).2]) ∧ Kept (fun _ => False) w w' := by
  obtain ⟨t, s, q, n, r, x⟩ := l
  unfold putLF ldV
  dsimp only at hx ⊢
  cases hw : wordsB t s n r with
  | false =>
    rw [if_neg (by simp)]
    exact mPutL_no t s n r q x hx hw w
  | true =>
    cases q with
    | true =>
      rw [if_pos ⟨rfl, Or.inl rfl⟩]
      by_cases h : 1460 < x.size
      · rw [if_pos h]
        exact mPutL_longq t s n r x hx hw h w
      · rw [if_neg h, if_pos rfl]
        have := mPutL_seq t s n r x hx hw (by omega) w
        rw [layF_four, show (18434 : Int).toNat = 18434 from rfl, two_seq] at this
        exact this
    | false =>
      by_cases hn : n = 0
      · by_cases hr : r = 0
        · rw [if_pos ⟨rfl, Or.inr ⟨hn, hr⟩⟩]
          by_cases h : 1460 < x.size
          · rw [if_pos h]
            exact mPutL_long t s n r x hx hw hn hr h w
          · rw [if_neg h, if_neg (by simp)]
            have := mPutL_two t s n r x hx hw hn hr (by omega) w
            rw [layF_two, show (16386 : Int).toNat = 16386 from rfl, two_load] at this
            exact this
        · rw [if_neg (by simp [hr])]
          exact mPutL_nr t s n r x hx hw hn hr w
      · rw [if_neg (by simp [hn])]
        exact mPutL_ns t s n r x hx hw hn w

set_option maxHeartbeats 4000000 in
set_option maxRecDepth 100000 in
theorem mGetL_short (b : ByteArray) (h : b.size < 8) (w : World) :
    Calls Tryd.prog 11 #[.string b] w fun e w' => e = .returned (.tuple #[.agg #[.int .i64 0, .int .i64 0, .bool false, .int .i64 0, .int .i64 0, .string ⟨#[]⟩], .int .i64 5]) ∧ Kept (fun _ => False) w w' := by
  have hz : (b.size : Int) < 8 := by omega
  clear h
  obtain ⟨c0, c1, c2, c3, c4, c5⟩ := (LdAt.new w 0 0 false 0 0 ⟨#[]⟩).cells
  go_enter Tryd.func11, Tryd.ntmps11
  go_wp2
  refine bodyPost_ret (v := .tuple #[.agg #[.int .i64 0, .int .i64 0, .bool false, .int .i64 0, .int .i64 0, .string ⟨#[]⟩], .int .i64 5]) (by simp [results, Tryd.results11, go_sem, c0, c1, c2, c3, c4, c5]) rfl ⟨rfl, ?_⟩
  exact (Kept.refl _ w).alloc _

set_option maxHeartbeats 4000000 in
set_option maxRecDepth 100000 in
theorem mGetL_form (b : ByteArray) (hb : b.size ≤ 140737488351232) (h : 8 ≤ b.size) (h1 : ((numAt b 0 : Int) == 16386) = false) (h2 : ((numAt b 0 : Int) == 18434) = false) (w : World) :
    Calls Tryd.prog 11 #[.string b] w fun e w' => e = .returned (.tuple #[.agg #[.int .i64 0, .int .i64 0, .bool false, .int .i64 0, .int .i64 0, .string ⟨#[]⟩], .int .i64 4]) ∧ Kept (fun _ => False) w w' := by
  have hz : ¬ (b.size : Int) < 8 := by omega
  have HB := hid (LdAt.new w 0 0 false 0 0 ⟨#[]⟩)
  have HK := hid ((Kept.refl (fun _ => False) w).alloc (.cells #[.int .i64 0, .int .i64 0, .bool false, .int .i64 0, .int .i64 0, .string ⟨#[]⟩] 26))
  have HW := hid (fun W => mword_any b hb 0 (by omega) 0 rfl W)
  generalize numAt b 0 = N at *
  clear h
  go_enter Tryd.func11, Tryd.ntmps11
  go_upto_region 1 with fail
  generalize w.alloc (.cells #[.int .i64 0, .int .i64 0, .bool false, .int .i64 0, .int .i64 0, .string ⟨#[]⟩] 26) = W0 at *
  go_wp2_with fail
  refine (HW.out _).mono ?_
  rintro e w1 ⟨rfl, hk1⟩
  have HK1 := hid (HK.out.trans hk1)
  have HB1 := hid (HB.out.kept hk1)
  clear hk1 HK HB HW
  obtain ⟨z0, z1, z2, z3, z4, z5⟩ := (HB1.out).cells
  have f0 := (HB1.out).soft 0
  have f1 := (HB1.out).soft 1
  have f2 := (HB1.out).soft 2
  have f3 := (HB1.out).soft 3
  have f4 := (HB1.out).soft 4
  have f5 := (HB1.out).soft 5
  go_wp2
  refine bodyPost_ret (v := .tuple #[.agg #[.int .i64 0, .int .i64 0, .bool false, .int .i64 0, .int .i64 0, .string ⟨#[]⟩], .int .i64 4]) (by simp [results, Tryd.results11, go_sem, z0, z1, z2, z3, z4, z5]) rfl ⟨rfl, ?_⟩
  exact ((((((HK1.out).setCell (Or.inl (Nat.le_refl _)) _).setCell (Or.inl (Nat.le_refl _)) _).setCell (Or.inl (Nat.le_refl _)) _).setCell (Or.inl (Nat.le_refl _)) _).setCell (Or.inl (Nat.le_refl _)) _).setCell (Or.inl (Nat.le_refl _)) _

set_option maxHeartbeats 4000000 in
set_option maxRecDepth 100000 in
theorem mGetL_cut8 (b : ByteArray) (hb : b.size ≤ 140737488351232) (h : 8 ≤ b.size) (h1 : (numAt b 0 : Int) = 16386) (E : Int) (hE : E ≠ 0) (X : ByteArray) (hc : cutM b 8 = (X, E)) (w : World) :
    Calls Tryd.prog 11 #[.string b] w fun e w' => e = .returned (.tuple #[.agg #[.int .i64 0, .int .i64 0, .bool false, .int .i64 0, .int .i64 0, .string ⟨#[]⟩], .int .i64 E]) ∧ Kept (fun _ => False) w w' := by
  have hz : ¬ (b.size : Int) < 8 := by omega
  have HB := hid (LdAt.new w 0 0 false 0 0 ⟨#[]⟩)
  have HK := hid ((Kept.refl (fun _ => False) w).alloc (.cells #[.int .i64 0, .int .i64 0, .bool false, .int .i64 0, .int .i64 0, .string ⟨#[]⟩] 26))
  have HW := hid (fun W => mword_any b hb 0 (by omega) 0 rfl W)
  rw [h1] at HW
  have HC := hid (fun W => mcut_any b hb (by omega) 8 8 rfl W)
  rw [hc] at HC
  dsimp only at HC
  have hEz : (E != 0) = true := by rw [bne_iff_ne]; exact hE
  clear h hc hE h1
  go_enter Tryd.func11, Tryd.ntmps11
  go_upto_region 1 with fail
  generalize w.alloc (.cells #[.int .i64 0, .int .i64 0, .bool false, .int .i64 0, .int .i64 0, .string ⟨#[]⟩] 26) = W0 at *
  go_wp2_with fail
  refine (HW.out _).mono ?_
  rintro e w1 ⟨rfl, hk1⟩
  have HK1 := hid (HK.out.trans hk1)
  have HB1 := hid (HB.out.kept hk1)
  clear hk1 HK HB HW
  go_wp2_with fail
  refine (HC.out _).mono ?_
  rintro e w2 ⟨rfl, hk2⟩
  have HK2 := hid (HK1.out.trans hk2)
  have HB2 := hid (HB1.out.kept hk2)
  clear hk2 HK1 HB1 HC
  obtain ⟨z0, z1, z2, z3, z4, z5⟩ := (HB2.out).cells
  have f0 := (HB2.out).soft 0
  have f1 := (HB2.out).soft 1
  have f2 := (HB2.out).soft 2
  have f3 := (HB2.out).soft 3
  have f4 := (HB2.out).soft 4
  have f5 := (HB2.out).soft 5
  go_wp2
  refine bodyPost_ret (v := .tuple #[.agg #[.int .i64 0, .int .i64 0, .bool false, .int .i64 0, .int .i64 0, .string ⟨#[]⟩], .int .i64 E]) (by simp [results, Tryd.results11, go_sem, z0, z1, z2, z3, z4, z5]) rfl ⟨rfl, ?_⟩
  exact ((((((HK2.out).setCell (Or.inl (Nat.le_refl _)) _).setCell (Or.inl (Nat.le_refl _)) _).setCell (Or.inl (Nat.le_refl _)) _).setCell (Or.inl (Nat.le_refl _)) _).setCell (Or.inl (Nat.le_refl _)) _).setCell (Or.inl (Nat.le_refl _)) _

set_option maxHeartbeats 4000000 in
set_option maxRecDepth 100000 in
theorem mGetL_long8 (b : ByteArray) (hb : b.size ≤ 140737488351232) (h : 8 ≤ b.size) (h1 : (numAt b 0 : Int) = 16386) (X : ByteArray) (hX : 1460 < X.size) (hX2 : X.size ≤ 140737488351232) (hc : cutM b 8 = (X, 0)) (w : World) :
    Calls Tryd.prog 11 #[.string b] w fun e w' => e = .returned (.tuple #[.agg #[.int .i64 0, .int .i64 0, .bool false, .int .i64 0, .int .i64 0, .string ⟨#[]⟩], .int .i64 2]) ∧ Kept (fun _ => False) w w' := by
  have hz : ¬ (b.size : Int) < 8 := by omega
  have HB := hid (LdAt.new w 0 0 false 0 0 ⟨#[]⟩)
  have HK := hid ((Kept.refl (fun _ => False) w).alloc (.cells #[.int .i64 0, .int .i64 0, .bool false, .int .i64 0, .int .i64 0, .string ⟨#[]⟩] 26))
  have HW := hid (fun W => mword_any b hb 0 (by omega) 0 rfl W)
  rw [h1] at HW
  have HC := hid (fun W => mcut_any b hb (by omega) 8 8 rfl W)
  rw [hc] at HC
  dsimp only at HC
  have hXz : (1460 : Int) < (X.size : Int) := by omega
  clear h hc hX h1
  go_enter Tryd.func11, Tryd.ntmps11
  go_upto_region 1 with fail
  generalize w.alloc (.cells #[.int .i64 0, .int .i64 0, .bool false, .int .i64 0, .int .i64 0, .string ⟨#[]⟩] 26) = W0 at *
  go_wp2_with fail
  refine (HW.out _).mono ?_
  rintro e w1 ⟨rfl, hk1⟩
  have HK1 := hid (HK.out.trans hk1)
  have HB1 := hid (HB.out.kept hk1)
  clear hk1 HK HB HW
  go_wp2_with fail
  refine (HC.out _).mono ?_
  rintro e w2 ⟨rfl, hk2⟩
  have HK2 := hid (HK1.out.trans hk2)
  have HB2 := hid (HB1.out.kept hk2)
  clear hk2 HK1 HB1 HC
  obtain ⟨z0, z1, z2, z3, z4, z5⟩ := (HB2.out).cells
  have f0 := (HB2.out).soft 0
  have f1 := (HB2.out).soft 1
  have f2 := (HB2.out).soft 2
  have f3 := (HB2.out).soft 3
  have f4 := (HB2.out).soft 4
  have f5 := (HB2.out).soft 5
  go_wp2
  refine bodyPost_ret (v := .tuple #[.agg #[.int .i64 0, .int .i64 0, .bool false, .int .i64 0, .int .i64 0, .string ⟨#[]⟩], .int .i64 2]) (by simp [results, Tryd.results11, go_sem, z0, z1, z2, z3, z4, z5]) rfl ⟨rfl, ?_⟩
  exact ((((((HK2.out).setCell (Or.inl (Nat.le_refl _)) _).setCell (Or.inl (Nat.le_refl _)) _).setCell (Or.inl (Nat.le_refl _)) _).setCell (Or.inl (Nat.le_refl _)) _).setCell (Or.inl (Nat.le_refl _)) _).setCell (Or.inl (Nat.le_refl _)) _

set_option maxHeartbeats 4000000 in
set_option maxRecDepth 100000 in
theorem mGetL_ok8 (b : ByteArray) (hb : b.size ≤ 140737488351232) (h : 8 ≤ b.size) (h1 : (numAt b 0 : Int) = 16386) (X : ByteArray) (hX : X.size ≤ 1460) (hc : cutM b 8 = (X, 0)) (w : World) :
    Calls Tryd.prog 11 #[.string b] w fun e w' => e = .returned (.tuple #[.agg #[.int .i64 (numAt b 4 : Int), .int .i64 (numAt b 6 : Int), .bool false, .int .i64 0, .int .i64 0, .string X], .int .i64 0]) ∧ Kept (fun _ => False) w w' := by
  have hz : ¬ (b.size : Int) < 8 := by omega
  have HB := hid (LdAt.new w 0 0 false 0 0 ⟨#[]⟩)
  have HK := hid ((Kept.refl (fun _ => False) w).alloc (.cells #[.int .i64 0, .int .i64 0, .bool false, .int .i64 0, .int .i64 0, .string ⟨#[]⟩] 26))
  have HW := hid (fun W => mword_any b hb 0 (by omega) 0 rfl W)
  rw [h1] at HW
  have HC := hid (fun W => mcut_any b hb (by omega) 8 8 rfl W)
  rw [hc] at HC
  dsimp only at HC
  have hXz : ¬ (1460 : Int) < (X.size : Int) := by omega
  have HW4 := hid (fun W => mword_any b hb 4 (by omega) 4 rfl W)
  have HW6 := hid (fun W => mword_any b hb 6 (by omega) 6 rfl W)
  have HCl : Hid (∀ W, Calls Tryd.prog 28 #[.string X] W fun e w' => e = .returned (.string X) ∧ Kept (fun _ => False) W w') := fun W => (clone_any X W (by omega)).mono fun _ _ ⟨h1, h2⟩ => ⟨h1, kept_of h2⟩
  generalize numAt b 4 = N4 at *
  generalize numAt b 6 = N6 at *
  clear h hc hX h1
  go_enter Tryd.func11, Tryd.ntmps11
  go_upto_region 1 with fail
  generalize w.alloc (.cells #[.int .i64 0, .int .i64 0, .bool false, .int .i64 0, .int .i64 0, .string ⟨#[]⟩] 26) = W0 at *
  go_wp2_with fail
  refine (HW.out _).mono ?_
  rintro e w1 ⟨rfl, hk1⟩
  have HK1 := hid (HK.out.trans hk1)
  have HB1 := hid (HB.out.kept hk1)
  clear hk1 HK HB HW
  go_wp2_with fail
  refine (HC.out _).mono ?_
  rintro e w2 ⟨rfl, hk2⟩
  have HK2 := hid (HK1.out.trans hk2)
  have HB2 := hid (HB1.out.kept hk2)
  clear hk2 HK1 HB1 HC
  go_wp2_with fail
  refine (HW4.out _).mono ?_
  rintro e w3 ⟨rfl, hk3⟩
  have HK3 := hid (HK2.out.trans hk3)
  have HB3 := hid (HB2.out.kept hk3)
  clear hk3 HK2 HB2 HW4
  go_wp2_with fail
  refine (HW6.out _).mono ?_
  rintro e w4 ⟨rfl, hk4⟩
  have HK4 := hid (HK3.out.trans hk4)
  have HB4 := hid (HB3.out.kept hk4)
  clear hk4 HK3 HB3 HW6
  go_wp2_with fail
  refine (HCl.out _).mono ?_
  rintro e w5 ⟨rfl, hk5⟩
  have HK5 := hid (HK4.out.trans hk5)
  have HB5 := hid (HB4.out.kept hk5)
  clear hk5 HK4 HB4 HCl
  have HL5 := hid (LdAt.new w5 (N4 : Int) (N6 : Int) false 0 0 X)
  have HK6 := hid (HK5.out.alloc (.cells #[.int .i64 (N4 : Int), .int .i64 (N6 : Int), .bool false, .int .i64 0, .int .i64 0, .string X] 26))
  have HB6 := hid (HB5.out.kept ((Kept.refl (fun _ => False) w5).alloc (.cells #[.int .i64 (N4 : Int), .int .i64 (N6 : Int), .bool false, .int .i64 0, .int .i64 0, .string X] 26)))
  obtain ⟨y0, y1, y2, y3, y4, y5⟩ := HL5.out.cells
  obtain ⟨z0, z1, z2, z3, z4, z5⟩ := (HB6.out).cells
  have f0 := (HB6.out).soft 0
  have f1 := (HB6.out).soft 1
  have f2 := (HB6.out).soft 2
  have f3 := (HB6.out).soft 3
  have f4 := (HB6.out).soft 4
  have f5 := (HB6.out).soft 5
  go_wp2
  refine bodyPost_ret (v := .tuple #[.agg #[.int .i64 (N4 : Int), .int .i64 (N6 : Int), .bool false, .int .i64 0, .int .i64 0, .string X], .int .i64 0]) (by simp [results, Tryd.results11, go_sem, z0, z1, z2, z3, z4, z5]) rfl ⟨rfl, ?_⟩
  exact ((((((HK6.out).setCell (Or.inl (Nat.le_refl _)) _).setCell (Or.inl (Nat.le_refl _)) _).setCell (Or.inl (Nat.le_refl _)) _).setCell (Or.inl (Nat.le_refl _)) _).setCell (Or.inl (Nat.le_refl _)) _).setCell (Or.inl (Nat.le_refl _)) _

set_option maxHeartbeats 4000000 in
set_option maxRecDepth 100000 in
theorem mGetL_cut12 (b : ByteArray) (hb : b.size ≤ 140737488351232) (h : 8 ≤ b.size) (h1 : (numAt b 0 : Int) = 18434) (E : Int) (hE : E ≠ 0) (X : ByteArray) (hc : cutM b 12 = (X, E)) (w : World) :
    Calls Tryd.prog 11 #[.string b] w fun e w' => e = .returned (.tuple #[.agg #[.int .i64 0, .int .i64 0, .bool false, .int .i64 0, .int .i64 0, .string ⟨#[]⟩], .int .i64 E]) ∧ Kept (fun _ => False) w w' := by
  have hz : ¬ (b.size : Int) < 8 := by omega
  have HB := hid (LdAt.new w 0 0 false 0 0 ⟨#[]⟩)
  have HK := hid ((Kept.refl (fun _ => False) w).alloc (.cells #[.int .i64 0, .int .i64 0, .bool false, .int .i64 0, .int .i64 0, .string ⟨#[]⟩] 26))
  have HW := hid (fun W => mword_any b hb 0 (by omega) 0 rfl W)
  rw [h1] at HW
  have HC := hid (fun W => mcut_any b hb (by omega) 12 12 rfl W)
  rw [hc] at HC
  dsimp only at HC
  have hEz : (E != 0) = true := by rw [bne_iff_ne]; exact hE
  clear h hc hE h1
  go_enter Tryd.func11, Tryd.ntmps11
  go_upto_region 1 with fail
  generalize w.alloc (.cells #[.int .i64 0, .int .i64 0, .bool false, .int .i64 0, .int .i64 0, .string ⟨#[]⟩] 26) = W0 at *
  go_wp2_with fail
  refine (HW.out _).mono ?_
  rintro e w1 ⟨rfl, hk1⟩
  have HK1 := hid (HK.out.trans hk1)
  have HB1 := hid (HB.out.kept hk1)
  clear hk1 HK HB HW
  go_wp2_with fail
  refine (HC.out _).mono ?_
  rintro e w2 ⟨rfl, hk2⟩
  have HK2 := hid (HK1.out.trans hk2)
  have HB2 := hid (HB1.out.kept hk2)
  clear hk2 HK1 HB1 HC
  obtain ⟨z0, z1, z2, z3, z4, z5⟩ := (HB2.out).cells
  have f0 := (HB2.out).soft 0
  have f1 := (HB2.out).soft 1
  have f2 := (HB2.out).soft 2
  have f3 := (HB2.out).soft 3
  have f4 := (HB2.out).soft 4
  have f5 := (HB2.out).soft 5
  go_wp2
  refine bodyPost_ret (v := .tuple #[.agg #[.int .i64 0, .int .i64 0, .bool false, .int .i64 0, .int .i64 0, .string ⟨#[]⟩], .int .i64 E]) (by simp [results, Tryd.results11, go_sem, z0, z1, z2, z3, z4, z5]) rfl ⟨rfl, ?_⟩
  exact ((((((HK2.out).setCell (Or.inl (Nat.le_refl _)) _).setCell (Or.inl (Nat.le_refl _)) _).setCell (Or.inl (Nat.le_refl _)) _).setCell (Or.inl (Nat.le_refl _)) _).setCell (Or.inl (Nat.le_refl _)) _).setCell (Or.inl (Nat.le_refl _)) _

set_option maxHeartbeats 4000000 in
set_option maxRecDepth 100000 in
theorem mGetL_long12 (b : ByteArray) (hb : b.size ≤ 140737488351232) (h : 8 ≤ b.size) (h1 : (numAt b 0 : Int) = 18434) (X : ByteArray) (hX : 1460 < X.size) (hX2 : X.size ≤ 140737488351232) (hc : cutM b 12 = (X, 0)) (w : World) :
    Calls Tryd.prog 11 #[.string b] w fun e w' => e = .returned (.tuple #[.agg #[.int .i64 0, .int .i64 0, .bool false, .int .i64 0, .int .i64 0, .string ⟨#[]⟩], .int .i64 2]) ∧ Kept (fun _ => False) w w' := by
  have hz : ¬ (b.size : Int) < 8 := by omega
  have HB := hid (LdAt.new w 0 0 false 0 0 ⟨#[]⟩)
  have HK := hid ((Kept.refl (fun _ => False) w).alloc (.cells #[.int .i64 0, .int .i64 0, .bool false, .int .i64 0, .int .i64 0, .string ⟨#[]⟩] 26))
  have HW := hid (fun W => mword_any b hb 0 (by omega) 0 rfl W)
  rw [h1] at HW
  have HC := hid (fun W => mcut_any b hb (by omega) 12 12 rfl W)
  rw [hc] at HC
  dsimp only at HC
  have hXz : (1460 : Int) < (X.size : Int) := by omega
  clear h hc hX h1
  go_enter Tryd.func11, Tryd.ntmps11
  go_upto_region 1 with fail
  generalize w.alloc (.cells #[.int .i64 0, .int .i64 0, .bool false, .int .i64 0, .int .i64 0, .string ⟨#[]⟩] 26) = W0 at *
  go_wp2_with fail
  refine (HW.out _).mono ?_
  rintro e w1 ⟨rfl, hk1⟩
  have HK1 := hid (HK.out.trans hk1)
  have HB1 := hid (HB.out.kept hk1)
  clear hk1 HK HB HW
  go_wp2_with fail
  refine (HC.out _).mono ?_
  rintro e w2 ⟨rfl, hk2⟩
  have HK2 := hid (HK1.out.trans hk2)
  have HB2 := hid (HB1.out.kept hk2)
  clear hk2 HK1 HB1 HC
  obtain ⟨z0, z1, z2, z3, z4, z5⟩ := (HB2.out).cells
  have f0 := (HB2.out).soft 0
  have f1 := (HB2.out).soft 1
  have f2 := (HB2.out).soft 2
  have f3 := (HB2.out).soft 3
  have f4 := (HB2.out).soft 4
  have f5 := (HB2.out).soft 5
  go_wp2
  refine bodyPost_ret (v := .tuple #[.agg #[.int .i64 0, .int .i64 0, .bool false, .int .i64 0, .int .i64 0, .string ⟨#[]⟩], .int .i64 2]) (by simp [results, Tryd.results11, go_sem, z0, z1, z2, z3, z4, z5]) rfl ⟨rfl, ?_⟩
  exact ((((((HK2.out).setCell (Or.inl (Nat.le_refl _)) _).setCell (Or.inl (Nat.le_refl _)) _).setCell (Or.inl (Nat.le_refl _)) _).setCell (Or.inl (Nat.le_refl _)) _).setCell (Or.inl (Nat.le_refl _)) _).setCell (Or.inl (Nat.le_refl _)) _

set_option maxHeartbeats 4000000 in
set_option maxRecDepth 100000 in
theorem mGetL_ok12 (b : ByteArray) (hb : b.size ≤ 140737488351232) (h : 8 ≤ b.size) (h1 : (numAt b 0 : Int) = 18434) (h12 : 12 ≤ b.size) (X : ByteArray) (hX : X.size ≤ 1460) (hc : cutM b 12 = (X, 0)) (w : World) :
    Calls Tryd.prog 11 #[.string b] w fun e w' => e = .returned (.tuple #[.agg #[.int .i64 (numAt b 4 : Int), .int .i64 (numAt b 6 : Int), .bool true, .int .i64 (numAt b 8 : Int), .int .i64 (numAt b 10 : Int), .string X], .int .i64 0]) ∧ Kept (fun _ => False) w w' := by
  have hz : ¬ (b.size : Int) < 8 := by omega
  have HB := hid (LdAt.new w 0 0 false 0 0 ⟨#[]⟩)
  have HK := hid ((Kept.refl (fun _ => False) w).alloc (.cells #[.int .i64 0, .int .i64 0, .bool false, .int .i64 0, .int .i64 0, .string ⟨#[]⟩] 26))
  have HW := hid (fun W => mword_any b hb 0 (by omega) 0 rfl W)
  rw [h1] at HW
  have HC := hid (fun W => mcut_any b hb (by omega) 12 12 rfl W)
  rw [hc] at HC
  dsimp only at HC
  have hXz : ¬ (1460 : Int) < (X.size : Int) := by omega
  have HW4 := hid (fun W => mword_any b hb 4 (by omega) 4 rfl W)
  have HW6 := hid (fun W => mword_any b hb 6 (by omega) 6 rfl W)
  have HW8 := hid (fun W => mword_any b hb 8 (by omega) 8 rfl W)
  have HW10 := hid (fun W => mword_any b hb 10 (by omega) 10 rfl W)
  have HCl : Hid (∀ W, Calls Tryd.prog 28 #[.string X] W fun e w' => e = .returned (.string X) ∧ Kept (fun _ => False) W w') := fun W => (clone_any X W (by omega)).mono fun _ _ ⟨h1, h2⟩ => ⟨h1, kept_of h2⟩
  generalize numAt b 4 = N4 at *
  generalize numAt b 6 = N6 at *
  generalize numAt b 8 = N8 at *
  generalize numAt b 10 = N10 at *
  clear h hc hX h1
  go_enter Tryd.func11, Tryd.ntmps11
  go_upto_region 1 with fail
  generalize w.alloc (.cells #[.int .i64 0, .int .i64 0, .bool false, .int .i64 0, .int .i64 0, .string ⟨#[]⟩] 26) = W0 at *
  go_wp2_with fail
  refine (HW.out _).mono ?_
  rintro e w1 ⟨rfl, hk1⟩
  have HK1 := hid (HK.out.trans hk1)
  have HB1 := hid (HB.out.kept hk1)
  clear hk1 HK HB HW
  go_wp2_with fail
  refine (HC.out _).mono ?_
  rintro e w2 ⟨rfl, hk2⟩
  have HK2 := hid (HK1.out.trans hk2)
  have HB2 := hid (HB1.out.kept hk2)
  clear hk2 HK1 HB1 HC
  go_wp2_with fail
  refine (HW4.out _).mono ?_
  rintro e w3 ⟨rfl, hk3⟩
  have HK3 := hid (HK2.out.trans hk3)
  have HB3 := hid (HB2.out.kept hk3)
  clear hk3 HK2 HB2 HW4
  go_wp2_with fail
  refine (HW6.out _).mono ?_
  rintro e w4 ⟨rfl, hk4⟩
  have HK4 := hid (HK3.out.trans hk4)
  have HB4 := hid (HB3.out.kept hk4)
  clear hk4 HK3 HB3 HW6
  go_wp2_with fail
  refine (HCl.out _).mono ?_
  rintro e w5 ⟨rfl, hk5⟩
  have HK5 := hid (HK4.out.trans hk5)
  have HB5 := hid (HB4.out.kept hk5)
  clear hk5 HK4 HB4 HCl
  have HL6 := hid (LdAt.new w5 (N4 : Int) (N6 : Int) false 0 0 X)
  have HK6 := hid (HK5.out.alloc (.cells #[.int .i64 (N4 : Int), .int .i64 (N6 : Int), .bool false, .int .i64 0, .int .i64 0, .string X] 26))
  have HB6 := hid (HB5.out.kept ((Kept.refl (fun _ => False) w5).alloc (.cells #[.int .i64 (N4 : Int), .int .i64 (N6 : Int), .bool false, .int .i64 0, .int .i64 0, .string X] 26)))
  have HG := hid (And.intro HK5.out.size HB5.out.lt)
  clear HK5 HB5
  go_upto_region 15 with fail
  generalize w5.alloc (.cells #[.int .i64 (N4 : Int), .int .i64 (N6 : Int), .bool false, .int .i64 0, .int .i64 0, .string X] 26) = W6 at *
  generalize w5.heap.size = g at *
  go_wp2_with fail
  refine (HW8.out _).mono ?_
  rintro e w7 ⟨rfl, hk7⟩
  have HK7 := hid (HK6.out.trans hk7)
  have HB7 := hid (HB6.out.kept hk7)
  have HL7 := hid (HL6.out.kept hk7)
  clear hk7 HK6 HB6 HL6 HW8
  go_wp2_with fail
  refine (HW10.out _).mono ?_
  rintro e w8 ⟨rfl, hk8⟩
  have HK8 := hid (HK7.out.trans hk8)
  have HB8 := hid (HB7.out.kept hk8)
  have HL8 := hid (HL7.out.kept hk8)
  clear hk8 HK7 HB7 HL7 HW10
  obtain ⟨y0, y1, y2, y3, y4, y5⟩ := HL8.out.cells
  have k2 := HL8.out.soft 2
  have k3 := HL8.out.soft 3
  have k4 := HL8.out.soft 4
  have HLs := hid (LdAt.set3 HL8.out (N8 : Int) (N10 : Int))
  have hne : w.heap.size ≠ g := by have := HG.out.2; omega
  have HBs := hid (LdAt.other3 HB8.out hne (N8 : Int) (N10 : Int))
  have HKs := hid (((HK8.out.setCell (p := ⟨g, 2, none⟩) (Or.inl HG.out.1) (.bool true)).setCell (p := ⟨g, 3, none⟩) (Or.inl HG.out.1) (.int .i64 (N8 : Int))).setCell (p := ⟨g, 4, none⟩) (Or.inl HG.out.1) (.int .i64 (N10 : Int)))
  go_upto_region 17 with fail
  generalize ((w8.setCell ⟨g, 2, none⟩ (.bool true)).setCell ⟨g, 3, none⟩ (.int .i64 (N8 : Int))).setCell ⟨g, 4, none⟩ (.int .i64 (N10 : Int)) = W9 at *
  clear y0 y1 y2 y3 y4 y5
  obtain ⟨y0, y1, y2, y3, y4, y5⟩ := HLs.out.cells
  obtain ⟨z0, z1, z2, z3, z4, z5⟩ := (HBs.out).cells
  have f0 := (HBs.out).soft 0
  have f1 := (HBs.out).soft 1
  have f2 := (HBs.out).soft 2
  have f3 := (HBs.out).soft 3
  have f4 := (HBs.out).soft 4
  have f5 := (HBs.out).soft 5
  go_wp2
  refine bodyPost_ret (v := .tuple #[.agg #[.int .i64 (N4 : Int), .int .i64 (N6 : Int), .bool true, .int .i64 (N8 : Int), .int .i64 (N10 : Int), .string X], .int .i64 0]) (by simp [results, Tryd.results11, go_sem, z0, z1, z2, z3, z4, z5]) rfl ⟨rfl, ?_⟩
  exact ((((((HKs.out).setCell (Or.inl (Nat.le_refl _)) _).setCell (Or.inl (Nat.le_refl _)) _).setCell (Or.inl (Nat.le_refl _)) _).setCell (Or.inl (Nat.le_refl _)) _).setCell (Or.inl (Nat.le_refl _)) _).setCell (Or.inl (Nat.le_refl _)) _

theorem ldV0 (E : Int) : Value.tuple #[ldV (ld0, E).1, .int .i64 (ld0, E).2] = .tuple #[.agg #[.int .i64 0, .int .i64 0, .bool false, .int .i64 0, .int .i64 0, .string ⟨#[]⟩], .int .i64 E] := rfl
theorem mGetLoad_any (b : ByteArray) (hb : b.size ≤ 140737488351232) (w : World) :
    Calls Tryd.prog 11 #[.string b] w fun e w' => e = .returned (.tuple #[ldV (getLF b).1, .int .i64 (getLF b).2]) ∧ Kept (fun _ => False) w w' := by
  unfold getLF
  by_cases h8 : b.size < 8
  · rw [if_pos h8, ldV0]
    exact mGetL_short b h8 w
  rw [if_neg h8]
  have e := numAt_two b 0 (by omega)
  rw [Nat.zero_add] at e
  have l0 := byteN_lt b 0
  have l1 := byteN_lt b 1
  by_cases hf : (byteN b 0 ≠ 64 ∧ byteN b 0 ≠ 72) ∨ byteN b 1 ≠ 2
  · rw [if_pos hf, ldV0]
    exact mGetL_form b hb (by omega) (by rw [beq_eq_false_iff_ne]; omega) (by rw [beq_eq_false_iff_ne]; omega) w
  rw [if_neg hf]
  by_cases h2 : b.size < numAt b 2
  · rw [if_pos h2, ldV0]
    by_cases h64 : byteN b 0 = 64
    · exact mGetL_cut8 b hb (by omega) (by omega) 5 (by decide) ⟨#[]⟩ (by unfold cutM; rw [if_pos h2]) w
    · exact mGetL_cut12 b hb (by omega) (by omega) 5 (by decide) ⟨#[]⟩ (by unfold cutM; rw [if_pos h2]) w
  rw [if_neg h2]
  by_cases h72 : byteN b 0 = 72
  · have hh : headL b = 12 := by unfold headL; rw [if_pos h72]
    rw [hh]
    by_cases h3 : numAt b 2 < 12
    · rw [if_pos h3, ldV0]
      exact mGetL_cut12 b hb (by omega) (by omega) 4 (by decide) ⟨#[]⟩ (by unfold cutM; rw [if_neg h2, if_pos h3]) w
    rw [if_neg h3]
    have hc : cutM b 12 = (b.extract 12 (numAt b 2), 0) := by unfold cutM; rw [if_neg h2, if_neg h3]
    have hX : (b.extract 12 (numAt b 2)).size = numAt b 2 - 12 := by rw [ByteArray.size_extract]; omega
    by_cases h4 : 1460 < numAt b 2 - 12
    · rw [if_pos h4, ldV0]
      exact mGetL_long12 b hb (by omega) (by omega) _ (by omega) (by omega) hc w
    · rw [if_neg h4]
      unfold ldV
      dsimp only
      rw [if_pos h72, if_pos h72, decide_eq_true h72]
      exact mGetL_ok12 b hb (by omega) (by omega) (by omega) _ (by omega) hc w
  · have hh : headL b = 8 := by unfold headL; rw [if_neg h72]
    rw [hh]
    by_cases h3 : numAt b 2 < 8
    · rw [if_pos h3, ldV0]
      exact mGetL_cut8 b hb (by omega) (by omega) 4 (by decide) ⟨#[]⟩ (by unfold cutM; rw [if_neg h2, if_pos h3]) w
    rw [if_neg h3]
    have hc : cutM b 8 = (b.extract 8 (numAt b 2), 0) := by unfold cutM; rw [if_neg h2, if_neg h3]
    have hX : (b.extract 8 (numAt b 2)).size = numAt b 2 - 8 := by rw [ByteArray.size_extract]; omega
    by_cases h4 : 1460 < numAt b 2 - 8
    · rw [if_pos h4, ldV0]
      exact mGetL_long8 b hb (by omega) (by omega) _ (by omega) (by omega) hc w
    · rw [if_neg h4]
      unfold ldV
      dsimp only
      rw [if_neg h72, if_neg h72, decide_eq_false h72]
      exact mGetL_ok8 b hb (by omega) (by omega) _ (by omega) hc w

end Go.Proofs.YtkneogfeokckjaaDoor
