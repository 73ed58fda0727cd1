/- Messages between tunnels' ends and their bytes, control and data, as plain functions with no Go in them. · The contracts of package msg's small functions: word, cut, areWords, IsCtl. · The contract of package msg's lay: a head's words and what stands behind it, as bytes. · The boxes of messages, control and data; rows of ints of a call's own. · The contracts of msg.Put and msg.PutLoad: a message's bytes, or the error (P1901, P1902); what avp.Put comes to is a premise. · How a list of values among the arguments is read; and what Mask and Unmask come to by the tables. · Rows of values of a call's own: one; 'append' of a list that is read; how they are read. · The contract of msg.Make: a message's values (P1903). · The contract of msg.Needs (P1903): the types that must be there, in a row of the call's own. · The contracts of package msg's isKind, lengthOf and checkOne. · The contract of msg.Kind (P1903) · The contract of msg.Check: whether a message is whole (P1904). · The contract of alive, of the laws of chapter 19. · The contract of msg.Get: the control message of some bytes, or the error (P1901). (Written by gen_msget.py.) · The contracts of msg.PutLoad and msg.GetLoad: a data message's bytes, and the data message of some bytes, or the error (P1902). (Written by gen_msload.py.) · How messages among the arguments are read, control and data. · What was put is got, and what is cut is short, as plain facts with no Go in them. · What was put is got, of messages, as plain facts with no Go in them. · '==' and '!=' of two data messages that are the same, by Go's comparison; and what avp.Put comes to at every list. · A message that was made of a kind: plain facts. (Cut out of MsgKindsWalk.) -/
import Derived.Test.YtkneogfeokckjaaGreatDoorAvPlain
import Derived.Test.YtkneogfeokckjaaGreatDoorAvSmall
import Derived.Test.YtkneogfeokckjaaGreatDoorGRow
import Derived.Test.YtkneogfeokckjaaGreatDoorAvPut
import Derived.OwnWalkIn
import Derived.Deep.DeepCutAuto
import Derived.Deep.CutRange
import Derived.Deep.CutBlock
import Derived.Test.YtkneogfeokckjaaGreatDoorKept
import Derived.Test.YtkneogfeokckjaaGreatDoorTagKit
import Derived.Test.YtkneogfeokckjaaGreatDoorArgKit
import Derived.Test.YtkneogfeokckjaaGreatDoorAvGet
import Derived.Test.YtkneogfeokckjaaGreatDoorAvLen
import Derived.Test.YtkneogfeokckjaaGreatDoorAvEq
import Derived.Test.YtkneogfeokckjaaGreatDoorAvFind
import Derived.Test.YtkneogfeokckjaaGreatDoorMask
import Derived.Test.YtkneogfeokckjaaGreatDoorAvNum
import Derived.DeepKeys
import Derived.WalkKit
namespace Go.Proofs.YtkneogfeokckjaaGreatDoor
open Go.RowKit

/-- A control message. -/
structure Ct where
  tunnel : Int
  session : Int
  ns : Int
  nr : Int
  avps : List Av
def ct0 : Ct := ⟨0, 0, 0, 0, []⟩
/-- A data message. -/
structure Ld where
  tunnel : Int
  session : Int
  seq : Bool
  ns : Int
  nr : Int
  data : ByteArray
def ld0 : Ld := ⟨0, 0, false, 0, 0, ⟨#[]⟩⟩
def byteN (b : ByteArray) (k : Nat) : Nat := (b.data.toList.getD k 0).toNat
theorem byteN_lt (b : ByteArray) (k : Nat) : byteN b k < 256 := (b.data.toList.getD k 0).toNat_lt
def wordsB (a b c d : Int) : Bool := wordB a && (wordB b && (wordB c && wordB d))
/-- A control message's bytes, of its values' bytes. -/
def rawF (t s n r : Int) (x : ByteArray) : ByteArray := ⟨#[200, 2]⟩ ++ two (x.size + 12) ++ two t.toNat ++ two s.toNat ++ two n.toNat ++ two r.toNat ++ x
def putCF (c : Ct) (s : ByteArray) : ByteArray × Int :=
  if wordsB c.tunnel c.session c.ns c.nr = true then
    if (putAF c.avps s).2 = 0 then (rawF c.tunnel c.session c.ns c.nr (putAF c.avps s).1, 0) else (⟨#[]⟩, (putAF c.avps s).2)
  else (⟨#[]⟩, 1)
def getCF (b s : ByteArray) : Ct × Int :=
  if b.size < 12 then (ct0, 5)
  else if byteN b 0 ≠ 200 ∨ byteN b 1 ≠ 2 then (ct0, 4)
  else if b.size < numAt b 2 then (ct0, 5)
  else if numAt b 2 < 12 then (ct0, 4)
  else if (getAF (b.extract 12 (numAt b 2)) s).2 = 0 then (⟨numAt b 4, numAt b 6, numAt b 8, numAt b 10, (getAF (b.extract 12 (numAt b 2)) s).1⟩, 0)
  else (ct0, (getAF (b.extract 12 (numAt b 2)) s).2)
def putLF (l : Ld) : ByteArray × Int :=
  if wordsB l.tunnel l.session l.ns l.nr = true ∧ (l.seq = true ∨ (l.ns = 0 ∧ l.nr = 0)) then
    if 1460 < l.data.size then (⟨#[]⟩, 2)
    else if l.seq = true then (⟨#[72, 2]⟩ ++ two (l.data.size + 12) ++ two l.tunnel.toNat ++ two l.session.toNat ++ two l.ns.toNat ++ two l.nr.toNat ++ l.data, 0)
    else (⟨#[64, 2]⟩ ++ two (l.data.size + 8) ++ two l.tunnel.toNat ++ two l.session.toNat ++ l.data, 0)
  else (⟨#[]⟩, 1)
def headL (b : ByteArray) : Nat := if byteN b 0 = 72 then 12 else 8
def getLF (b : ByteArray) : Ld × Int :=
  if b.size < 8 then (ld0, 5)
  else if (byteN b 0 ≠ 64 ∧ byteN b 0 ≠ 72) ∨ byteN b 1 ≠ 2 then (ld0, 4)
  else if b.size < numAt b 2 then (ld0, 5)
  else if numAt b 2 < headL b then (ld0, 4)
  else if 1460 < numAt b 2 - headL b then (ld0, 2)
  else (⟨numAt b 4, numAt b 6, decide (byteN b 0 = 72), if byteN b 0 = 72 then numAt b 8 else 0, if byteN b 0 = 72 then numAt b 10 else 0, b.extract (headL b) (numAt b 2)⟩, 0)
def isCF (b : ByteArray) : Bool := decide (0 < b.size) && decide (128 ≤ byteN b 0)
def kindF (l : List Av) : Int := match l with
  | [] => -2
  | x :: _ => if x.vendor = 0 ∧ x.type = 0 ∧ x.hidden = false ∧ x.value.size = 2 then (numAt x.value 0 : Int) else -1
def needsF (k : Int) : List Int :=
  if k = 1 ∨ k = 2 then [2, 3, 7, 9] else if k = 4 then [9, 1] else if k = 10 ∨ k = 7 then [14, 15] else if k = 11 ∨ k = 8 then [14]
  else if k = 12 ∨ k = 9 then [24, 19] else if k = 14 then [1, 14] else if k = 15 then [34] else if k = 16 then [35] else []
end Go.Proofs.YtkneogfeokckjaaGreatDoor

namespace Go.Proofs.YtkneogfeokckjaaGreatDoor
open Go.RowKit

theorem numAt_two (b : ByteArray) (k : Nat) (h : k + 2 ≤ b.size) : numAt b k = byteN b k * 256 + byteN b (k + 1) := by
  unfold numAt byteN
  rw [num_two (by rw [List.length_drop, ← Lib.size_eq]; omega)]
  simp only [List.getD_eq_getElem?_getD, List.getElem?_drop, Nat.add_zero]

set_option maxHeartbeats 1000000 in
set_option maxRecDepth 100000 in
theorem mword_any (b : ByteArray) (hb : b.size ≤ 140737488351232) (k : Nat) (h : k + 2 ≤ b.size) (i : Int) (hi : i = (k : Int)) (w : World) :
    Calls Tryz.prog 39 #[.string b, .int .i64 i] w fun e w' => e = .returned (.int .i64 (numAt b k : Int)) ∧ Kept (fun _ => False) w w' := by
  subst hi
  rw [numAt_two b k h]
  unfold byteN
  have b0 := (b.data.toList.getD k 0).toNat_lt
  have b1 := (b.data.toList.getD (k + 1) 0).toNat_lt
  have x0 := index_at b k (by omega) (k : Int) rfl
  have x1 := index_at b (k + 1) (by omega) ((k : Int) + 1) (by omega)
  have hw : IntKind.i64.wrap ((k : Int) + 1) = (k : Int) + 1 := by rw [IntKind.wrap_i64]; omega
  generalize (b.data.toList.getD k 0).toNat = A at b0 x0
  generalize (b.data.toList.getD (k + 1) 0).toNat = B at b1 x1
  have hor := i64_or_byte A B (by omega) (by omega)
  clear h
  go_enter Tryz.func39, Tryz.ntmps39
  go_wp2
  go_region
  go_wp2
  go_ret
  exact ⟨ret_int (by omega), (Kept.refl _ _).drew⟩

/-- What stands behind a head, up to the length that it names. -/
def cutM (b : ByteArray) (head : Nat) : ByteArray × Int :=
  if b.size < numAt b 2 then (⟨#[]⟩, 5) else if numAt b 2 < head then (⟨#[]⟩, 4) else (b.extract head (numAt b 2), 0)

set_option maxHeartbeats 1000000 in
set_option maxRecDepth 100000 in
theorem mcut_any (b : ByteArray) (hb : b.size ≤ 140737488351232) (h4 : 4 ≤ b.size) (head : Nat) (i : Int) (hi : i = (head : Int)) (w : World) :
    Calls Tryz.prog 40 #[.string b, .int .i64 i] w fun e w' => e = .returned (.tuple #[.string (cutM b head).1, .int .i64 (cutM b head).2]) ∧ Kept (fun _ => False) w w' := by
  subst hi
  have HW := hid (fun W => mword_any b hb 2 (by omega) 2 rfl W)
  unfold cutM
  generalize numAt b 2 = N at *
  by_cases h1 : b.size < N
  · rw [if_pos h1]
    have h1z : (b.size : Int) < (N : Int) := by omega
    clear h1
    go_enter Tryz.func40, Tryz.ntmps40
    go_wp2_with fail
    refine (HW.out _).mono ?_
    rintro e w1 ⟨rfl, hk1⟩
    have HK := hid hk1
    clear hk1
    go_wp2
    go_ret2
    exact ⟨rfl, HK.out⟩
  · rw [if_neg h1]
    have h1z : ¬ (b.size : Int) < (N : Int) := by omega
    by_cases h2 : N < head
    · rw [if_pos h2]
      have h2z : (N : Int) < (head : Int) := by omega
      clear h1 h2
      go_enter Tryz.func40, Tryz.ntmps40
      go_wp2_with fail
      refine (HW.out _).mono ?_
      rintro e w1 ⟨rfl, hk1⟩
      have HK := hid hk1
      clear hk1
      go_wp2
      go_ret2
      exact ⟨rfl, HK.out⟩
    · rw [if_neg h2]
      have h2z : ¬ (N : Int) < (head : Int) := by omega
      have hm := mid_at b head N (by omega) (by omega) (head : Int) (N : Int) rfl rfl
      clear h1 h2
      go_enter Tryz.func40, Tryz.ntmps40
      go_wp2_with fail
      refine (HW.out _).mono ?_
      rintro e w1 ⟨rfl, hk1⟩
      have HK := hid hk1
      clear hk1
      go_wp2
      go_ret2
      exact ⟨rfl, HK.out⟩

set_option maxHeartbeats 1000000 in
set_option maxRecDepth 100000 in
theorem mIsCtl_any (b : ByteArray) (hb : b.size ≤ 140737488351232) (w : World) :
    Calls Tryz.prog 30 #[.string b] w fun e w' => e = .returned (.bool (isCF b)) ∧ Kept (fun _ => False) w w' := by
  by_cases h0 : b.size = 0
  · obtain rfl := str_nil b h0
    go_enter Tryz.func30, Tryz.ntmps30
    go_wp2
    go_ret
    exact ⟨rfl, Kept.refl _ _⟩
  · have hne : b.toList.isEmpty = false := by
      rw [ByteArray.toList_eq]
      cases e : b.data.toList with
      | nil => exact absurd (by rw [Lib.size_eq, e]; rfl) h0
      | cons x r => rfl
    have x0 := index_at b 0 (by omega) 0 rfl
    have b0 := (b.data.toList.getD 0 0).toNat_lt
    have HB : Hid (isCF b = decide (128 ≤ byteN b 0)) := by
      show isCF b = _
      simp [isCF]
      omega
    unfold byteN at HB
    generalize (b.data.toList.getD 0 0).toNat = A at *
    by_cases h1 : 128 ≤ A
    · have h1z : ((A : Int) / 128 == 1) = true := by rw [beq_iff_eq]; omega
      rw [decide_eq_true h1] at HB
      go_enter Tryz.func30, Tryz.ntmps30
      go_wp2
      go_ret
      exact ⟨by rw [HB.out]; rfl, Kept.refl _ _⟩
    · have h1z : ((A : Int) / 128 == 1) = false := by rw [beq_eq_false_iff_ne]; omega
      rw [decide_eq_false h1] at HB
      go_enter Tryz.func30, Tryz.ntmps30
      go_wp2
      go_ret
      exact ⟨by rw [HB.out]; rfl, Kept.refl _ _⟩

theorem all_drop {l : List Int} {j : Nat} {x : Int} (hx : l[j]? = some x) (h : (l.take j).all wordB = true) : (l.take (j + 1)).all wordB = wordB x := by
  rw [take_next hx, List.all_append, h]
  simp
theorem all_no {l : List Int} {j : Nat} {x : Int} (hx : l[j]? = some x) (h : wordB x = false) : l.all wordB = false := by
  rw [← Bool.not_eq_true, List.all_eq_true]
  intro ha
  rw [ha x (List.mem_of_getElem? hx)] at h
  cases h

set_option maxHeartbeats 2000000 in
set_option maxRecDepth 100000 in
theorem areWords_any (v : Value) (l : List Int) (w : World) (hv : IntsV w v l) (hl : l.length ≤ 1000) :
    Calls Tryz.prog 33 #[v] w fun e w' => e = .returned (.bool (l.all wordB)) ∧ Kept (fun _ => False) w w' := by
  obtain ⟨p, cap, rfl⟩ := RowsAt.slice hv
  obtain ⟨R, hR⟩ : ∃ R, R = l.all wordB := ⟨_, rfl⟩
  rw [← hR]
  have Hat : Hid (∀ (j : Nat) (x : Int), l[j]? = some x → ∀ W, Kept (fun _ => False) w W → ∃ g o, p = some ⟨g, o, none⟩ ∧ l.length ≤ cap ∧ W.cell? ⟨g, o + j, none⟩ = some (.int .i64 x)) := fun j x hj W hW => by
    obtain ⟨g, o, e, hc, hq⟩ := (RowsAt.kept0 hv hW).at hj
    have := hq 0 (.int .i64 x) rfl
    rw [Nat.mul_one, Nat.add_zero] at this
    exact ⟨g, o, e, hc, this⟩
  have HR := hid hR
  clear hv hR
  go_enter Tryz.func33, Tryz.ntmps33
  go_wp2
  go_loopw [7] (fun vi wr => ∃ (j : Nat), j ≤ l.length ∧ vi = .int .i64 (j : Int) ∧ Hid ((l.take j).all wordB = true ∧ Kept (fun _ => False) w wr)) (fun vi _ => l.length - (intOf vi).toNat)
  case atStart => exact ⟨0, Nat.zero_le _, rfl, rfl, Kept.refl _ _⟩
  case round =>
    obtain ⟨j, hj, rfl, HI⟩ := hrel
    by_cases hlt : j < l.length
    · have hltz : (j : Int) < (l.length : Int) := by omega
      obtain ⟨x, hx⟩ : ∃ x, l[j]? = some x := ⟨l[j], by simp [hlt]⟩
      obtain ⟨g, o, rfl, hcap, c0⟩ := Hat.out j x hx wr HI.out.2
      have hD := all_drop hx HI.out.1
      have hF := fun h => all_no (l := l) hx h
      have HK := hid HI.out.2
      clear HI hx
      by_cases h1 : x < 0
      · have hb : wordB x = false := by simp [wordB]; omega
        have HT := hid (hF hb)
        clear hD hF hb
        go_wp2
        go_ret
        exact ⟨by rw [HR.out, HT.out]; rfl, HK.out⟩
      · by_cases h2 : 65535 < x
        · have hb : wordB x = false := by simp [wordB]; omega
          have HT := hid (hF hb)
          clear hD hF hb
          go_wp2
          go_ret
          exact ⟨by rw [HR.out, HT.out]; rfl, HK.out⟩
        · have hb : wordB x = true := by simp [wordB]; omega
          rw [hb] at hD
          have HT := hid hD
          clear hD hF hb
          go_wp2
          exact ⟨⟨j + 1, hlt, by go_num, HT.out, HK.out⟩, by simp [intOf]; omega⟩
    · obtain rfl : j = l.length := by omega
      have hltz : ¬ (l.length : Int) < (l.length : Int) := by omega
      have hT := HI.out.1
      rw [List.take_length] at hT
      have HT := hid hT
      have HK := hid HI.out.2
      clear hT HI hlt
      go_wp2
      go_ret
      exact ⟨by rw [HR.out, HT.out]; rfl, HK.out⟩
end Go.Proofs.YtkneogfeokckjaaGreatDoor

namespace Go.Proofs.YtkneogfeokckjaaGreatDoor
open Go.RowKit

def nCells (z : Int) : List Value := [.int .i64 z]
theorem nCells_one : ∀ (z : Int) (u : Value), u ∈ nCells z → u.oneCell' = true := fun z u hu => by
  simp [nCells] at hu
  subst hu
  rfl
theorem encN : EncG nCells 1 := ⟨fun _ => rfl, nCells_one, by decide⟩
theorem msInfo3 : (Tryz.prog.info? 3).map (fun i => (i.zero, i.size, i.bytes)) = some (some (.int .i64 0), 1, 8) := by kernel_rfl
theorem tyN : TyG Tryz.prog 59 3 1 (.int .i64 0) 8 := ⟨Tryz.underlying59, msInfo3, rfl, by decide⟩
/-- The slice v holds the numbers of l, in a row of the call's own. -/
def OwnZ (w : World) (base : Nat) (v : Value) (l : List Int) : Prop := OwnG nCells 1 3 w base v l
theorem own_two_z (w : World) (a b : Int) (base : Nat) (hb : base ≤ w.heap.size) : OwnZ (w.alloc (.cells #[.int .i64 a, .int .i64 b] 3)) base (.slice (some ⟨w.heap.size, 0, none⟩) 2 2) [a, b] :=
  ⟨rfl, Or.inr ⟨w.heap.size, 2, _, rfl, hb, heap_alloc_new w _, Nat.le_refl _, by unfold maxLen; omega, rfl, rfl⟩⟩
theorem IntsV.src {w : World} {p : Option Addr} {n cap : Nat} {l : List Int} (h : IntsV w (.slice p n cap) l) (hne : l ≠ []) : ∃ ad, p = some ad ∧ ∀ (j : Nat) (u : Value), (rowG nCells l)[j]? = some u → w.cell? (ad.add j) = some u := by
  rcases h with ⟨rfl, _⟩ | ⟨g, o, cap', e, h1, h2, hc⟩
  · exact absurd rfl hne
  · simp only [Value.slice.injEq] at e
    obtain ⟨rfl, rfl, rfl⟩ := e
    refine ⟨_, rfl, fun j u hu => ?_⟩
    have hj := (List.getElem?_eq_some_iff.1 hu).1
    rw [encN.length] at hj
    obtain ⟨x, hx⟩ : ∃ x, l[j]? = some x := ⟨l[j]'(by omega), by simp⟩
    have e1 : (rowG nCells l)[j * 1 + 0]? = (nCells x)[0]? := encN.get hx 0 (by omega)
    rw [show j * 1 + 0 = j by omega, hu] at e1
    have := hc j x hx 0 u e1.symm
    rw [add_none]
    rw [show o + j * 1 + 0 = o + j by omega] at this
    exact this
/-- Words behind bytes. -/
def twosF : ByteArray → List Int → ByteArray
  | acc, [] => acc
  | acc, z :: r => twosF (acc ++ two z.toNat) r
def layF (f : Int) (x : ByteArray) (ws : List Int) : ByteArray := twosF ⟨#[]⟩ (f :: ((2 * (2 + ws.length) + x.size : Nat) : Int) :: ws) ++ x
/-- How far the loop has come. -/
structure LayI (w : World) (L : List Int) (R : ByteArray) (ro : Value) (j : Nat) (acc : ByteArray) (vb : Value) (W : World) : Prop where
  own : W.ownsRow w.heap.size 5 1 vb acc.size (Lib.byteCells acc.data.toList)
  row : OwnZ W w.heap.size ro L
  on : twosF acc (L.drop j) = R
  size : acc.size = 2 * j
  kept : Kept (fun _ => False) w W
theorem rows_apart {W : World} {base base' n m : Nat} {v u : Value} {xs ys : List Value} (h : W.ownsRow base 5 1 v n xs) (h' : W.ownsRow base' 3 1 u m ys) : ∀ i, u.ownBlock = some i → ¬ (v.ownBlock = some i) := fun i hi hv => owned_unlike h h' (by decide) i hv hi

set_option maxHeartbeats 4000000 in
set_option maxRecDepth 100000 in
theorem lay_any2 (f : Int) (hf : wordB f = true) (x : ByteArray) (hx : x.size ≤ 60000) (ws : List Int) (hws : ∀ z ∈ ws, wordB z = true) (hn : ws.length ≤ 8) (v : Value) (w : World) (hv : IntsV w v ws) :
    Calls Tryz.prog 35 #[.int .i64 f, .string x, v] w fun e w' => e = .returned (.string (layF f x ws)) ∧ Kept (fun _ => False) w w' := by
  obtain ⟨i0, hi, hz0, hz1, hz2⟩ := info_parts info5
  obtain ⟨p, cap, rfl⟩ := RowsAt.slice hv
  obtain ⟨Z, hZ⟩ : ∃ Z, Z = 2 * (2 + ws.length) + x.size := ⟨_, rfl⟩
  have hZ64 : wordB (Z : Int) = true := by simp [wordB]; omega
  obtain ⟨L, hL⟩ : ∃ L, L = f :: (Z : Int) :: ws := ⟨_, rfl⟩
  have hLw : Hid (∀ z ∈ L, wordB z = true) := by
    show ∀ z ∈ L, wordB z = true
    rw [hL]
    intro z hz
    simp only [List.mem_cons] at hz
    rcases hz with rfl | rfl | hz
    · exact hf
    · exact hZ64
    · exact hws z hz
  have hLn : L.length = 2 + ws.length := by rw [hL]; simp; omega
  obtain ⟨R, hR⟩ : ∃ R, R = twosF ⟨#[]⟩ L := ⟨_, rfl⟩
  have hE : layF f x ws = R ++ x := by rw [hR, hL, hZ]; rfl
  rw [hE]
  have HR := hid hR.symm
  have HL := hid hL
  have HV := hid hv
  have hZz : (2 : Int) * (2 + (ws.length : Int)) + (x.size : Int) = (Z : Int) := by omega
  have HZb : Hid (Z ≤ 65535 ∧ L.length = 2 + ws.length) := ⟨by omega, hLn⟩
  clear hR hL hE hv hf hws hZ64 hLn
  have HZ := hid hZ
  clear hZ
  go_enter Tryz.func35, Tryz.ntmps35
  go_wp2_with (at_make; refine wpList_make_own _ rfl _ _ 127 rfl w.heap.size 5 i0 (.int .u8 0) 1 Tryz.underlying127 hi hz0 hz1 .i64 .i64 _ Z rfl rfl ?m1 ?m2 ?m3 ?m4 ?_)
  case m1 => omega
  case m2 => rw [hz2]; omega
  case m3 => unfold maxLen; omega
  case m4 => exact Nat.le_refl _
  intro w1 hown1 hg1
  have K1 := hid ((Kept.refl (fun _ => False) w).grown hg1 (fun j hj => by cases hj))
  have hs1 := K1.out.size
  have O2 := own_two_z w1 f (Z : Int) w.heap.size hs1
  have B2 := hown1.alloc (.cells #[.int .i64 f, .int .i64 (Z : Int)] 3)
  have K2 := K1.out.alloc (.cells #[.int .i64 f, .int .i64 (Z : Int)] 3)
  have V2 := RowsAt.kept0 HV.out K2
  obtain ⟨v3, w3, happ, O3, K3⟩ := OwnG.appendList tyN encN O2 K2.size p cap ws (fun hne => IntsV.src V2 hne) (by simp; omega)
  have hbb := rows_apart B2 O2
  have B3 := owned_kept B2 K3 (fun i h h' => hbb i h' h)
  have K3' := K2.andThen K3 (fun i hi h => by
    have : w1.heap.size = i := by simpa [Value.ownBlock] using h
    omega)
  have HI0 : Hid (LayI w L R v3 0 ⟨#[]⟩ (.slice (some ⟨w.heap.size, 0, none⟩) 0 Z) w3) := ⟨B3, by rw [HL.out]; exact O3, HR.out, rfl, K3'⟩
  obtain ⟨p3, c3, rfl⟩ := slice_of O3
  have hl3 : ([f, (Z : Int)] ++ ws).length = L.length := by rw [HL.out]; rfl
  rw [hl3] at happ HI0
  obtain ⟨m, hm⟩ : ∃ m, m = L.length := ⟨_, rfl⟩
  rw [← hm] at happ HI0 HZb
  have HM := hid hm
  have hmb : m ≤ 10 := by have := HZb.out.2; omega
  have Happ := hid happ
  clear hown1 hg1 O2 B2 K2 V2 O3 K3 B3 K3' hbb K1 hs1 hl3 hm happ HV
  go_wp2_with (at_builtin; refine Lib.wpList_append_run _ rfl _ _ _ _ rfl _ _ rfl rfl _ _ (Happ.out _) ?_)
  clear Happ
  go_loopw [8, 26] (fun vb vi wr => ∃ (j : Nat) (acc : ByteArray), j ≤ m ∧ vi = .int .i64 (j : Int) ∧ Hid (LayI w L R (.slice p3 m c3) j acc vb wr)) (fun _ vi _ => m - (intOf vi).toNat)
  case atStart => exact ⟨0, ⟨#[]⟩, Nat.zero_le _, rfl, HI0.out⟩
  case round =>
    obtain ⟨j, acc, hj, rfl, HI⟩ := hrel
    clear HI0
    by_cases hlt : j < m
    · have hltz : (j : Int) < (m : Int) := by omega
      obtain ⟨z, hz⟩ : ∃ z, L[j]? = some z := ⟨L[j]'(by rw [← HM.out]; exact hlt), by simp⟩
      obtain ⟨a, rfl, ha⟩ := wordB_nat (hLw.out z (List.mem_of_getElem? hz))
      obtain ⟨g3, hp3, hn3, hb3, hc3, hm3, hcell, hf3⟩ := OwnG.at HI.out.row encN hz
      clear hn3 hb3 hm3 hf3
      rw [← HM.out] at hc3
      subst hp3
      have c0 := hcell 0 _ rfl
      rw [Nat.mul_one, Nat.add_zero] at c0
      have hT := HI.out.on
      rw [drop_at hz] at hT
      simp only [twosF, Int.toNat_natCast] at hT
      have HT := hid hT
      have HAC := hid HI.out.size
      have hac : acc.size ≤ 20 := by have := HI.out.size; omega
      have hown := HI.out.own
      have hs := HI.out.kept.size
      have HRow := hid HI.out.row
      have HK := hid HI.out.kept
      have HAp := hid (rows_apart HI.out.own HI.out.row)
      have ha2 : a ≤ 65535 := by omega
      have E1 : Hid ((a : Int) / 256 = ((a / 256 : Nat) : Int)) := by show _ = _; omega
      have E2 : Hid ((a : Int) % 256 = ((a % 256 : Nat) : Int)) := by show _ = _; omega
      clear hT hz HI hcell ha
      go_wp2_with (at_builtin; refine wpList_append_own _ rfl _ _ 127 rfl w.heap.size 5 i0 (.int .u8 0) 1 1 Tryz.underlying127 hi hz0 hz1 hz2 rfl (by decide) _ _ _ rfl (hown.alloc _) ⟨wr.heap.size, 0, none⟩ 2 2 [.int .u8 ((a : Int) / 256), .int .u8 ((a : Int) % 256)] rfl rfl ?c1 ?c2 ?c3 ?c4 ?c5 ?_)
      case c1 => exact cells_two_new _ _ _ _
      case c2 => intro u hu; simp at hu; rcases hu with rfl | rfl <;> rfl
      case c3 => unfold maxLen; omega
      case c4 => omega
      case c5 => simp; omega
      intro v4 w4 hown4' hg4 _
      have e1 := E1.out
      have e2 := E2.out
      clear E1 E2
      rw [e1, e2] at hown4'
      have R4 := (append_two (x := a / 256) (y := a % 256) (by omega) (by omega) hs hown hown4' (by rw [← e1, ← e2]; exact hg4)).1
      have K4 : Kept (fun i => u8.ownBlock = some i) wr w4 := ((Kept.refl _ wr).alloc _).grown hg4 (fun j hj => Or.inr hj)
      have HN : Hid (LayI w L R (.slice (some ⟨g3, 0, none⟩) m c3) (j + 1) (acc ++ two a) v4 w4) := by
        refine ⟨?_, OwnG.keptS HRow.out K4 (HAp.out), HT.out, by rw [ByteArray.size_append, two_size, HAC.out]; omega, kept_base HK.out (Nat.le_refl _) hown K4⟩
        rw [ByteArray.size_append, two_size, ByteArray.data_append, Array.toList_append]
        show World.ownsRow _ _ _ _ _ _ (Lib.byteCells (acc.data.toList ++ low a 2))
        rw [low_two, Nat.mod_eq_of_lt (show a / 256 < 256 by omega)]
        exact R4
      clear hown4' hg4 R4 K4 hown HK HRow HAp e1 e2 c0 HT
      go_wp2
      exact ⟨⟨j + 1, _, hlt, by go_num, HN.out⟩, by simp [intOf]; omega⟩
    · obtain rfl : j = m := by omega
      have hltz : ¬ (j : Int) < (j : Int) := by omega
      have hT := HI.out.on
      rw [HM.out, List.drop_length] at hT
      simp only [twosF] at hT
      subst hT
      have hs := HI.out.kept.size
      have hown := HI.out.own
      have HAC := hid HI.out.size
      have hac : acc.size ≤ 20 := by have := HI.out.size; omega
      have HK := hid HI.out.kept
      clear HI hlt hj
      go_wp2_with (at_builtin; refine Lib.wpList_append_own_string _ rfl _ _ 127 9 rfl w.heap.size 5 i0 Tryz.underlying127 Tryz.underlying9 hi hz0 hz1 hz2 _ _ _ rfl hown x rfl ?c1 ?c2 ?c3 ?_)
      case c1 => unfold maxLen; omega
      case c2 => omega
      intro v7 w7 hown7 hg7 _
      have R7 := append_str hs hown hown7 hg7
      have hk7 : Kept (fun i => u8.ownBlock = some i) wr w7 := (Kept.refl _ wr).grown hg7 (fun j hj => Or.inr hj)
      have HK7 := hid (kept_base HK.out (Nat.le_refl _) hown hk7)
      have hcv := put_conv R7.1
      have HE : Hid ((⟨(acc.data.toList ++ x.data.toList).toArray⟩ : ByteArray) = acc ++ x) := bytes_ext (by rw [ByteArray.data_append, Array.toList_append])
      obtain ⟨q, cp, rfl⟩ := slice_of hown7
      clear hown7 hg7 R7 hk7 HK hown
      go_wp2
      go_ret
      exact ⟨by rw [← HE.out]; rfl, HK7.out⟩
end Go.Proofs.YtkneogfeokckjaaGreatDoor

namespace Go.Proofs.YtkneogfeokckjaaGreatDoor
open Go.RowKit

/-- A control message's box. -/
def CtAt (W : World) (b : Nat) (t s n r : Int) (v : Value) : Prop := W.heap[b]? = some (.cells #[.int .i64 t, .int .i64 s, .int .i64 n, .int .i64 r, v] 24 (0, 0))
theorem CtAt.new (w : World) (t s n r : Int) (v : Value) : CtAt (w.alloc (.cells #[.int .i64 t, .int .i64 s, .int .i64 n, .int .i64 r, v] 24)) w.heap.size t s n r v := heap_alloc_new w _
theorem CtAt.kept {W W' : World} {b : Nat} {t s n r : Int} {v : Value} (h : CtAt W b t s n r v) (hk : Kept (fun _ => False) W W') : CtAt W' b t s n r v := (hk.block b (Array.getElem?_eq_some_iff.1 h).1 id).trans h
theorem CtAt.cells {W : World} {b : Nat} {t s n r : Int} {v : Value} (h : CtAt W b t s n r v) : W.cell? ⟨b, 0, none⟩ = some (.int .i64 t) ∧ W.cell? ⟨b, 1, none⟩ = some (.int .i64 s) ∧ W.cell? ⟨b, 2, none⟩ = some (.int .i64 n) ∧ W.cell? ⟨b, 3, none⟩ = some (.int .i64 r) ∧ W.cell? ⟨b, 4, none⟩ = some v := by
  unfold CtAt at h
  refine ⟨?_, ?_, ?_, ?_, ?_⟩ <;> simp [World.cell?, h]

/-- A data message's box. -/
def LdAt (W : World) (b : Nat) (t s : Int) (q : Bool) (n r : Int) (x : ByteArray) : Prop := W.heap[b]? = some (.cells #[.int .i64 t, .int .i64 s, .bool q, .int .i64 n, .int .i64 r, .string x] 26 (0, 0))
section
variable {W W' : World} {b : Nat} {t s : Int} {q : Bool} {n r : Int} {x : ByteArray}
theorem LdAt.new (w : World) (t s : Int) (q : Bool) (n r : Int) (x : ByteArray) : LdAt (w.alloc (.cells #[.int .i64 t, .int .i64 s, .bool q, .int .i64 n, .int .i64 r, .string x] 26)) w.heap.size t s q n r x := heap_alloc_new w _
theorem LdAt.kept (h : LdAt W b t s q n r x) (hk : Kept (fun _ => False) W W') : LdAt W' b t s q n r x := (hk.block b (Array.getElem?_eq_some_iff.1 h).1 id).trans h
theorem LdAt.cells (h : LdAt W b t s q n r x) : W.cell? ⟨b, 0, none⟩ = some (.int .i64 t) ∧ W.cell? ⟨b, 1, none⟩ = some (.int .i64 s) ∧ W.cell? ⟨b, 2, none⟩ = some (.bool q) ∧ W.cell? ⟨b, 3, none⟩ = some (.int .i64 n) ∧ W.cell? ⟨b, 4, none⟩ = some (.int .i64 r) ∧ W.cell? ⟨b, 5, none⟩ = some (.string x) := by
  unfold LdAt at h
  refine ⟨?_, ?_, ?_, ?_, ?_, ?_⟩ <;> simp [World.cell?, h]
end
theorem LdAt.soft {W : World} {b : Nat} {t s : Int} {q : Bool} {n r : Int} {x : ByteArray} (h : LdAt W b t s q n r x) : ∀ i, W.frozen? ⟨b, i, none⟩ = false := by
  unfold LdAt at h
  intro i
  simp [World.frozen?, h]

/-- The slice v holds the numbers of l, in a row of the call's own. -/
def OwnN (w : World) (base : Nat) (v : Value) (l : List Int) : Prop := w.ownsRow base 3 1 v l.length (l.map (fun i => Value.int .i64 i))
theorem OwnN.nil (w : World) (base : Nat) : OwnN w base (.slice none 0 0) [] := World.ownsRow_nil _ _ _ _
theorem ownN_new (w : World) (l : List Int) (hl : l.length ≤ 1000) : OwnN (w.alloc (.cells (l.map (fun i => Value.int .i64 i)).toArray 3)) w.heap.size (.slice (some ⟨w.heap.size, 0, none⟩) l.length l.length) l :=
  ⟨by simp, Or.inr ⟨w.heap.size, l.length, _, rfl, Nat.le_refl _, heap_alloc_new w _, Nat.le_refl _, by unfold maxLen; omega, by simp, by rw [Nat.mul_one]; exact List.take_of_length_le (by simp)⟩⟩
end Go.Proofs.YtkneogfeokckjaaGreatDoor

namespace Go.Proofs.YtkneogfeokckjaaGreatDoor
open Go.RowKit

theorem two_ctl : two 51202 = ⟨#[200, 2]⟩ := by rfl
theorem two_seq : two 18434 = ⟨#[72, 2]⟩ := by rfl
theorem two_load : two 16386 = ⟨#[64, 2]⟩ := by rfl
theorem layF_four (f t s n r : Int) (x : ByteArray) : layF f x [t, s, n, r] = two f.toNat ++ two (x.size + 12) ++ two t.toNat ++ two s.toNat ++ two n.toNat ++ two r.toNat ++ x := by
  simp only [layF, twosF, empty_app, Int.toNat_natCast, List.length_cons, List.length_nil]
  rw [show 2 * (2 + (0 + 1 + 1 + 1 + 1)) + x.size = x.size + 12 by omega]
theorem layF_two (f t s : Int) (x : ByteArray) : layF f x [t, s] = two f.toNat ++ two (x.size + 8) ++ two t.toNat ++ two s.toNat ++ x := by
  simp only [layF, twosF, empty_app, Int.toNat_natCast, List.length_cons, List.length_nil]
  rw [show 2 * (2 + (0 + 1 + 1)) + x.size = x.size + 8 by omega]
theorem raw_lay (t s n r : Int) (x : ByteArray) : layF 51202 x [t, s, n, r] = rawF t s n r x := by
  rw [layF_four, show (51202 : Int).toNat = 51202 from rfl, two_ctl]
  rfl
theorem row_four (w : World) (a b c d : Int) : IntsV (w.alloc (.cells #[.int .i64 a, .int .i64 b, .int .i64 c, .int .i64 d] 3)) (.slice (some ⟨w.heap.size, 0, none⟩) 4 4) [a, b, c, d] := by
  refine Or.inr ⟨w.heap.size, 0, 4, rfl, Nat.le_refl _, by unfold maxLen; omega, fun j y hj i u hu => ?_⟩
  have hi : i = 0 := by have := (List.getElem?_eq_some_iff.1 hu).1; simp at this; omega
  subst hi
  rw [Nat.mul_one, Nat.add_zero, Nat.zero_add, cell_of_row _ _ _ _ _ _ (heap_alloc_new w _)]
  match j, hj with
  | 0, hj | 1, hj | 2, hj | 3, hj => simp at hj; subst hj; exact hu
theorem row_two (w : World) (a b : Int) : IntsV (w.alloc (.cells #[.int .i64 a, .int .i64 b] 3)) (.slice (some ⟨w.heap.size, 0, none⟩) 2 2) [a, b] := by
  refine Or.inr ⟨w.heap.size, 0, 2, rfl, Nat.le_refl _, by unfold maxLen; omega, fun j y hj i u hu => ?_⟩
  have hi : i = 0 := by have := (List.getElem?_eq_some_iff.1 hu).1; simp at this; omega
  subst hi
  rw [Nat.mul_one, Nat.add_zero, Nat.zero_add, cell_of_row _ _ _ _ _ _ (heap_alloc_new w _)]
  match j, hj with
  | 0, hj | 1, hj => simp at hj; subst hj; exact hu
theorem all_four (a b c d : Int) : [a, b, c, d].all wordB = wordsB a b c d := by simp [wordsB]
/-- areWords of four, as a call has it. -/
theorem are_four (a b c d : Int) (w : World) : Calls Tryz.prog 33 #[.slice (some ⟨w.heap.size, 0, none⟩) 4 4] (w.alloc (.cells #[.int .i64 a, .int .i64 b, .int .i64 c, .int .i64 d] 3)) fun e w' => e = .returned (.bool (wordsB a b c d)) ∧ Kept (fun _ => False) w w' := by
  refine (areWords_any _ [a, b, c, d] _ (row_four w a b c d) (by simp)).mono ?_
  rintro e w1 ⟨rfl, hk⟩
  exact ⟨by rw [all_four], ((Kept.refl (fun _ => False) w).alloc _).trans hk⟩
theorem wordsB_all {a b c d : Int} (h : wordsB a b c d = true) : ∀ z ∈ [a, b, c, d], wordB z = true := by
  rw [← all_four, List.all_eq_true] at h
  exact h
theorem lay_four (f : Int) (hf : wordB f = true) (x : ByteArray) (hx : x.size ≤ 60000) (a b c d : Int) (h : wordsB a b c d = true) (w : World) : Calls Tryz.prog 35 #[.int .i64 f, .string x, .slice (some ⟨w.heap.size, 0, none⟩) 4 4] (w.alloc (.cells #[.int .i64 a, .int .i64 b, .int .i64 c, .int .i64 d] 3)) fun e w' => e = .returned (.string (layF f x [a, b, c, d])) ∧ Kept (fun _ => False) w w' := by
  refine (lay_any2 f hf x hx [a, b, c, d] (wordsB_all h) (by simp) _ _ (row_four w a b c d)).mono ?_
  rintro e w1 ⟨rfl, hk⟩
  exact ⟨rfl, ((Kept.refl (fun _ => False) w).alloc _).trans hk⟩
theorem lay_two (f : Int) (hf : wordB f = true) (x : ByteArray) (hx : x.size ≤ 60000) (a b : Int) (ha : wordB a = true) (hb : wordB b = true) (w : World) : Calls Tryz.prog 35 #[.int .i64 f, .string x, .slice (some ⟨w.heap.size, 0, none⟩) 2 2] (w.alloc (.cells #[.int .i64 a, .int .i64 b] 3)) fun e w' => e = .returned (.string (layF f x [a, b])) ∧ Kept (fun _ => False) w w' := by
  refine (lay_any2 f hf x hx [a, b] (fun z hz => by simp at hz; rcases hz with rfl | rfl <;> assumption) (by simp) _ _ (row_two w a b)).mono ?_
  rintro e w1 ⟨rfl, hk⟩
  exact ⟨rfl, ((Kept.refl (fun _ => False) w).alloc _).trans hk⟩

set_option maxHeartbeats 4000000 in
set_option maxRecDepth 100000 in
theorem mPut_any (t s n r : Int) (p : Option Addr) (k c : Nat) (x : ByteArray) (w : World) (PV : ByteArray) (E : Int) (hP : ∀ W, Kept (fun _ => False) w W → Calls Tryz.prog 34 #[.slice p k c, .string x] W fun e w' => e = .returned (.tuple #[.string PV, .int .i64 E]) ∧ Kept (fun _ => False) W w') (hV : PV.size ≤ 60000) :
    Calls Tryz.prog 7 #[.agg #[.int .i64 t, .int .i64 s, .int .i64 n, .int .i64 r, .slice p k c], .string x] w fun e w' => e = .returned (.tuple #[.string (if wordsB t s n r = true then if E = 0 then rawF t s n r PV else ⟨#[]⟩ else ⟨#[]⟩), .int .i64 (if wordsB t s n r = true then E else 1)]) ∧ Kept (fun _ => False) w w' := by
  have L0 := hid (CtAt.new w t s n r (.slice p k c))
  have KA := hid ((Kept.refl (fun _ => False) w).alloc (.cells #[.int .i64 t, .int .i64 s, .int .i64 n, .int .i64 r, .slice p k c] 24))
  have HW := hid (fun W => are_four t s n r W)
  have HP := hid hP
  obtain ⟨b0, b1, b2, b3, b4⟩ := L0.out.cells
  clear hP
  cases hw : wordsB t s n r with
  | false =>
    rw [hw] at HW
    rw [if_neg (by simp), if_neg (by simp)]
    clear hw
    go_enter Tryz.func7, Tryz.ntmps7
    go_upto_region 1 with fail
    generalize w.alloc (.cells #[.int .i64 t, .int .i64 s, .int .i64 n, .int .i64 r, .slice p k c] 24) = W0 at *
    go_wp2_with fail
    refine (HW.out _).mono ?_
    rintro e w1 ⟨rfl, hk⟩
    have K1 := hid (KA.out.trans hk)
    clear hk
    go_wp2
    go_ret2
    exact ⟨rfl, K1.out⟩
  | true =>
    rw [hw] at HW
    rw [if_pos rfl, if_pos rfl]
    by_cases he : E = 0
    · subst he
      rw [if_pos rfl, ← raw_lay]
      have HL := hid (fun W => lay_four 51202 (by decide) PV hV t s n r hw W)
      generalize layF 51202 PV [t, s, n, r] = R at *
      clear hw
      go_enter Tryz.func7, Tryz.ntmps7
      go_upto_region 1 with fail
      generalize w.alloc (.cells #[.int .i64 t, .int .i64 s, .int .i64 n, .int .i64 r, .slice p k c] 24) = W0 at *
      go_wp2_with fail
      refine (HW.out _).mono ?_
      rintro e w1 ⟨rfl, hk⟩
      have K1 := hid (KA.out.trans hk)
      have L1 := hid (L0.out.kept hk)
      clear hk b0 b1 b2 b3 b4 L0 KA HW
      obtain ⟨b0, b1, b2, b3, b4⟩ := L1.out.cells
      go_wp2_with fail
      refine (HP.out _ K1.out).mono ?_
      rintro e w2 ⟨rfl, hk⟩
      have K2 := hid (K1.out.trans hk)
      have L2 := hid (L1.out.kept hk)
      clear hk b0 b1 b2 b3 b4 L1 K1 HP
      obtain ⟨b0, b1, b2, b3, b4⟩ := L2.out.cells
      go_wp2_with fail
      refine (HL.out _).mono ?_
      rintro e w3 ⟨rfl, hk⟩
      have K3 := hid (K2.out.trans hk)
      clear hk
      go_wp2
      go_ret2
      exact ⟨rfl, K3.out⟩
    · rw [if_neg he]
      have hne : (E != 0) = true := by rw [bne_iff_ne]; exact he
      clear hw
      go_enter Tryz.func7, Tryz.ntmps7
      go_upto_region 1 with fail
      generalize w.alloc (.cells #[.int .i64 t, .int .i64 s, .int .i64 n, .int .i64 r, .slice p k c] 24) = W0 at *
      go_wp2_with fail
      refine (HW.out _).mono ?_
      rintro e w1 ⟨rfl, hk⟩
      have K1 := hid (KA.out.trans hk)
      have L1 := hid (L0.out.kept hk)
      clear hk b0 b1 b2 b3 b4 L0 KA HW
      obtain ⟨b0, b1, b2, b3, b4⟩ := L1.out.cells
      go_wp2_with fail
      refine (HP.out _ K1.out).mono ?_
      rintro e w2 ⟨rfl, hk⟩
      have K2 := hid (K1.out.trans hk)
      clear hk he
      go_wp2
      go_ret2
      exact ⟨rfl, K2.out⟩
end Go.Proofs.YtkneogfeokckjaaGreatDoor

namespace Go.Proofs.YtkneogfeokckjaaGreatDoor
open Go.ChangeShapes Go.WideShapes Go.ChangeAt Go.RowKit Go.Joins

/-- A list of values, with all that is known of it. -/
structure AvsIn (W : World) (v : Value) (l : List Av) : Prop where
  at_ : AvsAt W v l
  len : l.length ≤ maxLen
  good : ∀ x ∈ l, GoodA x
  size : ∀ x ∈ l, x.value.size ≤ 140737488351232
theorem AvsIn.kept {W W' : World} {v : Value} {l : List Av} (h : AvsIn W v l) (hk : Kept (fun _ => False) W W') : AvsIn W' v l := ⟨RowsAt.kept0 h.at_ hk, h.len, h.good, h.size⟩

section
variable {H : Type} {enc : TypeId × Value → H} {w : World} {base : Nat} {spare : Nat → Bool} {held : Bool}

def RAv (x : Av) (d : DataW H) : Prop := ((-9223372036854775808 ≤ x.vendor ∧ x.vendor ≤ 9223372036854775807) ∧ (-9223372036854775808 ≤ x.type ∧ x.type ≤ 9223372036854775807)) ∧ ∃ z0 z1 z2 z3, d = .agg [z0, z1, z2, z3, .lit (.string x.value.data.toList)]

set_option maxRecDepth 100000 in
theorem each_av (n : Nat) (cs : List Value) (y : DataW H × List MemPlace) (hlen : cs.length = 5) (ht : DataW.trod enc Tryz.prog w base spare held n 72 cs = some y) : ∃ x : Av, cs = avCells x ∧ RAv x y.1 := by
  obtain ⟨xs, k, hk, hxy, _, hxl, hf⟩ := DataW.trod_struct Tryz.underlying72 ht
  match xs, hxl, cs, hlen with
  | [y0, y1, y2, y3, y4], _, [v0, v1, v2, v3, v4], _ =>
    have g0 := hf 0 _ rfl
    have g1 := hf 1 _ rfl
    have g2 := hf 2 _ rfl
    have g3 := hf 3 _ rfl
    have g4 := hf 4 _ rfl
    simp [cellsBoolV, cellsIntV, cellsStrV] at g0 g1 g2 g3 g4
    obtain ⟨b0, e0, _⟩ := DataW.trod_bool Tryz.underlying4 g0
    obtain ⟨b1, e1, _⟩ := DataW.trod_bool Tryz.underlying4 g1
    obtain ⟨i2, e2, _, w2⟩ := DataW.trod_int Tryz.underlying3 g2
    obtain ⟨i3, e3, _, w3⟩ := DataW.trod_int Tryz.underlying3 g3
    obtain ⟨x, e4, hy4, _⟩ := DataW.trod_string Tryz.underlying9 g4
    simp at e0 e1 e2 e3 e4
    subst e0 e1 e2 e3 e4
    refine ⟨⟨b0, b1, i2, i3, x⟩, rfl, ⟨bounds_i64 w2, bounds_i64 w3⟩, y0.1, y1.1, y2.1, y3.1, ?_⟩
    rw [hxy]
    simp [hy4]
set_option maxRecDepth 100000 in
theorem open_avps {r : Reach} {b0 : Nat} {v : Value} {d : DataW H} {p : List MemPlace} (hv : Value.okWide Tryz.prog w r b0 22 v) (h : DataW.Trod enc Tryz.prog w base spare held 22 v d p) (hw : Wt Tryz.prog 22 d) :
    ∃ l : List Av, AvsIn w v l := by
  obtain ⟨a, len, cap, rfl⟩ := okWide_slice Tryz.underlying22 hv
  obtain ⟨fuel, hf⟩ := h
  have hf' : DataW.trod enc Tryz.prog w base spare held fuel 22 [.slice a len cap] = some (d, p) := by simpa [Value.cells] using hf
  obtain ⟨l, h1, h2, h3, _⟩ := open_rows avCells RAv Tryz.underlying22 cellsAvp av0 (fun _ => by simp [avCells]) each_av hf'
  have hs : ∀ x ∈ l, ((-9223372036854775808 ≤ x.vendor ∧ x.vendor ≤ 9223372036854775807) ∧ (-9223372036854775808 ≤ x.type ∧ x.type ≤ 9223372036854775807)) ∧ x.value.size ≤ 140737488351232 := fun x hx => by
    obtain ⟨y, ⟨hb, z0, z1, z2, z3, rfl⟩, hwy⟩ := wt_list hw Tryz.underlying22 h3 x hx
    exact ⟨hb, wt_string (wt_field (j := 4) (d := .lit (.string x.value.data.toList)) hwy Tryz.underlying72 rfl rfl)⟩
  exact ⟨l, h1, h2, fun x hx => ⟨(hs x hx).1.1, (hs x hx).1.2, by have := (hs x hx).2; unfold maxLen; omega⟩, fun x hx => (hs x hx).2⟩
end

theorem Tables.kept {w W : World} (h : Tables w) (hk : Kept (fun _ => False) w W) : Tables W :=
  ⟨fun i hi => (hk.cell (lt_of_cell (h.1 i hi)) id).trans (h.1 i hi), fun i hi => (hk.cell (lt_of_cell (h.2 i hi)) id).trans (h.2 i hi)⟩
theorem maskAt_of {w : World} (h : Tables w) : MaskAt w := fun k s v x hs hv hx W hk => (mask_any k s v x (by omega) (by omega) (by omega) W (h.kept hk)).mono fun _ _ ⟨h1, h2⟩ => ⟨h1, kept_of h2⟩
theorem unmAt_of {w : World} (h : Tables w) : UnmAt w := fun k s v x hs hv hx W hk => (unmask_any k s v x (by omega) (by omega) (by omega) W (h.kept hk)).mono fun _ _ ⟨h1, h2⟩ => ⟨h1, kept_of h2⟩
end Go.Proofs.YtkneogfeokckjaaGreatDoor

namespace Go.Proofs.YtkneogfeokckjaaGreatDoor
open Go.RowKit

theorem tyAv : TyG Tryz.prog 22 72 5 (.agg #[.bool false, .bool false, .int .i64 0, .int .i64 0, .string ⟨#[]⟩]) 40 := ⟨Tryz.underlying22, infoAv, rfl, by decide⟩
theorem own_one_av (w : World) (x : Av) (base : Nat) (hb : base ≤ w.heap.size) : OwnAv (w.alloc (.cells #[.bool x.must, .bool x.hidden, .int .i64 x.vendor, .int .i64 x.type, .string x.value] 72)) base (.slice (some ⟨w.heap.size, 0, none⟩) 1 1) [x] :=
  ⟨rfl, Or.inr ⟨w.heap.size, 1, _, rfl, hb, heap_alloc_new w _, Nat.le_refl _, by unfold maxLen; omega, rfl, rfl⟩⟩
theorem own_two_av (w : World) (x y : Av) (base : Nat) (hb : base ≤ w.heap.size) : OwnAv (w.alloc (.cells #[.bool x.must, .bool x.hidden, .int .i64 x.vendor, .int .i64 x.type, .string x.value, .bool y.must, .bool y.hidden, .int .i64 y.vendor, .int .i64 y.type, .string y.value] 72)) base (.slice (some ⟨w.heap.size, 0, none⟩) 2 2) [x, y] :=
  ⟨rfl, Or.inr ⟨w.heap.size, 2, _, rfl, hb, heap_alloc_new w _, Nat.le_refl _, by unfold maxLen; omega, rfl, rfl⟩⟩
theorem OwnAv.at {w : World} {base : Nat} {v : Value} {l : List Av} (h : OwnAv w base v l) : AvsAt w v l := by
  by_cases hl : l = []
  · subst hl
    obtain ⟨p, cap, rfl⟩ := slice_of h
    exact Or.inl ⟨rfl, p, cap, rfl⟩
  · obtain ⟨g, cap, rfl, hb, h1, h2, hc, _⟩ := OwnG.lies h hl
    refine Or.inr ⟨g, 0, cap, rfl, h1, h2, fun j x hj i u hu => ?_⟩
    have hlt := (List.getElem?_eq_some_iff.1 hj).1
    have hi : i < 5 := (List.getElem?_eq_some_iff.1 hu).1
    rw [Nat.zero_add, hc _ (by omega), encAv.get hj i hi]
    exact hu
theorem AvsAt.src {w : World} {p : Option Addr} {n cap : Nat} {l : List Av} (h : AvsAt w (.slice p n cap) l) (hne : l ≠ []) : ∃ ad, p = some ad ∧ ∀ (j : Nat) (u : Value), (rowG avCells l)[j]? = some u → w.cell? (ad.add j) = some u := by
  rcases h with ⟨rfl, _⟩ | ⟨g, o, cap', e, h1, h2, hc⟩
  · exact absurd rfl hne
  · simp only [Value.slice.injEq] at e
    obtain ⟨rfl, rfl, rfl⟩ := e
    refine ⟨_, rfl, fun j u hu => ?_⟩
    have hj := (List.getElem?_eq_some_iff.1 hu).1
    rw [encAv.length] at hj
    obtain ⟨x, hx⟩ : ∃ x, l[j / 5]? = some x := ⟨l[j / 5]'(by omega), by simp⟩
    have e1 : (rowG avCells l)[j / 5 * 5 + j % 5]? = (avCells x)[j % 5]? := encAv.get hx (j % 5) (by omega)
    rw [show j / 5 * 5 + j % 5 = j by omega, hu] at e1
    have := hc (j / 5) x hx (j % 5) u e1.symm
    rw [add_none]
    rw [show o + j / 5 * 5 + j % 5 = o + j by omega] at this
    exact this
/-- The first k of a list that is read. -/
theorem AvsAt.take {w : World} {p : Option Addr} {n cap : Nat} {l : List Av} (h : AvsAt w (.slice p n cap) l) {k : Nat} (hk : k ≤ l.length) : AvsAt w (.slice p k cap) (l.take k) := by
  rcases h with ⟨rfl, _⟩ | ⟨g, o, cap', e, h1, h2, hc⟩
  · simp at hk
    subst hk
    exact Or.inl ⟨rfl, p, cap, rfl⟩
  · simp only [Value.slice.injEq] at e
    obtain ⟨rfl, rfl, rfl⟩ := e
    refine Or.inr ⟨g, o, cap, by rw [List.length_take, Nat.min_eq_left hk], by rw [List.length_take]; omega, h2, fun j x hj => ?_⟩
    have hlt := (List.getElem?_eq_some_iff.1 hj).1
    rw [List.length_take] at hlt
    rw [List.getElem?_take_of_lt (by omega)] at hj
    exact hc j x hj
theorem avs_one (W : World) (x : Av) : AvsAt (W.alloc (.cells #[.bool x.must, .bool x.hidden, .int .i64 x.vendor, .int .i64 x.type, .string x.value] 72)) (.slice (some ⟨W.heap.size, 0, none⟩) 1 1) [x] := by
  refine Or.inr ⟨W.heap.size, 0, 1, rfl, Nat.le_refl _, by unfold maxLen; omega, fun j y hj i u hu => ?_⟩
  obtain rfl : j = 0 := by have := (List.getElem?_eq_some_iff.1 hj).1; simp at this; omega
  simp at hj
  subst hj
  rw [Nat.zero_mul, Nat.add_zero, Nat.zero_add, cell_of_row _ _ _ _ _ _ (heap_alloc_new W _)]
  show (avCells x).toArray[i]? = some u
  rw [List.getElem?_toArray]
  exact hu
end Go.Proofs.YtkneogfeokckjaaGreatDoor

namespace Go.Proofs.YtkneogfeokckjaaGreatDoor
open Go.RowKit

/-- The value that says a message's kind. -/
def headK (k : Int) : Av := ⟨true, false, 0, 0, numV k 2⟩

set_option maxHeartbeats 2000000 in
set_option maxRecDepth 100000 in
theorem make_any (k : Int) (u : Value) (l : List Av) (w : World) (hv : AvsAt w u l) (hl : l.length ≤ 900000) :
    Calls Tryz.prog 17 #[.int .i64 k, u] w fun e w' => ∃ v, e = .returned v ∧ OwnAv w' w.heap.size v (headK k :: l) ∧ Kept (fun _ => False) w w' := by
  obtain ⟨p, c, rfl⟩ := RowsAt.slice hv
  have HN := hid (fun W => num_any 0 k 2 ⟨by decide, by decide⟩ W)
  unfold avV at HN
  have HV := hid hv
  have HA : Hid (∀ w1, Kept (fun _ => False) w w1 → ∃ v' w', AppG Tryz.prog 22 (w1.alloc (.cells #[.bool true, .bool false, .int .i64 0, .int .i64 0, .string (numV k 2)] 72)) (.slice (some ⟨w1.heap.size, 0, none⟩) 1 1) (.slice p l.length c) v' w' ∧ OwnAv w' w.heap.size v' (headK k :: l) ∧ Kept (fun _ => False) w w') := fun w1 hk => by
    have K2 := hk.alloc (.cells #[.bool true, .bool false, .int .i64 0, .int .i64 0, .string (numV k 2)] 72)
    have O1 : OwnAv (w1.alloc (.cells #[.bool true, .bool false, .int .i64 0, .int .i64 0, .string (numV k 2)] 72)) w.heap.size (.slice (some ⟨w1.heap.size, 0, none⟩) 1 1) [headK k] := own_one_av w1 (headK k) w.heap.size hk.size
    have V2 := RowsAt.kept0 HV.out K2
    obtain ⟨v', w', h1, h2, h3⟩ := OwnG.appendList tyAv encAv O1 K2.size p c l (fun hne => AvsAt.src V2 hne) (by simp; omega)
    refine ⟨v', w', h1, h2, K2.andThen h3 (fun i hi h => ?_)⟩
    have : w1.heap.size = i := by simpa [Value.ownBlock] using h
    have := hk.size
    omega
  clear hv
  generalize numV k 2 = X at *
  go_enter Tryz.func17, Tryz.ntmps17
  go_wp2_with fail
  refine (HN.out _).mono ?_
  rintro e w1 ⟨rfl, hk⟩
  obtain ⟨v', w', happ, ho, hk'⟩ := HA.out w1 hk
  have Happ := hid happ
  have HO := hid ho
  have HK := hid hk'
  clear hk happ ho hk'
  go_wp2_with (at_builtin; refine Lib.wpList_append_run _ rfl _ _ _ _ rfl _ _ rfl rfl _ _ (Happ.out _) ?_)
  go_ret
  exact ⟨_, rfl, HO.out, HK.out⟩
end Go.Proofs.YtkneogfeokckjaaGreatDoor

namespace Go.Proofs.YtkneogfeokckjaaGreatDoor
open Go.RowKit

set_option maxHeartbeats 4000000 in
set_option maxRecDepth 100000 in
theorem mNeeds_any (k : Int) (w : World) :
    Calls Tryz.prog 16 #[.int .i64 k] w fun e w' => ∃ v, e = .returned v ∧ OwnN w' w.heap.size v (needsF k) ∧ Kept (fun _ => False) w w' := by
  by_cases h1 : k = 1
  · subst h1
    have H := hid (ownN_new w [2, 3, 7, 9] (by decide))
    rw [show needsF 1 = [2, 3, 7, 9] from by decide]
    go_enter Tryz.func16, Tryz.ntmps16
    go_wp2
    go_ret
    exact ⟨_, rfl, H.out, (Kept.refl _ w).alloc _⟩
  by_cases h2 : k = 2
  · subst h2
    have H := hid (ownN_new w [2, 3, 7, 9] (by decide))
    rw [show needsF 2 = [2, 3, 7, 9] from by decide]
    go_enter Tryz.func16, Tryz.ntmps16
    go_wp2
    go_ret
    exact ⟨_, rfl, H.out, (Kept.refl _ w).alloc _⟩
  by_cases h4 : k = 4
  · subst h4
    have H := hid (ownN_new w [9, 1] (by decide))
    rw [show needsF 4 = [9, 1] from by decide]
    go_enter Tryz.func16, Tryz.ntmps16
    go_wp2
    go_ret
    exact ⟨_, rfl, H.out, (Kept.refl _ w).alloc _⟩
  by_cases h10 : k = 10
  · subst h10
    have H := hid (ownN_new w [14, 15] (by decide))
    rw [show needsF 10 = [14, 15] from by decide]
    go_enter Tryz.func16, Tryz.ntmps16
    go_wp2
    go_ret
    exact ⟨_, rfl, H.out, (Kept.refl _ w).alloc _⟩
  by_cases h7 : k = 7
  · subst h7
    have H := hid (ownN_new w [14, 15] (by decide))
    rw [show needsF 7 = [14, 15] from by decide]
    go_enter Tryz.func16, Tryz.ntmps16
    go_wp2
    go_ret
    exact ⟨_, rfl, H.out, (Kept.refl _ w).alloc _⟩
  by_cases h11 : k = 11
  · subst h11
    have H := hid (ownN_new w [14] (by decide))
    rw [show needsF 11 = [14] from by decide]
    go_enter Tryz.func16, Tryz.ntmps16
    go_wp2
    go_ret
    exact ⟨_, rfl, H.out, (Kept.refl _ w).alloc _⟩
  by_cases h8 : k = 8
  · subst h8
    have H := hid (ownN_new w [14] (by decide))
    rw [show needsF 8 = [14] from by decide]
    go_enter Tryz.func16, Tryz.ntmps16
    go_wp2
    go_ret
    exact ⟨_, rfl, H.out, (Kept.refl _ w).alloc _⟩
  by_cases h12 : k = 12
  · subst h12
    have H := hid (ownN_new w [24, 19] (by decide))
    rw [show needsF 12 = [24, 19] from by decide]
    go_enter Tryz.func16, Tryz.ntmps16
    go_wp2
    go_ret
    exact ⟨_, rfl, H.out, (Kept.refl _ w).alloc _⟩
  by_cases h9 : k = 9
  · subst h9
    have H := hid (ownN_new w [24, 19] (by decide))
    rw [show needsF 9 = [24, 19] from by decide]
    go_enter Tryz.func16, Tryz.ntmps16
    go_wp2
    go_ret
    exact ⟨_, rfl, H.out, (Kept.refl _ w).alloc _⟩
  by_cases h14 : k = 14
  · subst h14
    have H := hid (ownN_new w [1, 14] (by decide))
    rw [show needsF 14 = [1, 14] from by decide]
    go_enter Tryz.func16, Tryz.ntmps16
    go_wp2
    go_ret
    exact ⟨_, rfl, H.out, (Kept.refl _ w).alloc _⟩
  by_cases h15 : k = 15
  · subst h15
    have H := hid (ownN_new w [34] (by decide))
    rw [show needsF 15 = [34] from by decide]
    go_enter Tryz.func16, Tryz.ntmps16
    go_wp2
    go_ret
    exact ⟨_, rfl, H.out, (Kept.refl _ w).alloc _⟩
  by_cases h16 : k = 16
  · subst h16
    have H := hid (ownN_new w [35] (by decide))
    rw [show needsF 16 = [35] from by decide]
    go_enter Tryz.func16, Tryz.ntmps16
    go_wp2
    go_ret
    exact ⟨_, rfl, H.out, (Kept.refl _ w).alloc _⟩
  have e : needsF k = [] := by simp [needsF, h1, h2, h4, h10, h7, h11, h8, h12, h9, h14, h15, h16]
  rw [e]
  clear e
  go_enter Tryz.func16, Tryz.ntmps16
  go_wp2
  go_ret
  exact ⟨_, rfl, OwnN.nil _ _, Kept.refl _ w⟩
end Go.Proofs.YtkneogfeokckjaaGreatDoor

namespace Go.Proofs.YtkneogfeokckjaaGreatDoor
open Go.RowKit

/-- Is there such a kind? -/
def kindB (k : Int) : Bool := decide (k = 3) || (decide (k = 6) || decide (needsF k ≠ []))
def lenOfF (x : Av) : Int := if x.vendor = 0 then lengthF x.type else -2
def checkOneF (x : Av) : Int :=
  if lenOfF x = -2 then (if x.must = true then 40 else 0)
  else if lenOfF x ≠ -1 ∧ lenOfF x ≠ (x.value.size : Int) then 4
  else if x.type = 0 then 4 else 0

set_option maxHeartbeats 2000000 in
set_option maxRecDepth 100000 in
theorem isKind_any (k : Int) (w : World) :
    Calls Tryz.prog 45 #[.int .i64 k] w fun e w' => e = .returned (.bool (kindB k)) ∧ Kept (fun _ => False) w w' := by
  by_cases h3 : k = 3
  · subst h3
    go_enter Tryz.func45, Tryz.ntmps45
    go_wp2
    go_ret
    exact ⟨rfl, Kept.refl _ _⟩
  by_cases h6 : k = 6
  · subst h6
    go_enter Tryz.func45, Tryz.ntmps45
    go_wp2
    go_ret
    exact ⟨rfl, Kept.refl _ _⟩
  have HN := hid (fun W => mNeeds_any k W)
  have e3 : (k == 3) = false := by rw [beq_eq_false_iff_ne]; exact h3
  have e6 : (k == 6) = false := by rw [beq_eq_false_iff_ne]; exact h6
  by_cases hn : needsF k = []
  · have HB : Hid (kindB k = false) := by show _ = _; simp [kindB, h3, h6, hn]
    rw [hn] at HN
    clear hn
    go_enter Tryz.func45, Tryz.ntmps45
    go_wp2_with fail
    refine (HN.out _).mono ?_
    rintro e w1 ⟨v, rfl, ho, hk⟩
    have HK := hid hk
    obtain ⟨p, c, rfl⟩ := slice_of ho
    clear hk ho
    go_wp2
    go_ret
    exact ⟨by rw [HB.out]; rfl, HK.out⟩
  · have HB : Hid (kindB k = true) := by show _ = _; simp [kindB, hn]
    have hpos := List.length_pos_iff.2 hn
    generalize needsF k = L at *
    have hd : decide (0 < L.length) = true := decide_eq_true hpos
    clear hn hpos
    go_enter Tryz.func45, Tryz.ntmps45
    go_wp2_with fail
    refine (HN.out _).mono ?_
    rintro e w1 ⟨v, rfl, ho, hk⟩
    have HK := hid hk
    obtain ⟨p, c, rfl⟩ := slice_of ho
    clear hk ho
    go_wp2
    go_ret
    exact ⟨by rw [HB.out]; rfl, HK.out⟩

set_option maxHeartbeats 2000000 in
set_option maxRecDepth 100000 in
theorem lengthOf_any (x : Av) (hx : GoodA x) (w : World) :
    Calls Tryz.prog 133 #[avV x] w fun e w' => e = .returned (.int .i64 (lenOfF x)) ∧ Kept (fun _ => False) w w' := by
  have HL := hid (fun W => length_any x.type hx.type W)
  have C0 := (AvAt.new w x).cells
  have HK := hid ((Kept.refl (fun _ => False) w).alloc (.cells #[.bool x.must, .bool x.hidden, .int .i64 x.vendor, .int .i64 x.type, .string x.value] 72))
  obtain ⟨c0, c1, c2, c3, c4⟩ := C0
  unfold lenOfF
  unfold avV
  by_cases h : x.vendor = 0
  · rw [if_pos h]
    generalize lengthF x.type = N at *
    have hv : (x.vendor != 0) = false := by rw [h]; rfl
    clear h hx
    go_enter Tryz.func133, Tryz.ntmps133
    go_wp2_with fail
    refine (HL.out _).mono ?_
    rintro e w1 ⟨rfl, hk⟩
    have HK1 := hid (HK.out.trans hk)
    clear hk
    go_wp2
    go_ret
    exact ⟨rfl, HK1.out⟩
  · rw [if_neg h]
    have hv : (x.vendor != 0) = true := by rw [bne_iff_ne]; exact h
    clear h hx
    go_enter Tryz.func133, Tryz.ntmps133
    go_wp2
    go_ret
    exact ⟨rfl, HK.out⟩

set_option maxHeartbeats 4000000 in
set_option maxRecDepth 100000 in
theorem checkOne_any (x : Av) (hx : GoodA x) (hz : x.value.size ≤ 140737488351232) (w : World) :
    Calls Tryz.prog 46 #[avV x] w fun e w' => e = .returned (.int .i64 (checkOneF x)) ∧ Kept (fun _ => False) w w' := by
  have HL := hid (fun W => lengthOf_any x hx W)
  clear hx
  unfold checkOneF
  unfold avV at HL ⊢
  generalize lenOfF x = N at *
  obtain ⟨mu, hi, V, T, X⟩ := x
  dsimp only at HL hz ⊢
  have HC := hid (AvAt.new w ⟨mu, hi, V, T, X⟩)
  have HK := hid ((Kept.refl (fun _ => False) w).alloc (.cells #[.bool mu, .bool hi, .int .i64 V, .int .i64 T, .string X] 72))
  dsimp only at HC
  obtain ⟨c0, c1, c2, c3, c4⟩ := HC.out.cells
  dsimp only at c0 c1 c2 c3 c4
  by_cases h2 : N = -2
  · subst h2
    rw [if_pos rfl]
    cases mu with
    | true =>
      rw [if_pos rfl]
      go_enter Tryz.func46, Tryz.ntmps46
      go_wp2_with fail
      refine (HL.out _).mono ?_
      rintro e w1 ⟨rfl, hk⟩
      have HK1 := hid (HK.out.trans hk)
      clear c0 c1 c2 c3 c4
      obtain ⟨c0, c1, c2, c3, c4⟩ := (HC.out.kept0 hk).cells
      dsimp only at c0 c1 c2 c3 c4
      clear hk
      go_wp2
      go_ret
      exact ⟨rfl, HK1.out⟩
    | false =>
      rw [if_neg (by simp)]
      go_enter Tryz.func46, Tryz.ntmps46
      go_wp2_with fail
      refine (HL.out _).mono ?_
      rintro e w1 ⟨rfl, hk⟩
      have HK1 := hid (HK.out.trans hk)
      clear c0 c1 c2 c3 c4
      obtain ⟨c0, c1, c2, c3, c4⟩ := (HC.out.kept0 hk).cells
      dsimp only at c0 c1 c2 c3 c4
      clear hk
      go_wp2
      go_ret
      exact ⟨rfl, HK1.out⟩
  · rw [if_neg h2]
    have e0 : (N == -2) = false := by rw [beq_eq_false_iff_ne]; exact h2
    by_cases h4 : N ≠ -1 ∧ N ≠ (X.size : Int)
    · rw [if_pos h4]
      have e1 : (N != -1) = true := by rw [bne_iff_ne]; exact h4.1
      have e2 : (N != (X.size : Int)) = true := by rw [bne_iff_ne]; exact h4.2
      clear h4 h2
      go_enter Tryz.func46, Tryz.ntmps46
      go_wp2_with fail
      refine (HL.out _).mono ?_
      rintro e w1 ⟨rfl, hk⟩
      have HK1 := hid (HK.out.trans hk)
      clear c0 c1 c2 c3 c4
      obtain ⟨c0, c1, c2, c3, c4⟩ := (HC.out.kept0 hk).cells
      dsimp only at c0 c1 c2 c3 c4
      clear hk
      go_wp2
      go_ret
      exact ⟨rfl, HK1.out⟩
    · rw [if_neg h4]
      have HT : Hid (((N != -1) = true ∧ (N != (X.size : Int)) = false) ∨ N = -1) := by
        by_cases h1 : N = -1
        · exact Or.inr h1
        · refine Or.inl ⟨by rw [bne_iff_ne]; exact h1, ?_⟩
          have : N = (X.size : Int) := Classical.byContradiction fun h => h4 ⟨h1, h⟩
          rw [this]
          simp
      clear h4
      by_cases ht : T = 0
      · rw [if_pos ht]
        subst ht
        rcases HT.out with ⟨e1, e2⟩ | h1
        · clear HT h2
          go_enter Tryz.func46, Tryz.ntmps46
          go_wp2_with fail
          refine (HL.out _).mono ?_
          rintro e w1 ⟨rfl, hk⟩
          have HK1 := hid (HK.out.trans hk)
          clear c0 c1 c2 c3 c4
          obtain ⟨c0, c1, c2, c3, c4⟩ := (HC.out.kept0 hk).cells
          dsimp only at c0 c1 c2 c3 c4
          clear hk
          go_wp2
          go_ret
          exact ⟨rfl, HK1.out⟩
        · subst h1
          clear HT h2 e0
          go_enter Tryz.func46, Tryz.ntmps46
          go_wp2_with fail
          refine (HL.out _).mono ?_
          rintro e w1 ⟨rfl, hk⟩
          have HK1 := hid (HK.out.trans hk)
          clear c0 c1 c2 c3 c4
          obtain ⟨c0, c1, c2, c3, c4⟩ := (HC.out.kept0 hk).cells
          dsimp only at c0 c1 c2 c3 c4
          clear hk
          go_wp2
          go_ret
          exact ⟨rfl, HK1.out⟩
      · rw [if_neg ht]
        have et : (T == 0) = false := by rw [beq_eq_false_iff_ne]; exact ht
        rcases HT.out with ⟨e1, e2⟩ | h1
        · clear HT h2
          go_enter Tryz.func46, Tryz.ntmps46
          go_wp2_with fail
          refine (HL.out _).mono ?_
          rintro e w1 ⟨rfl, hk⟩
          have HK1 := hid (HK.out.trans hk)
          clear c0 c1 c2 c3 c4
          obtain ⟨c0, c1, c2, c3, c4⟩ := (HC.out.kept0 hk).cells
          dsimp only at c0 c1 c2 c3 c4
          clear hk
          go_wp2
          go_ret
          exact ⟨rfl, HK1.out⟩
        · subst h1
          clear HT h2 e0
          go_enter Tryz.func46, Tryz.ntmps46
          go_wp2_with fail
          refine (HL.out _).mono ?_
          rintro e w1 ⟨rfl, hk⟩
          have HK1 := hid (HK.out.trans hk)
          clear c0 c1 c2 c3 c4
          obtain ⟨c0, c1, c2, c3, c4⟩ := (HC.out.kept0 hk).cells
          dsimp only at c0 c1 c2 c3 c4
          clear hk
          go_wp2
          go_ret
          exact ⟨rfl, HK1.out⟩
end Go.Proofs.YtkneogfeokckjaaGreatDoor

namespace Go.Proofs.YtkneogfeokckjaaGreatDoor
open Go.RowKit

set_option maxHeartbeats 4000000 in
set_option maxRecDepth 100000 in
theorem mKind_none (t s n r : Int) (p : Option Addr) (c : Nat) (w : World) :
    Calls Tryz.prog 12 #[.agg #[.int .i64 t, .int .i64 s, .int .i64 n, .int .i64 r, .slice p 0 c]] w fun e w' => e = .returned (.int .i64 (-2)) ∧ Kept (fun _ => False) w w' := by
  obtain ⟨b0, b1, b2, b3, b4⟩ := (CtAt.new w t s n r (.slice p 0 c)).cells
  go_enter Tryz.func12, Tryz.ntmps12
  go_wp2
  go_ret
  exact ⟨rfl, (Kept.refl _ w).alloc _⟩

set_option maxHeartbeats 4000000 in
set_option maxRecDepth 100000 in
theorem mKind_v (t s n r : Int) (g o len c : Nat) (m q : Bool) (V T : Int) (x : ByteArray) (hl : 0 < len) (_hc : len ≤ c) (w : World) (x0 : w.cell? ⟨g, o, none⟩ = some (.bool m)) (x1 : w.cell? ⟨g, o + 1, none⟩ = some (.bool q)) (x2 : w.cell? ⟨g, o + 2, none⟩ = some (.int .i64 V)) (x3 : w.cell? ⟨g, o + 3, none⟩ = some (.int .i64 T)) (x4 : w.cell? ⟨g, o + 4, none⟩ = some (.string x)) (h : V ≠ 0) :
    Calls Tryz.prog 12 #[.agg #[.int .i64 t, .int .i64 s, .int .i64 n, .int .i64 r, .slice (some ⟨g, o, none⟩) len c]] w fun e w' => e = .returned (.int .i64 (-1)) ∧ Kept (fun _ => False) w w' := by
  have K0 := (Kept.refl (fun _ => False) w).alloc (.cells #[.int .i64 t, .int .i64 s, .int .i64 n, .int .i64 r, .slice (some ⟨g, o, none⟩) len c] 24)
  obtain ⟨b0, b1, b2, b3, b4⟩ := (CtAt.new w t s n r (.slice (some ⟨g, o, none⟩) len c)).cells
  have y0 := (K0.cell (lt_of_cell x0) id).trans x0
  have y1 := (K0.cell (lt_of_cell x1) id).trans x1
  have y2 := (K0.cell (lt_of_cell x2) id).trans x2
  have y3 := (K0.cell (lt_of_cell x3) id).trans x3
  have y4 := (K0.cell (lt_of_cell x4) id).trans x4
  have hlz : (0 : Int) < (len : Int) := by omega
  have hl0 : ¬ (len : Int) = 0 := by omega
  have hv : (V != 0) = true := by
    rw [bne_iff_ne]
    omega
  clear h
  have HK := hid K0
  clear x0 x1 x2 x3 x4 K0
  go_enter Tryz.func12, Tryz.ntmps12
  go_wp2
  go_ret
  exact ⟨rfl, HK.out.alloc _⟩

set_option maxHeartbeats 4000000 in
set_option maxRecDepth 100000 in
theorem mKind_t (t s n r : Int) (g o len c : Nat) (m q : Bool) (V T : Int) (x : ByteArray) (hl : 0 < len) (_hc : len ≤ c) (w : World) (x0 : w.cell? ⟨g, o, none⟩ = some (.bool m)) (x1 : w.cell? ⟨g, o + 1, none⟩ = some (.bool q)) (x2 : w.cell? ⟨g, o + 2, none⟩ = some (.int .i64 V)) (x3 : w.cell? ⟨g, o + 3, none⟩ = some (.int .i64 T)) (x4 : w.cell? ⟨g, o + 4, none⟩ = some (.string x)) (hV : V = 0) (h : T ≠ 0) :
    Calls Tryz.prog 12 #[.agg #[.int .i64 t, .int .i64 s, .int .i64 n, .int .i64 r, .slice (some ⟨g, o, none⟩) len c]] w fun e w' => e = .returned (.int .i64 (-1)) ∧ Kept (fun _ => False) w w' := by
  have K0 := (Kept.refl (fun _ => False) w).alloc (.cells #[.int .i64 t, .int .i64 s, .int .i64 n, .int .i64 r, .slice (some ⟨g, o, none⟩) len c] 24)
  obtain ⟨b0, b1, b2, b3, b4⟩ := (CtAt.new w t s n r (.slice (some ⟨g, o, none⟩) len c)).cells
  have y0 := (K0.cell (lt_of_cell x0) id).trans x0
  have y1 := (K0.cell (lt_of_cell x1) id).trans x1
  have y2 := (K0.cell (lt_of_cell x2) id).trans x2
  have y3 := (K0.cell (lt_of_cell x3) id).trans x3
  have y4 := (K0.cell (lt_of_cell x4) id).trans x4
  have hlz : (0 : Int) < (len : Int) := by omega
  have hl0 : ¬ (len : Int) = 0 := by omega
  subst hV
  have hv : (T != 0) = true := by
    rw [bne_iff_ne]
    omega
  clear h
  have HK := hid K0
  clear x0 x1 x2 x3 x4 K0
  go_enter Tryz.func12, Tryz.ntmps12
  go_wp2
  go_ret
  exact ⟨rfl, HK.out.alloc _⟩

set_option maxHeartbeats 4000000 in
set_option maxRecDepth 100000 in
theorem mKind_h (t s n r : Int) (g o len c : Nat) (m q : Bool) (V T : Int) (x : ByteArray) (hl : 0 < len) (_hc : len ≤ c) (w : World) (x0 : w.cell? ⟨g, o, none⟩ = some (.bool m)) (x1 : w.cell? ⟨g, o + 1, none⟩ = some (.bool q)) (x2 : w.cell? ⟨g, o + 2, none⟩ = some (.int .i64 V)) (x3 : w.cell? ⟨g, o + 3, none⟩ = some (.int .i64 T)) (x4 : w.cell? ⟨g, o + 4, none⟩ = some (.string x)) (hV : V = 0) (hT : T = 0) (hq : q = true) :
    Calls Tryz.prog 12 #[.agg #[.int .i64 t, .int .i64 s, .int .i64 n, .int .i64 r, .slice (some ⟨g, o, none⟩) len c]] w fun e w' => e = .returned (.int .i64 (-1)) ∧ Kept (fun _ => False) w w' := by
  have K0 := (Kept.refl (fun _ => False) w).alloc (.cells #[.int .i64 t, .int .i64 s, .int .i64 n, .int .i64 r, .slice (some ⟨g, o, none⟩) len c] 24)
  obtain ⟨b0, b1, b2, b3, b4⟩ := (CtAt.new w t s n r (.slice (some ⟨g, o, none⟩) len c)).cells
  have y0 := (K0.cell (lt_of_cell x0) id).trans x0
  have y1 := (K0.cell (lt_of_cell x1) id).trans x1
  have y2 := (K0.cell (lt_of_cell x2) id).trans x2
  have y3 := (K0.cell (lt_of_cell x3) id).trans x3
  have y4 := (K0.cell (lt_of_cell x4) id).trans x4
  have hlz : (0 : Int) < (len : Int) := by omega
  have hl0 : ¬ (len : Int) = 0 := by omega
  subst hV hT hq
  have HK := hid K0
  clear x0 x1 x2 x3 x4 K0
  go_enter Tryz.func12, Tryz.ntmps12
  go_wp2
  go_ret
  exact ⟨rfl, HK.out.alloc _⟩

set_option maxHeartbeats 4000000 in
set_option maxRecDepth 100000 in
theorem mKind_s (t s n r : Int) (g o len c : Nat) (m q : Bool) (V T : Int) (x : ByteArray) (hl : 0 < len) (_hc : len ≤ c) (w : World) (x0 : w.cell? ⟨g, o, none⟩ = some (.bool m)) (x1 : w.cell? ⟨g, o + 1, none⟩ = some (.bool q)) (x2 : w.cell? ⟨g, o + 2, none⟩ = some (.int .i64 V)) (x3 : w.cell? ⟨g, o + 3, none⟩ = some (.int .i64 T)) (x4 : w.cell? ⟨g, o + 4, none⟩ = some (.string x)) (hV : V = 0) (hT : T = 0) (hq : q = false) (h : x.size ≠ 2) :
    Calls Tryz.prog 12 #[.agg #[.int .i64 t, .int .i64 s, .int .i64 n, .int .i64 r, .slice (some ⟨g, o, none⟩) len c]] w fun e w' => e = .returned (.int .i64 (-1)) ∧ Kept (fun _ => False) w w' := by
  have K0 := (Kept.refl (fun _ => False) w).alloc (.cells #[.int .i64 t, .int .i64 s, .int .i64 n, .int .i64 r, .slice (some ⟨g, o, none⟩) len c] 24)
  obtain ⟨b0, b1, b2, b3, b4⟩ := (CtAt.new w t s n r (.slice (some ⟨g, o, none⟩) len c)).cells
  have y0 := (K0.cell (lt_of_cell x0) id).trans x0
  have y1 := (K0.cell (lt_of_cell x1) id).trans x1
  have y2 := (K0.cell (lt_of_cell x2) id).trans x2
  have y3 := (K0.cell (lt_of_cell x3) id).trans x3
  have y4 := (K0.cell (lt_of_cell x4) id).trans x4
  have hlz : (0 : Int) < (len : Int) := by omega
  have hl0 : ¬ (len : Int) = 0 := by omega
  subst hV hT hq
  have hv : ((x.size : Int) != 2) = true := by
    rw [bne_iff_ne]
    omega
  clear h
  have HK := hid K0
  clear x0 x1 x2 x3 x4 K0
  go_enter Tryz.func12, Tryz.ntmps12
  go_wp2
  go_ret
  exact ⟨rfl, HK.out.alloc _⟩

set_option maxHeartbeats 4000000 in
set_option maxRecDepth 100000 in
theorem mKind_ok (t s n r : Int) (g o len c : Nat) (m q : Bool) (V T : Int) (x : ByteArray) (hl : 0 < len) (_hc : len ≤ c) (w : World) (x0 : w.cell? ⟨g, o, none⟩ = some (.bool m)) (x1 : w.cell? ⟨g, o + 1, none⟩ = some (.bool q)) (x2 : w.cell? ⟨g, o + 2, none⟩ = some (.int .i64 V)) (x3 : w.cell? ⟨g, o + 3, none⟩ = some (.int .i64 T)) (x4 : w.cell? ⟨g, o + 4, none⟩ = some (.string x)) (hV : V = 0) (hT : T = 0) (hq : q = false) (h : x.size = 2) :
    Calls Tryz.prog 12 #[.agg #[.int .i64 t, .int .i64 s, .int .i64 n, .int .i64 r, .slice (some ⟨g, o, none⟩) len c]] w fun e w' => e = .returned (.int .i64 (numAt x 0 : Int)) ∧ Kept (fun _ => False) w w' := by
  have K0 := (Kept.refl (fun _ => False) w).alloc (.cells #[.int .i64 t, .int .i64 s, .int .i64 n, .int .i64 r, .slice (some ⟨g, o, none⟩) len c] 24)
  obtain ⟨b0, b1, b2, b3, b4⟩ := (CtAt.new w t s n r (.slice (some ⟨g, o, none⟩) len c)).cells
  have y0 := (K0.cell (lt_of_cell x0) id).trans x0
  have y1 := (K0.cell (lt_of_cell x1) id).trans x1
  have y2 := (K0.cell (lt_of_cell x2) id).trans x2
  have y3 := (K0.cell (lt_of_cell x3) id).trans x3
  have y4 := (K0.cell (lt_of_cell x4) id).trans x4
  have hlz : (0 : Int) < (len : Int) := by omega
  have hl0 : ¬ (len : Int) = 0 := by omega
  subst hV hT hq
  have hz : ((x.size : Int) != 2) = false := by
    simp [h]
  have HN := hid (fun W => mword_any x (by omega) 0 (by omega) 0 rfl W)
  clear h
  have HK := hid K0
  clear x0 x1 x2 x3 x4 K0
  go_enter Tryz.func12, Tryz.ntmps12
  go_wp2_with fail
  refine (HN.out _).mono ?_
  rintro e w1 ⟨rfl, hk⟩
  have HK1 := hid ((HK.out.alloc _).trans hk)
  clear hk
  go_wp2
  go_ret
  exact ⟨rfl, HK1.out⟩

/-- Of a list whose first value lies there. -/
theorem mKind_some (t s n r : Int) (g o len c : Nat) (x : Av) (l : List Av) (hl : 0 < len) (hc : len ≤ c) (w : World) (x0 : w.cell? ⟨g, o, none⟩ = some (.bool x.must)) (x1 : w.cell? ⟨g, o + 1, none⟩ = some (.bool x.hidden)) (x2 : w.cell? ⟨g, o + 2, none⟩ = some (.int .i64 x.vendor)) (x3 : w.cell? ⟨g, o + 3, none⟩ = some (.int .i64 x.type)) (x4 : w.cell? ⟨g, o + 4, none⟩ = some (.string x.value)) :
    Calls Tryz.prog 12 #[.agg #[.int .i64 t, .int .i64 s, .int .i64 n, .int .i64 r, .slice (some ⟨g, o, none⟩) len c]] w fun e w' => e = .returned (.int .i64 (kindF (x :: l))) ∧ Kept (fun _ => False) w w' := by
  rw [show kindF (x :: l) = (if x.vendor = 0 ∧ x.type = 0 ∧ x.hidden = false ∧ x.value.size = 2 then (numAt x.value 0 : Int) else -1) from rfl]
  by_cases hV : x.vendor = 0
  · by_cases hT : x.type = 0
    · cases hq : x.hidden with
      | true =>
        rw [if_neg (by simp)]
        exact mKind_h t s n r g o len c x.must x.hidden x.vendor x.type x.value hl hc w x0 x1 x2 x3 x4 hV hT hq
      | false =>
        by_cases hs : x.value.size = 2
        · rw [if_pos ⟨hV, hT, rfl, hs⟩]
          exact mKind_ok t s n r g o len c x.must x.hidden x.vendor x.type x.value hl hc w x0 x1 x2 x3 x4 hV hT hq hs
        · rw [if_neg (fun h => hs h.2.2.2)]
          exact mKind_s t s n r g o len c x.must x.hidden x.vendor x.type x.value hl hc w x0 x1 x2 x3 x4 hV hT hq hs
    · rw [if_neg (fun h => hT h.2.1)]
      exact mKind_t t s n r g o len c x.must x.hidden x.vendor x.type x.value hl hc w x0 x1 x2 x3 x4 hV hT
  · rw [if_neg (fun h => hV h.1)]
    exact mKind_v t s n r g o len c x.must x.hidden x.vendor x.type x.value hl hc w x0 x1 x2 x3 x4 hV

theorem mKind_any (t s n r : Int) (u : Value) (l : List Av) (w : World) (hv : AvsAt w u l) :
    Calls Tryz.prog 12 #[.agg #[.int .i64 t, .int .i64 s, .int .i64 n, .int .i64 r, u]] w fun e w' => e = .returned (.int .i64 (kindF l)) ∧ Kept (fun _ => False) w w' := by
  obtain ⟨p, c, rfl⟩ := RowsAt.slice hv
  cases l with
  | nil => exact mKind_none t s n r p c w
  | cons x m =>
    obtain ⟨g, o, rfl, hc, h0, h1, h2, h3, h4⟩ := AvsAt.at5 hv (j := 0) (x := x) rfl
    rw [Nat.zero_mul, Nat.add_zero] at h0 h1 h2 h3 h4
    exact mKind_some t s n r g o (x :: m).length c x m (Nat.succ_pos _) hc w h0 h1 h2 h3 h4
end Go.Proofs.YtkneogfeokckjaaGreatDoor

namespace Go.Proofs.YtkneogfeokckjaaGreatDoor
open Go.RowKit

/-- The first fault of values, or 0. -/
def checkRest : List Av → Int
  | [] => 0
  | x :: r => if checkOneF x = 0 then checkRest r else checkOneF x
def needB (l : List Av) (ks : List Int) : Bool := ks.all (fun k => (findA l k).isSome)
def checkF (l : List Av) : Int :=
  if l = [] then 0
  else if kindB (kindF l) = true then
    if checkRest (l.drop 1) = 0 then (if needB l (needsF (kindF l)) = true then 0 else 40) else checkRest (l.drop 1)
  else 40
theorem checkRest_at {l : List Av} {j : Nat} {x : Av} (hx : l[j]? = some x) : checkRest (l.drop j) = if checkOneF x = 0 then checkRest (l.drop (j + 1)) else checkOneF x := by
  rw [drop_at hx]
  rfl
theorem needB_no {l : List Av} {ks : List Int} {j : Nat} {k : Int} (hk : ks[j]? = some k) (h : (findA l k).isSome = false) : needB l ks = false := by
  rw [← Bool.not_eq_true]
  unfold needB
  rw [List.all_eq_true]
  intro ha
  rw [ha k (List.mem_of_getElem? hk)] at h
  cases h
theorem needB_on {l : List Av} {ks : List Int} {j : Nat} {k : Int} (hk : ks[j]? = some k) (h : (findA l k).isSome = true) (hj : needB l (ks.take j) = true) : needB l (ks.take (j + 1)) = true := by
  unfold needB at hj ⊢
  rw [take_next hk, List.all_append, hj]
  simp [h]

theorem needsF_le (k : Int) : (needsF k).length ≤ 4 := by
  unfold needsF
  split
  · decide
  split
  · decide
  split
  · decide
  split
  · decide
  split
  · decide
  split
  · decide
  split
  · decide
  split
  · decide
  · decide
theorem rowN (l : List Int) : rowG nCells l = l.map (fun i => Value.int .i64 i) := by
  induction l with
  | nil => rfl
  | cons a l ih => rw [rowG_cons, ih]; rfl
theorem OwnN.z {w : World} {base : Nat} {v : Value} {l : List Int} (h : OwnN w base v l) : OwnZ w base v l := by
  show World.ownsRow _ _ _ _ _ _ _
  rw [rowN]
  exact h

set_option maxHeartbeats 8000000 in
set_option maxRecDepth 100000 in
theorem check_any (t s n r : Int) (u : Value) (l : List Av) (w : World) (hv : AvsAt w u l) (hl : l.length ≤ 1000000) (hg : ∀ x ∈ l, GoodA x) (hsz : ∀ x ∈ l, x.value.size ≤ 140737488351232) :
    Calls Tryz.prog 14 #[.agg #[.int .i64 t, .int .i64 s, .int .i64 n, .int .i64 r, u]] w fun e w' => e = .returned (.int .i64 (checkF l)) ∧ Kept (fun _ => False) w w' := by
  obtain ⟨p, cap, rfl⟩ := RowsAt.slice hv
  have HB := hid (CtAt.new w t s n r (.slice p l.length cap))
  have HK := hid ((Kept.refl (fun _ => False) w).alloc (.cells #[.int .i64 t, .int .i64 s, .int .i64 n, .int .i64 r, .slice p l.length cap] 24))
  obtain ⟨b0, b1, b2, b3, b4⟩ := HB.out.cells
  by_cases he : l = []
  · subst he
    go_enter Tryz.func14, Tryz.ntmps14
    go_wp2
    go_ret
    exact ⟨rfl, HK.out⟩
  have hpos : 0 < l.length := List.length_pos_iff.2 he
  have HKi := hid (fun W (h : Kept (fun _ => False) w W) => mKind_any t s n r (.slice p l.length cap) l W (RowsAt.kept0 hv h))
  have HIs := hid (fun W => isKind_any (kindF l) W)
  have HNe := hid (fun W => mNeeds_any (kindF l) W)
  have HFi := hid (fun k W (h : Kept (fun _ => False) w W) => findA_any (.slice p l.length cap) l k W (RowsAt.kept0 hv h) hl hsz)
  have HOne := hid (fun (x : Av) (hx : x ∈ l) W => checkOne_any x (hg x hx) (hsz x hx) W)
  have Hat : Hid (∀ (j : Nat) (x : Av), l[j]? = some x → ∀ W, Kept (fun _ => False) w W → ∃ g o, p = some ⟨g, o, none⟩ ∧ l.length ≤ cap ∧ W.cell? ⟨g, o + j * 5, none⟩ = some (.bool x.must) ∧ W.cell? ⟨g, o + j * 5 + 1, none⟩ = some (.bool x.hidden) ∧ W.cell? ⟨g, o + j * 5 + 2, none⟩ = some (.int .i64 x.vendor) ∧ W.cell? ⟨g, o + j * 5 + 3, none⟩ = some (.int .i64 x.type) ∧ W.cell? ⟨g, o + j * 5 + 4, none⟩ = some (.string x.value)) :=
    fun j x hj W hW => AvsAt.at5 (RowsAt.kept0 hv hW) hj
  obtain ⟨Q, hQ⟩ : ∃ Q, Q = checkF l := ⟨_, rfl⟩
  have HQ : Hid (Q = if kindB (kindF l) = true then if checkRest (l.drop 1) = 0 then (if needB l (needsF (kindF l)) = true then 0 else 40) else checkRest (l.drop 1) else 40) := by
    show _ = _
    rw [hQ]
    unfold checkF
    rw [if_neg he]
  rw [← hQ]
  have hl0 : ((l.length : Int) == 0) = false := by rw [beq_eq_false_iff_ne]; omega
  clear hv hg hsz hQ he
  generalize kindF l = K at *
  cases hkb : kindB K with
  | false =>
    rw [hkb] at HIs HQ
    clear hkb
    go_enter Tryz.func14, Tryz.ntmps14
    go_wp2_with fail
    refine (HKi.out _ HK.out).mono ?_
    rintro e w1 ⟨rfl, hk1⟩
    have HK1 := hid (HK.out.trans hk1)
    clear b0 b1 b2 b3 b4
    obtain ⟨b0, b1, b2, b3, b4⟩ := (HB.out.kept hk1).cells
    clear hk1
    go_wp2_with fail
    refine (HIs.out _).mono ?_
    rintro e w2 ⟨rfl, hk2⟩
    have HK2 := hid (HK1.out.trans hk2)
    clear hk2
    go_wp2
    go_ret
    exact ⟨by rw [HQ.out]; rfl, HK2.out⟩
  | true =>
    rw [hkb] at HIs HQ
    clear hkb
    go_enter Tryz.func14, Tryz.ntmps14
    go_wp2_with fail
    refine (HKi.out _ HK.out).mono ?_
    rintro e w1 ⟨rfl, hk1⟩
    have HK1 := hid (HK.out.trans hk1)
    have HB1 := hid (HB.out.kept hk1)
    clear hk1 HKi
    go_wp2_with fail
    refine (HIs.out _).mono ?_
    rintro e w2 ⟨rfl, hk2⟩
    have HK2 := hid (HK1.out.trans hk2)
    have HB2 := hid (HB1.out.kept hk2)
    clear hk2 HK1 HB1 HB HIs HK b0 b1 b2 b3 b4
    obtain ⟨b0, b1, b2, b3, b4⟩ := HB2.out.cells
    obtain ⟨x0, hx0⟩ : ∃ x, l[0]? = some x := ⟨l[0], by simp [hpos]⟩
    obtain ⟨g, o, rfl, hcap, _⟩ := Hat.out 0 x0 hx0 w2 HK2.out
    clear hx0
    have h1z : (1 : Int) ≤ (l.length : Int) := by omega
    obtain ⟨M, hM⟩ : ∃ M, M = l.length - 1 := ⟨_, rfl⟩
    have HM := hid (show l.length = M + 1 by omega)
    have HMe := hid hM
    have hMb : M ≤ 1000000 := by omega
    clear hM
    go_upto_region 6 with fail
    go_cut [22, 23, 24] from 20 to 24 (fun v22 v23 v24 wx => ∃ pp cc, v22 = .slice pp M cc ∧ v23 = .int .i64 (M : Int) ∧ v24 = .int .i64 0 ∧ (0 < M → pp = some ⟨g, o + 5, none⟩ ∧ M ≤ cc) ∧ wx = w2)
    case first =>
      by_cases hc1 : cap = 1
      · subst hc1
        obtain rfl : M = 0 := by have := HM.out; omega
        clear hMb
        go_wp2
        go_meet
        exact ⟨_, _, rfl, rfl, rfl, fun h => absurd h (Nat.lt_irrefl 0), rfl⟩
      · go_wp2
        go_meet
        exact ⟨_, _, by rw [HMe.out], by rw [HMe.out], rfl, fun h => ⟨rfl, by have := HM.out; omega⟩, rfl⟩
    obtain ⟨pp, cc, rfl, rfl, rfl, hpp, hwx⟩ := hcut
    rw [hwx]
    have HPP := hid hpp
    clear hwx hpp HMe
    go_wp2
    go_loopw [24] (fun vi wr => ∃ (j : Nat), j ≤ M ∧ vi = .int .i64 (j : Int) ∧ Hid (checkRest (l.drop (1 + j)) = checkRest (l.drop 1) ∧ Kept (fun _ => False) w wr ∧ CtAt wr w.heap.size t s n r (.slice (some ⟨g, o, none⟩) l.length cap))) (fun vi _ => M - (intOf vi).toNat)
    case atStart => exact ⟨0, Nat.zero_le _, rfl, rfl, HK2.out, HB2.out⟩
    case round =>
      obtain ⟨j, hj, rfl, HI⟩ := hrel
      clear b0 b1 b2 b3 b4
      by_cases hlt : j < M
      · have hltz : (j : Int) < (M : Int) := by omega
        obtain ⟨x, hx⟩ : ∃ x, l[1 + j]? = some x := ⟨l[1 + j]'(by have := HM.out; omega), by simp⟩
        obtain ⟨g', o', hgo, _, x0, x1, x2, x3, x4⟩ := Hat.out (1 + j) x hx wr HI.out.2.1
        simp only [Option.some.injEq, Addr.mk.injEq, and_true] at hgo
        obtain ⟨rfl, rfl⟩ := hgo
        rw [show o + (1 + j) * 5 = o + 5 + j * 5 by omega] at x0 x1 x2 x3 x4
        obtain ⟨rfl, hMc⟩ := HPP.out (by omega)
        have hT := HI.out.1
        rw [checkRest_at hx] at hT
        have HO := hid (HOne.out x (List.mem_of_getElem? hx))
        unfold avV at HO
        have HX := hid (AvAt.new wr x)
        have HK3 := hid (HI.out.2.1.alloc (.cells #[.bool x.must, .bool x.hidden, .int .i64 x.vendor, .int .i64 x.type, .string x.value] 72))
        have HB3 := hid (HI.out.2.2.kept ((Kept.refl (fun _ => False) wr).alloc (.cells #[.bool x.must, .bool x.hidden, .int .i64 x.vendor, .int .i64 x.type, .string x.value] 72)))
        clear HI hx
        by_cases h1 : checkOneF x = 0
        · rw [if_pos h1] at hT
          rw [h1] at HO
          have HT := hid hT
          clear hT h1
          go_wp2_with fail
          refine (HO.out _).mono ?_
          rintro e w4 ⟨rfl, hk4⟩
          have HK4 := hid (HK3.out.trans hk4)
          have HB4 := hid (HB3.out.kept hk4)
          clear hk4 x0 x1 x2 x3 x4
          go_wp2
          exact ⟨⟨j + 1, hlt, by go_num, HT.out, HK4.out, HB4.out⟩, by simp [intOf]; omega⟩
        · rw [if_neg h1] at hT
          have hne : (checkOneF x != 0) = true := by rw [bne_iff_ne]; exact h1
          have HT := hid (show Q = checkOneF x by have hq := HQ.out; simp only [if_true] at hq; rw [hq, ← hT, if_neg h1])
          clear hT
          generalize checkOneF x = E at *
          go_wp2_with fail
          refine (HO.out _).mono ?_
          rintro e w4 ⟨rfl, hk4⟩
          have HK4 := hid (HK3.out.trans hk4)
          clear hk4 x0 x1 x2 x3 x4
          go_wp2
          go_ret
          exact ⟨by rw [HT.out]; rfl, HK4.out⟩
      · obtain rfl : j = M := by omega
        have hltz : ¬ (j : Int) < (j : Int) := by omega
        have hT := HI.out.1
        rw [show 1 + j = l.length by have := HM.out; omega, List.drop_length] at hT
        have HQ2 := hid (show Q = if needB l (needsF K) = true then 0 else 40 by have hq := HQ.out; simp only [if_true] at hq; rw [hq, if_pos (show checkRest (l.drop 1) = 0 from hT.symm)])
        have hkl := needsF_le K
        have HK3 := hid HI.out.2.1
        have HB3 := hid HI.out.2.2
        clear hT HI hlt hj HQ HB2 HK2
        generalize needsF K = ks at *
        go_wp2_with fail
        refine (HNe.out _).mono ?_
        rintro e w4 ⟨v4, rfl, ho4, hk4⟩
        have HK4 := hid (HK3.out.trans hk4)
        have HB4 := hid (HB3.out.kept hk4)
        have HO4 := hid (OwnN.z ho4)
        obtain ⟨p4, c4, rfl⟩ := slice_of ho4
        clear ho4 hk4 HNe HK3 HB3
        have hsz4 := HK4.out.size
        go_wp2
        go_loopw [37] (fun vi wx => ∃ (i : Nat), i ≤ ks.length ∧ vi = .int .i64 (i : Int) ∧ Hid (needB l (ks.take i) = true ∧ Kept (fun _ => False) w4 wx)) (fun vi _ => ks.length - (intOf vi).toNat)
        case atStart => exact ⟨0, Nat.zero_le _, rfl, rfl, Kept.refl _ _⟩
        case round =>
          obtain ⟨i, hi, rfl, HI⟩ := hrel
          have HB5 := hid (HB4.out.kept HI.out.2)
          obtain ⟨b0, b1, b2, b3, b4⟩ := HB5.out.cells
          by_cases hlt : i < ks.length
          · have hltz : (i : Int) < (ks.length : Int) := by omega
            obtain ⟨k, hk⟩ : ∃ k, ks[i]? = some k := ⟨ks[i], by simp [hlt]⟩
            obtain ⟨g4, hp4, hn4, hb4, hc4, hm4, hcell, hf4⟩ := OwnG.at (HO4.out.kept0 HI.out.2) encN hk
            clear hn4 hb4 hm4 hf4
            subst hp4
            have k0 := hcell 0 _ rfl
            rw [Nat.mul_one, Nat.add_zero] at k0
            have HF := hid (HFi.out k _ (HK4.out.trans HI.out.2))
            have HYes := hid (fun h => needB_on hk h HI.out.1)
            have HNo := hid (fun h => needB_no (l := l) hk h)
            have HK5 := hid HI.out.2
            clear HI hk hcell
            generalize findAB l k = FB at HF
            cases hfk : (findA l k).isSome with
            | true =>
              rw [hfk] at HF
              have HT := hid (HYes.out hfk)
              clear hfk HYes HNo
              go_wp2_with fail
              refine HF.out.mono ?_
              rintro e w6 ⟨rfl, hk6⟩
              have HK6 := hid (HK5.out.trans hk6)
              clear hk6 b0 b1 b2 b3 b4 k0
              go_wp2
              exact ⟨⟨i + 1, hlt, by go_num, HT.out, HK6.out⟩, by simp [intOf]; omega⟩
            | false =>
              rw [hfk] at HF
              have HT := hid (show Q = 40 by rw [HQ2.out, HNo.out hfk]; rfl)
              clear hfk HYes HNo
              go_wp2_with fail
              refine HF.out.mono ?_
              rintro e w6 ⟨rfl, hk6⟩
              have HK6 := hid (HK4.out.trans (HK5.out.trans hk6))
              clear hk6 b0 b1 b2 b3 b4 k0
              go_wp2
              go_ret
              exact ⟨by rw [HT.out]; rfl, HK6.out⟩
          · obtain rfl : i = ks.length := by omega
            have hltz : ¬ (ks.length : Int) < (ks.length : Int) := by omega
            have hT := HI.out.1
            rw [List.take_length] at hT
            have HT := hid (show Q = 0 by rw [HQ2.out, if_pos hT])
            have HK6 := hid (HK4.out.trans HI.out.2)
            clear hT HI hlt hi
            go_wp2
            go_ret
            exact ⟨by rw [HT.out]; rfl, HK6.out⟩
end Go.Proofs.YtkneogfeokckjaaGreatDoor

namespace Go.Proofs.YtkneogfeokckjaaGreatDoor
open Go.RowKit

def xs5 : Av := ⟨true, false, 0, 14, ⟨#[0, 5]⟩⟩
def raw0 : ByteArray := ⟨#[200, 2, 0, 12, 0, 0, 0, 0, 0, 0, 0, 0]⟩
theorem ma1 : checkF [headK 11] = 40 := by rfl
theorem ma2 : checkF [headK 11, xs5] = 0 := by rfl
theorem ma3 : checkF [headK 5] = 40 := by rfl
theorem ma4 : numV 5 2 = ⟨#[0, 5]⟩ := by rfl
theorem ma5 : rawF 0 0 0 0 ⟨#[]⟩ = ⟨#[200, 2, 0, 12, 0, 0, 0, 0, 0, 0, 0, 0]⟩ := by rfl
theorem ma6 : isCF ⟨#[200, 2, 0, 12, 0, 0, 0, 0, 0, 0, 0, 0]⟩ = true := by rfl
theorem ma7 : (headK 11).value.size = 2 ∧ (headK 5).value.size = 2 := by decide
theorem good_small (x : Av) (h1 : -9223372036854775808 ≤ x.vendor ∧ x.vendor ≤ 9223372036854775807) (h2 : -9223372036854775808 ≤ x.type ∧ x.type ≤ 9223372036854775807) (h3 : x.value.size ≤ 1000) : GoodA x ∧ x.value.size ≤ 140737488351232 := ⟨⟨h1, h2, by unfold maxLen; omega⟩, by omega⟩
theorem good_h11 : GoodA (headK 11) ∧ (headK 11).value.size ≤ 140737488351232 := good_small _ (by decide) (by decide) (by have := ma7.1; omega)
theorem good_h5 : GoodA (headK 5) ∧ (headK 5).value.size ≤ 140737488351232 := good_small _ (by decide) (by decide) (by have := ma7.2; omega)
theorem good_x5 : GoodA xs5 ∧ xs5.value.size ≤ 140737488351232 := good_small _ (by decide) (by decide) (by decide)
theorem avs_nil (W : World) : AvsAt W (.slice none 0 0) [] := Or.inl ⟨rfl, none, 0, rfl⟩
theorem put_nil (W : World) : Calls Tryz.prog 34 #[.slice none 0 0, .string ⟨#[]⟩] W fun e w' => e = .returned (.tuple #[.string ⟨#[]⟩, .int .i64 0]) ∧ Kept (fun _ => False) W w' :=
  putA_few (.slice none 0 0) [] ⟨#[]⟩ W (avs_nil W) (by decide) (by decide) (fun x hx => by cases hx) (fun h => absurd rfl h)
set_option maxHeartbeats 4000000 in
set_option maxRecDepth 100000 in
theorem aliveM_any (w : World) : Calls Tryz.prog 5 #[] w fun e w' => e = .returned (.bool true) ∧ Kept (fun _ => False) w w' := by
  have C1 := hid (fun W => mPut_any 0 0 0 0 none 0 0 ⟨#[]⟩ W ⟨#[]⟩ 0 (fun W' _ => put_nil W') (by decide))
  have C2 := hid (fun W => make_any 11 (.slice none 0 0) [] W (avs_nil W) (by decide))
  have C3 := hid (fun W p c (h : AvsAt W (.slice p 1 c) [headK 11]) => check_any 0 0 0 0 (.slice p 1 c) [headK 11] W h (by simp) (fun x hx => by simp at hx; subst hx; exact good_h11.1) (fun x hx => by simp at hx; subst hx; exact good_h11.2))
  have C4 := hid (fun W => num_any 14 5 2 ⟨by decide, by decide⟩ W)
  have C5 := hid (fun W b (h : AvsAt W (.slice (some ⟨b, 0, none⟩) 1 1) [xs5]) => make_any 11 (.slice (some ⟨b, 0, none⟩) 1 1) [xs5] W h (by simp))
  have C6 := hid (fun W p c (h : AvsAt W (.slice p 2 c) [headK 11, xs5]) => check_any 0 0 0 0 (.slice p 2 c) [headK 11, xs5] W h (by simp) (fun x hx => by simp at hx; rcases hx with rfl | rfl <;> first | exact good_h11.1 | exact good_x5.1) (fun x hx => by simp at hx; rcases hx with rfl | rfl <;> first | exact good_h11.2 | exact good_x5.2))
  have C7 := hid (fun W => mIsCtl_any ⟨#[200, 2, 0, 12, 0, 0, 0, 0, 0, 0, 0, 0]⟩ (by decide) W)
  have C8 := hid (fun W => make_any 5 (.slice none 0 0) [] W (avs_nil W) (by decide))
  have C9 := hid (fun W p c (h : AvsAt W (.slice p 1 c) [headK 5]) => check_any 0 0 0 0 (.slice p 1 c) [headK 5] W h (by simp) (fun x hx => by simp at hx; subst hx; exact good_h5.1) (fun x hx => by simp at hx; subst hx; exact good_h5.2))
  rw [ma1] at C3
  rw [ma4] at C4
  rw [ma2] at C6
  rw [ma6] at C7
  rw [ma3] at C9
  rw [show wordsB 0 0 0 0 = true from by decide, ma5] at C1
  simp only [if_true] at C1
  unfold avV at C4
  go_enter Tryz.func5, Tryz.ntmps5
  go_wp2_with fail
  refine (C1.out _).mono ?_
  rintro e w1 ⟨rfl, hk1⟩
  have HK1 := hid hk1
  clear hk1 C1
  go_wp2_with fail
  refine (C2.out _).mono ?_
  rintro e w2 ⟨v2, rfl, ho2, hk2⟩
  have HK2 := hid (HK1.out.trans hk2)
  obtain ⟨p2, c2, rfl⟩ := slice_of ho2
  have HA2 := hid (OwnAv.at ho2)
  clear hk2 C2 HK1 ho2
  go_wp2_with fail
  refine (C3.out _ _ _ HA2.out).mono ?_
  rintro e w3 ⟨rfl, hk3⟩
  have HK3 := hid (HK2.out.trans hk3)
  clear hk3 C3 HK2 HA2
  go_wp2_with fail
  refine (C4.out _).mono ?_
  rintro e w4 ⟨rfl, hk4⟩
  have HK4 := hid (HK3.out.trans hk4)
  clear hk4 C4 HK3
  have A4 := hid (avs_one w4 xs5)
  have K4 := hid (HK4.out.alloc (.cells #[.bool true, .bool false, .int .i64 0, .int .i64 14, .string ⟨#[0, 5]⟩] 72))
  go_wp2_with fail
  refine (C5.out _ _ A4.out).mono ?_
  rintro e w5 ⟨v5, rfl, ho5, hk5⟩
  have HK5 := hid (K4.out.trans hk5)
  obtain ⟨p5, c5, rfl⟩ := slice_of ho5
  have HA5 := hid (OwnAv.at ho5)
  clear hk5 C5 A4 K4 HK4 ho5
  go_wp2_with fail
  refine (C6.out _ _ _ HA5.out).mono ?_
  rintro e w6 ⟨rfl, hk6⟩
  have HK6 := hid (HK5.out.trans hk6)
  clear hk6 C6 HK5 HA5
  go_wp2_with fail
  refine (C7.out _).mono ?_
  rintro e w7 ⟨rfl, hk7⟩
  have HK7 := hid (HK6.out.trans hk7)
  clear hk7 C7 HK6
  go_wp2_with fail
  refine (C8.out _).mono ?_
  rintro e w8 ⟨v8, rfl, ho8, hk8⟩
  have HK8 := hid (HK7.out.trans hk8)
  obtain ⟨p8, c8, rfl⟩ := slice_of ho8
  have HA8 := hid (OwnAv.at ho8)
  clear hk8 C8 HK7 ho8
  go_wp2_with fail
  refine (C9.out _ _ _ HA8.out).mono ?_
  rintro e w9 ⟨rfl, hk9⟩
  have HK9 := hid (HK8.out.trans hk9)
  clear hk9 C9 HK8 HA8
  go_wp2
  go_ret
  exact ⟨rfl, HK9.out⟩
end Go.Proofs.YtkneogfeokckjaaGreatDoor

namespace Go.Proofs.YtkneogfeokckjaaGreatDoor
open Go.RowKit

/-- A message as a value. -/
def ctV (c : Ct) (v : Value) : Value := .agg #[.int .i64 c.tunnel, .int .i64 c.session, .int .i64 c.ns, .int .i64 c.nr, v]
theorem CtAt.soft {W : World} {b : Nat} {t s n r : Int} {v : Value} (h : CtAt W b t s n r v) : ∀ i, W.frozen? ⟨b, i, none⟩ = false := by
  unfold CtAt at h
  intro i
  simp [World.frozen?, h]
theorem OwnAv.ctl {W : World} {b base : Nat} {t s n r : Int} {u v : Value} {l : List Av} (h : OwnAv W base v l) (hc : CtAt W b t s n r u) : v.ownBlock ≠ some b := by
  intro e
  obtain ⟨⟨cur, hg⟩, _⟩ := OwnG.block h e
  rw [show W.heap[b]? = _ from hc] at hg
  simp at hg
theorem first_ctl (b : ByteArray) (h : 12 ≤ b.size) : ((numAt b 0 : Int) != 51202) = false ↔ ¬ (byteN b 0 ≠ 200 ∨ byteN b 1 ≠ 2) := by
  have e := numAt_two b 0 (by omega)
  rw [Nat.zero_add] at e
  have h0 := byteN_lt b 0
  have h1 := byteN_lt b 1
  rw [bne_eq_false_iff_eq]
  omega

set_option maxHeartbeats 4000000 in
set_option maxRecDepth 100000 in
theorem mGet_short (b s : ByteArray) (h : b.size < 12) (w : World) :
    Calls Tryz.prog 9 #[.string b, .string s] w fun e w' => e = .returned (.tuple #[.agg #[.int .i64 0, .int .i64 0, .int .i64 0, .int .i64 0, .slice none 0 0], .int .i64 5]) ∧ Kept (fun _ => False) w w' := by
  have hz : (b.size : Int) < 12 := by omega
  clear h
  obtain ⟨c0, c1, c2, c3, c4⟩ := (CtAt.new w 0 0 0 0 (.slice none 0 0)).cells
  go_enter Tryz.func9, Tryz.ntmps9
  go_wp2
  refine bodyPost_ret (v := .tuple #[.agg #[.int .i64 0, .int .i64 0, .int .i64 0, .int .i64 0, .slice none 0 0], .int .i64 5]) (by simp [results, Tryz.results9, go_sem, c0, c1, c2, c3, c4]) rfl ⟨rfl, ?_⟩
  exact (Kept.refl _ w).alloc _

set_option maxHeartbeats 4000000 in
set_option maxRecDepth 100000 in
theorem mGet_form (b s : ByteArray) (hb : b.size ≤ 140737488351232) (h : 12 ≤ b.size) (h1 : ((numAt b 0 : Int) != 51202) = true) (w : World) :
    Calls Tryz.prog 9 #[.string b, .string s] w fun e w' => e = .returned (.tuple #[.agg #[.int .i64 0, .int .i64 0, .int .i64 0, .int .i64 0, .slice none 0 0], .int .i64 4]) ∧ Kept (fun _ => False) w w' := by
  have hz : ¬ (b.size : Int) < 12 := by omega
  have HB := hid (CtAt.new w 0 0 0 0 (.slice none 0 0))
  have HK := hid ((Kept.refl (fun _ => False) w).alloc (.cells #[.int .i64 0, .int .i64 0, .int .i64 0, .int .i64 0, .slice none 0 0] 24))
  have HW := hid (fun W => mword_any b hb 0 (by omega) 0 rfl W)
  generalize numAt b 0 = N at *
  clear h
  go_enter Tryz.func9, Tryz.ntmps9
  go_upto_region 1 with fail
  generalize w.alloc (.cells #[.int .i64 0, .int .i64 0, .int .i64 0, .int .i64 0, .slice none 0 0] 24) = W0 at *
  go_wp2_with fail
  refine (HW.out _).mono ?_
  rintro e w1 ⟨rfl, hk1⟩
  have HK1 := hid (HK.out.trans hk1)
  have HB1 := hid (HB.out.kept hk1)
  clear hk1 HK HB HW
  obtain ⟨z0, z1, z2, z3, z4⟩ := (HB1.out).cells
  have f0 := (HB1.out).soft 0
  have f1 := (HB1.out).soft 1
  have f2 := (HB1.out).soft 2
  have f3 := (HB1.out).soft 3
  have f4 := (HB1.out).soft 4
  go_wp2
  refine bodyPost_ret (v := .tuple #[.agg #[.int .i64 0, .int .i64 0, .int .i64 0, .int .i64 0, .slice none 0 0], .int .i64 4]) (by simp [results, Tryz.results9, go_sem, z0, z1, z2, z3, z4]) rfl ⟨rfl, ?_⟩
  exact (((((HK1.out).setCell (Or.inl (Nat.le_refl _)) _).setCell (Or.inl (Nat.le_refl _)) _).setCell (Or.inl (Nat.le_refl _)) _).setCell (Or.inl (Nat.le_refl _)) _).setCell (Or.inl (Nat.le_refl _)) _

set_option maxHeartbeats 4000000 in
set_option maxRecDepth 100000 in
theorem mGet_cut (b s : ByteArray) (hb : b.size ≤ 140737488351232) (h : 12 ≤ b.size) (h1 : ((numAt b 0 : Int) != 51202) = false) (E : Int) (hE : E ≠ 0) (X : ByteArray) (hc : cutM b 12 = (X, E)) (w : World) :
    Calls Tryz.prog 9 #[.string b, .string s] w fun e w' => e = .returned (.tuple #[.agg #[.int .i64 0, .int .i64 0, .int .i64 0, .int .i64 0, .slice none 0 0], .int .i64 E]) ∧ Kept (fun _ => False) w w' := by
  have hz : ¬ (b.size : Int) < 12 := by omega
  have HB := hid (CtAt.new w 0 0 0 0 (.slice none 0 0))
  have HK := hid ((Kept.refl (fun _ => False) w).alloc (.cells #[.int .i64 0, .int .i64 0, .int .i64 0, .int .i64 0, .slice none 0 0] 24))
  have HW := hid (fun W => mword_any b hb 0 (by omega) 0 rfl W)
  have HC := hid (fun W => mcut_any b hb (by omega) 12 12 rfl W)
  rw [hc] at HC
  dsimp only at HC
  have hEz : (E != 0) = true := by rw [bne_iff_ne]; exact hE
  generalize numAt b 0 = N at *
  clear h hc hE
  go_enter Tryz.func9, Tryz.ntmps9
  go_upto_region 1 with fail
  generalize w.alloc (.cells #[.int .i64 0, .int .i64 0, .int .i64 0, .int .i64 0, .slice none 0 0] 24) = W0 at *
  go_wp2_with fail
  refine (HW.out _).mono ?_
  rintro e w1 ⟨rfl, hk1⟩
  have HK1 := hid (HK.out.trans hk1)
  have HB1 := hid (HB.out.kept hk1)
  clear hk1 HK HB HW
  go_wp2_with fail
  refine (HC.out _).mono ?_
  rintro e w2 ⟨rfl, hk2⟩
  have HK2 := hid (HK1.out.trans hk2)
  have HB2 := hid (HB1.out.kept hk2)
  clear hk2 HK1 HB1 HC
  obtain ⟨z0, z1, z2, z3, z4⟩ := (HB2.out).cells
  have f0 := (HB2.out).soft 0
  have f1 := (HB2.out).soft 1
  have f2 := (HB2.out).soft 2
  have f3 := (HB2.out).soft 3
  have f4 := (HB2.out).soft 4
  go_wp2
  refine bodyPost_ret (v := .tuple #[.agg #[.int .i64 0, .int .i64 0, .int .i64 0, .int .i64 0, .slice none 0 0], .int .i64 E]) (by simp [results, Tryz.results9, go_sem, z0, z1, z2, z3, z4]) rfl ⟨rfl, ?_⟩
  exact (((((HK2.out).setCell (Or.inl (Nat.le_refl _)) _).setCell (Or.inl (Nat.le_refl _)) _).setCell (Or.inl (Nat.le_refl _)) _).setCell (Or.inl (Nat.le_refl _)) _).setCell (Or.inl (Nat.le_refl _)) _

set_option maxHeartbeats 4000000 in
set_option maxRecDepth 100000 in
theorem mGet_get (b s : ByteArray) (hb : b.size ≤ 140737488351232) (hs : s.size ≤ 1000000) (h : 12 ≤ b.size) (h1 : ((numAt b 0 : Int) != 51202) = false) (X : ByteArray) (hX : X.size ≤ 140737488351232) (hc : cutM b 12 = (X, 0)) (w : World) (hM : s.size ≠ 0 → UnmAt w) (E : Int) (hE : E ≠ 0) (hg : (getAF X s).2 = E) :
    Calls Tryz.prog 9 #[.string b, .string s] w fun e w' => e = .returned (.tuple #[.agg #[.int .i64 0, .int .i64 0, .int .i64 0, .int .i64 0, .slice none 0 0], .int .i64 E]) ∧ Kept (fun _ => False) w w' := by
  have hz : ¬ (b.size : Int) < 12 := by omega
  have HB := hid (CtAt.new w 0 0 0 0 (.slice none 0 0))
  have HK := hid ((Kept.refl (fun _ => False) w).alloc (.cells #[.int .i64 0, .int .i64 0, .int .i64 0, .int .i64 0, .slice none 0 0] 24))
  have HW := hid (fun W => mword_any b hb 0 (by omega) 0 rfl W)
  have HC := hid (fun W => mcut_any b hb (by omega) 12 12 rfl W)
  have HG := hid (fun W (hk : Kept (fun _ => False) w W) => getA_any X s hX hs W (fun h => (hM h).kept hk))
  rw [hc] at HC
  rw [hg] at HG
  dsimp only at HC
  have hEz : (E != 0) = true := by rw [bne_iff_ne]; exact hE
  generalize numAt b 0 = N at *
  generalize (getAF X s).1 = L at *
  clear h hc hE hg
  go_enter Tryz.func9, Tryz.ntmps9
  go_upto_region 1 with fail
  generalize w.alloc (.cells #[.int .i64 0, .int .i64 0, .int .i64 0, .int .i64 0, .slice none 0 0] 24) = W0 at *
  go_wp2_with fail
  refine (HW.out _).mono ?_
  rintro e w1 ⟨rfl, hk1⟩
  have HK1 := hid (HK.out.trans hk1)
  have HB1 := hid (HB.out.kept hk1)
  clear hk1 HK HB HW
  go_wp2_with fail
  refine (HC.out _).mono ?_
  rintro e w2 ⟨rfl, hk2⟩
  have HK2 := hid (HK1.out.trans hk2)
  have HB2 := hid (HB1.out.kept hk2)
  clear hk2 HK1 HB1 HC
  go_wp2_with fail
  refine (HG.out _ HK2.out).mono ?_
  rintro e w3 ⟨v, rfl, ho3, hk3⟩
  obtain ⟨p, c, rfl⟩ := slice_of ho3
  have HK3 := hid (HK2.out.trans hk3)
  have HB3 := hid (HB2.out.kept hk3)
  have HO3 := hid (OwnG.mono ho3 HK2.out.size)
  clear hk3 ho3 HK2 HB2 HG
  obtain ⟨z0, z1, z2, z3, z4⟩ := (HB3.out).cells
  have f0 := (HB3.out).soft 0
  have f1 := (HB3.out).soft 1
  have f2 := (HB3.out).soft 2
  have f3 := (HB3.out).soft 3
  have f4 := (HB3.out).soft 4
  go_wp2
  refine bodyPost_ret (v := .tuple #[.agg #[.int .i64 0, .int .i64 0, .int .i64 0, .int .i64 0, .slice none 0 0], .int .i64 E]) (by simp [results, Tryz.results9, go_sem, z0, z1, z2, z3, z4]) rfl ⟨rfl, ?_⟩
  exact (((((HK3.out).setCell (Or.inl (Nat.le_refl _)) _).setCell (Or.inl (Nat.le_refl _)) _).setCell (Or.inl (Nat.le_refl _)) _).setCell (Or.inl (Nat.le_refl _)) _).setCell (Or.inl (Nat.le_refl _)) _

set_option maxHeartbeats 4000000 in
set_option maxRecDepth 100000 in
theorem mGet_ok (b s : ByteArray) (hb : b.size ≤ 140737488351232) (hs : s.size ≤ 1000000) (h : 12 ≤ b.size) (h1 : ((numAt b 0 : Int) != 51202) = false) (X : ByteArray) (hX : X.size ≤ 140737488351232) (hc : cutM b 12 = (X, 0)) (w : World) (hM : s.size ≠ 0 → UnmAt w) (hg : (getAF X s).2 = 0) :
    Calls Tryz.prog 9 #[.string b, .string s] w fun e w' => ∃ v, e = .returned (.tuple #[.agg #[.int .i64 (numAt b 4 : Int), .int .i64 (numAt b 6 : Int), .int .i64 (numAt b 8 : Int), .int .i64 (numAt b 10 : Int), v], .int .i64 0]) ∧ OwnAv w' w.heap.size v (getAF X s).1 ∧ Kept (fun _ => False) w w' := by
  have hz : ¬ (b.size : Int) < 12 := by omega
  have HB := hid (CtAt.new w 0 0 0 0 (.slice none 0 0))
  have HK := hid ((Kept.refl (fun _ => False) w).alloc (.cells #[.int .i64 0, .int .i64 0, .int .i64 0, .int .i64 0, .slice none 0 0] 24))
  have HW := hid (fun W => mword_any b hb 0 (by omega) 0 rfl W)
  have HC := hid (fun W => mcut_any b hb (by omega) 12 12 rfl W)
  have HG := hid (fun W (hk : Kept (fun _ => False) w W) => getA_any X s hX hs W (fun h => (hM h).kept hk))
  have HW4 := hid (fun W => mword_any b hb 4 (by omega) 4 rfl W)
  have HW6 := hid (fun W => mword_any b hb 6 (by omega) 6 rfl W)
  have HW8 := hid (fun W => mword_any b hb 8 (by omega) 8 rfl W)
  have HW10 := hid (fun W => mword_any b hb 10 (by omega) 10 rfl W)
  rw [hc] at HC
  rw [hg] at HG
  dsimp only at HC
  generalize numAt b 0 = N at *
  generalize (getAF X s).1 = L at *
  generalize numAt b 4 = N4 at *
  generalize numAt b 6 = N6 at *
  generalize numAt b 8 = N8 at *
  generalize numAt b 10 = N10 at *
  clear h hc hg
  go_enter Tryz.func9, Tryz.ntmps9
  go_upto_region 1 with fail
  generalize w.alloc (.cells #[.int .i64 0, .int .i64 0, .int .i64 0, .int .i64 0, .slice none 0 0] 24) = W0 at *
  go_wp2_with fail
  refine (HW.out _).mono ?_
  rintro e w1 ⟨rfl, hk1⟩
  have HK1 := hid (HK.out.trans hk1)
  have HB1 := hid (HB.out.kept hk1)
  clear hk1 HK HB HW
  go_wp2_with fail
  refine (HC.out _).mono ?_
  rintro e w2 ⟨rfl, hk2⟩
  have HK2 := hid (HK1.out.trans hk2)
  have HB2 := hid (HB1.out.kept hk2)
  clear hk2 HK1 HB1 HC
  go_wp2_with fail
  refine (HG.out _ HK2.out).mono ?_
  rintro e w3 ⟨v, rfl, ho3, hk3⟩
  obtain ⟨p, c, rfl⟩ := slice_of ho3
  have HK3 := hid (HK2.out.trans hk3)
  have HB3 := hid (HB2.out.kept hk3)
  have HO3 := hid (OwnG.mono ho3 HK2.out.size)
  clear hk3 ho3 HK2 HB2 HG
  go_wp2_with fail
  refine (HW4.out _).mono ?_
  rintro e w4 ⟨rfl, hk4⟩
  have HK4 := hid (HK3.out.trans hk4)
  have HB4 := hid (HB3.out.kept hk4)
  have HO4 := hid (OwnG.kept0 HO3.out hk4)
  clear hk4 HK3 HB3 HO3 HW4
  go_wp2_with fail
  refine (HW6.out _).mono ?_
  rintro e w5 ⟨rfl, hk5⟩
  have HK5 := hid (HK4.out.trans hk5)
  have HB5 := hid (HB4.out.kept hk5)
  have HO5 := hid (OwnG.kept0 HO4.out hk5)
  clear hk5 HK4 HB4 HO4 HW6
  go_wp2_with fail
  refine (HW8.out _).mono ?_
  rintro e w6 ⟨rfl, hk6⟩
  have HK6 := hid (HK5.out.trans hk6)
  have HB6 := hid (HB5.out.kept hk6)
  have HO6 := hid (OwnG.kept0 HO5.out hk6)
  clear hk6 HK5 HB5 HO5 HW8
  go_wp2_with fail
  refine (HW10.out _).mono ?_
  rintro e w7 ⟨rfl, hk7⟩
  have HK7 := hid (HK6.out.trans hk7)
  have HB7 := hid (HB6.out.kept hk7)
  have HO7 := hid (OwnG.kept0 HO6.out hk7)
  clear hk7 HK6 HB6 HO6 HW10
  obtain ⟨z0, z1, z2, z3, z4⟩ := (HB7.out).cells
  have f0 := (HB7.out).soft 0
  have f1 := (HB7.out).soft 1
  have f2 := (HB7.out).soft 2
  have f3 := (HB7.out).soft 3
  have f4 := (HB7.out).soft 4
  have HU := hid (OwnAv.ctl HO7.out HB7.out)
  go_wp2
  refine bodyPost_ret (v := .tuple #[.agg #[.int .i64 (N4 : Int), .int .i64 (N6 : Int), .int .i64 (N8 : Int), .int .i64 (N10 : Int), .slice p L.length c], .int .i64 0]) (by simp [results, Tryz.results9, go_sem, z0, z1, z2, z3, z4]) rfl ⟨_, rfl, ?_, ?_⟩
  · refine OwnG.keptS HO7.out (S := fun i => i = w.heap.size) ((((((Kept.refl (fun i => i = w.heap.size) w7).setCell (Or.inr rfl) _).setCell (Or.inr rfl) _).setCell (Or.inr rfl) _).setCell (Or.inr rfl) _).setCell (Or.inr rfl) _) ?_
    rintro i hi rfl
    exact HU.out hi
  · exact (((((HK7.out).setCell (Or.inl (Nat.le_refl _)) _).setCell (Or.inl (Nat.le_refl _)) _).setCell (Or.inl (Nat.le_refl _)) _).setCell (Or.inl (Nat.le_refl _)) _).setCell (Or.inl (Nat.le_refl _)) _

theorem mGet_any (b s : ByteArray) (hb : b.size ≤ 140737488351232) (hs : s.size ≤ 1000000) (w : World) (hM : s.size ≠ 0 → UnmAt w) :
    Calls Tryz.prog 9 #[.string b, .string s] w fun e w' => ∃ v, e = .returned (.tuple #[ctV (getCF b s).1 v, .int .i64 (getCF b s).2]) ∧ OwnAv w' w.heap.size v (getCF b s).1.avps ∧ Kept (fun _ => False) w w' := by
  have zero : ∀ {E : Int}, Calls Tryz.prog 9 #[.string b, .string s] w (fun e w' => e = .returned (.tuple #[.agg #[.int .i64 0, .int .i64 0, .int .i64 0, .int .i64 0, .slice none 0 0], .int .i64 E]) ∧ Kept (fun _ => False) w w') → Calls Tryz.prog 9 #[.string b, .string s] w fun e w' => ∃ v, e = .returned (.tuple #[ctV (ct0, E).1 v, .int .i64 (ct0, E).2]) ∧ OwnAv w' w.heap.size v (ct0, E).1.avps ∧ Kept (fun _ => False) w w' := fun h => h.mono fun e w' ⟨he, hk⟩ => ⟨.slice none 0 0, he, OwnG.nil _ _, hk⟩
  unfold getCF
  by_cases h12 : b.size < 12
  · rw [if_pos h12]
    exact zero (mGet_short b s h12 w)
  rw [if_neg h12]
  by_cases hf : byteN b 0 ≠ 200 ∨ byteN b 1 ≠ 2
  · rw [if_pos hf]
    refine zero (mGet_form b s hb (by omega) ?_ w)
    cases h : ((numAt b 0 : Int) != 51202) with
    | true => rfl
    | false => exact absurd hf ((first_ctl b (by omega)).1 h)
  rw [if_neg hf]
  have h1 := (first_ctl b (by omega)).2 hf
  by_cases h2 : b.size < numAt b 2
  · rw [if_pos h2]
    exact zero (mGet_cut b s hb (by omega) h1 5 (by decide) ⟨#[]⟩ (by unfold cutM; rw [if_pos h2]) w)
  rw [if_neg h2]
  by_cases h3 : numAt b 2 < 12
  · rw [if_pos h3]
    exact zero (mGet_cut b s hb (by omega) h1 4 (by decide) ⟨#[]⟩ (by unfold cutM; rw [if_neg h2, if_pos h3]) w)
  rw [if_neg h3]
  have hc : cutM b 12 = (b.extract 12 (numAt b 2), 0) := by unfold cutM; rw [if_neg h2, if_neg h3]
  have hX : (b.extract 12 (numAt b 2)).size ≤ 140737488351232 := by rw [ByteArray.size_extract]; omega
  by_cases he : (getAF (b.extract 12 (numAt b 2)) s).2 = 0
  · rw [if_pos he]
    exact mGet_ok b s hb hs (by omega) h1 _ hX hc w hM he
  · rw [if_neg he]
    exact zero (mGet_get b s hb hs (by omega) h1 _ hX hc w hM _ he rfl)
end Go.Proofs.YtkneogfeokckjaaGreatDoor

namespace Go.Proofs.YtkneogfeokckjaaGreatDoor
open Go.RowKit

theorem LdAt.lt {W : World} {b : Nat} {t s : Int} {q : Bool} {n r : Int} {x : ByteArray} (h : LdAt W b t s q n r x) : b < W.heap.size := (Array.getElem?_eq_some_iff.1 h).1
theorem LdAt.set3 {W : World} {b : Nat} {t s : Int} {q : Bool} {n r : Int} {x : ByteArray} (h : LdAt W b t s q n r x) (n' r' : Int) : LdAt (((W.setCell ⟨b, 2, none⟩ (.bool true)).setCell ⟨b, 3, none⟩ (.int .i64 n')).setCell ⟨b, 4, none⟩ (.int .i64 r')) b t s true n' r' x := by
  have hlt := h.lt
  have hv : W.heap[b] = .cells #[.int .i64 t, .int .i64 s, .bool q, .int .i64 n, .int .i64 r, .string x] 26 (0, 0) := (Array.getElem?_eq_some_iff.1 h).2
  unfold LdAt World.setCell
  rw [Array.getElem?_eq_getElem (by simpa using hlt), Array.getElem_modify, Array.getElem_modify, Array.getElem_modify]
  simp [hv]
theorem LdAt.other3 {W : World} {b g : Nat} {t s : Int} {q : Bool} {n r : Int} {x : ByteArray} (h : LdAt W b t s q n r x) (hne : b ≠ g) (n' r' : Int) : LdAt (((W.setCell ⟨g, 2, none⟩ (.bool true)).setCell ⟨g, 3, none⟩ (.int .i64 n')).setCell ⟨g, 4, none⟩ (.int .i64 r')) b t s q n r x :=
  (Below.heap_setCell _ _ _ _ hne).trans ((Below.heap_setCell _ _ _ _ hne).trans ((Below.heap_setCell _ _ _ _ hne).trans h))
/-- A data message as a value. -/
def ldV (l : Ld) : Value := .agg #[.int .i64 l.tunnel, .int .i64 l.session, .bool l.seq, .int .i64 l.ns, .int .i64 l.nr, .string l.data]

set_option maxHeartbeats 4000000 in
set_option maxRecDepth 100000 in
theorem mPutL_no (t s n r : Int) (q : Bool) (x : ByteArray) (_hx : x.size ≤ 140737488351232) (hw : wordsB t s n r = false) (w : World) :
    Calls Tryz.prog 25 #[.agg #[.int .i64 t, .int .i64 s, .bool q, .int .i64 n, .int .i64 r, .string x]] w fun e w' => e = .returned (.tuple #[.string ⟨#[]⟩, .int .i64 1]) ∧ Kept (fun _ => False) w w' := by
  have HB := hid (LdAt.new w t s q n r x)
  have HK := hid ((Kept.refl (fun _ => False) w).alloc (.cells #[.int .i64 t, .int .i64 s, .bool q, .int .i64 n, .int .i64 r, .string x] 26))
  obtain ⟨b0, b1, b2, b3, b4, b5⟩ := HB.out.cells
  have HW := hid (fun W => are_four t s n r W)
  rw [hw] at HW
  clear hw
  go_enter Tryz.func25, Tryz.ntmps25
  go_upto_region 1 with fail
  generalize w.alloc (.cells #[.int .i64 t, .int .i64 s, .bool q, .int .i64 n, .int .i64 r, .string x] 26) = W0 at *
  go_wp2_with fail
  refine (HW.out _).mono ?_
  rintro e w1 ⟨rfl, hk1⟩
  have HK1 := hid (HK.out.trans hk1)
  have HB1 := hid (HB.out.kept hk1)
  clear hk1 b0 b1 b2 b3 b4 b5 HK HB HW
  obtain ⟨b0, b1, b2, b3, b4, b5⟩ := HB1.out.cells
  go_wp2
  go_ret2
  exact ⟨rfl, HK1.out⟩

set_option maxHeartbeats 4000000 in
set_option maxRecDepth 100000 in
theorem mPutL_ns (t s n r : Int) (x : ByteArray) (_hx : x.size ≤ 140737488351232) (hw : wordsB t s n r = true) (h : n ≠ 0) (w : World) :
    Calls Tryz.prog 25 #[.agg #[.int .i64 t, .int .i64 s, .bool false, .int .i64 n, .int .i64 r, .string x]] w fun e w' => e = .returned (.tuple #[.string ⟨#[]⟩, .int .i64 1]) ∧ Kept (fun _ => False) w w' := by
  have HB := hid (LdAt.new w t s false n r x)
  have HK := hid ((Kept.refl (fun _ => False) w).alloc (.cells #[.int .i64 t, .int .i64 s, .bool false, .int .i64 n, .int .i64 r, .string x] 26))
  obtain ⟨b0, b1, b2, b3, b4, b5⟩ := HB.out.cells
  have HW := hid (fun W => are_four t s n r W)
  rw [hw] at HW
  have hz : (n != 0) = true := by rw [bne_iff_ne]; exact h
  clear h
  clear hw
  go_enter Tryz.func25, Tryz.ntmps25
  go_upto_region 1 with fail
  generalize w.alloc (.cells #[.int .i64 t, .int .i64 s, .bool false, .int .i64 n, .int .i64 r, .string x] 26) = W0 at *
  go_wp2_with fail
  refine (HW.out _).mono ?_
  rintro e w1 ⟨rfl, hk1⟩
  have HK1 := hid (HK.out.trans hk1)
  have HB1 := hid (HB.out.kept hk1)
  clear hk1 b0 b1 b2 b3 b4 b5 HK HB HW
  obtain ⟨b0, b1, b2, b3, b4, b5⟩ := HB1.out.cells
  go_wp2
  go_ret2
  exact ⟨rfl, HK1.out⟩

set_option maxHeartbeats 4000000 in
set_option maxRecDepth 100000 in
theorem mPutL_nr (t s n r : Int) (x : ByteArray) (_hx : x.size ≤ 140737488351232) (hw : wordsB t s n r = true) (h0 : n = 0) (h : r ≠ 0) (w : World) :
    Calls Tryz.prog 25 #[.agg #[.int .i64 t, .int .i64 s, .bool false, .int .i64 n, .int .i64 r, .string x]] w fun e w' => e = .returned (.tuple #[.string ⟨#[]⟩, .int .i64 1]) ∧ Kept (fun _ => False) w w' := by
  have HB := hid (LdAt.new w t s false n r x)
  have HK := hid ((Kept.refl (fun _ => False) w).alloc (.cells #[.int .i64 t, .int .i64 s, .bool false, .int .i64 n, .int .i64 r, .string x] 26))
  obtain ⟨b0, b1, b2, b3, b4, b5⟩ := HB.out.cells
  have HW := hid (fun W => are_four t s n r W)
  rw [hw] at HW
  have hz : (r != 0) = true := by rw [bne_iff_ne]; exact h
  have hz0 : (n != 0) = false := by rw [h0]; rfl
  clear h h0
  clear hw
  go_enter Tryz.func25, Tryz.ntmps25
  go_upto_region 1 with fail
  generalize w.alloc (.cells #[.int .i64 t, .int .i64 s, .bool false, .int .i64 n, .int .i64 r, .string x] 26) = W0 at *
  go_wp2_with fail
  refine (HW.out _).mono ?_
  rintro e w1 ⟨rfl, hk1⟩
  have HK1 := hid (HK.out.trans hk1)
  have HB1 := hid (HB.out.kept hk1)
  clear hk1 b0 b1 b2 b3 b4 b5 HK HB HW
  obtain ⟨b0, b1, b2, b3, b4, b5⟩ := HB1.out.cells
  go_wp2
  go_ret2
  exact ⟨rfl, HK1.out⟩

set_option maxHeartbeats 4000000 in
set_option maxRecDepth 100000 in
theorem mPutL_longq (t s n r : Int) (x : ByteArray) (hx : x.size ≤ 140737488351232) (hw : wordsB t s n r = true) (h : 1460 < x.size) (w : World) :
    Calls Tryz.prog 25 #[.agg #[.int .i64 t, .int .i64 s, .bool true, .int .i64 n, .int .i64 r, .string x]] w fun e w' => e = .returned (.tuple #[.string ⟨#[]⟩, .int .i64 2]) ∧ Kept (fun _ => False) w w' := by
  have HB := hid (LdAt.new w t s true n r x)
  have HK := hid ((Kept.refl (fun _ => False) w).alloc (.cells #[.int .i64 t, .int .i64 s, .bool true, .int .i64 n, .int .i64 r, .string x] 26))
  obtain ⟨b0, b1, b2, b3, b4, b5⟩ := HB.out.cells
  have HW := hid (fun W => are_four t s n r W)
  rw [hw] at HW
  have hz : (1460 : Int) < (x.size : Int) := by omega
  clear h
  clear hw
  go_enter Tryz.func25, Tryz.ntmps25
  go_upto_region 1 with fail
  generalize w.alloc (.cells #[.int .i64 t, .int .i64 s, .bool true, .int .i64 n, .int .i64 r, .string x] 26) = W0 at *
  go_wp2_with fail
  refine (HW.out _).mono ?_
  rintro e w1 ⟨rfl, hk1⟩
  have HK1 := hid (HK.out.trans hk1)
  have HB1 := hid (HB.out.kept hk1)
  clear hk1 b0 b1 b2 b3 b4 b5 HK HB HW
  obtain ⟨b0, b1, b2, b3, b4, b5⟩ := HB1.out.cells
  go_wp2
  go_ret2
  exact ⟨rfl, HK1.out⟩

set_option maxHeartbeats 4000000 in
set_option maxRecDepth 100000 in
theorem mPutL_long (t s n r : Int) (x : ByteArray) (hx : x.size ≤ 140737488351232) (hw : wordsB t s n r = true) (h0 : n = 0) (h1 : r = 0) (h : 1460 < x.size) (w : World) :
    Calls Tryz.prog 25 #[.agg #[.int .i64 t, .int .i64 s, .bool false, .int .i64 n, .int .i64 r, .string x]] w fun e w' => e = .returned (.tuple #[.string ⟨#[]⟩, .int .i64 2]) ∧ Kept (fun _ => False) w w' := by
  have HB := hid (LdAt.new w t s false n r x)
  have HK := hid ((Kept.refl (fun _ => False) w).alloc (.cells #[.int .i64 t, .int .i64 s, .bool false, .int .i64 n, .int .i64 r, .string x] 26))
  obtain ⟨b0, b1, b2, b3, b4, b5⟩ := HB.out.cells
  have HW := hid (fun W => are_four t s n r W)
  rw [hw] at HW
  have hz : (1460 : Int) < (x.size : Int) := by omega
  have hz0 : (n != 0) = false := by rw [h0]; rfl
  have hz1 : (r != 0) = false := by rw [h1]; rfl
  clear h h0 h1
  clear hw
  go_enter Tryz.func25, Tryz.ntmps25
  go_upto_region 1 with fail
  generalize w.alloc (.cells #[.int .i64 t, .int .i64 s, .bool false, .int .i64 n, .int .i64 r, .string x] 26) = W0 at *
  go_wp2_with fail
  refine (HW.out _).mono ?_
  rintro e w1 ⟨rfl, hk1⟩
  have HK1 := hid (HK.out.trans hk1)
  have HB1 := hid (HB.out.kept hk1)
  clear hk1 b0 b1 b2 b3 b4 b5 HK HB HW
  obtain ⟨b0, b1, b2, b3, b4, b5⟩ := HB1.out.cells
  go_wp2
  go_ret2
  exact ⟨rfl, HK1.out⟩

set_option maxHeartbeats 4000000 in
set_option maxRecDepth 100000 in
theorem mPutL_seq (t s n r : Int) (x : ByteArray) (hx : x.size ≤ 140737488351232) (hw : wordsB t s n r = true) (h : x.size ≤ 1460) (w : World) :
    Calls Tryz.prog 25 #[.agg #[.int .i64 t, .int .i64 s, .bool true, .int .i64 n, .int .i64 r, .string x]] w fun e w' => e = .returned (.tuple #[.string (layF 18434 x [t, s, n, r]), .int .i64 0]) ∧ Kept (fun _ => False) w w' := by
  have HB := hid (LdAt.new w t s true n r x)
  have HK := hid ((Kept.refl (fun _ => False) w).alloc (.cells #[.int .i64 t, .int .i64 s, .bool true, .int .i64 n, .int .i64 r, .string x] 26))
  obtain ⟨b0, b1, b2, b3, b4, b5⟩ := HB.out.cells
  have HW := hid (fun W => are_four t s n r W)
  rw [hw] at HW
  have hz : ¬ (1460 : Int) < (x.size : Int) := by omega
  have HL := hid (fun W => lay_four 18434 (by decide) x (by omega) t s n r hw W)
  generalize layF 18434 x [t, s, n, r] = R at *
  clear h
  clear hw
  go_enter Tryz.func25, Tryz.ntmps25
  go_upto_region 1 with fail
  generalize w.alloc (.cells #[.int .i64 t, .int .i64 s, .bool true, .int .i64 n, .int .i64 r, .string x] 26) = W0 at *
  go_wp2_with fail
  refine (HW.out _).mono ?_
  rintro e w1 ⟨rfl, hk1⟩
  have HK1 := hid (HK.out.trans hk1)
  have HB1 := hid (HB.out.kept hk1)
  clear hk1 b0 b1 b2 b3 b4 b5 HK HB HW
  obtain ⟨b0, b1, b2, b3, b4, b5⟩ := HB1.out.cells
  go_wp2_with fail
  refine (HL.out _).mono ?_
  rintro e w2 ⟨rfl, hk2⟩
  have HK2 := hid (HK1.out.trans hk2)
  clear hk2
  go_wp2
  go_ret2
  exact ⟨rfl, HK2.out⟩

set_option maxHeartbeats 4000000 in
set_option maxRecDepth 100000 in
theorem mPutL_two (t s n r : Int) (x : ByteArray) (hx : x.size ≤ 140737488351232) (hw : wordsB t s n r = true) (h0 : n = 0) (h1 : r = 0) (h : x.size ≤ 1460) (w : World) :
    Calls Tryz.prog 25 #[.agg #[.int .i64 t, .int .i64 s, .bool false, .int .i64 n, .int .i64 r, .string x]] w fun e w' => e = .returned (.tuple #[.string (layF 16386 x [t, s]), .int .i64 0]) ∧ Kept (fun _ => False) w w' := by
  have HB := hid (LdAt.new w t s false n r x)
  have HK := hid ((Kept.refl (fun _ => False) w).alloc (.cells #[.int .i64 t, .int .i64 s, .bool false, .int .i64 n, .int .i64 r, .string x] 26))
  obtain ⟨b0, b1, b2, b3, b4, b5⟩ := HB.out.cells
  have HW := hid (fun W => are_four t s n r W)
  rw [hw] at HW
  have hz : ¬ (1460 : Int) < (x.size : Int) := by omega
  have hz0 : (n != 0) = false := by rw [h0]; rfl
  have hz1 : (r != 0) = false := by rw [h1]; rfl
  have ht : wordB t = true := wordsB_all hw t (by simp)
  have hs : wordB s = true := wordsB_all hw s (by simp)
  have HL := hid (fun W => lay_two 16386 (by decide) x (by omega) t s ht hs W)
  generalize layF 16386 x [t, s] = R at *
  clear h h0 h1 ht hs
  clear hw
  go_enter Tryz.func25, Tryz.ntmps25
  go_upto_region 1 with fail
  generalize w.alloc (.cells #[.int .i64 t, .int .i64 s, .bool false, .int .i64 n, .int .i64 r, .string x] 26) = W0 at *
  go_wp2_with fail
  refine (HW.out _).mono ?_
  rintro e w1 ⟨rfl, hk1⟩
  have HK1 := hid (HK.out.trans hk1)
  have HB1 := hid (HB.out.kept hk1)
  clear hk1 b0 b1 b2 b3 b4 b5 HK HB HW
  obtain ⟨b0, b1, b2, b3, b4, b5⟩ := HB1.out.cells
  go_wp2_with fail
  refine (HL.out _).mono ?_
  rintro e w2 ⟨rfl, hk2⟩
  have HK2 := hid (HK1.out.trans hk2)
  clear hk2
  go_wp2
  go_ret2
  exact ⟨rfl, HK2.out⟩

theorem mPutLoad_any (l : Ld) (hx : l.data.size ≤ 140737488351232) (w : World) :
    Calls Tryz.prog 25 #[ldV l] w fun e w' => e = .returned (.tuple #[.string (putLF l).1, .int .i64 (putLF l).2]) ∧ Kept (fun _ => False) w w' := by
  obtain ⟨t, s, q, n, r, x⟩ := l
  unfold putLF ldV
  dsimp only at hx ⊢
  cases hw : wordsB t s n r with
  | false =>
    rw [if_neg (by simp)]
    exact mPutL_no t s n r q x hx hw w
  | true =>
    cases q with
    | true =>
      rw [if_pos ⟨rfl, Or.inl rfl⟩]
      by_cases h : 1460 < x.size
      · rw [if_pos h]
        exact mPutL_longq t s n r x hx hw h w
      · rw [if_neg h, if_pos rfl]
        have := mPutL_seq t s n r x hx hw (by omega) w
        rw [layF_four, show (18434 : Int).toNat = 18434 from rfl, two_seq] at this
        exact this
    | false =>
      by_cases hn : n = 0
      · by_cases hr : r = 0
        · rw [if_pos ⟨rfl, Or.inr ⟨hn, hr⟩⟩]
          by_cases h : 1460 < x.size
          · rw [if_pos h]
            exact mPutL_long t s n r x hx hw hn hr h w
          · rw [if_neg h, if_neg (by simp)]
            have := mPutL_two t s n r x hx hw hn hr (by omega) w
            rw [layF_two, show (16386 : Int).toNat = 16386 from rfl, two_load] at this
            exact this
        · rw [if_neg (by simp [hr])]
          exact mPutL_nr t s n r x hx hw hn hr w
      · rw [if_neg (by simp [hn])]
        exact mPutL_ns t s n r x hx hw hn w

set_option maxHeartbeats 4000000 in
set_option maxRecDepth 100000 in
theorem mGetL_short (b : ByteArray) (h : b.size < 8) (w : World) :
    Calls Tryz.prog 27 #[.string b] w fun e w' => e = .returned (.tuple #[.agg #[.int .i64 0, .int .i64 0, .bool false, .int .i64 0, .int .i64 0, .string ⟨#[]⟩], .int .i64 5]) ∧ Kept (fun _ => False) w w' := by
  have hz : (b.size : Int) < 8 := by omega
  clear h
  obtain ⟨c0, c1, c2, c3, c4, c5⟩ := (LdAt.new w 0 0 false 0 0 ⟨#[]⟩).cells
  go_enter Tryz.func27, Tryz.ntmps27
  go_wp2
  refine bodyPost_ret (v := .tuple #[.agg #[.int .i64 0, .int .i64 0, .bool false, .int .i64 0, .int .i64 0, .string ⟨#[]⟩], .int .i64 5]) (by simp [results, Tryz.results27, go_sem, c0, c1, c2, c3, c4, c5]) rfl ⟨rfl, ?_⟩
  exact (Kept.refl _ w).alloc _

set_option maxHeartbeats 4000000 in
set_option maxRecDepth 100000 in
theorem mGetL_form (b : ByteArray) (hb : b.size ≤ 140737488351232) (h : 8 ≤ b.size) (h1 : ((numAt b 0 : Int) == 16386) = false) (h2 : ((numAt b 0 : Int) == 18434) = false) (w : World) :
    Calls Tryz.prog 27 #[.string b] w fun e w' => e = .returned (.tuple #[.agg #[.int .i64 0, .int .i64 0, .bool false, .int .i64 0, .int .i64 0, .string ⟨#[]⟩], .int .i64 4]) ∧ Kept (fun _ => False) w w' := by
  have hz : ¬ (b.size : Int) < 8 := by omega
  have HB := hid (LdAt.new w 0 0 false 0 0 ⟨#[]⟩)
  have HK := hid ((Kept.refl (fun _ => False) w).alloc (.cells #[.int .i64 0, .int .i64 0, .bool false, .int .i64 0, .int .i64 0, .string ⟨#[]⟩] 26))
  have HW := hid (fun W => mword_any b hb 0 (by omega) 0 rfl W)
  generalize numAt b 0 = N at *
  clear h
  go_enter Tryz.func27, Tryz.ntmps27
  go_upto_region 1 with fail
  generalize w.alloc (.cells #[.int .i64 0, .int .i64 0, .bool false, .int .i64 0, .int .i64 0, .string ⟨#[]⟩] 26) = W0 at *
  go_wp2_with fail
  refine (HW.out _).mono ?_
  rintro e w1 ⟨rfl, hk1⟩
  have HK1 := hid (HK.out.trans hk1)
  have HB1 := hid (HB.out.kept hk1)
  clear hk1 HK HB HW
  obtain ⟨z0, z1, z2, z3, z4, z5⟩ := (HB1.out).cells
  have f0 := (HB1.out).soft 0
  have f1 := (HB1.out).soft 1
  have f2 := (HB1.out).soft 2
  have f3 := (HB1.out).soft 3
  have f4 := (HB1.out).soft 4
  have f5 := (HB1.out).soft 5
  go_wp2
  refine bodyPost_ret (v := .tuple #[.agg #[.int .i64 0, .int .i64 0, .bool false, .int .i64 0, .int .i64 0, .string ⟨#[]⟩], .int .i64 4]) (by simp [results, Tryz.results27, go_sem, z0, z1, z2, z3, z4, z5]) rfl ⟨rfl, ?_⟩
  exact ((((((HK1.out).setCell (Or.inl (Nat.le_refl _)) _).setCell (Or.inl (Nat.le_refl _)) _).setCell (Or.inl (Nat.le_refl _)) _).setCell (Or.inl (Nat.le_refl _)) _).setCell (Or.inl (Nat.le_refl _)) _).setCell (Or.inl (Nat.le_refl _)) _

set_option maxHeartbeats 4000000 in
set_option maxRecDepth 100000 in
theorem mGetL_cut8 (b : ByteArray) (hb : b.size ≤ 140737488351232) (h : 8 ≤ b.size) (h1 : (numAt b 0 : Int) = 16386) (E : Int) (hE : E ≠ 0) (X : ByteArray) (hc : cutM b 8 = (X, E)) (w : World) :
    Calls Tryz.prog 27 #[.string b] w fun e w' => e = .returned (.tuple #[.agg #[.int .i64 0, .int .i64 0, .bool false, .int .i64 0, .int .i64 0, .string ⟨#[]⟩], .int .i64 E]) ∧ Kept (fun _ => False) w w' := by
  have hz : ¬ (b.size : Int) < 8 := by omega
  have HB := hid (LdAt.new w 0 0 false 0 0 ⟨#[]⟩)
  have HK := hid ((Kept.refl (fun _ => False) w).alloc (.cells #[.int .i64 0, .int .i64 0, .bool false, .int .i64 0, .int .i64 0, .string ⟨#[]⟩] 26))
  have HW := hid (fun W => mword_any b hb 0 (by omega) 0 rfl W)
  rw [h1] at HW
  have HC := hid (fun W => mcut_any b hb (by omega) 8 8 rfl W)
  rw [hc] at HC
  dsimp only at HC
  have hEz : (E != 0) = true := by rw [bne_iff_ne]; exact hE
  clear h hc hE h1
  go_enter Tryz.func27, Tryz.ntmps27
  go_upto_region 1 with fail
  generalize w.alloc (.cells #[.int .i64 0, .int .i64 0, .bool false, .int .i64 0, .int .i64 0, .string ⟨#[]⟩] 26) = W0 at *
  go_wp2_with fail
  refine (HW.out _).mono ?_
  rintro e w1 ⟨rfl, hk1⟩
  have HK1 := hid (HK.out.trans hk1)
  have HB1 := hid (HB.out.kept hk1)
  clear hk1 HK HB HW
  go_wp2_with fail
  refine (HC.out _).mono ?_
  rintro e w2 ⟨rfl, hk2⟩
  have HK2 := hid (HK1.out.trans hk2)
  have HB2 := hid (HB1.out.kept hk2)
  clear hk2 HK1 HB1 HC
  obtain ⟨z0, z1, z2, z3, z4, z5⟩ := (HB2.out).cells
  have f0 := (HB2.out).soft 0
  have f1 := (HB2.out).soft 1
  have f2 := (HB2.out).soft 2
  have f3 := (HB2.out).soft 3
  have f4 := (HB2.out).soft 4
  have f5 := (HB2.out).soft 5
  go_wp2
  refine bodyPost_ret (v := .tuple #[.agg #[.int .i64 0, .int .i64 0, .bool false, .int .i64 0, .int .i64 0, .string ⟨#[]⟩], .int .i64 E]) (by simp [results, Tryz.results27, go_sem, z0, z1, z2, z3, z4, z5]) rfl ⟨rfl, ?_⟩
  exact ((((((HK2.out).setCell (Or.inl (Nat.le_refl _)) _).setCell (Or.inl (Nat.le_refl _)) _).setCell (Or.inl (Nat.le_refl _)) _).setCell (Or.inl (Nat.le_refl _)) _).setCell (Or.inl (Nat.le_refl _)) _).setCell (Or.inl (Nat.le_refl _)) _

set_option maxHeartbeats 4000000 in
set_option maxRecDepth 100000 in
theorem mGetL_long8 (b : ByteArray) (hb : b.size ≤ 140737488351232) (h : 8 ≤ b.size) (h1 : (numAt b 0 : Int) = 16386) (X : ByteArray) (hX : 1460 < X.size) (hX2 : X.size ≤ 140737488351232) (hc : cutM b 8 = (X, 0)) (w : World) :
    Calls Tryz.prog 27 #[.string b] w fun e w' => e = .returned (.tuple #[.agg #[.int .i64 0, .int .i64 0, .bool false, .int .i64 0, .int .i64 0, .string ⟨#[]⟩], .int .i64 2]) ∧ Kept (fun _ => False) w w' := by
  have hz : ¬ (b.size : Int) < 8 := by omega
  have HB := hid (LdAt.new w 0 0 false 0 0 ⟨#[]⟩)
  have HK := hid ((Kept.refl (fun _ => False) w).alloc (.cells #[.int .i64 0, .int .i64 0, .bool false, .int .i64 0, .int .i64 0, .string ⟨#[]⟩] 26))
  have HW := hid (fun W => mword_any b hb 0 (by omega) 0 rfl W)
  rw [h1] at HW
  have HC := hid (fun W => mcut_any b hb (by omega) 8 8 rfl W)
  rw [hc] at HC
  dsimp only at HC
  have hXz : (1460 : Int) < (X.size : Int) := by omega
  clear h hc hX h1
  go_enter Tryz.func27, Tryz.ntmps27
  go_upto_region 1 with fail
  generalize w.alloc (.cells #[.int .i64 0, .int .i64 0, .bool false, .int .i64 0, .int .i64 0, .string ⟨#[]⟩] 26) = W0 at *
  go_wp2_with fail
  refine (HW.out _).mono ?_
  rintro e w1 ⟨rfl, hk1⟩
  have HK1 := hid (HK.out.trans hk1)
  have HB1 := hid (HB.out.kept hk1)
  clear hk1 HK HB HW
  go_wp2_with fail
  refine (HC.out _).mono ?_
  rintro e w2 ⟨rfl, hk2⟩
  have HK2 := hid (HK1.out.trans hk2)
  have HB2 := hid (HB1.out.kept hk2)
  clear hk2 HK1 HB1 HC
  obtain ⟨z0, z1, z2, z3, z4, z5⟩ := (HB2.out).cells
  have f0 := (HB2.out).soft 0
  have f1 := (HB2.out).soft 1
  have f2 := (HB2.out).soft 2
  have f3 := (HB2.out).soft 3
  have f4 := (HB2.out).soft 4
  have f5 := (HB2.out).soft 5
  go_wp2
  refine bodyPost_ret (v := .tuple #[.agg #[.int .i64 0, .int .i64 0, .bool false, .int .i64 0, .int .i64 0, .string ⟨#[]⟩], .int .i64 2]) (by simp [results, Tryz.results27, go_sem, z0, z1, z2, z3, z4, z5]) rfl ⟨rfl, ?_⟩
  exact ((((((HK2.out).setCell (Or.inl (Nat.le_refl _)) _).setCell (Or.inl (Nat.le_refl _)) _).setCell (Or.inl (Nat.le_refl _)) _).setCell (Or.inl (Nat.le_refl _)) _).setCell (Or.inl (Nat.le_refl _)) _).setCell (Or.inl (Nat.le_refl _)) _

set_option maxHeartbeats 4000000 in
set_option maxRecDepth 100000 in
theorem mGetL_ok8 (b : ByteArray) (hb : b.size ≤ 140737488351232) (h : 8 ≤ b.size) (h1 : (numAt b 0 : Int) = 16386) (X : ByteArray) (hX : X.size ≤ 1460) (hc : cutM b 8 = (X, 0)) (w : World) :
    Calls Tryz.prog 27 #[.string b] w fun e w' => e = .returned (.tuple #[.agg #[.int .i64 (numAt b 4 : Int), .int .i64 (numAt b 6 : Int), .bool false, .int .i64 0, .int .i64 0, .string X], .int .i64 0]) ∧ Kept (fun _ => False) w w' := by
  have hz : ¬ (b.size : Int) < 8 := by omega
  have HB := hid (LdAt.new w 0 0 false 0 0 ⟨#[]⟩)
  have HK := hid ((Kept.refl (fun _ => False) w).alloc (.cells #[.int .i64 0, .int .i64 0, .bool false, .int .i64 0, .int .i64 0, .string ⟨#[]⟩] 26))
  have HW := hid (fun W => mword_any b hb 0 (by omega) 0 rfl W)
  rw [h1] at HW
  have HC := hid (fun W => mcut_any b hb (by omega) 8 8 rfl W)
  rw [hc] at HC
  dsimp only at HC
  have hXz : ¬ (1460 : Int) < (X.size : Int) := by omega
  have HW4 := hid (fun W => mword_any b hb 4 (by omega) 4 rfl W)
  have HW6 := hid (fun W => mword_any b hb 6 (by omega) 6 rfl W)
  have HCl : Hid (∀ W, Calls Tryz.prog 54 #[.string X] W fun e w' => e = .returned (.string X) ∧ Kept (fun _ => False) W w') := fun W => (clone_any X W (by omega)).mono fun _ _ ⟨h1, h2⟩ => ⟨h1, kept_of h2⟩
  generalize numAt b 4 = N4 at *
  generalize numAt b 6 = N6 at *
  clear h hc hX h1
  go_enter Tryz.func27, Tryz.ntmps27
  go_upto_region 1 with fail
  generalize w.alloc (.cells #[.int .i64 0, .int .i64 0, .bool false, .int .i64 0, .int .i64 0, .string ⟨#[]⟩] 26) = W0 at *
  go_wp2_with fail
  refine (HW.out _).mono ?_
  rintro e w1 ⟨rfl, hk1⟩
  have HK1 := hid (HK.out.trans hk1)
  have HB1 := hid (HB.out.kept hk1)
  clear hk1 HK HB HW
  go_wp2_with fail
  refine (HC.out _).mono ?_
  rintro e w2 ⟨rfl, hk2⟩
  have HK2 := hid (HK1.out.trans hk2)
  have HB2 := hid (HB1.out.kept hk2)
  clear hk2 HK1 HB1 HC
  go_wp2_with fail
  refine (HW4.out _).mono ?_
  rintro e w3 ⟨rfl, hk3⟩
  have HK3 := hid (HK2.out.trans hk3)
  have HB3 := hid (HB2.out.kept hk3)
  clear hk3 HK2 HB2 HW4
  go_wp2_with fail
  refine (HW6.out _).mono ?_
  rintro e w4 ⟨rfl, hk4⟩
  have HK4 := hid (HK3.out.trans hk4)
  have HB4 := hid (HB3.out.kept hk4)
  clear hk4 HK3 HB3 HW6
  go_wp2_with fail
  refine (HCl.out _).mono ?_
  rintro e w5 ⟨rfl, hk5⟩
  have HK5 := hid (HK4.out.trans hk5)
  have HB5 := hid (HB4.out.kept hk5)
  clear hk5 HK4 HB4 HCl
  have HL5 := hid (LdAt.new w5 (N4 : Int) (N6 : Int) false 0 0 X)
  have HK6 := hid (HK5.out.alloc (.cells #[.int .i64 (N4 : Int), .int .i64 (N6 : Int), .bool false, .int .i64 0, .int .i64 0, .string X] 26))
  have HB6 := hid (HB5.out.kept ((Kept.refl (fun _ => False) w5).alloc (.cells #[.int .i64 (N4 : Int), .int .i64 (N6 : Int), .bool false, .int .i64 0, .int .i64 0, .string X] 26)))
  obtain ⟨y0, y1, y2, y3, y4, y5⟩ := HL5.out.cells
  obtain ⟨z0, z1, z2, z3, z4, z5⟩ := (HB6.out).cells
  have f0 := (HB6.out).soft 0
  have f1 := (HB6.out).soft 1
  have f2 := (HB6.out).soft 2
  have f3 := (HB6.out).soft 3
  have f4 := (HB6.out).soft 4
  have f5 := (HB6.out).soft 5
  go_wp2
  refine bodyPost_ret (v := .tuple #[.agg #[.int .i64 (N4 : Int), .int .i64 (N6 : Int), .bool false, .int .i64 0, .int .i64 0, .string X], .int .i64 0]) (by simp [results, Tryz.results27, go_sem, z0, z1, z2, z3, z4, z5]) rfl ⟨rfl, ?_⟩
  exact ((((((HK6.out).setCell (Or.inl (Nat.le_refl _)) _).setCell (Or.inl (Nat.le_refl _)) _).setCell (Or.inl (Nat.le_refl _)) _).setCell (Or.inl (Nat.le_refl _)) _).setCell (Or.inl (Nat.le_refl _)) _).setCell (Or.inl (Nat.le_refl _)) _

set_option maxHeartbeats 4000000 in
set_option maxRecDepth 100000 in
theorem mGetL_cut12 (b : ByteArray) (hb : b.size ≤ 140737488351232) (h : 8 ≤ b.size) (h1 : (numAt b 0 : Int) = 18434) (E : Int) (hE : E ≠ 0) (X : ByteArray) (hc : cutM b 12 = (X, E)) (w : World) :
    Calls Tryz.prog 27 #[.string b] w fun e w' => e = .returned (.tuple #[.agg #[.int .i64 0, .int .i64 0, .bool false, .int .i64 0, .int .i64 0, .string ⟨#[]⟩], .int .i64 E]) ∧ Kept (fun _ => False) w w' := by
  have hz : ¬ (b.size : Int) < 8 := by omega
  have HB := hid (LdAt.new w 0 0 false 0 0 ⟨#[]⟩)
  have HK := hid ((Kept.refl (fun _ => False) w).alloc (.cells #[.int .i64 0, .int .i64 0, .bool false, .int .i64 0, .int .i64 0, .string ⟨#[]⟩] 26))
  have HW := hid (fun W => mword_any b hb 0 (by omega) 0 rfl W)
  rw [h1] at HW
  have HC := hid (fun W => mcut_any b hb (by omega) 12 12 rfl W)
  rw [hc] at HC
  dsimp only at HC
  have hEz : (E != 0) = true := by rw [bne_iff_ne]; exact hE
  clear h hc hE h1
  go_enter Tryz.func27, Tryz.ntmps27
  go_upto_region 1 with fail
  generalize w.alloc (.cells #[.int .i64 0, .int .i64 0, .bool false, .int .i64 0, .int .i64 0, .string ⟨#[]⟩] 26) = W0 at *
  go_wp2_with fail
  refine (HW.out _).mono ?_
  rintro e w1 ⟨rfl, hk1⟩
  have HK1 := hid (HK.out.trans hk1)
  have HB1 := hid (HB.out.kept hk1)
  clear hk1 HK HB HW
  go_wp2_with fail
  refine (HC.out _).mono ?_
  rintro e w2 ⟨rfl, hk2⟩
  have HK2 := hid (HK1.out.trans hk2)
  have HB2 := hid (HB1.out.kept hk2)
  clear hk2 HK1 HB1 HC
  obtain ⟨z0, z1, z2, z3, z4, z5⟩ := (HB2.out).cells
  have f0 := (HB2.out).soft 0
  have f1 := (HB2.out).soft 1
  have f2 := (HB2.out).soft 2
  have f3 := (HB2.out).soft 3
  have f4 := (HB2.out).soft 4
  have f5 := (HB2.out).soft 5
  go_wp2
  refine bodyPost_ret (v := .tuple #[.agg #[.int .i64 0, .int .i64 0, .bool false, .int .i64 0, .int .i64 0, .string ⟨#[]⟩], .int .i64 E]) (by simp [results, Tryz.results27, go_sem, z0, z1, z2, z3, z4, z5]) rfl ⟨rfl, ?_⟩
  exact ((((((HK2.out).setCell (Or.inl (Nat.le_refl _)) _).setCell (Or.inl (Nat.le_refl _)) _).setCell (Or.inl (Nat.le_refl _)) _).setCell (Or.inl (Nat.le_refl _)) _).setCell (Or.inl (Nat.le_refl _)) _).setCell (Or.inl (Nat.le_refl _)) _

set_option maxHeartbeats 4000000 in
set_option maxRecDepth 100000 in
theorem mGetL_long12 (b : ByteArray) (hb : b.size ≤ 140737488351232) (h : 8 ≤ b.size) (h1 : (numAt b 0 : Int) = 18434) (X : ByteArray) (hX : 1460 < X.size) (hX2 : X.size ≤ 140737488351232) (hc : cutM b 12 = (X, 0)) (w : World) :
    Calls Tryz.prog 27 #[.string b] w fun e w' => e = .returned (.tuple #[.agg #[.int .i64 0, .int .i64 0, .bool false, .int .i64 0, .int .i64 0, .string ⟨#[]⟩], .int .i64 2]) ∧ Kept (fun _ => False) w w' := by
  have hz : ¬ (b.size : Int) < 8 := by omega
  have HB := hid (LdAt.new w 0 0 false 0 0 ⟨#[]⟩)
  have HK := hid ((Kept.refl (fun _ => False) w).alloc (.cells #[.int .i64 0, .int .i64 0, .bool false, .int .i64 0, .int .i64 0, .string ⟨#[]⟩] 26))
  have HW := hid (fun W => mword_any b hb 0 (by omega) 0 rfl W)
  rw [h1] at HW
  have HC := hid (fun W => mcut_any b hb (by omega) 12 12 rfl W)
  rw [hc] at HC
  dsimp only at HC
  have hXz : (1460 : Int) < (X.size : Int) := by omega
  clear h hc hX h1
  go_enter Tryz.func27, Tryz.ntmps27
  go_upto_region 1 with fail
  generalize w.alloc (.cells #[.int .i64 0, .int .i64 0, .bool false, .int .i64 0, .int .i64 0, .string ⟨#[]⟩] 26) = W0 at *
  go_wp2_with fail
  refine (HW.out _).mono ?_
  rintro e w1 ⟨rfl, hk1⟩
  have HK1 := hid (HK.out.trans hk1)
  have HB1 := hid (HB.out.kept hk1)
  clear hk1 HK HB HW
  go_wp2_with fail
  refine (HC.out _).mono ?_
  rintro e w2 ⟨rfl, hk2⟩
  have HK2 := hid (HK1.out.trans hk2)
  have HB2 := hid (HB1.out.kept hk2)
  clear hk2 HK1 HB1 HC
  obtain ⟨z0, z1, z2, z3, z4, z5⟩ := (HB2.out).cells
  have f0 := (HB2.out).soft 0
  have f1 := (HB2.out).soft 1
  have f2 := (HB2.out).soft 2
  have f3 := (HB2.out).soft 3
  have f4 := (HB2.out).soft 4
  have f5 := (HB2.out).soft 5
  go_wp2
  refine bodyPost_ret (v := .tuple #[.agg #[.int .i64 0, .int .i64 0, .bool false, .int .i64 0, .int .i64 0, .string ⟨#[]⟩], .int .i64 2]) (by simp [results, Tryz.results27, go_sem, z0, z1, z2, z3, z4, z5]) rfl ⟨rfl, ?_⟩
  exact ((((((HK2.out).setCell (Or.inl (Nat.le_refl _)) _).setCell (Or.inl (Nat.le_refl _)) _).setCell (Or.inl (Nat.le_refl _)) _).setCell (Or.inl (Nat.le_refl _)) _).setCell (Or.inl (Nat.le_refl _)) _).setCell (Or.inl (Nat.le_refl _)) _

set_option maxHeartbeats 4000000 in
set_option maxRecDepth 100000 in
theorem mGetL_ok12 (b : ByteArray) (hb : b.size ≤ 140737488351232) (h : 8 ≤ b.size) (h1 : (numAt b 0 : Int) = 18434) (h12 : 12 ≤ b.size) (X : ByteArray) (hX : X.size ≤ 1460) (hc : cutM b 12 = (X, 0)) (w : World) :
    Calls Tryz.prog 27 #[.string b] w fun e w' => e = .returned (.tuple #[.agg #[.int .i64 (numAt b 4 : Int), .int .i64 (numAt b 6 : Int), .bool true, .int .i64 (numAt b 8 : Int), .int .i64 (numAt b 10 : Int), .string X], .int .i64 0]) ∧ Kept (fun _ => False) w w' := by
  have hz : ¬ (b.size : Int) < 8 := by omega
  have HB := hid (LdAt.new w 0 0 false 0 0 ⟨#[]⟩)
  have HK := hid ((Kept.refl (fun _ => False) w).alloc (.cells #[.int .i64 0, .int .i64 0, .bool false, .int .i64 0, .int .i64 0, .string ⟨#[]⟩] 26))
  have HW := hid (fun W => mword_any b hb 0 (by omega) 0 rfl W)
  rw [h1] at HW
  have HC := hid (fun W => mcut_any b hb (by omega) 12 12 rfl W)
  rw [hc] at HC
  dsimp only at HC
  have hXz : ¬ (1460 : Int) < (X.size : Int) := by omega
  have HW4 := hid (fun W => mword_any b hb 4 (by omega) 4 rfl W)
  have HW6 := hid (fun W => mword_any b hb 6 (by omega) 6 rfl W)
  have HW8 := hid (fun W => mword_any b hb 8 (by omega) 8 rfl W)
  have HW10 := hid (fun W => mword_any b hb 10 (by omega) 10 rfl W)
  have HCl : Hid (∀ W, Calls Tryz.prog 54 #[.string X] W fun e w' => e = .returned (.string X) ∧ Kept (fun _ => False) W w') := fun W => (clone_any X W (by omega)).mono fun _ _ ⟨h1, h2⟩ => ⟨h1, kept_of h2⟩
  generalize numAt b 4 = N4 at *
  generalize numAt b 6 = N6 at *
  generalize numAt b 8 = N8 at *
  generalize numAt b 10 = N10 at *
  clear h hc hX h1
  go_enter Tryz.func27, Tryz.ntmps27
  go_upto_region 1 with fail
  generalize w.alloc (.cells #[.int .i64 0, .int .i64 0, .bool false, .int .i64 0, .int .i64 0, .string ⟨#[]⟩] 26) = W0 at *
  go_wp2_with fail
  refine (HW.out _).mono ?_
  rintro e w1 ⟨rfl, hk1⟩
  have HK1 := hid (HK.out.trans hk1)
  have HB1 := hid (HB.out.kept hk1)
  clear hk1 HK HB HW
  go_wp2_with fail
  refine (HC.out _).mono ?_
  rintro e w2 ⟨rfl, hk2⟩
  have HK2 := hid (HK1.out.trans hk2)
  have HB2 := hid (HB1.out.kept hk2)
  clear hk2 HK1 HB1 HC
  go_wp2_with fail
  refine (HW4.out _).mono ?_
  rintro e w3 ⟨rfl, hk3⟩
  have HK3 := hid (HK2.out.trans hk3)
  have HB3 := hid (HB2.out.kept hk3)
  clear hk3 HK2 HB2 HW4
  go_wp2_with fail
  refine (HW6.out _).mono ?_
  rintro e w4 ⟨rfl, hk4⟩
  have HK4 := hid (HK3.out.trans hk4)
  have HB4 := hid (HB3.out.kept hk4)
  clear hk4 HK3 HB3 HW6
  go_wp2_with fail
  refine (HCl.out _).mono ?_
  rintro e w5 ⟨rfl, hk5⟩
  have HK5 := hid (HK4.out.trans hk5)
  have HB5 := hid (HB4.out.kept hk5)
  clear hk5 HK4 HB4 HCl
  have HL6 := hid (LdAt.new w5 (N4 : Int) (N6 : Int) false 0 0 X)
  have HK6 := hid (HK5.out.alloc (.cells #[.int .i64 (N4 : Int), .int .i64 (N6 : Int), .bool false, .int .i64 0, .int .i64 0, .string X] 26))
  have HB6 := hid (HB5.out.kept ((Kept.refl (fun _ => False) w5).alloc (.cells #[.int .i64 (N4 : Int), .int .i64 (N6 : Int), .bool false, .int .i64 0, .int .i64 0, .string X] 26)))
  have HG := hid (And.intro HK5.out.size HB5.out.lt)
  clear HK5 HB5
  go_upto_region 15 with fail
  generalize w5.alloc (.cells #[.int .i64 (N4 : Int), .int .i64 (N6 : Int), .bool false, .int .i64 0, .int .i64 0, .string X] 26) = W6 at *
  generalize w5.heap.size = g at *
  go_wp2_with fail
  refine (HW8.out _).mono ?_
  rintro e w7 ⟨rfl, hk7⟩
  have HK7 := hid (HK6.out.trans hk7)
  have HB7 := hid (HB6.out.kept hk7)
  have HL7 := hid (HL6.out.kept hk7)
  clear hk7 HK6 HB6 HL6 HW8
  go_wp2_with fail
  refine (HW10.out _).mono ?_
  rintro e w8 ⟨rfl, hk8⟩
  have HK8 := hid (HK7.out.trans hk8)
  have HB8 := hid (HB7.out.kept hk8)
  have HL8 := hid (HL7.out.kept hk8)
  clear hk8 HK7 HB7 HL7 HW10
  obtain ⟨y0, y1, y2, y3, y4, y5⟩ := HL8.out.cells
  have k2 := HL8.out.soft 2
  have k3 := HL8.out.soft 3
  have k4 := HL8.out.soft 4
  have HLs := hid (LdAt.set3 HL8.out (N8 : Int) (N10 : Int))
  have hne : w.heap.size ≠ g := by have := HG.out.2; omega
  have HBs := hid (LdAt.other3 HB8.out hne (N8 : Int) (N10 : Int))
  have HKs := hid (((HK8.out.setCell (p := ⟨g, 2, none⟩) (Or.inl HG.out.1) (.bool true)).setCell (p := ⟨g, 3, none⟩) (Or.inl HG.out.1) (.int .i64 (N8 : Int))).setCell (p := ⟨g, 4, none⟩) (Or.inl HG.out.1) (.int .i64 (N10 : Int)))
  go_upto_region 17 with fail
  generalize ((w8.setCell ⟨g, 2, none⟩ (.bool true)).setCell ⟨g, 3, none⟩ (.int .i64 (N8 : Int))).setCell ⟨g, 4, none⟩ (.int .i64 (N10 : Int)) = W9 at *
  clear y0 y1 y2 y3 y4 y5
  obtain ⟨y0, y1, y2, y3, y4, y5⟩ := HLs.out.cells
  obtain ⟨z0, z1, z2, z3, z4, z5⟩ := (HBs.out).cells
  have f0 := (HBs.out).soft 0
  have f1 := (HBs.out).soft 1
  have f2 := (HBs.out).soft 2
  have f3 := (HBs.out).soft 3
  have f4 := (HBs.out).soft 4
  have f5 := (HBs.out).soft 5
  go_wp2
  refine bodyPost_ret (v := .tuple #[.agg #[.int .i64 (N4 : Int), .int .i64 (N6 : Int), .bool true, .int .i64 (N8 : Int), .int .i64 (N10 : Int), .string X], .int .i64 0]) (by simp [results, Tryz.results27, go_sem, z0, z1, z2, z3, z4, z5]) rfl ⟨rfl, ?_⟩
  exact ((((((HKs.out).setCell (Or.inl (Nat.le_refl _)) _).setCell (Or.inl (Nat.le_refl _)) _).setCell (Or.inl (Nat.le_refl _)) _).setCell (Or.inl (Nat.le_refl _)) _).setCell (Or.inl (Nat.le_refl _)) _).setCell (Or.inl (Nat.le_refl _)) _

theorem ldV0 (E : Int) : Value.tuple #[ldV (ld0, E).1, .int .i64 (ld0, E).2] = .tuple #[.agg #[.int .i64 0, .int .i64 0, .bool false, .int .i64 0, .int .i64 0, .string ⟨#[]⟩], .int .i64 E] := rfl
theorem mGetLoad_any (b : ByteArray) (hb : b.size ≤ 140737488351232) (w : World) :
    Calls Tryz.prog 27 #[.string b] w fun e w' => e = .returned (.tuple #[ldV (getLF b).1, .int .i64 (getLF b).2]) ∧ Kept (fun _ => False) w w' := by
  unfold getLF
  by_cases h8 : b.size < 8
  · rw [if_pos h8, ldV0]
    exact mGetL_short b h8 w
  rw [if_neg h8]
  have e := numAt_two b 0 (by omega)
  rw [Nat.zero_add] at e
  have l0 := byteN_lt b 0
  have l1 := byteN_lt b 1
  by_cases hf : (byteN b 0 ≠ 64 ∧ byteN b 0 ≠ 72) ∨ byteN b 1 ≠ 2
  · rw [if_pos hf, ldV0]
    exact mGetL_form b hb (by omega) (by rw [beq_eq_false_iff_ne]; omega) (by rw [beq_eq_false_iff_ne]; omega) w
  rw [if_neg hf]
  by_cases h2 : b.size < numAt b 2
  · rw [if_pos h2, ldV0]
    by_cases h64 : byteN b 0 = 64
    · exact mGetL_cut8 b hb (by omega) (by omega) 5 (by decide) ⟨#[]⟩ (by unfold cutM; rw [if_pos h2]) w
    · exact mGetL_cut12 b hb (by omega) (by omega) 5 (by decide) ⟨#[]⟩ (by unfold cutM; rw [if_pos h2]) w
  rw [if_neg h2]
  by_cases h72 : byteN b 0 = 72
  · have hh : headL b = 12 := by unfold headL; rw [if_pos h72]
    rw [hh]
    by_cases h3 : numAt b 2 < 12
    · rw [if_pos h3, ldV0]
      exact mGetL_cut12 b hb (by omega) (by omega) 4 (by decide) ⟨#[]⟩ (by unfold cutM; rw [if_neg h2, if_pos h3]) w
    rw [if_neg h3]
    have hc : cutM b 12 = (b.extract 12 (numAt b 2), 0) := by unfold cutM; rw [if_neg h2, if_neg h3]
    have hX : (b.extract 12 (numAt b 2)).size = numAt b 2 - 12 := by rw [ByteArray.size_extract]; omega
    by_cases h4 : 1460 < numAt b 2 - 12
    · rw [if_pos h4, ldV0]
      exact mGetL_long12 b hb (by omega) (by omega) _ (by omega) (by omega) hc w
    · rw [if_neg h4]
      unfold ldV
      dsimp only
      rw [if_pos h72, if_pos h72, decide_eq_true h72]
      exact mGetL_ok12 b hb (by omega) (by omega) (by omega) _ (by omega) hc w
  · have hh : headL b = 8 := by unfold headL; rw [if_neg h72]
    rw [hh]
    by_cases h3 : numAt b 2 < 8
    · rw [if_pos h3, ldV0]
      exact mGetL_cut8 b hb (by omega) (by omega) 4 (by decide) ⟨#[]⟩ (by unfold cutM; rw [if_neg h2, if_pos h3]) w
    rw [if_neg h3]
    have hc : cutM b 8 = (b.extract 8 (numAt b 2), 0) := by unfold cutM; rw [if_neg h2, if_neg h3]
    have hX : (b.extract 8 (numAt b 2)).size = numAt b 2 - 8 := by rw [ByteArray.size_extract]; omega
    by_cases h4 : 1460 < numAt b 2 - 8
    · rw [if_pos h4, ldV0]
      exact mGetL_long8 b hb (by omega) (by omega) _ (by omega) (by omega) hc w
    · rw [if_neg h4]
      unfold ldV
      dsimp only
      rw [if_neg h72, if_neg h72, decide_eq_false h72]
      exact mGetL_ok8 b hb (by omega) (by omega) _ (by omega) hc w

end Go.Proofs.YtkneogfeokckjaaGreatDoor

namespace Go.Proofs.YtkneogfeokckjaaGreatDoor
open Go.ChangeShapes Go.WideShapes Go.ChangeAt Go.RowKit Go.Joins

def InI64 (z : Int) : Prop := -9223372036854775808 ≤ z ∧ z ≤ 9223372036854775807
/-- The numbers of a control message are ints. -/
def CtNum (c : Ct) : Prop := InI64 c.tunnel ∧ InI64 c.session ∧ InI64 c.ns ∧ InI64 c.nr
/-- The numbers of a data message are ints. -/
def LdNum (l : Ld) : Prop := InI64 l.tunnel ∧ InI64 l.session ∧ InI64 l.ns ∧ InI64 l.nr
theorem cellsCtl : Tryz.prog.cellsOf 24 = 5 := by kernel_rfl
theorem cellsLoad : Tryz.prog.cellsOf 26 = 6 := by kernel_rfl
theorem cellsAvs : Tryz.prog.cellsOf 22 = 1 := by kernel_rfl
section
variable {H : Type} {enc : TypeId × Value → H} {w : World} {base : Nat} {spare : Nat → Bool} {held : Bool}

theorem open_avps_in {fuel : Nat} {v : Value} {d : DataW H} {p : List MemPlace} (hf' : DataW.trod enc Tryz.prog w base spare held fuel 22 [v] = some (d, p)) (hw : Wt Tryz.prog 22 d) : ∃ l : List Av, AvsIn w v l := by
  obtain ⟨l, h1, h2, h3, _⟩ := open_rows avCells RAv Tryz.underlying22 cellsAvp av0 (fun _ => by simp [avCells]) each_av hf'
  have hs : ∀ x ∈ l, ((-9223372036854775808 ≤ x.vendor ∧ x.vendor ≤ 9223372036854775807) ∧ (-9223372036854775808 ≤ x.type ∧ x.type ≤ 9223372036854775807)) ∧ x.value.size ≤ 140737488351232 := fun x hx => by
    obtain ⟨y, ⟨hb, z0, z1, z2, z3, rfl⟩, hwy⟩ := wt_list hw Tryz.underlying22 h3 x hx
    exact ⟨hb, wt_string (wt_field (j := 4) (d := .lit (.string x.value.data.toList)) hwy Tryz.underlying72 rfl rfl)⟩
  exact ⟨l, h1, h2, fun x hx => ⟨(hs x hx).1.1, (hs x hx).1.2, by have := (hs x hx).2; unfold maxLen; omega⟩, fun x hx => (hs x hx).2⟩

set_option maxRecDepth 100000 in
theorem open_ctl {r : Reach} {b0 : Nat} {v : Value} {d : DataW H} {p : List MemPlace} (hv : Value.okWide Tryz.prog w r b0 24 v) (h : DataW.Trod enc Tryz.prog w base spare held 24 v d p) (hw : Wt Tryz.prog 24 d) :
    ∃ (c : Ct) (u : Value), v = ctV c u ∧ CtNum c ∧ AvsIn w u c.avps := by
  obtain ⟨cs, rfl, hsz⟩ := okWide_struct Tryz.underlying24 hv
  obtain ⟨fuel, hf⟩ := h
  have hf' : DataW.trod enc Tryz.prog w base spare held fuel 24 cs.toList = some (d, p) := by simpa [Value.cells] using hf
  obtain ⟨xs, k, hk, hxy, _, hxl, hg⟩ := DataW.trod_struct Tryz.underlying24 hf'
  obtain ⟨L, hL⟩ : ∃ L, L = cs.toList := ⟨_, rfl⟩
  have hlen : L.length = 5 := by rw [hL, Array.length_toList, hsz, cellsCtl]
  rw [← hL] at hg
  match xs, hxl, L, hlen, hL with
  | [y0, y1, y2, y3, y4], _, [v0, v1, v2, v3, v4], _, hL =>
    have g0 := hg 0 _ rfl
    have g1 := hg 1 _ rfl
    have g2 := hg 2 _ rfl
    have g3 := hg 3 _ rfl
    have g4 := hg 4 _ rfl
    simp [cellsIntV, cellsAvs] at g0 g1 g2 g3 g4
    obtain ⟨i0, e0, _, w0⟩ := DataW.trod_int Tryz.underlying3 g0
    obtain ⟨i1, e1, _, w1⟩ := DataW.trod_int Tryz.underlying3 g1
    obtain ⟨i2, e2, _, w2⟩ := DataW.trod_int Tryz.underlying3 g2
    obtain ⟨i3, e3, _, w3⟩ := DataW.trod_int Tryz.underlying3 g3
    simp at e0 e1 e2 e3
    subst e0 e1 e2 e3
    have hd : d = .agg ([y0, y1, y2, y3, y4].map (·.1)) := congrArg Prod.fst hxy
    obtain ⟨l, hl⟩ := open_avps_in (d := y4.1) (p := y4.2) g4 (wt_field (j := 4) (d := y4.1) (hd ▸ hw) Tryz.underlying24 rfl rfl)
    refine ⟨⟨i0, i1, i2, i3, l⟩, v4, ?_, ⟨bounds_i64 w0, bounds_i64 w1, bounds_i64 w2, bounds_i64 w3⟩, hl⟩
    unfold ctV
    congr 1
    exact Array.toList_inj.1 hL.symm

set_option maxRecDepth 100000 in
theorem open_load {r : Reach} {b0 : Nat} {v : Value} {d : DataW H} {p : List MemPlace} (hv : Value.okWide Tryz.prog w r b0 26 v) (h : DataW.Trod enc Tryz.prog w base spare held 26 v d p) (hw : Wt Tryz.prog 26 d) :
    ∃ l : Ld, v = ldV l ∧ LdNum l ∧ l.data.size ≤ 140737488351232 := by
  obtain ⟨cs, rfl, hsz⟩ := okWide_struct Tryz.underlying26 hv
  obtain ⟨fuel, hf⟩ := h
  have hf' : DataW.trod enc Tryz.prog w base spare held fuel 26 cs.toList = some (d, p) := by simpa [Value.cells] using hf
  obtain ⟨xs, k, hk, hxy, _, hxl, hg⟩ := DataW.trod_struct Tryz.underlying26 hf'
  obtain ⟨L, hL⟩ : ∃ L, L = cs.toList := ⟨_, rfl⟩
  have hlen : L.length = 6 := by rw [hL, Array.length_toList, hsz, cellsLoad]
  rw [← hL] at hg
  match xs, hxl, L, hlen, hL with
  | [y0, y1, y2, y3, y4, y5], _, [v0, v1, v2, v3, v4, v5], _, hL =>
    have g0 := hg 0 _ rfl
    have g1 := hg 1 _ rfl
    have g2 := hg 2 _ rfl
    have g3 := hg 3 _ rfl
    have g4 := hg 4 _ rfl
    have g5 := hg 5 _ rfl
    simp [cellsIntV, cellsBoolV, cellsStrV] at g0 g1 g2 g3 g4 g5
    obtain ⟨i0, e0, _, w0⟩ := DataW.trod_int Tryz.underlying3 g0
    obtain ⟨i1, e1, _, w1⟩ := DataW.trod_int Tryz.underlying3 g1
    obtain ⟨q2, e2, _⟩ := DataW.trod_bool Tryz.underlying4 g2
    obtain ⟨i3, e3, _, w3⟩ := DataW.trod_int Tryz.underlying3 g3
    obtain ⟨i4, e4, _, w4⟩ := DataW.trod_int Tryz.underlying3 g4
    obtain ⟨x, e5, hy5, _⟩ := DataW.trod_string Tryz.underlying9 g5
    simp at e0 e1 e2 e3 e4 e5
    subst e0 e1 e2 e3 e4 e5
    have hd : d = .agg ([y0, y1, y2, y3, y4, y5].map (·.1)) := congrArg Prod.fst hxy
    have h5 : y5.1 = .lit (.string x.data.toList) := by rw [hy5]
    refine ⟨⟨i0, i1, q2, i3, i4, x⟩, ?_, ⟨bounds_i64 w0, bounds_i64 w1, bounds_i64 w3, bounds_i64 w4⟩, ?_⟩
    · unfold ldV
      congr 1
      exact Array.toList_inj.1 hL.symm
    · exact wt_string (wt_field (j := 5) (d := .lit (.string x.data.toList)) (hd ▸ hw) Tryz.underlying26 rfl (by simp [h5]))
end
end Go.Proofs.YtkneogfeokckjaaGreatDoor

namespace Go.Proofs.YtkneogfeokckjaaGreatDoor
open Go.RowKit

theorem ba_app_data (a b : ByteArray) : (a ++ b).data.toList = a.data.toList ++ b.data.toList := by rw [ByteArray.data_append, Array.toList_append]
theorem ba_app_assoc (a b c : ByteArray) : (a ++ b) ++ c = a ++ (b ++ c) := by
  apply bytes_ext
  simp only [ba_app_data, List.append_assoc]
theorem ba_nil_app (x : ByteArray) : (⟨#[]⟩ : ByteArray) ++ x = x := by
  apply bytes_ext
  rw [ba_app_data]
  rfl
theorem ba_app_nil (x : ByteArray) : x ++ (⟨#[]⟩ : ByteArray) = x := by
  apply bytes_ext
  rw [ba_app_data]
  exact List.append_nil _
theorem ba_nil {b : ByteArray} (h : b.size = 0) : b = ⟨#[]⟩ := by
  apply bytes_ext
  exact List.eq_nil_of_length_eq_zero (by rw [← Lib.size_eq]; exact h)
theorem ext_data (b : ByteArray) (i j : Nat) : (b.extract i j).data.toList = (b.data.toList.drop i).take (j - i) := Lib.extract_data b i j
theorem ext_left (a r : ByteArray) : (a ++ r).extract a.size (a ++ r).size = r := by
  apply bytes_ext
  rw [ext_data, ba_app_data, ByteArray.size_append, Lib.size_eq a, List.drop_left]
  exact List.take_of_length_le (by rw [← Lib.size_eq r]; omega)
theorem ext_part (a v r : ByteArray) : ((a ++ v) ++ r).extract a.size (a.size + v.size) = v := by
  apply bytes_ext
  rw [ext_data, ba_app_assoc, ba_app_data, Lib.size_eq a, List.drop_left, Nat.add_sub_cancel_left, ba_app_data, Lib.size_eq v, List.take_left]
theorem ext_more (a r : ByteArray) {m : Nat} (h : a.size ≤ m) : (a ++ r).extract 0 m = a ++ r.extract 0 (m - a.size) := by
  apply bytes_ext
  rw [ext_data, ba_app_data, ba_app_data, ext_data, List.drop_zero, List.drop_zero, Nat.sub_zero, Nat.sub_zero, List.take_append, ← Lib.size_eq, List.take_of_length_le (by rw [← Lib.size_eq]; exact h)]

theorem numAt_app (a r : ByteArray) (k : Nat) (h : k + 2 ≤ a.size) : numAt (a ++ r) k = numAt a k := by
  unfold numAt
  rw [ba_app_data, List.drop_append_of_le_length (by rw [← Lib.size_eq]; omega), List.take_append_of_le_length (by rw [List.length_drop, ← Lib.size_eq]; omega)]
theorem numAt_ext (a : ByteArray) (k m : Nat) (h : k + 2 ≤ m) : numAt (a.extract 0 m) k = numAt a k := by
  unfold numAt
  rw [ext_data, List.drop_zero, Nat.sub_zero, List.drop_take, List.take_take]
  congr 2
  omega
theorem numAt_low (n : Nat) (r : ByteArray) (h : n < 65536) : numAt (two n ++ r) 0 = n := by
  unfold numAt two
  rw [ba_app_data, List.drop_zero]
  have e : (low n 2).length = 2 := low_length n 2
  rw [show (⟨(low n 2).toArray⟩ : ByteArray).data.toList = low n 2 from rfl, List.take_append_of_le_length (by omega), List.take_of_length_le (by omega), numOf_low]
  omega
theorem numAt_skip (a r : ByteArray) (k : Nat) (h : a.size = k) : numAt (a ++ r) k = numAt r 0 := by
  unfold numAt
  rw [ba_app_data, ← h, Lib.size_eq a, List.drop_left, List.drop_zero]
theorem head_0 (x : Av) (n : Nat) (r : ByteArray) (h : 6 + n < 1024) : numAt (headF x n ++ r) 0 = shareN x.must x.hidden (6 + n) := by
  unfold headF
  rw [ba_app_assoc]
  exact numAt_low _ _ (shareN_lt h)
theorem head_2 (x : Av) (n : Nat) (r : ByteArray) (h : wordB x.vendor = true) : (numAt (headF x n ++ r) 2 : Int) = x.vendor := by
  have hv : 0 ≤ x.vendor ∧ x.vendor ≤ 65535 := by simpa [wordB] using h
  unfold headF
  rw [ba_app_assoc, numAt_skip _ _ 2 (two_size _), ba_app_assoc, numAt_low _ _ (by omega)]
  omega
theorem head_4 (x : Av) (n : Nat) (r : ByteArray) (h : wordB x.type = true) : (numAt (headF x n ++ r) 4 : Int) = x.type := by
  have hv : 0 ≤ x.type ∧ x.type ≤ 65535 := by simpa [wordB] using h
  unfold headF
  rw [← ba_app_assoc, ba_app_assoc, numAt_skip _ _ 4 (by rw [ByteArray.size_append, two_size, two_size]), numAt_low _ _ (by omega)]
  omega
theorem share_parts (must hidden : Bool) (n : Nat) (h : n < 1024) : shareN must hidden n % 1024 = n ∧ shareN must hidden n / 1024 % 16 = 0 ∧ hidB (shareN must hidden n) = hidden ∧ mustB (shareN must hidden n) = must := by
  unfold shareN hidB mustB
  cases must <;> cases hidden <;> simp <;> omega

/-- One value's bytes, and what is behind them, are cut into both. -/
theorem cut_laid (x : Av) (v r : ByteArray) (hn : namesB x = true) (hv : v.size ≤ mostF x.hidden) : cutF (laidA x v ++ r) = (⟨x.must, x.hidden, x.vendor, x.type, v⟩, r, 0) := by
  have hm : mostF x.hidden ≤ 1002 := by unfold mostF; split <;> omega
  have hs : (laidA x v ++ r).size = 6 + v.size + r.size := by rw [ByteArray.size_append, laidA_size]
  have ea : laidA x v ++ r = headF x v.size ++ (v ++ r) := ba_app_assoc _ _ _
  obtain ⟨p1, p2, p3, p4⟩ := share_parts x.must x.hidden (6 + v.size) (by omega)
  unfold namesB at hn
  simp only [Bool.and_eq_true] at hn
  have h0 : numAt (laidA x v ++ r) 0 = shareN x.must x.hidden (6 + v.size) := by rw [ea]; exact head_0 x v.size _ (by omega)
  have h2 : (numAt (laidA x v ++ r) 2 : Int) = x.vendor := by rw [ea]; exact head_2 x v.size _ hn.1
  have h4 : (numAt (laidA x v ++ r) 4 : Int) = x.type := by rw [ea]; exact head_4 x v.size _ hn.2
  unfold cutF
  rw [if_neg (by omega), h0, p1, p2, p3, p4, h2, h4, if_neg (by omega), if_neg (by omega), if_neg (by omega)]
  have e1 : (laidA x v ++ r).extract 6 (6 + v.size) = v := by
    have := ext_part (headF x v.size) v r
    rw [headF_size] at this
    exact this
  have e2 : (laidA x v ++ r).extract (6 + v.size) (laidA x v ++ r).size = r := by
    have := ext_left (laidA x v) r
    rw [laidA_size] at this
    exact this
  rw [e1, e2]
/-- A value that is cut is short. -/
theorem cut_short (x : Av) (v r : ByteArray) (m : Nat) (hv : v.size ≤ 1002) (h0 : 0 < m) (hm : m < 6 + v.size) : (cutF ((laidA x v ++ r).extract 0 m)).2.2 = 5 := by
  have hs : (laidA x v ++ r).size = 6 + v.size + r.size := by rw [ByteArray.size_append, laidA_size]
  have hx : ((laidA x v ++ r).extract 0 m).size = m := by rw [ByteArray.size_extract]; omega
  unfold cutF
  by_cases h6 : m < 6
  · rw [if_pos (by omega)]
  · have ea : laidA x v ++ r = headF x v.size ++ (v ++ r) := ba_app_assoc _ _ _
    have e0 : numAt ((laidA x v ++ r).extract 0 m) 0 = shareN x.must x.hidden (6 + v.size) := by
      rw [numAt_ext _ 0 m (by omega), ea]
      exact head_0 x v.size _ (by omega)
    obtain ⟨p1, p2, p3, p4⟩ := share_parts x.must x.hidden (6 + v.size) (by omega)
    rw [if_neg (by omega), e0, p1, p2, if_neg (by omega), if_pos (by omega)]

theorem unmask (k : Int) (s v x : ByteArray) : maskA true k s v (maskA false k s v x) = x := by
  apply bytes_ext
  exact unmask_mask _ _ _ (firstF_length _ _ _)
theorem show_hide (c : Cov) (k : Int) (x : ByteArray) (hx : x.size ≤ 1000) (h : (hideF c k x).2 = 0) : showF c k (hideF c k x).1 = (x, 0) := by
  unfold hideF at h ⊢
  split at h
  · rename_i h0
    rw [if_pos h0]
    have hs : (maskA false k c.secret c.vector (two x.size ++ x)).size = 2 + x.size := by rw [maskA_size, ByteArray.size_append, two_size]
    unfold showF
    rw [if_pos h0]
    simp only
    rw [if_neg (by omega), unmask, numAt_low _ _ (by omega), if_pos (by omega), hs]
    have e := ext_left (two x.size) x
    rw [ByteArray.size_append, two_size] at e
    rw [e]
  · rename_i h0
    exact absurd h h0

/-- What a value is laid as, and that it is told as it was. -/
theorem one_back {x : Av} {c : Cov} (h : (putOneF x c).2 = 0) : ∃ v : ByteArray, (putOneF x c).1 = laidA x v ∧ v.size ≤ 1002 ∧ (∀ r, cutF (laidA x v ++ r) = (⟨x.must, x.hidden, x.vendor, x.type, v⟩, r, 0)) ∧ toldF c ⟨x.must, x.hidden, x.vendor, x.type, v⟩ = (x, 0) := by
  unfold putOneF at h ⊢
  split at h
  · cases h
  rename_i hn
  rw [if_neg hn]
  have hn' : namesB x = true := by simpa using hn
  split at h
  · cases h
  rename_i hv
  rw [if_neg hv]
  split at h
  · rename_i hh
    rw [if_pos hh]
    split at h
    · rename_i h2
      rw [if_pos h2]
      have hds := hideF_size (c := c) (k := x.type) (x := x.value)
      refine ⟨_, rfl, by omega, fun r => cut_laid x _ r hn' (by rw [hh]; show _ ≤ 1002; omega), ?_⟩
      unfold toldF
      simp only [hh, if_true]
      rw [show_hide c x.type x.value (by omega) h2]
      obtain ⟨m, q, n, t, v⟩ := x
      simp only at hh
      subst hh
      rfl
    · rename_i h2
      exact absurd h h2
  · rename_i hh
    rw [if_neg hh]
    have hf : x.hidden = false := by simpa using hh
    refine ⟨_, rfl, by omega, fun r => cut_laid x _ r hn' (by rw [hf]; show _ ≤ 1000; omega), ?_⟩
    unfold toldF
    simp only [hf]
    obtain ⟨m, q, n, t, v⟩ := x
    simp only at hf
    subst hf
    rfl

/-- The bytes of some values, and that they can be laid. -/
def encA : List Av → Cov → ByteArray
  | [], _ => ⟨#[]⟩
  | x :: r, c => (putOneF x c).1 ++ encA r (passF c x)
def okA : List Av → Cov → Prop
  | [], _ => True
  | x :: r, c => (putOneF x c).2 = 0 ∧ okA r (passF c x)
theorem put_enc {l : List Av} {c : Cov} {acc S : ByteArray} (h : putOn acc l c = (S, 0)) : okA l c ∧ S = acc ++ encA l c := by
  induction l generalizing acc c with
  | nil =>
    simp only [putOn, Prod.mk.injEq, and_true] at h
    exact ⟨trivial, by rw [encA, ba_app_nil]; exact h.symm⟩
  | cons x r ih =>
    simp only [putOn] at h
    split at h
    · rename_i h0
      obtain ⟨h1, h2⟩ := ih h
      exact ⟨⟨h0, h1⟩, by rw [h2, encA, ba_app_assoc]⟩
    · rename_i h0
      exact absurd (congrArg Prod.snd h) h0
theorem get_enc {l : List Av} {c : Cov} {acc : List Av} (h : okA l c) (hn : acc.length + l.length ≤ 40) : getOn (encA l c) acc c = (acc ++ l, 0) := by
  induction l generalizing acc c with
  | nil =>
    rw [getOn_eq, encA, if_pos (show (⟨#[]⟩ : ByteArray).size = 0 from rfl), List.append_nil]
  | cons x r ih =>
    obtain ⟨h0, h1⟩ := h
    rw [List.length_cons] at hn
    obtain ⟨v, e1, hv, e2, e3⟩ := one_back h0
    rw [getOn_eq, encA, e1, e2]
    simp only
    rw [if_neg (by rw [ByteArray.size_append, laidA_size]; omega), if_pos trivial, if_neg (by omega), e3]
    simp only
    rw [if_pos trivial, ih h1 (by rw [List.length_append, List.length_singleton]; omega), List.append_assoc, List.singleton_append]
theorem get_cut {l : List Av} {c : Cov} {acc : List Av} (h : okA l c) (hn : acc.length + l.length ≤ 40) (m : Nat) (hm : m < (encA l c).size) :
    getOn ((encA l c).extract 0 m) acc c = ([], 5) ∨ ∃ k, k ≤ l.length ∧ getOn ((encA l c).extract 0 m) acc c = (acc ++ l.take k, 0) := by
  induction l generalizing acc c m with
  | nil => exact absurd hm (Nat.not_lt_zero _)
  | cons x r ih =>
    obtain ⟨h0, h1⟩ := h
    rw [List.length_cons] at hn
    obtain ⟨v, e1, hv, e2, e3⟩ := one_back h0
    rw [encA, e1] at hm ⊢
    by_cases hz : m = 0
    · subst hz
      refine Or.inr ⟨0, Nat.zero_le _, ?_⟩
      rw [getOn_eq, if_pos (by rw [ByteArray.size_extract]; omega), List.take_zero, List.append_nil]
    · by_cases hs : m < 6 + v.size
      · left
        rw [getOn_eq, cut_short x v _ m hv (by omega) hs, if_neg (by rw [ByteArray.size_extract]; omega), if_neg (by decide)]
      · have e4 := ext_more (laidA x v) (encA r (passF c x)) (m := m) (by rw [laidA_size]; omega)
        rw [laidA_size] at e4
        rw [ByteArray.size_append, laidA_size] at hm
        rw [e4, getOn_eq, e2]
        simp only
        rw [if_neg (by rw [ByteArray.size_append, laidA_size]; omega), if_pos trivial, if_neg (by omega), e3]
        simp only
        rw [if_pos trivial]
        rcases ih h1 (acc := acc ++ [x]) (by rw [List.length_append, List.length_singleton]; omega) (m - (6 + v.size)) (by omega) with hk | ⟨k, hk, hk2⟩
        · exact Or.inl hk
        · refine Or.inr ⟨k + 1, by rw [List.length_cons]; omega, ?_⟩
          rw [hk2, List.append_assoc, List.take_succ_cons, List.singleton_append]

/-- Where Put is well. -/
theorem putAF_ok {l : List Av} {s : ByteArray} (h : (putAF l s).2 = 0) : okA l (cov0 s) ∧ (putAF l s).1 = encA l (cov0 s) ∧ l.length ≤ 40 ∧ (putAF l s).1.size ≤ 1488 := by
  unfold putAF at h ⊢
  split at h
  · cases h
  rename_i h40
  rw [if_neg h40]
  split at h
  · rename_i h0
    rw [if_pos h0]
    split at h
    · cases h
    rename_i h8
    rw [if_neg h8]
    obtain ⟨h1, h2⟩ := put_enc (S := (putOn ⟨#[]⟩ l (cov0 s)).1) (Prod.ext rfl h0)
    exact ⟨h1, by rw [h2, ba_nil_app], by omega, by show (putOn ⟨#[]⟩ l (cov0 s)).1.size ≤ 1488; omega⟩
  · rename_i h0
    exact absurd h h0
theorem putAF_err {l : List Av} {s : ByteArray} (h : (putAF l s).2 ≠ 0) : (putAF l s).1 = ⟨#[]⟩ := by
  unfold putAF at h ⊢
  split
  · rfl
  split
  · split
    · rfl
    · rename_i h1 h2 h3
      rw [if_neg h1, if_pos h2, if_neg h3] at h
      exact absurd rfl h
  · rfl
theorem back_all {l : List Av} {s : ByteArray} (h : (putAF l s).2 = 0) : getAF (putAF l s).1 s = (l, 0) := by
  obtain ⟨h1, h2, h3, _⟩ := putAF_ok h
  rw [h2]
  exact get_enc h1 (by simpa using h3)
theorem back_cut {l : List Av} {s : ByteArray} (h : (putAF l s).2 = 0) (m : Nat) (hm : m < (putAF l s).1.size) : getAF ((putAF l s).1.extract 0 m) s = ([], 5) ∨ ∃ k, k ≤ l.length ∧ getAF ((putAF l s).1.extract 0 m) s = (l.take k, 0) := by
  obtain ⟨h1, h2, h3, _⟩ := putAF_ok h
  rw [h2] at hm ⊢
  exact get_cut h1 (by simpa using h3) m hm
end Go.Proofs.YtkneogfeokckjaaGreatDoor

namespace Go.Proofs.YtkneogfeokckjaaGreatDoor
open Go.RowKit

theorem numAt_add (a r : ByteArray) (k j : Nat) (h : a.size = k) : numAt (a ++ r) (k + j) = numAt r j := by
  subst h
  unfold numAt
  rw [ba_app_data, Lib.size_eq a, ← List.drop_drop, List.drop_left]
theorem byteN_two (A B : UInt8) (r : ByteArray) : byteN (⟨#[A, B]⟩ ++ r) 0 = A.toNat ∧ byteN (⟨#[A, B]⟩ ++ r) 1 = B.toNat := by
  unfold byteN
  rw [ba_app_data]
  exact ⟨rfl, rfl⟩
/-- A head of four words, and what stands behind it. -/
theorem head_four (A B : UInt8) (Z t s : Nat) (hZ : Z < 65536) (ht : t < 65536) (hs : s < 65536) (r : ByteArray) :
    numAt (⟨#[A, B]⟩ ++ (two Z ++ (two t ++ (two s ++ r)))) 2 = Z ∧ numAt (⟨#[A, B]⟩ ++ (two Z ++ (two t ++ (two s ++ r)))) 4 = t ∧ numAt (⟨#[A, B]⟩ ++ (two Z ++ (two t ++ (two s ++ r)))) 6 = s ∧ (∀ j, numAt (⟨#[A, B]⟩ ++ (two Z ++ (two t ++ (two s ++ r)))) (8 + j) = numAt r j) := by
  have h0 : (⟨#[A, B]⟩ : ByteArray).size = 2 := rfl
  refine ⟨?_, ?_, ?_, fun j => ?_⟩
  · rw [show (2 : Nat) = 2 + 0 from rfl, numAt_add _ _ 2 0 h0, numAt_low Z _ hZ]
  · rw [show (4 : Nat) = 2 + (2 + 0) from rfl, numAt_add _ _ 2 _ h0, numAt_add _ _ 2 _ (two_size Z), numAt_low t _ ht]
  · rw [show (6 : Nat) = 2 + (2 + (2 + 0)) from rfl, numAt_add _ _ 2 _ h0, numAt_add _ _ 2 _ (two_size Z), numAt_add _ _ 2 _ (two_size t), numAt_low s _ hs]
  · rw [show 8 + j = 2 + (2 + (2 + (2 + j))) by omega, numAt_add _ _ 2 _ h0, numAt_add _ _ 2 _ (two_size Z), numAt_add _ _ 2 _ (two_size t), numAt_add _ _ 2 _ (two_size s)]
theorem tail_two (n r : Nat) (hn : n < 65536) (hr : r < 65536) (x : ByteArray) : numAt (two n ++ (two r ++ x)) 0 = n ∧ numAt (two n ++ (two r ++ x)) 2 = r := by
  refine ⟨numAt_low n _ hn, ?_⟩
  rw [show (2 : Nat) = 2 + 0 from rfl, numAt_add _ _ 2 0 (two_size n), numAt_low r _ hr]
theorem size_pair (A B : UInt8) : (⟨#[A, B]⟩ : ByteArray).size = 2 := rfl
theorem raw_size (t s n r : Int) (x : ByteArray) : (rawF t s n r x).size = 12 + x.size := by
  unfold rawF
  simp only [ByteArray.size_append, two_size, size_pair]
theorem raw_app (t s n r : Int) (x m : ByteArray) : rawF t s n r x ++ m = ⟨#[200, 2]⟩ ++ (two (x.size + 12) ++ (two t.toNat ++ (two s.toNat ++ (two n.toNat ++ (two r.toNat ++ (x ++ m)))))) := by
  unfold rawF
  simp only [ba_app_assoc]
theorem raw_ext (t s n r : Int) (x m : ByteArray) : (rawF t s n r x ++ m).extract 12 (x.size + 12) = x := by
  unfold rawF
  have h := ext_part (⟨#[200, 2]⟩ ++ two (x.size + 12) ++ two t.toNat ++ two s.toNat ++ two n.toNat ++ two r.toNat) x m
  rw [show ((⟨#[200, 2]⟩ : ByteArray) ++ two (x.size + 12) ++ two t.toNat ++ two s.toNat ++ two n.toNat ++ two r.toNat).size = 12 from by simp only [ByteArray.size_append, two_size, size_pair], Nat.add_comm 12] at h
  exact h
theorem wordsB_parts {a b c d : Int} (h : wordsB a b c d = true) : (0 ≤ a ∧ a ≤ 65535) ∧ (0 ≤ b ∧ b ≤ 65535) ∧ (0 ≤ c ∧ c ≤ 65535) ∧ (0 ≤ d ∧ d ≤ 65535) := by
  simp only [wordsB, wordB, Bool.and_eq_true, decide_eq_true_eq] at h
  omega
theorem putCF_ok {c : Ct} {s : ByteArray} (h : (putCF c s).2 = 0) : wordsB c.tunnel c.session c.ns c.nr = true ∧ (putAF c.avps s).2 = 0 ∧ (putCF c s).1 = rawF c.tunnel c.session c.ns c.nr (putAF c.avps s).1 := by
  unfold putCF at h ⊢
  by_cases hw : wordsB c.tunnel c.session c.ns c.nr = true
  · rw [if_pos hw] at h ⊢
    by_cases ha : (putAF c.avps s).2 = 0
    · rw [if_pos ha]
      exact ⟨hw, ha, rfl⟩
    · rw [if_neg ha] at h
      exact absurd h ha
  · rw [if_neg hw] at h
    cases h
/-- A message that was put is got, with whatever behind it. -/
theorem getCF_put {c : Ct} {s : ByteArray} (h : (putCF c s).2 = 0) (m : ByteArray) : getCF ((putCF c s).1 ++ m) s = (c, 0) := by
  obtain ⟨hw, ha, hp⟩ := putCF_ok h
  have hb := back_all ha
  have hsz := (putAF_ok ha).2.2.2
  rw [hp]
  generalize (putAF c.avps s).1 = x at *
  obtain ⟨⟨h1, h1'⟩, ⟨h2, h2'⟩, ⟨h3, h3'⟩, ⟨h4, h4'⟩⟩ := wordsB_parts hw
  have e := raw_app c.tunnel c.session c.ns c.nr x m
  obtain ⟨k2, k4, k6, k8⟩ := head_four 200 2 (x.size + 12) c.tunnel.toNat c.session.toNat (by omega) (by omega) (by omega) (two c.ns.toNat ++ (two c.nr.toNat ++ (x ++ m)))
  obtain ⟨j0, j2⟩ := tail_two c.ns.toNat c.nr.toNat (by omega) (by omega) (x ++ m)
  have k10 := k8 2
  have k8 := k8 0
  rw [j2] at k10
  rw [j0] at k8
  have kb := byteN_two 200 2 (two (x.size + 12) ++ (two c.tunnel.toNat ++ (two c.session.toNat ++ (two c.ns.toNat ++ (two c.nr.toNat ++ (x ++ m))))))
  rw [← e] at k2 k4 k6 k8 k10 kb
  have hx := raw_ext c.tunnel c.session c.ns c.nr x m
  have hs : (rawF c.tunnel c.session c.ns c.nr x ++ m).size = 12 + x.size + m.size := by rw [ByteArray.size_append, raw_size]
  generalize rawF c.tunnel c.session c.ns c.nr x ++ m = b at *
  unfold getCF
  rw [if_neg (by omega), if_neg (by rw [kb.1, kb.2]; decide), if_neg (by omega), if_neg (by omega), k2, hx, hb, if_pos rfl, k4, k6, k8, k10]
  obtain ⟨ct, cs, cn, cr, l⟩ := c
  simp only at h1 h2 h3 h4 ⊢
  rw [Int.toNat_of_nonneg h1, Int.toNat_of_nonneg h2, Int.toNat_of_nonneg h3, Int.toNat_of_nonneg h4]
/-- A control message's bytes are no data message's. -/
theorem raw_load {c : Ct} {s : ByteArray} (h : (putCF c s).2 = 0) : isCF (putCF c s).1 = true ∧ (getLF (putCF c s).1).2 = 4 ∧ 12 ≤ (putCF c s).1.size ∧ (putCF c s).1.size ≤ 1500 := by
  obtain ⟨hw, ha, hp⟩ := putCF_ok h
  have hsz := (putAF_ok ha).2.2.2
  rw [hp]
  generalize (putAF c.avps s).1 = x at *
  have e := raw_app c.tunnel c.session c.ns c.nr x ⟨#[]⟩
  rw [ba_app_nil] at e
  have kb := byteN_two 200 2 (two (x.size + 12) ++ (two c.tunnel.toNat ++ (two c.session.toNat ++ (two c.ns.toNat ++ (two c.nr.toNat ++ (x ++ (⟨#[]⟩ : ByteArray)))))))
  rw [← e] at kb
  have hs := raw_size c.tunnel c.session c.ns c.nr x
  generalize rawF c.tunnel c.session c.ns c.nr x = b at *
  refine ⟨?_, ?_, by omega, by omega⟩
  · unfold isCF
    rw [decide_eq_true (show 0 < b.size by omega), kb.1]
    rfl
  · unfold getLF
    rw [if_neg (by omega), if_pos (by rw [kb.1, kb.2]; decide)]
theorem seq_size (A B : UInt8) (Z t s n r : Nat) (x : ByteArray) : ((⟨#[A, B]⟩ : ByteArray) ++ two Z ++ two t ++ two s ++ two n ++ two r ++ x).size = 12 + x.size := by simp only [ByteArray.size_append, two_size, size_pair]
theorem load_size (A B : UInt8) (Z t s : Nat) (x : ByteArray) : ((⟨#[A, B]⟩ : ByteArray) ++ two Z ++ two t ++ two s ++ x).size = 8 + x.size := by simp only [ByteArray.size_append, two_size, size_pair]
/-- How a data message's bytes are. -/
theorem putLF_ok {l : Ld} (h : (putLF l).2 = 0) : wordsB l.tunnel l.session l.ns l.nr = true ∧ l.data.size ≤ 1460 ∧ ((l.seq = true ∧ (putLF l).1 = ⟨#[72, 2]⟩ ++ two (l.data.size + 12) ++ two l.tunnel.toNat ++ two l.session.toNat ++ two l.ns.toNat ++ two l.nr.toNat ++ l.data) ∨ (l.seq = false ∧ l.ns = 0 ∧ l.nr = 0 ∧ (putLF l).1 = ⟨#[64, 2]⟩ ++ two (l.data.size + 8) ++ two l.tunnel.toNat ++ two l.session.toNat ++ l.data)) := by
  unfold putLF at h ⊢
  by_cases hw : wordsB l.tunnel l.session l.ns l.nr = true ∧ (l.seq = true ∨ (l.ns = 0 ∧ l.nr = 0))
  · rw [if_pos hw] at h ⊢
    by_cases hl : 1460 < l.data.size
    · rw [if_pos hl] at h
      cases h
    · rw [if_neg hl] at h ⊢
      refine ⟨hw.1, by omega, ?_⟩
      cases hq : l.seq with
      | true => rw [if_pos rfl]; exact Or.inl ⟨rfl, rfl⟩
      | false =>
        rw [if_neg (by simp)]
        rcases hw.2 with h' | h'
        · rw [hq] at h'
          cases h'
        · exact Or.inr ⟨rfl, h'.1, h'.2, rfl⟩
  · rw [if_neg hw] at h
    cases h
theorem getLF_put {l : Ld} (h : (putLF l).2 = 0) (m : ByteArray) : getLF ((putLF l).1 ++ m) = (l, 0) := by
  obtain ⟨hw, hz, hp⟩ := putLF_ok h
  obtain ⟨⟨h1, h1'⟩, ⟨h2, h2'⟩, ⟨h3, h3'⟩, ⟨h4, h4'⟩⟩ := wordsB_parts hw
  obtain ⟨lt, ls, lq, ln, lr, x⟩ := l
  simp only at hw hz hp h1 h1' h2 h2' h3 h3' h4 h4'
  rcases hp with ⟨rfl, hp⟩ | ⟨rfl, rfl, rfl, hp⟩
  · rw [hp]
    have e : (⟨#[72, 2]⟩ : ByteArray) ++ two (x.size + 12) ++ two lt.toNat ++ two ls.toNat ++ two ln.toNat ++ two lr.toNat ++ x ++ m = ⟨#[72, 2]⟩ ++ (two (x.size + 12) ++ (two lt.toNat ++ (two ls.toNat ++ (two ln.toNat ++ (two lr.toNat ++ (x ++ m)))))) := by simp only [ba_app_assoc]
    obtain ⟨k2, k4, k6, k8⟩ := head_four 72 2 (x.size + 12) lt.toNat ls.toNat (by omega) (by omega) (by omega) (two ln.toNat ++ (two lr.toNat ++ (x ++ m)))
    obtain ⟨j0, j2⟩ := tail_two ln.toNat lr.toNat (by omega) (by omega) (x ++ m)
    have k10 := k8 2
    have k8 := k8 0
    rw [j2] at k10
    rw [j0] at k8
    have kb := byteN_two 72 2 (two (x.size + 12) ++ (two lt.toNat ++ (two ls.toNat ++ (two ln.toNat ++ (two lr.toNat ++ (x ++ m))))))
    rw [← e] at k2 k4 k6 k8 k10 kb
    have hx := ext_part (⟨#[72, 2]⟩ ++ two (x.size + 12) ++ two lt.toNat ++ two ls.toNat ++ two ln.toNat ++ two lr.toNat) x m
    rw [show ((⟨#[72, 2]⟩ : ByteArray) ++ two (x.size + 12) ++ two lt.toNat ++ two ls.toNat ++ two ln.toNat ++ two lr.toNat).size = 12 from by simp only [ByteArray.size_append, two_size, size_pair], Nat.add_comm 12] at hx
    have hs : ((⟨#[72, 2]⟩ : ByteArray) ++ two (x.size + 12) ++ two lt.toNat ++ two ls.toNat ++ two ln.toNat ++ two lr.toNat ++ x ++ m).size = 12 + x.size + m.size := by rw [ByteArray.size_append, seq_size]
    generalize (⟨#[72, 2]⟩ : ByteArray) ++ two (x.size + 12) ++ two lt.toNat ++ two ls.toNat ++ two ln.toNat ++ two lr.toNat ++ x ++ m = b at *
    have hk : byteN b 0 = 72 := kb.1
    have hh : headL b = 12 := by unfold headL; rw [if_pos hk]
    unfold getLF
    rw [if_neg (by omega), if_neg (by rw [kb.1, kb.2]; decide), if_neg (by omega), hh, if_neg (by omega), if_neg (by omega), if_pos hk, if_pos hk, decide_eq_true hk, k2, hx, k4, k6, k8, k10, Int.toNat_of_nonneg h1, Int.toNat_of_nonneg h2, Int.toNat_of_nonneg h3, Int.toNat_of_nonneg h4]
  · rw [hp]
    have e : (⟨#[64, 2]⟩ : ByteArray) ++ two (x.size + 8) ++ two lt.toNat ++ two ls.toNat ++ x ++ m = ⟨#[64, 2]⟩ ++ (two (x.size + 8) ++ (two lt.toNat ++ (two ls.toNat ++ (x ++ m)))) := by simp only [ba_app_assoc]
    obtain ⟨k2, k4, k6, _⟩ := head_four 64 2 (x.size + 8) lt.toNat ls.toNat (by omega) (by omega) (by omega) (x ++ m)
    have kb := byteN_two 64 2 (two (x.size + 8) ++ (two lt.toNat ++ (two ls.toNat ++ (x ++ m))))
    rw [← e] at k2 k4 k6 kb
    have hx := ext_part (⟨#[64, 2]⟩ ++ two (x.size + 8) ++ two lt.toNat ++ two ls.toNat) x m
    rw [show ((⟨#[64, 2]⟩ : ByteArray) ++ two (x.size + 8) ++ two lt.toNat ++ two ls.toNat).size = 8 from by simp only [ByteArray.size_append, two_size, size_pair], Nat.add_comm 8] at hx
    have hs : ((⟨#[64, 2]⟩ : ByteArray) ++ two (x.size + 8) ++ two lt.toNat ++ two ls.toNat ++ x ++ m).size = 8 + x.size + m.size := by rw [ByteArray.size_append, load_size]
    generalize (⟨#[64, 2]⟩ : ByteArray) ++ two (x.size + 8) ++ two lt.toNat ++ two ls.toNat ++ x ++ m = b at *
    have hk : byteN b 0 ≠ 72 := by rw [kb.1]; decide
    have hh : headL b = 8 := by unfold headL; rw [if_neg hk]
    unfold getLF
    rw [if_neg (by omega), if_neg (by rw [kb.1, kb.2]; decide), if_neg (by omega), hh, if_neg (by omega), if_neg (by omega), if_neg hk, if_neg hk, decide_eq_false hk, k2, hx, k4, k6, Int.toNat_of_nonneg h1, Int.toNat_of_nonneg h2]
/-- A data message's bytes are no control message's, whatever stands behind them. -/
theorem load_raw {l : Ld} (h : (putLF l).2 = 0) : isCF (putLF l).1 = false ∧ (putLF l).1.size ≤ 1472 ∧ ∀ m s, 12 ≤ m.size → (getCF ((putLF l).1 ++ m) s).2 = 4 := by
  obtain ⟨hw, hz, hp⟩ := putLF_ok h
  have main : ∀ (b : ByteArray) (A : UInt8) (r : ByteArray), A.toNat < 128 → 0 < b.size → b = ⟨#[A, 2]⟩ ++ r → isCF b = false ∧ ∀ m s, 12 ≤ m.size → (getCF (b ++ m) s).2 = 4 := by
    rintro b A r hA hb rfl
    have kb := (byteN_two A 2 r).1
    refine ⟨?_, fun m s hm => ?_⟩
    · unfold isCF
      rw [kb, decide_eq_false (show ¬ 128 ≤ A.toNat by omega), Bool.and_false]
    · rw [ba_app_assoc]
      have kb := (byteN_two A 2 (r ++ m)).1
      unfold getCF
      rw [if_neg (by rw [← ba_app_assoc, ByteArray.size_append]; omega), if_pos (by rw [kb]; omega)]
  rcases hp with ⟨_, hp⟩ | ⟨_, _, _, hp⟩
  · have hs : (putLF l).1.size = 12 + l.data.size := by rw [hp, seq_size]
    obtain ⟨h1, h2⟩ := main (putLF l).1 72 _ (by decide) (by omega) (by rw [hp]; simp only [ba_app_assoc]; rfl)
    exact ⟨h1, by omega, h2⟩
  · have hs : (putLF l).1.size = 8 + l.data.size := by rw [hp, load_size]
    obtain ⟨h1, h2⟩ := main (putLF l).1 64 _ (by decide) (by omega) (by rw [hp]; simp only [ba_app_assoc]; rfl)
    exact ⟨h1, by omega, h2⟩
end Go.Proofs.YtkneogfeokckjaaGreatDoor

namespace Go.Proofs.YtkneogfeokckjaaGreatDoor
open Go.RowKit

def ldCells (l : Ld) : List Value := [.int .i64 l.tunnel, .int .i64 l.session, .bool l.seq, .int .i64 l.ns, .int .i64 l.nr, .string l.data]
theorem ldLits (d : Nat) {l : Ld} (h : LdNum l) (hx : l.data.size ≤ maxLen) : Tryz.prog.keyLits (d + 2) 26 (ldCells l) = some [.int .i64 l.tunnel, .int .i64 l.session, .bool l.seq, .int .i64 l.ns, .int .i64 l.nr, .string l.data.data.toList] := by
  have hb : ∀ q : Bool, Tryz.prog.keyLits (d + 1) 4 [.bool q] = some [.bool q] := fun q => by
    unfold Program.keyLits
    rw [Tryz.underlying4]
  have hn : ∀ z : Int, -9223372036854775808 ≤ z ∧ z ≤ 9223372036854775807 → Tryz.prog.keyLits (d + 1) 3 [.int .i64 z] = some [.int .i64 z] := fun z hz => by
    unfold Program.keyLits
    rw [Tryz.underlying3]
    simp [WalkArith.wf_i64 hz]
  have hs : Tryz.prog.keyLits (d + 1) 9 [.string l.data] = some [.string l.data.data.toList] := by
    unfold Program.keyLits
    rw [Tryz.underlying9]
    simp [hx]
  unfold Program.keyLits
  rw [Tryz.underlying26]
  simp [cellsLoad, cellsBoolV, cellsIntV, cellsStrV, ldCells, hb, hn _ h.1, hn _ h.2.1, hn _ h.2.2.1, hn _ h.2.2.2, hs]
set_option maxRecDepth 100000 in
theorem ld_eqIn {l : Ld} (h : LdNum l) (hx : l.data.size ≤ maxLen) (W : World) : Sem.run Tryz.prog (Op.equalIn 10000 26 (ldV l) (ldV l)) W = .ok true W := by
  have hk : Tryz.prog.keyTypeAt 2 26 = true := by kernel_rfl
  have hf : (ldV l).formed Tryz.prog 26 = true := by simp [ldV, Value.formed, Tryz.underlying26, cellsLoad]
  obtain ⟨r, hr, hiff⟩ := run_equalIn_deep (P := Tryz.prog) 9998 2 26 hk W 2 2 (ldV l) (ldV l) _ _ hf hf (ldLits 0 h hx) (ldLits 0 h hx)
  have hr' : (Op.equalIn 10000 26 (ldV l) (ldV l)).run Tryz.prog W = .ok r W := hr
  rw [hr', hiff.2 rfl]
theorem ld_neq {l : Ld} (h : LdNum l) (hx : l.data.size ≤ maxLen) (W : World) : (binOp .neq 26 (ldV l) (ldV l)).run Tryz.prog W = .ok (.bool false) W := by
  have e := ld_eqIn h hx W
  unfold ldV at e ⊢
  rw [run_neq_struct, e]
  rfl
theorem putA_light (u : Value) (l : List Av) (s : ByteArray) (w : World) (hI : AvsIn w u l) (hs : s.size ≤ 1000000) (hM : MaskAt w) : ∀ W, Kept (fun _ => False) w W → Calls Tryz.prog 34 #[u, .string s] W fun e w' => e = .returned (.tuple #[.string (putAF l s).1, .int .i64 (putAF l s).2]) ∧ Kept (fun _ => False) W w' := fun W hk => by
  by_cases h : 40 < l.length
  · exact putA_many u l s W (hI.kept hk).at_ h
  · exact putA_few u l s W (hI.kept hk).at_ (by omega) hs hI.size (fun _ _ => hM.kept hk)
theorem putAF_size (l : List Av) (s : ByteArray) : (putAF l s).1.size ≤ 1488 := by
  by_cases h : (putAF l s).2 = 0
  · exact (putAF_ok h).2.2.2
  · rw [putAF_err h]
    exact Nat.zero_le _
/-- msg.Put at every list. -/
theorem putM_any (c : Ct) (u : Value) (s : ByteArray) (w : World) (hI : AvsIn w u c.avps) (hs : s.size ≤ 1000000) (hM : MaskAt w) :
    Calls Tryz.prog 7 #[ctV c u, .string s] w fun e w' => e = .returned (.tuple #[.string (putCF c s).1, .int .i64 (putCF c s).2]) ∧ Kept (fun _ => False) w w' := by
  obtain ⟨p, k, rfl⟩ := RowsAt.slice hI.at_
  refine (mPut_any c.tunnel c.session c.ns c.nr p c.avps.length k s w (putAF c.avps s).1 (putAF c.avps s).2 (putA_light _ _ s w hI hs hM) (Nat.le_trans (putAF_size _ _) (by decide))).mono ?_
  rintro e w1 ⟨rfl, hk⟩
  refine ⟨?_, hk⟩
  unfold putCF
  by_cases hw : wordsB c.tunnel c.session c.ns c.nr = true
  · rw [if_pos hw, if_pos hw, if_pos hw]
    by_cases ha : (putAF c.avps s).2 = 0
    · rw [if_pos ha, if_pos ha, ha]
    · rw [if_neg ha, if_neg ha]
  · rw [if_neg hw, if_neg hw, if_neg hw]
end Go.Proofs.YtkneogfeokckjaaGreatDoor

namespace Go.Proofs.YtkneogfeokckjaaGreatDoor
open Go.RowKit

theorem i64_and65535 (n : Int) : bits .and .i64 n 65535 = n % 65536 := by
  have h127 : (BitVec.ofInt 64 65535).toNat = 2 ^ 16 - 1 := by decide
  have key : (BitVec.ofInt 64 n &&& BitVec.ofInt 64 65535).toNat = (n % ((2 ^ 64 : Nat) : Int)).toNat % 2 ^ 16 := by
    rw [BitVec.toNat_and, BitVec.toNat_ofInt, h127, Nat.and_two_pow_sub_one_eq_mod]
  show IntKind.i64.wrap ((BitVec.ofInt 64 n &&& BitVec.ofInt 64 65535).toNat : Nat) = n % 65536
  rw [key, IntKind.wrap_i64]
  omega
theorem numV_two (k : Int) : numV k 2 = ⟨#[UInt8.ofNat (k / 256 % 256).toNat, UInt8.ofNat (k % 256).toNat]⟩ := by
  unfold numV
  rw [if_neg (by decide)]
  simp [lowI]
theorem numV_size (k : Int) : (numV k 2).size = 2 := by rw [numV_two]; rfl
theorem numAt_numV (k : Int) : (numAt (numV k 2) 0 : Int) = k % 65536 := by
  rw [numAt_two _ _ (by rw [numV_size]; omega), numV_two]
  unfold byteN
  simp
  omega
def headH (k : Int) : Av := ⟨true, true, 0, 0, numV k 2⟩
theorem kind_head (k : Int) (l : List Av) : kindF (headK k :: l) = k % 65536 := by
  show (if (0 : Int) = 0 ∧ (0 : Int) = 0 ∧ false = false ∧ (numV k 2).size = 2 then (numAt (numV k 2) 0 : Int) else -1) = _
  rw [if_pos ⟨rfl, rfl, rfl, numV_size k⟩, numAt_numV]
theorem kind_hid (k : Int) (l : List Av) : kindF (headH k :: l) = -1 := by
  show (if (0 : Int) = 0 ∧ (0 : Int) = 0 ∧ true = false ∧ (numV k 2).size = 2 then (numAt (numV k 2) 0 : Int) else -1) = _
  rw [if_neg (by simp)]
end Go.Proofs.YtkneogfeokckjaaGreatDoor
