/- What the law AcRoom needs: small numbers' bits, a Padt of session nought, counts over lists of sessions. -/
import Derived.Test.YtgaamehjdoakhaaDoorAcAskAt
namespace Go.Proofs.YtgaamehjdoakhaaDoor
open Go.RowKit

theorem and_small (x : Int) (m : Nat) (hm : m < 9223372036854775808) : ∃ k : Nat, k ≤ m ∧ bits .and .i64 x (m : Int) = (k : Int) := by
  have h1 : (BitVec.ofInt 64 x).toNat &&& m ≤ m := Nat.and_le_right
  refine ⟨(BitVec.ofInt 64 x).toNat &&& m, h1, ?_⟩
  show IntKind.i64.wrap ((BitVec.ofInt 64 x &&& BitVec.ofInt 64 (m : Int)).toNat : Int) = _
  rw [BitVec.toNat_and, ofInt_i64 m hm, IntKind.wrap_i64]
  omega
theorem u8_small (y : Int) : ∃ k : Nat, k < 256 ∧ IntKind.u8.wrap y = (k : Int) := by
  refine ⟨(IntKind.u8.wrap y).toNat, ?_, ?_⟩
  · rw [IntKind.wrap_u8]; omega
  · rw [IntKind.wrap_u8]; omega

/-- A card of one small byte. -/
def crd (k : Nat) : List UInt8 := [UInt8.ofNat k, 0, 0, 0, 0, 0]
theorem own_byte (w : World) (u : Nat) (hu : u < 256) : (w.alloc (.cells #[.int .u8 (u : Int)] 5)).ownsRow 0 5 1 (.slice (some ⟨w.heap.size, 0, none⟩) 1 1) 1 (Lib.byteCells [UInt8.ofNat u]) := by
  have e : ((UInt8.ofNat u).toNat : Int) = (u : Int) := by rw [UInt8.toNat_ofNat_of_lt' (show u < 2 ^ 8 by omega)]
  refine ⟨rfl, Or.inr ⟨w.heap.size, 1, #[.int .u8 (u : Int)], rfl, Nat.zero_le _, heap_alloc_new w _, Nat.le_refl _, by unfold maxLen; omega, rfl, ?_⟩⟩
  show [Value.int .u8 (u : Int)] = [Value.int .u8 ((UInt8.ofNat u).toNat : Int)]
  rw [e]
theorem own_byte_kept (w : World) (u : Nat) (hu : u < 256) {W : World} (hk : Kept (fun _ => False) (w.alloc (.cells #[.int .u8 (u : Int)] 5)) W) : W.ownsRow 0 5 1 (.slice (some ⟨w.heap.size, 0, none⟩) 1 1) 1 (Lib.byteCells [UInt8.ofNat u]) := owned_kept (own_byte w u hu) hk (fun _ _ => id)
theorem crd_cells {k : Nat} (h : k ≤ 7) : Lib.byteCells (crd k) = [.int .u8 (k : Int), .int .u8 0, .int .u8 0, .int .u8 0, .int .u8 0, .int .u8 0] := by
  have e : ((UInt8.ofNat k).toNat : Int) = (k : Int) := by rw [UInt8.toNat_ofNat_of_lt' (show k < 2 ^ 8 by omega)]
  show [Value.int .u8 ((UInt8.ofNat k).toNat : Int), .int .u8 0, .int .u8 0, .int .u8 0, .int .u8 0, .int .u8 0] = _
  rw [e]
theorem crd_not {k : Nat} (h : k ≤ 7) : ¬ crd k = m9 := fun e => by
  have e1 := congrArg (fun l => (l.headD 0).toNat) e
  have e2 : (UInt8.ofNat k).toNat = k := UInt8.toNat_ofNat_of_lt' (show k < 2 ^ 8 by omega)
  change (UInt8.ofNat k).toNat = 9 at e1
  omega
def uK (k : Nat) : ByteArray := ⟨#[UInt8.ofNat k]⟩

/-- What holds of the concentrator of the law, round for round. -/
structure RoomC (most : Int) (i : Nat) (c : Cs) : Prop where
  good : Good c
  mac : c.mac = m9
  secret : c.secret = sB
  most : c.most = most
  gone : c.gone.length ≤ i

theorem most_ask (c : Cs) (h : List UInt8) (u : ByteArray) : (askS c h u).most = c.most := by
  unfold askS
  rw [admit_e]
  split
  · rfl
  · split
    · rfl
    · rfl
theorem RoomC.ask {most : Int} {i : Nat} {c : Cs} (h : RoomC most i c) {m : List UInt8} (hm : m.length = 6) (u : ByteArray) : RoomC most (i + 1) (askS c m u) := by
  obtain ⟨e1, e2, e3⟩ := mac_ask c m u
  exact ⟨good_ask h.good hm u, e1.trans h.mac, e2.trans h.secret, (most_ask c m u).trans h.most, by rw [e3]; have := h.gone; omega⟩
theorem RoomC.ends {most : Int} {i : Nat} {c : Cs} (h : RoomC most i c) (hi : i ≤ 200) {m : List UInt8} (hm : m.length = 6) (n : Int) : RoomC most (i + 1) (endF c m n) := by
  refine ⟨good_end h.good (by have := h.gone; omega) hm n, ?_, ?_, ?_, ?_⟩
  · unfold endF; split <;> exact h.mac
  · unfold endF; split <;> exact h.secret
  · unfold endF; split <;> exact h.most
  · have := h.gone
    unfold endF
    split
    · show (c.gone ++ [(m, n)]).length ≤ _
      rw [List.length_append]
      simp
      omega
    · omega
theorem RoomC.up {most : Int} {i : Nat} {c : Cs} (h : RoomC most i c) : RoomC most (i + 1) c := ⟨h.good, h.mac, h.secret, h.most, by have := h.gone; omega⟩

/-- How many of the first j are of one card. -/
def ownN (L : List Sn) (m : List UInt8) (j : Nat) : Nat := ((L.take j).filter (isOfMac m)).length
theorem own_yes {L : List Sn} {m : List UInt8} {j : Nat} {x : Sn} (hx : L[j]? = some x) (h : x.mac = m) : ownN L m (j + 1) = ownN L m j + 1 := by
  unfold ownN
  rw [take_next hx, List.filter_append, List.length_append]
  have : [x].filter (isOfMac m) = [x] := by simp [isOfMac, h]
  rw [this]
  rfl
theorem own_no {L : List Sn} {m : List UInt8} {j : Nat} {x : Sn} (hx : L[j]? = some x) (h : ¬ x.mac = m) : ownN L m (j + 1) = ownN L m j := by
  unfold ownN
  rw [take_next hx, List.filter_append, List.length_append]
  have : [x].filter (isOfMac m) = [] := by simp [isOfMac, h]
  rw [this]
  rfl
theorem own_le {L : List Sn} {c : Cs} (hg : Good c) (hp : L.Perm c.sess) (m : List UInt8) : ownN L m L.length ≤ 2 := by
  unfold ownN
  rw [List.take_length]
  have h1 := hg.each m
  unfold eachF at h1
  rw [← (hp.filter (isOfMac m)).length_eq] at h1
  exact h1
theorem nums_apart {L : List Sn} {c : Cs} (hg : Good c) (hp : L.Perm c.sess) {i j : Nat} {x y : Sn} (hi : L[i]? = some x) (hj : L[j]? = some y) (hne : ¬ j = i) : ¬ y.num = x.num := by
  have hpw : L.Pairwise (fun x y => x.num ≠ y.num) := (List.Perm.pairwise_iff (fun h => Ne.symm h) hp).2 hg.nums
  obtain ⟨hi1, hi2⟩ := List.getElem?_eq_some_iff.1 hi
  obtain ⟨hj1, hj2⟩ := List.getElem?_eq_some_iff.1 hj
  rcases Nat.lt_or_gt_of_ne hne with h | h
  · have := List.pairwise_iff_getElem.1 hpw j i hj1 hi1 h
    rw [hi2, hj2] at this
    exact this
  · have := List.pairwise_iff_getElem.1 hpw i j hi1 hj1 h
    rw [hi2, hj2] at this
    exact fun e => this e.symm
theorem padt_at {S : Nat → Prop} {W : World} {B : Nat} {c : Cs} (hA : CAt S W B c) (hg : Good c) (hgl : c.gone.length + 1 ≤ 1000000) (hmac : c.mac = m9) {h : List UInt8} (hh : h.length = 6) (hne : ¬ h = m9) {ses : Nat} (hs0 : ses ≠ 0) (hs : ses ≤ 65535) (t : Int) :
    Calls Tryd.prog 12 #[.pointer (some ⟨B, 0, none⟩), frV (askedF h m9 167 (ses : Int) []), .int .i64 t] W fun e w' => e = .returned (.slice none 0 0) ∧ CNext S W w' B (endF c h (ses : Int)) := by
  have hl : AskOk [] := ⟨by simp, by simp, by simp [sizeT]⟩
  exact take_padt B c hg m9 h rfl hh (askedF h m9 167 (ses : Int) []).data (hl.dsize (code := 167) (by omega) hs h m9) t ses (bytesT []) [] (by simp [bytesT]) (hl.get (code := 167) (by omega) hs h m9) hl.tags hl.few hs hgl W hA (by rw [hmac]; exact hne) hmac.symm hs0
theorem padt0_at {S : Nat → Prop} {W : World} {B : Nat} {c : Cs} (hA : CAt S W B c) (hg : Good c) (hmac : c.mac = m9) {h : List UInt8} (hh : h.length = 6) (hne : ¬ h = m9) (t : Int) :
    Calls Tryd.prog 12 #[.pointer (some ⟨B, 0, none⟩), frV (askedF h m9 167 0 []), .int .i64 t] W fun e w' => e = .returned (.slice none 0 0) ∧ Kept (fun _ => False) W w' := by
  have hl : AskOk [] := ⟨by simp, by simp, by simp [sizeT]⟩
  exact take_padt0 B c hg m9 h rfl hh (askedF h m9 167 0 []).data (hl.dsize (code := 167) (ses := 0) (by omega) (by omega) h m9) t 0 (bytesT []) [] (by simp [bytesT]) (hl.get (code := 167) (ses := 0) (by omega) (by omega) h m9) hl.tags hl.few W hA (by rw [hmac]; exact hne) hmac.symm rfl

/-- From a concentrator under way to a law's own one. -/
theorem CMine.go {S1 : Nat → Prop} {wA W W' : World} {B : Nat} {c : Cs} (hk : Kept (fun _ => False) wA W) (hS : ∀ i, S1 i → wA.heap.size ≤ i) (hn : CNext S1 W W' B c) : CMine wA W' B c := by
  obtain ⟨S2, h1, h2, h3⟩ := hn
  refine ⟨S2, h1, fun i hi => Or.inr ?_, hk.andThen h3 (fun i hi t => absurd (hS i t) (by omega))⟩
  rcases h2 i hi with h | h
  · exact hS i h
  · exact Nat.le_trans hk.size h
end Go.Proofs.YtgaamehjdoakhaaDoor
