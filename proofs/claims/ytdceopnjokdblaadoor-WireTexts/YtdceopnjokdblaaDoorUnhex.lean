/- The contracts of wire.nibble and wire.Unhex: the bytes of such digits, or the error; for every string of at most 2^40 bytes. -/
import Derived.Test.YtdceopnjokdblaaDoorHex
namespace Go.Proofs.YtdceopnjokdblaaDoor
open Go.RowKit

def nibF (c : Nat) : Nat × Bool := if 48 ≤ c ∧ c ≤ 57 then (c - 48, true) else if 97 ≤ c ∧ c ≤ 102 then (c - 87, true) else (0, false)
theorem nibF_lt (c : Nat) : (nibF c).1 < 16 := by
  unfold nibF
  split
  · dsimp only; omega
  · split
    · dsimp only; omega
    · decide
def unhexG : List UInt8 → Option (List UInt8)
  | a :: b :: r => if (nibF a.toNat).2 && (nibF b.toNat).2 then (unhexG r).map (UInt8.ofNat ((nibF a.toNat).1 * 16 + (nibF b.toNat).1) :: ·) else none
  | [_] => none
  | [] => some []
def unhexF (l : List UInt8) : List UInt8 × Int := match unhexG l with
  | some bs => (bs, 0)
  | none => ([], 4)

set_option maxHeartbeats 400000 in
theorem nibble_any (c : Nat) (hc : c < 256) (w : World) :
    Calls Tryd.prog 18 #[.int .u8 (c : Int)] w fun e w' => e = .returned (.tuple #[.int .u8 ((nibF c).1 : Int), .bool (nibF c).2]) ∧ w' = w := by
  by_cases h1 : 48 ≤ c ∧ c ≤ 57
  · have e : nibF c = (c - 48, true) := if_pos h1
    rw [e]
    obtain ⟨h2, h3⟩ := h1
    have e2 : ((c - 48 : Nat) : Int) = (c : Int) - 48 := by omega
    simp only [e2]
    clear e e2
    go_enter Tryd.func18, Tryd.ntmps18
    go_wp2
    go_ret2
    exact ⟨rfl, rfl⟩
  · by_cases h2 : 97 ≤ c ∧ c ≤ 102
    · have e : nibF c = (c - 87, true) := by unfold nibF; rw [if_neg h1, if_pos h2]
      rw [e]
      obtain ⟨h3, h4⟩ := h2
      have e2 : ((c - 87 : Nat) : Int) = (c : Int) - 97 + 10 := by omega
      simp only [e2]
      clear e e2
      go_enter Tryd.func18, Tryd.ntmps18
      go_wp2
      go_ret2
      exact ⟨rfl, rfl⟩
    · have e : nibF c = (0, false) := by unfold nibF; rw [if_neg h1, if_neg h2]
      rw [e]
      clear e
      by_cases g1 : c < 48
      · go_enter Tryd.func18, Tryd.ntmps18
        go_wp2
        go_ret2
        exact ⟨rfl, rfl⟩
      · by_cases g2 : c < 97
        · have g3 : 57 < c := by omega
          go_enter Tryd.func18, Tryd.ntmps18
          go_wp2
          go_ret2
          exact ⟨rfl, rfl⟩
        · have g3 : 102 < c := by omega
          go_enter Tryd.func18, Tryd.ntmps18
          go_wp2
          go_ret2
          exact ⟨rfl, rfl⟩

theorem unhexG_append (n : Nat) (xs ys bs : List UInt8) (hn : xs.length ≤ n) (h : unhexG xs = some bs) : unhexG (xs ++ ys) = (unhexG ys).map (bs ++ ·) := by
  induction n generalizing xs bs with
  | zero =>
    have : xs = [] := List.eq_nil_of_length_eq_zero (by omega)
    subst this
    simp [unhexG] at h
    subst h
    rw [List.nil_append]
    cases unhexG ys <;> rfl
  | succ n ih =>
    match xs with
    | [] =>
      simp [unhexG] at h
      subst h
      rw [List.nil_append]
      cases unhexG ys <;> rfl
    | [a] => simp [unhexG] at h
    | a :: b :: r =>
      simp only [unhexG, List.cons_append] at h ⊢
      split at h
      · rename_i hc
        rw [if_pos hc]
        cases hr : unhexG r with
        | none => rw [hr] at h; simp at h
        | some cs =>
          rw [hr] at h
          simp at h
          subst h
          rw [ih r cs (by simp at hn; omega) hr]
          cases unhexG ys <;> simp
      · simp at h
theorem unhexG_odd (n : Nat) (xs : List UInt8) (hn : xs.length ≤ n) (h : xs.length % 2 = 1) : unhexG xs = none := by
  induction n generalizing xs with
  | zero => omega
  | succ n ih =>
    match xs with
    | [] => simp at h
    | [a] => rfl
    | a :: b :: r =>
      simp only [unhexG]
      rw [ih r (by simp at hn; omega) (by simp at h; omega)]
      simp

theorem take_two (s : ByteArray) (i : Nat) (h : i + 1 < s.size) : s.data.toList.take (i + 2) = s.data.toList.take i ++ [s[i], s[i + 1]] := by
  have h1 : s.data.toList.take (i + 2) = s.data.toList.take (i + 1) ++ [s[i + 1]] := take_snoc s (i + 1) h
  have h2 : s.data.toList.take (i + 1) = s.data.toList.take i ++ [s[i]] := take_snoc s i (by omega)
  rw [h1, h2, List.append_assoc]
  rfl
theorem unhex_go (s : ByteArray) (k : Nat) (bs : List UInt8) (h : 2 * k + 1 < s.size) (hg : unhexG (s.data.toList.take (2 * k)) = some bs)
    (h1 : (nibF (s[2 * k]'(by omega)).toNat).2 = true) (h2 : (nibF s[2 * k + 1].toNat).2 = true) :
    unhexG (s.data.toList.take (2 * (k + 1))) = some (bs ++ [UInt8.ofNat ((nibF (s[2 * k]'(by omega)).toNat).1 * 16 + (nibF s[2 * k + 1].toNat).1)]) := by
  rw [show 2 * (k + 1) = 2 * k + 2 from by omega, take_two s (2 * k) h, unhexG_append _ _ _ _ (Nat.le_refl _) hg]
  simp [unhexG, h1, h2]
theorem unhex_stop (s : ByteArray) (k : Nat) (bs : List UInt8) (h : 2 * k + 1 < s.size) (hg : unhexG (s.data.toList.take (2 * k)) = some bs)
    (h1 : ((nibF (s[2 * k]'(by omega)).toNat).2 && (nibF s[2 * k + 1].toNat).2) = false) : unhexF s.data.toList = ([], 4) := by
  have e : s.data.toList = s.data.toList.take (2 * k) ++ ([s[2 * k]'(by omega), s[2 * k + 1]] ++ s.data.toList.drop (2 * k + 2)) := by
    rw [← List.append_assoc, ← take_two s (2 * k) h, List.take_append_drop]
  have e2 : unhexG s.data.toList = none := by
    rw [e, unhexG_append _ _ _ _ (Nat.le_refl _) hg]
    simp only [List.cons_append, unhexG]
    rw [if_neg (by rw [h1]; decide)]
    rfl
  unfold unhexF
  rw [e2]
theorem unhex_step {base : Nat} {w wr w1 : World} {u v' : Value} {k x : Nat} {bs : List UInt8} {o : Obj} (hb : base ≤ wr.heap.size) (hbel : Below base w wr) (hx : x < 256)
    (hown : wr.ownsRow base 5 1 u k (Lib.byteCells bs))
    (hown' : w1.ownsRow base 5 1 v' (k + 1) (Lib.byteCells bs ++ [.int .u8 (x : Int)]))
    (hg : (wr.alloc o).grownBy w1 u.ownBlock) :
    w1.ownsRow base 5 1 v' (k + 1) (Lib.byteCells (bs ++ [UInt8.ofNat x])) ∧ Below base w w1 ∧ base ≤ w1.heap.size := by
  have hs : (wr.alloc o).heap.size = wr.heap.size + 1 := by simp
  have hb1 : Below base w w1 := (hbel.alloc hb o).grown hg (by omega) (fun g hgk => (hown.lt g hgk).1)
  have hs1 := hg.size
  refine ⟨?_, hb1, by omega⟩
  rw [cells_snoc _ _ hx]
  exact hown'

set_option maxHeartbeats 1000000 in
/-- 'Unhex(s)'. -/
theorem unhex_any (s : ByteArray) (hs : s.size ≤ 1099511627776) (w : World) :
    Calls Tryd.prog 8 #[.string s] w fun e w' => e = .returned (.tuple #[.string ⟨(unhexF s.data.toList).1.toArray⟩, .int .i64 (unhexF s.data.toList).2]) ∧ Below w.heap.size w w' := by
  by_cases ho : s.size % 2 = 1
  · have e : unhexF s.data.toList = ([], 4) := by
      unfold unhexF
      rw [unhexG_odd _ _ (Nat.le_refl _) (by rw [← Lib.size_eq]; exact ho)]
    rw [e]
    have ho1 : (s.size : Int) % 2 = 1 := by omega
    clear e ho
    go_enter Tryd.func8, Tryd.ntmps8
    go_wp2
    go_ret2
    exact ⟨rfl, Below.refl _ _⟩
  obtain ⟨n, hn⟩ : ∃ n, s.size = 2 * n := ⟨s.size / 2, by omega⟩
  have hn1 : s.size ≤ 2 * n := by omega
  have hn2 : 2 * n ≤ s.size := by omega
  have hm : (s.size : Int) % 2 = 0 := by omega
  have HN := hide hn
  clear hn ho
  obtain ⟨i0, hi, hz0, hz1, hz2⟩ := info_parts info5
  go_enter Tryd.func8, Tryd.ntmps8
  go_wp2_with (at_make; refine wpList_make_own _ rfl _ _ 37 rfl w.heap.size 5 i0 (.int .u8 0) 1 Tryd.underlying37 hi hz0 hz1 .i64 .i64 _ n rfl rfl ?m1 ?m2 ?m3 ?m4 ?_)
  case m1 => omega
  case m2 => rw [hz2]; omega
  case m3 => unfold maxLen; omega
  case m4 => exact Nat.le_refl _
  intro w1 hown1 hg1
  have hb1 : Below w.heap.size w w1 := (Below.refl _ w).grown hg1 (Nat.le_refl _) (fun k hk => by cases hk)
  clear hg1
  go_wp2
  go_loopw [4, 5, 6, 7, 8, 9] (fun v i _ _ _ _ wr => ∃ (k : Nat) (bs : List UInt8), k ≤ n ∧ i = .int .i64 (2 * (k : Int)) ∧ unhexG (s.data.toList.take (2 * k)) = some bs ∧ wr.ownsRow w.heap.size 5 1 v k (Lib.byteCells bs) ∧ Below w.heap.size w wr ∧ w.heap.size ≤ wr.heap.size)
    (fun _ i _ _ _ _ _ => s.size - (intOf i).toNat)
  case atStart => exact ⟨0, [], Nat.zero_le _, rfl, rfl, hown1, hb1, hb1.size⟩
  case round =>
    obtain ⟨k, bs, hk, rfl, hg, hownr, hbel, hszr⟩ := hrel
    clear hown1 hb1
    by_cases hlt : k < n
    · have hq : 2 * k + 1 < s.size := by omega
      have hq0 : 2 * k < s.size := by omega
      have HG := hide hg
      have HO := hide hownr
      clear hg hownr
      have hc1 := s[2 * k].toNat_lt
      have hc2 := s[2 * k + 1].toNat_lt
      obtain ⟨x, b1, e1⟩ : ∃ x b, nibF s[2 * k].toNat = (x, b) := ⟨_, _, rfl⟩
      obtain ⟨y, b2, e2⟩ : ∃ x b, nibF s[2 * k + 1].toNat = (x, b) := ⟨_, _, rfl⟩
      have hx : x < 16 := by have := nibF_lt s[2 * k].toNat; rw [e1] at this; exact this
      have hy : y < 16 := by have := nibF_lt s[2 * k + 1].toNat; rw [e2] at this; exact this
      have HC1 : Hid (∀ w, Calls Tryd.prog 18 #[.int .u8 (s[2 * k].toNat : Int)] w fun e w' => e = .returned (.tuple #[.int .u8 (x : Int), .bool b1]) ∧ w' = w) := fun w => by
        have h := nibble_any s[2 * k].toNat hc1 w
        rw [e1] at h
        exact h
      have HC2 : Hid (∀ w, Calls Tryd.prog 18 #[.int .u8 (s[2 * k + 1].toNat : Int)] w fun e w' => e = .returned (.tuple #[.int .u8 (y : Int), .bool b2]) ∧ w' = w) := fun w => by
        have h := nibble_any s[2 * k + 1].toNat hc2 w
        rw [e2] at h
        exact h
      by_cases hb : (b1 && b2) = true
      · obtain ⟨rfl, rfl⟩ : b1 = true ∧ b2 = true := by simpa using hb
        have HG2 := hide (unhex_go s k bs hq HG.out (by rw [e1]) (by rw [e2]))
        rw [e1, e2] at HG2
        have eo : bits .or .u8 ((x : Int) * 16) (y : Int) = ((x * 16 + y : Nat) : Int) := by
          have h := u8_or_nat (x * 16) y (by omega) (by omega)
          rw [nat_join 4 (x * 16) y (by omega) (by omega)] at h
          rw [← h]
          rfl
        have hxy : x * 16 + y < 256 := by omega
        clear e1 e2 HG hb
        go_wp2_with fail
        refine (HC1.out _).mono ?_
        rintro e w2 ⟨rfl, rfl⟩
        go_wp2_with fail
        refine (HC2.out _).mono ?_
        rintro e w3 ⟨rfl, rfl⟩
        go_wp2_with (at_builtin; refine wpList_append_own _ rfl _ _ 37 rfl w.heap.size 5 i0 (.int .u8 0) 1 1 Tryd.underlying37 hi hz0 hz1 hz2 rfl (by decide) _ _ _ rfl (HO.out.alloc _) ⟨w3.heap.size, 0, none⟩ 1 1 [.int .u8 ((x * 16 + y : Nat) : Int)] rfl rfl ?c1 ?c2 ?c3 ?c4 ?c5 ?_)
        case c1 => exact cell_one_new _ _ _
        case c2 => intro u hu; simp at hu; subst hu; rfl
        case c3 => unfold maxLen; omega
        case c4 => omega
        case c5 => simp; omega
        intro v' w4 hown' hgrow _
        have R := unhex_step (x := x * 16 + y) hszr hbel hxy HO.out hown' hgrow
        clear hown' hgrow HO eo
        go_wp2
        go_roundw
        case rel => exact ⟨k + 1, _, by omega, by go_num, HG2.out, R.1, R.2.1, R.2.2⟩
        case measure => simp [intOf]; omega
      · have hb' : (b1 && b2) = false := by simpa using hb
        have E := hide (unhex_stop s k bs hq HG.out (by rw [e1, e2]; exact hb'))
        clear e1 e2 HG hb HO
        cases b1 with
        | false =>
          clear hb'
          go_wp2_with fail
          refine (HC1.out _).mono ?_
          rintro e w2 ⟨rfl, rfl⟩
          go_wp2_with fail
          refine (HC2.out _).mono ?_
          rintro e w3 ⟨rfl, rfl⟩
          go_wp2
          go_ret2
          rw [E.out]
          exact ⟨rfl, hbel⟩
        | true =>
          have hb2 : b2 = false := by simpa using hb'
          subst hb2
          clear hb'
          go_wp2_with fail
          refine (HC1.out _).mono ?_
          rintro e w2 ⟨rfl, rfl⟩
          go_wp2_with fail
          refine (HC2.out _).mono ?_
          rintro e w3 ⟨rfl, rfl⟩
          go_wp2
          go_ret2
          rw [E.out]
          exact ⟨rfl, hbel⟩
    · obtain rfl : k = n := by omega
      have E : Hid (unhexF s.data.toList = (bs, 0)) := by
        rw [List.take_of_length_le (by rw [← Lib.size_eq]; omega)] at hg
        show unhexF _ = _
        unfold unhexF
        rw [hg]
      have hcv := put_conv hownr
      clear hg
      go_wp2
      go_ret2
      rw [E.out]
      exact ⟨rfl, hbel⟩
end Go.Proofs.YtdceopnjokdblaaDoor
