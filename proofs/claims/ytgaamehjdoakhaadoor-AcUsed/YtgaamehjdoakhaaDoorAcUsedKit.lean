/- The states that the law AcUsed goes through, as plain data. -/
import Derived.Test.YtgaamehjdoakhaaDoorAcAskAt
import Derived.Test.YtgaamehjdoakhaaDoorAcData
namespace Go.Proofs.YtgaamehjdoakhaaDoor
open Go.RowKit

/-- The law's concentrator: its last number, its sessions, what went. -/
def st5 (last : Nat) (ss : List Sn) (g : List (List UInt8 × Int)) : Cs := { c00 5 with last := last, sess := ss, gone := g }
theorem st_one (h : List UInt8) (u : ByteArray) : one5 h u = st5 1 [⟨h, 1, u, false⟩] [] := by
  have h1 := one5_sess h u
  have h2 := one5_last h u
  have h3 : one5 h u = { c00 5 with last := (one5 h u).last, sess := (one5 h u).sess, gone := [] } := rfl
  rw [h3, h1, h2]
  rfl
theorem find_hit (h : List UInt8) (k : Nat) (u : ByteArray) (q : Bool) (r : List Sn) : findS (⟨h, k, u, q⟩ :: r) h (k : Int) = some ⟨h, k, u, q⟩ := by
  unfold findS
  rw [List.find?_cons_of_pos]
  simp [isIdZ]
theorem find_miss (h o : List UInt8) (hne : ¬ o = h) (k : Nat) (u : ByteArray) (q : Bool) : findS [⟨h, k, u, q⟩] o 1 = none := by
  unfold findS
  rw [List.find?_cons_of_neg]
  · rfl
  · simp [isIdZ, Ne.symm (show o ≠ h from hne)]
theorem st_use (h : List UInt8) (u : ByteArray) : useF (st5 1 [⟨h, 1, u, false⟩] []) h 1 = st5 1 [⟨h, 1, u, true⟩] [] := by
  unfold useF
  rw [show (st5 1 [⟨h, 1, u, false⟩] []).sess = [⟨h, 1, u, false⟩] from rfl, find_hit h 1 u false [], if_pos (by simp)]
  simp [st5, dropS, isIdZ, uniqOf]
theorem good_used (h : List UInt8) (hh : h.length = 6) (u : ByteArray) : Good (st5 1 [⟨h, 1, u, true⟩] []) := by
  have g := good_c00 5 (by omega) (by omega)
  exact { mac := g.mac, name1 := g.name1, name := g.name, secret := g.secret, most1 := g.most1, most := g.most
          len := by show ((1 : Nat) : Int) ≤ 5; omega
          ids := fun x hx => by obtain rfl := List.mem_singleton.1 hx; exact ⟨hh, by simp, by simp⟩
          last := by show 1 ≤ 65535; omega
          one := fun m v x hx y hy _ _ => by rw [List.mem_singleton.1 hx, List.mem_singleton.1 hy]
          nums := List.pairwise_singleton _ _
          each := fun m => by
            have h1 : eachF (st5 1 [⟨h, 1, u, true⟩] []) m ≤ 1 := List.length_filter_le _ _
            omega
          gone := by show 0 ≤ 1000000; omega
          goneM := fun p hp => by cases hp }
theorem st_next (a : Nat) (ha : 1 ≤ a ∧ a ≤ 3) (ss : List Sn) (hss : ∀ x ∈ ss, 1 ≤ x.num ∧ x.num ≤ a) (g : List (List UInt8 × Int)) : nextF (st5 a ss g) = a + 1 := by
  rw [next_far (fun x hx => by
    have h1 := hss x hx
    show ¬ (x.num + 65534 - a) % 65535 < 64
    omega)]
  show a % 65535 + 1 = a + 1
  omega
theorem st_again (h : List UInt8) (u : ByteArray) : askS (st5 1 [⟨h, 1, u, true⟩] []) h u = st5 2 [⟨h, 1, u, true⟩, ⟨h, 2, u, false⟩] [] := by
  have e1 : unusedF (st5 1 [⟨h, 1, u, true⟩] []) h u = 0 := by
    unfold unusedF
    rw [show (st5 1 [⟨h, 1, u, true⟩] []).sess = [⟨h, 1, u, true⟩] from rfl, List.find?_cons_of_neg (by simp [isFor])]
    rfl
  have e2 : roomF (st5 1 [⟨h, 1, u, true⟩] []) h = true := by
    have h1 : eachF (st5 1 [⟨h, 1, u, true⟩] []) h ≤ 1 := List.length_filter_le _ _
    unfold roomF
    rw [show (st5 1 [⟨h, 1, u, true⟩] []).most = 5 from rfl, show (st5 1 [⟨h, 1, u, true⟩] []).sess.length = 1 from rfl]
    simp
    omega
  unfold askS
  rw [admit_e, e1, e2, if_neg (by simp), if_neg (by simp)]
  unfold beginF
  rw [st_next 1 (by omega) _ (fun x hx => by obtain rfl := List.mem_singleton.1 hx; simp)]
  simp [st5, dropS, isIdZ]
theorem st_end (h : List UInt8) (u : ByteArray) : endF (st5 2 [⟨h, 1, u, true⟩, ⟨h, 2, u, false⟩] []) h 1 = st5 2 [⟨h, 2, u, false⟩] [(h, 1)] := by
  unfold endF
  rw [show (st5 2 [⟨h, 1, u, true⟩, ⟨h, 2, u, false⟩] []).sess = [⟨h, 1, u, true⟩, ⟨h, 2, u, false⟩] from rfl, show (1 : Int) = ((1 : Nat) : Int) from rfl, find_hit h 1 u true _, if_pos (by simp)]
  simp [st5, dropS, isIdZ]
theorem st_other (h o : List UInt8) (hne : ¬ o = h) (u : ByteArray) : askS (st5 2 [⟨h, 2, u, false⟩] []) o u = st5 3 [⟨h, 2, u, false⟩, ⟨o, 3, u, false⟩] [] := by
  have hne' : ¬ h = o := fun e => hne e.symm
  have e1 : unusedF (st5 2 [⟨h, 2, u, false⟩] []) o u = 0 := by
    unfold unusedF
    rw [show (st5 2 [⟨h, 2, u, false⟩] []).sess = [⟨h, 2, u, false⟩] from rfl, List.find?_cons_of_neg (by simp [isFor, hne'])]
    rfl
  have e2 : roomF (st5 2 [⟨h, 2, u, false⟩] []) o = true := by
    have h1 : eachF (st5 2 [⟨h, 2, u, false⟩] []) o ≤ 1 := List.length_filter_le _ _
    unfold roomF
    rw [show (st5 2 [⟨h, 2, u, false⟩] []).most = 5 from rfl, show (st5 2 [⟨h, 2, u, false⟩] []).sess.length = 1 from rfl]
    simp
    omega
  unfold askS
  rw [admit_e, e1, e2, if_neg (by simp), if_neg (by simp)]
  unfold beginF
  rw [st_next 2 (by omega) _ (fun x hx => by obtain rfl := List.mem_singleton.1 hx; simp)]
  simp [st5, dropS, isIdZ]
theorem good_gone {c : Cs} (g : Good c) : Good { c with gone := [] } :=
  { mac := g.mac, name1 := g.name1, name := g.name, secret := g.secret, most1 := g.most1, most := g.most, len := g.len, ids := g.ids, last := g.last, one := g.one, nums := g.nums, each := g.each, gone := by show 0 ≤ 1000000; omega, goneM := fun p hp => by cases hp }

end Go.Proofs.YtgaamehjdoakhaaDoor
