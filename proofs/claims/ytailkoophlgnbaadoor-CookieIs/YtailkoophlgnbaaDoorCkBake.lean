/- The contract of package cookie's inner bake: the digest of an epoch's bytes, a card, a service's length, the service and the secret, for every card and every int; service and secret have at most 2^40 bytes each. -/
import Derived.Test.YtailkoophlgnbaaDoorCkLay
import Derived.Lib.AppendStr
namespace Go.Proofs.YtailkoophlgnbaaDoor
open Go.RowKit

/-- What is hashed. -/
def bakeL (secret m service : List UInt8) (e : Int) : List UInt8 := low (e % 18446744073709551616).toNat 8 ++ m ++ low service.length 4 ++ service ++ secret
def bakeF (secret m service : List UInt8) (e : Int) : List UInt8 := md5F (bakeL secret m service e)
theorem bakeF_length (secret m service : List UInt8) (e : Int) : (bakeF secret m service e).length = 16 := md5F_length _

theorem append_str {base n : Nat} {w w1 : World} {u v' : Value} {bs : List UInt8} {s : ByteArray} (hb : base ≤ w.heap.size) (hown : w.ownsRow base 5 1 u n (Lib.byteCells bs))
    (hown' : w1.ownsRow base 5 1 v' (n + s.size) (Lib.byteCells bs ++ Lib.strCells s)) (hg : w.grownBy w1 u.ownBlock) :
    w1.ownsRow base 5 1 v' (n + s.size) (Lib.byteCells (bs ++ s.data.toList)) ∧ Below base w w1 := append_more hb hown hown' hg

/-- A card's own block. -/
def MacAt (W : World) (b : Nat) (m : List UInt8) : Prop := W.heap[b]? = some (.cells (Lib.byteCells m).toArray 23 (0, 0))
theorem MacAt.lt {W : World} {b : Nat} {m : List UInt8} (h : MacAt W b m) : b < W.heap.size := (Array.getElem?_eq_some_iff.1 h).1
theorem MacAt.carry {W W' : World} {b B : Nat} {m : List UInt8} (h : MacAt W b m) (hb : Below B W W') (hlt : b < B) : MacAt W' b m := (hb.block b hlt).trans h
theorem macAt_new (w : World) (m : List UInt8) : MacAt (w.alloc (.cells (Lib.byteCells m).toArray 23)) w.heap.size m := heap_alloc_new w _
theorem MacAt.src {W : World} {b : Nat} {m : List UInt8} (h : MacAt W b m) : ∀ j u, (Lib.byteCells m)[j]? = some u → W.cell? ((⟨b, 0, none⟩ : Addr).add j) = some u := fun j u hj => by
  rw [addr_add, cell_of_row W b j _ _ _ h]
  simpa using hj

set_option maxHeartbeats 2000000 in
theorem bake_any (secret service : ByteArray) (m : List UInt8) (hm : m.length = 6) (e : Int) (hs : secret.size ≤ 1099511627776) (hv : service.size ≤ 1099511627776) (w : World) (hT : Tables w) :
    Calls Tryd.prog 17 #[.string secret, .agg (Lib.byteCells m).toArray, .string service, .int .i64 e] w fun r w' => r = .returned (.string ⟨(bakeF secret.data.toList m service.data.toList e).toArray⟩) ∧ Below w.heap.size w w' := by
  obtain ⟨i0, hi, hz0, hz1, hz2⟩ := info_parts info5
  obtain ⟨a, ha⟩ : ∃ a : Nat, a = (e % 18446744073709551616).toNat := ⟨_, rfl⟩
  have ha1 : a < 18446744073709551616 := by omega
  have ew : IntKind.u64.wrap e = e % 18446744073709551616 := rfl
  have ea : IntKind.u64.wrap e = (a : Int) := by rw [ew]; omega
  clear ew
  have hX := fun (z : ByteArray) (hz : z.size ≤ 140737488355328) (W : World) (h : Tables W) => md5_any z hz W h
  obtain ⟨z, hz⟩ : ∃ z : ByteArray, z = ⟨(bakeL secret.data.toList m service.data.toList e).toArray⟩ := ⟨_, rfl⟩
  have hzl : z.data.toList = bakeL secret.data.toList m service.data.toList e := by rw [hz]
  have hzs : z.size ≤ 140737488355328 := by
    rw [Lib.size_eq, hzl]
    simp only [bakeL, List.length_append, low_length, hm, ← Lib.size_eq]
    omega
  have HMD := hide (fun (W : World) (h : Tables W) => md5_any z hzs W h)
  rw [hzl] at HMD
  have HTX := hide (text_any (bakeF secret.data.toList m service.data.toList e) (bakeF_length _ _ _ _))
  change Hid (∀ (W : World) (h : Tables W), Calls Tryd.prog 15 #[.string z] W fun r w' => r = .returned (.agg (Lib.byteCells (bakeF secret.data.toList m service.data.toList e)).toArray) ∧ Below W.heap.size W w') at HMD
  have hzz : (⟨(low a 8 ++ m ++ low service.size 4 ++ service.data.toList ++ secret.data.toList).toArray⟩ : ByteArray) = z := by
    rw [hz, bakeL, ← ha, ← Lib.size_eq]
  generalize bakeF secret.data.toList m service.data.toList e = D at HMD HTX ⊢
  have HZ := hide hzz
  clear hz hzl hzs hzz ha hX
  have HT := hide hT
  clear hT
  have B0 := hide (macAt_new w m)
  have HM := hide hm
  generalize hxs : (Lib.byteCells m).toArray = xs
  have HX := hide hxs
  clear hxs
  go_enter Tryd.func17, Tryd.ntmps17
  go_wp2_with (at_make; refine wpList_make_own _ rfl _ _ 34 rfl (w.heap.size + 1) 5 i0 (.int .u8 0) 1 Tryd.underlying34 hi hz0 hz1 .i64 .i64 _ (18 + service.size + secret.size) rfl rfl ?m1 ?m2 ?m3 ?m4 ?_)
  case m1 => omega
  case m2 => rw [hz2]; omega
  case m3 => unfold maxLen; omega
  case m4 => simp
  intro w3 hown3 hg3
  have hb3 : Below (w.heap.size + 1) (w.alloc (.cells xs 23)) w3 := (Below.refl _ _).grown hg3 (by simp) (fun k hk => by cases hk)
  rw [HX.out] at B0
  have B3 := hide (B0.out.carry hb3 (by omega))
  have s3 : w.heap.size + 1 ≤ w3.heap.size := by have := hb3.size; simp at this; exact this
  have HB3 := hide ((show Below w.heap.size w (w.alloc (.cells xs 23)) from (Below.refl _ _).alloc (Nat.le_refl _) _).trans (hb3.mono (by omega)))
  clear hg3 hb3 B0
  have hown3' : w3.ownsRow (w.heap.size + 1) 5 1 _ 0 (Lib.byteCells []) := hown3
  clear hown3
  go_wp2_with fail
  refine (ckLay_any (w.heap.size + 1) _ 0 [] a ha1 8 (by decide) (by decide) _ s3 hown3' (by omega)).mono ?_
  rintro r w4 ⟨v4, rfl, hown4, hb4⟩
  rw [List.nil_append] at hown4
  have B4 := hide (B3.out.carry hb4 (by omega))
  have s4 : w.heap.size + 1 ≤ w4.heap.size := Nat.le_trans s3 hb4.size
  have HB4 := hide (HB3.out.trans (hb4.mono (by omega)))
  clear hown3' hb4 B3 HB3
  go_wp2_with (at_builtin; refine wpList_append_own _ rfl _ _ 34 rfl (w.heap.size + 1) 5 i0 (.int .u8 0) 1 1 Tryd.underlying34 hi hz0 hz1 hz2 rfl (by decide) _ _ _ rfl hown4 ⟨w.heap.size, 0, none⟩ 6 6 (Lib.byteCells m) rfl (by rw [Lib.byteCells_length, HM.out]) ?c1 (Lib.byteCells_one m) ?c3 ?c4 s4 ?_)
  case c1 => exact B4.out.src
  case c3 => unfold maxLen; omega
  case c4 => omega
  intro v5 w5 hown5 hg5 _
  have R5 : w5.ownsRow (w.heap.size + 1) 5 1 v5 14 (Lib.byteCells (low a 8 ++ m)) ∧ Below (w.heap.size + 1) w4 w5 := append_more (n := 8) (m := 6) s4 hown4 hown5 hg5
  have s5 : w.heap.size + 1 ≤ w5.heap.size := Nat.le_trans s4 R5.2.size
  have HB5 := hide (HB4.out.trans (R5.2.mono (by omega)))
  have O5 := R5.1
  clear hown4 hown5 hg5 R5 B4 HB4
  go_wp2_with fail
  refine (ckLay_any (w.heap.size + 1) _ 14 _ service.size (by omega) 4 (by decide) (by decide) _ s5 O5 (by omega)).mono ?_
  rintro r w6 ⟨v6, rfl, hown6, hb6⟩
  have s6 : w.heap.size + 1 ≤ w6.heap.size := Nat.le_trans s5 hb6.size
  have HB6 := hide (HB5.out.trans (hb6.mono (by omega)))
  clear O5 hb6 HB5
  go_wp2_with (at_builtin; refine Lib.wpList_append_own_string _ rfl _ _ 34 9 rfl (w.heap.size + 1) 5 i0 Tryd.underlying34 Tryd.underlying9 hi hz0 hz1 hz2 _ _ _ rfl hown6 service rfl ?e1 ?e2 ?e3 ?_)
  case e1 => unfold maxLen; omega
  case e2 => omega
  case e3 => exact s6
  intro v7 w7 hown7 hg7 _
  have R7 := append_str (n := 18) s6 hown6 hown7 hg7
  have s7 : w.heap.size + 1 ≤ w7.heap.size := Nat.le_trans s6 R7.2.size
  have HB7 := hide (HB6.out.trans (R7.2.mono (by omega)))
  have O7 := R7.1
  clear hown6 hown7 hg7 R7 HB6
  go_wp2_with (at_builtin; refine Lib.wpList_append_own_string _ rfl _ _ 34 9 rfl (w.heap.size + 1) 5 i0 Tryd.underlying34 Tryd.underlying9 hi hz0 hz1 hz2 _ _ _ rfl O7 secret rfl ?f1 ?f2 ?f3 ?_)
  case f1 => unfold maxLen; omega
  case f2 => omega
  case f3 => exact s7
  intro v8 w8 hown8 hg8 _
  have hown9 : w8.ownsRow (w.heap.size + 1) 5 1 v8 (18 + service.size + secret.size) (Lib.byteCells (low a 8 ++ m ++ low service.size 4 ++ service.data.toList) ++ Lib.strCells secret) := by
    rw [List.append_assoc, List.append_assoc]
    exact hown8
  have R8 := append_str s7 O7 hown9 hg8
  have HB8 := hide (HB7.out.trans (R8.2.mono (by omega)))
  have hcv := put_conv R8.1
  rw [HZ.out] at hcv
  clear O7 hown8 hown9 hg8 R8 HB7
  go_wp2_with fail
  refine (HMD.out _ (HT.out.next HB8.out)).mono ?_
  rintro r w9 ⟨rfl, hb9⟩
  have HB9 := hide (below_next HB8.out hb9)
  clear HB8 hb9
  go_wp2_with fail
  refine (HTX.out _).mono ?_
  rintro r w10 ⟨rfl, hb10⟩
  have HB10 := hide (below_next HB9.out hb10)
  clear HB9 hb10
  go_wp2
  go_ret
  exact ⟨rfl, HB10.out⟩
end Go.Proofs.YtailkoophlgnbaaDoor
