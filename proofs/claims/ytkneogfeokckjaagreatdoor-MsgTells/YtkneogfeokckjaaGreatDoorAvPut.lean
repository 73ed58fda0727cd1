/- The contract of avp.Put: values as bytes, or the error; for every list whose values have at most 2^47 bytes each; what Mask comes to is a premise where something may be hidden. -/
import Derived.Test.YtkneogfeokckjaaGreatDoorAvPutOne
namespace Go.Proofs.YtkneogfeokckjaaGreatDoor
open Go.RowKit

/-- A list of values that is read. -/
def AvsAt (W : World) (v : Value) (l : List Av) : Prop := RowsAt W 5 avCells v l
theorem AvsAt.at5 {W : World} {p : Option Addr} {n cap : Nat} {l : List Av} (h : AvsAt W (.slice p n cap) l) {j : Nat} {x : Av} (hj : l[j]? = some x) :
    ∃ g o, p = some ⟨g, o, none⟩ ∧ n ≤ cap ∧ W.cell? ⟨g, o + j * 5, none⟩ = some (.bool x.must) ∧ W.cell? ⟨g, o + j * 5 + 1, none⟩ = some (.bool x.hidden) ∧ W.cell? ⟨g, o + j * 5 + 2, none⟩ = some (.int .i64 x.vendor) ∧ W.cell? ⟨g, o + j * 5 + 3, none⟩ = some (.int .i64 x.type) ∧ W.cell? ⟨g, o + j * 5 + 4, none⟩ = some (.string x.value) := by
  obtain ⟨g, o, e, hc, hq⟩ := RowsAt.at h hj
  exact ⟨g, o, e, hc, hq 0 _ rfl, hq 1 _ rfl, hq 2 _ rfl, hq 3 _ rfl, hq 4 _ rfl⟩
theorem drop_at {α : Type} {l : List α} {j : Nat} {x : α} (hx : l[j]? = some x) : l.drop j = x :: l.drop (j + 1) := by
  obtain ⟨hlt', hg⟩ := List.getElem?_eq_some_iff.1 hx
  rw [List.drop_eq_getElem_cons hlt', hg]
theorem putOneF_ok {x : Av} {c : Cov} (h : (putOneF x c).2 = 0) : x.value.size ≤ 1000 := by
  unfold putOneF at h
  split at h
  · cases h
  split at h
  · cases h
  omega
/-- A row of bytes is no cover. -/
theorem row_cover {W : World} {b base n : Nat} {c : Cov} {v : Value} {xs : List Value} (h : CvAt W b c) (hown : W.ownsRow base 5 1 v n xs) : v.ownBlock ≠ some b := by
  intro e
  rcases hown.2 with ⟨rfl, _⟩ | ⟨g, cap, cur, rfl, hb, hg, _⟩
  · cases e
  · have : g = b := by simpa [Value.ownBlock] using e
    subst this
    rw [show W.heap[g]? = _ from h] at hg
    simp at hg
theorem row_box {W : World} {b base n : Nat} {x : Av} {v : Value} {xs : List Value} (h : AvAt W b x) (hown : W.ownsRow base 5 1 v n xs) : v.ownBlock ≠ some b := by
  intro e
  rcases hown.2 with ⟨rfl, _⟩ | ⟨g, cap, cur, rfl, hb, hg, _⟩
  · cases e
  · have : g = b := by simpa [Value.ownBlock] using e
    subst this
    rw [show W.heap[g]? = _ from h] at hg
    simp at hg
theorem row_kept {S : Nat → Prop} {W W' : World} {base n : Nat} {v : Value} {xs : List Value} (hown : W.ownsRow base 5 1 v n xs) (hk : Kept S W W') (hS : ∀ i, v.ownBlock = some i → ¬ S i) : W'.ownsRow base 5 1 v n xs := by
  rcases hown.2 with ⟨rfl, h0⟩ | ⟨g, cap, cur, rfl, hb, hg, r⟩
  · exact ⟨hown.1, Or.inl ⟨rfl, h0⟩⟩
  · exact ⟨hown.1, Or.inr ⟨g, cap, cur, rfl, hb, (hk.block g (Array.getElem?_eq_some_iff.1 hg).1 (hS g rfl)).trans hg, r⟩⟩
theorem few_pass {c : Cov} {x : Av} (h : Few c) (hx : x.value.size ≤ 1000000) : Few (passF c x) := by
  unfold passF
  split
  · exact ⟨h.secret, hx⟩
  · exact h
/-- What is known of a cover on its way. -/
structure CovOf (l : List Av) (s : ByteArray) (c : Cov) : Prop where
  few : Few c
  secret : c.secret = s
  has : c.has = true → ∃ x ∈ l, isVec x = true
theorem CovOf.pass {l : List Av} {s : ByteArray} {c : Cov} {x : Av} (h : CovOf l s c) (hx : x ∈ l) (hz : x.value.size ≤ 1000000) : CovOf l s (passF c x) := by
  refine ⟨few_pass h.few hz, (passF_secret c x).trans h.secret, ?_⟩
  intro hh
  cases hv : isVec x with
  | true => exact ⟨x, hx, hv⟩
  | false =>
    unfold passF at hh
    rw [hv, if_neg (by simp)] at hh
    exact h.has hh
/-- How far the loop has come. -/
structure PutI (w : World) (l : List Av) (s : ByteArray) (R : ByteArray × Int) (b j : Nat) (acc : ByteArray) (vb : Value) (c : Cov) (W : World) : Prop where
  own : W.ownsRow w.heap.size 5 1 vb acc.size (Lib.byteCells acc.data.toList)
  cov : CvAt W b c
  of : CovOf l s c
  on : putOn acc (l.drop j) c = R
  size : acc.size ≤ 1008 * j
  kept : Kept (fun _ => False) w W

set_option maxHeartbeats 400000 in
set_option maxRecDepth 100000 in
theorem putA_many (v : Value) (l : List Av) (s : ByteArray) (w : World) (hv : AvsAt w v l) (hl : 40 < l.length) :
    Calls Tryz.prog 34 #[v, .string s] w fun e w' => e = .returned (.tuple #[.string (putAF l s).1, .int .i64 (putAF l s).2]) ∧ Kept (fun _ => False) w w' := by
  obtain ⟨p, cap, rfl⟩ := RowsAt.slice hv
  have hlz : (40 : Int) < (l.length : Int) := by omega
  have e : putAF l s = (⟨#[]⟩, 2) := by unfold putAF; rw [if_pos hl]
  rw [e]
  clear hv hl e
  go_enter Tryz.func34, Tryz.ntmps34
  go_wp2
  go_ret2
  exact ⟨rfl, Kept.refl _ _⟩

set_option maxHeartbeats 8000000 in
set_option maxRecDepth 100000 in
theorem putA_few (v : Value) (l : List Av) (s : ByteArray) (w : World) (hv : AvsAt w v l) (hl : l.length ≤ 40) (hs : s.size ≤ 1000000) (hsz : ∀ x ∈ l, x.value.size ≤ 140737488351232)
    (hM : s.size ≠ 0 → (∃ x ∈ l, isVec x = true) → MaskAt w) :
    Calls Tryz.prog 34 #[v, .string s] w fun e w' => e = .returned (.tuple #[.string (putAF l s).1, .int .i64 (putAF l s).2]) ∧ Kept (fun _ => False) w w' := by
  obtain ⟨p, cap, rfl⟩ := RowsAt.slice hv
  obtain ⟨i0, hi, hz0, hz1, hz2⟩ := info_parts info5
  have Hat : Hid (∀ (j : Nat) (x : Av), l[j]? = some x → ∀ W, Kept (fun _ => False) w W → ∃ g o, p = some ⟨g, o, none⟩ ∧ l.length ≤ cap ∧ W.cell? ⟨g, o + j * 5, none⟩ = some (.bool x.must) ∧ W.cell? ⟨g, o + j * 5 + 1, none⟩ = some (.bool x.hidden) ∧ W.cell? ⟨g, o + j * 5 + 2, none⟩ = some (.int .i64 x.vendor) ∧ W.cell? ⟨g, o + j * 5 + 3, none⟩ = some (.int .i64 x.type) ∧ W.cell? ⟨g, o + j * 5 + 4, none⟩ = some (.string x.value)) :=
    fun j x hj W hW => AvsAt.at5 (RowsAt.kept0 hv hW) hj
  have Hsz := hid hsz
  have HM := hid hM
  have hlz : (l.length : Int) ≤ 40 := by omega
  obtain ⟨R, hR⟩ : ∃ R, R = putOn ⟨#[]⟩ l (cov0 s) := ⟨_, rfl⟩
  obtain ⟨Q, hQ⟩ : ∃ Q, Q = putAF l s := ⟨_, rfl⟩
  have HQ : Hid (Q = if R.2 = 0 then (if 1488 < R.1.size then (⟨#[]⟩, 2) else (R.1, 0)) else (⟨#[]⟩, R.2)) := by
    show _ = _
    rw [hQ, hR]
    unfold putAF
    rw [if_neg (by omega)]
  rw [← hQ]
  have HC : Hid (CvAt (w.alloc (.cells #[.string s, .string ⟨#[]⟩, .bool false] 129)) w.heap.size (cov0 s)) := CvAt.new w (cov0 s)
  have HK := hid ((Kept.refl (fun _ => False) w).alloc (.cells #[.string s, .string ⟨#[]⟩, .bool false] 129))
  have HI0 : Hid (PutI w l s R w.heap.size 0 ⟨#[]⟩ (.slice none 0 0) (cov0 s) (w.alloc (.cells #[.string s, .string ⟨#[]⟩, .bool false] 129))) :=
    ⟨World.ownsRow_nil _ _ _ _, HC.out, ⟨⟨hs, Nat.zero_le _⟩, rfl, fun h => by cases h⟩, hR.symm, Nat.zero_le _, HK.out⟩
  clear hv hsz hM hR hQ HC HK
  go_enter Tryz.func34, Tryz.ntmps34
  go_upto_region 5 with fail
  generalize w.alloc (.cells #[.string s, .string ⟨#[]⟩, .bool false] 129) = W0 at *
  go_wp2
  go_loopw [6, 19] (fun vb vi wr => ∃ (j : Nat) (acc : ByteArray) (c : Cov), j ≤ l.length ∧ vi = .int .i64 (j : Int) ∧ Hid (PutI w l s R w.heap.size j acc vb c wr)) (fun _ vi _ => l.length - (intOf vi).toNat)
  case atStart => exact ⟨0, ⟨#[]⟩, cov0 s, Nat.zero_le _, rfl, HI0.out⟩
  case round =>
    obtain ⟨j, acc, c, hj, rfl, HI⟩ := hrel
    by_cases hlt : j < l.length
    · have hltz : (j : Int) < (l.length : Int) := by omega
      obtain ⟨x, hx⟩ : ∃ x, l[j]? = some x := ⟨l[j], by simp [hlt]⟩
      have hmem := List.mem_of_getElem? hx
      obtain ⟨g, o, rfl, hcap, r0, r1, r2, r3, r4⟩ := Hat.out j x hx wr HI.out.kept
      have HS := hid (Hsz.out x hmem)
      have hT := HI.out.on
      rw [drop_at hx] at hT
      simp only [putOn] at hT
      have HA0 := hid (AvAt.new wr x)
      have HC0 := hid (HI.out.cov.kept0 ((Kept.refl (fun _ => False) wr).alloc (.cells #[.bool x.must, .bool x.hidden, .int .i64 x.vendor, .int .i64 x.type, .string x.value] 72)))
      have HK0 := hid (HI.out.kept.alloc (.cells #[.bool x.must, .bool x.hidden, .int .i64 x.vendor, .int .i64 x.type, .string x.value] 72))
      have HO0 := hid (HI.out.own.alloc (.cells #[.bool x.must, .bool x.hidden, .int .i64 x.vendor, .int .i64 x.type, .string x.value] 72))
      have HF := hid HI.out.of
      have hac := HI.out.size
      have HP := hid (fun W (hk : Kept (fun _ => False) w W) => putOne_any x c HF.out.few HS.out W (fun h1 h2 => (HM.out (by rw [← HF.out.secret]; exact (lacksF_0 h2).1) (HF.out.has (lacksF_0 h2).2)).kept hk))
      have hps := putOneF_size x c
      have HE := hid (fun (h : (putOneF x c).2 = 0) => putOneF_ok h)
      have HMem := hid hmem
      clear HI hx hmem
      go_upto_region 8 with fail
      obtain ⟨BX, hBX⟩ : ∃ BX, BX = wr.heap.size := ⟨_, rfl⟩
      rw [← hBX] at HA0
      generalize hW1 : wr.alloc (.cells #[.bool x.must, .bool x.hidden, .int .i64 x.vendor, .int .i64 x.type, .string x.value] 72) = W1 at *
      rw [← hBX]
      clear hW1 hBX
      obtain ⟨a0, a1, a2, a3, a4⟩ := HA0.out.cells
      obtain ⟨c0, c1, c2⟩ := HC0.out.cells
      by_cases he : (putOneF x c).2 = 0
      · rw [if_pos he] at hT
        rw [he] at HP
        have HV := hid (HE.out he)
        obtain ⟨X, hX⟩ : ∃ X, X = (putOneF x c).1 := ⟨_, rfl⟩
        rw [← hX] at hT HP hps
        have HT := hid hT
        clear he hX hT HE
        unfold avV cvV at HP
        go_wp2_with fail
        refine (HP.out _ HK0.out).mono ?_
        rintro e w1 ⟨rfl, hk1⟩
        have HA1 := hid (HA0.out.kept0 hk1)
        have HC1 := hid (HC0.out.kept0 hk1)
        have HO1 := hid (row_kept HO0.out hk1 (fun _ _ h => h))
        have HK1 := hid (HK0.out.trans hk1)
        have hs1 := HK1.out.size
        clear hk1 a0 a1 a2 a3 a4 c0 c1 c2 HA0 HC0 HO0 HK0
        go_wp2_with (at_builtin; refine Lib.wpList_append_own_string _ rfl _ _ 127 9 rfl w.heap.size 5 i0 Tryz.underlying127 Tryz.underlying9 hi hz0 hz1 hz2 _ _ _ rfl HO1.out X rfl ?c1 ?c2 ?c3 ?_)
        case c1 => unfold maxLen; omega
        case c2 => omega
        case c3 => exact hs1
        intro v7 w7 hown7 hg7 _
        have R7 := append_str hs1 HO1.out hown7 hg7
        have hk7 : Kept (fun i => u6.ownBlock = some i) w1 w7 := (Kept.refl _ w1).grown hg7 (fun j hj => Or.inr hj)
        have HA7 := hid (HA1.out.kept hk7 (row_box HA1.out HO1.out))
        have HC7 := hid (HC1.out.kept hk7 (row_cover HC1.out HO1.out))
        have HK7 := hid (kept_base HK1.out (Nat.le_refl _) HO1.out hk7)
        have HO7 : Hid (w7.ownsRow w.heap.size 5 1 v7 (acc ++ X).size (Lib.byteCells (acc ++ X).data.toList)) := by
          show World.ownsRow _ _ _ _ _ _ _
          rw [ByteArray.size_append, ByteArray.data_append, Array.toList_append]
          exact R7.1
        have HP7 := hid (pass_any w.heap.size c x w7 HC7.out)
        clear hown7 hg7 R7 hk7 HA1 HC1 HO1 HK1
        obtain ⟨a0, a1, a2, a3, a4⟩ := HA7.out.cells
        unfold avV at HP7
        go_wp2_with fail
        refine HP7.out.mono ?_
        rintro e w8 ⟨rfl, hc8, hk8⟩
        have HN : Hid (PutI w l s R w.heap.size (j + 1) (acc ++ X) v7 (passF c x) w8) :=
          ⟨row_kept HO7.out hk8 (fun i hi e => row_cover HC7.out HO7.out (by rw [hi, e])), hc8, HF.out.pass HMem.out (by have := HV.out; omega), HT.out, by rw [ByteArray.size_append]; omega, HK7.out.andThen hk8 (fun i hi e => by omega)⟩
        clear hc8 hk8 HP7 HC7 HA7 HO7 HK7 a0 a1 a2 a3 a4
        go_wp2
        exact ⟨⟨j + 1, _, _, hlt, by go_num, HN.out⟩, by simp [intOf]; omega⟩
      · rw [if_neg he] at hT
        have hne : ((putOneF x c).2 != 0) = true := by rw [bne_iff_ne]; exact he
        have HT : Hid (R = (⟨#[]⟩, (putOneF x c).2) ∧ ¬ (putOneF x c).2 = 0) := ⟨hT.symm, he⟩
        generalize (putOneF x c).2 = L at *
        generalize (putOneF x c).1 = X at *
        clear he hT HE
        unfold avV cvV at HP
        go_wp2_with fail
        refine (HP.out _ HK0.out).mono ?_
        rintro e w1 ⟨rfl, hk1⟩
        have HK1 := hid (HK0.out.trans hk1)
        clear hk1
        go_wp2
        go_ret2
        exact ⟨by rw [HQ.out, HT.out.1, if_neg HT.out.2]; rfl, HK1.out⟩
    · obtain rfl : j = l.length := by omega
      have hltz : ¬ (l.length : Int) < (l.length : Int) := by omega
      have hT := HI.out.on
      rw [List.drop_length] at hT
      simp only [putOn] at hT
      have hown := HI.out.own
      have hcv := put_conv hown
      have HK := hid HI.out.kept
      have hab : (⟨acc.data.toList.toArray⟩ : ByteArray) = acc := bytes_ext rfl
      rw [hab] at hcv
      obtain ⟨q, cp, rfl⟩ := slice_of hown
      by_cases h8 : 1488 < acc.size
      · have HT : Hid (Q = (⟨#[]⟩, 2)) := by
          show _ = _
          rw [HQ.out, ← hT, if_pos rfl]
          exact if_pos h8
        have h8z : (1488 : Int) < (acc.size : Int) := by omega
        clear hT hown HI hlt h8 hab
        go_wp2
        go_ret2
        exact ⟨by rw [HT.out]; rfl, HK.out⟩
      · have HT : Hid (Q = (acc, 0)) := by
          show _ = _
          rw [HQ.out, ← hT, if_pos rfl]
          exact if_neg h8
        have h8z : ¬ (1488 : Int) < (acc.size : Int) := by omega
        clear hT hown HI hlt h8 hab
        go_wp2
        go_ret2
        exact ⟨by rw [HT.out]; rfl, HK.out⟩
end Go.Proofs.YtkneogfeokckjaaGreatDoor
