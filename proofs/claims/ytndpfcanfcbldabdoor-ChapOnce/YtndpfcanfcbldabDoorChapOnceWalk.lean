/- The law ChapOnce: it returns true for every Id, name and response, and leaves what was there, where digest's two tables hold what the program's text lays. -/
import Derived.Test.YtndpfcanfcbldabDoorCaLive
namespace Go.Proofs.YtndpfcanfcbldabDoor
open Go.RowKit

/-- A server of the law's own. -/
structure SoloS (w W : World) (b : Nat) (s : Ps) : Prop where
  sv : PsIn W b s
  base : w.heap.size ≤ b
  kept : Kept (fun _ => False) w W
theorem SoloS.on {w W W' : World} {b : Nat} {s : Ps} (h : SoloS w W b s) (hk : Kept (fun _ => False) W W') : SoloS w W' b s := ⟨h.sv.kept0 hk, h.base, h.kept.trans hk⟩
theorem SoloS.go {w W W' : World} {b : Nat} {s s' : Ps} (h : SoloS w W b s) (hs : PsIn W' b s') (hk : Kept (fun i => i = b) W W') : SoloS w W' b s' := ⟨hs, h.base, h.kept.andThen hk (fun i hi e => by have := h.base; omega)⟩

theorem putValF_bad {v n : ByteArray} (h : (putValF v n).2 ≠ 0) : (putValF v n).1 = ⟨#[]⟩ := by
  unfold putValF at *
  by_cases h1 : v.size < 1 ∨ 60 < v.size
  · rw [if_pos h1]
  · rw [if_neg h1] at h ⊢
    by_cases h2 : 60 < n.size
    · rw [if_pos h2]
    · rw [if_neg h2] at h
      exact absurd rfl h
theorem once_yes {srv v r n : ByteArray} {x k : Int} (h1 : 1 ≤ r.size) (h2 : r.size ≤ 60) (h3 : n.size ≤ 60) : takeP (sv1 srv v x k) 2 1 (layF r ++ n) = (⟨n, v, r, 1⟩, true, sv2 srv v x k) := by
  unfold takeP
  rw [getValF_put r n h1 h2 h3, if_pos ⟨rfl, rfl, rfl, rfl⟩]
  rfl
theorem once_again {srv v d : ByteArray} {x k id : Int} : takeP (sv2 srv v x k) 2 id d = (noCm, false, sv2 srv v x k) := by
  unfold takeP
  rw [if_neg (fun h => by have := h.1; simp [sv2] at this)]
theorem once_other {srv v d : ByteArray} {x k id : Int} (h : id ≠ 1) : takeP (sv1 srv v x k) 2 id d = (noCm, false, sv1 srv v x k) := by
  unfold takeP
  rw [if_neg (fun hh => h hh.2.2.1)]
theorem once_short {srv v : ByteArray} {x k id : Int} : takeP (sv1 srv v x k) 2 id ⟨#[]⟩ = (noCm, false, sv1 srv v x k) := by
  unfold takeP
  rw [if_neg (fun hh => by have := hh.2.2.2; exact absurd this (by decide))]

section
variable {w W : World} {b : Nat}
theorem solo_start {v srv : ByteArray} {x k : Int} (hc : PsIn W b (newP srv x k)) (hk : Kept (fun _ => False) w W) (hb : w.heap.size ≤ b) (hs : srv.size ≤ 60) (h1 : 1 ≤ v.size) (h2 : v.size ≤ 60) (hx : 1 ≤ k) :
    Calls Tryd.prog 6 #[.pointer (some ⟨b, 0, none⟩), .string v] W fun e w' => ∃ g cap, e = .returned (.slice (some ⟨g, 0, none⟩) 1 cap) ∧ 1 ≤ cap ∧ cap ≤ maxLen ∧ g ≠ b ∧ Hid (SoloS w w' b (sv1 srv v x k) ∧ Box4 w' g (.int .i64 1) (.int .i64 1) (.slice none 0 0) (.string (layF v ++ srv))) := by
  refine (psStart_any b (newP srv x k) hs ⟨Int.le_refl _, (by decide : (0 : Int) ≤ 255)⟩ v (by omega) W hc).mono ?_
  rintro e w' ⟨u, rfl, hc', ho, hk'⟩
  rw [way0 h1 h2 (by omega)] at hc' ho
  obtain ⟨g, cap, rfl, a1, a2, _, bx⟩ := OwnQ.one ho
  exact ⟨g, cap, rfl, a1, a2, hc'.ne ho rfl, ⟨hc', hb, hk.andThen hk' (fun i hi e => by omega)⟩, bx⟩
theorem solo_judge {v srv : ByteArray} {x k : Int} (g : Bool) (h : SoloS w W b (sv1 srv v x k)) :
    Calls Tryd.prog 7 #[.pointer (some ⟨b, 0, none⟩), .bool g] W fun e w' => ∃ p cap, e = .returned (.slice p 0 cap) ∧ Hid (SoloS w w' b (sv1 srv v x k) ∧ Kept (fun i => i = b) W w') := by
  refine (psJudge_any b (sv1 srv v x k) g W h.sv).mono ?_
  rintro e w' ⟨u, rfl, hc, ho, hk⟩
  rw [show judgeP (sv1 srv v x k) g = ([], sv1 srv v x k) from rfl] at hc ho
  obtain ⟨p, cap, hp⟩ := slice_of ho
  exact ⟨p, cap, by rw [hp]; rfl, h.go hc hk, hk⟩
theorem solo_take {s s' : Ps} {id : Int} {d : ByteArray} {x : Cm} {B : Bool} (h : SoloS w W b s) (hd : d.size ≤ 140737488351232) (he : takeP s 2 id d = (x, B, s')) :
    Calls Tryd.prog 8 #[.pointer (some ⟨b, 0, none⟩), .agg #[.int .i64 2, .int .i64 id, .slice none 0 0, .string d]] W fun e w' => e = .returned (.tuple #[.agg #[.string x.name, .string x.value, .string x.response, .int .i64 x.id], .bool B]) ∧ Hid (SoloS w w' b s' ∧ Kept (fun i => i = b) W w') := by
  refine (psTake_any b s 2 id none 0 0 d hd W h.sv).mono ?_
  rintro e w' ⟨rfl, hc, hk⟩
  rw [he] at hc ⊢
  exact ⟨rfl, h.go hc hk, hk⟩
end

set_option maxHeartbeats 2000000 in
set_option maxRecDepth 100000 in
theorem chapOnce_yes (n r : ByteArray) (w : World) (hT : Tables w) (hr : r.size ≤ 140737488351232) (hn : n.size ≤ 140737488351232) (h1 : 1 ≤ r.size) (h2 : r.size ≤ 60) (h3 : n.size ≤ 60) :
    Calls Tryd.prog 3 #[.int .i64 1, .string n, .string r] w fun e w' => e = .returned (.bool true) ∧ Below w.heap.size w w' := by
  have Ha := hid (fun W (hk : Kept (fun _ => False) w W) => aliveH_any W (tab_kept hT hk))
  have HN := hid (psNew_ok ⟨#[115, 114, 118]⟩ (by decide) 3 3 (by decide) (by decide) w)
  have HS := hid (fun W b (hc : PsIn W b (newP ⟨#[115, 114, 118]⟩ 3 3)) (hk : Kept (fun _ => False) w W) (hb : w.heap.size ≤ b) => solo_start (v := ⟨#[99, 104, 97, 108, 108, 101, 110, 103, 101]⟩) hc hk hb (by decide) (by decide) (by decide) (by decide))
  have HJ := hid (fun W b (h : SoloS w W b (sv1 ⟨#[115, 114, 118]⟩ ⟨#[99, 104, 97, 108, 108, 101, 110, 103, 101]⟩ 3 3)) => solo_judge true h)
  have HT1 := hid (fun W b (h : SoloS w W b (sv1 ⟨#[115, 114, 118]⟩ ⟨#[99, 104, 97, 108, 108, 101, 110, 103, 101]⟩ 3 3)) => solo_take (id := 1) (d := layF r ++ n) h (by rw [ByteArray.size_append, layF_size]; omega) (once_yes h1 h2 h3))
  have HT2 := hid (fun W b (h : SoloS w W b (sv2 ⟨#[115, 114, 118]⟩ ⟨#[99, 104, 97, 108, 108, 101, 110, 103, 101]⟩ 3 3)) => solo_take (id := 1) (d := layF r ++ n) h (by rw [ByteArray.size_append, layF_size]; omega) once_again)
  have HP := hid (putVal_any r n hr hn)
  rw [putValF_ok h1 h2 h3] at HP
  simp only at HP
  generalize hd : layF r ++ n = d at *
  generalize layF ⟨#[99, 104, 97, 108, 108, 101, 110, 103, 101]⟩ ++ ⟨#[115, 114, 118]⟩ = D0 at *
  simp only [noCm] at HT1 HT2
  clear hd hT hr hn h1 h2 h3
  go_enter Tryd.func3, Tryd.ntmps3
  go_wp2_with fail
  refine HN.out.mono ?_
  rintro e w1 ⟨b, hb, rfl, hc, hk1⟩
  have HC1 := hid hc
  have HK1 := hid hk1
  clear hc hk1 HN
  go_wp2_with fail
  refine (HP.out _).mono ?_
  rintro e w2 ⟨rfl, hk2⟩
  have HS2 := hid (HS.out _ _ (HC1.out.kept0 hk2) (HK1.out.trans hk2) hb)
  clear hk2 HC1 HK1 HP HS hb
  go_wp2_with fail
  refine HS2.out.mono ?_
  rintro e w3 ⟨g, cap, rfl, hca, hcb, hgb, I3⟩
  clear HS2
  have HJ3 := hid (HJ.out _ _ I3.out.1)
  go_wp2_with fail
  refine HJ3.out.mono ?_
  rintro e w4 ⟨p4, cap4, rfl, I4⟩
  have B4 := hid (I3.out.2.kept I4.out.2 hgb)
  clear HJ HJ3 I3
  have hnb : Hid (w4.heap.size ≠ b) := fun e => by have := I4.out.1.sv.lt; omega
  have k5 := (Kept.refl (fun _ => False) w4).alloc (.cells #[.int .i64 2, .int .i64 1, .slice none 0 0, .string d] 33)
  have I5 := hid (I4.out.1.on k5)
  have B5 := hid (B4.out.kept k5 (fun h => h))
  have P5 := hid (PkAt.new w4 2 1 (.slice none 0 0) d)
  clear k5 I4 B4
  go_upto_region 9 with fail
  generalize w4.alloc (.cells #[.int .i64 2, .int .i64 1, .slice none 0 0, .string d] 33) = W5 at *
  generalize w4.heap.size = gq at *
  obtain ⟨d0, d1, d2, d3⟩ := P5.out.cells
  have HT5 := hid (HT1.out _ _ I5.out)
  go_wp2_with fail
  refine HT5.out.mono ?_
  rintro e w6 ⟨rfl, I6⟩
  have B6 := hid (B5.out.kept I6.out.2 hgb)
  have P6 := hid (P5.out.kept I6.out.2 hnb.out)
  clear HT5 HT1 I5 B5 P5 d0 d1 d2 d3
  have hnc : Hid (w6.heap.size ≠ b) := fun e => by have := I6.out.1.sv.lt; omega
  have k7 := (Kept.refl (fun _ => False) w6).alloc (.cells #[.string n, .string ⟨#[99, 104, 97, 108, 108, 101, 110, 103, 101]⟩, .string r, .int .i64 1] 35)
  have I7 := hid (I6.out.1.on k7)
  have B7 := hid (B6.out.kept k7 (fun h => h))
  have P7 := hid (P6.out.kept k7 (fun h => h))
  have C7 := hid (claim_cells w6 n ⟨#[99, 104, 97, 108, 108, 101, 110, 103, 101]⟩ r 1)
  clear k7 I6 B6 P6
  go_upto_region 10 with fail
  generalize w6.alloc (.cells #[.string n, .string ⟨#[99, 104, 97, 108, 108, 101, 110, 103, 101]⟩, .string r, .int .i64 1] 35) = W7 at *
  generalize w6.heap.size = gc at *
  obtain ⟨e0, e1, e2, e3⟩ := B7.out
  obtain ⟨d0, d1, d2, d3⟩ := P7.out.cells
  have HT7 := hid (HT2.out _ _ I7.out)
  go_wp2_with fail
  refine HT7.out.mono ?_
  rintro e w8 ⟨rfl, I8⟩
  have C8 := hid (C7.out.kept I8.out.2 hnc.out)
  clear HT7 HT2 I7 B7 P7 C7 d0 d1 d2 d3 e0 e1 e2 e3
  have k9 := (Kept.refl (fun _ => False) w8).alloc (.cells #[.string ⟨#[]⟩, .string ⟨#[]⟩, .string ⟨#[]⟩, .int .i64 0] 35)
  have I9 := hid (I8.out.1.on k9)
  have C9 := hid (C8.out.kept k9 (fun h => h))
  clear k9 I8 C8
  go_upto_region 13 with fail
  generalize w8.alloc (.cells #[.string ⟨#[]⟩, .string ⟨#[]⟩, .string ⟨#[]⟩, .int .i64 0] 35) = W9 at *
  go_wp2_with fail
  refine (Ha.out _ I9.out.kept).mono ?_
  rintro e w10 ⟨rfl, hk⟩
  obtain ⟨f0, f1, f2, f3⟩ := C9.out.kept hk (fun h => h)
  have KF := hid (I9.out.kept.trans hk)
  clear hk I9 C9
  go_wp2
  go_ret
  exact ⟨rfl, below_of KF.out⟩

set_option maxHeartbeats 2000000 in
set_option maxRecDepth 100000 in
theorem chapOnce_other (id : Int) (n r : ByteArray) (w : World) (hT : Tables w) (hr : r.size ≤ 140737488351232) (hn : n.size ≤ 140737488351232) (h1 : 1 ≤ r.size) (h2 : r.size ≤ 60) (h3 : n.size ≤ 60) (hid1 : id ≠ 1) :
    Calls Tryd.prog 3 #[.int .i64 id, .string n, .string r] w fun e w' => e = .returned (.bool true) ∧ Below w.heap.size w w' := by
  have Ha := hid (fun W (hk : Kept (fun _ => False) w W) => aliveH_any W (tab_kept hT hk))
  have HN := hid (psNew_ok ⟨#[115, 114, 118]⟩ (by decide) 3 3 (by decide) (by decide) w)
  have HS := hid (fun W b (hc : PsIn W b (newP ⟨#[115, 114, 118]⟩ 3 3)) (hk : Kept (fun _ => False) w W) (hb : w.heap.size ≤ b) => solo_start (v := ⟨#[99, 104, 97, 108, 108, 101, 110, 103, 101]⟩) hc hk hb (by decide) (by decide) (by decide) (by decide))
  have HJ := hid (fun W b (h : SoloS w W b (sv1 ⟨#[115, 114, 118]⟩ ⟨#[99, 104, 97, 108, 108, 101, 110, 103, 101]⟩ 3 3)) => solo_judge true h)
  have HT1 := hid (fun W b (h : SoloS w W b (sv1 ⟨#[115, 114, 118]⟩ ⟨#[99, 104, 97, 108, 108, 101, 110, 103, 101]⟩ 3 3)) => solo_take (id := id) (d := layF r ++ n) h (by rw [ByteArray.size_append, layF_size]; omega) (once_other hid1))
  have HT2 := hid (fun W b (h : SoloS w W b (sv1 ⟨#[115, 114, 118]⟩ ⟨#[99, 104, 97, 108, 108, 101, 110, 103, 101]⟩ 3 3)) => solo_take (id := id) (d := layF r ++ n) h (by rw [ByteArray.size_append, layF_size]; omega) (once_other hid1))
  have HP := hid (putVal_any r n hr hn)
  rw [putValF_ok h1 h2 h3] at HP
  simp only at HP
  generalize hd : layF r ++ n = d at *
  have hne : (id == 1) = false := by simpa using hid1
  generalize layF ⟨#[99, 104, 97, 108, 108, 101, 110, 103, 101]⟩ ++ ⟨#[115, 114, 118]⟩ = D0 at *
  simp only [noCm] at HT1 HT2
  clear hd hT hr hn h1 h2 h3 hid1
  go_enter Tryd.func3, Tryd.ntmps3
  go_wp2_with fail
  refine HN.out.mono ?_
  rintro e w1 ⟨b, hb, rfl, hc, hk1⟩
  have HC1 := hid hc
  have HK1 := hid hk1
  clear hc hk1 HN
  go_wp2_with fail
  refine (HP.out _).mono ?_
  rintro e w2 ⟨rfl, hk2⟩
  have HS2 := hid (HS.out _ _ (HC1.out.kept0 hk2) (HK1.out.trans hk2) hb)
  clear hk2 HC1 HK1 HP HS hb
  go_wp2_with fail
  refine HS2.out.mono ?_
  rintro e w3 ⟨g, cap, rfl, hca, hcb, hgb, I3⟩
  clear HS2
  have HJ3 := hid (HJ.out _ _ I3.out.1)
  go_wp2_with fail
  refine HJ3.out.mono ?_
  rintro e w4 ⟨p4, cap4, rfl, I4⟩
  have B4 := hid (I3.out.2.kept I4.out.2 hgb)
  clear HJ HJ3 I3
  have hnb : Hid (w4.heap.size ≠ b) := fun e => by have := I4.out.1.sv.lt; omega
  have k5 := (Kept.refl (fun _ => False) w4).alloc (.cells #[.int .i64 2, .int .i64 id, .slice none 0 0, .string d] 33)
  have I5 := hid (I4.out.1.on k5)
  have B5 := hid (B4.out.kept k5 (fun h => h))
  have P5 := hid (PkAt.new w4 2 id (.slice none 0 0) d)
  clear k5 I4 B4
  go_upto_region 9 with fail
  generalize w4.alloc (.cells #[.int .i64 2, .int .i64 id, .slice none 0 0, .string d] 33) = W5 at *
  generalize w4.heap.size = gq at *
  obtain ⟨d0, d1, d2, d3⟩ := P5.out.cells
  have HT5 := hid (HT1.out _ _ I5.out)
  go_wp2_with fail
  refine HT5.out.mono ?_
  rintro e w6 ⟨rfl, I6⟩
  have B6 := hid (B5.out.kept I6.out.2 hgb)
  have P6 := hid (P5.out.kept I6.out.2 hnb.out)
  clear HT5 HT1 I5 B5 P5 d0 d1 d2 d3
  have hnc : Hid (w6.heap.size ≠ b) := fun e => by have := I6.out.1.sv.lt; omega
  have k7 := (Kept.refl (fun _ => False) w6).alloc (.cells #[.string ⟨#[]⟩, .string ⟨#[]⟩, .string ⟨#[]⟩, .int .i64 0] 35)
  have I7 := hid (I6.out.1.on k7)
  have B7 := hid (B6.out.kept k7 (fun h => h))
  have P7 := hid (P6.out.kept k7 (fun h => h))
  have C7 := hid (claim_cells w6 ⟨#[]⟩ ⟨#[]⟩ ⟨#[]⟩ 0)
  clear k7 I6 B6 P6
  go_upto_region 10 with fail
  generalize w6.alloc (.cells #[.string ⟨#[]⟩, .string ⟨#[]⟩, .string ⟨#[]⟩, .int .i64 0] 35) = W7 at *
  generalize w6.heap.size = gc at *
  obtain ⟨e0, e1, e2, e3⟩ := B7.out
  obtain ⟨d0, d1, d2, d3⟩ := P7.out.cells
  have HT7 := hid (HT2.out _ _ I7.out)
  go_wp2_with fail
  refine HT7.out.mono ?_
  rintro e w8 ⟨rfl, I8⟩
  have C8 := hid (C7.out.kept I8.out.2 hnc.out)
  clear HT7 HT2 I7 B7 P7 C7 d0 d1 d2 d3 e0 e1 e2 e3
  have k9 := (Kept.refl (fun _ => False) w8).alloc (.cells #[.string ⟨#[]⟩, .string ⟨#[]⟩, .string ⟨#[]⟩, .int .i64 0] 35)
  have I9 := hid (I8.out.1.on k9)
  have C9 := hid (C8.out.kept k9 (fun h => h))
  clear k9 I8 C8
  go_upto_region 13 with fail
  generalize w8.alloc (.cells #[.string ⟨#[]⟩, .string ⟨#[]⟩, .string ⟨#[]⟩, .int .i64 0] 35) = W9 at *
  go_wp2_with fail
  refine (Ha.out _ I9.out.kept).mono ?_
  rintro e w10 ⟨rfl, hk⟩
  obtain ⟨f0, f1, f2, f3⟩ := C9.out.kept hk (fun h => h)
  have KF := hid (I9.out.kept.trans hk)
  clear hk I9 C9
  go_wp2
  go_ret
  exact ⟨rfl, below_of KF.out⟩

set_option maxHeartbeats 2000000 in
set_option maxRecDepth 100000 in
theorem chapOnce_bad (id : Int) (n r : ByteArray) (w : World) (hT : Tables w) (hr : r.size ≤ 140737488351232) (hn : n.size ≤ 140737488351232) (h : (putValF r n).2 ≠ 0) :
    Calls Tryd.prog 3 #[.int .i64 id, .string n, .string r] w fun e w' => e = .returned (.bool true) ∧ Below w.heap.size w w' := by
  have Ha := hid (fun W (hk : Kept (fun _ => False) w W) => aliveH_any W (tab_kept hT hk))
  have HN := hid (psNew_ok ⟨#[115, 114, 118]⟩ (by decide) 3 3 (by decide) (by decide) w)
  have HS := hid (fun W b (hc : PsIn W b (newP ⟨#[115, 114, 118]⟩ 3 3)) (hk : Kept (fun _ => False) w W) (hb : w.heap.size ≤ b) => solo_start (v := ⟨#[99, 104, 97, 108, 108, 101, 110, 103, 101]⟩) hc hk hb (by decide) (by decide) (by decide) (by decide))
  have HJ := hid (fun W b (h : SoloS w W b (sv1 ⟨#[115, 114, 118]⟩ ⟨#[99, 104, 97, 108, 108, 101, 110, 103, 101]⟩ 3 3)) => solo_judge true h)
  have HT1 := hid (fun W b (h : SoloS w W b (sv1 ⟨#[115, 114, 118]⟩ ⟨#[99, 104, 97, 108, 108, 101, 110, 103, 101]⟩ 3 3)) => solo_take (d := ⟨#[]⟩) (id := id) h (by decide) once_short)
  have HT2 := hid (fun W b (h : SoloS w W b (sv1 ⟨#[115, 114, 118]⟩ ⟨#[99, 104, 97, 108, 108, 101, 110, 103, 101]⟩ 3 3)) => solo_take (d := ⟨#[]⟩) (id := id) h (by decide) once_short)
  have HP := hid (putVal_any r n hr hn)
  rw [putValF_bad h] at HP
  have hE : ((putValF r n).2 == 0) = false := by simpa using h
  generalize (putValF r n).2 = E at *
  generalize hd : (⟨#[]⟩ : ByteArray) = d at HP HT1 HT2
  generalize layF ⟨#[99, 104, 97, 108, 108, 101, 110, 103, 101]⟩ ++ ⟨#[115, 114, 118]⟩ = D0 at *
  simp only [noCm] at HT1 HT2
  clear hd hT hr hn h
  go_enter Tryd.func3, Tryd.ntmps3
  go_wp2_with fail
  refine HN.out.mono ?_
  rintro e w1 ⟨b, hb, rfl, hc, hk1⟩
  have HC1 := hid hc
  have HK1 := hid hk1
  clear hc hk1 HN
  go_wp2_with fail
  refine (HP.out _).mono ?_
  rintro e w2 ⟨rfl, hk2⟩
  have HS2 := hid (HS.out _ _ (HC1.out.kept0 hk2) (HK1.out.trans hk2) hb)
  clear hk2 HC1 HK1 HP HS hb
  go_wp2_with fail
  refine HS2.out.mono ?_
  rintro e w3 ⟨g, cap, rfl, hca, hcb, hgb, I3⟩
  clear HS2
  have HJ3 := hid (HJ.out _ _ I3.out.1)
  go_wp2_with fail
  refine HJ3.out.mono ?_
  rintro e w4 ⟨p4, cap4, rfl, I4⟩
  have B4 := hid (I3.out.2.kept I4.out.2 hgb)
  clear HJ HJ3 I3
  have hnb : Hid (w4.heap.size ≠ b) := fun e => by have := I4.out.1.sv.lt; omega
  have k5 := (Kept.refl (fun _ => False) w4).alloc (.cells #[.int .i64 2, .int .i64 id, .slice none 0 0, .string d] 33)
  have I5 := hid (I4.out.1.on k5)
  have B5 := hid (B4.out.kept k5 (fun h => h))
  have P5 := hid (PkAt.new w4 2 id (.slice none 0 0) d)
  clear k5 I4 B4
  go_upto_region 9 with fail
  generalize w4.alloc (.cells #[.int .i64 2, .int .i64 id, .slice none 0 0, .string d] 33) = W5 at *
  generalize w4.heap.size = gq at *
  obtain ⟨d0, d1, d2, d3⟩ := P5.out.cells
  have HT5 := hid (HT1.out _ _ I5.out)
  go_wp2_with fail
  refine HT5.out.mono ?_
  rintro e w6 ⟨rfl, I6⟩
  have B6 := hid (B5.out.kept I6.out.2 hgb)
  have P6 := hid (P5.out.kept I6.out.2 hnb.out)
  clear HT5 HT1 I5 B5 P5 d0 d1 d2 d3
  have hnc : Hid (w6.heap.size ≠ b) := fun e => by have := I6.out.1.sv.lt; omega
  have k7 := (Kept.refl (fun _ => False) w6).alloc (.cells #[.string ⟨#[]⟩, .string ⟨#[]⟩, .string ⟨#[]⟩, .int .i64 0] 35)
  have I7 := hid (I6.out.1.on k7)
  have B7 := hid (B6.out.kept k7 (fun h => h))
  have P7 := hid (P6.out.kept k7 (fun h => h))
  have C7 := hid (claim_cells w6 ⟨#[]⟩ ⟨#[]⟩ ⟨#[]⟩ 0)
  clear k7 I6 B6 P6
  go_upto_region 10 with fail
  generalize w6.alloc (.cells #[.string ⟨#[]⟩, .string ⟨#[]⟩, .string ⟨#[]⟩, .int .i64 0] 35) = W7 at *
  generalize w6.heap.size = gc at *
  obtain ⟨e0, e1, e2, e3⟩ := B7.out
  obtain ⟨d0, d1, d2, d3⟩ := P7.out.cells
  have HT7 := hid (HT2.out _ _ I7.out)
  go_wp2_with fail
  refine HT7.out.mono ?_
  rintro e w8 ⟨rfl, I8⟩
  have C8 := hid (C7.out.kept I8.out.2 hnc.out)
  clear HT7 HT2 I7 B7 P7 C7 d0 d1 d2 d3 e0 e1 e2 e3
  have k9 := (Kept.refl (fun _ => False) w8).alloc (.cells #[.string ⟨#[]⟩, .string ⟨#[]⟩, .string ⟨#[]⟩, .int .i64 0] 35)
  have I9 := hid (I8.out.1.on k9)
  have C9 := hid (C8.out.kept k9 (fun h => h))
  clear k9 I8 C8
  go_upto_region 13 with fail
  generalize w8.alloc (.cells #[.string ⟨#[]⟩, .string ⟨#[]⟩, .string ⟨#[]⟩, .int .i64 0] 35) = W9 at *
  go_wp2_with fail
  refine (Ha.out _ I9.out.kept).mono ?_
  rintro e w10 ⟨rfl, hk⟩
  obtain ⟨f0, f1, f2, f3⟩ := C9.out.kept hk (fun h => h)
  have KF := hid (I9.out.kept.trans hk)
  clear hk I9 C9
  go_wp2
  go_ret
  exact ⟨rfl, below_of KF.out⟩

theorem chapOnce_walk (id : Int) (n r : ByteArray) (w : World) (_ : -9223372036854775808 ≤ id ∧ id ≤ 9223372036854775807) (hn : n.size ≤ 140737488351232) (hr : r.size ≤ 140737488351232) (hT : Tables w) :
    Calls Tryd.prog 3 #[.int .i64 id, .string n, .string r] w fun e w' => e = .returned (.bool true) ∧ Below w.heap.size w w' := by
  by_cases h : (putValF r n).2 = 0
  · by_cases h1 : id = 1
    · subst h1
      obtain ⟨h1, h2, h3⟩ := putValF_is h
      exact chapOnce_yes n r w hT hr hn h1 h2 h3
    · obtain ⟨h2, h3, h4⟩ := putValF_is h
      exact chapOnce_other id n r w hT hr hn h2 h3 h4 h1
  · exact chapOnce_bad id n r w hT hr hn h
end Go.Proofs.YtndpfcanfcbldabDoor
