/- The walk of IpcpAsks. -/
import Derived.Test.YtcmdfcdmfdheeaaIpClient
import Derived.Test.YtcmdfcdmfdheeaaIpIn
import Derived.Test.YtcmdfcdmfdheeaaFoIn
import Derived.Test.YtcmdfcdmfdheeaaAsIn
namespace Go.Proofs.Ytcmdfcdmfdheeaa
open Go.RowKit

theorem wpList_eql_asks {P : Program} {ops : Array Oper} {rest : List Oper} {o : Oper} {a : Act} {t t' : TypeId} {x y : Nat} {A A' : Array Value} {B : Bool} {w : World} {Q : Exit → Act → World → Prop} (hw : Region.wanted o (yielded ops a.tmps) = true) (hm : P.eqGuardType P.depth t = false) (ho : o.op = Op.binOp .eql t (.tmp x) (.tmp y) t') (hx : a.eval (.tmp x) = .agg A) (hy : a.eval (.tmp y) = .agg A') (h : (Op.equalIn 10000 t (.agg A) (.agg A')).run P w = .ok B w) (hk : wpList P ops Q rest (a.put o.dst (.bool B)) w) : wpList P ops Q (o :: rest) a w := by
  unfold wpList
  rw [if_pos hw]
  exact .inl (wp_eql hm ho hx hy h hk)

def kC (dns : Bool) : Ng := clientN dns 5 2 5 3
def kS (own peer : Ad) : Ng := serverN own peer ad0 ad0 5 2 5 3
theorem stepK1 (dns : Bool) : doN (kC dns) 2 = ({ kC dns with au := ⟨5, 2, 1, 0⟩ }, []) := by cases dns <;> kernel_rfl
theorem stepK2 (dns : Bool) : doN { kC dns with au := ⟨5, 2, 1, 0⟩ } 0 = ({ kC dns with au := ⟨5, 2, 6, 4⟩, id := 1, last := 1, begun := true }, [⟨1, 1, askC dns, ⟨#[]⟩⟩]) := by cases dns <;> kernel_rfl
theorem stepK3 (own peer : Ad) : doN (kS own peer) 2 = ({ kS own peer with au := ⟨5, 2, 1, 0⟩ }, []) := by kernel_rfl
theorem stepK4 (own peer : Ad) : doN { kS own peer with au := ⟨5, 2, 1, 0⟩ } 0 = ({ kS own peer with au := ⟨5, 2, 6, 4⟩, id := 1, last := 1, begun := true }, [⟨1, 1, [⟨3, adB own⟩], ⟨#[]⟩⟩]) := by kernel_rfl
theorem one_of_map {l : List (Pk0 × Value)} {p : Pk0} (h : l.map (·.1) = [p]) : ∃ v, l = [(p, v)] := by
  match l, h with
  | [(q, v)], h => exact ⟨v, by simpa using h⟩
theorem adr_ask (dns : Bool) : adrF (askC dns) 3 = (ad0, true) ∧ adrF (askC dns) 129 = (ad0, dns) ∧ adrF (askC dns) 131 = (ad0, dns) := by cases dns <;> exact ⟨by kernel_rfl, by kernel_rfl, by kernel_rfl⟩
theorem adr_own (own : Ad) : adrF [⟨3, adB own⟩] 3 = (own, true) := by
  unfold adrF findOB findO
  rw [List.find?_cons_of_pos (by simp)]
  simp [adB_size, adOf_adB]

set_option maxHeartbeats 16000000 in
set_option maxRecDepth 100000 in
theorem ipcpAsks_walk (own peer : Ad) (dns : Bool) (w : World) :
    Calls Try.prog 6 #[adV own, adV peer, .bool dns] w fun r w' => r = .returned (.bool true) ∧ Below w.heap.size w w' := by
  have HAl := hid lawAlive_any
  have HSv := hid (server_any own peer ad0 ad0 5 2 5 3 ⟨by decide, by decide⟩ ⟨by decide, by decide⟩ ⟨by decide, by decide⟩ ⟨by decide, by decide⟩)
  have HCl := hid (client_any dns 5 2 5 3 ⟨by decide, by decide⟩ ⟨by decide, by decide⟩ ⟨by decide, by decide⟩ ⟨by decide, by decide⟩)
  rw [show adV ad0 = .agg #[.int .u8 0, .int .u8 0, .int .u8 0, .int .u8 0] from rfl] at HSv
  have k1 := (Kept.refl (fun _ => False) (w.alloc (.cells #[.int .u8 (own.a.toNat : Int), .int .u8 (own.b.toNat : Int), .int .u8 (own.c.toNat : Int), .int .u8 (own.d.toNat : Int)] 24))).alloc (.cells #[.int .u8 (peer.a.toNat : Int), .int .u8 (peer.b.toNat : Int), .int .u8 (peer.c.toNat : Int), .int .u8 (peer.d.toNat : Int)] 24)
  have hO := (four4_new w 24 (.int .u8 (own.a.toNat : Int)) (.int .u8 (own.b.toNat : Int)) (.int .u8 (own.c.toNat : Int)) (.int .u8 (own.d.toNat : Int))).kept k1 id
  have hP := four4_new (w.alloc (.cells #[.int .u8 (own.a.toNat : Int), .int .u8 (own.b.toNat : Int), .int .u8 (own.c.toNat : Int), .int .u8 (own.d.toNat : Int)] 24)) 24 (.int .u8 (peer.a.toNat : Int)) (.int .u8 (peer.b.toNat : Int)) (.int .u8 (peer.c.toNat : Int)) (.int .u8 (peer.d.toNat : Int))
  have hs : (w.alloc (.cells #[.int .u8 (own.a.toNat : Int), .int .u8 (own.b.toNat : Int), .int .u8 (own.c.toNat : Int), .int .u8 (own.d.toNat : Int)] 24)).heap.size = w.heap.size + 1 := by simp
  rw [hs] at hP
  have KW := hid (((Kept.refl (fun _ => False) w).alloc (.cells #[.int .u8 (own.a.toNat : Int), .int .u8 (own.b.toNat : Int), .int .u8 (own.c.toNat : Int), .int .u8 (own.d.toNat : Int)] 24)).trans k1)
  have HE0 := hid (ad_self ad0)
  rw [show adV ad0 = .agg #[.int .u8 0, .int .u8 0, .int .u8 0, .int .u8 0] from rfl] at HE0
  have HEo := hid (ad_self own)
  unfold adV at HSv HEo ⊢
  generalize hA : ((w.alloc (.cells #[.int .u8 (own.a.toNat : Int), .int .u8 (own.b.toNat : Int), .int .u8 (own.c.toNat : Int), .int .u8 (own.d.toNat : Int)] 24)).alloc (.cells #[.int .u8 (peer.a.toNat : Int), .int .u8 (peer.b.toNat : Int), .int .u8 (peer.c.toNat : Int), .int .u8 (peer.d.toNat : Int)] 24)) = A at *
  have HA := hid hA
  have HO := hid hO
  have HP := hid hP
  clear hA hO hP k1 hs
  go_enter Try.func6, Try.ntmps6
  go_upto_region 1 with fail
  rw [HA.out]
  clear HA
  go_wp2_with fail
  refine (HCl.out _).mono ?_
  rintro r w2 ⟨bx, rfl, ax, hn, _, hk2⟩
  have M2 : Hid (NMine A w2 bx ax (kC dns)) := ⟨hn, hk2⟩
  have hEx := eqNegSome ⟨bx, 0, none⟩
  obtain ⟨⟨o0, o1, o2, o3⟩, _⟩ := HO.out.kept hk2 id
  obtain ⟨⟨p0, p1, p2, p3⟩, _⟩ := HP.out.kept hk2 id
  clear hn hk2 HCl
  go_wp2_with fail
  refine (HSv.out _).mono ?_
  rintro r w4 ⟨bz, rfl, az, hn, _, hk4⟩
  have P4 : Hid (Pair A w4 bx ax (kC dns) bz az (kS own peer)) := Pair.made M2.out hn (Nat.le_refl _) hn.an_lo hk4
  have hEz := eqNegSome ⟨bz, 0, none⟩
  clear hn hk4 HSv M2 o0 o1 o2 o3 p0 p1 p2 p3
  have HD := hid (ngDo_any 2 w4 P4.out.nx)
  rw [stepK1] at HD
  go_wp2_with fail
  refine HD.out.mono ?_
  rintro r w5 ⟨vo, rfl, S5⟩
  obtain ⟨ax5, p5, c5, rfl, N5⟩ := sent_zero S5
  have P5 := hid (P4.out.left N5)
  clear S5 N5 HD P4
  have HD := hid (ngDo_any 2 w5 P5.out.nz)
  rw [stepK3] at HD
  go_wp2_with fail
  refine HD.out.mono ?_
  rintro r w6 ⟨vo, rfl, S6⟩
  obtain ⟨az6, p6, c6, rfl, N6⟩ := sent_zero S6
  have P6 := hid (P5.out.right N6)
  clear S6 N6 HD P5
  have HD := hid (ngDo_any 0 w6 P6.out.nx)
  rw [stepK2] at HD
  go_wp2_with fail
  refine HD.out.mono ?_
  rintro r w7 ⟨vo, rfl, S7⟩
  obtain ⟨ax7, lp, N7, L7, E7⟩ := P6.out.sentL S7
  obtain ⟨vp, rfl⟩ := one_of_map E7
  have P7 := hid (P6.out.left N7)
  obtain ⟨pp7, cp7, e7⟩ := L7.slice
  rw [List.length_singleton] at e7
  subst e7
  have L7 := hid L7
  clear S7 N7 HD P6 E7
  have HD := hid (ngDo_any 0 w7 P7.out.nz)
  rw [stepK4] at HD
  go_wp2_with fail
  refine HD.out.mono ?_
  rintro r w8 ⟨vo, rfl, S8⟩
  obtain ⟨az8, lq, N8, L8, E8⟩ := P7.out.sentR S8
  obtain ⟨vq, rfl⟩ := one_of_map E8
  obtain ⟨pp8, cp8, e8⟩ := L8.slice
  rw [List.length_singleton] at e8
  subst e8
  have L7 := hid (L7.out.right P7.out N8)
  have L8 := hid L8
  have KA := hid (P7.out.right N8).kept
  clear S8 N8 HD P7 E8
  obtain ⟨pu, cu, eu⟩ := slice_of (L7.out.opts _ List.mem_cons_self)
  obtain ⟨qu, qc, eq⟩ := slice_of (L8.out.opts _ List.mem_cons_self)
  have eq : vq = .slice qu 1 qc := eq
  have eu : vp = .slice pu (askC dns).length cu := eu
  subst eq eu
  obtain ⟨g7, e7, hc7, _, _, u2, _⟩ := L7.out.at (j := 0) rfl
  obtain ⟨g8, e8, hc8, _, _, t2, _⟩ := L8.out.at (j := 0) rfl
  subst e7 e8
  simp only [Nat.zero_mul, Nat.zero_add] at u2 t2
  have HT7 := hid (fun W (k : Kept (fun _ => False) w8 W) => ((L7.out.opts _ List.mem_cons_self).kept k).tags)
  have HT8 := hid (fun W (k : Kept (fun _ => False) w8 W) => ((L8.out.opts _ List.mem_cons_self).kept k).tags)
  have HU := hid u2
  have HV := hid t2
  have HSz := hid (And.intro (show (askC dns).length ≤ 1000000 by have := (askC_fine dns).1; omega) (askC_fine dns).2.2)
  have HSo : Hid (([⟨3, adB own⟩] : List Tg).length ≤ 1000000 ∧ ∀ x ∈ ([⟨3, adB own⟩] : List Tg), x.value.size ≤ 140737488351232) := ⟨by simp, fun x hx => by rw [List.mem_singleton.1 hx]; show (adB own).size ≤ _; rw [adB_size]; omega⟩
  have HAk := hid (adr_ask dns)
  have hcz : (0 : Int) < ((1 : Nat) : Int) := by decide
  clear L7 L8
  have HAd := hid (iaddress_any _ (askC dns) 3 _ (HT7.out _ (Kept.refl (fun _ => False) w8)) HSz.out.1 HSz.out.2)
  rw [HAk.out.1] at HAd
  rw [show adV (ad0, true).1 = .agg #[.int .u8 0, .int .u8 0, .int .u8 0, .int .u8 0] from rfl] at HAd
  simp only at HAd
  go_wp2_with fail
  refine HAd.out.mono ?_
  rintro r y0 ⟨rfl, hk⟩
  have ka := (Kept.refl (fun _ => False) y0).alloc (.cells #[.int .u8 0, .int .u8 0, .int .u8 0, .int .u8 0] 24)
  have KB0 := hid (((Kept.refl (fun _ => False) w8).trans hk).trans ka)
  have B0 := hid (four4_new y0 24 (.int .u8 0) (.int .u8 0) (.int .u8 0) (.int .u8 0))
  clear hk ka HAd u2 t2
  have u2 := (KB0.out.cell (p := ⟨g7, 2, none⟩) (lt_of_cell HU.out) id).trans HU.out
  have t2 := (KB0.out.cell (p := ⟨g8, 2, none⟩) (lt_of_cell HV.out) id).trans HV.out
  have HAd := hid (iaddress_any _ (askC dns) 129 _ (HT7.out _ KB0.out) HSz.out.1 HSz.out.2)
  rw [HAk.out.2.1] at HAd
  rw [show adV (ad0, dns).1 = .agg #[.int .u8 0, .int .u8 0, .int .u8 0, .int .u8 0] from rfl] at HAd
  simp only at HAd
  go_wp2_with fail
  refine HAd.out.mono ?_
  rintro r y1 ⟨rfl, hk⟩
  have ka := (Kept.refl (fun _ => False) y1).alloc (.cells #[.int .u8 0, .int .u8 0, .int .u8 0, .int .u8 0] 24)
  have KB1 := hid ((KB0.out.trans hk).trans ka)
  have B0 := hid (B0.out.kept (hk.trans ka) id)
  have B1 := hid (four4_new y1 24 (.int .u8 0) (.int .u8 0) (.int .u8 0) (.int .u8 0))
  clear hk ka HAd u2 t2
  have u2 := (KB1.out.cell (p := ⟨g7, 2, none⟩) (lt_of_cell HU.out) id).trans HU.out
  have t2 := (KB1.out.cell (p := ⟨g8, 2, none⟩) (lt_of_cell HV.out) id).trans HV.out
  have HAd := hid (iaddress_any _ (askC dns) 131 _ (HT7.out _ KB1.out) HSz.out.1 HSz.out.2)
  rw [HAk.out.2.2] at HAd
  rw [show adV (ad0, dns).1 = .agg #[.int .u8 0, .int .u8 0, .int .u8 0, .int .u8 0] from rfl] at HAd
  simp only at HAd
  go_wp2_with fail
  refine HAd.out.mono ?_
  rintro r y2 ⟨rfl, hk⟩
  have ka := (Kept.refl (fun _ => False) y2).alloc (.cells #[.int .u8 0, .int .u8 0, .int .u8 0, .int .u8 0] 24)
  have KB2 := hid ((KB1.out.trans hk).trans ka)
  have B0 := hid (B0.out.kept (hk.trans ka) id)
  have B1 := hid (B1.out.kept (hk.trans ka) id)
  have B2 := hid (four4_new y2 24 (.int .u8 0) (.int .u8 0) (.int .u8 0) (.int .u8 0))
  clear hk ka HAd u2 t2
  have u2 := (KB2.out.cell (p := ⟨g7, 2, none⟩) (lt_of_cell HU.out) id).trans HU.out
  have t2 := (KB2.out.cell (p := ⟨g8, 2, none⟩) (lt_of_cell HV.out) id).trans HV.out
  have HAd := hid (iaddress_any _ [⟨3, adB own⟩] 3 _ (HT8.out _ KB2.out) HSo.out.1 HSo.out.2)
  rw [adr_own own] at HAd
  unfold adV at HAd
  simp only at HAd
  go_wp2_with fail
  refine HAd.out.mono ?_
  rintro r y3 ⟨rfl, hk⟩
  have ka := (Kept.refl (fun _ => False) y3).alloc (.cells #[.int .u8 (own.a.toNat : Int), .int .u8 (own.b.toNat : Int), .int .u8 (own.c.toNat : Int), .int .u8 (own.d.toNat : Int)] 24)
  have KB3 := hid ((KB2.out.trans hk).trans ka)
  have B0 := hid (B0.out.kept (hk.trans ka) id)
  have B1 := hid (B1.out.kept (hk.trans ka) id)
  have B2 := hid (B2.out.kept (hk.trans ka) id)
  have B3 := hid (four4_new y3 24 (.int .u8 (own.a.toNat : Int)) (.int .u8 (own.b.toNat : Int)) (.int .u8 (own.c.toNat : Int)) (.int .u8 (own.d.toNat : Int)))
  clear hk ka HAd u2 t2
  have u2 := (KB3.out.cell (p := ⟨g7, 2, none⟩) (lt_of_cell HU.out) id).trans HU.out
  have t2 := (KB3.out.cell (p := ⟨g8, 2, none⟩) (lt_of_cell HV.out) id).trans HV.out
  go_wp2_with fail
  refine (HAl.out _).mono ?_
  rintro r yz ⟨rfl, hk⟩
  have KZ := hid (KB3.out.trans hk)
  have B0 := hid (B0.out.kept hk id)
  have B1 := hid (B1.out.kept hk id)
  have B2 := hid (B2.out.kept hk id)
  have B3 := hid (B3.out.kept hk id)
  clear hk u2 t2
  have t2 := (KZ.out.cell (p := ⟨g8, 2, none⟩) (lt_of_cell HV.out) id).trans HV.out
  have KF := hid ((KW.out.trans KA.out).trans KZ.out)
  obtain ⟨⟨o0, o1, o2, o3⟩, _⟩ := HO.out.kept (KA.out.trans KZ.out) id
  obtain ⟨⟨b00, b01, b02, b03⟩, _⟩ := B0.out
  obtain ⟨⟨b30, b31, b32, b33⟩, _⟩ := B3.out
  clear HAl HT7 HT8 HSz HSo HAk
  dsimp only
  cases dns with
  | false =>
    repeat (first | ((with_reducible change wpList _ _ _ _ _ _); (refine wpList_eql_asks (by kernel_rfl) (by kernel_rfl) rfl (by rfl) (by rfl) (HE0.out _) ?_); clear HE0) | (have _q := HE0; clear _q; go_step))
    repeat (first | ((with_reducible change wpList _ _ _ _ _ _); (refine wpList_eql_asks (by kernel_rfl) (by kernel_rfl) rfl (by rfl) (by rfl) (HEo.out _) ?_); clear HEo) | (have _q := HEo; clear _q; go_step))
    go_wp2
    go_ret
    exact ⟨rfl, KF.out.below (Nat.le_refl _) (fun _ h => h.elim)⟩
  | true =>
    repeat (first | ((with_reducible change wpList _ _ _ _ _ _); (refine wpList_eql_asks (by kernel_rfl) (by kernel_rfl) rfl (by rfl) (by rfl) (HE0.out _) ?_); clear HE0) | (have _q := HE0; clear _q; go_step))
    repeat (first | ((with_reducible change wpList _ _ _ _ _ _); (refine wpList_eql_asks (by kernel_rfl) (by kernel_rfl) rfl (by rfl) (by rfl) (HEo.out _) ?_); clear HEo) | (have _q := HEo; clear _q; go_step))
    go_wp2
    go_ret
    exact ⟨rfl, KF.out.below (Nat.le_refl _) (fun _ h => h.elim)⟩
end Go.Proofs.Ytcmdfcdmfdheeaa
