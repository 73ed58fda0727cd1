/- The contract of the book's Apart where lists of options and lists of packets without options are kept: it returns true. -/
import Derived.Test.YtndpfcanfcbldaaGreatDoorBtMem
import Derived.Test.YtndpfcanfcbldaaGreatDoorBookNone
namespace Go.Proofs.YtndpfcanfcbldaaGreatDoor
open Go.RowKit

section
variable {W : World} {bk base : Nat} {v8 v9 v10 v11 : Value} {os cs ps ds : List Value} {Os : List (List Tg)} {Ps : List (List Pq)}

set_option maxHeartbeats 16000000 in
set_option maxRecDepth 100000 in
theorem apart_two (h : Two W bk base v8 v9 v10 v11 os cs Os ps ds Ps) (hb : base ≤ W.heap.size) (hso : ∀ L ∈ Os, L.length ≤ 1000) (hsp : ∀ L ∈ Ps, L.length ≤ 1000) (ho250 : os.length ≤ 250) (hp250 : ps.length ≤ 250) :
    Calls Tryz.prog 14 #[.pointer (some ⟨bk, 0, none⟩)] W fun e w' => e = .returned (.bool true) ∧ Below base W w' := by
  have HO := hid h.o
  have HP := hid h.p
  have Hso := hid hso
  have Hsp := hid hsp
  have Hb := hid hb
  have Ho250 := hid ho250
  have Hp250 := hid hp250
  have HLo := hid h.o.p.f6.len
  have HLp := hid h.p.p.f6.len
  clear h hso hsp hb ho250 hp250
  go_enter Tryz.func14, Tryz.ntmps14
  go_wp2_with fail
  refine (still_Texts ((HO.out.p.cell 0).trans rfl)).mono ?_
  rintro e w' ⟨rfl, hw⟩
  subst w'
  go_wp2_with fail
  refine (still_Ints ((HO.out.p.cell 2).trans rfl)).mono ?_
  rintro e w' ⟨rfl, hw⟩
  subst w'
  go_wp2_with fail
  refine (still_Ethers ((HO.out.p.cell 4).trans rfl)).mono ?_
  rintro e w' ⟨rfl, hw⟩
  subst w'
  go_wp2_with fail
  refine (still_Tags ((HO.out.p.cell 6).trans rfl)).mono ?_
  rintro e w' ⟨rfl, hw⟩
  subst w'
  go_wp2_with fail
  refine (still_Options HO.out Hso.out Ho250.out).mono ?_
  rintro e w1 ⟨rfl, hk1⟩
  have HO1 := hid (HO.out.kept0 hk1)
  have HP1 := hid (HP.out.kept0 hk1)
  have HB1 := hid (hk1.below Hb.out (fun _ h => h.elim))
  have Hb1 := hid (Nat.le_trans Hb.out hk1.size)
  clear hk1 HO HP Hb
  go_wp2_with fail
  refine (BPackets.still_Packets HP1.out Hsp.out Hp250.out).mono ?_
  rintro e w2 ⟨rfl, hk2⟩
  have HO2 := hid (HO1.out.kept0 hk2).p
  have HP2 := hid (HP1.out.kept0 hk2).p
  have HB2 := hid (HB1.out.trans (hk2.below Hb1.out (fun _ h => h.elim)))
  have Hb2 := hid (Nat.le_trans Hb1.out hk2.size)
  clear hk2 HO1 HP1 HB1 Hb1
  go_wp2_with fail
  refine (still_Avps ((HO2.out.cell 12).trans rfl)).mono ?_
  rintro e w' ⟨rfl, hw⟩
  subst w'
  go_wp2_with fail
  refine (still_Ctls ((HO2.out.cell 14).trans rfl)).mono ?_
  rintro e w' ⟨rfl, hw⟩
  subst w'
  go_wp2_with fail
  refine (still_Keys ((HO2.out.cell 16).trans rfl)).mono ?_
  rintro e w' ⟨rfl, hw⟩
  subst w'
  go_wp2_with fail
  refine (still_Sessions ((HO2.out.cell 18).trans rfl)).mono ?_
  rintro e w' ⟨rfl, hw⟩
  subst w'
  go_wp2_with fail
  refine (still_Ids ((HO2.out.cell 20).trans rfl)).mono ?_
  rintro e w' ⟨rfl, hw⟩
  subst w'
  go_wp2_with fail
  refine (still_Grams ((HO2.out.cell 22).trans rfl)).mono ?_
  rintro e w' ⟨rfl, hw⟩
  subst w'
  go_wp2_with fail
  refine (still_Says ((HO2.out.cell 24).trans rfl)).mono ?_
  rintro e w' ⟨rfl, hw⟩
  subst w'
  go_wp2_with fail
  refine (still_Items ((HO2.out.cell 26).trans rfl)).mono ?_
  rintro e w' ⟨rfl, hw⟩
  subst w'
  go_wp2_with fail
  refine (still_Lines ((HO2.out.cell 28).trans rfl)).mono ?_
  rintro e w' ⟨rfl, hw⟩
  subst w'
  go_wp2_with fail
  refine (still_Seats ((HO2.out.cell 30).trans rfl)).mono ?_
  rintro e w' ⟨rfl, hw⟩
  subst w'
  go_wp2_with fail
  refine (still_Events ((HO2.out.cell 32).trans rfl)).mono ?_
  rintro e w' ⟨rfl, hw⟩
  subst w'
  go_wp2_with fail
  refine (still_Steps ((HO2.out.cell 34).trans rfl)).mono ?_
  rintro e w' ⟨rfl, hw⟩
  subst w'
  go_wp2_with fail
  refine (BPackets.put_Packets HP2.out Hb2.out Hsp.out Hp250.out).mono ?_
  rintro e w3 ⟨rfl, hp3, hb3⟩
  have HP3 := hid hp3
  have HO3 := hid (HO2.out.other hb3.k (ty_apartP) (hp3.blk.trans (cells_same _ _ _ _)))
  have HB3 := hid (HB2.out.trans hb3.b)
  have Hb3 := hid (Nat.le_trans Hb2.out hb3.b.size)
  clear hp3 hb3 HO2 HP2 HB2 Hb2
  go_wp2_with fail
  refine (put_Ctls ((HO3.out.cell 14).trans rfl)).mono ?_
  rintro e w' ⟨rfl, hw⟩
  subst w'
  go_wp2_with fail
  refine (put_Says ((HO3.out.cell 24).trans rfl)).mono ?_
  rintro e w' ⟨rfl, hw⟩
  subst w'
  go_wp2_with fail
  refine (put_Steps ((HO3.out.cell 34).trans rfl)).mono ?_
  rintro e w' ⟨rfl, hw⟩
  subst w'
  go_wp2_with fail
  refine (put_Texts ((HO3.out.cell 0).trans rfl)).mono ?_
  rintro e w' ⟨rfl, hw⟩
  subst w'
  go_wp2_with fail
  refine (put_Ints ((HO3.out.cell 2).trans rfl)).mono ?_
  rintro e w' ⟨rfl, hw⟩
  subst w'
  go_wp2_with fail
  refine (put_Ethers ((HO3.out.cell 4).trans rfl)).mono ?_
  rintro e w' ⟨rfl, hw⟩
  subst w'
  go_wp2_with fail
  refine (put_Tags ((HO3.out.cell 6).trans rfl)).mono ?_
  rintro e w' ⟨rfl, hw⟩
  subst w'
  go_wp2_with fail
  refine (put_Options HO3.out Hb3.out Hso.out Ho250.out).mono ?_
  rintro e w4 ⟨rfl, ho4, hb4⟩
  have HO4 := hid ho4
  have HP4 := hid (HP3.out.other hb4.k (ty_apartO) (ho4.blk.trans (cells_same _ _ _ _).symm))
  have HB4 := hid (HB3.out.trans hb4.b)
  have Hb4 := hid (Nat.le_trans Hb3.out hb4.b.size)
  clear ho4 hb4 HO3 HP3 HB3 Hb3
  go_wp2_with fail
  refine (put_Avps ((HO4.out.cell 12).trans rfl)).mono ?_
  rintro e w' ⟨rfl, hw⟩
  subst w'
  go_wp2_with fail
  refine (put_Keys ((HO4.out.cell 16).trans rfl)).mono ?_
  rintro e w' ⟨rfl, hw⟩
  subst w'
  go_wp2_with fail
  refine (put_Sessions ((HO4.out.cell 18).trans rfl)).mono ?_
  rintro e w' ⟨rfl, hw⟩
  subst w'
  go_wp2_with fail
  refine (put_Ids ((HO4.out.cell 20).trans rfl)).mono ?_
  rintro e w' ⟨rfl, hw⟩
  subst w'
  go_wp2_with fail
  refine (put_Grams ((HO4.out.cell 22).trans rfl)).mono ?_
  rintro e w' ⟨rfl, hw⟩
  subst w'
  go_wp2_with fail
  refine (put_Items ((HO4.out.cell 26).trans rfl)).mono ?_
  rintro e w' ⟨rfl, hw⟩
  subst w'
  go_wp2_with fail
  refine (put_Lines ((HO4.out.cell 28).trans rfl)).mono ?_
  rintro e w' ⟨rfl, hw⟩
  subst w'
  go_wp2_with fail
  refine (put_Seats ((HO4.out.cell 30).trans rfl)).mono ?_
  rintro e w' ⟨rfl, hw⟩
  subst w'
  go_wp2_with fail
  refine (put_Events ((HO4.out.cell 32).trans rfl)).mono ?_
  rintro e w' ⟨rfl, hw⟩
  subst w'
  go_wp2_with fail
  refine (grow_Texts ((HO4.out.cell 0).trans rfl)).mono ?_
  rintro e w' ⟨rfl, hw⟩
  subst w'
  go_wp2_with fail
  refine (grow_Ints ((HO4.out.cell 2).trans rfl)).mono ?_
  rintro e w' ⟨rfl, hw⟩
  subst w'
  go_wp2_with fail
  refine (grow_Ethers ((HO4.out.cell 4).trans rfl)).mono ?_
  rintro e w' ⟨rfl, hw⟩
  subst w'
  go_wp2_with fail
  refine (grow_Tags ((HO4.out.cell 6).trans rfl)).mono ?_
  rintro e w' ⟨rfl, hw⟩
  subst w'
  go_wp2_with fail
  refine (grow_Options HO4.out (putL_marked Os os.length (Nat.le_of_eq HLo.out.symm)) Hb4.out (putL_size Os _ _ Hso.out) Ho250.out).mono ?_
  rintro e w5 ⟨vo, rfl, gs, hgl, Gs, ho⟩
  have HG5 := hid ho
  have Hgl := hid hgl
  have HP5 := hid (HP4.out.other ho.bel.k (ty_apartO) (ho.rest.blk.trans (cells_same _ _ _ _).symm))
  have HB5 := hid (HB4.out.trans ho.bel.b)
  clear ho hgl HO4 HP4 HB4 Hb4
  go_wp2_with fail
  refine (BPackets.grow_Packets HP5.out (BPackets.putL_marked Ps ps.length (Nat.le_of_eq HLp.out.symm)) HG5.out.hb (BPackets.putL_size Ps _ _ Hsp.out) Hp250.out).mono ?_
  rintro e w6 ⟨vq, rfl, hs, hhl, Hs, hq⟩
  have HQ6 := hid hq
  have Hhl := hid hhl
  have HR6 := hid (And.intro (row_other HG5.out.rest.ro hq.bel.k ty_apartP) (And.intro (fam_other HG5.out.st.grown hq.bel.k ty_apartP) (And.intro (row_other HG5.out.rest.r6 hq.bel.k ty_apartP) (fam_other HG5.out.st.fam hq.bel.k ty_apartP))))
  have HM6 := hid (And.intro HG5.out.mks HG5.out.sz)
  have HB6 := hid (HB5.out.trans hq.bel.b)
  clear hq hhl HG5 HP5 HB5
  go_wp2_with fail
  refine (grow_Avps ((HQ6.out.rest.cell 12).trans rfl)).mono ?_
  rintro e w' ⟨rfl, hw⟩
  subst w'
  go_wp2_with fail
  refine (grow_Ctls ((HQ6.out.rest.cell 14).trans rfl)).mono ?_
  rintro e w' ⟨rfl, hw⟩
  subst w'
  go_wp2_with fail
  refine (grow_Keys ((HQ6.out.rest.cell 16).trans rfl)).mono ?_
  rintro e w' ⟨rfl, hw⟩
  subst w'
  go_wp2_with fail
  refine (grow_Sessions ((HQ6.out.rest.cell 18).trans rfl)).mono ?_
  rintro e w' ⟨rfl, hw⟩
  subst w'
  go_wp2_with fail
  refine (grow_Ids ((HQ6.out.rest.cell 20).trans rfl)).mono ?_
  rintro e w' ⟨rfl, hw⟩
  subst w'
  go_wp2_with fail
  refine (grow_Grams ((HQ6.out.rest.cell 22).trans rfl)).mono ?_
  rintro e w' ⟨rfl, hw⟩
  subst w'
  go_wp2_with fail
  refine (grow_Says ((HQ6.out.rest.cell 24).trans rfl)).mono ?_
  rintro e w' ⟨rfl, hw⟩
  subst w'
  go_wp2_with fail
  refine (grow_Items ((HQ6.out.rest.cell 26).trans rfl)).mono ?_
  rintro e w' ⟨rfl, hw⟩
  subst w'
  go_wp2_with fail
  refine (grow_Lines ((HQ6.out.rest.cell 28).trans rfl)).mono ?_
  rintro e w' ⟨rfl, hw⟩
  subst w'
  go_wp2_with fail
  refine (grow_Seats ((HQ6.out.rest.cell 30).trans rfl)).mono ?_
  rintro e w' ⟨rfl, hw⟩
  subst w'
  go_wp2_with fail
  refine (grow_Events ((HQ6.out.rest.cell 32).trans rfl)).mono ?_
  rintro e w' ⟨rfl, hw⟩
  subst w'
  go_wp2_with fail
  refine (grow_Steps ((HQ6.out.rest.cell 34).trans rfl)).mono ?_
  rintro e w' ⟨rfl, hw⟩
  subst w'
  have c0 : w6.cell? ⟨bk, 0, none⟩ = some (.slice none 0 0) := (HQ6.out.rest.cell 0).trans rfl
  have c2 : w6.cell? ⟨bk, 2, none⟩ = some (.slice none 0 0) := (HQ6.out.rest.cell 2).trans rfl
  have c4 : w6.cell? ⟨bk, 4, none⟩ = some (.slice none 0 0) := (HQ6.out.rest.cell 4).trans rfl
  have c6 : w6.cell? ⟨bk, 6, none⟩ = some (.slice none 0 0) := (HQ6.out.rest.cell 6).trans rfl
  go_wp2_with fail
  refine (marked_Texts _).mono ?_
  rintro e w' ⟨rfl, hw⟩
  subst w'
  go_wp2_with fail
  refine (marked_Texts _).mono ?_
  rintro e w' ⟨rfl, hw⟩
  subst w'
  go_wp2_with fail
  refine (marked_Ints _).mono ?_
  rintro e w' ⟨rfl, hw⟩
  subst w'
  go_wp2_with fail
  refine (marked_Ints _).mono ?_
  rintro e w' ⟨rfl, hw⟩
  subst w'
  go_wp2_with fail
  refine (marked_Ethers _).mono ?_
  rintro e w' ⟨rfl, hw⟩
  subst w'
  go_wp2_with fail
  refine (marked_Ethers _).mono ?_
  rintro e w' ⟨rfl, hw⟩
  subst w'
  go_wp2_with fail
  refine (marked_Tags _).mono ?_
  rintro e w' ⟨rfl, hw⟩
  subst w'
  go_wp2_with fail
  refine (marked_Tags _).mono ?_
  rintro e w' ⟨rfl, hw⟩
  subst w'
  go_wp2_with fail
  refine (marked_Options HR6.out.1 HR6.out.2.1 HM6.out.1 (fun G hG => Nat.le_trans (HM6.out.2 G hG) (by decide)) (by rw [Hgl.out]; exact Ho250.out)).mono ?_
  rintro e w7 ⟨rfl, hk7⟩
  have HQ7 := hid (And.intro (HQ6.out.rest.kept0 hk7) (And.intro (HQ6.out.st.fam.kept0 hk7) (HQ6.out.st.grown.kept0 hk7)))
  have HMq := hid (And.intro HQ6.out.mks HQ6.out.sz)
  have HR7 := hid (And.intro (rowS_kept HR6.out.2.2.1 hk7 (fun _ _ => id)) (HR6.out.2.2.2.kept0 hk7))
  have HB7 := hid (HB6.out.trans (hk7.below HQ6.out.hb (fun _ h => h.elim)))
  have Hb7 := hid (Nat.le_trans HQ6.out.hb hk7.size)
  have c8 : w7.cell? ⟨bk, 8, none⟩ = some v8 := (HQ7.out.1.cell 8).trans rfl
  clear hk7 HQ6 HR6 HM6 HB6 c0 c2 c4 c6
  go_wp2_with fail
  refine (marked_Options HR7.out.1 HR7.out.2 (putL_marked Os os.length (Nat.le_of_eq HLo.out.symm)) (putL_size Os _ _ (fun L hL => Nat.le_trans (Hso.out L hL) (by decide))) Ho250.out).mono ?_
  rintro e w8 ⟨rfl, hk8⟩
  have HQ8 := hid (And.intro (HQ7.out.1.kept0 hk8) (And.intro (HQ7.out.2.1.kept0 hk8) (HQ7.out.2.2.kept0 hk8)))
  have HB8 := hid (HB7.out.trans (hk8.below Hb7.out (fun _ h => h.elim)))
  have Hb8 := hid (Nat.le_trans Hb7.out hk8.size)
  clear hk8 HQ7 HR7 HB7 Hb7 c8
  go_wp2_with fail
  refine (BPackets.marked_Packets HQ8.out.1.ro HQ8.out.2.2 HMq.out.1 (fun G hG => Nat.le_trans (HMq.out.2 G hG) (by decide)) (by rw [Hhl.out]; exact Hp250.out)).mono ?_
  rintro e w9 ⟨rfl, hk9⟩
  have HQ9 := hid (And.intro (HQ8.out.1.kept0 hk9) (HQ8.out.2.1.kept0 hk9))
  have HB9 := hid (HB8.out.trans (hk9.below Hb8.out (fun _ h => h.elim)))
  have Hb9 := hid (Nat.le_trans Hb8.out hk9.size)
  have c10 : w9.cell? ⟨bk, 10, none⟩ = some v10 := HQ9.out.1.c6
  clear hk9 HQ8 HMq HB8 Hb8
  go_wp2_with fail
  refine (BPackets.marked_Packets HQ9.out.1.r6 HQ9.out.2 (BPackets.putL_marked Ps ps.length (Nat.le_of_eq HLp.out.symm)) (BPackets.putL_size Ps _ _ (fun L hL => Nat.le_trans (Hsp.out L hL) (by decide))) Hp250.out).mono ?_
  rintro e w10 ⟨rfl, hk10⟩
  have HQ10 := hid (HQ9.out.1.kept0 hk10)
  have HB10 := hid (HB9.out.trans (hk10.below Hb9.out (fun _ h => h.elim)))
  clear hk10 HQ9 HB9 Hb9 c10
  have c12 : w10.cell? ⟨bk, 12, none⟩ = some (.slice none 0 0) := (HQ10.out.cell 12).trans rfl
  have c14 : w10.cell? ⟨bk, 14, none⟩ = some (.slice none 0 0) := (HQ10.out.cell 14).trans rfl
  have c16 : w10.cell? ⟨bk, 16, none⟩ = some (.slice none 0 0) := (HQ10.out.cell 16).trans rfl
  have c18 : w10.cell? ⟨bk, 18, none⟩ = some (.slice none 0 0) := (HQ10.out.cell 18).trans rfl
  have c20 : w10.cell? ⟨bk, 20, none⟩ = some (.slice none 0 0) := (HQ10.out.cell 20).trans rfl
  have c22 : w10.cell? ⟨bk, 22, none⟩ = some (.slice none 0 0) := (HQ10.out.cell 22).trans rfl
  have c24 : w10.cell? ⟨bk, 24, none⟩ = some (.slice none 0 0) := (HQ10.out.cell 24).trans rfl
  have c26 : w10.cell? ⟨bk, 26, none⟩ = some (.slice none 0 0) := (HQ10.out.cell 26).trans rfl
  have c28 : w10.cell? ⟨bk, 28, none⟩ = some (.slice none 0 0) := (HQ10.out.cell 28).trans rfl
  have c30 : w10.cell? ⟨bk, 30, none⟩ = some (.slice none 0 0) := (HQ10.out.cell 30).trans rfl
  have c32 : w10.cell? ⟨bk, 32, none⟩ = some (.slice none 0 0) := (HQ10.out.cell 32).trans rfl
  have c34 : w10.cell? ⟨bk, 34, none⟩ = some (.slice none 0 0) := (HQ10.out.cell 34).trans rfl
  go_wp2_with fail
  refine (marked_Avps _).mono ?_
  rintro e w' ⟨rfl, hw⟩
  subst w'
  go_wp2_with fail
  refine (marked_Avps _).mono ?_
  rintro e w' ⟨rfl, hw⟩
  subst w'
  go_wp2_with fail
  refine (marked_Ctls _).mono ?_
  rintro e w' ⟨rfl, hw⟩
  subst w'
  go_wp2_with fail
  refine (marked_Ctls _).mono ?_
  rintro e w' ⟨rfl, hw⟩
  subst w'
  go_wp2_with fail
  refine (marked_Keys _).mono ?_
  rintro e w' ⟨rfl, hw⟩
  subst w'
  go_wp2_with fail
  refine (marked_Keys _).mono ?_
  rintro e w' ⟨rfl, hw⟩
  subst w'
  go_wp2_with fail
  refine (marked_Sessions _).mono ?_
  rintro e w' ⟨rfl, hw⟩
  subst w'
  go_wp2_with fail
  refine (marked_Sessions _).mono ?_
  rintro e w' ⟨rfl, hw⟩
  subst w'
  go_wp2_with fail
  refine (marked_Ids _).mono ?_
  rintro e w' ⟨rfl, hw⟩
  subst w'
  go_wp2_with fail
  refine (marked_Ids _).mono ?_
  rintro e w' ⟨rfl, hw⟩
  subst w'
  go_wp2_with fail
  refine (marked_Grams _).mono ?_
  rintro e w' ⟨rfl, hw⟩
  subst w'
  go_wp2_with fail
  refine (marked_Grams _).mono ?_
  rintro e w' ⟨rfl, hw⟩
  subst w'
  go_wp2_with fail
  refine (marked_Says _).mono ?_
  rintro e w' ⟨rfl, hw⟩
  subst w'
  go_wp2_with fail
  refine (marked_Says _).mono ?_
  rintro e w' ⟨rfl, hw⟩
  subst w'
  go_wp2_with fail
  refine (marked_Items _).mono ?_
  rintro e w' ⟨rfl, hw⟩
  subst w'
  go_wp2_with fail
  refine (marked_Items _).mono ?_
  rintro e w' ⟨rfl, hw⟩
  subst w'
  go_wp2_with fail
  refine (marked_Lines _).mono ?_
  rintro e w' ⟨rfl, hw⟩
  subst w'
  go_wp2_with fail
  refine (marked_Lines _).mono ?_
  rintro e w' ⟨rfl, hw⟩
  subst w'
  go_wp2_with fail
  refine (marked_Seats _).mono ?_
  rintro e w' ⟨rfl, hw⟩
  subst w'
  go_wp2_with fail
  refine (marked_Seats _).mono ?_
  rintro e w' ⟨rfl, hw⟩
  subst w'
  go_wp2_with fail
  refine (marked_Events _).mono ?_
  rintro e w' ⟨rfl, hw⟩
  subst w'
  go_wp2_with fail
  refine (marked_Events _).mono ?_
  rintro e w' ⟨rfl, hw⟩
  subst w'
  go_wp2_with fail
  refine (marked_Steps _).mono ?_
  rintro e w' ⟨rfl, hw⟩
  subst w'
  go_wp2_with fail
  refine (marked_Steps _).mono ?_
  rintro e w' ⟨rfl, hw⟩
  subst w'
  go_wp2
  go_ret
  exact ⟨rfl, HB10.out⟩
end
end Go.Proofs.YtndpfcanfcbldaaGreatDoor
