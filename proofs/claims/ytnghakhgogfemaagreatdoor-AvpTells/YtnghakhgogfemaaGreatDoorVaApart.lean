/- The contract of the book's Apart where lists of one kind alone are kept: it returns true. -/
import Derived.Test.YtnghakhgogfemaaGreatDoorVaGrow
import Derived.Test.YtnghakhgogfemaaGreatDoorBookNone
namespace Go.Proofs.YtnghakhgogfemaaGreatDoor.BAvps
open Go.RowKit

section
variable {W : World} {bk base : Nat} {v6 v7 : Value} {vs us : List Value} {Ls : List (List El)}

def noX : Nat → Value := fun _ => .slice none 0 0
theorem putL_marked (Ls : List (List El)) (n : Nat) (hn : Ls.length ≤ n) : Marked (putL Ls n) := by
  intro j L hj
  simp only [putL, List.getElem?_mapIdx] at hj
  cases hL : Ls[j]? with
  | none => rw [hL] at hj; simp at hj
  | some M =>
    rw [hL] at hj
    have hlt := (List.getElem?_eq_some_iff.1 hL).1
    simp [show j < n by omega] at hj
    rw [← hj, marksT_length]
theorem putL_size (Ls : List (List El)) (n : Nat) (m : Nat) (h : ∀ L ∈ Ls, L.length ≤ m) : ∀ L ∈ putL Ls n, L.length ≤ m := by
  intro L hL
  obtain ⟨j, hj⟩ := List.getElem?_of_mem hL
  simp only [putL, List.getElem?_mapIdx] at hj
  cases hM : Ls[j]? with
  | none => rw [hM] at hj; simp at hj
  | some M =>
    rw [hM] at hj
    have := h M (List.mem_of_getElem? hM)
    simp at hj
    rw [← hj]
    split
    · rw [marksT_length]; exact this
    · exact this
theorem Rest.cell {vo : Value} {gs : List Value} (h : Rest noX W bk base v6 v7 vs vo gs) (i : Nat) : W.cell? ⟨bk, i, none⟩ = (bookCells noX v6 v7)[i]? := by simp [World.cell?, h.blk]

set_option maxHeartbeats 16000000 in
set_option maxRecDepth 100000 in
theorem apart_Avps (h : BookT noX W bk base v6 v7 vs us Ls) (hb : base ≤ W.heap.size) (hsm : ∀ L ∈ Ls, L.length ≤ 1000) (h250 : vs.length ≤ 250) :
    Calls Tryz.prog 20 #[.pointer (some ⟨bk, 0, none⟩)] W fun e w' => e = .returned (.bool true) ∧ Below base W w' := by
  have HT := hid h
  have Hsm := hid hsm
  have Hb := hid hb
  have H250 := hid h250
  have HL := hid h.p.f6.len
  clear h hsm hb h250
  go_enter Tryz.func20, Tryz.ntmps20
  go_wp2_with fail
  refine (still_Texts ((HT.out.p.cell 0).trans rfl)).mono ?_
  rintro e w' ⟨rfl, hw⟩
  subst w'
  go_wp2_with fail
  refine (still_Ints ((HT.out.p.cell 2).trans rfl)).mono ?_
  rintro e w' ⟨rfl, hw⟩
  subst w'
  go_wp2_with fail
  refine (still_Ethers ((HT.out.p.cell 4).trans rfl)).mono ?_
  rintro e w' ⟨rfl, hw⟩
  subst w'
  go_wp2_with fail
  refine (still_Tags ((HT.out.p.cell 6).trans rfl)).mono ?_
  rintro e w' ⟨rfl, hw⟩
  subst w'
  go_wp2_with fail
  refine (still_Options ((HT.out.p.cell 8).trans rfl)).mono ?_
  rintro e w' ⟨rfl, hw⟩
  subst w'
  go_wp2_with fail
  refine (still_Packets ((HT.out.p.cell 10).trans rfl)).mono ?_
  rintro e w' ⟨rfl, hw⟩
  subst w'
  go_wp2_with fail
  refine (still_Avps HT.out Hsm.out H250.out).mono ?_
  rintro e w1 ⟨rfl, hk1⟩
  have HP1 := hid (HT.out.p.kept0 hk1)
  have HB1 := hid (hk1.below Hb.out (fun _ h => h.elim))
  have Hb1 := hid (Nat.le_trans Hb.out hk1.size)
  clear hk1 HT Hb
  go_wp2_with fail
  refine (still_Ctls ((HP1.out.cell 14).trans rfl)).mono ?_
  rintro e w' ⟨rfl, hw⟩
  subst w'
  go_wp2_with fail
  refine (still_Keys ((HP1.out.cell 16).trans rfl)).mono ?_
  rintro e w' ⟨rfl, hw⟩
  subst w'
  go_wp2_with fail
  refine (still_Sessions ((HP1.out.cell 18).trans rfl)).mono ?_
  rintro e w' ⟨rfl, hw⟩
  subst w'
  go_wp2_with fail
  refine (still_Ids ((HP1.out.cell 20).trans rfl)).mono ?_
  rintro e w' ⟨rfl, hw⟩
  subst w'
  go_wp2_with fail
  refine (still_Grams ((HP1.out.cell 22).trans rfl)).mono ?_
  rintro e w' ⟨rfl, hw⟩
  subst w'
  go_wp2_with fail
  refine (still_Says ((HP1.out.cell 24).trans rfl)).mono ?_
  rintro e w' ⟨rfl, hw⟩
  subst w'
  go_wp2_with fail
  refine (still_Items ((HP1.out.cell 26).trans rfl)).mono ?_
  rintro e w' ⟨rfl, hw⟩
  subst w'
  go_wp2_with fail
  refine (still_Lines ((HP1.out.cell 28).trans rfl)).mono ?_
  rintro e w' ⟨rfl, hw⟩
  subst w'
  go_wp2_with fail
  refine (still_Seats ((HP1.out.cell 30).trans rfl)).mono ?_
  rintro e w' ⟨rfl, hw⟩
  subst w'
  go_wp2_with fail
  refine (still_Events ((HP1.out.cell 32).trans rfl)).mono ?_
  rintro e w' ⟨rfl, hw⟩
  subst w'
  go_wp2_with fail
  refine (still_Steps ((HP1.out.cell 34).trans rfl)).mono ?_
  rintro e w' ⟨rfl, hw⟩
  subst w'
  go_wp2_with fail
  refine (put_Packets ((HP1.out.cell 10).trans rfl)).mono ?_
  rintro e w' ⟨rfl, hw⟩
  subst w'
  go_wp2_with fail
  refine (put_Ctls ((HP1.out.cell 14).trans rfl)).mono ?_
  rintro e w' ⟨rfl, hw⟩
  subst w'
  go_wp2_with fail
  refine (put_Says ((HP1.out.cell 24).trans rfl)).mono ?_
  rintro e w' ⟨rfl, hw⟩
  subst w'
  go_wp2_with fail
  refine (put_Steps ((HP1.out.cell 34).trans rfl)).mono ?_
  rintro e w' ⟨rfl, hw⟩
  subst w'
  go_wp2_with fail
  refine (put_Texts ((HP1.out.cell 0).trans rfl)).mono ?_
  rintro e w' ⟨rfl, hw⟩
  subst w'
  go_wp2_with fail
  refine (put_Ints ((HP1.out.cell 2).trans rfl)).mono ?_
  rintro e w' ⟨rfl, hw⟩
  subst w'
  go_wp2_with fail
  refine (put_Ethers ((HP1.out.cell 4).trans rfl)).mono ?_
  rintro e w' ⟨rfl, hw⟩
  subst w'
  go_wp2_with fail
  refine (put_Tags ((HP1.out.cell 6).trans rfl)).mono ?_
  rintro e w' ⟨rfl, hw⟩
  subst w'
  go_wp2_with fail
  refine (put_Options ((HP1.out.cell 8).trans rfl)).mono ?_
  rintro e w' ⟨rfl, hw⟩
  subst w'
  go_wp2_with fail
  refine (put_Avps HP1.out Hb1.out Hsm.out H250.out).mono ?_
  rintro e w2 ⟨rfl, hp2, hb2⟩
  have HP2 := hid hp2
  have HB2 := hid (HB1.out.trans hb2.b)
  have Hb2 := hid (Nat.le_trans Hb1.out hb2.b.size)
  clear hp2 hb2 HP1 HB1 Hb1
  go_wp2_with fail
  refine (put_Keys ((HP2.out.cell 16).trans rfl)).mono ?_
  rintro e w' ⟨rfl, hw⟩
  subst w'
  go_wp2_with fail
  refine (put_Sessions ((HP2.out.cell 18).trans rfl)).mono ?_
  rintro e w' ⟨rfl, hw⟩
  subst w'
  go_wp2_with fail
  refine (put_Ids ((HP2.out.cell 20).trans rfl)).mono ?_
  rintro e w' ⟨rfl, hw⟩
  subst w'
  go_wp2_with fail
  refine (put_Grams ((HP2.out.cell 22).trans rfl)).mono ?_
  rintro e w' ⟨rfl, hw⟩
  subst w'
  go_wp2_with fail
  refine (put_Items ((HP2.out.cell 26).trans rfl)).mono ?_
  rintro e w' ⟨rfl, hw⟩
  subst w'
  go_wp2_with fail
  refine (put_Lines ((HP2.out.cell 28).trans rfl)).mono ?_
  rintro e w' ⟨rfl, hw⟩
  subst w'
  go_wp2_with fail
  refine (put_Seats ((HP2.out.cell 30).trans rfl)).mono ?_
  rintro e w' ⟨rfl, hw⟩
  subst w'
  go_wp2_with fail
  refine (put_Events ((HP2.out.cell 32).trans rfl)).mono ?_
  rintro e w' ⟨rfl, hw⟩
  subst w'
  go_wp2_with fail
  refine (grow_Texts ((HP2.out.cell 0).trans rfl)).mono ?_
  rintro e w' ⟨rfl, hw⟩
  subst w'
  go_wp2_with fail
  refine (grow_Ints ((HP2.out.cell 2).trans rfl)).mono ?_
  rintro e w' ⟨rfl, hw⟩
  subst w'
  go_wp2_with fail
  refine (grow_Ethers ((HP2.out.cell 4).trans rfl)).mono ?_
  rintro e w' ⟨rfl, hw⟩
  subst w'
  go_wp2_with fail
  refine (grow_Tags ((HP2.out.cell 6).trans rfl)).mono ?_
  rintro e w' ⟨rfl, hw⟩
  subst w'
  go_wp2_with fail
  refine (grow_Options ((HP2.out.cell 8).trans rfl)).mono ?_
  rintro e w' ⟨rfl, hw⟩
  subst w'
  go_wp2_with fail
  refine (grow_Packets ((HP2.out.cell 10).trans rfl)).mono ?_
  rintro e w' ⟨rfl, hw⟩
  subst w'
  go_wp2_with fail
  refine (grow_Avps HP2.out (putL_marked Ls vs.length (Nat.le_of_eq HL.out.symm)) Hb2.out (putL_size Ls _ _ Hsm.out) H250.out).mono ?_
  rintro e w3 ⟨vo, rfl, gs, hgl, Gs, ho⟩
  have HO := hid ho
  have Hgl := hid hgl
  have HB3 := hid (HB2.out.trans ho.bel.b)
  clear ho hgl HP2 HB2
  go_wp2_with fail
  refine (grow_Ctls ((HO.out.rest.cell 14).trans rfl)).mono ?_
  rintro e w' ⟨rfl, hw⟩
  subst w'
  go_wp2_with fail
  refine (grow_Keys ((HO.out.rest.cell 16).trans rfl)).mono ?_
  rintro e w' ⟨rfl, hw⟩
  subst w'
  go_wp2_with fail
  refine (grow_Sessions ((HO.out.rest.cell 18).trans rfl)).mono ?_
  rintro e w' ⟨rfl, hw⟩
  subst w'
  go_wp2_with fail
  refine (grow_Ids ((HO.out.rest.cell 20).trans rfl)).mono ?_
  rintro e w' ⟨rfl, hw⟩
  subst w'
  go_wp2_with fail
  refine (grow_Grams ((HO.out.rest.cell 22).trans rfl)).mono ?_
  rintro e w' ⟨rfl, hw⟩
  subst w'
  go_wp2_with fail
  refine (grow_Says ((HO.out.rest.cell 24).trans rfl)).mono ?_
  rintro e w' ⟨rfl, hw⟩
  subst w'
  go_wp2_with fail
  refine (grow_Items ((HO.out.rest.cell 26).trans rfl)).mono ?_
  rintro e w' ⟨rfl, hw⟩
  subst w'
  go_wp2_with fail
  refine (grow_Lines ((HO.out.rest.cell 28).trans rfl)).mono ?_
  rintro e w' ⟨rfl, hw⟩
  subst w'
  go_wp2_with fail
  refine (grow_Seats ((HO.out.rest.cell 30).trans rfl)).mono ?_
  rintro e w' ⟨rfl, hw⟩
  subst w'
  go_wp2_with fail
  refine (grow_Events ((HO.out.rest.cell 32).trans rfl)).mono ?_
  rintro e w' ⟨rfl, hw⟩
  subst w'
  go_wp2_with fail
  refine (grow_Steps ((HO.out.rest.cell 34).trans rfl)).mono ?_
  rintro e w' ⟨rfl, hw⟩
  subst w'
  have c0 : w3.cell? ⟨bk, 0, none⟩ = some (.slice none 0 0) := (HO.out.rest.cell 0).trans rfl
  have c2 : w3.cell? ⟨bk, 2, none⟩ = some (.slice none 0 0) := (HO.out.rest.cell 2).trans rfl
  have c4 : w3.cell? ⟨bk, 4, none⟩ = some (.slice none 0 0) := (HO.out.rest.cell 4).trans rfl
  have c6 : w3.cell? ⟨bk, 6, none⟩ = some (.slice none 0 0) := (HO.out.rest.cell 6).trans rfl
  have c8 : w3.cell? ⟨bk, 8, none⟩ = some (.slice none 0 0) := (HO.out.rest.cell 8).trans rfl
  have c10 : w3.cell? ⟨bk, 10, none⟩ = some (.slice none 0 0) := (HO.out.rest.cell 10).trans rfl
  go_wp2_with fail
  refine (marked_Texts _).mono ?_
  rintro e w' ⟨rfl, hw⟩
  subst w'
  go_wp2_with fail
  refine (marked_Texts _).mono ?_
  rintro e w' ⟨rfl, hw⟩
  subst w'
  go_wp2_with fail
  refine (marked_Ints _).mono ?_
  rintro e w' ⟨rfl, hw⟩
  subst w'
  go_wp2_with fail
  refine (marked_Ints _).mono ?_
  rintro e w' ⟨rfl, hw⟩
  subst w'
  go_wp2_with fail
  refine (marked_Ethers _).mono ?_
  rintro e w' ⟨rfl, hw⟩
  subst w'
  go_wp2_with fail
  refine (marked_Ethers _).mono ?_
  rintro e w' ⟨rfl, hw⟩
  subst w'
  go_wp2_with fail
  refine (marked_Tags _).mono ?_
  rintro e w' ⟨rfl, hw⟩
  subst w'
  go_wp2_with fail
  refine (marked_Tags _).mono ?_
  rintro e w' ⟨rfl, hw⟩
  subst w'
  go_wp2_with fail
  refine (marked_Options _).mono ?_
  rintro e w' ⟨rfl, hw⟩
  subst w'
  go_wp2_with fail
  refine (marked_Options _).mono ?_
  rintro e w' ⟨rfl, hw⟩
  subst w'
  go_wp2_with fail
  refine (marked_Packets _).mono ?_
  rintro e w' ⟨rfl, hw⟩
  subst w'
  go_wp2_with fail
  refine (marked_Packets _).mono ?_
  rintro e w' ⟨rfl, hw⟩
  subst w'
  go_wp2_with fail
  refine (marked_Avps HO.out.rest.ro HO.out.st.grown HO.out.mks (fun G hG => Nat.le_trans (HO.out.sz G hG) (by decide)) (by rw [Hgl.out]; exact H250.out)).mono ?_
  rintro e w4 ⟨rfl, hk4⟩
  have HR4 := hid (HO.out.rest.kept0 hk4)
  have HF4 := hid (HO.out.st.fam.kept0 hk4)
  have HB4 := hid (HB3.out.trans (hk4.below HO.out.hb (fun _ h => h.elim)))
  have Hb4 := hid (Nat.le_trans HO.out.hb hk4.size)
  have cKind := HR4.out.c6
  clear hk4 HO HB3 c0 c2 c4 c6 c8 c10
  go_wp2_with fail
  refine (marked_Avps HR4.out.r6 HF4.out (putL_marked Ls vs.length (Nat.le_of_eq HL.out.symm)) (putL_size Ls _ _ (fun L hL => Nat.le_trans (Hsm.out L hL) (by decide))) H250.out).mono ?_
  rintro e w5 ⟨rfl, hk5⟩
  have HR5 := hid (HR4.out.kept0 hk5)
  have HB5 := hid (HB4.out.trans (hk5.below Hb4.out (fun _ h => h.elim)))
  clear hk5 HR4 HF4 HB4 cKind
  have c14 : w5.cell? ⟨bk, 14, none⟩ = some (.slice none 0 0) := (HR5.out.cell 14).trans rfl
  have c16 : w5.cell? ⟨bk, 16, none⟩ = some (.slice none 0 0) := (HR5.out.cell 16).trans rfl
  have c18 : w5.cell? ⟨bk, 18, none⟩ = some (.slice none 0 0) := (HR5.out.cell 18).trans rfl
  have c20 : w5.cell? ⟨bk, 20, none⟩ = some (.slice none 0 0) := (HR5.out.cell 20).trans rfl
  have c22 : w5.cell? ⟨bk, 22, none⟩ = some (.slice none 0 0) := (HR5.out.cell 22).trans rfl
  have c24 : w5.cell? ⟨bk, 24, none⟩ = some (.slice none 0 0) := (HR5.out.cell 24).trans rfl
  have c26 : w5.cell? ⟨bk, 26, none⟩ = some (.slice none 0 0) := (HR5.out.cell 26).trans rfl
  have c28 : w5.cell? ⟨bk, 28, none⟩ = some (.slice none 0 0) := (HR5.out.cell 28).trans rfl
  have c30 : w5.cell? ⟨bk, 30, none⟩ = some (.slice none 0 0) := (HR5.out.cell 30).trans rfl
  have c32 : w5.cell? ⟨bk, 32, none⟩ = some (.slice none 0 0) := (HR5.out.cell 32).trans rfl
  have c34 : w5.cell? ⟨bk, 34, none⟩ = some (.slice none 0 0) := (HR5.out.cell 34).trans rfl
  go_wp2_with fail
  refine (marked_Ctls _).mono ?_
  rintro e w' ⟨rfl, hw⟩
  subst w'
  go_wp2_with fail
  refine (marked_Ctls _).mono ?_
  rintro e w' ⟨rfl, hw⟩
  subst w'
  go_wp2_with fail
  refine (marked_Keys _).mono ?_
  rintro e w' ⟨rfl, hw⟩
  subst w'
  go_wp2_with fail
  refine (marked_Keys _).mono ?_
  rintro e w' ⟨rfl, hw⟩
  subst w'
  go_wp2_with fail
  refine (marked_Sessions _).mono ?_
  rintro e w' ⟨rfl, hw⟩
  subst w'
  go_wp2_with fail
  refine (marked_Sessions _).mono ?_
  rintro e w' ⟨rfl, hw⟩
  subst w'
  go_wp2_with fail
  refine (marked_Ids _).mono ?_
  rintro e w' ⟨rfl, hw⟩
  subst w'
  go_wp2_with fail
  refine (marked_Ids _).mono ?_
  rintro e w' ⟨rfl, hw⟩
  subst w'
  go_wp2_with fail
  refine (marked_Grams _).mono ?_
  rintro e w' ⟨rfl, hw⟩
  subst w'
  go_wp2_with fail
  refine (marked_Grams _).mono ?_
  rintro e w' ⟨rfl, hw⟩
  subst w'
  go_wp2_with fail
  refine (marked_Says _).mono ?_
  rintro e w' ⟨rfl, hw⟩
  subst w'
  go_wp2_with fail
  refine (marked_Says _).mono ?_
  rintro e w' ⟨rfl, hw⟩
  subst w'
  go_wp2_with fail
  refine (marked_Items _).mono ?_
  rintro e w' ⟨rfl, hw⟩
  subst w'
  go_wp2_with fail
  refine (marked_Items _).mono ?_
  rintro e w' ⟨rfl, hw⟩
  subst w'
  go_wp2_with fail
  refine (marked_Lines _).mono ?_
  rintro e w' ⟨rfl, hw⟩
  subst w'
  go_wp2_with fail
  refine (marked_Lines _).mono ?_
  rintro e w' ⟨rfl, hw⟩
  subst w'
  go_wp2_with fail
  refine (marked_Seats _).mono ?_
  rintro e w' ⟨rfl, hw⟩
  subst w'
  go_wp2_with fail
  refine (marked_Seats _).mono ?_
  rintro e w' ⟨rfl, hw⟩
  subst w'
  go_wp2_with fail
  refine (marked_Events _).mono ?_
  rintro e w' ⟨rfl, hw⟩
  subst w'
  go_wp2_with fail
  refine (marked_Events _).mono ?_
  rintro e w' ⟨rfl, hw⟩
  subst w'
  go_wp2_with fail
  refine (marked_Steps _).mono ?_
  rintro e w' ⟨rfl, hw⟩
  subst w'
  go_wp2_with fail
  refine (marked_Steps _).mono ?_
  rintro e w' ⟨rfl, hw⟩
  subst w'
  go_wp2
  go_ret
  exact ⟨rfl, HB5.out⟩
end
end Go.Proofs.YtnghakhgogfemaaGreatDoor.BAvps
