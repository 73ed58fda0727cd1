/- The law AutoNext: it returns true for every state and event, and leaves what was there. -/
import Derived.Test.YtfilfagnljpgcaaGreatAuRef2
import Derived.Test.YtfilfagnljpgcaaGreatBiKit
import Derived.Test.YtfilfagnljpgcaaGreatAuKit
namespace Go.Proofs.YtfilfagnljpgcaaGreat
open Go.RowKit

theorem wpList_book {ops : Array Oper} {rest : List Oper} {o : Oper} {a : Act} {w : World} {Q : Exit → Act → World → Prop} {BC : Array Value} (hBC : bookCells (.slice none 0 0) (.slice none 0 0) = BC) (hg : o.guard = none) (ho : o.op = .build 42 #[])
    (h : wpList Tryz.prog ops Q rest (a.put o.dst (.agg BC)) w) : wpList Tryz.prog ops Q (o :: rest) a w := by
  refine wpList_build hg 42 #[] ho (by kernel_rfl) ?_
  have e : (Tryz.prog.built 42 ((#[] : Array (Nat × Operand)).map fun (i, x) => (i, a.eval x)).toList).getD #[] = bookCells (.slice none 0 0) (.slice none 0 0) := by kernel_rfl
  rw [e, hBC]
  exact h

/-- The book holds k lists that are L, and the document's own list u lies beside it. -/
structure NextIn (w W : World) (bk k : Nat) (u : Value) (L : List Int) : Prop where
  book : BI w W bk (List.replicate k L)
  own : OwnI W 0 u L

set_option maxHeartbeats 8000000 in
set_option maxRecDepth 100000 in
theorem autoNext_walk (s e : Int) (w : World) (hs : In64 s) (he : In64 e) : Calls Tryz.prog 3 #[.int .i64 s, .int .i64 e] w fun e w' => e = .returned (.bool true) ∧ Below w.heap.size w w' := by
  have HR := hid (refNext_any s e)
  have HN := hid (next_any s e hs he)
  have hsh := next_short s e
  generalize nextF s e = nx at *
  obtain ⟨n, L⟩ := nx
  simp only at HR HN hsh
  obtain ⟨BC, hBC⟩ : ∃ BC, bookCells (.slice none 0 0) (.slice none 0 0) = BC := ⟨_, rfl⟩
  have HBC := hid hBC
  clear hBC hs he
  go_enter Tryz.func3, Tryz.ntmps3
  go_wp2_with (refine wpList_book HBC.out rfl rfl ?_)
  have B0 : Hid (BI w (w.alloc (.cells BC 42)) w.heap.size []) := by
    refine ⟨below_of ((Kept.refl _ w).alloc _), ⟨.slice none 0 0, .slice none 0 0, [], [], ?_⟩, fun M hM => by cases hM⟩
    have h := book_new w w.heap.size (Nat.le_refl _)
    rw [HBC.out] at h
    exact h
  refine (HR.out _).mono ?_
  rintro en w1 ⟨v1, rfl, ho1, hk1⟩
  obtain ⟨p1, c1, rfl⟩ := ho1.slice
  have N0 : Hid (NextIn w w1 w.heap.size 0 (.slice p1 L.length c1) L) := ⟨B0.out.kept0 hk1, ho1.mono (Nat.zero_le _)⟩
  clear ho1 hk1 B0 HR HBC
  go_wp2_with fail
  go_loopw [8] (fun vk wr => ∃ k : Nat, k ≤ 2 ∧ vk = .int .i64 (k : Int) ∧ Hid (NextIn w wr w.heap.size k (.slice p1 L.length c1) L)) (fun vk _ => 2 - (intOf vk).toNat)
  case atStart => exact ⟨0, by omega, rfl, N0.out⟩
  case round =>
    obtain ⟨k, hk, rfl, HI⟩ := hrel
    clear N0
    by_cases hlt : k < 2
    · have hltz : (k : Int) < 2 := by omega
      go_wp2_with fail
      refine (HN.out _).mono ?_
      rintro en w2 ⟨v2, rfl, ho2, hk2⟩
      obtain ⟨p2, c2, rfl⟩ := ho2.slice
      have hne : (n != n) = false := by simp
      have HS := hid (sameInts_any _ _ L L w2 ho2.tags (HI.out.own.kept0 hk2).tags (by omega))
      rw [sameF_self] at HS
      have HO2 := hid ho2
      have HK2 := hid hk2
      clear ho2 hk2
      go_wp2_with fail
      refine HS.out.mono ?_
      rintro en w3 ⟨rfl, hk3⟩
      have hadd : Calls Tryz.prog 8 #[.pointer (some ⟨w.heap.size, 0, none⟩), .slice p2 L.length c2] w3 fun e w' => e = .returned (.tuple #[]) ∧ NextIn w w' w.heap.size (k + 1) (.slice p1 L.length c1) L := by
        obtain ⟨v6, v7, vs, us, hB⟩ := HI.out.book.book
        have hk23 := HK2.out.trans hk3
        refine (BI.add ⟨v6, v7, vs, us, hB, hB.kept0 hk23⟩ (HI.out.book.kept0 hk23) (by rw [List.length_replicate]; omega) (by omega) HI.out.book.bel.size (HO2.out.kept0 hk3)).mono ?_
        rintro e w' ⟨rfl, hb, hkk⟩
        refine ⟨rfl, ?_, (HI.out.own.kept0 hk23).book hkk⟩
        rw [List.replicate_succ']
        exact hb
      have HAD := hid hadd
      clear hadd hk3 HS HO2 HK2 HI
      go_wp2_with fail
      refine HAD.out.mono ?_
      rintro en w4 ⟨rfl, hn4⟩
      have H4 := hid hn4
      clear hn4 HAD
      go_wp2
      exact ⟨⟨k + 1, hlt, by go_num, H4.out⟩, by simp [intOf]; omega⟩
    · obtain rfl : k = 2 := by omega
      have hltz : ¬ (((2 : Nat) : Int) < 2) := by omega
      go_wp2_with fail
      refine (alive_any _).mono ?_
      rintro en w2 ⟨rfl, hk2⟩
      have HA := hid ((HI.out.book.kept0 hk2).apart (by rw [List.length_replicate]; omega))
      clear hk2 HI
      go_wp2_with fail
      refine HA.out.mono ?_
      rintro en w3 ⟨rfl, hb⟩
      have HB := hid hb
      clear hb HA
      go_wp2
      go_ret
      exact ⟨rfl, HB.out⟩
end Go.Proofs.YtfilfagnljpgcaaGreat
