/- The contract of opts.GetOptions: the options of some bytes, or the error; for every string of at most 2^47 bytes. -/
import Derived.Test.YtdifdcceigoedaaGreatOpPutOpts
import Derived.Deep.RegionWith
namespace Go.Proofs.YtdifdcceigoedaaGreat
open Go.RowKit

theorem cells_pairO_new (w : World) (x : Tg) : ∀ (j : Nat) (u : Value), ([.int .i64 x.type, .string x.value] : List Value)[j]? = some u → (w.alloc (.cells #[.int .i64 x.type, .string x.value] 67)).cell? ((⟨w.heap.size, 0, none⟩ : Addr).add j) = some u := cells_two_new _ _ _ _

/-- One more option. -/
theorem own_moreO {w0 w w' : World} {v v' : Value} {l : List Tg} {x : Tg} (hk : Kept (fun _ => False) w0 w) (hown : OwnO w w0.heap.size v l)
    (hown' : w'.ownsRow w0.heap.size 67 2 v' (l.length + 1) (rowT l ++ [.int .i64 x.type, .string x.value])) (hg : (w.alloc (.cells #[.int .i64 x.type, .string x.value] 67)).grownBy w' v.ownBlock) :
    OwnO w' w0.heap.size v' (l ++ [x]) ∧ Kept (fun _ => False) w0 w' := by
  constructor
  · unfold OwnO
    rw [rowT_append, rowT_one, List.length_append]
    exact hown'
  · exact (hk.alloc _).grown hg (fun j hj => Or.inl (World.ownsRow.lt hown j hj).1)

/-- The list as it stands in the middle of a round. -/
def MidO (w : World) (vl : Value) (acc : List Tg) (W : World) : Prop := OwnO W w.heap.size vl acc ∧ Kept (fun _ => False) w W

theorem MidO.since {f : FuncId} {args : Array Value} {r : Ending} (h : ∀ w, Calls Tryz.prog f args w fun e w' => e = r ∧ Kept (fun _ => False) w w') (w : World) (vl : Value) (acc : List Tg) :
    ∀ W, MidO w vl acc W → Calls Tryz.prog f args W fun e w' => e = r ∧ MidO w vl acc w' := fun W hW =>
  (h W).mono fun _ _ ⟨h1, h2⟩ => ⟨h1, hW.1.kept h2, hW.2.trans h2⟩
theorem MidO.drew {w : World} {vl : Value} {acc : List Tg} {W : World} (h : MidO w vl acc W) : MidO w vl acc W.drew := ⟨h.1.kept (Kept.refl _ _).drew, h.2.drew⟩

theorem str_some {s : ByteArray} (h : s.size ≠ 0) : ¬ s.toList = [] := by
  intro e
  rw [ByteArray.toList_eq] at e
  exact h (by rw [Lib.size_eq, e]; rfl)

set_option maxHeartbeats 4000000 in
set_option maxRecDepth 100000 in
theorem getOpts_any (s : ByteArray) (hs : s.size ≤ 140737488351232) (w : World) :
    Calls Tryz.prog 18 #[.string s] w fun e w' => ∃ v, e = .returned (.tuple #[v, .int .i64 (optsOn s.data.toList []).2]) ∧ OwnO w' w.heap.size v (optsOn s.data.toList []).1 ∧ Kept (fun _ => False) w w' := by
  obtain ⟨i0, hi, hz0, hz1, hz2⟩ := info_parts infoOpt
  obtain ⟨R, hR⟩ : ∃ R, R = optsOn s.data.toList [] := ⟨_, rfl⟩
  rw [← hR]
  have HR := hid hR.symm
  clear hR
  go_enter Tryz.func18, Tryz.ntmps18
  go_wp2
  go_loopw [0, 4] (fun vb vl wr => ∃ (b : ByteArray) (acc : List Tg), vb = .string b ∧ Hid (b.size ≤ s.size ∧ acc.length ≤ 30 ∧ optsOn b.data.toList acc = R ∧ MidO w vl acc wr)) (fun vb _ _ => (strV vb).size)
  case atStart => exact ⟨s, [], rfl, Nat.le_refl _, Nat.zero_le _, HR.out, OwnO.nil _ _, Kept.refl _ _⟩
  case round =>
    obtain ⟨b, acc, rfl, HI⟩ := hrel
    obtain ⟨hbs, h30, hT, hmid⟩ := HI.out
    have hbl : b.data.toList.length = b.size := (Lib.size_eq b).symm
    rw [optsOn_eq, hbl] at hT
    have Hm := hid hmid
    clear HI HR hmid
    by_cases h0 : b.size = 0
    · rw [if_pos h0] at hT
      have HT := hid hT
      obtain rfl := str_nil b h0
      clear hT hbl h0
      go_wp2
      go_ret2
      exact ⟨_, by rw [← HT.out]; rfl, by rw [← HT.out]; exact Hm.out.1, Hm.out.2⟩
    · rw [if_neg h0] at hT
      have hne0 := str_some h0
      have hne : b.toList.isEmpty = false := by rw [List.isEmpty_eq_false_iff]; exact hne0
      by_cases h1 : b.size < 2
      · rw [if_pos h1] at hT
        have HT := hid hT
        clear hT hbl
        go_wp2
        go_ret2
        exact ⟨_, by rw [← HT.out]; rfl, by rw [← HT.out]; exact OwnO.nil _ _, Hm.out.2⟩
      · rw [if_neg h1] at hT
        have x0 := index_at b 0 (by omega) 0 rfl
        have x1 := index_at b 1 (by omega) 1 rfl
        have bA := (b.data.toList.getD 0 0).toNat_lt
        have bB := (b.data.toList.getD 1 0).toNat_lt
        generalize (b.data.toList.getD 0 0).toNat = A at *
        generalize (b.data.toList.getD 1 0).toNat = B at *
        have hwA : IntKind.i64.wrap (A : Int) = (A : Int) := by rw [IntKind.wrap_i64]; omega
        have hwB : IntKind.i64.wrap (B : Int) = (B : Int) := by rw [IntKind.wrap_i64]; omega
        have Hmd := hid Hm.out.drew
        by_cases h3 : A = 0 ∨ B < 2
        · rw [if_pos h3] at hT
          have HT := hid hT
          clear hT hbl
          rcases h3 with h3 | h3
          · subst h3
            go_wp2
            go_region
            go_wp2
            go_ret2
            exact ⟨_, by rw [← HT.out]; rfl, by rw [← HT.out]; exact OwnO.nil _ _, Hmd.out.2⟩
          · cases hA : ((A : Int) == 0) with
            | true =>
              go_wp2
              go_region
              go_wp2
              go_ret2
              exact ⟨_, by rw [← HT.out]; rfl, by rw [← HT.out]; exact OwnO.nil _ _, Hmd.out.2⟩
            | false =>
              have hBz : (B : Int) < 2 := by omega
              go_wp2
              go_region
              go_wp2
              go_ret2
              exact ⟨_, by rw [← HT.out]; rfl, by rw [← HT.out]; exact OwnO.nil _ _, Hmd.out.2⟩
        · rw [if_neg h3] at hT
          have hA : ((A : Int) == 0) = false := by rw [beq_eq_false_iff_ne]; omega
          have hBz : ¬ (B : Int) < 2 := by omega
          have hB2 : 2 ≤ B := by omega
          clear h3
          by_cases h4 : b.size < B
          · rw [if_pos h4] at hT
            have HT := hid hT
            have h4z : (b.size : Int) < (B : Int) := by omega
            clear hT hbl
            go_wp2
            go_region
            go_wp2
            go_ret2
            exact ⟨_, by rw [← HT.out]; rfl, by rw [← HT.out]; exact OwnO.nil _ _, Hmd.out.2⟩
          · rw [if_neg h4] at hT
            have h4z : ¬ (b.size : Int) < (B : Int) := by omega
            by_cases h6 : 30 ≤ acc.length
            · rw [if_pos h6] at hT
              have HT := hid hT
              obtain ⟨p, cap, hv4⟩ := slice_of Hm.out.1
              have e30 : acc.length = 30 := by omega
              rw [e30] at hv4
              subst hv4
              clear hT hbl e30
              go_wp2
              go_region
              go_wp2
              go_ret2
              exact ⟨_, by rw [← HT.out]; rfl, by rw [← HT.out]; exact OwnO.nil _ _, Hmd.out.2⟩
            · rw [if_neg h6] at hT
              obtain ⟨p, cap, hv4⟩ := slice_of Hm.out.1
              subst hv4
              have h6z : ((acc.length : Int) == 30) = false := by rw [beq_eq_false_iff_ne]; omega
              have j2 := mid_at b 2 B (by omega) (by omega) 2 (B : Int) rfl rfl
              have jE := last_at b B (by omega) (B : Int) rfl
              have eV : (⟨((b.data.toList.drop 2).take (B - 2)).toArray⟩ : ByteArray) = b.extract 2 B := by
                apply bytes_ext
                rw [Lib.extract_data]
              rw [eV, ← sub_data b B] at hT
              have hsz : (b.extract B b.size).size < b.size := by rw [ByteArray.size_extract]; omega
              have hxs : (b.extract 2 B).size ≤ 281474976710656 := by rw [ByteArray.size_extract]; omega
              obtain ⟨X, hX⟩ : ∃ X, X = b.extract 2 B := ⟨_, rfl⟩
              rw [← hX] at hT j2 hxs
              have HC := hid (MidO.since (fun W => (clone_any X W hxs).mono fun _ _ ⟨h1, h2⟩ => ⟨h1, kept_of h2⟩) w (.slice p acc.length cap) acc)
              have HT := hid hT
              have h30' : acc.length < 30 := by omega
              clear hT hbl hX eV hxs h6 h4
              go_wp2
              go_region
              go_wp2_with fail
              refine (HC.out _ Hmd.out).mono ?_
              rintro e w3 ⟨rfl, hm3⟩
              have Hm3 := hid hm3
              have hown3 := World.ownsRow.alloc hm3.1 (.cells #[.int .i64 (A : Int), .string X] 67)
              have hs3 := hm3.2.size
              clear hm3 Hm Hmd HC
              go_wp2_with (at_builtin; refine wpList_append_own _ rfl _ _ 22 rfl w.heap.size 67 i0 (.agg #[.int .i64 0, .string ⟨#[]⟩]) 2 24 Tryz.underlying22 hi hz0 hz1 hz2 rfl (by decide) _ _ _ rfl hown3 ⟨w3.heap.size, 0, none⟩ 1 1 [.int .i64 (A : Int), .string X] rfl rfl ?c1 ?c2 ?c3 ?c4 ?c5 ?_)
              case c1 => exact cells_two_new _ _ _ _
              case c2 => intro u hu; simp at hu; rcases hu with rfl | rfl <;> rfl
              case c3 => unfold maxLen; omega
              case c4 => omega
              case c5 => simp; omega
              intro v5 w5 hown5 hg5 _
              have hM5 := own_moreO (x := ⟨(A : Int), X⟩) Hm3.out.2 Hm3.out.1 hown5 hg5
              have HM5 := hid hM5
              clear hM5 hown5 hg5 hown3 Hm3
              go_wp2
              exact ⟨⟨_, _, rfl, by omega, by simp; omega, HT.out, HM5.out⟩, by simp [strV]; omega⟩
end Go.Proofs.YtdifdcceigoedaaGreat
