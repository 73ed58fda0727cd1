/- The law NegTells: it returns true for every code, Id and data, and leaves what was there. -/
import Derived.Test.YtodgkmjiiijfpaaNgAlive
import Derived.Test.YtodgkmjiiijfpaaNgSetup
namespace Go.Proofs.Ytodgkmjiiijfpaa
open Go.RowKit

def nT0 : Ng := newN [optA] [rule1] [rule1] 5 2 3 2
def nT1 : Ng := { nT0 with au := ⟨5, 2, 1, 0⟩ }
def nT2 : Ng := { nT0 with au := ⟨5, 2, 6, 4⟩, id := 1, last := 1, begun := true }
def nT3 : Ng := { nT2 with id := 2 }
theorem stepT1 : doN nT0 2 = (nT1, []) := by kernel_rfl
theorem stepT2 : doN nT1 0 = (nT2, [⟨1, 1, [optA], ⟨#[]⟩⟩]) := by kernel_rfl
theorem stepT3 (c i : Int) (s : ByteArray) : happenF ⟨⟨c, i, [], s⟩, pk00⟩ nT2 12 = (nT3, [⟨7, 2, [], rejBytes c i [] s⟩]) := by kernel_rfl
theorem stepT4 (i : Int) : happenF ⟨⟨5, i, [], ⟨#[]⟩⟩, pk00⟩ nT3 10 = (nT3, [⟨6, i, [], ⟨#[]⟩⟩]) := by kernel_rfl

/-- A packet that is short is put whole, and so it is rejected whole. -/
theorem put_short {c i : Int} {s : ByteArray} (h1 : 8 ≤ c) (h2 : c ≤ 255) (h3 : 0 ≤ i) (h4 : i ≤ 255) (hs : s.size ≤ 1000) : (putPackF c i [] s.data.toList).2 = 0 ∧ rejBytes c i [] s = ⟨(putPackF c i [] s.data.toList).1.toArray⟩ := by
  have hl : s.data.toList.length = s.size := (Lib.size_eq s).symm
  have hc : confB c = false := by unfold confB; simp; omega
  have hb : (byteB c && byteB i && decide (([] : List Tg).length = 0)) = true := by unfold byteB; simp; omega
  have e : putPackF c i [] s.data.toList = (headF c.toNat i.toNat (4 + s.data.toList.length) ++ s.data.toList, 0) := by
    unfold putPackF putDataF packF
    rw [if_pos hc, if_pos hb, if_neg (by omega)]
  unfold rejBytes
  rw [e]
  refine ⟨rfl, ?_⟩
  have hsz : (⟨(headF c.toNat i.toNat (4 + s.data.toList.length) ++ s.data.toList).toArray⟩ : ByteArray).size = 4 + s.size := by
    rw [Lib.size_eq]
    simp [headF, hl]
    omega
  rw [hsz, Nat.min_eq_left (by omega)]
  apply bytes_ext
  rw [Lib.extract_data, Nat.sub_zero, List.drop_zero, List.take_of_length_le]
  rw [← Lib.size_eq, hsz]
  exact Nat.le_refl _

set_option maxHeartbeats 8000000 in
set_option maxRecDepth 100000 in
theorem negTells_walk (code id : Int) (data : ByteArray) (w : World) (_h1 : In64 code) (_h2 : In64 id) (_h3 : data.size ≤ 140737488351232) :
    Calls Try.prog 5 #[.int .i64 code, .int .i64 id, .string data] w fun e w' => e = .returned (.bool true) ∧ Below w.heap.size w w' := by
  have Ha := hid lawAlive_any
  by_cases hok : 8 ≤ code ∧ code ≤ 255 ∧ 0 ≤ id ∧ id ≤ 255 ∧ data.size ≤ 1000
  · obtain ⟨c1, c2, c3, c4, c5⟩ := hok
    have z1 : ¬ code < 8 := by omega
    have z2 : ¬ 255 < code := by omega
    have z3 : ¬ id < 0 := by omega
    have z4 : ¬ 255 < id := by omega
    have z5 : ¬ (1000 : Int) < (data.size : Int) := by omega
    obtain ⟨hp2, hrj⟩ := put_short c1 c2 c3 c4 c5
    have HSu := hid (lawSetup_any ⟨#[5, 0]⟩ 3 w)
    unfold setupV at HSu
    have HPt := hid (fun W => putPack_any code id (.slice none 0 0) [] data (by omega) W (Or.inl ⟨rfl, none, 0, rfl⟩) (fun _ h => absurd h List.not_mem_nil))
    rw [hp2, ← hrj] at HPt
    clear hrj
    unfold pkV at HPt
    have HT := hid (fun (W : World) (b : Nat) (a : Nm) (base : Nat) (h : NegIn W base b a nT2) => take_else ⟨code, id, [], data⟩ (.slice none 0 0) W h (nilPk code id data (by omega)) (by simp only; omega) (by simp only; omega) (by simp only; omega) (by simp only; omega) (by simp only; omega) (by simp only; omega) (by simp only; omega))
    unfold pkV at HT
    simp only [stepT3] at HT
    generalize rejBytes code id [] data = RB at *
    clear hp2 c1 c2 c3 c4 c5
    go_enter Try.func5, Try.ntmps5
    go_wp2_with fail
    refine HSu.out.mono ?_
    rintro e w1 ⟨va, vo, vp, rfl, hoa, hra, hrp, hk1⟩
    have HNew := hid (ngNew_any va vo vp [optA] [rule1] [rule1] 5 2 3 2 w1 hoa hra hrp (by decide) (by decide) (by decide) (by decide) (fine1 ⟨by decide, by decide⟩ (by decide)) (by kernel_rfl) (alone1 _) good1 good1)
    unfold setupV at HNew
    have K1 := hid hk1
    obtain ⟨pa, ca, rfl⟩ := hoa.1.slice
    obtain ⟨po, co, rfl⟩ := hra.slice
    obtain ⟨pp, cp, rfl⟩ := hrp.slice
    clear hoa hra hrp hk1 HSu
    go_wp2_with fail
    refine HNew.out.mono ?_
    rintro e w3 ⟨b, rfl, a, hn, hk3⟩
    have M3 : Hid (NMine w w3 b a nT0) := ⟨hn.lower K1.out.size, K1.out.trans hk3⟩
    have hE := eqNegSome ⟨b, 0, none⟩
    clear hn hk3 K1 HNew
    have HD := hid (ngDo_any 2 w3 M3.out.neg)
    rw [stepT1] at HD
    go_wp2_with fail
    refine HD.out.mono ?_
    rintro e w4 ⟨vo, rfl, S4⟩
    obtain ⟨a4, p4, c4, rfl, N4⟩ := sent_zero S4
    have M4 := hid (M3.out.next N4)
    clear S4 N4 HD M3
    have HD := hid (ngDo_any 0 w4 M4.out.neg)
    rw [stepT2] at HD
    go_wp2_with fail
    refine HD.out.mono ?_
    rintro e w5 ⟨vo, rfl, S5⟩
    obtain ⟨a5, g5, c5, u5, rfl, hc5, N5, R5, _, _, _⟩ := sent_one S5
    have M5 := hid (M4.out.next N5)
    clear S5 N5 HD M4 R5
    have ka := (Kept.refl (fun _ => False) w5).alloc (.cells #[.int .i64 code, .int .i64 id, .slice none 0 0, .string data] 24)
    have P5 := hid (PkAt.new w5 code id (.slice none 0 0) data)
    have M6 := hid (M5.out.still ka)
    obtain ⟨b0, b1, b2, b3⟩ := P5.out.cells
    clear ka M5
    go_wp2_with fail
    refine (HPt.out _).mono ?_
    rintro e w7 ⟨rfl, hk7⟩
    have M7 := hid (M6.out.still hk7)
    obtain ⟨d0, d1, d2, d3⟩ := (P5.out.kept hk7 (fun h => h)).cells
    clear hk7 M6 P5 b0 b1 b2 b3
    go_wp2_with fail
    refine (HT.out _ _ _ _ M7.out.neg).mono ?_
    rintro e w8 ⟨vo, rfl, S8⟩
    obtain ⟨a8, g8, c8, u8, rfl, hc8, N8, R8, _, _, _⟩ := sent_one S8
    have M8 := hid (M7.out.next N8)
    have R8 := hid R8
    have HT2 := hid (take_5 ⟨5, id, [], ⟨#[]⟩⟩ (.slice none 0 0) w8 M8.out.neg (nilPk _ _ _ (by decide)) rfl)
    rw [stepT4] at HT2
    unfold pkV at HT2
    clear S8 N8 M7 d0 d1 d2 d3
    go_wp2_with fail
    refine HT2.out.mono ?_
    rintro e w9 ⟨vo, rfl, S9⟩
    obtain ⟨a9, g9, c9, u9, rfl, hc9, N9, R9, _, _, _⟩ := sent_one S9
    have M9 := hid (M8.out.next N9)
    have R8' := hid (R8.out.step M8.out.neg N9)
    have R9 := hid R9
    clear S9 N9 M8 HT2 R8
    go_wp2_with fail
    refine (Ha.out _).mono ?_
    rintro e w10 ⟨rfl, hk10⟩
    obtain ⟨_, t0, t1, _, t3⟩ := R8'.out.kept hk10 (fun h => h)
    obtain ⟨_, s0, s1, _, s3⟩ := R9.out.kept hk10 (fun h => h)
    have KF := hid (M9.out.kept.trans hk10)
    clear hk10 R8' R9 M9
    go_wp2
    go_ret
    exact ⟨rfl, below_of KF.out⟩
  · by_cases z1 : code < 8
    · go_enter Try.func5, Try.ntmps5
      go_wp2_with fail
      refine (Ha.out _).mono ?_
      rintro e w2 ⟨rfl, hk2⟩
      go_wp2
      go_ret
      exact ⟨rfl, below_of hk2⟩
    · by_cases z2 : 255 < code
      · go_enter Try.func5, Try.ntmps5
        go_wp2_with fail
        refine (Ha.out _).mono ?_
        rintro e w2 ⟨rfl, hk2⟩
        go_wp2
        go_ret
        exact ⟨rfl, below_of hk2⟩
      · by_cases z3 : id < 0
        · go_enter Try.func5, Try.ntmps5
          go_wp2_with fail
          refine (Ha.out _).mono ?_
          rintro e w2 ⟨rfl, hk2⟩
          go_wp2
          go_ret
          exact ⟨rfl, below_of hk2⟩
        · by_cases z4 : 255 < id
          · go_enter Try.func5, Try.ntmps5
            go_wp2_with fail
            refine (Ha.out _).mono ?_
            rintro e w2 ⟨rfl, hk2⟩
            go_wp2
            go_ret
            exact ⟨rfl, below_of hk2⟩
          · have z5 : (1000 : Int) < (data.size : Int) := by omega
            clear hok
            go_enter Try.func5, Try.ntmps5
            go_wp2_with fail
            refine (Ha.out _).mono ?_
            rintro e w2 ⟨rfl, hk2⟩
            go_wp2
            go_ret
            exact ⟨rfl, below_of hk2⟩
end Go.Proofs.Ytodgkmjiiijfpaa
