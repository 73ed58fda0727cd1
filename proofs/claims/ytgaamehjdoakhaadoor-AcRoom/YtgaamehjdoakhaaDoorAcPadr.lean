/- What a right Padr comes to, as plain data; rows of frames that are read. -/
import Derived.Test.YtgaamehjdoakhaaDoorAcAsk
namespace Go.Proofs.YtgaamehjdoakhaaDoor
open Go.RowKit

theorem send_ok (c : Cs) (to : List UInt8) {code ses : Nat} (hc : code ≤ 255) (hs : ses ≤ 65535) {l : List Tg} (h : AskOk l) : sendF c to (code : Int) (ses : Int) l = [⟨to, c.mac, 34915, ⟨(discF code ses (bytesT l)).toArray⟩⟩] := by
  have hb : (byteB (code : Int) && wordB (ses : Int)) = true := by
    simp [byteB, wordB]
    omega
  have hl : ¬ 1494 < (bytesT l).length := by rw [bytesT_length]; have := h.2.2; omega
  have hp : putDiscF (code : Int) (ses : Int) (bytesT l) = (discF code ses (bytesT l), 0) := by simp only [putDiscF, hb, if_true, if_neg hl, Int.toNat_natCast]
  unfold sendF etDisc
  rw [h.put]
  simp only [etFrame, hp, if_true]

def eB : ByteArray := ⟨#[]⟩
theorem eB_size : eB.size = 0 := rfl
theorem nil_size : (⟨#[]⟩ : ByteArray).size = 0 := rfl
def padrTags (u mk : ByteArray) : List Tg := [⟨257, eB⟩, ⟨260, mk⟩, ⟨259, u⟩]
theorem padr_257 (u mk : ByteArray) : findF (padrTags u mk) 257 = (eB, 1) := rfl
theorem padr_260 (u mk : ByteArray) : findF (padrTags u mk) 260 = (mk, 1) := rfl
theorem padr_259 (u mk : ByteArray) : findF (padrTags u mk) 259 = (u, 1) := rfl
theorem padr_echo (u mk : ByteArray) : echoF (padrTags u mk) = [⟨259, u⟩] := rfl
theorem padr_ok {u mk : ByteArray} (h : u.size + mk.size ≤ 1000) : AskOk (padrTags u mk) := by
  refine ⟨by simp [padrTags], by simp [padrTags, okT], ?_⟩
  simp [padrTags, sizeT]
  rw [eB_size]
  omega
theorem serves_e : servesF eB = true := by unfold servesF; rw [ByteArray.toList_eq]; rfl

theorem grant_padr {check : ByteArray → ByteArray → Int → Bool} {c : Cs} {h : List UInt8} {u mk : ByteArray} {t : Int} (hc : check eB mk t = true) :
    grantF check c h (padrTags u mk) t = (sendF (admitF c h eB u).2.2 h 101 ((admitF c h eB u).1 : Int) (grantTags eB (admitF c h eB u).1 (admitF c h eB u).2.1 ++ [⟨259, u⟩]), (admitF c h eB u).2.2) := by
  unfold grantF
  rw [padr_257, padr_260, padr_259, padr_echo]
  rw [if_neg]
  rintro (h1 | h1 | h1)
  · exact h1 rfl
  · cases h1
  · simp only [] at h1
    rw [hc] at h1
    cases h1
theorem admit_e (c : Cs) (h : List UInt8) (u : ByteArray) : admitF c h eB u = if unusedF c h u ≠ 0 then (unusedF c h u, 0, c) else if roomF c h = false then (0, 514, c) else (nextF c, 0, beginF c h u) := by
  unfold admitF
  rw [serves_e, if_neg (by simp)]
theorem admit_num {c : Cs} (hg : Good c) (h : List UInt8) (u : ByteArray) : (admitF c h eB u).1 ≤ 65535 := by
  rw [admit_e]
  by_cases h1 : unusedF c h u ≠ 0
  · rw [if_pos h1]
    unfold unusedF
    cases hf : c.sess.find? (isFor h u) with
    | none => simp
    | some x => exact (hg.ids x (List.mem_of_find?_eq_some hf)).2.2
  · rw [if_neg h1]
    by_cases h2 : roomF c h = false
    · rw [if_pos h2]; simp
    · rw [if_neg h2]; exact (nextF_le c).2
theorem admit_why (c : Cs) (h : List UInt8) (u : ByteArray) : (admitF c h eB u).1 = 0 → (admitF c h eB u).2.1 = 514 := by
  rw [admit_e]
  by_cases h1 : unusedF c h u ≠ 0
  · rw [if_pos h1]; intro h0; exact absurd h0 h1
  · rw [if_neg h1]
    by_cases h2 : roomF c h = false
    · rw [if_pos h2]; intro _; rfl
    · rw [if_neg h2]; intro h0; have := (nextF_le c).1; simp only [] at h0; omega
/-- The answer is one frame, to who asked. -/
theorem grant_one {c : Cs} (hg : Good c) {h : List UInt8} {u : ByteArray} (hu : u.size ≤ 1000) :
    ∃ f : Fr, f.dst = h ∧ sendF (admitF c h eB u).2.2 h 101 ((admitF c h eB u).1 : Int) (grantTags eB (admitF c h eB u).1 (admitF c h eB u).2.1 ++ [⟨259, u⟩]) = [f] := by
  have hok : AskOk (grantTags eB (admitF c h eB u).1 (admitF c h eB u).2.1 ++ [⟨259, u⟩]) := by
    unfold grantTags
    by_cases h0 : (admitF c h eB u).1 = 0
    · rw [if_pos h0, admit_why c h u h0]
      refine ⟨by simp, by simp [okT], ?_⟩
      simp [sizeT]
      rw [eB_size, nil_size]
      omega
    · rw [if_neg h0]
      refine ⟨by simp, by simp [okT], ?_⟩
      simp [sizeT]
      rw [eB_size]
      omega
  exact ⟨_, rfl, send_ok _ h (code := 101) (by omega) (admit_num hg h u) hok⟩

theorem check_make (secret : ByteArray) (m : List UInt8) (sv : ByteArray) (t0 t : Int) (h : t / 64 = t0 / 64 ∨ t / 64 - 1 = t0 / 64) : checkB secret m sv ⟨(makeB secret m sv t0).toArray⟩ t = true := by
  unfold checkB makeB checkF makeF
  rcases h with h | h <;> simp [h]
theorem make_size (secret : ByteArray) (m : List UInt8) (sv : ByteArray) (t0 : Int) : (⟨(makeB secret m sv t0).toArray⟩ : ByteArray).size = 16 := by
  rw [Lib.size_eq]
  exact bakeF_length _ _ _ _

theorem OwnE.first {w : World} {base : Nat} {v : Value} {f : Fr} (h : OwnE w base v [f]) : ∃ g cap, v = .slice (some ⟨g, 0, none⟩) 1 cap ∧ 1 ≤ cap ∧ ∀ j u, j < 14 → (frList f)[j]? = some u → w.cell? ⟨g, j, none⟩ = some u := by
  rcases h.2 with ⟨_, h0⟩ | ⟨g, cap, cur, rfl, hb, hg, h1, h2, h3, h4⟩
  · cases h0
  · refine ⟨g, cap, rfl, h1, fun j u hj hu => ?_⟩
    rw [cell_of_row w g j _ _ _ hg]
    have e : rowE [f] = frList f := by simp [rowE]
    rw [e] at h4
    rw [← h4, List.getElem?_take_of_lt (by simpa using hj)] at hu
    simpa using hu
end Go.Proofs.YtgaamehjdoakhaaDoor
