/- The laws' own asked and all; what a frame that asked made holds. -/
import Derived.Test.YtgaamehjdoakhaaDoorAcLive
namespace Go.Proofs.YtgaamehjdoakhaaDoor
open Go.RowKit

def askedF (host dst : List UInt8) (code ses : Int) (l : List Tg) : Fr := ⟨dst, host, 34915, ⟨(putDiscF code ses (putTagsF l).1).1.toArray⟩⟩

theorem putTags_le (l : List Tg) : (putTagsF l).1.length ≤ 1494 := by
  unfold putTagsF
  split
  · simp
  · split
    · simp
    · split
      · simp
      · rw [bytesT_length]; omega

set_option maxHeartbeats 2000000 in
set_option maxRecDepth 100000 in
theorem asked_any (host dst : List UInt8) (hh : host.length = 6) (hd : dst.length = 6) (code ses : Int) (v : Value) (l : List Tg) (w : World) (hv : TagsAt w v l) (hsz : ∀ x ∈ l, x.value.size ≤ 140737488351232) :
    Calls Tryd.prog 16 #[.agg (Lib.byteCells host).toArray, .agg (Lib.byteCells dst).toArray, .int .i64 code, .int .i64 ses, v] w fun e w' => e = .returned (frV (askedF host dst code ses l)) ∧ Kept (fun _ => False) w w' := by
  obtain ⟨h0, h1, h2, h3, h4, h5, eh⟩ := six_cells hh
  obtain ⟨d0, d1, d2, d3, d4, d5, ed⟩ := six_cells hd
  have HT := hid (fun W (hk : Kept (fun _ => False) w W) => putTags_any v l W (hv.kept0 hk) hsz)
  have HP := hid (fun W => putDisc_any code ses ⟨(putTagsF l).1.toArray⟩ (by rw [Lib.size_eq]; have := putTags_le l; show (putTagsF l).1.length ≤ _; omega) W)
  unfold askedF frV frList
  simp only [] at HP ⊢
  rw [eh, ed]
  generalize (putDiscF code ses (putTagsF l).1).2 = E2 at *
  obtain ⟨Z, hZ⟩ : ∃ Z : ByteArray, Z = ⟨(putDiscF code ses (putTagsF l).1).1.toArray⟩ := ⟨_, rfl⟩
  rw [← hZ] at HP ⊢
  clear hZ
  generalize (putTagsF l).1 = T at *
  generalize (putTagsF l).2 = E1 at *
  have O0 := hid (own14_new ((w.alloc (.cells #[.int .u8 h0, .int .u8 h1, .int .u8 h2, .int .u8 h3, .int .u8 h4, .int .u8 h5] 23)).alloc (.cells #[.int .u8 d0, .int .u8 d1, .int .u8 d2, .int .u8 d3, .int .u8 d4, .int .u8 d5] 23)) Z14)
  have B1 := hid (((box6_new w 23 (.int .u8 h0) (.int .u8 h1) (.int .u8 h2) (.int .u8 h3) (.int .u8 h4) (.int .u8 h5)).alloc (.cells #[.int .u8 d0, .int .u8 d1, .int .u8 d2, .int .u8 d3, .int .u8 d4, .int .u8 d5] 23)).alloc (.cells Z14 25))
  have B2 : Hid (Box6 (((w.alloc (.cells #[.int .u8 h0, .int .u8 h1, .int .u8 h2, .int .u8 h3, .int .u8 h4, .int .u8 h5] 23)).alloc (.cells #[.int .u8 d0, .int .u8 d1, .int .u8 d2, .int .u8 d3, .int .u8 d4, .int .u8 d5] 23)).alloc (.cells Z14 25)) (w.heap.size + 1) (.int .u8 d0) (.int .u8 d1) (.int .u8 d2) (.int .u8 d3) (.int .u8 d4) (.int .u8 d5)) := by
    have h := (box6_new (w.alloc (.cells #[.int .u8 h0, .int .u8 h1, .int .u8 h2, .int .u8 h3, .int .u8 h4, .int .u8 h5] 23)) 23 (.int .u8 d0) (.int .u8 d1) (.int .u8 d2) (.int .u8 d3) (.int .u8 d4) (.int .u8 d5)).alloc (.cells Z14 25)
    rw [show (w.alloc (.cells #[.int .u8 h0, .int .u8 h1, .int .u8 h2, .int .u8 h3, .int .u8 h4, .int .u8 h5] 23)).heap.size = w.heap.size + 1 from by simp] at h
    exact h
  have K0 := hid ((((Kept.refl (fun _ => False) w).alloc (.cells #[.int .u8 h0, .int .u8 h1, .int .u8 h2, .int .u8 h3, .int .u8 h4, .int .u8 h5] 23)).alloc (.cells #[.int .u8 d0, .int .u8 d1, .int .u8 d2, .int .u8 d3, .int .u8 d4, .int .u8 d5] 23)).alloc (.cells Z14 25))
  clear hv hsz hh hd
  go_enter Tryd.func16, Tryd.ntmps16
  go_wp2_with fail
  refine (HT.out _ K0.out).mono ?_
  rintro e w1 ⟨rfl, hk1⟩
  go_wp2_with fail
  refine (HP.out _).mono ?_
  rintro e w2 ⟨rfl, hb2⟩
  have hk02 := hk1.trans (kept_of hb2)
  have O2 := O0.out.kept hk02
  have hc := fun j => cell_of_row w2 (w.heap.size + 1 + 1) j _ _ _ (by simpa [Own14] using O2)
  have hf := fun j => frozen_of_row w2 (w.heap.size + 1 + 1) j _ _ (by simpa [Own14] using O2)
  have K2 := hid (K0.out.trans hk02)
  obtain ⟨a0, a1, a2, a3, a4, a5⟩ := B1.out.kept hk02
  obtain ⟨b0, b1, b2, b3, b4, b5⟩ := B2.out.kept hk02
  have c0 := hc 0
  have c1 := hc 1
  have c2 := hc 2
  have c3 := hc 3
  have c4 := hc 4
  have c5 := hc 5
  have c6 := hc 6
  have c7 := hc 7
  have c8 := hc 8
  have c9 := hc 9
  have c10 := hc 10
  have c11 := hc 11
  have c12 := hc 12
  have c13 := hc 13
  clear hb2 hk1 hk02 O2 O0 K0 hc B1 B2 HT HP
  simp only [List.getElem?_toArray, List.getElem?_cons_zero, List.getElem?_cons_succ] at c0 c1 c2 c3 c4 c5 c6 c7 c8 c9 c10 c11 c12 c13
  go_wp2
  refine bodyPost_ret (v := .agg #[.int .u8 d0, .int .u8 d1, .int .u8 d2, .int .u8 d3, .int .u8 d4, .int .u8 d5, .int .u8 h0, .int .u8 h1, .int .u8 h2, .int .u8 h3, .int .u8 h4, .int .u8 h5, .int .i64 34915, .string Z]) (by simp [results, Tryd.results16, go_sem, c0, c1, c2, c3, c4, c5, c6, c7, c8, c9, c10, c11, c12, c13]) rfl ⟨rfl, ?_⟩
  repeat (refine Kept.setCell ?_ (Or.inl (by simp only []; omega)) _)
  exact K2.out

set_option maxRecDepth 100000 in
theorem all_any (w : World) : Calls Tryd.prog 21 #[] w fun e w' => e = .returned (.agg #[.int .u8 255, .int .u8 255, .int .u8 255, .int .u8 255, .int .u8 255, .int .u8 255]) ∧ Kept (fun _ => False) w w' := by
  go_enter Tryd.func21, Tryd.ntmps21
  go_wp2
  refine bodyPost_ret (v := .agg #[.int .u8 255, .int .u8 255, .int .u8 255, .int .u8 255, .int .u8 255, .int .u8 255]) (by simp [results, Tryd.results21, go_sem]) rfl ⟨rfl, ?_⟩
  exact (Kept.refl _ w).alloc _

/-- Tags that are asked: few, short, of types that can be. -/
def AskOk (l : List Tg) : Prop := l.length ≤ 20 ∧ l.all okT = true ∧ sizeT l ≤ 1494
theorem AskOk.put {l : List Tg} (h : AskOk l) : putTagsF l = (bytesT l, 0) := by
  unfold putTagsF
  rw [if_neg (by have := h.1; omega), if_neg (by rw [h.2.1]; simp), if_neg (by have := h.2.2; omega)]
theorem AskOk.mem {l : List Tg} (h : AskOk l) : ∀ x ∈ l, x.value.size ≤ 1494 := fun x hx => by
  have h1 := h.2.2
  obtain ⟨a, b, rfl⟩ := List.append_of_mem hx
  rw [sizeT_append, sizeT_cons] at h1
  omega
theorem AskOk.few {l : List Tg} (h : AskOk l) : Few l := ⟨by have := h.1; omega, fun x hx => by have := h.mem x hx; omega⟩
theorem AskOk.data {l : List Tg} (h : AskOk l) {code ses : Nat} (hc : code ≤ 255) (hs : ses ≤ 65535) (host dst : List UInt8) :
    (askedF host dst (code : Int) (ses : Int) l).data = ⟨(discF code ses (bytesT l)).toArray⟩ := by
  unfold askedF
  rw [h.put]
  have hb : (byteB (code : Int) && wordB (ses : Int)) = true := by
    simp [byteB, wordB]
    omega
  have hl : ¬ 1494 < (bytesT l).length := by rw [bytesT_length]; have := h.2.2; omega
  simp only [putDiscF, hb, if_true, if_neg hl, Int.toNat_natCast]
theorem AskOk.get {l : List Tg} (h : AskOk l) {code ses : Nat} (hc : code ≤ 255) (hs : ses ≤ 65535) (host dst : List UInt8) :
    getDiscF (askedF host dst (code : Int) (ses : Int) l).data.data.toList = (⟨code, ses, bytesT l⟩, 0) := by
  rw [h.data hc hs]
  have := getDisc_put code ses hc hs (bytesT l) [] (by rw [bytesT_length]; exact h.2.2)
  rw [List.append_nil] at this
  exact this
theorem AskOk.tags {l : List Tg} (h : AskOk l) : tagsOn (bytesT l) [] = (l, 0) := by
  have := tagsOn_all l h.2.1 (fun t ht => by have := h.mem t ht; omega) [] [] (by simpa using h.1)
  rw [List.append_nil, List.nil_append, tagsOn_nil] at this
  exact this
theorem AskOk.dsize {l : List Tg} (h : AskOk l) {code ses : Nat} (hc : code ≤ 255) (hs : ses ≤ 65535) (host dst : List UInt8) : (askedF host dst (code : Int) (ses : Int) l).data.size ≤ 1000000 := by
  rw [h.data hc hs, Lib.size_eq]
  show (discF code ses (bytesT l)).length ≤ _
  rw [discF_length, bytesT_length]
  have := h.2.2
  omega

section
variable {w W : World} {b : Nat} {c : Cs}
theorem CMine.kept (h : CMine w W b c) : Kept (fun _ => False) w W := CNext.kept h
theorem CMine.still {W' : World} (h : CMine w W b c) (hk : Kept (fun _ => False) W W') : CMine w W' b c := CNext.still h hk
theorem CMine.live (h : CMine w W b c) (hg : Good c) : Calls Tryd.prog 13 #[.pointer (some ⟨b, 0, none⟩)] W fun e w' => ∃ v L, e = .returned v ∧ L.Perm c.sess ∧ SortedNum L ∧ SessAt w' v L ∧ CMine w w' b c := by
  obtain ⟨S1, h1, h2, h3⟩ := h
  refine (live_any b c hg W h1).mono ?_
  rintro e w' ⟨v, L, rfl, hp, hs, ha, hk⟩
  exact ⟨v, L, rfl, hp, hs, ha, ⟨S1, h1.kept0 hk, h2, h3.trans hk⟩⟩
/-- A Padr that is asked. -/
theorem CMine.padr (h : CMine w W b c) (hg : Good c) (hT : Tables w) (hZ : TabTz w) {host : List UInt8} (hh : host.length = 6) (hne : ¬ host = c.mac) {l : List Tg} (hl : AskOk l) (t : Int) (ht : In64 t) :
    Calls Tryd.prog 12 #[.pointer (some ⟨b, 0, none⟩), frV (askedF host c.mac 25 0 l), .int .i64 t] W fun e w' => ∃ u, e = .returned u ∧ OwnE w' W.heap.size u (grantF (checkB c.secret host) c host l t).1 ∧ CMine w w' b (grantF (checkB c.secret host) c host l t).2 := by
  have hk := h.kept
  have key := CNext.call (f := 12) (args := #[.pointer (some ⟨b, 0, none⟩), frV (askedF host c.mac 25 0 l), .int .i64 t]) (Q := fun e w' => ∃ u, e = .returned u ∧ OwnE w' W.heap.size u (grantF (checkB c.secret host) c host l t).1) (c' := (grantF (checkB c.secret host) c host l t).2) h (fun S1 h1 =>
    (take_padr b c hg c.mac host hg.mac hh (askedF host c.mac 25 0 l).data (hl.dsize (code := 25) (ses := 0) (by omega) (by omega) host c.mac) t ht 0 (bytesT l) l (by rw [bytesT_length]; have := hl.2.2; omega) (hl.get (code := 25) (ses := 0) (by omega) (by omega) host c.mac) hl.tags hl.few W (hT.kept hk) (hZ.kept hk) h1 hne rfl rfl).mono fun e w' ⟨u, he, ho, hn⟩ => ⟨⟨u, he, ho⟩, hn⟩)
  exact key.mono fun e w' ⟨⟨u, he, ho⟩, hn⟩ => ⟨u, he, ho, hn⟩
/-- A Padi that is asked. -/
theorem CMine.padi (h : CMine w W b c) (hg : Good c) (hT : Tables w) (_hV : Every w) {host : List UInt8} (hh : host.length = 6) (hne : ¬ host = c.mac) {l : List Tg} (hl : AskOk l) (t : Int) :
    Calls Tryd.prog 12 #[.pointer (some ⟨b, 0, none⟩), frV (askedF host everyF 9 0 l), .int .i64 t] W fun e w' => ∃ u, e = .returned u ∧ OwnE w' W.heap.size u (offerF (makeB c.secret host) c host l t) ∧ CMine w w' b c := by
  have hk := h.kept
  obtain ⟨S1, h1, h2, h3⟩ := h
  refine (take_padi b c hg everyF host rfl hh (askedF host everyF 9 0 l).data (hl.dsize (code := 9) (ses := 0) (by omega) (by omega) host everyF) t 0 (bytesT l) l (by rw [bytesT_length]; have := hl.2.2; omega) (hl.get (code := 9) (ses := 0) (by omega) (by omega) host everyF) hl.tags hl.few W (hT.kept hk) trivial h1 hne rfl rfl).mono ?_
  rintro e w' ⟨u, he, ho, hn⟩
  exact ⟨u, he, ho, ⟨S1, h1.kept0 hn, h2, h3.trans hn⟩⟩
/-- A frame from the concentrator's own card. -/
theorem CMine.own (h : CMine w W b c) (hg : Good c) {l : List Tg} (hl : AskOk l) (t : Int) :
    Calls Tryd.prog 12 #[.pointer (some ⟨b, 0, none⟩), frV (askedF c.mac c.mac 25 0 l), .int .i64 t] W fun e w' => e = .returned (.slice none 0 0) ∧ CMine w w' b c := by
  obtain ⟨S1, h1, h2, h3⟩ := h
  refine (take_own b c hg c.mac c.mac hg.mac hg.mac (askedF c.mac c.mac 25 0 l).data (hl.dsize (code := 25) (ses := 0) (by omega) (by omega) c.mac c.mac) t W h1 rfl).mono ?_
  rintro e w' ⟨he, hn⟩
  exact ⟨he, ⟨S1, h1.kept0 hn, h2, h3.trans hn⟩⟩
/-- A Padt that is asked. -/
theorem CMine.padt (h : CMine w W b c) (hg : Good c) (hgl : c.gone.length + 1 ≤ 1000000) {host : List UInt8} (hh : host.length = 6) (hne : ¬ host = c.mac) {ses : Nat} (hs0 : ses ≠ 0) (hs : ses ≤ 65535) (t : Int) :
    Calls Tryd.prog 12 #[.pointer (some ⟨b, 0, none⟩), frV (askedF host c.mac 167 (ses : Int) []), .int .i64 t] W fun e w' => e = .returned (.slice none 0 0) ∧ CMine w w' b (endF c host (ses : Int)) := by
  have hl : AskOk [] := ⟨by simp, by simp, by simp [sizeT]⟩
  exact CNext.call (f := 12) (args := #[.pointer (some ⟨b, 0, none⟩), frV (askedF host c.mac 167 (ses : Int) []), .int .i64 t]) (Q := fun e _ => e = .returned (.slice none 0 0)) (c' := endF c host (ses : Int)) h (fun S1 h1 =>
    take_padt b c hg c.mac host hg.mac hh (askedF host c.mac 167 (ses : Int) []).data (hl.dsize (code := 167) (by omega) hs host c.mac) t ses (bytesT []) [] (by simp [bytesT]) (hl.get (code := 167) (by omega) hs host c.mac) hl.tags hl.few hs hgl W h1 hne rfl hs0)
end
end Go.Proofs.YtgaamehjdoakhaaDoor
