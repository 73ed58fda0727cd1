/- The laws' own alive: it returns true, where the tables hold what the program's text lays. -/
import Derived.Test.YtgaamehjdoakhaaDoorAcPadr
namespace Go.Proofs.YtgaamehjdoakhaaDoor
open Go.RowKit

def m9 : List UInt8 := [9, 0, 0, 0, 0, 0]
def h1 : List UInt8 := [1, 0, 0, 0, 0, 0]
def acB : ByteArray := ⟨#[97, 99]⟩
def sB : ByteArray := ⟨#[115]⟩
def uB : ByteArray := ⟨#[117]⟩
def c00 (most : Int) : Cs := newF m9 acB sB most

theorem new_mine (most : Int) (hm1 : 1 ≤ most) (hm2 : most ≤ 60) (w : World) :
    Calls Tryd.prog 15 #[.agg #[.int .u8 9, .int .u8 0, .int .u8 0, .int .u8 0, .int .u8 0, .int .u8 0], .string ⟨#[97, 99]⟩, .slice none 0 0, .string ⟨#[115]⟩, .int .i64 most] w fun e w' => ∃ B, e = .returned (.tuple #[.pointer (some ⟨B, 0, none⟩), .int .i64 0]) ∧ CMine w w' B (c00 most) :=
  (new_ok m9 rfl acB sB (by rw [ByteArray.toList_eq]; decide) (by decide) most hm1 hm2 w).mono fun _ _ ⟨he, hn⟩ => ⟨_, he, hn⟩
theorem good_c00 (most : Int) (hm1 : 1 ≤ most) (hm2 : most ≤ 60) : Good (c00 most) := good_new rfl (by decide) (by decide) (by decide) hm1 hm2

def askTags : List Tg := [⟨257, eB⟩, ⟨259, uB⟩]
theorem ask_ok : AskOk askTags := by
  refine ⟨by decide, rfl, ?_⟩
  show 4 + 0 + (4 + 1 + 0) ≤ 1494
  omega
/-- The Pado is one frame, to who asked. -/
theorem offer_first : ∃ f : Fr, f.dst = h1 ∧ offerF (makeB (c00 2).secret h1) (c00 2) h1 askTags 10 = [f] := by
  have e1 : findF askTags 257 = (eB, 1) := rfl
  have e2 : echoF askTags = [⟨259, uB⟩] := rfl
  unfold offerF
  rw [e1, e2, serves_e, if_neg (by simp)]
  have hms := make_size (c00 2).secret h1 eB 10
  generalize (⟨(makeB (c00 2).secret h1 eB 10).toArray⟩ : ByteArray) = mk at hms
  have hok : AskOk (([⟨258, (c00 2).name⟩, ⟨257, eB⟩] ++ [⟨260, mk⟩]) ++ [⟨259, uB⟩]) := by
    refine ⟨by simp, by simp [okT], ?_⟩
    have e3 : (c00 2).name.size = 2 := rfl
    have e4 : uB.size = 1 := rfl
    simp [sizeT]
    rw [eB_size, e3, e4, hms]
    omega
  exact ⟨_, rfl, send_ok (c00 2) h1 (code := 7) (ses := 0) (by omega) (by omega) hok⟩
def mk10 : ByteArray := ⟨(makeB sB h1 eB 10).toArray⟩
def x1 : Sn := ⟨h1, 1, uB, false⟩
theorem next_0 (most : Int) : nextF (c00 most) = 1 := by
  unfold nextF
  have e1 : takenF (c00 most) = 0 := rfl
  have e2 : (c00 most).last = 0 := rfl
  have e3 : Lib.ctz 64 (18446744073709551615 - 0) = 0 := by decide +kernel
  rw [e1, e2, e3]
theorem admit_first : admitF (c00 2) h1 eB uB = (1, 0, beginF (c00 2) h1 uB) := by
  have e1 : unusedF (c00 2) h1 uB = 0 := rfl
  have e2 : roomF (c00 2) h1 = true := rfl
  rw [admit_e, e1, e2, if_neg (by simp), if_neg (by simp), next_0]
theorem begin_first : (beginF (c00 2) h1 uB).sess = [x1] := by
  unfold beginF
  rw [next_0]
  rfl
theorem grant_first : ∃ f : Fr, f.dst = h1 ∧ grantF (checkB (c00 2).secret h1) (c00 2) h1 (padrTags uB mk10) 70 = ([f], beginF (c00 2) h1 uB) := by
  obtain ⟨f, hf, he⟩ := grant_one (c := c00 2) (good_c00 2 (by omega) (by omega)) (h := h1) (u := uB) (by decide)
  refine ⟨f, hf, ?_⟩
  have hc : checkB (c00 2).secret h1 eB mk10 70 = true := check_make sB h1 eB 10 70 (Or.inr (by decide))
  rw [grant_padr hc, he, admit_first]

theorem tags_two (w : World) (t : Int) (v : ByteArray) (t' : Int) (v' : ByteArray) : TagsAt (w.alloc (.cells #[.int .i64 t, .string v, .int .i64 t', .string v'] 53)) (.slice (some ⟨w.heap.size, 0, none⟩) 2 2) [⟨t, v⟩, ⟨t', v'⟩] := (own_two w 0 (Nat.zero_le _) t v t' v').tags
theorem own_three (w : World) (base : Nat) (hb : base ≤ w.heap.size) (t : Int) (v : ByteArray) (t' : Int) (v' : ByteArray) (t2 : Int) (v2 : ByteArray) : OwnT (w.alloc (.cells #[.int .i64 t, .string v, .int .i64 t', .string v', .int .i64 t2, .string v2] 53)) base (.slice (some ⟨w.heap.size, 0, none⟩) 3 3) [⟨t, v⟩, ⟨t', v'⟩, ⟨t2, v2⟩] :=
  ⟨rfl, Or.inr ⟨w.heap.size, 3, #[.int .i64 t, .string v, .int .i64 t', .string v', .int .i64 t2, .string v2], rfl, hb, heap_alloc_new w _, Nat.le_refl _, by unfold maxLen; omega, rfl, rfl⟩⟩

section
variable {S : Nat → Prop} {W : World} {b : Nat} {c : Cs}
theorem CAt.padr (h : CAt S W b c) (hg : Good c) (hT : Tables W) (hZ : TabTz W) {host : List UInt8} (hh : host.length = 6) (hne : ¬ host = c.mac) {l : List Tg} (hl : AskOk l) (t : Int) (ht : In64 t) :
    Calls Tryd.prog 12 #[.pointer (some ⟨b, 0, none⟩), frV (askedF host c.mac 25 0 l), .int .i64 t] W fun e w' => ∃ u, e = .returned u ∧ OwnE w' W.heap.size u (grantF (checkB c.secret host) c host l t).1 ∧ CNext S W w' b (grantF (checkB c.secret host) c host l t).2 :=
  take_padr b c hg c.mac host hg.mac hh (askedF host c.mac 25 0 l).data (hl.dsize (code := 25) (ses := 0) (by omega) (by omega) host c.mac) t ht 0 (bytesT l) l (by rw [bytesT_length]; have := hl.2.2; omega) (hl.get (code := 25) (ses := 0) (by omega) (by omega) host c.mac) hl.tags hl.few W hT hZ h hne rfl rfl
theorem CAt.padi (h : CAt S W b c) (hg : Good c) (hT : Tables W) (hV : Every W) {host : List UInt8} (hh : host.length = 6) (hne : ¬ host = c.mac) {l : List Tg} (hl : AskOk l) (t : Int) :
    Calls Tryd.prog 12 #[.pointer (some ⟨b, 0, none⟩), frV (askedF host everyF 9 0 l), .int .i64 t] W fun e w' => ∃ u, e = .returned u ∧ OwnE w' W.heap.size u (offerF (makeB c.secret host) c host l t) ∧ Kept (fun _ => False) W w' :=
  take_padi b c hg everyF host rfl hh (askedF host everyF 9 0 l).data (hl.dsize (code := 9) (ses := 0) (by omega) (by omega) host everyF) t 0 (bytesT l) l (by rw [bytesT_length]; have := hl.2.2; omega) (hl.get (code := 9) (ses := 0) (by omega) (by omega) host everyF) hl.tags hl.few W hT hV h hne rfl rfl
end

/-- A law's reference world, and the tables in it. -/
structure Tabs (w : World) : Prop where
  t : Tables w
  z : TabTz w
  e : Every w
theorem Tabs.kept {w w' : World} (h : Tabs w) (hk : Kept (fun _ => False) w w') : Tabs w' := ⟨h.t.kept hk, h.z.kept hk, trivial⟩

set_option maxHeartbeats 4000000 in
set_option maxRecDepth 100000 in
theorem alive_any (w : World) (hT : Tabs w) : Calls Tryd.prog 8 #[] w fun e w' => e = .returned (.bool true) ∧ Kept (fun _ => False) w w' := by
  obtain ⟨f1, hf1, off1⟩ := offer_first
  obtain ⟨f2, hf2, gr2⟩ := grant_first
  have HN := hid (new_mine 2 (by omega) (by omega))
  have G0 := hid (good_c00 2 (by omega) (by omega))
  have G1 := hid (good_begin (good_c00 2 (by omega) (by omega)) (m := h1) rfl (u := uB) rfl rfl)
  have HAL := hid all_any
  have HA1 := hid (fun W v (h : TagsAt W v askTags) => asked_any h1 everyF rfl rfl 9 0 v askTags W h ask_ok.few.size)
  have hms : mk10.size = 16 := make_size sB h1 eB 10
  have HMK := hid (fun W (h : Tables W) => make_any sB eB h1 rfl 10 (by decide) (by decide) W h)
  have ok2 : AskOk (padrTags uB mk10) := padr_ok (by rw [hms]; decide)
  have HA2 := hid (fun W v (h : TagsAt W v (padrTags uB mk10)) => asked_any h1 m9 rfl rfl 25 0 v (padrTags uB mk10) W h ok2.few.size)
  have HP1 := hid (fun S W b (h : CAt S W b (c00 2)) (hT : Tabs W) => CAt.padi h G0.out hT.t hT.e (host := h1) rfl (by decide) ask_ok 10)
  have HP2 := hid (fun S W b (h : CAt S W b (c00 2)) (hT : Tabs W) => CAt.padr h G0.out hT.t hT.z (host := h1) rfl (by decide) ok2 70 (by unfold In64; omega))
  have HLV := hid (fun S W b (h : CAt S W b (beginF (c00 2) h1 uB)) => live_any b _ G1.out W h)
  rw [off1] at HP1
  rw [gr2] at HP2
  rw [begin_first] at HLV
  generalize frV (askedF h1 everyF 9 0 askTags) = F1 at *
  change Hid (∀ W v, TagsAt W v (padrTags uB mk10) → Calls Tryd.prog 16 #[.agg #[.int .u8 1, .int .u8 0, .int .u8 0, .int .u8 0, .int .u8 0, .int .u8 0], .agg #[.int .u8 9, .int .u8 0, .int .u8 0, .int .u8 0, .int .u8 0, .int .u8 0], .int .i64 25, .int .i64 0, v] W fun e w' => e = .returned (frV (askedF h1 m9 25 0 (padrTags uB mk10))) ∧ Kept (fun _ => False) W w') at HA2
  change Hid (∀ (S : Nat → Prop) W b, CAt S W b (c00 2) → Tabs W → Calls Tryd.prog 12 #[.pointer (some ⟨b, 0, none⟩), frV (askedF h1 m9 25 0 (padrTags uB mk10)), .int .i64 70] W fun e w' => ∃ u, e = .returned u ∧ OwnE w' W.heap.size u [f2] ∧ CNext S W w' b (beginF (c00 2) h1 uB)) at HP2
  generalize frV (askedF h1 m9 25 0 (padrTags uB mk10)) = F2 at *
  change Hid (∀ W v, TagsAt W v askTags → Calls Tryd.prog 16 #[.agg #[.int .u8 1, .int .u8 0, .int .u8 0, .int .u8 0, .int .u8 0, .int .u8 0], .agg #[.int .u8 255, .int .u8 255, .int .u8 255, .int .u8 255, .int .u8 255, .int .u8 255], .int .i64 9, .int .i64 0, v] W fun e w' => e = .returned F1 ∧ Kept (fun _ => False) W w') at HA1
  change Hid (∀ W, Tables W → Calls Tryd.prog 17 #[.string ⟨#[115]⟩, .agg #[.int .u8 1, .int .u8 0, .int .u8 0, .int .u8 0, .int .u8 0, .int .u8 0], .string ⟨#[]⟩, .int .i64 10] W fun r w' => r = .returned (.string mk10) ∧ Below W.heap.size W w') at HMK
  obtain ⟨q4, q5, hq4, hq5⟩ : ∃ q4 q5 : Prop, q4 = True ∧ q5 = True := ⟨_, _, rfl, rfl⟩
  clear hq4 hq5 q4 q5
  generalize beginF (c00 2) h1 uB = cb at *
  generalize c00 2 = ca at *
  obtain ⟨wA, hwA⟩ : ∃ wA, wA = (w.alloc (.cells #[.int .u8 9, .int .u8 0, .int .u8 0, .int .u8 0, .int .u8 0, .int .u8 0] 23)).alloc (.cells #[.int .u8 1, .int .u8 0, .int .u8 0, .int .u8 0, .int .u8 0, .int .u8 0] 23) := ⟨_, rfl⟩
  have HwA := hid hwA
  have kA : Hid (Kept (fun _ => False) w wA) := by rw [hwA]; exact ((Kept.refl _ w).alloc _).alloc _
  have BM : Hid (Box6 wA w.heap.size (.int .u8 9) (.int .u8 0) (.int .u8 0) (.int .u8 0) (.int .u8 0) (.int .u8 0)) := by rw [hwA]; exact (box6_new w _ _ _ _ _ _ _).alloc _
  have BH : Hid (Box6 wA (w.heap.size + 1) (.int .u8 1) (.int .u8 0) (.int .u8 0) (.int .u8 0) (.int .u8 0) (.int .u8 0)) := by
    rw [hwA]
    have h := box6_new (w.alloc (.cells #[.int .u8 9, .int .u8 0, .int .u8 0, .int .u8 0, .int .u8 0, .int .u8 0] 23)) 23 (.int .u8 1) (.int .u8 0) (.int .u8 0) (.int .u8 0) (.int .u8 0) (.int .u8 0)
    rw [show (w.alloc (.cells #[.int .u8 9, .int .u8 0, .int .u8 0, .int .u8 0, .int .u8 0, .int .u8 0] 23)).heap.size = w.heap.size + 1 from by simp] at h
    exact h
  have HTA := hid (hT.kept kA.out)
  clear hwA hT G0 G1 off1 gr2 ok2
  go_enter Tryd.func8, Tryd.ntmps8
  go_wp2_with fail
  rw [← HwA.out]
  refine (HN.out _).mono ?_
  rintro e w1 ⟨B, rfl, S1, hA1, hS1, hk1⟩
  have k1 := hid hk1
  have HA1' := hid hA1
  have r0 : ∀ W, Kept (fun _ => False) wA W → W.cell? ⟨w.heap.size + 1, 0, none⟩ = some (.int .u8 1) := fun W h => (BH.out.kept h).c0
  have r1 : ∀ W, Kept (fun _ => False) wA W → W.cell? ⟨w.heap.size + 1, 1, none⟩ = some (.int .u8 0) := fun W h => (BH.out.kept h).c1
  have r2 : ∀ W, Kept (fun _ => False) wA W → W.cell? ⟨w.heap.size + 1, 2, none⟩ = some (.int .u8 0) := fun W h => (BH.out.kept h).c2
  have r3 : ∀ W, Kept (fun _ => False) wA W → W.cell? ⟨w.heap.size + 1, 3, none⟩ = some (.int .u8 0) := fun W h => (BH.out.kept h).c3
  have r4 : ∀ W, Kept (fun _ => False) wA W → W.cell? ⟨w.heap.size + 1, 4, none⟩ = some (.int .u8 0) := fun W h => (BH.out.kept h).c4
  have r5 : ∀ W, Kept (fun _ => False) wA W → W.cell? ⟨w.heap.size + 1, 5, none⟩ = some (.int .u8 0) := fun W h => (BH.out.kept h).c5
  have p0 : ∀ W, Kept (fun _ => False) wA W → W.cell? ⟨w.heap.size, 0, none⟩ = some (.int .u8 9) := fun W h => (BM.out.kept h).c0
  have p1 : ∀ W, Kept (fun _ => False) wA W → W.cell? ⟨w.heap.size, 1, none⟩ = some (.int .u8 0) := fun W h => (BM.out.kept h).c1
  have p2 : ∀ W, Kept (fun _ => False) wA W → W.cell? ⟨w.heap.size, 2, none⟩ = some (.int .u8 0) := fun W h => (BM.out.kept h).c2
  have p3 : ∀ W, Kept (fun _ => False) wA W → W.cell? ⟨w.heap.size, 3, none⟩ = some (.int .u8 0) := fun W h => (BM.out.kept h).c3
  have p4 : ∀ W, Kept (fun _ => False) wA W → W.cell? ⟨w.heap.size, 4, none⟩ = some (.int .u8 0) := fun W h => (BM.out.kept h).c4
  have p5 : ∀ W, Kept (fun _ => False) wA W → W.cell? ⟨w.heap.size, 5, none⟩ = some (.int .u8 0) := fun W h => (BM.out.kept h).c5
  have HS1 : Hid (∀ i, S1 i → wA.heap.size ≤ i) := fun i hi => (hS1 i hi).elim False.elim id
  have hE1 := mac_eq h1 h1 rfl rfl
  change ∀ W, Sem.run Tryd.prog (Op.equalIn 10000 23 (.agg #[.int .u8 1, .int .u8 0, .int .u8 0, .int .u8 0, .int .u8 0, .int .u8 0]) (.agg #[.int .u8 1, .int .u8 0, .int .u8 0, .int .u8 0, .int .u8 0, .int .u8 0])) W = .ok true W at hE1
  clear hA1 hk1 hS1
  go_wp2
  refine wp_region_held_drew (S := Kept (fun _ => False) wA) (by kernel_rfl) (k1.out.drew) (fun hSd => ?_)
  refine wpAnyH_take (i := 0) (v := ?_) rfl (by kernel_rfl) (by kernel_rfl) (by kernel_rfl) (fun _ _ _ h => h) (Or.inl ⟨by kernel_rfl, fun W hSW => by go_simp; try with_reducible rfl⟩) (by assumption) ?_
  try simp only [List.getElem_toArray]
  try simp only [List.getElem_cons_succ]
  try simp only [List.getElem_cons_zero]
  try simp only [Act.put]
  try simp only [List.setIfInBounds_toArray]
  try simp only [List.set_cons_succ]
  try simp only [List.set_cons_zero]
  refine wpAnyH_take (i := 1) (v := ?_) rfl (by kernel_rfl) (by kernel_rfl) (by kernel_rfl) (fun _ _ _ h => h) (Or.inl ⟨by kernel_rfl, fun W hSW => by go_simp; try with_reducible rfl⟩) (by assumption) ?_
  try simp only [List.getElem_toArray]
  try simp only [List.getElem_cons_succ]
  try simp only [List.getElem_cons_zero]
  try simp only [Act.put]
  try simp only [List.setIfInBounds_toArray]
  try simp only [List.set_cons_succ]
  try simp only [List.set_cons_zero]
  refine wpAnyH_take (i := 3) (v := ?_) rfl (by kernel_rfl) (by kernel_rfl) (by kernel_rfl) (fun _ _ _ h => h) (Or.inl ⟨by kernel_rfl, fun W hSW => by go_simp; try with_reducible rfl⟩) (by assumption) ?_
  try simp only [List.getElem_toArray]
  try simp only [List.getElem_cons_succ]
  try simp only [List.getElem_cons_zero]
  try simp only [Act.put]
  try simp only [List.setIfInBounds_toArray]
  try simp only [List.set_cons_succ]
  try simp only [List.set_cons_zero]
  refine wpAnyH_take (i := 4) (v := ?_) rfl (by kernel_rfl) (by kernel_rfl) (by kernel_rfl) (fun _ _ _ h => h) (Or.inl ⟨by kernel_rfl, fun W hSW => by go_simp; try with_reducible rfl⟩) (by assumption) ?_
  try simp only [List.getElem_toArray]
  try simp only [List.getElem_cons_succ]
  try simp only [List.getElem_cons_zero]
  try simp only [Act.put]
  try simp only [List.setIfInBounds_toArray]
  try simp only [List.set_cons_succ]
  try simp only [List.set_cons_zero]
  refine wpAnyH_ready (rs := [2, 5]) (by kernel_rfl) (by simp) ?_
  refine AllReadyH.cons rfl (fun K hK => ?_) (AllReadyH.cons rfl (fun K hK => ?_) AllReadyH.nil)
  · go_simp
    refine (HAL.out _).mono ?_
    rintro e w2 ⟨rfl, hk2⟩
    have hK2 : Kept (fun _ => False) w1 w2 := (Kept.refl _ w1).drew.trans hk2
    refine hK.out _ _ (k1.out.trans hK2) (fun _ => ?_)
    clear hK K
    try simp only [List.getElem_toArray]
    try simp only [List.getElem_cons_succ]
    try simp only [List.getElem_cons_zero]
    try simp only [Act.put]
    try simp only [List.setIfInBounds_toArray]
    try simp only [List.set_cons_succ]
    try simp only [List.set_cons_zero]
    refine wpAnyH_ready (rs := [5]) (by kernel_rfl) (by simp) ?_
    refine AllReadyH.cons rfl (fun K hK => ?_) AllReadyH.nil
    go_simp
    have hK3 : Kept (fun _ => False) w1 (w2.alloc (.cells #[.int .i64 257, .string ⟨#[]⟩, .int .i64 259, .string ⟨#[117]⟩] 53)) := hK2.alloc _
    have tg3 : TagsAt (w2.alloc (.cells #[.int .i64 257, .string ⟨#[]⟩, .int .i64 259, .string ⟨#[117]⟩] 53)) (.slice (some ⟨w2.heap.size, 0, none⟩) 2 2) askTags := tags_two w2 257 eB 259 uB
    refine hK.out _ _ (k1.out.trans hK3) (fun _ => ?_)
    clear hK K
    try simp only [List.getElem_toArray]
    try simp only [List.getElem_cons_succ]
    try simp only [List.getElem_cons_zero]
    try simp only [Act.put]
    try simp only [List.setIfInBounds_toArray]
    try simp only [List.set_cons_succ]
    try simp only [List.set_cons_zero]
    generalize w2.alloc (.cells #[.int .i64 257, .string ⟨#[]⟩, .int .i64 259, .string ⟨#[117]⟩] 53) = w3 at *
    refine wpAnyH_ready (rs := [6]) (by kernel_rfl) (by simp) ?_
    refine AllReadyH.cons rfl (fun K hK => ?_) AllReadyH.nil
    go_simp
    refine (HA1.out _ _ tg3).mono ?_
    rintro e w4 ⟨rfl, hk4⟩
    have hK4 := hK3.trans hk4
    refine hK.out _ _ (k1.out.trans hK4) (fun _ => ?_)
    clear hK K
    try simp only [List.getElem_toArray]
    try simp only [List.getElem_cons_succ]
    try simp only [List.getElem_cons_zero]
    try simp only [Act.put]
    try simp only [List.setIfInBounds_toArray]
    try simp only [List.set_cons_succ]
    try simp only [List.set_cons_zero]
    refine wpAnyH_ready (rs := [7]) (by kernel_rfl) (by simp) ?_
    refine AllReadyH.cons rfl (fun K hK => ?_) AllReadyH.nil
    go_simp
    refine (HP1.out _ _ _ (HA1'.out.kept0 hK4) (HTA.out.kept (k1.out.trans hK4))).mono ?_
    rintro e w5 ⟨u5, rfl, ho5, hk5⟩
    have hK5 := hid (hK4.trans hk5)
    obtain ⟨g5, c5, rfl, hc5, hcell5⟩ := OwnE.first ho5
    have hg5 : w4.heap.size ≤ g5 := (World.ownsRow.lt ho5 g5 rfl).1
    have HG5 : Hid (¬ S1 g5) := fun h => by
      have h2 := CAt.lt HA1'.out h
      have h3 := hK4.size
      omega
    refine hK.out _ _ (k1.out.trans hK5.out) (fun _ => ?_)
    clear hK K
    try simp only [List.getElem_toArray]
    try simp only [List.getElem_cons_succ]
    try simp only [List.getElem_cons_zero]
    try simp only [Act.put]
    try simp only [List.setIfInBounds_toArray]
    try simp only [List.set_cons_succ]
    try simp only [List.set_cons_zero]
    refine wpAnyH_take (i := 8) (v := ?_) rfl (by kernel_rfl) (by kernel_rfl) (by kernel_rfl) (fun _ _ _ h => h) (Or.inl ⟨by kernel_rfl, fun W hSW => by go_simp; try with_reducible rfl⟩) (by assumption) ?_
    try simp only [List.getElem_toArray]
    try simp only [List.getElem_cons_succ]
    try simp only [List.getElem_cons_zero]
    try simp only [Act.put]
    try simp only [List.setIfInBounds_toArray]
    try simp only [List.set_cons_succ]
    try simp only [List.set_cons_zero]
    refine wpAnyH_done (by kernel_rfl) ?_ _
    have hc5' : (1 : Int) ≤ (c5 : Int) := by omega
    have HC5 := hid hcell5
    clear ho5 hk5 hK4 hk4 tg3 hcell5 hg5
    go_wp2
    refine wp_region_held_drew (S := Kept (fun _ => False) wA) (by kernel_rfl) ((k1.out.trans hK5.out).drew) (fun hSd => ?_)
    refine wpAnyH_take (i := 0) (v := ?_) rfl (by kernel_rfl) (by kernel_rfl) (by kernel_rfl) (fun _ _ _ h => h) (Or.inl ⟨by kernel_rfl, fun W hSW => by go_simp; try with_reducible rfl⟩) (by assumption) ?_
    try simp only [List.getElem_toArray]
    try simp only [List.getElem_cons_succ]
    try simp only [List.getElem_cons_zero]
    try simp only [Act.put]
    try simp only [List.setIfInBounds_toArray]
    try simp only [List.set_cons_succ]
    try simp only [List.set_cons_zero]
    refine wpAnyH_take (i := 1) (v := ?_) rfl (by kernel_rfl) (by kernel_rfl) (by kernel_rfl) (fun _ _ _ h => h) (Or.inl ⟨by kernel_rfl, fun W hSW => by go_simp; try with_reducible rfl⟩) (by assumption) ?_
    try simp only [List.getElem_toArray]
    try simp only [List.getElem_cons_succ]
    try simp only [List.getElem_cons_zero]
    try simp only [Act.put]
    try simp only [List.setIfInBounds_toArray]
    try simp only [List.set_cons_succ]
    try simp only [List.set_cons_zero]
    refine wpAnyH_take (i := 2) (v := ?_) rfl (by kernel_rfl) (by kernel_rfl) (by kernel_rfl) (fun _ _ _ h => h) (Or.inl ⟨by kernel_rfl, fun W hSW => by go_simp; try with_reducible rfl⟩) (by assumption) ?_
    try simp only [List.getElem_toArray]
    try simp only [List.getElem_cons_succ]
    try simp only [List.getElem_cons_zero]
    try simp only [Act.put]
    try simp only [List.setIfInBounds_toArray]
    try simp only [List.set_cons_succ]
    try simp only [List.set_cons_zero]
    refine wpAnyH_take (i := 3) (v := ?_) rfl (by kernel_rfl) (by kernel_rfl) (by kernel_rfl) (fun _ _ _ h => h) (Or.inl ⟨by kernel_rfl, fun W hSW => by go_simp; try with_reducible rfl⟩) (by assumption) ?_
    try simp only [List.getElem_toArray]
    try simp only [List.getElem_cons_succ]
    try simp only [List.getElem_cons_zero]
    try simp only [Act.put]
    try simp only [List.setIfInBounds_toArray]
    try simp only [List.set_cons_succ]
    try simp only [List.set_cons_zero]
    refine wpAnyH_take (i := 4) (v := ?_) rfl (by kernel_rfl) (by kernel_rfl) (by kernel_rfl) (fun _ _ _ h => h) (Or.inl ⟨by kernel_rfl, fun W hSW => by go_simp; try with_reducible rfl⟩) (by assumption) ?_
    try simp only [List.getElem_toArray]
    try simp only [List.getElem_cons_succ]
    try simp only [List.getElem_cons_zero]
    try simp only [Act.put]
    try simp only [List.setIfInBounds_toArray]
    try simp only [List.set_cons_succ]
    try simp only [List.set_cons_zero]
    refine wpAnyH_take (i := 7) (v := ?_) rfl (by kernel_rfl) (by kernel_rfl) (by kernel_rfl) (fun _ _ _ h => h) (Or.inl ⟨by kernel_rfl, fun W hSW => by go_simp; try with_reducible rfl⟩) (by assumption) ?_
    try simp only [List.getElem_toArray]
    try simp only [List.getElem_cons_succ]
    try simp only [List.getElem_cons_zero]
    try simp only [Act.put]
    try simp only [List.setIfInBounds_toArray]
    try simp only [List.set_cons_succ]
    try simp only [List.set_cons_zero]
    refine wpAnyH_ready (rs := [5]) (by kernel_rfl) (by simp) ?_
    refine AllReadyH.cons rfl (fun K hK => ?_) AllReadyH.nil
    go_simp
    refine (HMK.out _ (HTA.out.kept (k1.out.trans hK5.out).drew).t).mono ?_
    rintro e w6 ⟨rfl, hb6⟩
    have hK6 : Kept (fun _ => False) w5 w6 := (Kept.refl _ w5).drew.trans (kept_of hb6)
    refine hK.out _ _ ((k1.out.trans hK5.out).trans hK6) (fun _ => ?_)
    clear hK K
    try simp only [List.getElem_toArray]
    try simp only [List.getElem_cons_succ]
    try simp only [List.getElem_cons_zero]
    try simp only [Act.put]
    try simp only [List.setIfInBounds_toArray]
    try simp only [List.set_cons_succ]
    try simp only [List.set_cons_zero]
    refine wpAnyH_take (i := 6) (v := ?_) rfl (by kernel_rfl) (by kernel_rfl) (by kernel_rfl) (fun _ _ _ h => h) (Or.inl ⟨by kernel_rfl, fun W hSW => by go_simp; try with_reducible rfl⟩) (by assumption) ?_
    try simp only [List.getElem_toArray]
    try simp only [List.getElem_cons_succ]
    try simp only [List.getElem_cons_zero]
    try simp only [Act.put]
    try simp only [List.setIfInBounds_toArray]
    try simp only [List.set_cons_succ]
    try simp only [List.set_cons_zero]
    refine wpAnyH_ready (rs := [8]) (by kernel_rfl) (by simp) ?_
    refine AllReadyH.cons rfl (fun K hK => ?_) AllReadyH.nil
    go_simp
    have hK7 : Kept (fun _ => False) w5 (w6.alloc (.cells #[.int .i64 257, .string ⟨#[]⟩, .int .i64 260, .string mk10, .int .i64 259, .string ⟨#[117]⟩] 53)) := hK6.alloc _
    have tg7 : TagsAt (w6.alloc (.cells #[.int .i64 257, .string ⟨#[]⟩, .int .i64 260, .string mk10, .int .i64 259, .string ⟨#[117]⟩] 53)) (.slice (some ⟨w6.heap.size, 0, none⟩) 3 3) (padrTags uB mk10) := (own_three w6 0 (Nat.zero_le _) 257 eB 260 mk10 259 uB).tags
    refine hK.out _ _ ((k1.out.trans hK5.out).trans hK7) (fun _ => ?_)
    clear hK K
    try simp only [List.getElem_toArray]
    try simp only [List.getElem_cons_succ]
    try simp only [List.getElem_cons_zero]
    try simp only [Act.put]
    try simp only [List.setIfInBounds_toArray]
    try simp only [List.set_cons_succ]
    try simp only [List.set_cons_zero]
    generalize w6.alloc (.cells #[.int .i64 257, .string ⟨#[]⟩, .int .i64 260, .string mk10, .int .i64 259, .string ⟨#[117]⟩] 53) = w7 at *
    refine wpAnyH_ready (rs := [9]) (by kernel_rfl) (by simp) ?_
    refine AllReadyH.cons rfl (fun K hK => ?_) AllReadyH.nil
    go_simp
    refine (HA2.out _ _ tg7).mono ?_
    rintro e w8 ⟨rfl, hk8⟩
    have hK8 : Kept (fun _ => False) w5 w8 := hK7.trans hk8
    refine hK.out _ _ ((k1.out.trans hK5.out).trans hK8) (fun _ => ?_)
    clear hK K
    try simp only [List.getElem_toArray]
    try simp only [List.getElem_cons_succ]
    try simp only [List.getElem_cons_zero]
    try simp only [Act.put]
    try simp only [List.setIfInBounds_toArray]
    try simp only [List.set_cons_succ]
    try simp only [List.set_cons_zero]
    refine wpAnyH_ready (rs := [10]) (by kernel_rfl) (by simp) ?_
    refine AllReadyH.cons rfl (fun K hK => ?_) AllReadyH.nil
    go_simp
    refine (HP2.out _ _ _ (HA1'.out.kept0 (hK5.out.trans hK8)) (HTA.out.kept ((k1.out.trans hK5.out).trans hK8))).mono ?_
    rintro e w9 ⟨u9, rfl, ho9, hn9⟩
    have hKA9 : Kept (fun _ => False) wA w9 := ((k1.out.trans hK5.out).trans hK8).andThen hn9.kept (fun i hi h => by have := HS1.out i h; omega)
    have hc9 : ∀ j u, j < 14 → (frList f1)[j]? = some u → w9.cell? ⟨g5, j, none⟩ = some u := fun j u hj hu => by
      have h := HC5.out j u hj hu
      have h2 := (hK8.cell (p := ⟨g5, j, none⟩) (lt_of_cell h) id).trans h
      exact (hn9.kept.cell (p := ⟨g5, j, none⟩) (lt_of_cell h2) HG5.out).trans h2
    obtain ⟨g9, c9, rfl, hcc9, _⟩ := OwnE.first ho9
    refine hK.out _ _ (hKA9) (fun _ => ?_)
    clear hK K
    try simp only [List.getElem_toArray]
    try simp only [List.getElem_cons_succ]
    try simp only [List.getElem_cons_zero]
    try simp only [Act.put]
    try simp only [List.setIfInBounds_toArray]
    try simp only [List.set_cons_succ]
    try simp only [List.set_cons_zero]
    refine wpAnyH_take (i := 11) (v := ?_) rfl (by kernel_rfl) (by kernel_rfl) (by kernel_rfl) (fun _ _ _ h => h) (Or.inl ⟨by kernel_rfl, fun W hSW => by go_simp; try with_reducible rfl⟩) (by assumption) ?_
    try simp only [List.getElem_toArray]
    try simp only [List.getElem_cons_succ]
    try simp only [List.getElem_cons_zero]
    try simp only [Act.put]
    try simp only [List.setIfInBounds_toArray]
    try simp only [List.set_cons_succ]
    try simp only [List.set_cons_zero]
    refine wpAnyH_done (by kernel_rfl) ?_ _
    obtain ⟨S2, hA2, _, _⟩ := id hn9
    have HK9 := hid hKA9
    have HC9 := hid hc9
    clear ho9 hn9 hK8 hk8 tg7 hK7 hK6 hb6 hc9
    go_wp2_with fail
    refine (HLV.out _ _ _ hA2).mono ?_
    rintro e w10 ⟨v10, L, rfl, hp, _, ha, hk10⟩
    obtain rfl : L = [x1] := List.perm_singleton.1 hp
    rcases ha with ⟨h0, _⟩ | ⟨g10, c10, rfl, hcap10, hcl⟩
    · cases h0
    · have hcl1 := hcl 0 x1 rfl
      have HKA := hid (HK9.out.trans hk10)
      have hdst : frList f1 = [.int .u8 1, .int .u8 0, .int .u8 0, .int .u8 0, .int .u8 0, .int .u8 0] ++ (Lib.byteCells f1.src ++ [.int .i64 f1.type, .string f1.data]) := by unfold frList; rw [hf1]; rfl
      rw [hdst] at HC9
      have y5 : ∀ j u, [Value.int .u8 1, Value.int .u8 0, Value.int .u8 0, Value.int .u8 0, Value.int .u8 0, Value.int .u8 0][j]? = some u → w10.cell? ⟨g5, j, none⟩ = some u := fun j u hj => by
        have hlt : j < 6 := by have := (List.getElem?_eq_some_iff.1 hj).1; simpa using this
        have h := HC9.out j u (by omega) (by rw [List.getElem?_append_left (by simpa using hlt)]; exact hj)
        exact (hk10.cell (p := ⟨g5, j, none⟩) (lt_of_cell h) id).trans h
      have a0 : ∀ W, IsW w10.drew W → W.cell? ⟨g5, 0, none⟩ = some (.int .u8 1) := fun W h => by rw [show W = w10.drew from h]; exact y5 0 _ rfl
      have a1 : ∀ W, IsW w10.drew W → W.cell? ⟨g5, 1, none⟩ = some (.int .u8 0) := fun W h => by rw [show W = w10.drew from h]; exact y5 1 _ rfl
      have a2 : ∀ W, IsW w10.drew W → W.cell? ⟨g5, 2, none⟩ = some (.int .u8 0) := fun W h => by rw [show W = w10.drew from h]; exact y5 2 _ rfl
      have a3 : ∀ W, IsW w10.drew W → W.cell? ⟨g5, 3, none⟩ = some (.int .u8 0) := fun W h => by rw [show W = w10.drew from h]; exact y5 3 _ rfl
      have a4 : ∀ W, IsW w10.drew W → W.cell? ⟨g5, 4, none⟩ = some (.int .u8 0) := fun W h => by rw [show W = w10.drew from h]; exact y5 4 _ rfl
      have a5 : ∀ W, IsW w10.drew W → W.cell? ⟨g5, 5, none⟩ = some (.int .u8 0) := fun W h => by rw [show W = w10.drew from h]; exact y5 5 _ rfl
      have e0 : ∀ W, IsW w10.drew W → W.cell? ⟨g10, 0, none⟩ = some (.int .u8 1) := fun W h => by rw [show W = w10.drew from h]; exact hcl1 0 _ rfl
      have e1 : ∀ W, IsW w10.drew W → W.cell? ⟨g10, 1, none⟩ = some (.int .u8 0) := fun W h => by rw [show W = w10.drew from h]; exact hcl1 1 _ rfl
      have e2 : ∀ W, IsW w10.drew W → W.cell? ⟨g10, 2, none⟩ = some (.int .u8 0) := fun W h => by rw [show W = w10.drew from h]; exact hcl1 2 _ rfl
      have e3 : ∀ W, IsW w10.drew W → W.cell? ⟨g10, 3, none⟩ = some (.int .u8 0) := fun W h => by rw [show W = w10.drew from h]; exact hcl1 3 _ rfl
      have e4 : ∀ W, IsW w10.drew W → W.cell? ⟨g10, 4, none⟩ = some (.int .u8 0) := fun W h => by rw [show W = w10.drew from h]; exact hcl1 4 _ rfl
      have e5 : ∀ W, IsW w10.drew W → W.cell? ⟨g10, 5, none⟩ = some (.int .u8 0) := fun W h => by rw [show W = w10.drew from h]; exact hcl1 5 _ rfl
      have e6 : ∀ W, IsW w10.drew W → W.cell? ⟨g10, 6, none⟩ = some (.int .i64 1) := fun W h => by rw [show W = w10.drew from h]; exact hcl1 6 _ rfl
      have e7 : ∀ W, IsW w10.drew W → W.cell? ⟨g10, 7, none⟩ = some (.string ⟨#[117]⟩) := fun W h => by rw [show W = w10.drew from h]; exact hcl1 7 _ rfl
      have s0 : ∀ W, IsW w10.drew W → W.cell? ⟨w.heap.size + 1, 0, none⟩ = some (.int .u8 1) := fun W h => by rw [show W = w10.drew from h]; exact r0 _ HKA.out.drew
      have s1 : ∀ W, IsW w10.drew W → W.cell? ⟨w.heap.size + 1, 1, none⟩ = some (.int .u8 0) := fun W h => by rw [show W = w10.drew from h]; exact r1 _ HKA.out.drew
      have s2 : ∀ W, IsW w10.drew W → W.cell? ⟨w.heap.size + 1, 2, none⟩ = some (.int .u8 0) := fun W h => by rw [show W = w10.drew from h]; exact r2 _ HKA.out.drew
      have s3 : ∀ W, IsW w10.drew W → W.cell? ⟨w.heap.size + 1, 3, none⟩ = some (.int .u8 0) := fun W h => by rw [show W = w10.drew from h]; exact r3 _ HKA.out.drew
      have s4 : ∀ W, IsW w10.drew W → W.cell? ⟨w.heap.size + 1, 4, none⟩ = some (.int .u8 0) := fun W h => by rw [show W = w10.drew from h]; exact r4 _ HKA.out.drew
      have s5 : ∀ W, IsW w10.drew W → W.cell? ⟨w.heap.size + 1, 5, none⟩ = some (.int .u8 0) := fun W h => by rw [show W = w10.drew from h]; exact r5 _ HKA.out.drew
      clear r0 r1 r2 r3 r4 r5 p0 p1 p2 p3 p4 p5 HC9 HC5 hcl hcl1 y5 hdst
      go_wp2
      refine wp_region_held_drew (S := IsW w10.drew) (by kernel_rfl) (rfl) (fun hSd => ?_)
      refine wpAnyH_take (i := 0) (v := ?_) rfl (by kernel_rfl) (by kernel_rfl) (by kernel_rfl) (fun _ _ _ h => h) (Or.inl ⟨by kernel_rfl, fun W hSW => by go_simp; try with_reducible rfl⟩) (by assumption) ?_
      try simp only [List.getElem_toArray]
      try simp only [List.getElem_cons_succ]
      try simp only [List.getElem_cons_zero]
      try simp only [Act.put]
      try simp only [List.setIfInBounds_toArray]
      try simp only [List.set_cons_succ]
      try simp only [List.set_cons_zero]
      refine wpAnyH_take (i := 1) (v := ?_) rfl (by kernel_rfl) (by kernel_rfl) (by kernel_rfl) (fun _ _ _ h => h) (Or.inl ⟨by kernel_rfl, fun W hSW => by go_simp; try with_reducible rfl⟩) (by assumption) ?_
      try simp only [List.getElem_toArray]
      try simp only [List.getElem_cons_succ]
      try simp only [List.getElem_cons_zero]
      try simp only [Act.put]
      try simp only [List.setIfInBounds_toArray]
      try simp only [List.set_cons_succ]
      try simp only [List.set_cons_zero]
      refine wpAnyH_take (i := 2) (v := .bool true) rfl (by kernel_rfl) (by kernel_rfl) (by kernel_rfl) (fun _ _ _ h => h) (Or.inl ⟨by kernel_rfl, fun W hSW => by go_simp; try with_reducible rfl⟩) (by assumption) ?_
      try simp only [List.getElem_toArray]
      try simp only [List.getElem_cons_succ]
      try simp only [List.getElem_cons_zero]
      try simp only [Act.put]
      try simp only [List.setIfInBounds_toArray]
      try simp only [List.set_cons_succ]
      try simp only [List.set_cons_zero]
      refine wpAnyH_take (i := 3) (v := .bool true) rfl (by kernel_rfl) (by kernel_rfl) (by kernel_rfl) (fun _ _ _ h => h) (Or.inl ⟨by kernel_rfl, fun W hSW => by go_simp; try with_reducible rfl⟩) (by assumption) ?_
      try simp only [List.getElem_toArray]
      try simp only [List.getElem_cons_succ]
      try simp only [List.getElem_cons_zero]
      try simp only [Act.put]
      try simp only [List.setIfInBounds_toArray]
      try simp only [List.set_cons_succ]
      try simp only [List.set_cons_zero]
      refine wpAnyH_take (i := 4) (v := ?_) rfl (by kernel_rfl) (by kernel_rfl) (by kernel_rfl) (fun _ _ _ h => h) (Or.inl ⟨by kernel_rfl, fun W hSW => by go_simp; try with_reducible rfl⟩) (by assumption) ?_
      try simp only [List.getElem_toArray]
      try simp only [List.getElem_cons_succ]
      try simp only [List.getElem_cons_zero]
      try simp only [Act.put]
      try simp only [List.setIfInBounds_toArray]
      try simp only [List.set_cons_succ]
      try simp only [List.set_cons_zero]
      refine wpAnyH_take (i := 5) (v := ?_) rfl (by kernel_rfl) (by kernel_rfl) (by kernel_rfl) (fun _ _ _ h => h) (Or.inl ⟨by kernel_rfl, fun W hSW => by go_simp; try with_reducible rfl⟩) (by assumption) ?_
      try simp only [List.getElem_toArray]
      try simp only [List.getElem_cons_succ]
      try simp only [List.getElem_cons_zero]
      try simp only [Act.put]
      try simp only [List.setIfInBounds_toArray]
      try simp only [List.set_cons_succ]
      try simp only [List.set_cons_zero]
      refine wpAnyH_take (i := 6) (v := ?_) rfl (by kernel_rfl) (by kernel_rfl) (by kernel_rfl) (fun _ _ _ h => h) (Or.inl ⟨by kernel_rfl, fun W hSW => by go_simp; try with_reducible rfl⟩) (by assumption) ?_
      try simp only [List.getElem_toArray]
      try simp only [List.getElem_cons_succ]
      try simp only [List.getElem_cons_zero]
      try simp only [Act.put]
      try simp only [List.setIfInBounds_toArray]
      try simp only [List.set_cons_succ]
      try simp only [List.set_cons_zero]
      refine wpAnyH_take (i := 7) (v := ?_) rfl (by kernel_rfl) (by kernel_rfl) (by kernel_rfl) (fun _ _ _ h => h) (Or.inl ⟨by kernel_rfl, fun W hSW => by go_simp; try with_reducible rfl⟩) (by assumption) ?_
      try simp only [List.getElem_toArray]
      try simp only [List.getElem_cons_succ]
      try simp only [List.getElem_cons_zero]
      try simp only [Act.put]
      try simp only [List.setIfInBounds_toArray]
      try simp only [List.set_cons_succ]
      try simp only [List.set_cons_zero]
      refine wpAnyH_take (i := 8) (v := ?_) rfl (by kernel_rfl) (by kernel_rfl) (by kernel_rfl) (fun _ _ _ h => h) (Or.inl ⟨by kernel_rfl, fun W hSW => by go_simp; try with_reducible rfl⟩) (by assumption) ?_
      try simp only [List.getElem_toArray]
      try simp only [List.getElem_cons_succ]
      try simp only [List.getElem_cons_zero]
      try simp only [Act.put]
      try simp only [List.setIfInBounds_toArray]
      try simp only [List.set_cons_succ]
      try simp only [List.set_cons_zero]
      refine wpAnyH_take (i := 9) (v := .bool true) rfl (by kernel_rfl) (by kernel_rfl) (by kernel_rfl) (fun _ _ _ h => h) (Or.inl ⟨by kernel_rfl, fun W hSW => by go_simp; try with_reducible rfl⟩) (by assumption) ?_
      try simp only [List.getElem_toArray]
      try simp only [List.getElem_cons_succ]
      try simp only [List.getElem_cons_zero]
      try simp only [Act.put]
      try simp only [List.setIfInBounds_toArray]
      try simp only [List.set_cons_succ]
      try simp only [List.set_cons_zero]
      refine wpAnyH_take (i := 10) (v := .bool true) rfl (by kernel_rfl) (by kernel_rfl) (by kernel_rfl) (fun _ _ _ h => h) (Or.inl ⟨by kernel_rfl, fun W hSW => by go_simp; try with_reducible rfl⟩) (by assumption) ?_
      try simp only [List.getElem_toArray]
      try simp only [List.getElem_cons_succ]
      try simp only [List.getElem_cons_zero]
      try simp only [Act.put]
      try simp only [List.setIfInBounds_toArray]
      try simp only [List.set_cons_succ]
      try simp only [List.set_cons_zero]
      refine wpAnyH_take (i := 11) (v := .bool true) rfl (by kernel_rfl) (by kernel_rfl) (by kernel_rfl) (fun _ _ _ h => h) (Or.inl ⟨by kernel_rfl, fun W hSW => by go_simp; try with_reducible rfl⟩) (by assumption) ?_
      try simp only [List.getElem_toArray]
      try simp only [List.getElem_cons_succ]
      try simp only [List.getElem_cons_zero]
      try simp only [Act.put]
      try simp only [List.setIfInBounds_toArray]
      try simp only [List.set_cons_succ]
      try simp only [List.set_cons_zero]
      refine wpAnyH_take (i := 12) (v := ?_) rfl (by kernel_rfl) (by kernel_rfl) (by kernel_rfl) (fun _ _ _ h => h) (Or.inl ⟨by kernel_rfl, fun W hSW => by go_simp; try with_reducible rfl⟩) (by assumption) ?_
      try simp only [List.getElem_toArray]
      try simp only [List.getElem_cons_succ]
      try simp only [List.getElem_cons_zero]
      try simp only [Act.put]
      try simp only [List.setIfInBounds_toArray]
      try simp only [List.set_cons_succ]
      try simp only [List.set_cons_zero]
      refine wpAnyH_take (i := 13) (v := ?_) rfl (by kernel_rfl) (by kernel_rfl) (by kernel_rfl) (fun _ _ _ h => h) (Or.inl ⟨by kernel_rfl, fun W hSW => by go_simp; try with_reducible rfl⟩) (by assumption) ?_
      try simp only [List.getElem_toArray]
      try simp only [List.getElem_cons_succ]
      try simp only [List.getElem_cons_zero]
      try simp only [Act.put]
      try simp only [List.setIfInBounds_toArray]
      try simp only [List.set_cons_succ]
      try simp only [List.set_cons_zero]
      refine wpAnyH_take (i := 14) (v := .bool true) rfl (by kernel_rfl) (by kernel_rfl) (by kernel_rfl) (fun _ _ _ h => h) (Or.inl ⟨by kernel_rfl, fun W hSW => by go_simp; try with_reducible rfl⟩) (by assumption) ?_
      try simp only [List.getElem_toArray]
      try simp only [List.getElem_cons_succ]
      try simp only [List.getElem_cons_zero]
      try simp only [Act.put]
      try simp only [List.setIfInBounds_toArray]
      try simp only [List.set_cons_succ]
      try simp only [List.set_cons_zero]
      refine wpAnyH_take (i := 15) (v := .bool true) rfl (by kernel_rfl) (by kernel_rfl) (by kernel_rfl) (fun _ _ _ h => h) (Or.inl ⟨by kernel_rfl, fun W hSW => by go_simp; try with_reducible rfl⟩) (by assumption) ?_
      try simp only [List.getElem_toArray]
      try simp only [List.getElem_cons_succ]
      try simp only [List.getElem_cons_zero]
      try simp only [Act.put]
      try simp only [List.setIfInBounds_toArray]
      try simp only [List.set_cons_succ]
      try simp only [List.set_cons_zero]
      refine wpAnyH_take (i := 16) (v := .bool true) rfl (by kernel_rfl) (by kernel_rfl) (by kernel_rfl) (fun _ _ _ h => h) (Or.inl ⟨by kernel_rfl, fun W hSW => by go_simp; try with_reducible rfl⟩) (by assumption) ?_
      try simp only [List.getElem_toArray]
      try simp only [List.getElem_cons_succ]
      try simp only [List.getElem_cons_zero]
      try simp only [Act.put]
      try simp only [List.setIfInBounds_toArray]
      try simp only [List.set_cons_succ]
      try simp only [List.set_cons_zero]
      refine wpAnyH_take (i := 17) (v := ?_) rfl (by kernel_rfl) (by kernel_rfl) (by kernel_rfl) (fun _ _ _ h => h) (Or.inl ⟨by kernel_rfl, fun W hSW => by go_simp; try with_reducible rfl⟩) (by assumption) ?_
      try simp only [List.getElem_toArray]
      try simp only [List.getElem_cons_succ]
      try simp only [List.getElem_cons_zero]
      try simp only [Act.put]
      try simp only [List.setIfInBounds_toArray]
      try simp only [List.set_cons_succ]
      try simp only [List.set_cons_zero]
      refine wpAnyH_take (i := 18) (v := ?_) rfl (by kernel_rfl) (by kernel_rfl) (by kernel_rfl) (fun _ _ _ h => h) (Or.inl ⟨by kernel_rfl, fun W hSW => by go_simp; try with_reducible rfl⟩) (by assumption) ?_
      try simp only [List.getElem_toArray]
      try simp only [List.getElem_cons_succ]
      try simp only [List.getElem_cons_zero]
      try simp only [Act.put]
      try simp only [List.setIfInBounds_toArray]
      try simp only [List.set_cons_succ]
      try simp only [List.set_cons_zero]
      refine wpAnyH_take (i := 19) (v := .bool true) rfl (by kernel_rfl) (by kernel_rfl) (by kernel_rfl) (fun _ _ _ h => h) (Or.inl ⟨by kernel_rfl, fun W hSW => by go_simp; try with_reducible rfl⟩) (by assumption) ?_
      try simp only [List.getElem_toArray]
      try simp only [List.getElem_cons_succ]
      try simp only [List.getElem_cons_zero]
      try simp only [Act.put]
      try simp only [List.setIfInBounds_toArray]
      try simp only [List.set_cons_succ]
      try simp only [List.set_cons_zero]
      refine wpAnyH_take (i := 20) (v := .bool true) rfl (by kernel_rfl) (by kernel_rfl) (by kernel_rfl) (fun _ _ _ h => h) (Or.inl ⟨by kernel_rfl, fun W hSW => by go_simp; try with_reducible rfl⟩) (by assumption) ?_
      try simp only [List.getElem_toArray]
      try simp only [List.getElem_cons_succ]
      try simp only [List.getElem_cons_zero]
      try simp only [Act.put]
      try simp only [List.setIfInBounds_toArray]
      try simp only [List.set_cons_succ]
      try simp only [List.set_cons_zero]
      refine wpAnyH_take (i := 21) (v := .bool true) rfl (by kernel_rfl) (by kernel_rfl) (by kernel_rfl) (fun _ _ _ h => h) (Or.inl ⟨by kernel_rfl, fun W hSW => by go_simp; try with_reducible rfl⟩) (by assumption) ?_
      try simp only [List.getElem_toArray]
      try simp only [List.getElem_cons_succ]
      try simp only [List.getElem_cons_zero]
      try simp only [Act.put]
      try simp only [List.setIfInBounds_toArray]
      try simp only [List.set_cons_succ]
      try simp only [List.set_cons_zero]
      refine wpAnyH_take (i := 22) (v := ?_) rfl (by kernel_rfl) (by kernel_rfl) (by kernel_rfl) (fun _ _ _ h => h) (Or.inl ⟨by kernel_rfl, fun W hSW => by go_simp; try with_reducible rfl⟩) (by assumption) ?_
      try simp only [List.getElem_toArray]
      try simp only [List.getElem_cons_succ]
      try simp only [List.getElem_cons_zero]
      try simp only [Act.put]
      try simp only [List.setIfInBounds_toArray]
      try simp only [List.set_cons_succ]
      try simp only [List.set_cons_zero]
      refine wpAnyH_take (i := 23) (v := ?_) rfl (by kernel_rfl) (by kernel_rfl) (by kernel_rfl) (fun _ _ _ h => h) (Or.inl ⟨by kernel_rfl, fun W hSW => by go_simp; try with_reducible rfl⟩) (by assumption) ?_
      try simp only [List.getElem_toArray]
      try simp only [List.getElem_cons_succ]
      try simp only [List.getElem_cons_zero]
      try simp only [Act.put]
      try simp only [List.setIfInBounds_toArray]
      try simp only [List.set_cons_succ]
      try simp only [List.set_cons_zero]
      refine wpAnyH_take (i := 24) (v := ?_) rfl (by kernel_rfl) (by kernel_rfl) (by kernel_rfl) (fun _ _ _ h => h) (Or.inl ⟨by kernel_rfl, fun W hSW => by go_simp; try with_reducible rfl⟩) (by assumption) ?_
      try simp only [List.getElem_toArray]
      try simp only [List.getElem_cons_succ]
      try simp only [List.getElem_cons_zero]
      try simp only [Act.put]
      try simp only [List.setIfInBounds_toArray]
      try simp only [List.set_cons_succ]
      try simp only [List.set_cons_zero]
      refine wpAnyH_take (i := 25) (v := ?_) rfl (by kernel_rfl) (by kernel_rfl) (by kernel_rfl) (fun _ _ _ h => h) (Or.inl ⟨by kernel_rfl, fun W hSW => by go_simp; try with_reducible rfl⟩) (by assumption) ?_
      try simp only [List.getElem_toArray]
      try simp only [List.getElem_cons_succ]
      try simp only [List.getElem_cons_zero]
      try simp only [Act.put]
      try simp only [List.setIfInBounds_toArray]
      try simp only [List.set_cons_succ]
      try simp only [List.set_cons_zero]
      refine wpAnyH_take (i := 26) (v := ?_) rfl (by kernel_rfl) (by kernel_rfl) (by kernel_rfl) (fun _ _ _ h => h) (Or.inl ⟨by kernel_rfl, fun W hSW => by go_simp; try with_reducible rfl⟩) (by assumption) ?_
      try simp only [List.getElem_toArray]
      try simp only [List.getElem_cons_succ]
      try simp only [List.getElem_cons_zero]
      try simp only [Act.put]
      try simp only [List.setIfInBounds_toArray]
      try simp only [List.set_cons_succ]
      try simp only [List.set_cons_zero]
      refine wpAnyH_take (i := 27) (v := .bool true) rfl (by kernel_rfl) (by kernel_rfl) (by kernel_rfl) (fun _ _ _ h => h) (Or.inl ⟨by kernel_rfl, fun W hSW => by go_simp; try with_reducible rfl⟩) (by assumption) ?_
      try simp only [List.getElem_toArray]
      try simp only [List.getElem_cons_succ]
      try simp only [List.getElem_cons_zero]
      try simp only [Act.put]
      try simp only [List.setIfInBounds_toArray]
      try simp only [List.set_cons_succ]
      try simp only [List.set_cons_zero]
      refine wpAnyH_take (i := 28) (v := .bool true) rfl (by kernel_rfl) (by kernel_rfl) (by kernel_rfl) (fun _ _ _ h => h) (Or.inl ⟨by kernel_rfl, fun W hSW => by go_simp; try with_reducible rfl⟩) (by assumption) ?_
      try simp only [List.getElem_toArray]
      try simp only [List.getElem_cons_succ]
      try simp only [List.getElem_cons_zero]
      try simp only [Act.put]
      try simp only [List.setIfInBounds_toArray]
      try simp only [List.set_cons_succ]
      try simp only [List.set_cons_zero]
      refine wpAnyH_take (i := 29) (v := .bool true) rfl (by kernel_rfl) (by kernel_rfl) (by kernel_rfl) (fun _ _ _ h => h) (Or.inl ⟨by kernel_rfl, fun W hSW => by go_simp; try with_reducible rfl⟩) (by assumption) ?_
      try simp only [List.getElem_toArray]
      try simp only [List.getElem_cons_succ]
      try simp only [List.getElem_cons_zero]
      try simp only [Act.put]
      try simp only [List.setIfInBounds_toArray]
      try simp only [List.set_cons_succ]
      try simp only [List.set_cons_zero]
      refine wpAnyH_take (i := 30) (v := ?_) rfl (by kernel_rfl) (by kernel_rfl) (by kernel_rfl) (fun _ _ _ h => h) (Or.inl ⟨by kernel_rfl, fun W hSW => by go_simp; try with_reducible rfl⟩) (by assumption) ?_
      try simp only [List.getElem_toArray]
      try simp only [List.getElem_cons_succ]
      try simp only [List.getElem_cons_zero]
      try simp only [Act.put]
      try simp only [List.setIfInBounds_toArray]
      try simp only [List.set_cons_succ]
      try simp only [List.set_cons_zero]
      refine wpAnyH_take (i := 31) (v := ?_) rfl (by kernel_rfl) (by kernel_rfl) (by kernel_rfl) (fun _ _ _ h => h) (Or.inl ⟨by kernel_rfl, fun W hSW => by go_simp; try with_reducible rfl⟩) (by assumption) ?_
      try simp only [List.getElem_toArray]
      try simp only [List.getElem_cons_succ]
      try simp only [List.getElem_cons_zero]
      try simp only [Act.put]
      try simp only [List.setIfInBounds_toArray]
      try simp only [List.set_cons_succ]
      try simp only [List.set_cons_zero]
      refine wpAnyH_take (i := 32) (v := ?_) rfl (by kernel_rfl) (by kernel_rfl) (by kernel_rfl) (fun _ _ _ h => h) (Or.inl ⟨by kernel_rfl, fun W hSW => by go_simp; try with_reducible rfl⟩) (by assumption) ?_
      try simp only [List.getElem_toArray]
      try simp only [List.getElem_cons_succ]
      try simp only [List.getElem_cons_zero]
      try simp only [Act.put]
      try simp only [List.setIfInBounds_toArray]
      try simp only [List.set_cons_succ]
      try simp only [List.set_cons_zero]
      refine wpAnyH_take (i := 33) (v := ?_) rfl (by kernel_rfl) (by kernel_rfl) (by kernel_rfl) (fun _ _ _ h => h) (Or.inl ⟨by kernel_rfl, fun W hSW => by go_simp; try with_reducible rfl⟩) (by assumption) ?_
      try simp only [List.getElem_toArray]
      try simp only [List.getElem_cons_succ]
      try simp only [List.getElem_cons_zero]
      try simp only [Act.put]
      try simp only [List.setIfInBounds_toArray]
      try simp only [List.set_cons_succ]
      try simp only [List.set_cons_zero]
      refine wpAnyH_take (i := 34) (v := ?_) rfl (by kernel_rfl) (by kernel_rfl) (by kernel_rfl) (fun _ _ _ h => h) (Or.inl ⟨by kernel_rfl, fun W hSW => by go_simp; try with_reducible rfl⟩) (by assumption) ?_
      try simp only [List.getElem_toArray]
      try simp only [List.getElem_cons_succ]
      try simp only [List.getElem_cons_zero]
      try simp only [Act.put]
      try simp only [List.setIfInBounds_toArray]
      try simp only [List.set_cons_succ]
      try simp only [List.set_cons_zero]
      refine wpAnyH_take (i := 35) (v := ?_) rfl (by kernel_rfl) (by kernel_rfl) (by kernel_rfl) (fun _ _ _ h => h) (Or.inl ⟨by kernel_rfl, fun W hSW => by go_simp; try with_reducible rfl⟩) (by assumption) ?_
      try simp only [List.getElem_toArray]
      try simp only [List.getElem_cons_succ]
      try simp only [List.getElem_cons_zero]
      try simp only [Act.put]
      try simp only [List.setIfInBounds_toArray]
      try simp only [List.set_cons_succ]
      try simp only [List.set_cons_zero]
      refine wpAnyH_take (i := 36) (v := .bool true) rfl (by kernel_rfl) (by kernel_rfl) (by kernel_rfl) (fun _ _ _ h => h) (Or.inl ⟨by kernel_rfl, fun W hSW => by go_simp; try with_reducible rfl⟩) (by assumption) ?_
      try simp only [List.getElem_toArray]
      try simp only [List.getElem_cons_succ]
      try simp only [List.getElem_cons_zero]
      try simp only [Act.put]
      try simp only [List.setIfInBounds_toArray]
      try simp only [List.set_cons_succ]
      try simp only [List.set_cons_zero]
      refine wpAnyH_take (i := 37) (v := .bool true) rfl (by kernel_rfl) (by kernel_rfl) (by kernel_rfl) (fun _ _ _ h => h) (Or.inl ⟨by kernel_rfl, fun W hSW => by go_simp; try with_reducible rfl⟩) (by assumption) ?_
      try simp only [List.getElem_toArray]
      try simp only [List.getElem_cons_succ]
      try simp only [List.getElem_cons_zero]
      try simp only [Act.put]
      try simp only [List.setIfInBounds_toArray]
      try simp only [List.set_cons_succ]
      try simp only [List.set_cons_zero]
      refine wpAnyH_take (i := 38) (v := .bool true) rfl (by kernel_rfl) (by kernel_rfl) (by kernel_rfl) (fun _ _ _ h => h) (Or.inl ⟨by kernel_rfl, fun W hSW => by go_simp; try with_reducible rfl⟩) (by assumption) ?_
      try simp only [List.getElem_toArray]
      try simp only [List.getElem_cons_succ]
      try simp only [List.getElem_cons_zero]
      try simp only [Act.put]
      try simp only [List.setIfInBounds_toArray]
      try simp only [List.set_cons_succ]
      try simp only [List.set_cons_zero]
      refine wpAnyH_take (i := 39) (v := ?_) rfl (by kernel_rfl) (by kernel_rfl) (by kernel_rfl) (fun _ _ _ h => h) (Or.inl ⟨by kernel_rfl, fun W hSW => by go_simp; try with_reducible rfl⟩) (by assumption) ?_
      try simp only [List.getElem_toArray]
      try simp only [List.getElem_cons_succ]
      try simp only [List.getElem_cons_zero]
      try simp only [Act.put]
      try simp only [List.setIfInBounds_toArray]
      try simp only [List.set_cons_succ]
      try simp only [List.set_cons_zero]
      refine wpAnyH_take (i := 40) (v := ?_) rfl (by kernel_rfl) (by kernel_rfl) (by kernel_rfl) (fun _ _ _ h => h) (Or.inl ⟨by kernel_rfl, fun W hSW => by go_simp; try with_reducible rfl⟩) (by assumption) ?_
      try simp only [List.getElem_toArray]
      try simp only [List.getElem_cons_succ]
      try simp only [List.getElem_cons_zero]
      try simp only [Act.put]
      try simp only [List.setIfInBounds_toArray]
      try simp only [List.set_cons_succ]
      try simp only [List.set_cons_zero]
      refine wpAnyH_take (i := 41) (v := ?_) rfl (by kernel_rfl) (by kernel_rfl) (by kernel_rfl) (fun _ _ _ h => h) (Or.inl ⟨by kernel_rfl, fun W hSW => by go_simp; try with_reducible rfl⟩) (by assumption) ?_
      try simp only [List.getElem_toArray]
      try simp only [List.getElem_cons_succ]
      try simp only [List.getElem_cons_zero]
      try simp only [Act.put]
      try simp only [List.setIfInBounds_toArray]
      try simp only [List.set_cons_succ]
      try simp only [List.set_cons_zero]
      refine wpAnyH_take (i := 42) (v := ?_) rfl (by kernel_rfl) (by kernel_rfl) (by kernel_rfl) (fun _ _ _ h => h) (Or.inl ⟨by kernel_rfl, fun W hSW => by go_simp; try with_reducible rfl⟩) (by assumption) ?_
      try simp only [List.getElem_toArray]
      try simp only [List.getElem_cons_succ]
      try simp only [List.getElem_cons_zero]
      try simp only [Act.put]
      try simp only [List.setIfInBounds_toArray]
      try simp only [List.set_cons_succ]
      try simp only [List.set_cons_zero]
      refine wpAnyH_take (i := 43) (v := .bool true) rfl (by kernel_rfl) (by kernel_rfl) (by kernel_rfl) (fun _ _ _ h => h) (Or.inl ⟨by kernel_rfl, fun W hSW => by go_simp; try with_reducible rfl⟩) (by assumption) ?_
      try simp only [List.getElem_toArray]
      try simp only [List.getElem_cons_succ]
      try simp only [List.getElem_cons_zero]
      try simp only [Act.put]
      try simp only [List.setIfInBounds_toArray]
      try simp only [List.set_cons_succ]
      try simp only [List.set_cons_zero]
      refine wpAnyH_take (i := 44) (v := .bool true) rfl (by kernel_rfl) (by kernel_rfl) (by kernel_rfl) (fun _ _ _ h => h) (Or.inl ⟨by kernel_rfl, fun W hSW => by go_simp; try with_reducible rfl⟩) (by assumption) ?_
      try simp only [List.getElem_toArray]
      try simp only [List.getElem_cons_succ]
      try simp only [List.getElem_cons_zero]
      try simp only [Act.put]
      try simp only [List.setIfInBounds_toArray]
      try simp only [List.set_cons_succ]
      try simp only [List.set_cons_zero]
      refine wpAnyH_take (i := 45) (v := .bool true) rfl (by kernel_rfl) (by kernel_rfl) (by kernel_rfl) (fun _ _ _ h => h) (Or.inl ⟨by kernel_rfl, fun W hSW => by go_simp; try with_reducible rfl⟩) (by assumption) ?_
      try simp only [List.getElem_toArray]
      try simp only [List.getElem_cons_succ]
      try simp only [List.getElem_cons_zero]
      try simp only [Act.put]
      try simp only [List.setIfInBounds_toArray]
      try simp only [List.set_cons_succ]
      try simp only [List.set_cons_zero]
      refine wpAnyH_done (by kernel_rfl) ?_ _
      go_wp2
      go_ret
      exact ⟨rfl, kA.out.trans HKA.out.drew⟩
  · go_simp
    obtain ⟨w2, hw2⟩ : ∃ w2, w2 = (w1.alloc (.cells #[.int .i64 257, .string ⟨#[]⟩, .int .i64 259, .string ⟨#[117]⟩] 53)).drew := ⟨_, rfl⟩
    have tg2 : TagsAt w2 (.slice (some ⟨w1.heap.size, 0, none⟩) 2 2) askTags := by rw [hw2]; exact (tags_two w1 257 eB 259 uB).kept0 (Kept.refl _ _).drew
    have hK2 : Kept (fun _ => False) w1 w2 := by rw [hw2]; exact ((Kept.refl _ w1).alloc _).drew
    rw [← hw2]
    clear hw2
    refine hK.out _ _ (k1.out.trans hK2) (fun _ => ?_)
    clear hK K
    try simp only [List.getElem_toArray]
    try simp only [List.getElem_cons_succ]
    try simp only [List.getElem_cons_zero]
    try simp only [Act.put]
    try simp only [List.setIfInBounds_toArray]
    try simp only [List.set_cons_succ]
    try simp only [List.set_cons_zero]
    refine wpAnyH_ready (rs := [2]) (by kernel_rfl) (by simp) ?_
    refine AllReadyH.cons rfl (fun K hK => ?_) AllReadyH.nil
    go_simp
    refine (HAL.out _).mono ?_
    rintro e w3 ⟨rfl, hk3⟩
    have hK3 : Kept (fun _ => False) w1 w3 := hK2.trans hk3
    have tg3 := tg2.kept0 hk3
    refine hK.out _ _ (k1.out.trans hK3) (fun _ => ?_)
    clear hK K
    try simp only [List.getElem_toArray]
    try simp only [List.getElem_cons_succ]
    try simp only [List.getElem_cons_zero]
    try simp only [Act.put]
    try simp only [List.setIfInBounds_toArray]
    try simp only [List.set_cons_succ]
    try simp only [List.set_cons_zero]
    refine wpAnyH_ready (rs := [6]) (by kernel_rfl) (by simp) ?_
    refine AllReadyH.cons rfl (fun K hK => ?_) AllReadyH.nil
    go_simp
    refine (HA1.out _ _ tg3).mono ?_
    rintro e w4 ⟨rfl, hk4⟩
    have hK4 := hK3.trans hk4
    refine hK.out _ _ (k1.out.trans hK4) (fun _ => ?_)
    clear hK K
    try simp only [List.getElem_toArray]
    try simp only [List.getElem_cons_succ]
    try simp only [List.getElem_cons_zero]
    try simp only [Act.put]
    try simp only [List.setIfInBounds_toArray]
    try simp only [List.set_cons_succ]
    try simp only [List.set_cons_zero]
    refine wpAnyH_ready (rs := [7]) (by kernel_rfl) (by simp) ?_
    refine AllReadyH.cons rfl (fun K hK => ?_) AllReadyH.nil
    go_simp
    refine (HP1.out _ _ _ (HA1'.out.kept0 hK4) (HTA.out.kept (k1.out.trans hK4))).mono ?_
    rintro e w5 ⟨u5, rfl, ho5, hk5⟩
    have hK5 := hid (hK4.trans hk5)
    obtain ⟨g5, c5, rfl, hc5, hcell5⟩ := OwnE.first ho5
    have hg5 : w4.heap.size ≤ g5 := (World.ownsRow.lt ho5 g5 rfl).1
    have HG5 : Hid (¬ S1 g5) := fun h => by
      have h2 := CAt.lt HA1'.out h
      have h3 := hK4.size
      omega
    refine hK.out _ _ (k1.out.trans hK5.out) (fun _ => ?_)
    clear hK K
    try simp only [List.getElem_toArray]
    try simp only [List.getElem_cons_succ]
    try simp only [List.getElem_cons_zero]
    try simp only [Act.put]
    try simp only [List.setIfInBounds_toArray]
    try simp only [List.set_cons_succ]
    try simp only [List.set_cons_zero]
    refine wpAnyH_take (i := 8) (v := ?_) rfl (by kernel_rfl) (by kernel_rfl) (by kernel_rfl) (fun _ _ _ h => h) (Or.inl ⟨by kernel_rfl, fun W hSW => by go_simp; try with_reducible rfl⟩) (by assumption) ?_
    try simp only [List.getElem_toArray]
    try simp only [List.getElem_cons_succ]
    try simp only [List.getElem_cons_zero]
    try simp only [Act.put]
    try simp only [List.setIfInBounds_toArray]
    try simp only [List.set_cons_succ]
    try simp only [List.set_cons_zero]
    refine wpAnyH_done (by kernel_rfl) ?_ _
    have hc5' : (1 : Int) ≤ (c5 : Int) := by omega
    have HC5 := hid hcell5
    clear ho5 hk5 hK4 hk4 tg3 hcell5 hg5
    go_wp2
    refine wp_region_held_drew (S := Kept (fun _ => False) wA) (by kernel_rfl) ((k1.out.trans hK5.out).drew) (fun hSd => ?_)
    refine wpAnyH_take (i := 0) (v := ?_) rfl (by kernel_rfl) (by kernel_rfl) (by kernel_rfl) (fun _ _ _ h => h) (Or.inl ⟨by kernel_rfl, fun W hSW => by go_simp; try with_reducible rfl⟩) (by assumption) ?_
    try simp only [List.getElem_toArray]
    try simp only [List.getElem_cons_succ]
    try simp only [List.getElem_cons_zero]
    try simp only [Act.put]
    try simp only [List.setIfInBounds_toArray]
    try simp only [List.set_cons_succ]
    try simp only [List.set_cons_zero]
    refine wpAnyH_take (i := 1) (v := ?_) rfl (by kernel_rfl) (by kernel_rfl) (by kernel_rfl) (fun _ _ _ h => h) (Or.inl ⟨by kernel_rfl, fun W hSW => by go_simp; try with_reducible rfl⟩) (by assumption) ?_
    try simp only [List.getElem_toArray]
    try simp only [List.getElem_cons_succ]
    try simp only [List.getElem_cons_zero]
    try simp only [Act.put]
    try simp only [List.setIfInBounds_toArray]
    try simp only [List.set_cons_succ]
    try simp only [List.set_cons_zero]
    refine wpAnyH_take (i := 2) (v := ?_) rfl (by kernel_rfl) (by kernel_rfl) (by kernel_rfl) (fun _ _ _ h => h) (Or.inl ⟨by kernel_rfl, fun W hSW => by go_simp; try with_reducible rfl⟩) (by assumption) ?_
    try simp only [List.getElem_toArray]
    try simp only [List.getElem_cons_succ]
    try simp only [List.getElem_cons_zero]
    try simp only [Act.put]
    try simp only [List.setIfInBounds_toArray]
    try simp only [List.set_cons_succ]
    try simp only [List.set_cons_zero]
    refine wpAnyH_take (i := 3) (v := ?_) rfl (by kernel_rfl) (by kernel_rfl) (by kernel_rfl) (fun _ _ _ h => h) (Or.inl ⟨by kernel_rfl, fun W hSW => by go_simp; try with_reducible rfl⟩) (by assumption) ?_
    try simp only [List.getElem_toArray]
    try simp only [List.getElem_cons_succ]
    try simp only [List.getElem_cons_zero]
    try simp only [Act.put]
    try simp only [List.setIfInBounds_toArray]
    try simp only [List.set_cons_succ]
    try simp only [List.set_cons_zero]
    refine wpAnyH_take (i := 4) (v := ?_) rfl (by kernel_rfl) (by kernel_rfl) (by kernel_rfl) (fun _ _ _ h => h) (Or.inl ⟨by kernel_rfl, fun W hSW => by go_simp; try with_reducible rfl⟩) (by assumption) ?_
    try simp only [List.getElem_toArray]
    try simp only [List.getElem_cons_succ]
    try simp only [List.getElem_cons_zero]
    try simp only [Act.put]
    try simp only [List.setIfInBounds_toArray]
    try simp only [List.set_cons_succ]
    try simp only [List.set_cons_zero]
    refine wpAnyH_take (i := 7) (v := ?_) rfl (by kernel_rfl) (by kernel_rfl) (by kernel_rfl) (fun _ _ _ h => h) (Or.inl ⟨by kernel_rfl, fun W hSW => by go_simp; try with_reducible rfl⟩) (by assumption) ?_
    try simp only [List.getElem_toArray]
    try simp only [List.getElem_cons_succ]
    try simp only [List.getElem_cons_zero]
    try simp only [Act.put]
    try simp only [List.setIfInBounds_toArray]
    try simp only [List.set_cons_succ]
    try simp only [List.set_cons_zero]
    refine wpAnyH_ready (rs := [5]) (by kernel_rfl) (by simp) ?_
    refine AllReadyH.cons rfl (fun K hK => ?_) AllReadyH.nil
    go_simp
    refine (HMK.out _ (HTA.out.kept (k1.out.trans hK5.out).drew).t).mono ?_
    rintro e w6 ⟨rfl, hb6⟩
    have hK6 : Kept (fun _ => False) w5 w6 := (Kept.refl _ w5).drew.trans (kept_of hb6)
    refine hK.out _ _ ((k1.out.trans hK5.out).trans hK6) (fun _ => ?_)
    clear hK K
    try simp only [List.getElem_toArray]
    try simp only [List.getElem_cons_succ]
    try simp only [List.getElem_cons_zero]
    try simp only [Act.put]
    try simp only [List.setIfInBounds_toArray]
    try simp only [List.set_cons_succ]
    try simp only [List.set_cons_zero]
    refine wpAnyH_take (i := 6) (v := ?_) rfl (by kernel_rfl) (by kernel_rfl) (by kernel_rfl) (fun _ _ _ h => h) (Or.inl ⟨by kernel_rfl, fun W hSW => by go_simp; try with_reducible rfl⟩) (by assumption) ?_
    try simp only [List.getElem_toArray]
    try simp only [List.getElem_cons_succ]
    try simp only [List.getElem_cons_zero]
    try simp only [Act.put]
    try simp only [List.setIfInBounds_toArray]
    try simp only [List.set_cons_succ]
    try simp only [List.set_cons_zero]
    refine wpAnyH_ready (rs := [8]) (by kernel_rfl) (by simp) ?_
    refine AllReadyH.cons rfl (fun K hK => ?_) AllReadyH.nil
    go_simp
    have hK7 : Kept (fun _ => False) w5 (w6.alloc (.cells #[.int .i64 257, .string ⟨#[]⟩, .int .i64 260, .string mk10, .int .i64 259, .string ⟨#[117]⟩] 53)) := hK6.alloc _
    have tg7 : TagsAt (w6.alloc (.cells #[.int .i64 257, .string ⟨#[]⟩, .int .i64 260, .string mk10, .int .i64 259, .string ⟨#[117]⟩] 53)) (.slice (some ⟨w6.heap.size, 0, none⟩) 3 3) (padrTags uB mk10) := (own_three w6 0 (Nat.zero_le _) 257 eB 260 mk10 259 uB).tags
    refine hK.out _ _ ((k1.out.trans hK5.out).trans hK7) (fun _ => ?_)
    clear hK K
    try simp only [List.getElem_toArray]
    try simp only [List.getElem_cons_succ]
    try simp only [List.getElem_cons_zero]
    try simp only [Act.put]
    try simp only [List.setIfInBounds_toArray]
    try simp only [List.set_cons_succ]
    try simp only [List.set_cons_zero]
    generalize w6.alloc (.cells #[.int .i64 257, .string ⟨#[]⟩, .int .i64 260, .string mk10, .int .i64 259, .string ⟨#[117]⟩] 53) = w7 at *
    refine wpAnyH_ready (rs := [9]) (by kernel_rfl) (by simp) ?_
    refine AllReadyH.cons rfl (fun K hK => ?_) AllReadyH.nil
    go_simp
    refine (HA2.out _ _ tg7).mono ?_
    rintro e w8 ⟨rfl, hk8⟩
    have hK8 : Kept (fun _ => False) w5 w8 := hK7.trans hk8
    refine hK.out _ _ ((k1.out.trans hK5.out).trans hK8) (fun _ => ?_)
    clear hK K
    try simp only [List.getElem_toArray]
    try simp only [List.getElem_cons_succ]
    try simp only [List.getElem_cons_zero]
    try simp only [Act.put]
    try simp only [List.setIfInBounds_toArray]
    try simp only [List.set_cons_succ]
    try simp only [List.set_cons_zero]
    refine wpAnyH_ready (rs := [10]) (by kernel_rfl) (by simp) ?_
    refine AllReadyH.cons rfl (fun K hK => ?_) AllReadyH.nil
    go_simp
    refine (HP2.out _ _ _ (HA1'.out.kept0 (hK5.out.trans hK8)) (HTA.out.kept ((k1.out.trans hK5.out).trans hK8))).mono ?_
    rintro e w9 ⟨u9, rfl, ho9, hn9⟩
    have hKA9 : Kept (fun _ => False) wA w9 := ((k1.out.trans hK5.out).trans hK8).andThen hn9.kept (fun i hi h => by have := HS1.out i h; omega)
    have hc9 : ∀ j u, j < 14 → (frList f1)[j]? = some u → w9.cell? ⟨g5, j, none⟩ = some u := fun j u hj hu => by
      have h := HC5.out j u hj hu
      have h2 := (hK8.cell (p := ⟨g5, j, none⟩) (lt_of_cell h) id).trans h
      exact (hn9.kept.cell (p := ⟨g5, j, none⟩) (lt_of_cell h2) HG5.out).trans h2
    obtain ⟨g9, c9, rfl, hcc9, _⟩ := OwnE.first ho9
    refine hK.out _ _ (hKA9) (fun _ => ?_)
    clear hK K
    try simp only [List.getElem_toArray]
    try simp only [List.getElem_cons_succ]
    try simp only [List.getElem_cons_zero]
    try simp only [Act.put]
    try simp only [List.setIfInBounds_toArray]
    try simp only [List.set_cons_succ]
    try simp only [List.set_cons_zero]
    refine wpAnyH_take (i := 11) (v := ?_) rfl (by kernel_rfl) (by kernel_rfl) (by kernel_rfl) (fun _ _ _ h => h) (Or.inl ⟨by kernel_rfl, fun W hSW => by go_simp; try with_reducible rfl⟩) (by assumption) ?_
    try simp only [List.getElem_toArray]
    try simp only [List.getElem_cons_succ]
    try simp only [List.getElem_cons_zero]
    try simp only [Act.put]
    try simp only [List.setIfInBounds_toArray]
    try simp only [List.set_cons_succ]
    try simp only [List.set_cons_zero]
    refine wpAnyH_done (by kernel_rfl) ?_ _
    obtain ⟨S2, hA2, _, _⟩ := id hn9
    have HK9 := hid hKA9
    have HC9 := hid hc9
    clear ho9 hn9 hK8 hk8 tg7 hK7 hK6 hb6 hc9
    go_wp2_with fail
    refine (HLV.out _ _ _ hA2).mono ?_
    rintro e w10 ⟨v10, L, rfl, hp, _, ha, hk10⟩
    obtain rfl : L = [x1] := List.perm_singleton.1 hp
    rcases ha with ⟨h0, _⟩ | ⟨g10, c10, rfl, hcap10, hcl⟩
    · cases h0
    · have hcl1 := hcl 0 x1 rfl
      have HKA := hid (HK9.out.trans hk10)
      have hdst : frList f1 = [.int .u8 1, .int .u8 0, .int .u8 0, .int .u8 0, .int .u8 0, .int .u8 0] ++ (Lib.byteCells f1.src ++ [.int .i64 f1.type, .string f1.data]) := by unfold frList; rw [hf1]; rfl
      rw [hdst] at HC9
      have y5 : ∀ j u, [Value.int .u8 1, Value.int .u8 0, Value.int .u8 0, Value.int .u8 0, Value.int .u8 0, Value.int .u8 0][j]? = some u → w10.cell? ⟨g5, j, none⟩ = some u := fun j u hj => by
        have hlt : j < 6 := by have := (List.getElem?_eq_some_iff.1 hj).1; simpa using this
        have h := HC9.out j u (by omega) (by rw [List.getElem?_append_left (by simpa using hlt)]; exact hj)
        exact (hk10.cell (p := ⟨g5, j, none⟩) (lt_of_cell h) id).trans h
      have a0 : ∀ W, IsW w10.drew W → W.cell? ⟨g5, 0, none⟩ = some (.int .u8 1) := fun W h => by rw [show W = w10.drew from h]; exact y5 0 _ rfl
      have a1 : ∀ W, IsW w10.drew W → W.cell? ⟨g5, 1, none⟩ = some (.int .u8 0) := fun W h => by rw [show W = w10.drew from h]; exact y5 1 _ rfl
      have a2 : ∀ W, IsW w10.drew W → W.cell? ⟨g5, 2, none⟩ = some (.int .u8 0) := fun W h => by rw [show W = w10.drew from h]; exact y5 2 _ rfl
      have a3 : ∀ W, IsW w10.drew W → W.cell? ⟨g5, 3, none⟩ = some (.int .u8 0) := fun W h => by rw [show W = w10.drew from h]; exact y5 3 _ rfl
      have a4 : ∀ W, IsW w10.drew W → W.cell? ⟨g5, 4, none⟩ = some (.int .u8 0) := fun W h => by rw [show W = w10.drew from h]; exact y5 4 _ rfl
      have a5 : ∀ W, IsW w10.drew W → W.cell? ⟨g5, 5, none⟩ = some (.int .u8 0) := fun W h => by rw [show W = w10.drew from h]; exact y5 5 _ rfl
      have e0 : ∀ W, IsW w10.drew W → W.cell? ⟨g10, 0, none⟩ = some (.int .u8 1) := fun W h => by rw [show W = w10.drew from h]; exact hcl1 0 _ rfl
      have e1 : ∀ W, IsW w10.drew W → W.cell? ⟨g10, 1, none⟩ = some (.int .u8 0) := fun W h => by rw [show W = w10.drew from h]; exact hcl1 1 _ rfl
      have e2 : ∀ W, IsW w10.drew W → W.cell? ⟨g10, 2, none⟩ = some (.int .u8 0) := fun W h => by rw [show W = w10.drew from h]; exact hcl1 2 _ rfl
      have e3 : ∀ W, IsW w10.drew W → W.cell? ⟨g10, 3, none⟩ = some (.int .u8 0) := fun W h => by rw [show W = w10.drew from h]; exact hcl1 3 _ rfl
      have e4 : ∀ W, IsW w10.drew W → W.cell? ⟨g10, 4, none⟩ = some (.int .u8 0) := fun W h => by rw [show W = w10.drew from h]; exact hcl1 4 _ rfl
      have e5 : ∀ W, IsW w10.drew W → W.cell? ⟨g10, 5, none⟩ = some (.int .u8 0) := fun W h => by rw [show W = w10.drew from h]; exact hcl1 5 _ rfl
      have e6 : ∀ W, IsW w10.drew W → W.cell? ⟨g10, 6, none⟩ = some (.int .i64 1) := fun W h => by rw [show W = w10.drew from h]; exact hcl1 6 _ rfl
      have e7 : ∀ W, IsW w10.drew W → W.cell? ⟨g10, 7, none⟩ = some (.string ⟨#[117]⟩) := fun W h => by rw [show W = w10.drew from h]; exact hcl1 7 _ rfl
      have s0 : ∀ W, IsW w10.drew W → W.cell? ⟨w.heap.size + 1, 0, none⟩ = some (.int .u8 1) := fun W h => by rw [show W = w10.drew from h]; exact r0 _ HKA.out.drew
      have s1 : ∀ W, IsW w10.drew W → W.cell? ⟨w.heap.size + 1, 1, none⟩ = some (.int .u8 0) := fun W h => by rw [show W = w10.drew from h]; exact r1 _ HKA.out.drew
      have s2 : ∀ W, IsW w10.drew W → W.cell? ⟨w.heap.size + 1, 2, none⟩ = some (.int .u8 0) := fun W h => by rw [show W = w10.drew from h]; exact r2 _ HKA.out.drew
      have s3 : ∀ W, IsW w10.drew W → W.cell? ⟨w.heap.size + 1, 3, none⟩ = some (.int .u8 0) := fun W h => by rw [show W = w10.drew from h]; exact r3 _ HKA.out.drew
      have s4 : ∀ W, IsW w10.drew W → W.cell? ⟨w.heap.size + 1, 4, none⟩ = some (.int .u8 0) := fun W h => by rw [show W = w10.drew from h]; exact r4 _ HKA.out.drew
      have s5 : ∀ W, IsW w10.drew W → W.cell? ⟨w.heap.size + 1, 5, none⟩ = some (.int .u8 0) := fun W h => by rw [show W = w10.drew from h]; exact r5 _ HKA.out.drew
      clear r0 r1 r2 r3 r4 r5 p0 p1 p2 p3 p4 p5 HC9 HC5 hcl hcl1 y5 hdst
      go_wp2
      refine wp_region_held_drew (S := IsW w10.drew) (by kernel_rfl) (rfl) (fun hSd => ?_)
      refine wpAnyH_take (i := 0) (v := ?_) rfl (by kernel_rfl) (by kernel_rfl) (by kernel_rfl) (fun _ _ _ h => h) (Or.inl ⟨by kernel_rfl, fun W hSW => by go_simp; try with_reducible rfl⟩) (by assumption) ?_
      try simp only [List.getElem_toArray]
      try simp only [List.getElem_cons_succ]
      try simp only [List.getElem_cons_zero]
      try simp only [Act.put]
      try simp only [List.setIfInBounds_toArray]
      try simp only [List.set_cons_succ]
      try simp only [List.set_cons_zero]
      refine wpAnyH_take (i := 1) (v := ?_) rfl (by kernel_rfl) (by kernel_rfl) (by kernel_rfl) (fun _ _ _ h => h) (Or.inl ⟨by kernel_rfl, fun W hSW => by go_simp; try with_reducible rfl⟩) (by assumption) ?_
      try simp only [List.getElem_toArray]
      try simp only [List.getElem_cons_succ]
      try simp only [List.getElem_cons_zero]
      try simp only [Act.put]
      try simp only [List.setIfInBounds_toArray]
      try simp only [List.set_cons_succ]
      try simp only [List.set_cons_zero]
      refine wpAnyH_take (i := 2) (v := .bool true) rfl (by kernel_rfl) (by kernel_rfl) (by kernel_rfl) (fun _ _ _ h => h) (Or.inl ⟨by kernel_rfl, fun W hSW => by go_simp; try with_reducible rfl⟩) (by assumption) ?_
      try simp only [List.getElem_toArray]
      try simp only [List.getElem_cons_succ]
      try simp only [List.getElem_cons_zero]
      try simp only [Act.put]
      try simp only [List.setIfInBounds_toArray]
      try simp only [List.set_cons_succ]
      try simp only [List.set_cons_zero]
      refine wpAnyH_take (i := 3) (v := .bool true) rfl (by kernel_rfl) (by kernel_rfl) (by kernel_rfl) (fun _ _ _ h => h) (Or.inl ⟨by kernel_rfl, fun W hSW => by go_simp; try with_reducible rfl⟩) (by assumption) ?_
      try simp only [List.getElem_toArray]
      try simp only [List.getElem_cons_succ]
      try simp only [List.getElem_cons_zero]
      try simp only [Act.put]
      try simp only [List.setIfInBounds_toArray]
      try simp only [List.set_cons_succ]
      try simp only [List.set_cons_zero]
      refine wpAnyH_take (i := 4) (v := ?_) rfl (by kernel_rfl) (by kernel_rfl) (by kernel_rfl) (fun _ _ _ h => h) (Or.inl ⟨by kernel_rfl, fun W hSW => by go_simp; try with_reducible rfl⟩) (by assumption) ?_
      try simp only [List.getElem_toArray]
      try simp only [List.getElem_cons_succ]
      try simp only [List.getElem_cons_zero]
      try simp only [Act.put]
      try simp only [List.setIfInBounds_toArray]
      try simp only [List.set_cons_succ]
      try simp only [List.set_cons_zero]
      refine wpAnyH_take (i := 5) (v := ?_) rfl (by kernel_rfl) (by kernel_rfl) (by kernel_rfl) (fun _ _ _ h => h) (Or.inl ⟨by kernel_rfl, fun W hSW => by go_simp; try with_reducible rfl⟩) (by assumption) ?_
      try simp only [List.getElem_toArray]
      try simp only [List.getElem_cons_succ]
      try simp only [List.getElem_cons_zero]
      try simp only [Act.put]
      try simp only [List.setIfInBounds_toArray]
      try simp only [List.set_cons_succ]
      try simp only [List.set_cons_zero]
      refine wpAnyH_take (i := 6) (v := ?_) rfl (by kernel_rfl) (by kernel_rfl) (by kernel_rfl) (fun _ _ _ h => h) (Or.inl ⟨by kernel_rfl, fun W hSW => by go_simp; try with_reducible rfl⟩) (by assumption) ?_
      try simp only [List.getElem_toArray]
      try simp only [List.getElem_cons_succ]
      try simp only [List.getElem_cons_zero]
      try simp only [Act.put]
      try simp only [List.setIfInBounds_toArray]
      try simp only [List.set_cons_succ]
      try simp only [List.set_cons_zero]
      refine wpAnyH_take (i := 7) (v := ?_) rfl (by kernel_rfl) (by kernel_rfl) (by kernel_rfl) (fun _ _ _ h => h) (Or.inl ⟨by kernel_rfl, fun W hSW => by go_simp; try with_reducible rfl⟩) (by assumption) ?_
      try simp only [List.getElem_toArray]
      try simp only [List.getElem_cons_succ]
      try simp only [List.getElem_cons_zero]
      try simp only [Act.put]
      try simp only [List.setIfInBounds_toArray]
      try simp only [List.set_cons_succ]
      try simp only [List.set_cons_zero]
      refine wpAnyH_take (i := 8) (v := ?_) rfl (by kernel_rfl) (by kernel_rfl) (by kernel_rfl) (fun _ _ _ h => h) (Or.inl ⟨by kernel_rfl, fun W hSW => by go_simp; try with_reducible rfl⟩) (by assumption) ?_
      try simp only [List.getElem_toArray]
      try simp only [List.getElem_cons_succ]
      try simp only [List.getElem_cons_zero]
      try simp only [Act.put]
      try simp only [List.setIfInBounds_toArray]
      try simp only [List.set_cons_succ]
      try simp only [List.set_cons_zero]
      refine wpAnyH_take (i := 9) (v := .bool true) rfl (by kernel_rfl) (by kernel_rfl) (by kernel_rfl) (fun _ _ _ h => h) (Or.inl ⟨by kernel_rfl, fun W hSW => by go_simp; try with_reducible rfl⟩) (by assumption) ?_
      try simp only [List.getElem_toArray]
      try simp only [List.getElem_cons_succ]
      try simp only [List.getElem_cons_zero]
      try simp only [Act.put]
      try simp only [List.setIfInBounds_toArray]
      try simp only [List.set_cons_succ]
      try simp only [List.set_cons_zero]
      refine wpAnyH_take (i := 10) (v := .bool true) rfl (by kernel_rfl) (by kernel_rfl) (by kernel_rfl) (fun _ _ _ h => h) (Or.inl ⟨by kernel_rfl, fun W hSW => by go_simp; try with_reducible rfl⟩) (by assumption) ?_
      try simp only [List.getElem_toArray]
      try simp only [List.getElem_cons_succ]
      try simp only [List.getElem_cons_zero]
      try simp only [Act.put]
      try simp only [List.setIfInBounds_toArray]
      try simp only [List.set_cons_succ]
      try simp only [List.set_cons_zero]
      refine wpAnyH_take (i := 11) (v := .bool true) rfl (by kernel_rfl) (by kernel_rfl) (by kernel_rfl) (fun _ _ _ h => h) (Or.inl ⟨by kernel_rfl, fun W hSW => by go_simp; try with_reducible rfl⟩) (by assumption) ?_
      try simp only [List.getElem_toArray]
      try simp only [List.getElem_cons_succ]
      try simp only [List.getElem_cons_zero]
      try simp only [Act.put]
      try simp only [List.setIfInBounds_toArray]
      try simp only [List.set_cons_succ]
      try simp only [List.set_cons_zero]
      refine wpAnyH_take (i := 12) (v := ?_) rfl (by kernel_rfl) (by kernel_rfl) (by kernel_rfl) (fun _ _ _ h => h) (Or.inl ⟨by kernel_rfl, fun W hSW => by go_simp; try with_reducible rfl⟩) (by assumption) ?_
      try simp only [List.getElem_toArray]
      try simp only [List.getElem_cons_succ]
      try simp only [List.getElem_cons_zero]
      try simp only [Act.put]
      try simp only [List.setIfInBounds_toArray]
      try simp only [List.set_cons_succ]
      try simp only [List.set_cons_zero]
      refine wpAnyH_take (i := 13) (v := ?_) rfl (by kernel_rfl) (by kernel_rfl) (by kernel_rfl) (fun _ _ _ h => h) (Or.inl ⟨by kernel_rfl, fun W hSW => by go_simp; try with_reducible rfl⟩) (by assumption) ?_
      try simp only [List.getElem_toArray]
      try simp only [List.getElem_cons_succ]
      try simp only [List.getElem_cons_zero]
      try simp only [Act.put]
      try simp only [List.setIfInBounds_toArray]
      try simp only [List.set_cons_succ]
      try simp only [List.set_cons_zero]
      refine wpAnyH_take (i := 14) (v := .bool true) rfl (by kernel_rfl) (by kernel_rfl) (by kernel_rfl) (fun _ _ _ h => h) (Or.inl ⟨by kernel_rfl, fun W hSW => by go_simp; try with_reducible rfl⟩) (by assumption) ?_
      try simp only [List.getElem_toArray]
      try simp only [List.getElem_cons_succ]
      try simp only [List.getElem_cons_zero]
      try simp only [Act.put]
      try simp only [List.setIfInBounds_toArray]
      try simp only [List.set_cons_succ]
      try simp only [List.set_cons_zero]
      refine wpAnyH_take (i := 15) (v := .bool true) rfl (by kernel_rfl) (by kernel_rfl) (by kernel_rfl) (fun _ _ _ h => h) (Or.inl ⟨by kernel_rfl, fun W hSW => by go_simp; try with_reducible rfl⟩) (by assumption) ?_
      try simp only [List.getElem_toArray]
      try simp only [List.getElem_cons_succ]
      try simp only [List.getElem_cons_zero]
      try simp only [Act.put]
      try simp only [List.setIfInBounds_toArray]
      try simp only [List.set_cons_succ]
      try simp only [List.set_cons_zero]
      refine wpAnyH_take (i := 16) (v := .bool true) rfl (by kernel_rfl) (by kernel_rfl) (by kernel_rfl) (fun _ _ _ h => h) (Or.inl ⟨by kernel_rfl, fun W hSW => by go_simp; try with_reducible rfl⟩) (by assumption) ?_
      try simp only [List.getElem_toArray]
      try simp only [List.getElem_cons_succ]
      try simp only [List.getElem_cons_zero]
      try simp only [Act.put]
      try simp only [List.setIfInBounds_toArray]
      try simp only [List.set_cons_succ]
      try simp only [List.set_cons_zero]
      refine wpAnyH_take (i := 17) (v := ?_) rfl (by kernel_rfl) (by kernel_rfl) (by kernel_rfl) (fun _ _ _ h => h) (Or.inl ⟨by kernel_rfl, fun W hSW => by go_simp; try with_reducible rfl⟩) (by assumption) ?_
      try simp only [List.getElem_toArray]
      try simp only [List.getElem_cons_succ]
      try simp only [List.getElem_cons_zero]
      try simp only [Act.put]
      try simp only [List.setIfInBounds_toArray]
      try simp only [List.set_cons_succ]
      try simp only [List.set_cons_zero]
      refine wpAnyH_take (i := 18) (v := ?_) rfl (by kernel_rfl) (by kernel_rfl) (by kernel_rfl) (fun _ _ _ h => h) (Or.inl ⟨by kernel_rfl, fun W hSW => by go_simp; try with_reducible rfl⟩) (by assumption) ?_
      try simp only [List.getElem_toArray]
      try simp only [List.getElem_cons_succ]
      try simp only [List.getElem_cons_zero]
      try simp only [Act.put]
      try simp only [List.setIfInBounds_toArray]
      try simp only [List.set_cons_succ]
      try simp only [List.set_cons_zero]
      refine wpAnyH_take (i := 19) (v := .bool true) rfl (by kernel_rfl) (by kernel_rfl) (by kernel_rfl) (fun _ _ _ h => h) (Or.inl ⟨by kernel_rfl, fun W hSW => by go_simp; try with_reducible rfl⟩) (by assumption) ?_
      try simp only [List.getElem_toArray]
      try simp only [List.getElem_cons_succ]
      try simp only [List.getElem_cons_zero]
      try simp only [Act.put]
      try simp only [List.setIfInBounds_toArray]
      try simp only [List.set_cons_succ]
      try simp only [List.set_cons_zero]
      refine wpAnyH_take (i := 20) (v := .bool true) rfl (by kernel_rfl) (by kernel_rfl) (by kernel_rfl) (fun _ _ _ h => h) (Or.inl ⟨by kernel_rfl, fun W hSW => by go_simp; try with_reducible rfl⟩) (by assumption) ?_
      try simp only [List.getElem_toArray]
      try simp only [List.getElem_cons_succ]
      try simp only [List.getElem_cons_zero]
      try simp only [Act.put]
      try simp only [List.setIfInBounds_toArray]
      try simp only [List.set_cons_succ]
      try simp only [List.set_cons_zero]
      refine wpAnyH_take (i := 21) (v := .bool true) rfl (by kernel_rfl) (by kernel_rfl) (by kernel_rfl) (fun _ _ _ h => h) (Or.inl ⟨by kernel_rfl, fun W hSW => by go_simp; try with_reducible rfl⟩) (by assumption) ?_
      try simp only [List.getElem_toArray]
      try simp only [List.getElem_cons_succ]
      try simp only [List.getElem_cons_zero]
      try simp only [Act.put]
      try simp only [List.setIfInBounds_toArray]
      try simp only [List.set_cons_succ]
      try simp only [List.set_cons_zero]
      refine wpAnyH_take (i := 22) (v := ?_) rfl (by kernel_rfl) (by kernel_rfl) (by kernel_rfl) (fun _ _ _ h => h) (Or.inl ⟨by kernel_rfl, fun W hSW => by go_simp; try with_reducible rfl⟩) (by assumption) ?_
      try simp only [List.getElem_toArray]
      try simp only [List.getElem_cons_succ]
      try simp only [List.getElem_cons_zero]
      try simp only [Act.put]
      try simp only [List.setIfInBounds_toArray]
      try simp only [List.set_cons_succ]
      try simp only [List.set_cons_zero]
      refine wpAnyH_take (i := 23) (v := ?_) rfl (by kernel_rfl) (by kernel_rfl) (by kernel_rfl) (fun _ _ _ h => h) (Or.inl ⟨by kernel_rfl, fun W hSW => by go_simp; try with_reducible rfl⟩) (by assumption) ?_
      try simp only [List.getElem_toArray]
      try simp only [List.getElem_cons_succ]
      try simp only [List.getElem_cons_zero]
      try simp only [Act.put]
      try simp only [List.setIfInBounds_toArray]
      try simp only [List.set_cons_succ]
      try simp only [List.set_cons_zero]
      refine wpAnyH_take (i := 24) (v := ?_) rfl (by kernel_rfl) (by kernel_rfl) (by kernel_rfl) (fun _ _ _ h => h) (Or.inl ⟨by kernel_rfl, fun W hSW => by go_simp; try with_reducible rfl⟩) (by assumption) ?_
      try simp only [List.getElem_toArray]
      try simp only [List.getElem_cons_succ]
      try simp only [List.getElem_cons_zero]
      try simp only [Act.put]
      try simp only [List.setIfInBounds_toArray]
      try simp only [List.set_cons_succ]
      try simp only [List.set_cons_zero]
      refine wpAnyH_take (i := 25) (v := ?_) rfl (by kernel_rfl) (by kernel_rfl) (by kernel_rfl) (fun _ _ _ h => h) (Or.inl ⟨by kernel_rfl, fun W hSW => by go_simp; try with_reducible rfl⟩) (by assumption) ?_
      try simp only [List.getElem_toArray]
      try simp only [List.getElem_cons_succ]
      try simp only [List.getElem_cons_zero]
      try simp only [Act.put]
      try simp only [List.setIfInBounds_toArray]
      try simp only [List.set_cons_succ]
      try simp only [List.set_cons_zero]
      refine wpAnyH_take (i := 26) (v := ?_) rfl (by kernel_rfl) (by kernel_rfl) (by kernel_rfl) (fun _ _ _ h => h) (Or.inl ⟨by kernel_rfl, fun W hSW => by go_simp; try with_reducible rfl⟩) (by assumption) ?_
      try simp only [List.getElem_toArray]
      try simp only [List.getElem_cons_succ]
      try simp only [List.getElem_cons_zero]
      try simp only [Act.put]
      try simp only [List.setIfInBounds_toArray]
      try simp only [List.set_cons_succ]
      try simp only [List.set_cons_zero]
      refine wpAnyH_take (i := 27) (v := .bool true) rfl (by kernel_rfl) (by kernel_rfl) (by kernel_rfl) (fun _ _ _ h => h) (Or.inl ⟨by kernel_rfl, fun W hSW => by go_simp; try with_reducible rfl⟩) (by assumption) ?_
      try simp only [List.getElem_toArray]
      try simp only [List.getElem_cons_succ]
      try simp only [List.getElem_cons_zero]
      try simp only [Act.put]
      try simp only [List.setIfInBounds_toArray]
      try simp only [List.set_cons_succ]
      try simp only [List.set_cons_zero]
      refine wpAnyH_take (i := 28) (v := .bool true) rfl (by kernel_rfl) (by kernel_rfl) (by kernel_rfl) (fun _ _ _ h => h) (Or.inl ⟨by kernel_rfl, fun W hSW => by go_simp; try with_reducible rfl⟩) (by assumption) ?_
      try simp only [List.getElem_toArray]
      try simp only [List.getElem_cons_succ]
      try simp only [List.getElem_cons_zero]
      try simp only [Act.put]
      try simp only [List.setIfInBounds_toArray]
      try simp only [List.set_cons_succ]
      try simp only [List.set_cons_zero]
      refine wpAnyH_take (i := 29) (v := .bool true) rfl (by kernel_rfl) (by kernel_rfl) (by kernel_rfl) (fun _ _ _ h => h) (Or.inl ⟨by kernel_rfl, fun W hSW => by go_simp; try with_reducible rfl⟩) (by assumption) ?_
      try simp only [List.getElem_toArray]
      try simp only [List.getElem_cons_succ]
      try simp only [List.getElem_cons_zero]
      try simp only [Act.put]
      try simp only [List.setIfInBounds_toArray]
      try simp only [List.set_cons_succ]
      try simp only [List.set_cons_zero]
      refine wpAnyH_take (i := 30) (v := ?_) rfl (by kernel_rfl) (by kernel_rfl) (by kernel_rfl) (fun _ _ _ h => h) (Or.inl ⟨by kernel_rfl, fun W hSW => by go_simp; try with_reducible rfl⟩) (by assumption) ?_
      try simp only [List.getElem_toArray]
      try simp only [List.getElem_cons_succ]
      try simp only [List.getElem_cons_zero]
      try simp only [Act.put]
      try simp only [List.setIfInBounds_toArray]
      try simp only [List.set_cons_succ]
      try simp only [List.set_cons_zero]
      refine wpAnyH_take (i := 31) (v := ?_) rfl (by kernel_rfl) (by kernel_rfl) (by kernel_rfl) (fun _ _ _ h => h) (Or.inl ⟨by kernel_rfl, fun W hSW => by go_simp; try with_reducible rfl⟩) (by assumption) ?_
      try simp only [List.getElem_toArray]
      try simp only [List.getElem_cons_succ]
      try simp only [List.getElem_cons_zero]
      try simp only [Act.put]
      try simp only [List.setIfInBounds_toArray]
      try simp only [List.set_cons_succ]
      try simp only [List.set_cons_zero]
      refine wpAnyH_take (i := 32) (v := ?_) rfl (by kernel_rfl) (by kernel_rfl) (by kernel_rfl) (fun _ _ _ h => h) (Or.inl ⟨by kernel_rfl, fun W hSW => by go_simp; try with_reducible rfl⟩) (by assumption) ?_
      try simp only [List.getElem_toArray]
      try simp only [List.getElem_cons_succ]
      try simp only [List.getElem_cons_zero]
      try simp only [Act.put]
      try simp only [List.setIfInBounds_toArray]
      try simp only [List.set_cons_succ]
      try simp only [List.set_cons_zero]
      refine wpAnyH_take (i := 33) (v := ?_) rfl (by kernel_rfl) (by kernel_rfl) (by kernel_rfl) (fun _ _ _ h => h) (Or.inl ⟨by kernel_rfl, fun W hSW => by go_simp; try with_reducible rfl⟩) (by assumption) ?_
      try simp only [List.getElem_toArray]
      try simp only [List.getElem_cons_succ]
      try simp only [List.getElem_cons_zero]
      try simp only [Act.put]
      try simp only [List.setIfInBounds_toArray]
      try simp only [List.set_cons_succ]
      try simp only [List.set_cons_zero]
      refine wpAnyH_take (i := 34) (v := ?_) rfl (by kernel_rfl) (by kernel_rfl) (by kernel_rfl) (fun _ _ _ h => h) (Or.inl ⟨by kernel_rfl, fun W hSW => by go_simp; try with_reducible rfl⟩) (by assumption) ?_
      try simp only [List.getElem_toArray]
      try simp only [List.getElem_cons_succ]
      try simp only [List.getElem_cons_zero]
      try simp only [Act.put]
      try simp only [List.setIfInBounds_toArray]
      try simp only [List.set_cons_succ]
      try simp only [List.set_cons_zero]
      refine wpAnyH_take (i := 35) (v := ?_) rfl (by kernel_rfl) (by kernel_rfl) (by kernel_rfl) (fun _ _ _ h => h) (Or.inl ⟨by kernel_rfl, fun W hSW => by go_simp; try with_reducible rfl⟩) (by assumption) ?_
      try simp only [List.getElem_toArray]
      try simp only [List.getElem_cons_succ]
      try simp only [List.getElem_cons_zero]
      try simp only [Act.put]
      try simp only [List.setIfInBounds_toArray]
      try simp only [List.set_cons_succ]
      try simp only [List.set_cons_zero]
      refine wpAnyH_take (i := 36) (v := .bool true) rfl (by kernel_rfl) (by kernel_rfl) (by kernel_rfl) (fun _ _ _ h => h) (Or.inl ⟨by kernel_rfl, fun W hSW => by go_simp; try with_reducible rfl⟩) (by assumption) ?_
      try simp only [List.getElem_toArray]
      try simp only [List.getElem_cons_succ]
      try simp only [List.getElem_cons_zero]
      try simp only [Act.put]
      try simp only [List.setIfInBounds_toArray]
      try simp only [List.set_cons_succ]
      try simp only [List.set_cons_zero]
      refine wpAnyH_take (i := 37) (v := .bool true) rfl (by kernel_rfl) (by kernel_rfl) (by kernel_rfl) (fun _ _ _ h => h) (Or.inl ⟨by kernel_rfl, fun W hSW => by go_simp; try with_reducible rfl⟩) (by assumption) ?_
      try simp only [List.getElem_toArray]
      try simp only [List.getElem_cons_succ]
      try simp only [List.getElem_cons_zero]
      try simp only [Act.put]
      try simp only [List.setIfInBounds_toArray]
      try simp only [List.set_cons_succ]
      try simp only [List.set_cons_zero]
      refine wpAnyH_take (i := 38) (v := .bool true) rfl (by kernel_rfl) (by kernel_rfl) (by kernel_rfl) (fun _ _ _ h => h) (Or.inl ⟨by kernel_rfl, fun W hSW => by go_simp; try with_reducible rfl⟩) (by assumption) ?_
      try simp only [List.getElem_toArray]
      try simp only [List.getElem_cons_succ]
      try simp only [List.getElem_cons_zero]
      try simp only [Act.put]
      try simp only [List.setIfInBounds_toArray]
      try simp only [List.set_cons_succ]
      try simp only [List.set_cons_zero]
      refine wpAnyH_take (i := 39) (v := ?_) rfl (by kernel_rfl) (by kernel_rfl) (by kernel_rfl) (fun _ _ _ h => h) (Or.inl ⟨by kernel_rfl, fun W hSW => by go_simp; try with_reducible rfl⟩) (by assumption) ?_
      try simp only [List.getElem_toArray]
      try simp only [List.getElem_cons_succ]
      try simp only [List.getElem_cons_zero]
      try simp only [Act.put]
      try simp only [List.setIfInBounds_toArray]
      try simp only [List.set_cons_succ]
      try simp only [List.set_cons_zero]
      refine wpAnyH_take (i := 40) (v := ?_) rfl (by kernel_rfl) (by kernel_rfl) (by kernel_rfl) (fun _ _ _ h => h) (Or.inl ⟨by kernel_rfl, fun W hSW => by go_simp; try with_reducible rfl⟩) (by assumption) ?_
      try simp only [List.getElem_toArray]
      try simp only [List.getElem_cons_succ]
      try simp only [List.getElem_cons_zero]
      try simp only [Act.put]
      try simp only [List.setIfInBounds_toArray]
      try simp only [List.set_cons_succ]
      try simp only [List.set_cons_zero]
      refine wpAnyH_take (i := 41) (v := ?_) rfl (by kernel_rfl) (by kernel_rfl) (by kernel_rfl) (fun _ _ _ h => h) (Or.inl ⟨by kernel_rfl, fun W hSW => by go_simp; try with_reducible rfl⟩) (by assumption) ?_
      try simp only [List.getElem_toArray]
      try simp only [List.getElem_cons_succ]
      try simp only [List.getElem_cons_zero]
      try simp only [Act.put]
      try simp only [List.setIfInBounds_toArray]
      try simp only [List.set_cons_succ]
      try simp only [List.set_cons_zero]
      refine wpAnyH_take (i := 42) (v := ?_) rfl (by kernel_rfl) (by kernel_rfl) (by kernel_rfl) (fun _ _ _ h => h) (Or.inl ⟨by kernel_rfl, fun W hSW => by go_simp; try with_reducible rfl⟩) (by assumption) ?_
      try simp only [List.getElem_toArray]
      try simp only [List.getElem_cons_succ]
      try simp only [List.getElem_cons_zero]
      try simp only [Act.put]
      try simp only [List.setIfInBounds_toArray]
      try simp only [List.set_cons_succ]
      try simp only [List.set_cons_zero]
      refine wpAnyH_take (i := 43) (v := .bool true) rfl (by kernel_rfl) (by kernel_rfl) (by kernel_rfl) (fun _ _ _ h => h) (Or.inl ⟨by kernel_rfl, fun W hSW => by go_simp; try with_reducible rfl⟩) (by assumption) ?_
      try simp only [List.getElem_toArray]
      try simp only [List.getElem_cons_succ]
      try simp only [List.getElem_cons_zero]
      try simp only [Act.put]
      try simp only [List.setIfInBounds_toArray]
      try simp only [List.set_cons_succ]
      try simp only [List.set_cons_zero]
      refine wpAnyH_take (i := 44) (v := .bool true) rfl (by kernel_rfl) (by kernel_rfl) (by kernel_rfl) (fun _ _ _ h => h) (Or.inl ⟨by kernel_rfl, fun W hSW => by go_simp; try with_reducible rfl⟩) (by assumption) ?_
      try simp only [List.getElem_toArray]
      try simp only [List.getElem_cons_succ]
      try simp only [List.getElem_cons_zero]
      try simp only [Act.put]
      try simp only [List.setIfInBounds_toArray]
      try simp only [List.set_cons_succ]
      try simp only [List.set_cons_zero]
      refine wpAnyH_take (i := 45) (v := .bool true) rfl (by kernel_rfl) (by kernel_rfl) (by kernel_rfl) (fun _ _ _ h => h) (Or.inl ⟨by kernel_rfl, fun W hSW => by go_simp; try with_reducible rfl⟩) (by assumption) ?_
      try simp only [List.getElem_toArray]
      try simp only [List.getElem_cons_succ]
      try simp only [List.getElem_cons_zero]
      try simp only [Act.put]
      try simp only [List.setIfInBounds_toArray]
      try simp only [List.set_cons_succ]
      try simp only [List.set_cons_zero]
      refine wpAnyH_done (by kernel_rfl) ?_ _
      go_wp2
      go_ret
      exact ⟨rfl, kA.out.trans HKA.out.drew⟩
end Go.Proofs.YtgaamehjdoakhaaDoor
