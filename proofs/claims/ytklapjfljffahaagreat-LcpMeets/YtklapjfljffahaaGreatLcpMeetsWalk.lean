/- The walk of LcpMeets. -/
import Derived.Test.YtklapjfljffahaaGreatLpUp
import Derived.Deep.RegionHeldLaw
namespace Go.Proofs.YtklapjfljffahaaGreat
open Go.RowKit

def cX (c : Cf) : Cf := ⟨c.mru, c.auth, c.magic, c.echo, 10, 2, 10, 3⟩
def cY (c : Cf) : Cf := ⟨c.mru, 0, c.magic, c.echo, 10, 2, 10, 3⟩
/-- New, whatever comes of it. -/
def NewOut (W W' : World) (e : Ending) (r : Int) : Prop := ∃ q, e = .returned (.tuple #[.pointer q, .int .i64 r]) ∧ Kept (fun _ => False) W W'
theorem newOut (c : Cf) (hcf : 1 ≤ c.cf ∧ c.cf ≤ 20) (htm : 1 ≤ c.tm ∧ c.tm ≤ 20) (hf : 0 ≤ c.fails ∧ c.fails ≤ 20) (hw : 1 ≤ c.wait ∧ c.wait ≤ 100) : ∃ r : Int, (GoodC c → r = 0) ∧ (¬ GoodC c → r = 1) ∧ ∀ (tb cap : Nat) (tp : Option Addr) (rest : List Int) (W : World), Tp.IsTape W tb tp cap rest 0 → Calls Tryz.prog 19 #[cfV c, .pointer (some ⟨tb, 0, none⟩)] W fun e w' => NewOut W w' e r := by
  by_cases h : GoodC c
  · exact ⟨0, fun _ => rfl, fun h' => absurd h h', fun tb cap tp rest W ht => (lcpNew_some c h hcf htm hf hw tb cap 0 tp rest 0 W (Nat.zero_le _) ht (Nat.zero_le _) (fun _ _ => Nat.zero_le _)).mono fun _ _ ⟨b, m, h1, _, h2, _⟩ => ⟨_, h1, h2⟩⟩
  · exact ⟨1, fun h' => absurd h' h, fun _ => rfl, fun tb cap tp rest W _ => (lcpNew_bad c h _ W).mono fun _ _ ⟨h1, h2⟩ => ⟨_, h1, h2⟩⟩

set_option maxHeartbeats 16000000 in
set_option maxRecDepth 100000 in
theorem lcpMeets_walk (a c : Cf) (v : Value) (d : List Int) (w : World) (hd : IntsAt w v d ∧ ∀ y ∈ d, In64 y) :
    Calls Tryz.prog 4 #[cfV a, cfV c, v] w fun e w' => e = .returned (.bool true) ∧ Below w.heap.size w w' := by
  have Ha := hid lawAlive_any
  have HD := hid hd.1
  obtain ⟨pv, cv, hv, _⟩ := hd.1.form
  subst hv
  clear hd
  have K0 := hid (((Kept.refl (fun _ => False) w).alloc (.cells #[.int .i64 a.mru, .int .i64 a.auth, .int .i64 a.magic, .int .i64 a.echo, .int .i64 10, .int .i64 2, .int .i64 10, .int .i64 3] 43)).alloc (.cells #[.int .i64 c.mru, .int .i64 0, .int .i64 c.magic, .int .i64 c.echo, .int .i64 10, .int .i64 2, .int .i64 10, .int .i64 3] 43))
  have C0 := hid ((CfgAt.new w (cX a)).kept0 ((Kept.refl (fun _ => False) _).alloc (.cells #[.int .i64 c.mru, .int .i64 0, .int .i64 c.magic, .int .i64 c.echo, .int .i64 10, .int .i64 2, .int .i64 10, .int .i64 3] 43)))
  have C1 := hid (CfgAt.new (w.alloc (.cells #[.int .i64 a.mru, .int .i64 a.auth, .int .i64 a.magic, .int .i64 a.echo, .int .i64 10, .int .i64 2, .int .i64 10, .int .i64 3] 43)) (cY c))
  have hs1 : (w.alloc (.cells #[.int .i64 a.mru, .int .i64 a.auth, .int .i64 a.magic, .int .i64 a.echo, .int .i64 10, .int .i64 2, .int .i64 10, .int .i64 3] 43)).heap.size = w.heap.size + 1 := by simp
  rw [hs1] at C1
  clear hs1
  simp only [show (cX a).mru = a.mru from rfl, show (cX a).auth = a.auth from rfl, show (cX a).magic = a.magic from rfl, show (cX a).echo = a.echo from rfl, show (cX a).cf = 10 from rfl, show (cX a).tm = 2 from rfl, show (cX a).fails = 10 from rfl, show (cX a).wait = 3 from rfl, show (cY c).mru = c.mru from rfl, show (cY c).auth = 0 from rfl, show (cY c).magic = c.magic from rfl, show (cY c).echo = c.echo from rfl, show (cY c).cf = 10 from rfl, show (cY c).tm = 2 from rfl, show (cY c).fails = 10 from rfl, show (cY c).wait = 3 from rfl] at C0 C1
  unfold cfV
  go_enter Tryz.func4, Tryz.ntmps4
  go_upto_region 3 with fail
  generalize ((w.alloc (.cells #[.int .i64 a.mru, .int .i64 a.auth, .int .i64 a.magic, .int .i64 a.echo, .int .i64 10, .int .i64 2, .int .i64 10, .int .i64 3] 43)).alloc (.cells #[.int .i64 c.mru, .int .i64 0, .int .i64 c.magic, .int .i64 c.echo, .int .i64 10, .int .i64 2, .int .i64 10, .int .i64 3] 43)) = A at *
  generalize hr0 : w.heap.size = r0 at C0 C1 ⊢
  have HR0 := hid hr0
  clear hr0
  generalize hr1 : r0 + 1 = r1 at C1 ⊢
  clear hr1
  have x2 : A.cell? ⟨r0, 2, none⟩ = some (.int .i64 a.magic) := C0.out 2 _ rfl
  have y2 : A.cell? ⟨r1, 2, none⟩ = some (.int .i64 c.magic) := C1.out 2 _ rfl
  by_cases hm : a.magic ≠ c.magic ∧ d.length ≤ 100
  case neg =>
    have hcase : (a.magic == c.magic) = true ∨ ((a.magic == c.magic) = false ∧ (100 : Int) < (d.length : Int)) := by
      by_cases h : a.magic = c.magic
      · exact Or.inl (by simpa using h)
      · exact Or.inr ⟨by simpa using h, by have : ¬ d.length ≤ 100 := fun h' => hm ⟨h, h'⟩; omega⟩
    clear hm
    rcases hcase with h1 | ⟨h1, h2⟩
    all_goals
      go_wp2_with fail
      refine (Ha.out _).mono ?_
      rintro e w2 ⟨rfl, hk2⟩
      have K2 := hid (K0.out.trans hk2)
      clear hk2
      go_wp2
      go_ret
      exact ⟨rfl, below_kept K2.out⟩
  obtain ⟨hm1, hm2⟩ := hm
  have h1 : (a.magic == c.magic) = false := by simpa using hm1
  have h2 : ¬ (100 : Int) < (d.length : Int) := by omega
  have HNe := hid hm1
  have HDl := hid hm2
  clear hm1 hm2
  go_upto_region 5 with fail
  clear x2 y2 h1 h2
  have HTp : Hid (∀ W, Kept (fun _ => False) w W → Calls Tryz.prog 20 #[.slice pv d.length cv] W fun e w' => Tp.NewTape W w' e d) := fun W k => by
    rcases HD.out with ⟨e1, rfl⟩ | ⟨ad, cap, e1, _, _, hc⟩
    · simp only [List.length_nil] at e1 ⊢
      rw [e1]
      exact Tp.new_nil W
    · rw [e1]
      exact Tp.new_some ad cap d (by have := HDl.out; omega) W (fun j u hj => (k.cell (lt_of_cell (hc j u hj)) id).trans (hc j u hj))
  by_cases hg : GoodC (cX a) ∧ GoodC (cY c)
  case neg =>
    obtain ⟨ex, hx1, hx2, hx3⟩ := newOut (cX a) ⟨by simp [cX], by simp [cX]⟩ ⟨by simp [cX], by simp [cX]⟩ ⟨by simp [cX], by simp [cX]⟩ ⟨by simp [cX], by simp [cX]⟩
    obtain ⟨ey, hy1, hy2, hy3⟩ := newOut (cY c) ⟨by simp [cY], by simp [cY]⟩ ⟨by simp [cY], by simp [cY]⟩ ⟨by simp [cY], by simp [cY]⟩ ⟨by simp [cY], by simp [cY]⟩
    have hcase : (ex != 0) = true ∨ ((ex != 0) = false ∧ (ey != 0) = true) := by
      by_cases h : GoodC (cX a)
      · exact Or.inr ⟨by rw [hx1 h]; rfl, by rw [hy2 (fun h' => hg ⟨h, h'⟩)]; rfl⟩
      · exact Or.inl (by rw [hx2 h]; rfl)
    have HX := hid hx3
    have HY := hid hy3
    unfold cfV at HX HY
    simp only [show (cX a).mru = a.mru from rfl, show (cX a).auth = a.auth from rfl, show (cX a).magic = a.magic from rfl, show (cX a).echo = a.echo from rfl, show (cX a).cf = 10 from rfl, show (cX a).tm = 2 from rfl, show (cX a).fails = 10 from rfl, show (cX a).wait = 3 from rfl, show (cY c).mru = c.mru from rfl, show (cY c).auth = 0 from rfl, show (cY c).magic = c.magic from rfl, show (cY c).echo = c.echo from rfl, show (cY c).cf = 10 from rfl, show (cY c).tm = 2 from rfl, show (cY c).fails = 10 from rfl, show (cY c).wait = 3 from rfl] at HX HY
    clear hx1 hx2 hx3 hy1 hy2 hy3 hg
    have B0 : CfgK A r0 (cX a) A.drew := ⟨(C0.out).kept0 ((Kept.refl _ _).drew), (Kept.refl _ _).drew⟩
    have x0 : ∀ W, CfgK A r0 (cX a) W → W.cell? ⟨r0, 0, none⟩ = some (.int .i64 a.mru) := fun W h => h.at_ 0 _ rfl
    have x1 : ∀ W, CfgK A r0 (cX a) W → W.cell? ⟨r0, 1, none⟩ = some (.int .i64 a.auth) := fun W h => h.at_ 1 _ rfl
    have x2 : ∀ W, CfgK A r0 (cX a) W → W.cell? ⟨r0, 2, none⟩ = some (.int .i64 a.magic) := fun W h => h.at_ 2 _ rfl
    have x3 : ∀ W, CfgK A r0 (cX a) W → W.cell? ⟨r0, 3, none⟩ = some (.int .i64 a.echo) := fun W h => h.at_ 3 _ rfl
    have x4 : ∀ W, CfgK A r0 (cX a) W → W.cell? ⟨r0, 4, none⟩ = some (.int .i64 10) := fun W h => h.at_ 4 _ rfl
    have x5 : ∀ W, CfgK A r0 (cX a) W → W.cell? ⟨r0, 5, none⟩ = some (.int .i64 2) := fun W h => h.at_ 5 _ rfl
    have x6 : ∀ W, CfgK A r0 (cX a) W → W.cell? ⟨r0, 6, none⟩ = some (.int .i64 10) := fun W h => h.at_ 6 _ rfl
    have x7 : ∀ W, CfgK A r0 (cX a) W → W.cell? ⟨r0, 7, none⟩ = some (.int .i64 3) := fun W h => h.at_ 7 _ rfl
    refine wp_region_held_drew (S := CfgK A r0 (cX a)) (by kernel_rfl) (B0) (fun hSd => ?_)
    refine wpAnyH_take (i := 0) (v := ?_) rfl (by kernel_rfl) (by kernel_rfl) (by kernel_rfl) (fun _ _ _ h => h) (Or.inl ⟨by kernel_rfl, fun W hSW => by go_simp; try with_reducible rfl⟩) (by assumption) ?_
    try simp only [List.getElem_toArray]
    try simp only [List.getElem_cons_succ]
    try simp only [List.getElem_cons_zero]
    try simp only [Act.put]
    try simp only [List.setIfInBounds_toArray]
    try simp only [List.set_cons_succ]
    try simp only [List.set_cons_zero]
    refine wpAnyH_take (i := 1) (v := ?_) rfl (by kernel_rfl) (by kernel_rfl) (by kernel_rfl) (fun _ _ _ h => h) (Or.inl ⟨by kernel_rfl, fun W hSW => by go_simp; try with_reducible rfl⟩) (by assumption) ?_
    try simp only [List.getElem_toArray]
    try simp only [List.getElem_cons_succ]
    try simp only [List.getElem_cons_zero]
    try simp only [Act.put]
    try simp only [List.setIfInBounds_toArray]
    try simp only [List.set_cons_succ]
    try simp only [List.set_cons_zero]
    refine wpAnyH_ready (rs := [2]) (by kernel_rfl) (by simp) ?_
    refine AllReadyH.cons rfl (fun K hK => ?_) AllReadyH.nil
    go_simp
    refine (HTp.out _ ((K0.out).trans ((Kept.refl _ _).drew))).mono ?_
    rintro e w2 ⟨tb, tp, cap, rfl, htb, hon, hT, hk2⟩
    have B2 := CfgK.kept B0 hk2
    have hsd : A.drew.heap.size = A.heap.size := rfl
    have hkd := hk2.size
    have HN := hid (HX.out tb cap tp d w2 hT)
    clear htb hon hT hk2 hkd
    refine hK.out _ _ (B2) (fun _ => ?_)
    clear hK K
    try simp only [List.getElem_toArray]
    try simp only [List.getElem_cons_succ]
    try simp only [List.getElem_cons_zero]
    try simp only [Act.put]
    try simp only [List.setIfInBounds_toArray]
    try simp only [List.set_cons_succ]
    try simp only [List.set_cons_zero]
    refine wpAnyH_ready (rs := [3]) (by kernel_rfl) (by simp) ?_
    refine AllReadyH.cons rfl (fun K hK => ?_) AllReadyH.nil
    go_simp
    refine HN.out.mono ?_
    rintro e w3 ⟨qx, rfl, hk3⟩
    have B3 := CfgK.kept B2 hk3
    have K2 := hid B2.k
    have K3 := hid hk3
    clear hk3 HN
    refine hK.out _ _ (B3) (fun _ => ?_)
    clear hK K
    try simp only [List.getElem_toArray]
    try simp only [List.getElem_cons_succ]
    try simp only [List.getElem_cons_zero]
    try simp only [Act.put]
    try simp only [List.setIfInBounds_toArray]
    try simp only [List.set_cons_succ]
    try simp only [List.set_cons_zero]
    refine wpAnyH_take (i := 4) (v := ?_) rfl (by kernel_rfl) (by kernel_rfl) (by kernel_rfl) (fun _ _ _ h => h) (Or.inl ⟨by kernel_rfl, fun W hSW => by go_simp; try with_reducible rfl⟩) (by assumption) ?_
    try simp only [List.getElem_toArray]
    try simp only [List.getElem_cons_succ]
    try simp only [List.getElem_cons_zero]
    try simp only [Act.put]
    try simp only [List.setIfInBounds_toArray]
    try simp only [List.set_cons_succ]
    try simp only [List.set_cons_zero]
    refine wpAnyH_take (i := 5) (v := ?_) rfl (by kernel_rfl) (by kernel_rfl) (by kernel_rfl) (fun _ _ _ h => h) (Or.inl ⟨by kernel_rfl, fun W hSW => by go_simp; try with_reducible rfl⟩) (by assumption) ?_
    try simp only [List.getElem_toArray]
    try simp only [List.getElem_cons_succ]
    try simp only [List.getElem_cons_zero]
    try simp only [Act.put]
    try simp only [List.setIfInBounds_toArray]
    try simp only [List.set_cons_succ]
    try simp only [List.set_cons_zero]
    refine wpAnyH_take (i := 6) (v := ?_) rfl (by kernel_rfl) (by kernel_rfl) (by kernel_rfl) (fun _ _ _ h => h) (Or.inl ⟨by kernel_rfl, fun W hSW => by go_simp; try with_reducible rfl⟩) (by assumption) ?_
    try simp only [List.getElem_toArray]
    try simp only [List.getElem_cons_succ]
    try simp only [List.getElem_cons_zero]
    try simp only [Act.put]
    try simp only [List.setIfInBounds_toArray]
    try simp only [List.set_cons_succ]
    try simp only [List.set_cons_zero]
    refine wpAnyH_take (i := 7) (v := ?_) rfl (by kernel_rfl) (by kernel_rfl) (by kernel_rfl) (fun _ _ _ h => h) (Or.inl ⟨by kernel_rfl, fun W hSW => by go_simp; try with_reducible rfl⟩) (by assumption) ?_
    try simp only [List.getElem_toArray]
    try simp only [List.getElem_cons_succ]
    try simp only [List.getElem_cons_zero]
    try simp only [Act.put]
    try simp only [List.setIfInBounds_toArray]
    try simp only [List.set_cons_succ]
    try simp only [List.set_cons_zero]
    refine wpAnyH_take (i := 8) (v := ?_) rfl (by kernel_rfl) (by kernel_rfl) (by kernel_rfl) (fun _ _ _ h => h) (Or.inl ⟨by kernel_rfl, fun W hSW => by go_simp; try with_reducible rfl⟩) (by assumption) ?_
    try simp only [List.getElem_toArray]
    try simp only [List.getElem_cons_succ]
    try simp only [List.getElem_cons_zero]
    try simp only [Act.put]
    try simp only [List.setIfInBounds_toArray]
    try simp only [List.set_cons_succ]
    try simp only [List.set_cons_zero]
    refine wpAnyH_done (by kernel_rfl) ?_ _
    clear B0 B2 B3 x0 x1 x2 x3 x4 x5 x6 x7 hsd
    go_upto_region 6 with fail
    have B0 : CfgK w3 r1 (cY c) w3.drew := ⟨(C1.out.kept0 (K2.out.trans K3.out)).kept0 ((Kept.refl _ _).drew), (Kept.refl _ _).drew⟩
    have x0 : ∀ W, CfgK w3 r1 (cY c) W → W.cell? ⟨r1, 0, none⟩ = some (.int .i64 c.mru) := fun W h => h.at_ 0 _ rfl
    have x1 : ∀ W, CfgK w3 r1 (cY c) W → W.cell? ⟨r1, 1, none⟩ = some (.int .i64 0) := fun W h => h.at_ 1 _ rfl
    have x2 : ∀ W, CfgK w3 r1 (cY c) W → W.cell? ⟨r1, 2, none⟩ = some (.int .i64 c.magic) := fun W h => h.at_ 2 _ rfl
    have x3 : ∀ W, CfgK w3 r1 (cY c) W → W.cell? ⟨r1, 3, none⟩ = some (.int .i64 c.echo) := fun W h => h.at_ 3 _ rfl
    have x4 : ∀ W, CfgK w3 r1 (cY c) W → W.cell? ⟨r1, 4, none⟩ = some (.int .i64 10) := fun W h => h.at_ 4 _ rfl
    have x5 : ∀ W, CfgK w3 r1 (cY c) W → W.cell? ⟨r1, 5, none⟩ = some (.int .i64 2) := fun W h => h.at_ 5 _ rfl
    have x6 : ∀ W, CfgK w3 r1 (cY c) W → W.cell? ⟨r1, 6, none⟩ = some (.int .i64 10) := fun W h => h.at_ 6 _ rfl
    have x7 : ∀ W, CfgK w3 r1 (cY c) W → W.cell? ⟨r1, 7, none⟩ = some (.int .i64 3) := fun W h => h.at_ 7 _ rfl
    refine wp_region_held_drew (S := CfgK w3 r1 (cY c)) (by kernel_rfl) (B0) (fun hSd => ?_)
    refine wpAnyH_take (i := 0) (v := ?_) rfl (by kernel_rfl) (by kernel_rfl) (by kernel_rfl) (fun _ _ _ h => h) (Or.inl ⟨by kernel_rfl, fun W hSW => by go_simp; try with_reducible rfl⟩) (by assumption) ?_
    try simp only [List.getElem_toArray]
    try simp only [List.getElem_cons_succ]
    try simp only [List.getElem_cons_zero]
    try simp only [Act.put]
    try simp only [List.setIfInBounds_toArray]
    try simp only [List.set_cons_succ]
    try simp only [List.set_cons_zero]
    refine wpAnyH_take (i := 1) (v := ?_) rfl (by kernel_rfl) (by kernel_rfl) (by kernel_rfl) (fun _ _ _ h => h) (Or.inl ⟨by kernel_rfl, fun W hSW => by go_simp; try with_reducible rfl⟩) (by assumption) ?_
    try simp only [List.getElem_toArray]
    try simp only [List.getElem_cons_succ]
    try simp only [List.getElem_cons_zero]
    try simp only [Act.put]
    try simp only [List.setIfInBounds_toArray]
    try simp only [List.set_cons_succ]
    try simp only [List.set_cons_zero]
    refine wpAnyH_ready (rs := [2]) (by kernel_rfl) (by simp) ?_
    refine AllReadyH.cons rfl (fun K hK => ?_) AllReadyH.nil
    go_simp
    refine (HTp.out _ ((K0.out.trans (K2.out.trans K3.out)).trans ((Kept.refl _ _).drew))).mono ?_
    rintro e w4 ⟨tb, tp, cap, rfl, htb, hon, hT, hk2⟩
    have B2 := CfgK.kept B0 hk2
    have hsd : w3.drew.heap.size = w3.heap.size := rfl
    have hkd := hk2.size
    have HN := hid (HY.out tb cap tp d w4 hT)
    clear htb hon hT hk2 hkd
    refine hK.out _ _ (B2) (fun _ => ?_)
    clear hK K
    try simp only [List.getElem_toArray]
    try simp only [List.getElem_cons_succ]
    try simp only [List.getElem_cons_zero]
    try simp only [Act.put]
    try simp only [List.setIfInBounds_toArray]
    try simp only [List.set_cons_succ]
    try simp only [List.set_cons_zero]
    refine wpAnyH_ready (rs := [3]) (by kernel_rfl) (by simp) ?_
    refine AllReadyH.cons rfl (fun K hK => ?_) AllReadyH.nil
    go_simp
    refine HN.out.mono ?_
    rintro e w5 ⟨qy, rfl, hk3⟩
    have B3 := CfgK.kept B2 hk3
    have K4 := hid B2.k
    have K5a := hid hk3
    clear hk3 HN
    refine hK.out _ _ (B3) (fun _ => ?_)
    clear hK K
    try simp only [List.getElem_toArray]
    try simp only [List.getElem_cons_succ]
    try simp only [List.getElem_cons_zero]
    try simp only [Act.put]
    try simp only [List.setIfInBounds_toArray]
    try simp only [List.set_cons_succ]
    try simp only [List.set_cons_zero]
    refine wpAnyH_take (i := 4) (v := ?_) rfl (by kernel_rfl) (by kernel_rfl) (by kernel_rfl) (fun _ _ _ h => h) (Or.inl ⟨by kernel_rfl, fun W hSW => by go_simp; try with_reducible rfl⟩) (by assumption) ?_
    try simp only [List.getElem_toArray]
    try simp only [List.getElem_cons_succ]
    try simp only [List.getElem_cons_zero]
    try simp only [Act.put]
    try simp only [List.setIfInBounds_toArray]
    try simp only [List.set_cons_succ]
    try simp only [List.set_cons_zero]
    refine wpAnyH_take (i := 5) (v := ?_) rfl (by kernel_rfl) (by kernel_rfl) (by kernel_rfl) (fun _ _ _ h => h) (Or.inl ⟨by kernel_rfl, fun W hSW => by go_simp; try with_reducible rfl⟩) (by assumption) ?_
    try simp only [List.getElem_toArray]
    try simp only [List.getElem_cons_succ]
    try simp only [List.getElem_cons_zero]
    try simp only [Act.put]
    try simp only [List.setIfInBounds_toArray]
    try simp only [List.set_cons_succ]
    try simp only [List.set_cons_zero]
    refine wpAnyH_take (i := 6) (v := ?_) rfl (by kernel_rfl) (by kernel_rfl) (by kernel_rfl) (fun _ _ _ h => h) (Or.inl ⟨by kernel_rfl, fun W hSW => by go_simp; try with_reducible rfl⟩) (by assumption) ?_
    try simp only [List.getElem_toArray]
    try simp only [List.getElem_cons_succ]
    try simp only [List.getElem_cons_zero]
    try simp only [Act.put]
    try simp only [List.setIfInBounds_toArray]
    try simp only [List.set_cons_succ]
    try simp only [List.set_cons_zero]
    refine wpAnyH_take (i := 7) (v := ?_) rfl (by kernel_rfl) (by kernel_rfl) (by kernel_rfl) (fun _ _ _ h => h) (Or.inl ⟨by kernel_rfl, fun W hSW => by go_simp; try with_reducible rfl⟩) (by assumption) ?_
    try simp only [List.getElem_toArray]
    try simp only [List.getElem_cons_succ]
    try simp only [List.getElem_cons_zero]
    try simp only [Act.put]
    try simp only [List.setIfInBounds_toArray]
    try simp only [List.set_cons_succ]
    try simp only [List.set_cons_zero]
    refine wpAnyH_take (i := 8) (v := ?_) rfl (by kernel_rfl) (by kernel_rfl) (by kernel_rfl) (fun _ _ _ h => h) (Or.inl ⟨by kernel_rfl, fun W hSW => by go_simp; try with_reducible rfl⟩) (by assumption) ?_
    try simp only [List.getElem_toArray]
    try simp only [List.getElem_cons_succ]
    try simp only [List.getElem_cons_zero]
    try simp only [Act.put]
    try simp only [List.setIfInBounds_toArray]
    try simp only [List.set_cons_succ]
    try simp only [List.set_cons_zero]
    refine wpAnyH_done (by kernel_rfl) ?_ _
    clear B0 B2 B3 x0 x1 x2 x3 x4 x5 x6 x7 hsd
    have K5 := hid ((K2.out.trans K3.out).trans (K4.out.trans K5a.out))
    rcases hcase with h1 | ⟨h1, h2⟩
    all_goals
      go_wp2_with fail
      refine (Ha.out _).mono ?_
      rintro e w6 ⟨rfl, hk6⟩
      have K6 := hid (K0.out.trans (K5.out.trans hk6))
      clear hk6
      go_wp2
      go_ret
      exact ⟨rfl, below_kept K6.out⟩
  obtain ⟨ga, gc⟩ := hg
  have HGa := hid ga
  have HGc := hid gc
  have HX := hid (fun (tb cap : Nat) (tp : Option Addr) (base : Nat) (W : World) (hb : base ≤ W.heap.size) (ht : Tp.IsTape W tb tp cap d 0) (htb : base ≤ tb) (hon : ∀ i, Tp.onTape tp d i → base ≤ i) => lcpNew_some (cX a) ga ⟨by simp [cX], by simp [cX]⟩ ⟨by simp [cX], by simp [cX]⟩ ⟨by simp [cX], by simp [cX]⟩ ⟨by simp [cX], by simp [cX]⟩ tb cap 0 tp d base W hb ht htb hon)
  have HY := hid (fun (tb cap : Nat) (tp : Option Addr) (base : Nat) (W : World) (hb : base ≤ W.heap.size) (ht : Tp.IsTape W tb tp cap d 0) (htb : base ≤ tb) (hon : ∀ i, Tp.onTape tp d i → base ≤ i) => lcpNew_some (cY c) gc ⟨by simp [cY], by simp [cY]⟩ ⟨by simp [cY], by simp [cY]⟩ ⟨by simp [cY], by simp [cY]⟩ ⟨by simp [cY], by simp [cY]⟩ tb cap 0 tp d base W hb ht htb hon)
  unfold cfV at HX HY
  simp only [show (cX a).mru = a.mru from rfl, show (cX a).auth = a.auth from rfl, show (cX a).magic = a.magic from rfl, show (cX a).echo = a.echo from rfl, show (cX a).cf = 10 from rfl, show (cX a).tm = 2 from rfl, show (cX a).fails = 10 from rfl, show (cX a).wait = 3 from rfl, show (cY c).mru = c.mru from rfl, show (cY c).auth = 0 from rfl, show (cY c).magic = c.magic from rfl, show (cY c).echo = c.echo from rfl, show (cY c).cf = 10 from rfl, show (cY c).tm = 2 from rfl, show (cY c).fails = 10 from rfl, show (cY c).wait = 3 from rfl] at HX HY
  clear ga gc
  have B0 : CfgK A r0 (cX a) A.drew := ⟨(C0.out).kept0 ((Kept.refl _ _).drew), (Kept.refl _ _).drew⟩
  have x0 : ∀ W, CfgK A r0 (cX a) W → W.cell? ⟨r0, 0, none⟩ = some (.int .i64 a.mru) := fun W h => h.at_ 0 _ rfl
  have x1 : ∀ W, CfgK A r0 (cX a) W → W.cell? ⟨r0, 1, none⟩ = some (.int .i64 a.auth) := fun W h => h.at_ 1 _ rfl
  have x2 : ∀ W, CfgK A r0 (cX a) W → W.cell? ⟨r0, 2, none⟩ = some (.int .i64 a.magic) := fun W h => h.at_ 2 _ rfl
  have x3 : ∀ W, CfgK A r0 (cX a) W → W.cell? ⟨r0, 3, none⟩ = some (.int .i64 a.echo) := fun W h => h.at_ 3 _ rfl
  have x4 : ∀ W, CfgK A r0 (cX a) W → W.cell? ⟨r0, 4, none⟩ = some (.int .i64 10) := fun W h => h.at_ 4 _ rfl
  have x5 : ∀ W, CfgK A r0 (cX a) W → W.cell? ⟨r0, 5, none⟩ = some (.int .i64 2) := fun W h => h.at_ 5 _ rfl
  have x6 : ∀ W, CfgK A r0 (cX a) W → W.cell? ⟨r0, 6, none⟩ = some (.int .i64 10) := fun W h => h.at_ 6 _ rfl
  have x7 : ∀ W, CfgK A r0 (cX a) W → W.cell? ⟨r0, 7, none⟩ = some (.int .i64 3) := fun W h => h.at_ 7 _ rfl
  refine wp_region_held_drew (S := CfgK A r0 (cX a)) (by kernel_rfl) (B0) (fun hSd => ?_)
  refine wpAnyH_take (i := 0) (v := ?_) rfl (by kernel_rfl) (by kernel_rfl) (by kernel_rfl) (fun _ _ _ h => h) (Or.inl ⟨by kernel_rfl, fun W hSW => by go_simp; try with_reducible rfl⟩) (by assumption) ?_
  try simp only [List.getElem_toArray]
  try simp only [List.getElem_cons_succ]
  try simp only [List.getElem_cons_zero]
  try simp only [Act.put]
  try simp only [List.setIfInBounds_toArray]
  try simp only [List.set_cons_succ]
  try simp only [List.set_cons_zero]
  refine wpAnyH_take (i := 1) (v := ?_) rfl (by kernel_rfl) (by kernel_rfl) (by kernel_rfl) (fun _ _ _ h => h) (Or.inl ⟨by kernel_rfl, fun W hSW => by go_simp; try with_reducible rfl⟩) (by assumption) ?_
  try simp only [List.getElem_toArray]
  try simp only [List.getElem_cons_succ]
  try simp only [List.getElem_cons_zero]
  try simp only [Act.put]
  try simp only [List.setIfInBounds_toArray]
  try simp only [List.set_cons_succ]
  try simp only [List.set_cons_zero]
  refine wpAnyH_ready (rs := [2]) (by kernel_rfl) (by simp) ?_
  refine AllReadyH.cons rfl (fun K hK => ?_) AllReadyH.nil
  go_simp
  refine (HTp.out _ ((K0.out).trans ((Kept.refl _ _).drew))).mono ?_
  rintro e w2 ⟨tb, tp, cap, rfl, htb, hon, hT, hk2⟩
  have B2 := CfgK.kept B0 hk2
  have hsd : A.drew.heap.size = A.heap.size := rfl
  have hkd := hk2.size
  have HN := hid (HX.out tb cap tp A.heap.size w2 (by omega) hT (by omega) (fun i hi => by have := hon i hi; omega))
  clear htb hon hT hk2 hkd
  refine hK.out _ _ (B2) (fun _ => ?_)
  clear hK K
  try simp only [List.getElem_toArray]
  try simp only [List.getElem_cons_succ]
  try simp only [List.getElem_cons_zero]
  try simp only [Act.put]
  try simp only [List.setIfInBounds_toArray]
  try simp only [List.set_cons_succ]
  try simp only [List.set_cons_zero]
  refine wpAnyH_ready (rs := [3]) (by kernel_rfl) (by simp) ?_
  refine AllReadyH.cons rfl (fun K hK => ?_) AllReadyH.nil
  go_simp
  refine HN.out.mono ?_
  rintro e w3 ⟨b, m, rfl, hL, hk3, _⟩
  have B3 := CfgK.kept B2 hk3
  have K2 := hid B2.k
  have K3 := hid hk3
  have L3 := hL
  clear hL
  clear hk3 HN
  refine hK.out _ _ (B3) (fun _ => ?_)
  clear hK K
  try simp only [List.getElem_toArray]
  try simp only [List.getElem_cons_succ]
  try simp only [List.getElem_cons_zero]
  try simp only [Act.put]
  try simp only [List.setIfInBounds_toArray]
  try simp only [List.set_cons_succ]
  try simp only [List.set_cons_zero]
  refine wpAnyH_take (i := 4) (v := ?_) rfl (by kernel_rfl) (by kernel_rfl) (by kernel_rfl) (fun _ _ _ h => h) (Or.inl ⟨by kernel_rfl, fun W hSW => by go_simp; try with_reducible rfl⟩) (by assumption) ?_
  try simp only [List.getElem_toArray]
  try simp only [List.getElem_cons_succ]
  try simp only [List.getElem_cons_zero]
  try simp only [Act.put]
  try simp only [List.setIfInBounds_toArray]
  try simp only [List.set_cons_succ]
  try simp only [List.set_cons_zero]
  refine wpAnyH_take (i := 5) (v := ?_) rfl (by kernel_rfl) (by kernel_rfl) (by kernel_rfl) (fun _ _ _ h => h) (Or.inl ⟨by kernel_rfl, fun W hSW => by go_simp; try with_reducible rfl⟩) (by assumption) ?_
  try simp only [List.getElem_toArray]
  try simp only [List.getElem_cons_succ]
  try simp only [List.getElem_cons_zero]
  try simp only [Act.put]
  try simp only [List.setIfInBounds_toArray]
  try simp only [List.set_cons_succ]
  try simp only [List.set_cons_zero]
  refine wpAnyH_take (i := 6) (v := ?_) rfl (by kernel_rfl) (by kernel_rfl) (by kernel_rfl) (fun _ _ _ h => h) (Or.inl ⟨by kernel_rfl, fun W hSW => by go_simp; try with_reducible rfl⟩) (by assumption) ?_
  try simp only [List.getElem_toArray]
  try simp only [List.getElem_cons_succ]
  try simp only [List.getElem_cons_zero]
  try simp only [Act.put]
  try simp only [List.setIfInBounds_toArray]
  try simp only [List.set_cons_succ]
  try simp only [List.set_cons_zero]
  refine wpAnyH_take (i := 7) (v := ?_) rfl (by kernel_rfl) (by kernel_rfl) (by kernel_rfl) (fun _ _ _ h => h) (Or.inl ⟨by kernel_rfl, fun W hSW => by go_simp; try with_reducible rfl⟩) (by assumption) ?_
  try simp only [List.getElem_toArray]
  try simp only [List.getElem_cons_succ]
  try simp only [List.getElem_cons_zero]
  try simp only [Act.put]
  try simp only [List.setIfInBounds_toArray]
  try simp only [List.set_cons_succ]
  try simp only [List.set_cons_zero]
  refine wpAnyH_take (i := 8) (v := ?_) rfl (by kernel_rfl) (by kernel_rfl) (by kernel_rfl) (fun _ _ _ h => h) (Or.inl ⟨by kernel_rfl, fun W hSW => by go_simp; try with_reducible rfl⟩) (by assumption) ?_
  try simp only [List.getElem_toArray]
  try simp only [List.getElem_cons_succ]
  try simp only [List.getElem_cons_zero]
  try simp only [Act.put]
  try simp only [List.setIfInBounds_toArray]
  try simp only [List.set_cons_succ]
  try simp only [List.set_cons_zero]
  refine wpAnyH_done (by kernel_rfl) ?_ _
  clear B0 B2 B3 x0 x1 x2 x3 x4 x5 x6 x7 hsd
  go_upto_region 6 with fail
  have B0 : CfgK w3 r1 (cY c) w3.drew := ⟨(C1.out.kept0 (K2.out.trans K3.out)).kept0 ((Kept.refl _ _).drew), (Kept.refl _ _).drew⟩
  have x0 : ∀ W, CfgK w3 r1 (cY c) W → W.cell? ⟨r1, 0, none⟩ = some (.int .i64 c.mru) := fun W h => h.at_ 0 _ rfl
  have x1 : ∀ W, CfgK w3 r1 (cY c) W → W.cell? ⟨r1, 1, none⟩ = some (.int .i64 0) := fun W h => h.at_ 1 _ rfl
  have x2 : ∀ W, CfgK w3 r1 (cY c) W → W.cell? ⟨r1, 2, none⟩ = some (.int .i64 c.magic) := fun W h => h.at_ 2 _ rfl
  have x3 : ∀ W, CfgK w3 r1 (cY c) W → W.cell? ⟨r1, 3, none⟩ = some (.int .i64 c.echo) := fun W h => h.at_ 3 _ rfl
  have x4 : ∀ W, CfgK w3 r1 (cY c) W → W.cell? ⟨r1, 4, none⟩ = some (.int .i64 10) := fun W h => h.at_ 4 _ rfl
  have x5 : ∀ W, CfgK w3 r1 (cY c) W → W.cell? ⟨r1, 5, none⟩ = some (.int .i64 2) := fun W h => h.at_ 5 _ rfl
  have x6 : ∀ W, CfgK w3 r1 (cY c) W → W.cell? ⟨r1, 6, none⟩ = some (.int .i64 10) := fun W h => h.at_ 6 _ rfl
  have x7 : ∀ W, CfgK w3 r1 (cY c) W → W.cell? ⟨r1, 7, none⟩ = some (.int .i64 3) := fun W h => h.at_ 7 _ rfl
  refine wp_region_held_drew (S := CfgK w3 r1 (cY c)) (by kernel_rfl) (B0) (fun hSd => ?_)
  refine wpAnyH_take (i := 0) (v := ?_) rfl (by kernel_rfl) (by kernel_rfl) (by kernel_rfl) (fun _ _ _ h => h) (Or.inl ⟨by kernel_rfl, fun W hSW => by go_simp; try with_reducible rfl⟩) (by assumption) ?_
  try simp only [List.getElem_toArray]
  try simp only [List.getElem_cons_succ]
  try simp only [List.getElem_cons_zero]
  try simp only [Act.put]
  try simp only [List.setIfInBounds_toArray]
  try simp only [List.set_cons_succ]
  try simp only [List.set_cons_zero]
  refine wpAnyH_take (i := 1) (v := ?_) rfl (by kernel_rfl) (by kernel_rfl) (by kernel_rfl) (fun _ _ _ h => h) (Or.inl ⟨by kernel_rfl, fun W hSW => by go_simp; try with_reducible rfl⟩) (by assumption) ?_
  try simp only [List.getElem_toArray]
  try simp only [List.getElem_cons_succ]
  try simp only [List.getElem_cons_zero]
  try simp only [Act.put]
  try simp only [List.setIfInBounds_toArray]
  try simp only [List.set_cons_succ]
  try simp only [List.set_cons_zero]
  refine wpAnyH_ready (rs := [2]) (by kernel_rfl) (by simp) ?_
  refine AllReadyH.cons rfl (fun K hK => ?_) AllReadyH.nil
  go_simp
  refine (HTp.out _ ((K0.out.trans (K2.out.trans K3.out)).trans ((Kept.refl _ _).drew))).mono ?_
  rintro e w4 ⟨tb, tp, cap, rfl, htb, hon, hT, hk2⟩
  have B2 := CfgK.kept B0 hk2
  have hsd : w3.drew.heap.size = w3.heap.size := rfl
  have hkd := hk2.size
  have HN := hid (HY.out tb cap tp w3.heap.size w4 (by omega) hT (by omega) (fun i hi => by have := hon i hi; omega))
  clear htb hon hT hk2 hkd
  refine hK.out _ _ (B2) (fun _ => ?_)
  clear hK K
  try simp only [List.getElem_toArray]
  try simp only [List.getElem_cons_succ]
  try simp only [List.getElem_cons_zero]
  try simp only [Act.put]
  try simp only [List.setIfInBounds_toArray]
  try simp only [List.set_cons_succ]
  try simp only [List.set_cons_zero]
  refine wpAnyH_ready (rs := [3]) (by kernel_rfl) (by simp) ?_
  refine AllReadyH.cons rfl (fun K hK => ?_) AllReadyH.nil
  go_simp
  refine HN.out.mono ?_
  rintro e w5 ⟨b', m', rfl, hL, hk3, _⟩
  have B3 := CfgK.kept B2 hk3
  have K4 := hid B2.k
  have K5 := hid hk3
  have L5 := hL
  clear hL
  clear hk3 HN
  refine hK.out _ _ (B3) (fun _ => ?_)
  clear hK K
  try simp only [List.getElem_toArray]
  try simp only [List.getElem_cons_succ]
  try simp only [List.getElem_cons_zero]
  try simp only [Act.put]
  try simp only [List.setIfInBounds_toArray]
  try simp only [List.set_cons_succ]
  try simp only [List.set_cons_zero]
  refine wpAnyH_take (i := 4) (v := ?_) rfl (by kernel_rfl) (by kernel_rfl) (by kernel_rfl) (fun _ _ _ h => h) (Or.inl ⟨by kernel_rfl, fun W hSW => by go_simp; try with_reducible rfl⟩) (by assumption) ?_
  try simp only [List.getElem_toArray]
  try simp only [List.getElem_cons_succ]
  try simp only [List.getElem_cons_zero]
  try simp only [Act.put]
  try simp only [List.setIfInBounds_toArray]
  try simp only [List.set_cons_succ]
  try simp only [List.set_cons_zero]
  refine wpAnyH_take (i := 5) (v := ?_) rfl (by kernel_rfl) (by kernel_rfl) (by kernel_rfl) (fun _ _ _ h => h) (Or.inl ⟨by kernel_rfl, fun W hSW => by go_simp; try with_reducible rfl⟩) (by assumption) ?_
  try simp only [List.getElem_toArray]
  try simp only [List.getElem_cons_succ]
  try simp only [List.getElem_cons_zero]
  try simp only [Act.put]
  try simp only [List.setIfInBounds_toArray]
  try simp only [List.set_cons_succ]
  try simp only [List.set_cons_zero]
  refine wpAnyH_take (i := 6) (v := ?_) rfl (by kernel_rfl) (by kernel_rfl) (by kernel_rfl) (fun _ _ _ h => h) (Or.inl ⟨by kernel_rfl, fun W hSW => by go_simp; try with_reducible rfl⟩) (by assumption) ?_
  try simp only [List.getElem_toArray]
  try simp only [List.getElem_cons_succ]
  try simp only [List.getElem_cons_zero]
  try simp only [Act.put]
  try simp only [List.setIfInBounds_toArray]
  try simp only [List.set_cons_succ]
  try simp only [List.set_cons_zero]
  refine wpAnyH_take (i := 7) (v := ?_) rfl (by kernel_rfl) (by kernel_rfl) (by kernel_rfl) (fun _ _ _ h => h) (Or.inl ⟨by kernel_rfl, fun W hSW => by go_simp; try with_reducible rfl⟩) (by assumption) ?_
  try simp only [List.getElem_toArray]
  try simp only [List.getElem_cons_succ]
  try simp only [List.getElem_cons_zero]
  try simp only [Act.put]
  try simp only [List.setIfInBounds_toArray]
  try simp only [List.set_cons_succ]
  try simp only [List.set_cons_zero]
  refine wpAnyH_take (i := 8) (v := ?_) rfl (by kernel_rfl) (by kernel_rfl) (by kernel_rfl) (fun _ _ _ h => h) (Or.inl ⟨by kernel_rfl, fun W hSW => by go_simp; try with_reducible rfl⟩) (by assumption) ?_
  try simp only [List.getElem_toArray]
  try simp only [List.getElem_cons_succ]
  try simp only [List.getElem_cons_zero]
  try simp only [Act.put]
  try simp only [List.setIfInBounds_toArray]
  try simp only [List.set_cons_succ]
  try simp only [List.set_cons_zero]
  refine wpAnyH_done (by kernel_rfl) ?_ _
  clear B0 B2 B3 x0 x1 x2 x3 x4 x5 x6 x7 hsd
  have hE1 := eqLcpSome ⟨b, 0, none⟩
  have hE2 := eqLcpSome ⟨b', 0, none⟩
  have T0 := hid (links_of (w := A) L3 L5 (K2.out.trans K3.out) (K4.out.trans K5.out))
  clear L3 L5 K2 K3 K4 K5 HTp HX HY
  have HDo := hid (lcpDo_any 2 w5 T0.out.x)
  go_wp2_with fail
  refine HDo.out.mono ?_
  rintro e w6 ⟨vo, rfl, S⟩
  obtain ⟨m6, N6, _⟩ := fly_of T0.out S (by rw [start0]; decide)
  have T1 := hid (T0.out.next N6)
  obtain ⟨p6, c6, rfl⟩ := S.slice
  clear S N6 T0 HDo
  generalize (doL (newL (cX a) d 0) 2).2.length = n6 at *
  have HDo := hid (lcpDo_any 2 w6 T1.out.y)
  go_wp2_with fail
  refine HDo.out.mono ?_
  rintro e w7 ⟨vo, rfl, S⟩
  obtain ⟨m7, N7, _⟩ := fly_of T1.out.turn S (by rw [start0]; decide)
  have T2 := hid (T1.out.next2 N7)
  obtain ⟨p7, c7, rfl⟩ := S.slice
  clear S N7 T1 HDo
  generalize (doL (newL (cY c) d 0) 2).2.length = n7 at *
  have HDo := hid (lcpDo_any 0 w7 T2.out.x)
  go_wp2_with fail
  refine HDo.out.mono ?_
  rintro e w8 ⟨vp, rfl, S⟩
  obtain ⟨m8, N8, Fp⟩ := fly_of T2.out S (by rw [start1 (cX a) (cY c)]; exact Nat.le_refl _)
  have T3 := hid (T2.out.next N8)
  rw [start1 (cX a) (cY c)] at Fp
  obtain ⟨p8, c8, rfl⟩ := S.slice
  have HFp := hid Fp
  clear S N8 T2 HDo Fp
  generalize (doL (doL (newL (cX a) d 0) 2).1 0).2.length = n8 at *
  have HDo := hid (lcpDo_any 0 w8 T3.out.y)
  go_wp2_with fail
  refine HDo.out.mono ?_
  rintro e w9 ⟨vq, rfl, S⟩
  obtain ⟨m9, N9, Fq⟩ := fly_of T3.out.turn S (by rw [start1 (cY c) (cX a)]; exact Nat.le_refl _)
  have HFp2 := hid (HFp.out.next2 T3.out N9)
  have T4 := hid (T3.out.next2 N9)
  rw [start1 (cY c) (cX a)] at Fq
  obtain ⟨p9, c9, rfl⟩ := S.slice
  have HM0 : Hid (Mid A b b' (cX a) (cY c) 0 0 w9 [(.slice p8 n8 c8, saysF 0 (cX a) (cY c)), (.slice p9 _ c9, saysF 0 (cY c) (cX a))]) :=
    ⟨m8, m9, _, _, T4.out, start2 _ _ _, start2 _ _ _, fun f hf => by
      rcases List.mem_cons.1 hf with rfl | hf
      · exact HFp2.out
      · rw [List.mem_singleton.1 hf]
        exact Fq.turn⟩
  clear S N9 T3 HDo Fq HFp HFp2 T4
  generalize (doL (doL (newL (cY c) d 0) 2).1 0).2.length = n9 at *
  have HEx := hid (exchange_any b b' (cX a) (cY c) HGa.out HGc.out HNe.out _ _ A w9 HM0.out)
  clear HM0
  go_wp2_with fail
  refine HEx.out.mono ?_
  rintro e w10 ⟨rfl, M0⟩
  have HAu := hid (M0.auth HGa.out HGc.out)
  have HM1 := hid M0
  clear M0 HEx
  go_wp2_with fail
  refine HAu.out.mono ?_
  rintro e w11 ⟨rfl, hk⟩
  have HM2 := hid (HM1.out.still hk)
  have HAu2 := hid (HM2.out.turn.auth HGc.out HGa.out)
  clear HM1 HAu hk
  go_wp2_with fail
  refine HAu2.out.mono ?_
  rintro e w12 ⟨rfl, hk⟩
  have HM3 := hid (HM2.out.still hk)
  clear HM2 HAu2 hk
  simp only [show (cX a).auth = a.auth from rfl, show (cY c).auth = 0 from rfl]
  go_upto_region 17 with fail
  have HSx : Hid (∀ W, Mid A b b' (cX a) (cY c) 2 2 W [] → Calls Tryz.prog 15 #[.pointer (some ⟨b, 0, none⟩)] W fun e w' => e = .returned (.int .i64 9) ∧ Kept (fun _ => False) W w') := fun W h => Mid.state h
  have HSy : Hid (∀ W, Mid A b b' (cX a) (cY c) 2 2 W [] → Calls Tryz.prog 15 #[.pointer (some ⟨b', 0, none⟩)] W fun e w' => e = .returned (.int .i64 9) ∧ Kept (fun _ => False) W w') := fun W h => (Mid.turn h).state
  have HRx : Hid (∀ W, Mid A b b' (cX a) (cY c) 2 2 W [] → Calls Tryz.prog 17 #[.pointer (some ⟨b, 0, none⟩)] W fun e w' => e = .returned (.int .i64 c.mru) ∧ Kept (fun _ => False) W w') := fun W h => by
    have h2 := Mid.mru h HGc.out
    exact h2
  have HRy : Hid (∀ W, Mid A b b' (cX a) (cY c) 2 2 W [] → Calls Tryz.prog 17 #[.pointer (some ⟨b', 0, none⟩)] W fun e w' => e = .returned (.int .i64 a.mru) ∧ Kept (fun _ => False) W w') := fun W h => by
    have h2 := (Mid.turn h).mru HGa.out
    exact h2
  have l1 := ask_len (cX a)
  have l2 := ask_len (cY c)
  have x0 : ∀ W, Mid A b b' (cX a) (cY c) 2 2 W [] → W.cell? ⟨r0, 0, none⟩ = some (.int .i64 a.mru) := fun W h => (C0.out.kept0 (Mid.kept h)) 0 _ rfl
  have x1 : ∀ W, Mid A b b' (cX a) (cY c) 2 2 W [] → W.cell? ⟨r0, 1, none⟩ = some (.int .i64 a.auth) := fun W h => (C0.out.kept0 (Mid.kept h)) 1 _ rfl
  have y0 : ∀ W, Mid A b b' (cX a) (cY c) 2 2 W [] → W.cell? ⟨r1, 0, none⟩ = some (.int .i64 c.mru) := fun W h => (C1.out.kept0 (Mid.kept h)) 0 _ rfl
  have B0 : Mid A b b' (cX a) (cY c) 2 2 w12.drew [] := Mid.still HM3.out ((Kept.refl _ _).drew)
  refine wp_region_held_drew (S := (fun W => Mid A b b' (cX a) (cY c) 2 2 W [])) (by kernel_rfl) (B0) (fun hSd => ?_)
  refine wpAnyH_ready (rs := [0]) (by kernel_rfl) (by simp) ?_
  refine AllReadyH.cons rfl (fun K hK => ?_) AllReadyH.nil
  go_simp
  refine (Ha.out _).mono ?_
  rintro e z0 ⟨rfl, hk⟩
  have B1 := Mid.still B0 hk
  clear hk
  refine hK.out _ _ (B1) (fun _ => ?_)
  clear hK K
  try simp only [List.getElem_toArray]
  try simp only [List.getElem_cons_succ]
  try simp only [List.getElem_cons_zero]
  try simp only [Act.put]
  try simp only [List.setIfInBounds_toArray]
  try simp only [List.set_cons_succ]
  try simp only [List.set_cons_zero]
  refine wpAnyH_take (i := 1) (v := ?_) rfl (by kernel_rfl) (by kernel_rfl) (by kernel_rfl) (fun _ _ _ h => h) (Or.inl ⟨by kernel_rfl, fun W hSW => by go_simp; try with_reducible rfl⟩) (by assumption) ?_
  try simp only [List.getElem_toArray]
  try simp only [List.getElem_cons_succ]
  try simp only [List.getElem_cons_zero]
  try simp only [Act.put]
  try simp only [List.setIfInBounds_toArray]
  try simp only [List.set_cons_succ]
  try simp only [List.set_cons_zero]
  refine wpAnyH_take (i := 2) (v := ?_) rfl (by kernel_rfl) (by kernel_rfl) (by kernel_rfl) (fun _ _ _ h => h) (Or.inl ⟨by kernel_rfl, fun W hSW => by go_simp; try with_reducible rfl⟩) (by assumption) ?_
  try simp only [List.getElem_toArray]
  try simp only [List.getElem_cons_succ]
  try simp only [List.getElem_cons_zero]
  try simp only [Act.put]
  try simp only [List.setIfInBounds_toArray]
  try simp only [List.set_cons_succ]
  try simp only [List.set_cons_zero]
  refine wpAnyH_ready (rs := [3]) (by kernel_rfl) (by simp) ?_
  refine AllReadyH.cons rfl (fun K hK => ?_) AllReadyH.nil
  go_simp
  refine (HSx.out _ B1).mono ?_
  rintro e z1 ⟨rfl, hk⟩
  have B2 := Mid.still B1 hk
  clear hk
  refine hK.out _ _ (B2) (fun _ => ?_)
  clear hK K
  try simp only [List.getElem_toArray]
  try simp only [List.getElem_cons_succ]
  try simp only [List.getElem_cons_zero]
  try simp only [Act.put]
  try simp only [List.setIfInBounds_toArray]
  try simp only [List.set_cons_succ]
  try simp only [List.set_cons_zero]
  refine wpAnyH_take (i := 4) (v := ?_) rfl (by kernel_rfl) (by kernel_rfl) (by kernel_rfl) (fun _ _ _ h => h) (Or.inl ⟨by kernel_rfl, fun W hSW => by go_simp; try with_reducible rfl⟩) (by assumption) ?_
  try simp only [List.getElem_toArray]
  try simp only [List.getElem_cons_succ]
  try simp only [List.getElem_cons_zero]
  try simp only [Act.put]
  try simp only [List.setIfInBounds_toArray]
  try simp only [List.set_cons_succ]
  try simp only [List.set_cons_zero]
  refine wpAnyH_take (i := 5) (v := ?_) rfl (by kernel_rfl) (by kernel_rfl) (by kernel_rfl) (fun _ _ _ h => h) (Or.inl ⟨by kernel_rfl, fun W hSW => by go_simp; try with_reducible rfl⟩) (by assumption) ?_
  try simp only [List.getElem_toArray]
  try simp only [List.getElem_cons_succ]
  try simp only [List.getElem_cons_zero]
  try simp only [Act.put]
  try simp only [List.setIfInBounds_toArray]
  try simp only [List.set_cons_succ]
  try simp only [List.set_cons_zero]
  refine wpAnyH_take (i := 6) (v := ?_) rfl (by kernel_rfl) (by kernel_rfl) (by kernel_rfl) (fun _ _ _ h => h) (Or.inl ⟨by kernel_rfl, fun W hSW => by go_simp; try with_reducible rfl⟩) (by assumption) ?_
  try simp only [List.getElem_toArray]
  try simp only [List.getElem_cons_succ]
  try simp only [List.getElem_cons_zero]
  try simp only [Act.put]
  try simp only [List.setIfInBounds_toArray]
  try simp only [List.set_cons_succ]
  try simp only [List.set_cons_zero]
  refine wpAnyH_take (i := 7) (v := ?_) rfl (by kernel_rfl) (by kernel_rfl) (by kernel_rfl) (fun _ _ _ h => h) (Or.inl ⟨by kernel_rfl, fun W hSW => by go_simp; try with_reducible rfl⟩) (by assumption) ?_
  try simp only [List.getElem_toArray]
  try simp only [List.getElem_cons_succ]
  try simp only [List.getElem_cons_zero]
  try simp only [Act.put]
  try simp only [List.setIfInBounds_toArray]
  try simp only [List.set_cons_succ]
  try simp only [List.set_cons_zero]
  refine wpAnyH_ready (rs := [8]) (by kernel_rfl) (by simp) ?_
  refine AllReadyH.cons rfl (fun K hK => ?_) AllReadyH.nil
  go_simp
  refine (HSy.out _ B2).mono ?_
  rintro e z2 ⟨rfl, hk⟩
  have B3 := Mid.still B2 hk
  clear hk
  refine hK.out _ _ (B3) (fun _ => ?_)
  clear hK K
  try simp only [List.getElem_toArray]
  try simp only [List.getElem_cons_succ]
  try simp only [List.getElem_cons_zero]
  try simp only [Act.put]
  try simp only [List.setIfInBounds_toArray]
  try simp only [List.set_cons_succ]
  try simp only [List.set_cons_zero]
  refine wpAnyH_take (i := 9) (v := ?_) rfl (by kernel_rfl) (by kernel_rfl) (by kernel_rfl) (fun _ _ _ h => h) (Or.inl ⟨by kernel_rfl, fun W hSW => by go_simp; try with_reducible rfl⟩) (by assumption) ?_
  try simp only [List.getElem_toArray]
  try simp only [List.getElem_cons_succ]
  try simp only [List.getElem_cons_zero]
  try simp only [Act.put]
  try simp only [List.setIfInBounds_toArray]
  try simp only [List.set_cons_succ]
  try simp only [List.set_cons_zero]
  refine wpAnyH_take (i := 10) (v := ?_) rfl (by kernel_rfl) (by kernel_rfl) (by kernel_rfl) (fun _ _ _ h => h) (Or.inl ⟨by kernel_rfl, fun W hSW => by go_simp; try with_reducible rfl⟩) (by assumption) ?_
  try simp only [List.getElem_toArray]
  try simp only [List.getElem_cons_succ]
  try simp only [List.getElem_cons_zero]
  try simp only [Act.put]
  try simp only [List.setIfInBounds_toArray]
  try simp only [List.set_cons_succ]
  try simp only [List.set_cons_zero]
  refine wpAnyH_take (i := 11) (v := ?_) rfl (by kernel_rfl) (by kernel_rfl) (by kernel_rfl) (fun _ _ _ h => h) (Or.inl ⟨by kernel_rfl, fun W hSW => by go_simp; try with_reducible rfl⟩) (by assumption) ?_
  try simp only [List.getElem_toArray]
  try simp only [List.getElem_cons_succ]
  try simp only [List.getElem_cons_zero]
  try simp only [Act.put]
  try simp only [List.setIfInBounds_toArray]
  try simp only [List.set_cons_succ]
  try simp only [List.set_cons_zero]
  refine wpAnyH_take (i := 12) (v := ?_) rfl (by kernel_rfl) (by kernel_rfl) (by kernel_rfl) (fun _ _ _ h => h) (Or.inl ⟨by kernel_rfl, fun W hSW => by go_simp; try with_reducible rfl⟩) (by assumption) ?_
  try simp only [List.getElem_toArray]
  try simp only [List.getElem_cons_succ]
  try simp only [List.getElem_cons_zero]
  try simp only [Act.put]
  try simp only [List.setIfInBounds_toArray]
  try simp only [List.set_cons_succ]
  try simp only [List.set_cons_zero]
  refine wpAnyH_take (i := 13) (v := ?_) rfl (by kernel_rfl) (by kernel_rfl) (by kernel_rfl) (fun _ _ _ h => h) (Or.inl ⟨by kernel_rfl, fun W hSW => by go_simp; try with_reducible rfl⟩) (by assumption) ?_
  try simp only [List.getElem_toArray]
  try simp only [List.getElem_cons_succ]
  try simp only [List.getElem_cons_zero]
  try simp only [Act.put]
  try simp only [List.setIfInBounds_toArray]
  try simp only [List.set_cons_succ]
  try simp only [List.set_cons_zero]
  refine wpAnyH_take (i := 14) (v := ?_) rfl (by kernel_rfl) (by kernel_rfl) (by kernel_rfl) (fun _ _ _ h => h) (Or.inl ⟨by kernel_rfl, fun W hSW => by go_simp; try with_reducible rfl⟩) (by assumption) ?_
  try simp only [List.getElem_toArray]
  try simp only [List.getElem_cons_succ]
  try simp only [List.getElem_cons_zero]
  try simp only [Act.put]
  try simp only [List.setIfInBounds_toArray]
  try simp only [List.set_cons_succ]
  try simp only [List.set_cons_zero]
  refine wpAnyH_take (i := 15) (v := ?_) rfl (by kernel_rfl) (by kernel_rfl) (by kernel_rfl) (fun _ _ _ h => h) (Or.inl ⟨by kernel_rfl, fun W hSW => by go_simp; try with_reducible rfl⟩) (by assumption) ?_
  try simp only [List.getElem_toArray]
  try simp only [List.getElem_cons_succ]
  try simp only [List.getElem_cons_zero]
  try simp only [Act.put]
  try simp only [List.setIfInBounds_toArray]
  try simp only [List.set_cons_succ]
  try simp only [List.set_cons_zero]
  refine wpAnyH_take (i := 16) (v := ?_) rfl (by kernel_rfl) (by kernel_rfl) (by kernel_rfl) (fun _ _ _ h => h) (Or.inl ⟨by kernel_rfl, fun W hSW => by go_simp; try with_reducible rfl⟩) (by assumption) ?_
  try simp only [List.getElem_toArray]
  try simp only [List.getElem_cons_succ]
  try simp only [List.getElem_cons_zero]
  try simp only [Act.put]
  try simp only [List.setIfInBounds_toArray]
  try simp only [List.set_cons_succ]
  try simp only [List.set_cons_zero]
  refine wpAnyH_take (i := 17) (v := ?_) rfl (by kernel_rfl) (by kernel_rfl) (by kernel_rfl) (fun _ _ _ h => h) (Or.inl ⟨by kernel_rfl, fun W hSW => by go_simp; try with_reducible rfl⟩) (by assumption) ?_
  try simp only [List.getElem_toArray]
  try simp only [List.getElem_cons_succ]
  try simp only [List.getElem_cons_zero]
  try simp only [Act.put]
  try simp only [List.setIfInBounds_toArray]
  try simp only [List.set_cons_succ]
  try simp only [List.set_cons_zero]
  refine wpAnyH_take (i := 18) (v := ?_) rfl (by kernel_rfl) (by kernel_rfl) (by kernel_rfl) (fun _ _ _ h => h) (Or.inl ⟨by kernel_rfl, fun W hSW => by go_simp; try with_reducible rfl⟩) (by assumption) ?_
  try simp only [List.getElem_toArray]
  try simp only [List.getElem_cons_succ]
  try simp only [List.getElem_cons_zero]
  try simp only [Act.put]
  try simp only [List.setIfInBounds_toArray]
  try simp only [List.set_cons_succ]
  try simp only [List.set_cons_zero]
  refine wpAnyH_take (i := 19) (v := ?_) rfl (by kernel_rfl) (by kernel_rfl) (by kernel_rfl) (fun _ _ _ h => h) (Or.inl ⟨by kernel_rfl, fun W hSW => by go_simp; try with_reducible rfl⟩) (by assumption) ?_
  try simp only [List.getElem_toArray]
  try simp only [List.getElem_cons_succ]
  try simp only [List.getElem_cons_zero]
  try simp only [Act.put]
  try simp only [List.setIfInBounds_toArray]
  try simp only [List.set_cons_succ]
  try simp only [List.set_cons_zero]
  refine wpAnyH_take (i := 20) (v := ?_) rfl (by kernel_rfl) (by kernel_rfl) (by kernel_rfl) (fun _ _ _ h => h) (Or.inl ⟨by kernel_rfl, fun W hSW => by go_simp; try with_reducible rfl⟩) (by assumption) ?_
  try simp only [List.getElem_toArray]
  try simp only [List.getElem_cons_succ]
  try simp only [List.getElem_cons_zero]
  try simp only [Act.put]
  try simp only [List.setIfInBounds_toArray]
  try simp only [List.set_cons_succ]
  try simp only [List.set_cons_zero]
  refine wpAnyH_take (i := 21) (v := ?_) rfl (by kernel_rfl) (by kernel_rfl) (by kernel_rfl) (fun _ _ _ h => h) (Or.inl ⟨by kernel_rfl, fun W hSW => by go_simp; try with_reducible rfl⟩) (by assumption) ?_
  try simp only [List.getElem_toArray]
  try simp only [List.getElem_cons_succ]
  try simp only [List.getElem_cons_zero]
  try simp only [Act.put]
  try simp only [List.setIfInBounds_toArray]
  try simp only [List.set_cons_succ]
  try simp only [List.set_cons_zero]
  refine wpAnyH_take (i := 22) (v := ?_) rfl (by kernel_rfl) (by kernel_rfl) (by kernel_rfl) (fun _ _ _ h => h) (Or.inl ⟨by kernel_rfl, fun W hSW => by go_simp; try with_reducible rfl⟩) (by assumption) ?_
  try simp only [List.getElem_toArray]
  try simp only [List.getElem_cons_succ]
  try simp only [List.getElem_cons_zero]
  try simp only [Act.put]
  try simp only [List.setIfInBounds_toArray]
  try simp only [List.set_cons_succ]
  try simp only [List.set_cons_zero]
  refine wpAnyH_take (i := 23) (v := ?_) rfl (by kernel_rfl) (by kernel_rfl) (by kernel_rfl) (fun _ _ _ h => h) (Or.inl ⟨by kernel_rfl, fun W hSW => by go_simp; try with_reducible rfl⟩) (by assumption) ?_
  try simp only [List.getElem_toArray]
  try simp only [List.getElem_cons_succ]
  try simp only [List.getElem_cons_zero]
  try simp only [Act.put]
  try simp only [List.setIfInBounds_toArray]
  try simp only [List.set_cons_succ]
  try simp only [List.set_cons_zero]
  refine wpAnyH_take (i := 24) (v := ?_) rfl (by kernel_rfl) (by kernel_rfl) (by kernel_rfl) (fun _ _ _ h => h) (Or.inl ⟨by kernel_rfl, fun W hSW => by go_simp; try with_reducible rfl⟩) (by assumption) ?_
  try simp only [List.getElem_toArray]
  try simp only [List.getElem_cons_succ]
  try simp only [List.getElem_cons_zero]
  try simp only [Act.put]
  try simp only [List.setIfInBounds_toArray]
  try simp only [List.set_cons_succ]
  try simp only [List.set_cons_zero]
  refine wpAnyH_take (i := 25) (v := ?_) rfl (by kernel_rfl) (by kernel_rfl) (by kernel_rfl) (fun _ _ _ h => h) (Or.inl ⟨by kernel_rfl, fun W hSW => by go_simp; try with_reducible rfl⟩) (by assumption) ?_
  try simp only [List.getElem_toArray]
  try simp only [List.getElem_cons_succ]
  try simp only [List.getElem_cons_zero]
  try simp only [Act.put]
  try simp only [List.setIfInBounds_toArray]
  try simp only [List.set_cons_succ]
  try simp only [List.set_cons_zero]
  refine wpAnyH_take (i := 26) (v := ?_) rfl (by kernel_rfl) (by kernel_rfl) (by kernel_rfl) (fun _ _ _ h => h) (Or.inl ⟨by kernel_rfl, fun W hSW => by go_simp; try with_reducible rfl⟩) (by assumption) ?_
  try simp only [List.getElem_toArray]
  try simp only [List.getElem_cons_succ]
  try simp only [List.getElem_cons_zero]
  try simp only [Act.put]
  try simp only [List.setIfInBounds_toArray]
  try simp only [List.set_cons_succ]
  try simp only [List.set_cons_zero]
  refine wpAnyH_take (i := 27) (v := ?_) rfl (by kernel_rfl) (by kernel_rfl) (by kernel_rfl) (fun _ _ _ h => h) (Or.inl ⟨by kernel_rfl, fun W hSW => by go_simp; try with_reducible rfl⟩) (by assumption) ?_
  try simp only [List.getElem_toArray]
  try simp only [List.getElem_cons_succ]
  try simp only [List.getElem_cons_zero]
  try simp only [Act.put]
  try simp only [List.setIfInBounds_toArray]
  try simp only [List.set_cons_succ]
  try simp only [List.set_cons_zero]
  refine wpAnyH_take (i := 28) (v := ?_) rfl (by kernel_rfl) (by kernel_rfl) (by kernel_rfl) (fun _ _ _ h => h) (Or.inl ⟨by kernel_rfl, fun W hSW => by go_simp; try with_reducible rfl⟩) (by assumption) ?_
  try simp only [List.getElem_toArray]
  try simp only [List.getElem_cons_succ]
  try simp only [List.getElem_cons_zero]
  try simp only [Act.put]
  try simp only [List.setIfInBounds_toArray]
  try simp only [List.set_cons_succ]
  try simp only [List.set_cons_zero]
  refine wpAnyH_take (i := 29) (v := ?_) rfl (by kernel_rfl) (by kernel_rfl) (by kernel_rfl) (fun _ _ _ h => h) (Or.inl ⟨by kernel_rfl, fun W hSW => by go_simp; try with_reducible rfl⟩) (by assumption) ?_
  try simp only [List.getElem_toArray]
  try simp only [List.getElem_cons_succ]
  try simp only [List.getElem_cons_zero]
  try simp only [Act.put]
  try simp only [List.setIfInBounds_toArray]
  try simp only [List.set_cons_succ]
  try simp only [List.set_cons_zero]
  refine wpAnyH_take (i := 30) (v := ?_) rfl (by kernel_rfl) (by kernel_rfl) (by kernel_rfl) (fun _ _ _ h => h) (Or.inl ⟨by kernel_rfl, fun W hSW => by go_simp; try with_reducible rfl⟩) (by assumption) ?_
  try simp only [List.getElem_toArray]
  try simp only [List.getElem_cons_succ]
  try simp only [List.getElem_cons_zero]
  try simp only [Act.put]
  try simp only [List.setIfInBounds_toArray]
  try simp only [List.set_cons_succ]
  try simp only [List.set_cons_zero]
  refine wpAnyH_take (i := 31) (v := ?_) rfl (by kernel_rfl) (by kernel_rfl) (by kernel_rfl) (fun _ _ _ h => h) (Or.inl ⟨by kernel_rfl, fun W hSW => by go_simp; try with_reducible rfl⟩) (by assumption) ?_
  try simp only [List.getElem_toArray]
  try simp only [List.getElem_cons_succ]
  try simp only [List.getElem_cons_zero]
  try simp only [Act.put]
  try simp only [List.setIfInBounds_toArray]
  try simp only [List.set_cons_succ]
  try simp only [List.set_cons_zero]
  refine wpAnyH_take (i := 32) (v := ?_) rfl (by kernel_rfl) (by kernel_rfl) (by kernel_rfl) (fun _ _ _ h => h) (Or.inl ⟨by kernel_rfl, fun W hSW => by go_simp; try with_reducible rfl⟩) (by assumption) ?_
  try simp only [List.getElem_toArray]
  try simp only [List.getElem_cons_succ]
  try simp only [List.getElem_cons_zero]
  try simp only [Act.put]
  try simp only [List.setIfInBounds_toArray]
  try simp only [List.set_cons_succ]
  try simp only [List.set_cons_zero]
  refine wpAnyH_take (i := 34) (v := ?_) rfl (by kernel_rfl) (by kernel_rfl) (by kernel_rfl) (fun _ _ _ h => h) (Or.inl ⟨by kernel_rfl, fun W hSW => by go_simp; try with_reducible rfl⟩) (by assumption) ?_
  try simp only [List.getElem_toArray]
  try simp only [List.getElem_cons_succ]
  try simp only [List.getElem_cons_zero]
  try simp only [Act.put]
  try simp only [List.setIfInBounds_toArray]
  try simp only [List.set_cons_succ]
  try simp only [List.set_cons_zero]
  refine wpAnyH_take (i := 35) (v := ?_) rfl (by kernel_rfl) (by kernel_rfl) (by kernel_rfl) (fun _ _ _ h => h) (Or.inl ⟨by kernel_rfl, fun W hSW => by go_simp; try with_reducible rfl⟩) (by assumption) ?_
  try simp only [List.getElem_toArray]
  try simp only [List.getElem_cons_succ]
  try simp only [List.getElem_cons_zero]
  try simp only [Act.put]
  try simp only [List.setIfInBounds_toArray]
  try simp only [List.set_cons_succ]
  try simp only [List.set_cons_zero]
  refine wpAnyH_ready (rs := [33]) (by kernel_rfl) (by simp) ?_
  refine AllReadyH.cons rfl (fun K hK => ?_) AllReadyH.nil
  go_simp
  refine (HRy.out _ B3).mono ?_
  rintro e z3 ⟨rfl, hk⟩
  have B4 := Mid.still B3 hk
  clear hk
  refine hK.out _ _ (B4) (fun _ => ?_)
  clear hK K
  try simp only [List.getElem_toArray]
  try simp only [List.getElem_cons_succ]
  try simp only [List.getElem_cons_zero]
  try simp only [Act.put]
  try simp only [List.setIfInBounds_toArray]
  try simp only [List.set_cons_succ]
  try simp only [List.set_cons_zero]
  refine wpAnyH_take (i := 36) (v := ?_) rfl (by kernel_rfl) (by kernel_rfl) (by kernel_rfl) (fun _ _ _ h => h) (Or.inl ⟨by kernel_rfl, fun W hSW => by go_simp; try with_reducible rfl⟩) (by assumption) ?_
  try simp only [List.getElem_toArray]
  try simp only [List.getElem_cons_succ]
  try simp only [List.getElem_cons_zero]
  try simp only [Act.put]
  try simp only [List.setIfInBounds_toArray]
  try simp only [List.set_cons_succ]
  try simp only [List.set_cons_zero]
  refine wpAnyH_take (i := 37) (v := ?_) rfl (by kernel_rfl) (by kernel_rfl) (by kernel_rfl) (fun _ _ _ h => h) (Or.inl ⟨by kernel_rfl, fun W hSW => by go_simp; try with_reducible rfl⟩) (by assumption) ?_
  try simp only [List.getElem_toArray]
  try simp only [List.getElem_cons_succ]
  try simp only [List.getElem_cons_zero]
  try simp only [Act.put]
  try simp only [List.setIfInBounds_toArray]
  try simp only [List.set_cons_succ]
  try simp only [List.set_cons_zero]
  refine wpAnyH_take (i := 38) (v := ?_) rfl (by kernel_rfl) (by kernel_rfl) (by kernel_rfl) (fun _ _ _ h => h) (Or.inl ⟨by kernel_rfl, fun W hSW => by go_simp; try with_reducible rfl⟩) (by assumption) ?_
  try simp only [List.getElem_toArray]
  try simp only [List.getElem_cons_succ]
  try simp only [List.getElem_cons_zero]
  try simp only [Act.put]
  try simp only [List.setIfInBounds_toArray]
  try simp only [List.set_cons_succ]
  try simp only [List.set_cons_zero]
  refine wpAnyH_take (i := 39) (v := ?_) rfl (by kernel_rfl) (by kernel_rfl) (by kernel_rfl) (fun _ _ _ h => h) (Or.inl ⟨by kernel_rfl, fun W hSW => by go_simp; try with_reducible rfl⟩) (by assumption) ?_
  try simp only [List.getElem_toArray]
  try simp only [List.getElem_cons_succ]
  try simp only [List.getElem_cons_zero]
  try simp only [Act.put]
  try simp only [List.setIfInBounds_toArray]
  try simp only [List.set_cons_succ]
  try simp only [List.set_cons_zero]
  refine wpAnyH_take (i := 41) (v := ?_) rfl (by kernel_rfl) (by kernel_rfl) (by kernel_rfl) (fun _ _ _ h => h) (Or.inl ⟨by kernel_rfl, fun W hSW => by go_simp; try with_reducible rfl⟩) (by assumption) ?_
  try simp only [List.getElem_toArray]
  try simp only [List.getElem_cons_succ]
  try simp only [List.getElem_cons_zero]
  try simp only [Act.put]
  try simp only [List.setIfInBounds_toArray]
  try simp only [List.set_cons_succ]
  try simp only [List.set_cons_zero]
  refine wpAnyH_take (i := 42) (v := ?_) rfl (by kernel_rfl) (by kernel_rfl) (by kernel_rfl) (fun _ _ _ h => h) (Or.inl ⟨by kernel_rfl, fun W hSW => by go_simp; try with_reducible rfl⟩) (by assumption) ?_
  try simp only [List.getElem_toArray]
  try simp only [List.getElem_cons_succ]
  try simp only [List.getElem_cons_zero]
  try simp only [Act.put]
  try simp only [List.setIfInBounds_toArray]
  try simp only [List.set_cons_succ]
  try simp only [List.set_cons_zero]
  refine wpAnyH_ready (rs := [40]) (by kernel_rfl) (by simp) ?_
  refine AllReadyH.cons rfl (fun K hK => ?_) AllReadyH.nil
  go_simp
  refine (HRx.out _ B4).mono ?_
  rintro e z4 ⟨rfl, hk⟩
  have B5 := Mid.still B4 hk
  clear hk
  refine hK.out _ _ (B5) (fun _ => ?_)
  clear hK K
  try simp only [List.getElem_toArray]
  try simp only [List.getElem_cons_succ]
  try simp only [List.getElem_cons_zero]
  try simp only [Act.put]
  try simp only [List.setIfInBounds_toArray]
  try simp only [List.set_cons_succ]
  try simp only [List.set_cons_zero]
  refine wpAnyH_take (i := 43) (v := ?_) rfl (by kernel_rfl) (by kernel_rfl) (by kernel_rfl) (fun _ _ _ h => h) (Or.inl ⟨by kernel_rfl, fun W hSW => by go_simp; try with_reducible rfl⟩) (by assumption) ?_
  try simp only [List.getElem_toArray]
  try simp only [List.getElem_cons_succ]
  try simp only [List.getElem_cons_zero]
  try simp only [Act.put]
  try simp only [List.setIfInBounds_toArray]
  try simp only [List.set_cons_succ]
  try simp only [List.set_cons_zero]
  refine wpAnyH_take (i := 44) (v := ?_) rfl (by kernel_rfl) (by kernel_rfl) (by kernel_rfl) (fun _ _ _ h => h) (Or.inl ⟨by kernel_rfl, fun W hSW => by go_simp; try with_reducible rfl⟩) (by assumption) ?_
  try simp only [List.getElem_toArray]
  try simp only [List.getElem_cons_succ]
  try simp only [List.getElem_cons_zero]
  try simp only [Act.put]
  try simp only [List.setIfInBounds_toArray]
  try simp only [List.set_cons_succ]
  try simp only [List.set_cons_zero]
  refine wpAnyH_take (i := 45) (v := ?_) rfl (by kernel_rfl) (by kernel_rfl) (by kernel_rfl) (fun _ _ _ h => h) (Or.inl ⟨by kernel_rfl, fun W hSW => by go_simp; try with_reducible rfl⟩) (by assumption) ?_
  try simp only [List.getElem_toArray]
  try simp only [List.getElem_cons_succ]
  try simp only [List.getElem_cons_zero]
  try simp only [Act.put]
  try simp only [List.setIfInBounds_toArray]
  try simp only [List.set_cons_succ]
  try simp only [List.set_cons_zero]
  refine wpAnyH_take (i := 46) (v := ?_) rfl (by kernel_rfl) (by kernel_rfl) (by kernel_rfl) (fun _ _ _ h => h) (Or.inl ⟨by kernel_rfl, fun W hSW => by go_simp; try with_reducible rfl⟩) (by assumption) ?_
  try simp only [List.getElem_toArray]
  try simp only [List.getElem_cons_succ]
  try simp only [List.getElem_cons_zero]
  try simp only [Act.put]
  try simp only [List.setIfInBounds_toArray]
  try simp only [List.set_cons_succ]
  try simp only [List.set_cons_zero]
  refine wpAnyH_take (i := 48) (v := ?_) rfl (by kernel_rfl) (by kernel_rfl) (by kernel_rfl) (fun _ _ _ h => h) (Or.inl ⟨by kernel_rfl, fun W hSW => by go_simp; try with_reducible rfl⟩) (by assumption) ?_
  try simp only [List.getElem_toArray]
  try simp only [List.getElem_cons_succ]
  try simp only [List.getElem_cons_zero]
  try simp only [Act.put]
  try simp only [List.setIfInBounds_toArray]
  try simp only [List.set_cons_succ]
  try simp only [List.set_cons_zero]
  refine wpAnyH_ready (rs := [47]) (by kernel_rfl) (by simp) ?_
  refine AllReadyH.cons rfl (fun K hK => ?_) AllReadyH.nil
  go_simp
  refine (Mid.mine B5).mono ?_
  rintro e z5 ⟨q1, k1, s1, rfl, O1, hk⟩
  have B6 := Mid.still B5 hk
  clear hk
  refine hK.out _ _ (B6) (fun _ => ?_)
  clear hK K
  try simp only [List.getElem_toArray]
  try simp only [List.getElem_cons_succ]
  try simp only [List.getElem_cons_zero]
  try simp only [Act.put]
  try simp only [List.setIfInBounds_toArray]
  try simp only [List.set_cons_succ]
  try simp only [List.set_cons_zero]
  refine wpAnyH_ready (rs := [49]) (by kernel_rfl) (by simp) ?_
  refine AllReadyH.cons rfl (fun K hK => ?_) AllReadyH.nil
  go_simp
  refine (Mid.theirs (Mid.turn B6)).mono ?_
  rintro e z6 ⟨q2, k2, s2, rfl, O2, hk⟩
  have B7 := Mid.still B6 hk
  have O1' := O1.kept hk
  clear hk
  refine hK.out _ _ (B7) (fun _ => ?_)
  clear hK K
  try simp only [List.getElem_toArray]
  try simp only [List.getElem_cons_succ]
  try simp only [List.getElem_cons_zero]
  try simp only [Act.put]
  try simp only [List.setIfInBounds_toArray]
  try simp only [List.set_cons_succ]
  try simp only [List.set_cons_zero]
  refine wpAnyH_ready (rs := [50]) (by kernel_rfl) (by simp) ?_
  refine AllReadyH.cons rfl (fun K hK => ?_) AllReadyH.nil
  go_simp
  refine (same_ask _ _ (askF (cX a)) (by omega) O1' O2).mono ?_
  rintro e z7 ⟨rfl, hk⟩
  have B8 := Mid.still B7 hk
  clear hk O1 O2 O1'
  refine hK.out _ _ (B8) (fun _ => ?_)
  clear hK K
  try simp only [List.getElem_toArray]
  try simp only [List.getElem_cons_succ]
  try simp only [List.getElem_cons_zero]
  try simp only [Act.put]
  try simp only [List.setIfInBounds_toArray]
  try simp only [List.set_cons_succ]
  try simp only [List.set_cons_zero]
  refine wpAnyH_take (i := 51) (v := ?_) rfl (by kernel_rfl) (by kernel_rfl) (by kernel_rfl) (fun _ _ _ h => h) (Or.inl ⟨by kernel_rfl, fun W hSW => by go_simp; try with_reducible rfl⟩) (by assumption) ?_
  try simp only [List.getElem_toArray]
  try simp only [List.getElem_cons_succ]
  try simp only [List.getElem_cons_zero]
  try simp only [Act.put]
  try simp only [List.setIfInBounds_toArray]
  try simp only [List.set_cons_succ]
  try simp only [List.set_cons_zero]
  refine wpAnyH_take (i := 52) (v := ?_) rfl (by kernel_rfl) (by kernel_rfl) (by kernel_rfl) (fun _ _ _ h => h) (Or.inl ⟨by kernel_rfl, fun W hSW => by go_simp; try with_reducible rfl⟩) (by assumption) ?_
  try simp only [List.getElem_toArray]
  try simp only [List.getElem_cons_succ]
  try simp only [List.getElem_cons_zero]
  try simp only [Act.put]
  try simp only [List.setIfInBounds_toArray]
  try simp only [List.set_cons_succ]
  try simp only [List.set_cons_zero]
  refine wpAnyH_take (i := 53) (v := ?_) rfl (by kernel_rfl) (by kernel_rfl) (by kernel_rfl) (fun _ _ _ h => h) (Or.inl ⟨by kernel_rfl, fun W hSW => by go_simp; try with_reducible rfl⟩) (by assumption) ?_
  try simp only [List.getElem_toArray]
  try simp only [List.getElem_cons_succ]
  try simp only [List.getElem_cons_zero]
  try simp only [Act.put]
  try simp only [List.setIfInBounds_toArray]
  try simp only [List.set_cons_succ]
  try simp only [List.set_cons_zero]
  refine wpAnyH_take (i := 55) (v := ?_) rfl (by kernel_rfl) (by kernel_rfl) (by kernel_rfl) (fun _ _ _ h => h) (Or.inl ⟨by kernel_rfl, fun W hSW => by go_simp; try with_reducible rfl⟩) (by assumption) ?_
  try simp only [List.getElem_toArray]
  try simp only [List.getElem_cons_succ]
  try simp only [List.getElem_cons_zero]
  try simp only [Act.put]
  try simp only [List.setIfInBounds_toArray]
  try simp only [List.set_cons_succ]
  try simp only [List.set_cons_zero]
  refine wpAnyH_ready (rs := [54]) (by kernel_rfl) (by simp) ?_
  refine AllReadyH.cons rfl (fun K hK => ?_) AllReadyH.nil
  go_simp
  refine (Mid.mine (Mid.turn B8)).mono ?_
  rintro e z8 ⟨q3, k3, s3, rfl, O1, hk⟩
  have B9 := Mid.still B8 hk
  clear hk
  refine hK.out _ _ (B9) (fun _ => ?_)
  clear hK K
  try simp only [List.getElem_toArray]
  try simp only [List.getElem_cons_succ]
  try simp only [List.getElem_cons_zero]
  try simp only [Act.put]
  try simp only [List.setIfInBounds_toArray]
  try simp only [List.set_cons_succ]
  try simp only [List.set_cons_zero]
  refine wpAnyH_ready (rs := [56]) (by kernel_rfl) (by simp) ?_
  refine AllReadyH.cons rfl (fun K hK => ?_) AllReadyH.nil
  go_simp
  refine (Mid.theirs B9).mono ?_
  rintro e z9 ⟨q4, k4, s4, rfl, O2, hk⟩
  have B10 := Mid.still B9 hk
  have O1' := O1.kept hk
  clear hk
  refine hK.out _ _ (B10) (fun _ => ?_)
  clear hK K
  try simp only [List.getElem_toArray]
  try simp only [List.getElem_cons_succ]
  try simp only [List.getElem_cons_zero]
  try simp only [Act.put]
  try simp only [List.setIfInBounds_toArray]
  try simp only [List.set_cons_succ]
  try simp only [List.set_cons_zero]
  refine wpAnyH_ready (rs := [57]) (by kernel_rfl) (by simp) ?_
  refine AllReadyH.cons rfl (fun K hK => ?_) AllReadyH.nil
  go_simp
  refine (same_ask _ _ (askF (cY c)) (by omega) O1' O2).mono ?_
  rintro e z10 ⟨rfl, hk⟩
  have B11 := Mid.still B10 hk
  clear hk O1 O2 O1'
  refine hK.out _ _ (B11) (fun _ => ?_)
  clear hK K
  try simp only [List.getElem_toArray]
  try simp only [List.getElem_cons_succ]
  try simp only [List.getElem_cons_zero]
  try simp only [Act.put]
  try simp only [List.setIfInBounds_toArray]
  try simp only [List.set_cons_succ]
  try simp only [List.set_cons_zero]
  refine wpAnyH_take (i := 58) (v := ?_) rfl (by kernel_rfl) (by kernel_rfl) (by kernel_rfl) (fun _ _ _ h => h) (Or.inl ⟨by kernel_rfl, fun W hSW => by go_simp; try with_reducible rfl⟩) (by assumption) ?_
  try simp only [List.getElem_toArray]
  try simp only [List.getElem_cons_succ]
  try simp only [List.getElem_cons_zero]
  try simp only [Act.put]
  try simp only [List.setIfInBounds_toArray]
  try simp only [List.set_cons_succ]
  try simp only [List.set_cons_zero]
  refine wpAnyH_take (i := 59) (v := ?_) rfl (by kernel_rfl) (by kernel_rfl) (by kernel_rfl) (fun _ _ _ h => h) (Or.inl ⟨by kernel_rfl, fun W hSW => by go_simp; try with_reducible rfl⟩) (by assumption) ?_
  try simp only [List.getElem_toArray]
  try simp only [List.getElem_cons_succ]
  try simp only [List.getElem_cons_zero]
  try simp only [Act.put]
  try simp only [List.setIfInBounds_toArray]
  try simp only [List.set_cons_succ]
  try simp only [List.set_cons_zero]
  refine wpAnyH_done (by kernel_rfl) ?_ _
  have KF := hid (K0.out.trans (Mid.kept B11))
  go_wp2
  go_ret
  exact ⟨rfl, below_kept KF.out⟩
end Go.Proofs.YtklapjfljffahaaGreat
