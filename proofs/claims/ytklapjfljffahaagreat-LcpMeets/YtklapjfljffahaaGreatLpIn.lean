/- A config in memory, and the contract of lcp.Options. · The contract of Config.isGood. · The contracts of lcp.kindOf and authOf: the protocol that a value asks for, found in a map by a struct. · The contracts of lcp's rules: mruRule, magicRule, authRule, ownRules; a row of rules of a call's own. · A link in memory: its eight cells, its negotiation, its tape; what a call leaves; what it sends. · The contract of lcp.New where nothing is wrong. · The contracts of a link's small calls: negotiation, Do, State, isOpened, Loops, sign, draw; slices.Contains of options; hearsItself. · The contract of rulesFor: the rules of a request. · The contracts of a link's takeRequest, and of Take at a request. · The contract of a link's Take at a request. · The laws' config and alive. -/
import Derived.Test.YtklapjfljffahaaGreatLpPut
import Derived.Test.YtklapjfljffahaaGreatNgPush
import Derived.Deep.RegionWith
import Derived.Deep.DeepCutAuto
import Derived.Test.YtklapjfljffahaaGreatNgBook
import Derived.Test.YtklapjfljffahaaGreatNgSentK
import Derived.Test.YtklapjfljffahaaGreatTpBytes
import Derived.Test.YtklapjfljffahaaGreatNgMake
import Derived.Deep.RegionHeld3
import Derived.Test.YtklapjfljffahaaGreatOpEqual
namespace Go.Proofs.YtklapjfljffahaaGreat
open Go.RowKit

structure Cf where
  mru : Int
  auth : Int
  magic : Int
  echo : Int
  cf : Int
  tm : Int
  fails : Int
  wait : Int
def cfList (c : Cf) : List Value := [.int .i64 c.mru, .int .i64 c.auth, .int .i64 c.magic, .int .i64 c.echo, .int .i64 c.cf, .int .i64 c.tm, .int .i64 c.fails, .int .i64 c.wait]
def cfV (c : Cf) : Value := .agg #[.int .i64 c.mru, .int .i64 c.auth, .int .i64 c.magic, .int .i64 c.echo, .int .i64 c.cf, .int .i64 c.tm, .int .i64 c.fails, .int .i64 c.wait]
def CfgAt (W : World) (r : Nat) (c : Cf) : Prop := ∀ j x, (cfList c)[j]? = some x → W.cell? ⟨r, j, none⟩ = some x
theorem CfgAt.lt {W : World} {r : Nat} {c : Cf} (h : CfgAt W r c) : r < W.heap.size := lt_of_cell (h 0 _ rfl)
theorem CfgAt.kept {S : Nat → Prop} {W W' : World} {r : Nat} {c : Cf} (h : CfgAt W r c) (hk : Kept S W W') (hS : ¬ S r) : CfgAt W' r c := fun j x hj => (hk.cell (p := ⟨r, j, none⟩) h.lt hS).trans (h j x hj)
theorem CfgAt.kept0 {W W' : World} {r : Nat} {c : Cf} (h : CfgAt W r c) (hk : Kept (fun _ => False) W W') : CfgAt W' r c := h.kept hk id
theorem CfgAt.new (w : World) (c : Cf) : CfgAt (w.alloc (.cells #[.int .i64 c.mru, .int .i64 c.auth, .int .i64 c.magic, .int .i64 c.echo, .int .i64 c.cf, .int .i64 c.tm, .int .i64 c.fails, .int .i64 c.wait] 43)) w.heap.size c := fun j u h => by
  rw [World.cell?_alloc_new]
  simpa [cfList] using h

/-- What is asked for. -/
def askF (c : Cf) : List Tg := ((if c.mru != 1492 then [⟨1, numF c.mru 2⟩] else []) ++ (if c.auth != 0 then [⟨3, authF c.auth⟩] else [])) ++ (if c.magic != 0 then [⟨5, numF c.magic 4⟩] else [])

/-- A list of options of one's own grows; nothing else turns. -/
theorem grow_kept {A W W' : World} {v : Value} {l : List Tg} (hk : Kept (fun _ => False) A W) (ho : OwnO W A.heap.size v l) (h : Kept (fun i => v.ownBlock = some i) W W') : Kept (fun _ => False) A W' :=
  hk.andThen h (fun i hi e => by have := ho.baseB e; omega)

set_option linter.unusedSimpArgs false in
set_option maxHeartbeats 4000000 in
set_option maxRecDepth 100000 in
theorem options_any (c : Cf) (w : World) : Calls Tryz.prog 26 #[cfV c] w fun e w' => ∃ u, e = .returned u ∧ OwnO w' (w.heap.size + 1) u (askF c) ∧ Kept (fun _ => False) w w' := by
  unfold cfV
  have hk0 := (Kept.refl (fun _ => False) w).alloc (.cells #[.int .i64 c.mru, .int .i64 c.auth, .int .i64 c.magic, .int .i64 c.echo, .int .i64 c.cf, .int .i64 c.tm, .int .i64 c.fails, .int .i64 c.wait] 43)
  have HC := hid (CfgAt.new w c)
  have hsz : (w.alloc (.cells #[.int .i64 c.mru, .int .i64 c.auth, .int .i64 c.magic, .int .i64 c.echo, .int .i64 c.cf, .int .i64 c.tm, .int .i64 c.fails, .int .i64 c.wait] 43)).heap.size = w.heap.size + 1 := by simp
  generalize hA : w.alloc (.cells #[.int .i64 c.mru, .int .i64 c.auth, .int .i64 c.magic, .int .i64 c.echo, .int .i64 c.cf, .int .i64 c.tm, .int .i64 c.fails, .int .i64 c.wait] 43) = A at *
  have HA := hid hA
  have HS := hid hsz
  have HK0 := hid hk0
  have HP2 := hid (fun W => put_any c.mru 2 (by decide) (by decide) W)
  have HP4 := hid (fun W => put_any c.magic 4 (by decide) (by decide) W)
  have HPA := hid (fun W => authValue_any c.auth W)
  simp only [Int.cast_ofNat_Int] at HP2 HP4
  unfold askF
  have HO : Hid (OwnO A A.heap.size (.slice none 0 0) []) := OwnO.nil _ _
  have HK : Hid (Kept (fun _ => False) A A) := Kept.refl _ _
  clear hA hsz hk0
  cases h0 : (c.mru != 1492)
  case false =>
    cases h1 : (c.auth != 0)
    case false =>
      cases h2 : (c.magic != 0)
      case false =>
        simp only [if_true, if_false, Bool.false_eq_true, List.nil_append, List.append_nil]
        go_enter Tryz.func26, Tryz.ntmps26
        go_upto_region 1 with fail
        rw [HA.out]
        clear HA
        have x0 := HC.out 0 _ rfl
        have x1 := HC.out 1 _ rfl
        have x2 := HC.out 2 _ rfl
        go_wp2
        go_ret
        refine ⟨_, rfl, ?_, HK0.out.trans HK.out⟩
        rw [← HS.out]
        exact HO.out
      case true =>
        simp only [if_true, if_false, Bool.false_eq_true, List.nil_append, List.append_nil]
        go_enter Tryz.func26, Tryz.ntmps26
        go_upto_region 1 with fail
        rw [HA.out]
        clear HA
        have x0 := HC.out 0 _ rfl
        have x1 := HC.out 1 _ rfl
        have x2 := HC.out 2 _ rfl
        go_wp2_with fail
        refine (HP4.out _).mono ?_
        rintro e wa1 ⟨rfl, ka1⟩
        obtain ⟨v1, w1, hr1, ho1, hk1, _⟩ := pushO ⟨5, numF c.magic 4⟩ (HK.out.trans ka1).size (HO.out.kept ka1) (by simp)
        have HK1 := hid (grow_kept (HK.out.trans ka1) (HO.out.kept ka1) hk1)
        obtain ⟨p1, q1, rfl⟩ := slice_of ho1
        have HO1 := hid ho1
        unfold AppO at hr1
        simp only at hr1
        clear HK HO ho1 hk1 ka1 x0 x1 x2
        go_upto_region 8 with (at_builtin; refine Lib.wpList_append_run _ rfl _ _ _ _ rfl _ _ rfl rfl _ _ (hr1 _) ?_)
        have C1 := HC.out.kept0 HK1.out
        have x0 := C1 0 _ rfl
        have x1 := C1 1 _ rfl
        have x2 := C1 2 _ rfl
        clear C1
        have HK := HK1
        have HO := HO1
        clear HK1 HO1
        go_wp2
        go_ret
        refine ⟨_, rfl, ?_, HK0.out.trans HK.out⟩
        rw [← HS.out]
        exact HO.out
    case true =>
      cases h2 : (c.magic != 0)
      case false =>
        simp only [if_true, if_false, Bool.false_eq_true, List.nil_append, List.append_nil]
        go_enter Tryz.func26, Tryz.ntmps26
        go_upto_region 1 with fail
        rw [HA.out]
        clear HA
        have x0 := HC.out 0 _ rfl
        have x1 := HC.out 1 _ rfl
        have x2 := HC.out 2 _ rfl
        go_wp2_with fail
        refine (HPA.out _).mono ?_
        rintro e wa1 ⟨rfl, ka1⟩
        obtain ⟨v1, w1, hr1, ho1, hk1, _⟩ := pushO ⟨3, authF c.auth⟩ (HK.out.trans ka1).size (HO.out.kept ka1) (by simp)
        have HK1 := hid (grow_kept (HK.out.trans ka1) (HO.out.kept ka1) hk1)
        obtain ⟨p1, q1, rfl⟩ := slice_of ho1
        have HO1 := hid ho1
        unfold AppO at hr1
        simp only at hr1
        clear HK HO ho1 hk1 ka1 x0 x1 x2
        go_upto_region 6 with (at_builtin; refine Lib.wpList_append_run _ rfl _ _ _ _ rfl _ _ rfl rfl _ _ (hr1 _) ?_)
        have C1 := HC.out.kept0 HK1.out
        have x0 := C1 0 _ rfl
        have x1 := C1 1 _ rfl
        have x2 := C1 2 _ rfl
        clear C1
        have HK := HK1
        have HO := HO1
        clear HK1 HO1
        go_wp2
        go_ret
        refine ⟨_, rfl, ?_, HK0.out.trans HK.out⟩
        rw [← HS.out]
        exact HO.out
      case true =>
        simp only [if_true, if_false, Bool.false_eq_true, List.nil_append, List.append_nil]
        go_enter Tryz.func26, Tryz.ntmps26
        go_upto_region 1 with fail
        rw [HA.out]
        clear HA
        have x0 := HC.out 0 _ rfl
        have x1 := HC.out 1 _ rfl
        have x2 := HC.out 2 _ rfl
        go_wp2_with fail
        refine (HPA.out _).mono ?_
        rintro e wa1 ⟨rfl, ka1⟩
        obtain ⟨v1, w1, hr1, ho1, hk1, _⟩ := pushO ⟨3, authF c.auth⟩ (HK.out.trans ka1).size (HO.out.kept ka1) (by simp)
        have HK1 := hid (grow_kept (HK.out.trans ka1) (HO.out.kept ka1) hk1)
        obtain ⟨p1, q1, rfl⟩ := slice_of ho1
        have HO1 := hid ho1
        unfold AppO at hr1
        simp only at hr1
        clear HK HO ho1 hk1 ka1 x0 x1 x2
        go_upto_region 6 with (at_builtin; refine Lib.wpList_append_run _ rfl _ _ _ _ rfl _ _ rfl rfl _ _ (hr1 _) ?_)
        have C1 := HC.out.kept0 HK1.out
        have x0 := C1 0 _ rfl
        have x1 := C1 1 _ rfl
        have x2 := C1 2 _ rfl
        clear C1
        have HK := HK1
        have HO := HO1
        clear HK1 HO1
        go_wp2_with fail
        refine (HP4.out _).mono ?_
        rintro e wa2 ⟨rfl, ka2⟩
        obtain ⟨v2, w2, hr2, ho2, hk2, _⟩ := pushO ⟨5, numF c.magic 4⟩ (HK.out.trans ka2).size (HO.out.kept ka2) (by simp)
        have HK2 := hid (grow_kept (HK.out.trans ka2) (HO.out.kept ka2) hk2)
        obtain ⟨p2, q2, rfl⟩ := slice_of ho2
        have HO2 := hid ho2
        unfold AppO at hr2
        simp only at hr2
        clear HK HO ho2 hk2 ka2 x0 x1 x2
        go_upto_region 8 with (at_builtin; refine Lib.wpList_append_run _ rfl _ _ _ _ rfl _ _ rfl rfl _ _ (hr2 _) ?_)
        have C2 := HC.out.kept0 HK2.out
        have x0 := C2 0 _ rfl
        have x1 := C2 1 _ rfl
        have x2 := C2 2 _ rfl
        clear C2
        have HK := HK2
        have HO := HO2
        clear HK2 HO2
        go_wp2
        go_ret
        refine ⟨_, rfl, ?_, HK0.out.trans HK.out⟩
        rw [← HS.out]
        exact HO.out
  case true =>
    cases h1 : (c.auth != 0)
    case false =>
      cases h2 : (c.magic != 0)
      case false =>
        simp only [if_true, if_false, Bool.false_eq_true, List.nil_append, List.append_nil]
        go_enter Tryz.func26, Tryz.ntmps26
        go_upto_region 1 with fail
        rw [HA.out]
        clear HA
        have x0 := HC.out 0 _ rfl
        have x1 := HC.out 1 _ rfl
        have x2 := HC.out 2 _ rfl
        go_wp2_with fail
        refine (HP2.out _).mono ?_
        rintro e wa1 ⟨rfl, ka1⟩
        obtain ⟨v1, w1, hr1, ho1, hk1, _⟩ := pushO ⟨1, numF c.mru 2⟩ (HK.out.trans ka1).size (HO.out.kept ka1) (by simp)
        have HK1 := hid (grow_kept (HK.out.trans ka1) (HO.out.kept ka1) hk1)
        obtain ⟨p1, q1, rfl⟩ := slice_of ho1
        have HO1 := hid ho1
        unfold AppO at hr1
        simp only at hr1
        clear HK HO ho1 hk1 ka1 x0 x1 x2
        go_upto_region 4 with (at_builtin; refine Lib.wpList_append_run _ rfl _ _ _ _ rfl _ _ rfl rfl _ _ (hr1 _) ?_)
        have C1 := HC.out.kept0 HK1.out
        have x0 := C1 0 _ rfl
        have x1 := C1 1 _ rfl
        have x2 := C1 2 _ rfl
        clear C1
        have HK := HK1
        have HO := HO1
        clear HK1 HO1
        go_wp2
        go_ret
        refine ⟨_, rfl, ?_, HK0.out.trans HK.out⟩
        rw [← HS.out]
        exact HO.out
      case true =>
        simp only [if_true, if_false, Bool.false_eq_true, List.nil_append, List.append_nil]
        go_enter Tryz.func26, Tryz.ntmps26
        go_upto_region 1 with fail
        rw [HA.out]
        clear HA
        have x0 := HC.out 0 _ rfl
        have x1 := HC.out 1 _ rfl
        have x2 := HC.out 2 _ rfl
        go_wp2_with fail
        refine (HP2.out _).mono ?_
        rintro e wa1 ⟨rfl, ka1⟩
        obtain ⟨v1, w1, hr1, ho1, hk1, _⟩ := pushO ⟨1, numF c.mru 2⟩ (HK.out.trans ka1).size (HO.out.kept ka1) (by simp)
        have HK1 := hid (grow_kept (HK.out.trans ka1) (HO.out.kept ka1) hk1)
        obtain ⟨p1, q1, rfl⟩ := slice_of ho1
        have HO1 := hid ho1
        unfold AppO at hr1
        simp only at hr1
        clear HK HO ho1 hk1 ka1 x0 x1 x2
        go_upto_region 4 with (at_builtin; refine Lib.wpList_append_run _ rfl _ _ _ _ rfl _ _ rfl rfl _ _ (hr1 _) ?_)
        have C1 := HC.out.kept0 HK1.out
        have x0 := C1 0 _ rfl
        have x1 := C1 1 _ rfl
        have x2 := C1 2 _ rfl
        clear C1
        have HK := HK1
        have HO := HO1
        clear HK1 HO1
        go_wp2_with fail
        refine (HP4.out _).mono ?_
        rintro e wa2 ⟨rfl, ka2⟩
        obtain ⟨v2, w2, hr2, ho2, hk2, _⟩ := pushO ⟨5, numF c.magic 4⟩ (HK.out.trans ka2).size (HO.out.kept ka2) (by simp)
        have HK2 := hid (grow_kept (HK.out.trans ka2) (HO.out.kept ka2) hk2)
        obtain ⟨p2, q2, rfl⟩ := slice_of ho2
        have HO2 := hid ho2
        unfold AppO at hr2
        simp only at hr2
        clear HK HO ho2 hk2 ka2 x0 x1 x2
        go_upto_region 8 with (at_builtin; refine Lib.wpList_append_run _ rfl _ _ _ _ rfl _ _ rfl rfl _ _ (hr2 _) ?_)
        have C2 := HC.out.kept0 HK2.out
        have x0 := C2 0 _ rfl
        have x1 := C2 1 _ rfl
        have x2 := C2 2 _ rfl
        clear C2
        have HK := HK2
        have HO := HO2
        clear HK2 HO2
        go_wp2
        go_ret
        refine ⟨_, rfl, ?_, HK0.out.trans HK.out⟩
        rw [← HS.out]
        exact HO.out
    case true =>
      cases h2 : (c.magic != 0)
      case false =>
        simp only [if_true, if_false, Bool.false_eq_true, List.nil_append, List.append_nil]
        go_enter Tryz.func26, Tryz.ntmps26
        go_upto_region 1 with fail
        rw [HA.out]
        clear HA
        have x0 := HC.out 0 _ rfl
        have x1 := HC.out 1 _ rfl
        have x2 := HC.out 2 _ rfl
        go_wp2_with fail
        refine (HP2.out _).mono ?_
        rintro e wa1 ⟨rfl, ka1⟩
        obtain ⟨v1, w1, hr1, ho1, hk1, _⟩ := pushO ⟨1, numF c.mru 2⟩ (HK.out.trans ka1).size (HO.out.kept ka1) (by simp)
        have HK1 := hid (grow_kept (HK.out.trans ka1) (HO.out.kept ka1) hk1)
        obtain ⟨p1, q1, rfl⟩ := slice_of ho1
        have HO1 := hid ho1
        unfold AppO at hr1
        simp only at hr1
        clear HK HO ho1 hk1 ka1 x0 x1 x2
        go_upto_region 4 with (at_builtin; refine Lib.wpList_append_run _ rfl _ _ _ _ rfl _ _ rfl rfl _ _ (hr1 _) ?_)
        have C1 := HC.out.kept0 HK1.out
        have x0 := C1 0 _ rfl
        have x1 := C1 1 _ rfl
        have x2 := C1 2 _ rfl
        clear C1
        have HK := HK1
        have HO := HO1
        clear HK1 HO1
        go_wp2_with fail
        refine (HPA.out _).mono ?_
        rintro e wa2 ⟨rfl, ka2⟩
        obtain ⟨v2, w2, hr2, ho2, hk2, _⟩ := pushO ⟨3, authF c.auth⟩ (HK.out.trans ka2).size (HO.out.kept ka2) (by simp)
        have HK2 := hid (grow_kept (HK.out.trans ka2) (HO.out.kept ka2) hk2)
        obtain ⟨p2, q2, rfl⟩ := slice_of ho2
        have HO2 := hid ho2
        unfold AppO at hr2
        simp only at hr2
        clear HK HO ho2 hk2 ka2 x0 x1 x2
        go_upto_region 6 with (at_builtin; refine Lib.wpList_append_run _ rfl _ _ _ _ rfl _ _ rfl rfl _ _ (hr2 _) ?_)
        have C2 := HC.out.kept0 HK2.out
        have x0 := C2 0 _ rfl
        have x1 := C2 1 _ rfl
        have x2 := C2 2 _ rfl
        clear C2
        have HK := HK2
        have HO := HO2
        clear HK2 HO2
        go_wp2
        go_ret
        refine ⟨_, rfl, ?_, HK0.out.trans HK.out⟩
        rw [← HS.out]
        exact HO.out
      case true =>
        simp only [if_true, if_false, Bool.false_eq_true, List.nil_append, List.append_nil]
        go_enter Tryz.func26, Tryz.ntmps26
        go_upto_region 1 with fail
        rw [HA.out]
        clear HA
        have x0 := HC.out 0 _ rfl
        have x1 := HC.out 1 _ rfl
        have x2 := HC.out 2 _ rfl
        go_wp2_with fail
        refine (HP2.out _).mono ?_
        rintro e wa1 ⟨rfl, ka1⟩
        obtain ⟨v1, w1, hr1, ho1, hk1, _⟩ := pushO ⟨1, numF c.mru 2⟩ (HK.out.trans ka1).size (HO.out.kept ka1) (by simp)
        have HK1 := hid (grow_kept (HK.out.trans ka1) (HO.out.kept ka1) hk1)
        obtain ⟨p1, q1, rfl⟩ := slice_of ho1
        have HO1 := hid ho1
        unfold AppO at hr1
        simp only at hr1
        clear HK HO ho1 hk1 ka1 x0 x1 x2
        go_upto_region 4 with (at_builtin; refine Lib.wpList_append_run _ rfl _ _ _ _ rfl _ _ rfl rfl _ _ (hr1 _) ?_)
        have C1 := HC.out.kept0 HK1.out
        have x0 := C1 0 _ rfl
        have x1 := C1 1 _ rfl
        have x2 := C1 2 _ rfl
        clear C1
        have HK := HK1
        have HO := HO1
        clear HK1 HO1
        go_wp2_with fail
        refine (HPA.out _).mono ?_
        rintro e wa2 ⟨rfl, ka2⟩
        obtain ⟨v2, w2, hr2, ho2, hk2, _⟩ := pushO ⟨3, authF c.auth⟩ (HK.out.trans ka2).size (HO.out.kept ka2) (by simp)
        have HK2 := hid (grow_kept (HK.out.trans ka2) (HO.out.kept ka2) hk2)
        obtain ⟨p2, q2, rfl⟩ := slice_of ho2
        have HO2 := hid ho2
        unfold AppO at hr2
        simp only at hr2
        clear HK HO ho2 hk2 ka2 x0 x1 x2
        go_upto_region 6 with (at_builtin; refine Lib.wpList_append_run _ rfl _ _ _ _ rfl _ _ rfl rfl _ _ (hr2 _) ?_)
        have C2 := HC.out.kept0 HK2.out
        have x0 := C2 0 _ rfl
        have x1 := C2 1 _ rfl
        have x2 := C2 2 _ rfl
        clear C2
        have HK := HK2
        have HO := HO2
        clear HK2 HO2
        go_wp2_with fail
        refine (HP4.out _).mono ?_
        rintro e wa3 ⟨rfl, ka3⟩
        obtain ⟨v3, w3, hr3, ho3, hk3, _⟩ := pushO ⟨5, numF c.magic 4⟩ (HK.out.trans ka3).size (HO.out.kept ka3) (by simp)
        have HK3 := hid (grow_kept (HK.out.trans ka3) (HO.out.kept ka3) hk3)
        obtain ⟨p3, q3, rfl⟩ := slice_of ho3
        have HO3 := hid ho3
        unfold AppO at hr3
        simp only at hr3
        clear HK HO ho3 hk3 ka3 x0 x1 x2
        go_upto_region 8 with (at_builtin; refine Lib.wpList_append_run _ rfl _ _ _ _ rfl _ _ rfl rfl _ _ (hr3 _) ?_)
        have C3 := HC.out.kept0 HK3.out
        have x0 := C3 0 _ rfl
        have x1 := C3 1 _ rfl
        have x2 := C3 2 _ rfl
        clear C3
        have HK := HK3
        have HO := HO3
        clear HK3 HO3
        go_wp2
        go_ret
        refine ⟨_, rfl, ?_, HK0.out.trans HK.out⟩
        rw [← HS.out]
        exact HO.out
end Go.Proofs.YtklapjfljffahaaGreat

namespace Go.Proofs.YtklapjfljffahaaGreat
open Go.RowKit

structure GoodC (c : Cf) : Prop where
  mru1 : 64 ≤ c.mru
  mru2 : c.mru ≤ 1492
  auth : c.auth = 0 ∨ c.auth = 49187 ∨ c.auth = 49699
  mag1 : 0 ≤ c.magic
  mag2 : c.magic ≤ 4294967295
  echo1 : 0 ≤ c.echo
  echo2 : c.echo ≤ 100

theorem authF_ne {a : Int} (h : a = 49187 ∨ a = 49699) : (authF a).toList.isEmpty = false := by
  rcases h with rfl | rfl
  · kernel_rfl
  · kernel_rfl
theorem authF_no {a : Int} (h1 : a ≠ 49187) (h2 : a ≠ 49699) : authF a = ⟨#[]⟩ := by
  unfold authF
  rw [if_neg h1, if_neg h2]

set_option maxHeartbeats 4000000 in
set_option maxRecDepth 100000 in
theorem isGood_yes (c : Cf) (h : GoodC c) (w : World) : Calls Tryz.prog 44 #[cfV c] w fun e w' => e = .returned (.bool true) ∧ Kept (fun _ => False) w w' := by
  unfold cfV
  have HC := hid (CfgAt.new w c)
  have HK0 := hid ((Kept.refl (fun _ => False) w).alloc (.cells #[.int .i64 c.mru, .int .i64 c.auth, .int .i64 c.magic, .int .i64 c.echo, .int .i64 c.cf, .int .i64 c.tm, .int .i64 c.fails, .int .i64 c.wait] 43))
  generalize hA : w.alloc (.cells #[.int .i64 c.mru, .int .i64 c.auth, .int .i64 c.magic, .int .i64 c.echo, .int .i64 c.cf, .int .i64 c.tm, .int .i64 c.fails, .int .i64 c.wait] 43) = A at *
  have HA := hid hA
  clear hA
  have x0 := HC.out 0 _ rfl
  have x1 := HC.out 1 _ rfl
  have x2 := HC.out 2 _ rfl
  have x3 := HC.out 3 _ rfl
  obtain ⟨h1, h2, h3, h4, h5, h6, h7⟩ := h
  rcases h3 with e | h3
  · have ez : (c.auth == 0) = true := by simp [e]
    clear e
    go_enter Tryz.func44, Tryz.ntmps44
    go_upto_region 1 with fail
    rw [HA.out]
    go_wp2
    go_ret
    exact ⟨rfl, HK0.out⟩
  · have ez : (c.auth == 0) = false := by rcases h3 with e | e <;> simp [e]
    have HP := hid (authValue_any c.auth A)
    have hne := authF_ne h3
    generalize authF c.auth = S at *
    clear h3
    go_enter Tryz.func44, Tryz.ntmps44
    go_upto_region 1 with fail
    rw [HA.out]
    go_wp2_with fail
    refine HP.out.mono ?_
    rintro e w1 ⟨rfl, hk⟩
    have C1 := HC.out.kept0 hk
    have y0 := C1 0 _ rfl
    have y1 := C1 1 _ rfl
    have y2 := C1 2 _ rfl
    have y3 := C1 3 _ rfl
    have K1 := hid (HK0.out.trans hk)
    clear hk C1 x0 x1 x2 x3
    go_wp2
    go_ret
    exact ⟨rfl, K1.out⟩
set_option maxHeartbeats 8000000 in
set_option maxRecDepth 100000 in
theorem isGood_no (c : Cf) (h : ¬ GoodC c) (w : World) : Calls Tryz.prog 44 #[cfV c] w fun e w' => e = .returned (.bool false) ∧ Kept (fun _ => False) w w' := by
  unfold cfV
  have HC := hid (CfgAt.new w c)
  have HK0 := hid ((Kept.refl (fun _ => False) w).alloc (.cells #[.int .i64 c.mru, .int .i64 c.auth, .int .i64 c.magic, .int .i64 c.echo, .int .i64 c.cf, .int .i64 c.tm, .int .i64 c.fails, .int .i64 c.wait] 43))
  generalize hA : w.alloc (.cells #[.int .i64 c.mru, .int .i64 c.auth, .int .i64 c.magic, .int .i64 c.echo, .int .i64 c.cf, .int .i64 c.tm, .int .i64 c.fails, .int .i64 c.wait] 43) = A at *
  have HA := hid hA
  clear hA
  have x0 := HC.out 0 _ rfl
  have x1 := HC.out 1 _ rfl
  have x2 := HC.out 2 _ rfl
  have x3 := HC.out 3 _ rfl
  by_cases h1 : 64 ≤ c.mru
  rotate_left
  · clear h
    go_enter Tryz.func44, Tryz.ntmps44
    go_upto_region 1 with fail
    rw [HA.out]
    go_wp2
    go_ret
    exact ⟨rfl, HK0.out⟩
  by_cases h2 : c.mru ≤ 1492
  rotate_left
  · clear h
    go_enter Tryz.func44, Tryz.ntmps44
    go_upto_region 1 with fail
    rw [HA.out]
    go_wp2
    go_ret
    exact ⟨rfl, HK0.out⟩
  by_cases h3 : c.auth = 0 ∨ c.auth = 49187 ∨ c.auth = 49699
  rotate_left
  · have ez : (c.auth == 0) = false := by simp; omega
    have HP := hid (authValue_any c.auth A)
    rw [authF_no (by omega) (by omega)] at HP
    clear h h3
    go_enter Tryz.func44, Tryz.ntmps44
    go_upto_region 1 with fail
    rw [HA.out]
    go_wp2_with fail
    refine HP.out.mono ?_
    rintro e w1 ⟨rfl, hk⟩
    have C1 := HC.out.kept0 hk
    have y0 := C1 0 _ rfl
    have y1 := C1 1 _ rfl
    have y2 := C1 2 _ rfl
    have y3 := C1 3 _ rfl
    have K1 := hid (HK0.out.trans hk)
    clear hk C1 x0 x1 x2 x3
    go_wp2
    go_ret
    exact ⟨rfl, K1.out⟩
  by_cases h4 : 0 ≤ c.magic
  rotate_left
  · clear h
    rcases h3 with e | h3
    · have ez : (c.auth == 0) = true := by simp [e]
      clear e
      go_enter Tryz.func44, Tryz.ntmps44
      go_upto_region 1 with fail
      rw [HA.out]
      go_wp2
      go_ret
      exact ⟨rfl, HK0.out⟩
    · have ez : (c.auth == 0) = false := by rcases h3 with e | e <;> simp [e]
      have HP := hid (authValue_any c.auth A)
      have hne := authF_ne h3
      generalize authF c.auth = S at *
      clear h3
      go_enter Tryz.func44, Tryz.ntmps44
      go_upto_region 1 with fail
      rw [HA.out]
      go_wp2_with fail
      refine HP.out.mono ?_
      rintro e w1 ⟨rfl, hk⟩
      have C1 := HC.out.kept0 hk
      have y0 := C1 0 _ rfl
      have y1 := C1 1 _ rfl
      have y2 := C1 2 _ rfl
      have y3 := C1 3 _ rfl
      have K1 := hid (HK0.out.trans hk)
      clear hk C1 x0 x1 x2 x3
      go_wp2
      go_ret
      exact ⟨rfl, K1.out⟩
  by_cases h5 : c.magic ≤ 4294967295
  rotate_left
  · clear h
    rcases h3 with e | h3
    · have ez : (c.auth == 0) = true := by simp [e]
      clear e
      go_enter Tryz.func44, Tryz.ntmps44
      go_upto_region 1 with fail
      rw [HA.out]
      go_wp2
      go_ret
      exact ⟨rfl, HK0.out⟩
    · have ez : (c.auth == 0) = false := by rcases h3 with e | e <;> simp [e]
      have HP := hid (authValue_any c.auth A)
      have hne := authF_ne h3
      generalize authF c.auth = S at *
      clear h3
      go_enter Tryz.func44, Tryz.ntmps44
      go_upto_region 1 with fail
      rw [HA.out]
      go_wp2_with fail
      refine HP.out.mono ?_
      rintro e w1 ⟨rfl, hk⟩
      have C1 := HC.out.kept0 hk
      have y0 := C1 0 _ rfl
      have y1 := C1 1 _ rfl
      have y2 := C1 2 _ rfl
      have y3 := C1 3 _ rfl
      have K1 := hid (HK0.out.trans hk)
      clear hk C1 x0 x1 x2 x3
      go_wp2
      go_ret
      exact ⟨rfl, K1.out⟩
  by_cases h6 : 0 ≤ c.echo
  rotate_left
  · clear h
    rcases h3 with e | h3
    · have ez : (c.auth == 0) = true := by simp [e]
      clear e
      go_enter Tryz.func44, Tryz.ntmps44
      go_upto_region 1 with fail
      rw [HA.out]
      go_wp2
      go_ret
      exact ⟨rfl, HK0.out⟩
    · have ez : (c.auth == 0) = false := by rcases h3 with e | e <;> simp [e]
      have HP := hid (authValue_any c.auth A)
      have hne := authF_ne h3
      generalize authF c.auth = S at *
      clear h3
      go_enter Tryz.func44, Tryz.ntmps44
      go_upto_region 1 with fail
      rw [HA.out]
      go_wp2_with fail
      refine HP.out.mono ?_
      rintro e w1 ⟨rfl, hk⟩
      have C1 := HC.out.kept0 hk
      have y0 := C1 0 _ rfl
      have y1 := C1 1 _ rfl
      have y2 := C1 2 _ rfl
      have y3 := C1 3 _ rfl
      have K1 := hid (HK0.out.trans hk)
      clear hk C1 x0 x1 x2 x3
      go_wp2
      go_ret
      exact ⟨rfl, K1.out⟩
  have h7 : ¬ c.echo ≤ 100 := fun h7 => h ⟨h1, h2, h3, h4, h5, h6, h7⟩
  have h8 : decide (c.echo ≤ 100) = false := by simpa using h7
  clear h
  rcases h3 with e | h3
  · have ez : (c.auth == 0) = true := by simp [e]
    clear e
    go_enter Tryz.func44, Tryz.ntmps44
    go_upto_region 1 with fail
    rw [HA.out]
    go_wp2
    go_ret
    exact ⟨rfl, HK0.out⟩
  · have ez : (c.auth == 0) = false := by rcases h3 with e | e <;> simp [e]
    have HP := hid (authValue_any c.auth A)
    have hne := authF_ne h3
    generalize authF c.auth = S at *
    clear h3
    go_enter Tryz.func44, Tryz.ntmps44
    go_upto_region 1 with fail
    rw [HA.out]
    go_wp2_with fail
    refine HP.out.mono ?_
    rintro e w1 ⟨rfl, hk⟩
    have C1 := HC.out.kept0 hk
    have y0 := C1 0 _ rfl
    have y1 := C1 1 _ rfl
    have y2 := C1 2 _ rfl
    have y3 := C1 3 _ rfl
    have K1 := hid (HK0.out.trans hk)
    clear hk C1 x0 x1 x2 x3
    go_wp2
    go_ret
    exact ⟨rfl, K1.out⟩
end Go.Proofs.YtklapjfljffahaaGreat

namespace Go.Proofs.YtklapjfljffahaaGreat
open Go.RowKit
open Go.Maps (Keyed)

theorem keyWay : Keyed Tryz.prog 113 := Keyed.of_law (deep_law_laid laidOutT (m := 5) (by decide) (of_decide_eq_true (by kernel_rfl)) (by kernel_rfl) (by kernel_rfl))
theorem keyTypeWay : Tryz.prog.keyType 113 = true := by kernel_rfl
theorem cellsWay : Tryz.prog.cellsOf 113 = 2 := by kernel_rfl
theorem zeroInt (w : World) : (zeroValue 3).run Tryz.prog w = .ok (.int .i64 0) w := by kernel_rfl
theorem way_reads {k i : Int} (hk : In64 k) (hi : In64 i) : ∃ l, keyOf Tryz.prog 113 (keyV k i) = some l := by
  obtain ⟨n, hn⟩ := typesPos
  refine ⟨.string (keyBytes [.int .i64 k, .int .i64 i]), ?_⟩
  unfold keyOf keyV
  rw [hn]
  simp [Tryz.underlying113, keyTypeWay, cellsWay, cellsIntA, Value.formed, Value.cells, Program.keyLits, Tryz.underlying3, wf64 hk, wf64 hi]

/-- The protocol of a value of so many bytes and this number. -/
def kindN (size num : Int) : Int := if size = 2 ∧ num = 49187 then 49187 else if size = 3 ∧ num = 12722949 then 49699 else 0
def kindF (s : ByteArray) : Int := kindN (s.size : Int) ((valueF s.data.toList).1 : Int)

/-- The map of the two ways. -/
def WaysAre (W : World) (mb : Nat) : Prop := ∃ L, Assoc W Tryz.prog 113 mb L ∧ ∀ p : Value × Value, p ∈ L ↔ (p = (keyV 2 49187, .int .i64 49187) ∨ p = (keyV 3 12722949, .int .i64 49699))
theorem WaysAre.kept0 {W W' : World} {mb : Nat} (h : WaysAre W mb) (hk : Kept (fun _ => False) W W') : WaysAre W' mb := by
  obtain ⟨L, hA, hL⟩ := h
  exact ⟨L, hA.same (hk.block mb hA.lt id), hL⟩
theorem WaysAre.look {W : World} {mb : Nat} (h : WaysAre W mb) {x y : Int} (hx : In64 x) (hy : In64 y) :
    (Instr.lookup 114 (.map (some mb)) (.agg #[.int .i64 x, .int .i64 y]) false).run Tryz.prog W = .ok (.int .i64 (kindN x y)) W := by
  obtain ⟨L, hA, hL⟩ := h
  obtain ⟨l, hl⟩ := way_reads hx hy
  have hq := hA.look false keyWay Tryz.underlying114 (zeroInt W) hl
  unfold kindN
  rcases hq with ⟨hn, hr⟩ | ⟨v, hv, hr⟩
  · have h1 : ¬ (x = 2 ∧ y = 49187) := fun e => hn _ ((hL _).2 (Or.inl rfl)) (by rw [e.1, e.2])
    have h2 : ¬ (x = 3 ∧ y = 12722949) := fun e => hn _ ((hL _).2 (Or.inr rfl)) (by rw [e.1, e.2])
    rw [if_neg h1, if_neg h2]
    exact hr
  · rcases (hL _).1 hv with e | e
    · have e1 := keyV_inj (congrArg Prod.fst e)
      have e2 : v = .int .i64 49187 := congrArg Prod.snd e
      rw [if_pos e1, ← e2]
      exact hr
    · have e1 := keyV_inj (congrArg Prod.fst e)
      have e2 : v = .int .i64 49699 := congrArg Prod.snd e
      rw [if_neg (fun h => by have := h.1; have := e1.1; omega), if_pos e1, ← e2]
      exact hr

theorem ways_two {W : World} {mb : Nat} (h : Assoc W Tryz.prog 113 mb []) (k1 k2 a1 a2 v1 v2 : Int) (h1 : In64 k1) (h2 : In64 k2) (h3 : In64 a1) (h4 : In64 a2) (hne : keyV k1 a1 ≠ keyV k2 a2) :
    ∃ w1 w2, (Instr.mapUpdate 114 (.map (some mb)) (keyV k1 a1) (.int .i64 v1)).run Tryz.prog W = .ok () w1 ∧ (Instr.mapUpdate 114 (.map (some mb)) (keyV k2 a2) (.int .i64 v2)).run Tryz.prog w1 = .ok () w2 ∧ Assoc w2 Tryz.prog 113 mb [(keyV k2 a2, .int .i64 v2), (keyV k1 a1, .int .i64 v1)] ∧ Kept (fun i => i = mb) W w2 := by
  obtain ⟨l1, hl1⟩ := way_reads h1 h3
  obtain ⟨l2, hl2⟩ := way_reads h2 h4
  obtain ⟨w1, r1, A1, t1⟩ := h.store keyWay Tryz.underlying114 (by decide) (val := .int .i64 v1) hl1 (M := []) (Or.inl ⟨List.Perm.refl _, fun p hp => absurd hp List.not_mem_nil⟩)
  obtain ⟨w2, r2, A2, t2⟩ := A1.store keyWay Tryz.underlying114 (by unfold maxLen; simp) (val := .int .i64 v2) hl2 (M := [(keyV k1 a1, .int .i64 v1)]) (Or.inl ⟨List.Perm.refl _, fun p hp => by rw [List.mem_singleton.1 hp]; exact hne⟩)
  exact ⟨w1, w2, r1, r2, A2, (kept_turned t1).trans (kept_turned t2)⟩

set_option maxHeartbeats 2000000 in
set_option maxRecDepth 100000 in
theorem kindOf_any (s : ByteArray) (hs : s.size ≤ maxLen) (w : World) : Calls Tryz.prog 54 #[.string s] w fun e w' => e = .returned (.int .i64 (kindF s)) ∧ Kept (fun _ => False) w w' := by
  have hmm := @run_makeMap Tryz.prog
  have hsz : In64 (s.size : Int) := ⟨by omega, by unfold maxLen at hs; omega⟩
  have HV := hid (fun W => value_any s hs W)
  have hnum : In64 ((valueF s.data.toList).1 : Int) := by
    unfold valueF
    split
    · exact ⟨by decide, by decide⟩
    · rename_i h7
      have := numOf_lt s.data.toList
      have h8 : 256 ^ s.data.toList.length ≤ 256 ^ 7 := Nat.pow_le_pow_right (by decide) (by omega)
      refine ⟨by simp only; omega, ?_⟩
      simp only
      have : (256 : Nat) ^ 7 = 72057594037927936 := by decide
      omega
  have k0 := ((Kept.refl (fun _ => False) w).alloc (.map #[] 0)).drew
  have M0 : Assoc (w.alloc (.map #[] 0)).drew Tryz.prog 113 w.heap.size [] := (Assoc.made w Tryz.prog 113).same rfl
  have hn1 : keyV 2 49187 ≠ keyV 3 12722949 := fun e => by have := (keyV_inj e).1; omega
  obtain ⟨wa, wab, ra, rab, Aab, kab⟩ := ways_two M0 2 3 49187 12722949 49187 49699 ⟨by decide, by decide⟩ ⟨by decide, by decide⟩ ⟨by decide, by decide⟩ ⟨by decide, by decide⟩ hn1
  obtain ⟨wb, wba, rb, rba, Aba, kba⟩ := ways_two M0 3 2 12722949 49187 49699 49187 ⟨by decide, by decide⟩ ⟨by decide, by decide⟩ ⟨by decide, by decide⟩ ⟨by decide, by decide⟩ (Ne.symm hn1)
  have Fab : Hid (WaysAre wab w.heap.size ∧ Kept (fun _ => False) w wab) := ⟨⟨_, Aab, fun p => by simp; exact or_comm⟩, k0.andThen kab (fun i hi e => by omega)⟩
  have Fba : Hid (WaysAre wba w.heap.size ∧ Kept (fun _ => False) w wba) := ⟨⟨_, Aba, fun p => by simp⟩, k0.andThen kba (fun i hi e => by omega)⟩
  unfold keyV at ra rab rb rba
  unfold kindF
  have HN := hid hnum
  clear M0 Aab kab Aba kba k0 hs hnum
  generalize ((valueF s.data.toList).1 : Int) = num at *
  generalize (valueF s.data.toList).2 = ok at *
  go_enter Tryz.func54, Tryz.ntmps54
  go_wp2_with fail
  go_region
  all_goals
    have l1 := Fab.out.1.look hsz HN.out
    have l2 := Fba.out.1.look hsz HN.out
    go_wp2_with (first | (go_at_call 29; refine (HV.out _).mono ?_; rintro e w' ⟨rfl, hw⟩; rw [hw]; clear hw w'))
    go_ret
    first | exact ⟨rfl, Fab.out.2⟩ | exact ⟨rfl, Fba.out.2⟩

/-- The protocol that options ask for. -/
def authOfF (l : List Tg) : Int := kindF (findOB l 3)
set_option maxHeartbeats 2000000 in
set_option maxRecDepth 100000 in
theorem authOf_any (v : Value) (l : List Tg) (w : World) (hv : TagsAt w v l) (hl : l.length ≤ 1000000) (hsz : ∀ x ∈ l, x.value.size ≤ 140737488351232) :
    Calls Tryz.prog 30 #[v] w fun e w' => e = .returned (.int .i64 (authOfF l)) ∧ Kept (fun _ => False) w w' := by
  have HF := hid (findOpt_any v l 3 w hv hl hsz)
  have hS : (findOB l 3).size ≤ maxLen := by
    unfold findOB findO maxLen
    cases hq : l.find? (fun t => t.type == 3) with
    | none => exact Nat.zero_le _
    | some t =>
      have := hsz t (List.mem_of_find?_eq_some hq)
      simp
      omega
  have HKd := hid (fun W => kindOf_any (findOB l 3) hS W)
  unfold authOfF
  obtain ⟨p, cap, rfl⟩ := hv.slice
  clear hv hsz hS
  generalize findOB l 3 = S at *
  generalize (findO l 3).isSome = ok at *
  generalize kindF S = R at *
  go_enter Tryz.func30, Tryz.ntmps30
  go_wp2_with fail
  refine HF.out.mono ?_
  rintro e w1 ⟨rfl, hk1⟩
  have K1 := hid hk1
  clear hk1 HF
  go_wp2_with fail
  refine (HKd.out _).mono ?_
  rintro e w2 ⟨rfl, hk2⟩
  have K2 := hid (K1.out.trans hk2)
  clear hk2
  go_wp2
  go_ret
  exact ⟨rfl, K2.out⟩
end Go.Proofs.YtklapjfljffahaaGreat

namespace Go.Proofs.YtklapjfljffahaaGreat
open Go.RowKit

def mruR (most : Int) : Rl := ⟨1, 2, 64, most, numF 1492 2⟩
def magicR : Rl := ⟨5, 4, 1, 4294967295, numF 1 4⟩
def chapR : Rl := ⟨3, 3, 12722949, 12722949, numF 12722949 3⟩
def papR : Rl := ⟨3, 2, 49187, 49187, numF 49187 2⟩

/-- The cells of a rule's place, whatever they hold, open. -/
structure Open5 (W : World) (b : Nat) : Prop where
  c : ∀ j, j < 5 → ∃ u, W.cell? ⟨b, j, none⟩ = some u
  f : ∀ j, W.frozen? ⟨b, j, none⟩ = false
  lt : b < W.heap.size
theorem Open5.kept {S : Nat → Prop} {W W' : World} {b : Nat} (h : Open5 W b) (hk : Kept S W W') (hS : ¬ S b) : Open5 W' b :=
  ⟨fun j hj => by obtain ⟨u, hu⟩ := h.c j hj; exact ⟨u, (hk.cell (p := ⟨b, j, none⟩) h.lt hS).trans hu⟩, fun j => (hk.frozen (p := ⟨b, j, none⟩) h.lt hS).trans (h.f j), Nat.lt_of_lt_of_le h.lt hk.size⟩
theorem Open5.new (w : World) : Open5 (w.alloc (.cells #[.int .i64 0, .int .i64 0, .int .i64 0, .int .i64 0, .string ⟨#[]⟩] 109)) w.heap.size := by
  refine ⟨fun j hj => ?_, fun j => frozen_of_row _ w.heap.size j _ _ (heap_alloc_new w _), by simp⟩
  have h : j = 0 ∨ j = 1 ∨ j = 2 ∨ j = 3 ∨ j = 4 := by omega
  obtain ⟨b0, b1, b2, b3, b4⟩ := boxR_new w rl0
  rcases h with rfl | rfl | rfl | rfl | rfl
  · exact ⟨_, b0⟩
  · exact ⟨_, b1⟩
  · exact ⟨_, b2⟩
  · exact ⟨_, b3⟩
  · exact ⟨_, b4⟩
theorem set5_kept {S : Nat → Prop} {A W : World} {b : Nat} (hk : Kept S A W) (hb : A.heap.size ≤ b) (x0 x1 x2 x3 x4 : Value) :
    Kept S A (((((W.setCell ⟨b, 0, none⟩ x0).setCell ⟨b, 1, none⟩ x1).setCell ⟨b, 2, none⟩ x2).setCell ⟨b, 3, none⟩ x3).setCell ⟨b, 4, none⟩ x4) :=
  ((((hk.setCell (p := ⟨b, 0, none⟩) (Or.inl hb) x0).setCell (p := ⟨b, 1, none⟩) (Or.inl hb) x1).setCell (p := ⟨b, 2, none⟩) (Or.inl hb) x2).setCell (p := ⟨b, 3, none⟩) (Or.inl hb) x3).setCell (p := ⟨b, 4, none⟩) (Or.inl hb) x4

set_option maxHeartbeats 2000000 in
set_option maxRecDepth 100000 in
theorem mruRule_any (m : Int) (w : World) : Calls Tryz.prog 78 #[.int .i64 m] w fun e w' => e = .returned (rlV (mruR m)) ∧ Kept (fun _ => False) w w' := by
  unfold rlV mruR
  simp only
  have HP := hid (fun W => put_any 1492 2 (by decide) (by decide) W)
  simp only [Int.cast_ofNat_Int] at HP
  generalize numF 1492 2 = S at *
  have k0 := hid ((Kept.refl (fun _ => False) w).alloc (.cells #[.int .i64 0, .int .i64 0, .int .i64 0, .int .i64 0, .string ⟨#[]⟩] 109))
  have O0 := hid (Open5.new w)
  go_enter Tryz.func78, Tryz.ntmps78
  go_wp2_with fail
  refine (HP.out _).mono ?_
  rintro e w1 ⟨rfl, hk⟩
  have K1 := hid (k0.out.trans hk)
  obtain ⟨c1, f1, _⟩ := O0.out.kept hk id
  obtain ⟨u0, c10⟩ := c1 0 (by decide)
  obtain ⟨u1, c11⟩ := c1 1 (by decide)
  obtain ⟨u2, c12⟩ := c1 2 (by decide)
  obtain ⟨u3, c13⟩ := c1 3 (by decide)
  obtain ⟨u4, c14⟩ := c1 4 (by decide)
  clear hk c1 k0 O0 HP
  go_wp2
  refine bodyPost_ret (v := .agg #[.int .i64 1, .int .i64 2, .int .i64 64, .int .i64 m, .string S]) (by simp [results, Tryz.results78, go_sem, c10, c11, c12, c13, c14]) rfl ⟨rfl, set5_kept K1.out (Nat.le_refl _) _ _ _ _ _⟩

set_option maxHeartbeats 2000000 in
set_option maxRecDepth 100000 in
theorem magicRule_any (w : World) : Calls Tryz.prog 79 #[] w fun e w' => e = .returned (rlV magicR) ∧ Kept (fun _ => False) w w' := by
  unfold rlV magicR
  simp only
  have HP := hid (fun W => put_any 1 4 (by decide) (by decide) W)
  simp only [Int.cast_ofNat_Int] at HP
  generalize numF 1 4 = S at *
  have k0 := hid ((Kept.refl (fun _ => False) w).alloc (.cells #[.int .i64 0, .int .i64 0, .int .i64 0, .int .i64 0, .string ⟨#[]⟩] 109))
  have O0 := hid (Open5.new w)
  go_enter Tryz.func79, Tryz.ntmps79
  go_wp2_with fail
  refine (HP.out _).mono ?_
  rintro e w1 ⟨rfl, hk⟩
  have K1 := hid (k0.out.trans hk)
  obtain ⟨c1, f1, _⟩ := O0.out.kept hk id
  obtain ⟨u0, c10⟩ := c1 0 (by decide)
  obtain ⟨u1, c11⟩ := c1 1 (by decide)
  obtain ⟨u2, c12⟩ := c1 2 (by decide)
  obtain ⟨u3, c13⟩ := c1 3 (by decide)
  obtain ⟨u4, c14⟩ := c1 4 (by decide)
  clear hk c1 k0 O0 HP
  go_wp2
  refine bodyPost_ret (v := .agg #[.int .i64 5, .int .i64 4, .int .i64 1, .int .i64 4294967295, .string S]) (by simp [results, Tryz.results79, go_sem, c10, c11, c12, c13, c14]) rfl ⟨rfl, set5_kept K1.out (Nat.le_refl _) _ _ _ _ _⟩

set_option maxHeartbeats 2000000 in
set_option maxRecDepth 100000 in
theorem authRule_by (a num : Int) (s : ByteArray) (hs : s.size ≤ 7) (h1 : authF a = s) (h2 : ((valueF s.data.toList).1 : Int) = num) (w : World) : Calls Tryz.prog 83 #[.int .i64 a] w fun e w' => e = .returned (rlV ⟨3, (s.size : Int), num, num, s⟩) ∧ Kept (fun _ => False) w w' := by
  unfold rlV
  simp only
  have HP := hid (fun W => authValue_any a W)
  rw [h1] at HP
  have HV := hid (fun W => value_any s (by unfold maxLen; omega) W)
  rw [h2] at HV
  have hsm : (s.size : Int) ≤ 7 := by omega
  generalize (valueF s.data.toList).2 = ok at *
  have k0 := hid ((Kept.refl (fun _ => False) w).alloc (.cells #[.int .i64 0, .int .i64 0, .int .i64 0, .int .i64 0, .string ⟨#[]⟩] 109))
  have O0 := hid (Open5.new w)
  clear h1 h2
  go_enter Tryz.func83, Tryz.ntmps83
  go_wp2_with fail
  refine (HP.out _).mono ?_
  rintro e w1 ⟨rfl, hk⟩
  have K1 := hid (k0.out.trans hk)
  obtain ⟨c1, f1, _⟩ := O0.out.kept hk id
  obtain ⟨u0, c10⟩ := c1 0 (by decide)
  obtain ⟨u1, c11⟩ := c1 1 (by decide)
  obtain ⟨u2, c12⟩ := c1 2 (by decide)
  obtain ⟨u3, c13⟩ := c1 3 (by decide)
  obtain ⟨u4, c14⟩ := c1 4 (by decide)
  clear hk c1 k0 O0 HP
  go_wp2_with (first | (go_at_call 29; refine (HV.out _).mono ?_; rintro e w' ⟨rfl, hw⟩; rw [hw]; clear hw w'))
  refine bodyPost_ret (v := .agg #[.int .i64 3, .int .i64 (s.size : Int), .int .i64 num, .int .i64 num, .string s]) (by simp [results, Tryz.results83, go_sem, c10, c11, c12, c13, c14]) rfl ⟨rfl, set5_kept K1.out (Nat.le_refl _) _ _ _ _ _⟩
theorem chapRule_any (w : World) : Calls Tryz.prog 83 #[.int .i64 49699] w fun e w' => e = .returned (rlV chapR) ∧ Kept (fun _ => False) w w' := authRule_by 49699 12722949 (numF 12722949 3) (by decide) rfl (by decide) w
theorem papRule_any (w : World) : Calls Tryz.prog 83 #[.int .i64 49187] w fun e w' => e = .returned (rlV papR) ∧ Kept (fun _ => False) w w' := authRule_by 49187 49187 (numF 49187 2) (by decide) rfl (by decide) w

/-! A row of rules. -/
def rowRl (l : List Rl) : List Value := l.flatMap rlCells
theorem rowRl_get {l : List Rl} {k : Nat} {r : Rl} (h : l[k]? = some r) (j : Nat) (hj : j < 5) : (rowRl l)[k * 5 + j]? = (rlCells r)[j]? := by
  induction l generalizing k with
  | nil => simp at h
  | cons x l ih =>
    have e : rowRl (x :: l) = rlCells x ++ rowRl l := by simp [rowRl]
    have hx : (rlCells x).length = 5 := rfl
    rw [e]
    cases k with
    | zero =>
      have : x = r := by simpa using h
      subst this
      rw [Nat.zero_mul, Nat.zero_add, List.getElem?_append_left (by omega)]
    | succ k =>
      rw [List.getElem?_append_right (by omega), hx, show (k + 1) * 5 + j - 5 = k * 5 + j by omega]
      exact ih (by simpa using h)
def RowRl (W : World) (g : Nat) (rs : List Rl) : Prop := W.heap[g]? = some (.cells (rowRl rs).toArray 109 (0, 0))
theorem RowRl.at {W : World} {g : Nat} {rs : List Rl} (h : RowRl W g rs) (hl : rs.length ≤ 1000) : RulesAt W (.slice (some ⟨g, 0, none⟩) rs.length rs.length) rs := by
  refine Or.inr ⟨g, 0, rs.length, rfl, Nat.le_refl _, by unfold maxLen; omega, fun j x hj i u hu => ?_⟩
  have hi : i < 5 := (List.getElem?_eq_some_iff.1 hu).1
  unfold RowRl at h
  rw [Nat.zero_add]
  simp only [World.cell?, h, List.getElem?_toArray]
  rw [rowRl_get hj i hi]
  exact hu
theorem RowRl.kept {S : Nat → Prop} {W W' : World} {g : Nat} {rs : List Rl} (h : RowRl W g rs) (hk : Kept S W W') (hS : ¬ S g) : RowRl W' g rs := (hk.block g (Array.getElem?_eq_some_iff.1 h).1 hS).trans h

set_option maxHeartbeats 2000000 in
set_option maxRecDepth 100000 in
theorem ownRules_any (w : World) : Calls Tryz.prog 46 #[] w fun e w' => ∃ v, e = .returned v ∧ RulesAt w' v [mruR 1492, magicR] ∧ Kept (fun _ => False) w w' := by
  have HM := hid (fun W => mruRule_any 1492 W)
  have HG := hid (fun W => magicRule_any W)
  have HF : Hid (∀ W : World, RowRl (W.alloc (.cells (rowRl [mruR 1492, magicR]).toArray 109)) W.heap.size [mruR 1492, magicR]) := fun W => heap_alloc_new W _
  unfold rlV at HM HG
  unfold mruR at HM
  unfold magicR at HG
  simp only at HM HG
  go_enter Tryz.func46, Tryz.ntmps46
  go_wp2_with fail
  refine (HM.out _).mono ?_
  rintro e w1 ⟨rfl, hk1⟩
  have K1 := hid hk1
  clear hk1
  go_wp2_with fail
  refine (HG.out _).mono ?_
  rintro e w2 ⟨rfl, hk2⟩
  have K2 := hid (K1.out.trans hk2)
  clear hk2
  go_wp2
  go_ret
  exact ⟨_, rfl, (HF.out w2).at (by decide), K2.out.alloc _⟩
end Go.Proofs.YtklapjfljffahaaGreat

namespace Go.Proofs.YtklapjfljffahaaGreat
open Go.RowKit

/-- A link as plain data. -/
structure Lp where
  ng : Ng
  rest : List Int
  asked : Nat
  magic : Int
  loops : Int
  echo : Int
  ups : Int
  ticks : Int
  missed : Int
/-- Where it lies. -/
structure Lm where
  nb : Nat
  na : Nm
  tb : Nat
  tp : Option Addr
  tcap : Nat
  on : Nat → Prop

def lpList (m : Lm) (l : Lp) : List Value := [.pointer (some ⟨m.nb, 0, none⟩), .pointer (some ⟨m.tb, 0, none⟩), .int .i64 l.magic, .int .i64 l.loops, .int .i64 l.echo, .int .i64 l.ups, .int .i64 l.ticks, .int .i64 l.missed]
def lpCells (m : Lm) (l : Lp) : Array Value := (lpList m l).toArray

structure GoodL (l : Lp) : Prop where
  mag : 0 ≤ l.magic ∧ l.magic ≤ 4294967295
  loops : 0 ≤ l.loops ∧ l.loops ≤ 4611686018427387904
  echo : 0 ≤ l.echo ∧ l.echo ≤ 100
  ups : 0 ≤ l.ups ∧ l.ups ≤ 4611686018427387904
  ticks : 0 ≤ l.ticks ∧ l.ticks ≤ 100
  missed : 0 ≤ l.missed ∧ l.missed ≤ 3

structure LcpIn (W : World) (base b : Nat) (m : Lm) (l : Lp) : Prop where
  cells : W.heap[b]? = some (.cells (lpCells m l) 30 (0, 0))
  neg : NegIn W base m.nb m.na l.ng
  tape : Tp.IsTape W m.tb m.tp m.tcap l.rest l.asked
  onT : ∀ i, Tp.onTape m.tp l.rest i → m.on i
  far : ¬ Sn m.nb m.na m.tb
  farOn : ∀ i, m.on i → ¬ Sn m.nb m.na i ∧ i ≠ b ∧ i ≠ m.tb ∧ base ≤ i ∧ i < W.heap.size
  ne : m.tb ≠ b
  lo : base ≤ b
  lo2 : base ≤ m.tb
  good : GoodL l

/-- The blocks that its calls turn. -/
def Sl (b : Nat) (m : Lm) (i : Nat) : Prop := i = b ∨ i = m.tb ∨ Sn m.nb m.na i

section
variable {W W' W'' : World} {base b : Nat} {m m' m'' : Lm} {l l' l'' : Lp}
theorem LcpIn.cell (h : LcpIn W base b m l) (i : Nat) : W.cell? ⟨b, i, none⟩ = (lpCells m l)[i]? := by simp [World.cell?, h.cells]
theorem LcpIn.fz (h : LcpIn W base b m l) (i : Nat) : W.frozen? ⟨b, i, none⟩ = false := by simp [World.frozen?, h.cells]
theorem LcpIn.lt (h : LcpIn W base b m l) : b < W.heap.size := (Array.getElem?_eq_some_iff.1 h.cells).1
theorem LcpIn.c0 (h : LcpIn W base b m l) : W.cell? ⟨b, 0, none⟩ = some (.pointer (some ⟨m.nb, 0, none⟩)) := h.cell 0
theorem LcpIn.c1 (h : LcpIn W base b m l) : W.cell? ⟨b, 1, none⟩ = some (.pointer (some ⟨m.tb, 0, none⟩)) := h.cell 1
theorem LcpIn.c2 (h : LcpIn W base b m l) : W.cell? ⟨b, 2, none⟩ = some (.int .i64 l.magic) := h.cell 2
theorem LcpIn.c3 (h : LcpIn W base b m l) : W.cell? ⟨b, 3, none⟩ = some (.int .i64 l.loops) := h.cell 3
theorem LcpIn.c4 (h : LcpIn W base b m l) : W.cell? ⟨b, 4, none⟩ = some (.int .i64 l.echo) := h.cell 4
theorem LcpIn.c5 (h : LcpIn W base b m l) : W.cell? ⟨b, 5, none⟩ = some (.int .i64 l.ups) := h.cell 5
theorem LcpIn.c6 (h : LcpIn W base b m l) : W.cell? ⟨b, 6, none⟩ = some (.int .i64 l.ticks) := h.cell 6
theorem LcpIn.c7 (h : LcpIn W base b m l) : W.cell? ⟨b, 7, none⟩ = some (.int .i64 l.missed) := h.cell 7
/-- Its block is none of its negotiation's. -/
theorem LcpIn.own (h : LcpIn W base b m l) : ¬ Sn m.nb m.na b := by
  rintro (e | e | e)
  · have h1 := h.neg.cells
    rw [← e, h.cells] at h1
    simp at h1
  · have h1 := h.neg.auto
    unfold AutoIn at h1
    rw [← e, h.cells] at h1
    simp at h1
  · obtain ⟨c, h1⟩ := h.neg.req.cellsB e
    rw [h.cells] at h1
    simp at h1
theorem LcpIn.sl_lt (h : LcpIn W base b m l) : ∀ i, Sl b m i → i < W.heap.size := by
  rintro i (rfl | rfl | hi)
  · exact h.lt
  · exact h.tape.lt
  · exact h.neg.sn_lt i hi
theorem LcpIn.sl_lo (h : LcpIn W base b m l) : ∀ i, Sl b m i → base ≤ i := by
  rintro i (rfl | rfl | hi)
  · exact h.lo
  · exact h.lo2
  · exact h.neg.sn_lo i hi
theorem LcpIn.kept0 (h : LcpIn W base b m l) (hk : Kept (fun _ => False) W W') : LcpIn W' base b m l :=
  ⟨(hk.block b h.lt id).trans h.cells, h.neg.kept0 hk, h.tape.kept hk id (fun _ _ => id), h.onT, h.far, fun i hi => ⟨(h.farOn i hi).1, (h.farOn i hi).2.1, (h.farOn i hi).2.2.1, (h.farOn i hi).2.2.2.1, Nat.lt_of_lt_of_le (h.farOn i hi).2.2.2.2 hk.size⟩, h.ne, h.lo, h.lo2, h.good⟩

/-- What one of its calls leaves. -/
structure LNext (W W' : World) (base b : Nat) (m m' : Lm) (l' : Lp) : Prop where
  lcp : LcpIn W' base b m' l'
  nb : m'.nb = m.nb
  tb : m'.tb = m.tb
  on : m'.on = m.on
  am : m'.na.am = m.na.am
  fr : ∀ i, m'.na.vr.ownBlock = some i → m.na.vr.ownBlock = some i ∨ W.heap.size ≤ i
  fm : ∀ i, m'.na.vm.ownBlock = some i → m.na.vm.ownBlock = some i ∨ W.heap.size ≤ i
  ft : ∀ i, m'.na.vt.ownBlock = some i → m.na.vt.ownBlock = some i ∨ W.heap.size ≤ i
  kept : Kept (Sl b m) W W'
theorem LNext.refl (h : LcpIn W base b m l) : LNext W W base b m m l := ⟨h, rfl, rfl, rfl, rfl, fun _ h => Or.inl h, fun _ h => Or.inl h, fun _ h => Or.inl h, Kept.refl _ _⟩
theorem LNext.of0 (h : LcpIn W base b m l) (hk : Kept (fun _ => False) W W') : LNext W W' base b m m l := ⟨h.kept0 hk, rfl, rfl, rfl, rfl, fun _ h => Or.inl h, fun _ h => Or.inl h, fun _ h => Or.inl h, hk.mono (fun _ _ h => h.elim)⟩
theorem LNext.sl (h : LNext W W' base b m m' l') : ∀ i, Sl b m' i → Sl b m i ∨ W.heap.size ≤ i := by
  rintro i (e | e | e | e | e)
  · exact Or.inl (Or.inl e)
  · exact Or.inl (Or.inr (Or.inl (e.trans h.tb)))
  · exact Or.inl (Or.inr (Or.inr (Or.inl (e.trans h.nb))))
  · exact Or.inl (Or.inr (Or.inr (Or.inr (Or.inl (e.trans h.am)))))
  · rcases h.fr i e with h1 | h1
    · exact Or.inl (Or.inr (Or.inr (Or.inr (Or.inr h1))))
    · exact Or.inr h1
theorem LNext.trans (h : LNext W W' base b m m' l') (k : LNext W' W'' base b m' m'' l'') : LNext W W'' base b m m'' l'' := by
  have hs := h.kept.size
  refine ⟨k.lcp, k.nb.trans h.nb, k.tb.trans h.tb, k.on.trans h.on, k.am.trans h.am, fun i hi => ?_, fun i hi => ?_, fun i hi => ?_, h.kept.andThen k.kept (fun i hi s => ?_)⟩
  · rcases k.fr i hi with h1 | h1
    · exact h.fr i h1
    · exact Or.inr (by omega)
  · rcases k.fm i hi with h1 | h1
    · exact h.fm i h1
    · exact Or.inr (by omega)
  · rcases k.ft i hi with h1 | h1
    · exact h.ft i h1
    · exact Or.inr (by omega)
  · rcases h.sl i s with h1 | h1
    · exact h1
    · omega
theorem LNext.then0 (h : LNext W W' base b m m' l') (hk : Kept (fun _ => False) W' W'') : LNext W W'' base b m m' l' := h.trans (LNext.of0 h.lcp hk)
theorem LNext.before0 {W0 : World} (hk : Kept (fun _ => False) W0 W) (h : LNext W W' base b m m' l') : LNext W0 W' base b m m' l' := by
  have hs := hk.size
  refine ⟨h.lcp, h.nb, h.tb, h.on, h.am, fun i hi => ?_, fun i hi => ?_, fun i hi => ?_, (hk.mono (T := Sl b m) (fun _ _ h => h.elim)).trans h.kept⟩
  · rcases h.fr i hi with h1 | h1
    · exact Or.inl h1
    · exact Or.inr (by omega)
  · rcases h.fm i hi with h1 | h1
    · exact Or.inl h1
    · exact Or.inr (by omega)
  · rcases h.ft i hi with h1 | h1
    · exact Or.inl h1
    · exact Or.inr (by omega)

/-- The negotiation has gone on. -/
theorem LcpIn.ofNeg (h : LcpIn W base b m l) {a' : Nm} {n' : Ng} (k : NNext W W' base m.nb m.na a' n') : LNext W W' base b m { m with na := a' } { l with ng := n' } := by
  refine ⟨⟨(k.kept.block b h.lt h.own).trans h.cells, k.neg, h.tape.kept k.kept h.far (fun i hi => (h.farOn i (h.onT i hi)).1), h.onT, fun s => ?_, fun i hi => ⟨fun s => ?_, (h.farOn i hi).2.1, (h.farOn i hi).2.2.1, (h.farOn i hi).2.2.2.1, Nat.lt_of_lt_of_le (h.farOn i hi).2.2.2.2 k.kept.size⟩, h.ne, h.lo, h.lo2, ?_⟩, rfl, rfl, rfl, k.am, k.fr, k.fm, k.ft, k.kept.mono (fun i _ s => Or.inr (Or.inr s))⟩
  · rcases k.sn _ s with h1 | h1
    · exact h.far h1
    · have h2 := h.tape.lt
      have h1 : W.heap.size ≤ m.tb := h1
      omega
  · rcases k.sn _ s with h1 | h1
    · exact (h.farOn i hi).1 h1
    · have := (h.farOn i hi).2.2.2.2
      omega
  · have g := h.good
    exact ⟨g.mag, g.loops, g.echo, g.ups, g.ticks, g.missed⟩
/-- The tape has gone on. -/
theorem LcpIn.ofTape (h : LcpIn W base b m l) {p' : Option Addr} {cap' asked' : Nat} {rest' : List Int} (ht : Tp.IsTape W' m.tb p' cap' rest' asked') (hon : ∀ i, Tp.onTape p' rest' i → Tp.onTape m.tp l.rest i) (hk : Kept (fun i => i = m.tb) W W') : LNext W W' base b m { m with tp := p', tcap := cap' } { l with rest := rest', asked := asked' } := by
  refine ⟨⟨(hk.block b h.lt (fun e => h.ne e.symm)).trans h.cells, ?_, ht, fun i hi => h.onT i (hon i hi), h.far, fun i hi => ⟨(h.farOn i hi).1, (h.farOn i hi).2.1, (h.farOn i hi).2.2.1, (h.farOn i hi).2.2.2.1, Nat.lt_of_lt_of_le (h.farOn i hi).2.2.2.2 hk.size⟩, h.ne, h.lo, h.lo2, ?_⟩, rfl, rfl, rfl, rfl, fun _ h => Or.inl h, fun _ h => Or.inl h, fun _ h => Or.inl h, hk.mono (fun i _ s => Or.inr (Or.inl s))⟩
  · obtain ⟨cur, hb⟩ := h.tape.blk
    have hne : ∀ (v : Value) (o : List Tg), OwnO W base v o → ∀ i, v.ownBlock = some i → ¬ i = m.tb := fun v o ho i hi e => by
      obtain ⟨c, h1⟩ := ho.cellsB hi
      rw [e, hb] at h1
      simp at h1
    refine h.neg.keptS hk (fun i e _ => by rw [e]; exact ⟨_, _, _, hb⟩) (fun e => h.far (Or.inl e.symm)) (fun e => h.far (Or.inr (Or.inl e.symm))) (hne _ _ h.neg.req) (hne _ _ h.neg.mine) (hne _ _ h.neg.theirs)
  · have g := h.good
    exact ⟨g.mag, g.loops, g.echo, g.ups, g.ticks, g.missed⟩
/-- A cell of its own set anew. -/
theorem LcpIn.set (h : LcpIn W base b m l) (i : Nat) (u : Value) (he : (lpCells m l).setIfInBounds i u = lpCells m l') (hg : GoodL l') (h1 : l'.ng = l.ng) (h2 : l'.rest = l.rest) (h3 : l'.asked = l.asked) : LNext W (W.setCell ⟨b, i, none⟩ u) base b m m l' := by
  have hk := kept_cell W b i u
  have hne : ∀ (v : Value) (o : List Tg), OwnO W base v o → ∀ i, v.ownBlock = some i → ¬ i = b := fun v o ho i hi e => by
    obtain ⟨c, h1⟩ := ho.cellsB hi
    rw [e, h.cells] at h1
    simp at h1
  refine ⟨⟨?_, ?_, ?_, ?_, h.far, fun i hi => ⟨(h.farOn i hi).1, (h.farOn i hi).2.1, (h.farOn i hi).2.2.1, (h.farOn i hi).2.2.2.1, Nat.lt_of_lt_of_le (h.farOn i hi).2.2.2.2 hk.size⟩, h.ne, h.lo, h.lo2, hg⟩, rfl, rfl, rfl, rfl, fun _ h => Or.inl h, fun _ h => Or.inl h, fun _ h => Or.inl h, hk.mono (fun j _ e => Or.inl e)⟩
  · rw [← he]
    exact Joins.block_setCell h.cells u
  · rw [h1]
    exact h.neg.keptS hk (fun i e _ => by rw [e]; exact ⟨_, _, _, h.cells⟩) (fun e => h.own (Or.inl e.symm)) (fun e => h.own (Or.inr (Or.inl e.symm))) (hne _ _ h.neg.req) (hne _ _ h.neg.mine) (hne _ _ h.neg.theirs)
  · rw [h2, h3]
    exact h.tape.kept hk h.ne (fun i hi => (h.farOn i (h.onT i hi)).2.1)
  · rw [h2]
    exact h.onT

/-- What a call sends, all of it its own; what it leaves. -/
structure LSentBy (W W' : World) (base b : Nat) (m m' : Lm) (l' : Lp) (v : Value) (q : List (Pk0 × Value)) : Prop where
  nx : LNext W W' base b m m' l'
  row : W'.ownsRow W.heap.size 24 4 v q.length (rowP q)
  opts : ∀ p ∈ q, OwnO W' W.heap.size p.2 p.1.opts
  far : ∀ p ∈ q, ∀ i, p.2.ownBlock = some i → ¬ Sl b m' i
def LSent (W W' : World) (base b : Nat) (m : Lm) (s : Lp × List Pk0) (v : Value) : Prop := ∃ m' q, LSentBy W W' base b m m' s.1 v q ∧ q.map (·.1) = s.2

theorem LcpIn.sent (h : LcpIn W base b m l) {s : Ng × List Pk0} {v : Value} (S : Sent W W' base m.nb m.na s v) : LSent W W' base b m ({ l with ng := s.1 }, s.2) v := by
  obtain ⟨a', q, hs, e⟩ := S
  refine ⟨{ m with na := a' }, q, ⟨h.ofNeg hs.nx, hs.row, hs.opts, fun p hp i hi => ?_⟩, e⟩
  have hlo := (hs.opts p hp).baseB hi
  rintro (e | e | e)
  · have := h.lt; omega
  · have h1 := h.tape.lt
    have e : i = m.tb := e
    omega
  · exact hs.far p hp i hi e
theorem LSent.none (k : LNext W W' base b m m' l') : LSent W W' base b m (l', []) (.slice none 0 0) :=
  ⟨m', [], ⟨k, World.ownsRow_nil _ _ _ _, fun _ hq => absurd hq List.not_mem_nil, fun _ hq => absurd hq List.not_mem_nil⟩, rfl⟩
theorem LSent.slice {s : Lp × List Pk0} {v : Value} (h : LSent W W' base b m s v) : ∃ p cap, v = .slice p s.2.length cap := by
  obtain ⟨m', q, hs, e⟩ := h
  obtain ⟨p, cap, hv⟩ := slice_of hs.row
  exact ⟨p, cap, by rw [hv, ← e, List.length_map]⟩
theorem LSent.before0 {W0 : World} {s : Lp × List Pk0} {v : Value} (hk : Kept (fun _ => False) W0 W) (h : LSent W W' base b m s v) : LSent W0 W' base b m s v := by
  obtain ⟨m', q, hs, e⟩ := h
  have := hk.size
  exact ⟨m', q, ⟨LNext.before0 hk hs.nx, row_rebase hs.row this, fun p hp => (hs.opts p hp).mono this, hs.far⟩, e⟩
theorem LSent.before {W0 : World} {m0 : Lm} {s : Lp × List Pk0} {v : Value} (k : LNext W0 W base b m0 m l) (h : LSent W W' base b m s v) : LSent W0 W' base b m0 s v := by
  obtain ⟨m', q, hs, e⟩ := h
  have := k.kept.size
  exact ⟨m', q, ⟨k.trans hs.nx, row_rebase hs.row this, fun p hp => (hs.opts p hp).mono this, hs.far⟩, e⟩
theorem LSent.then0 {s : Lp × List Pk0} {v : Value} (h : LSent W W' base b m s v) (hk : Kept (fun _ => False) W' W'') : LSent W W'' base b m s v := by
  obtain ⟨m', q, hs, e⟩ := h
  exact ⟨m', q, ⟨hs.nx.then0 hk, row_kept hs.row hk (fun _ _ => id), fun p hp => (hs.opts p hp).kept hk, hs.far⟩, e⟩

/-- What a call sent was one packet. -/
theorem lsent_one {l' : Lp} {q : Pk0} {v : Value} (h : LSent W W' base b m (l', [q]) v) : ∃ m' g cap u, v = .slice (some ⟨g, 0, none⟩) 1 cap ∧ 1 ≤ cap ∧ LNext W W' base b m m' l' ∧ RowK W' g q.code q.id u q.data ∧ OwnO W' W.heap.size u q.opts ∧ (∀ i, u.ownBlock = some i → ¬ Sl b m' i) ∧ W.heap.size ≤ g := by
  obtain ⟨m', x, hs, e⟩ := h
  obtain ⟨q', rfl⟩ : ∃ q', x = [q'] := by
    cases x with
    | nil => cases e
    | cons y x =>
      cases x with
      | nil => exact ⟨y, rfl⟩
      | cons z x => simp at e
  have e' : q'.1 = q := by simpa using e
  subst e'
  rcases hs.row.2 with ⟨rfl, h0⟩ | ⟨g, cap, cur, rfl, hb, hg, h1, h2, h3, h4⟩
  · simp at h0
  · have hc : ∀ i, i < 4 → W'.cell? ⟨g, i, none⟩ = (pkCells q')[i]? := fun i hi => by
      have h5 := rowP_get (l := [q']) (k := 0) rfl i hi
      rw [Nat.zero_mul, Nat.zero_add] at h5
      rw [← h5, ← h4, List.getElem?_take_of_lt (by simp; omega)]
      simp [World.cell?, hg]
    exact ⟨m', g, cap, q'.2, rfl, h1, hs.nx, ⟨⟨cur, hg⟩, hc 0 (by omega), hc 1 (by omega), hc 2 (by omega), hc 3 (by omega)⟩, hs.opts q' (by simp), hs.far q' (by simp), hb⟩
theorem lsent_zero {l' : Lp} {v : Value} (h : LSent W W' base b m (l', []) v) : ∃ m' p cap, v = .slice p 0 cap ∧ LNext W W' base b m m' l' := by
  obtain ⟨m', q, hs, e⟩ := h
  have : q = [] := by simpa using e
  subst this
  obtain ⟨p, cap, rfl⟩ := slice_of hs.row
  exact ⟨m', p, cap, rfl, hs.nx⟩
theorem sl_pk (h : LcpIn W base b m l) {g : Nat} (hp : PkBlk W g) : ¬ Sl b m g := by
  obtain ⟨cur, hc⟩ := hp
  rintro (e | e | e)
  · rw [e, h.cells] at hc; simp at hc
  · obtain ⟨c, h1⟩ := h.tape.blk
    rw [e, h1] at hc; simp at hc
  · exact pk_far h.neg ⟨cur, hc⟩ e

/-- A law's own link. -/
structure LMine (w W : World) (b : Nat) (m : Lm) (l : Lp) : Prop where
  lcp : LcpIn W w.heap.size b m l
  kept : Kept (fun _ => False) w W
theorem LMine.still {w : World} (h : LMine w W b m l) (hk : Kept (fun _ => False) W W') : LMine w W' b m l := ⟨h.lcp.kept0 hk, h.kept.trans hk⟩
theorem LMine.next {w : World} (h : LMine w W b m l) (k : LNext W W' w.heap.size b m m' l') : LMine w W' b m' l' :=
  ⟨k.lcp, h.kept.andThen k.kept (fun i hi s => by have := h.lcp.sl_lo i s; omega)⟩
end
end Go.Proofs.YtklapjfljffahaaGreat

namespace Go.Proofs.YtklapjfljffahaaGreat
open Go.RowKit

theorem authF_size (a : Int) : (authF a).size ≤ 3 := by
  unfold authF
  split
  · rw [numF_size]; decide
  · split
    · rw [numF_size]; decide
    · decide
theorem ask_mem {c : Cf} {x : Tg} (h : x ∈ askF c) : x = ⟨1, numF c.mru 2⟩ ∨ x = ⟨3, authF c.auth⟩ ∨ x = ⟨5, numF c.magic 4⟩ := by
  unfold askF at h
  rcases List.mem_append.1 h with h | h
  · rcases List.mem_append.1 h with h | h
    · split at h
      · exact Or.inl (List.mem_singleton.1 h)
      · cases h
    · split at h
      · exact Or.inr (Or.inl (List.mem_singleton.1 h))
      · cases h
  · split at h
    · exact Or.inr (Or.inr (List.mem_singleton.1 h))
    · cases h
theorem ask_len (c : Cf) : (askF c).length ≤ 3 := by
  unfold askF
  rw [List.length_append, List.length_append]
  have h : ∀ (b : Bool) (x : Tg), (if b = true then [x] else []).length ≤ 1 := fun b x => by cases b <;> simp
  have h1 := h (c.mru != 1492) ⟨1, numF c.mru 2⟩
  have h2 := h (c.auth != 0) ⟨3, authF c.auth⟩
  have h3 := h (c.magic != 0) ⟨5, numF c.magic 4⟩
  omega
theorem ask_fine (c : Cf) : FineO (askF c) := by
  refine ⟨Nat.le_trans (ask_len c) (by decide), fun x hx => ?_, fun x hx => ?_⟩
  · rcases ask_mem hx with rfl | rfl | rfl <;> (constructor <;> simp)
  · rcases ask_mem hx with rfl | rfl | rfl
    · simp only [numF_size]; decide
    · exact Nat.le_trans (authF_size _) (by decide)
    · simp only [numF_size]; decide
theorem ask_put (c : Cf) : putOptsF (askF c) = (bytesO (askF c), 0) := by
  have h1 : ¬ 30 < (askF c).length := by have := ask_len c; omega
  have h2 : ¬ (askF c).all okO = false := by
    rw [Bool.not_eq_false, List.all_eq_true]
    intro x hx
    rcases ask_mem hx with rfl | rfl | rfl
    · simp [okO, numF_size]
    · have := authF_size c.auth
      simp [okO]
      omega
    · simp [okO, numF_size]
  unfold putOptsF
  rw [if_neg h1, if_neg h2]
theorem ask_alone (c : Cf) : Alone (askF c) := by
  intro j x hj
  unfold askF at hj ⊢
  generalize (c.mru != 1492) = b0 at hj ⊢
  generalize (c.auth != 0) = b1 at hj ⊢
  generalize (c.magic != 0) = b2 at hj ⊢
  cases b0 <;> cases b1 <;> cases b2 <;> simp only [if_true, if_false, Bool.false_eq_true, List.nil_append, List.append_nil, List.cons_append] at hj ⊢ <;> rcases j with _ | _ | _ | j <;> simp at hj <;> (try subst hj) <;> simp [findO]
theorem own_good : GoodR [mruR 1492, magicR] := by
  refine ⟨by decide, fun r hr => ?_⟩
  rcases List.mem_cons.1 hr with rfl | hr
  · exact ⟨⟨by decide, by decide⟩, by simp [mruR, numF_size], by decide⟩
  · rw [List.mem_singleton.1 hr]
    exact ⟨⟨by decide, by decide⟩, by simp [magicR, numF_size], by decide⟩
theorem nil_good : GoodR [] := ⟨by decide, fun r hr => absurd hr List.not_mem_nil⟩

def newL (c : Cf) (rest : List Int) (asked : Nat) : Lp := ⟨newN (askF c) [mruR 1492, magicR] [] c.cf c.tm c.fails c.wait, rest, asked, c.magic, 0, c.echo, 0, 0, 0⟩

/-- The config's box, in every world that has come of A. -/
structure CfgK (A : World) (r : Nat) (c : Cf) (W : World) : Prop where
  at_ : CfgAt W r c
  k : Kept (fun _ => False) A W
theorem CfgK.kept {A W W' : World} {r : Nat} {c : Cf} (h : CfgK A r c W) (hk : Kept (fun _ => False) W W') : CfgK A r c W' := ⟨h.at_.kept0 hk, h.k.trans hk⟩

theorem eqTapeSome (ad : Addr) (w : World) : (binOp .eql 28 (.pointer (some ad)) (.pointer none)).run Tryz.prog w = .ok (.bool false) w := by kernel_rfl
theorem eqTapeNone (w : World) : (binOp .eql 28 (.pointer none) (.pointer none)).run Tryz.prog w = .ok (.bool true) w := by kernel_rfl

/-- What a New makes, put together. -/
theorem newLcp_in {w w1 w2 : World} {base nb tb cap asked : Nat} {tp : Option Addr} {rest : List Int} {na : Nm} {c : Cf} (g : GoodC c) (hb : base ≤ w.heap.size) (hn : NegIn w1 w.heap.size nb na (newL c rest asked).ng) (k1 : Kept (fun _ => False) w w1) (k2 : Kept (fun _ => False) w1 w2)
    (ht : Tp.IsTape w2 tb tp cap rest asked) (htb : base ≤ tb) (hfar : ¬ Sn nb na tb) (hon : ∀ i, Tp.onTape tp rest i → ¬ Sn nb na i ∧ base ≤ i) :
    LcpIn (w2.alloc (.cells (lpCells ⟨nb, na, tb, tp, cap, Tp.onTape tp rest⟩ (newL c rest asked)) 30)) base w2.heap.size ⟨nb, na, tb, tp, cap, Tp.onTape tp rest⟩ (newL c rest asked) := by
  have ka := (Kept.refl (fun _ => False) w2).alloc (.cells (lpCells ⟨nb, na, tb, tp, cap, Tp.onTape tp rest⟩ (newL c rest asked)) 30)
  have hs1 := k1.size
  have hs2 := k2.size
  have hlt := ht.lt
  refine ⟨heap_alloc_new w2 _, (hn.kept0 (k2.trans ka)).lower hb, ht.kept ka id (fun _ _ => id), fun i hi => hi, hfar, fun i hi => ?_, ?_, by omega, htb, ?_⟩
  · have h1 := ht.rows i hi
    refine ⟨(hon i hi).1, by omega, fun e => ?_, (hon i hi).2, Nat.lt_of_lt_of_le h1 ka.size⟩
    obtain ⟨hne, a, e1, e2⟩ := hi
    obtain ⟨q, o, e3, e4, _⟩ := ht.row hne
    rw [e1] at e3
    cases e3
    have e2 : q = i := e2
    have e : i = tb := e
    omega
  · show tb ≠ w2.heap.size
    omega
  · exact ⟨⟨g.mag1, g.mag2⟩, ⟨by simp [newL], by simp [newL]⟩, ⟨g.echo1, g.echo2⟩, ⟨by simp [newL], by simp [newL]⟩, ⟨by simp [newL], by simp [newL]⟩, ⟨by simp [newL], by simp [newL]⟩⟩

set_option maxHeartbeats 8000000 in
set_option maxRecDepth 100000 in
theorem lcpNew_some (c : Cf) (gc : GoodC c) (hcf : 1 ≤ c.cf ∧ c.cf ≤ 20) (htm : 1 ≤ c.tm ∧ c.tm ≤ 20) (hf : 0 ≤ c.fails ∧ c.fails ≤ 20) (hw : 1 ≤ c.wait ∧ c.wait ≤ 100) (tb cap asked : Nat) (tp : Option Addr) (rest : List Int) (base : Nat) (w : World) (hb : base ≤ w.heap.size) (ht : Tp.IsTape w tb tp cap rest asked) (htb : base ≤ tb) (hon : ∀ i, Tp.onTape tp rest i → base ≤ i) :
    Calls Tryz.prog 19 #[cfV c, .pointer (some ⟨tb, 0, none⟩)] w fun e w' => ∃ b m, e = .returned (.tuple #[.pointer (some ⟨b, 0, none⟩), .int .i64 0]) ∧ LcpIn w' base b m (newL c rest asked) ∧ Kept (fun _ => False) w w' ∧ w.heap.size ≤ b := by
  have hk0 := (Kept.refl (fun _ => False) w).alloc (.cells #[.int .i64 c.mru, .int .i64 c.auth, .int .i64 c.magic, .int .i64 c.echo, .int .i64 c.cf, .int .i64 c.tm, .int .i64 c.fails, .int .i64 c.wait] 43)
  have HC := hid (CfgAt.new w c)
  have HG := hid (fun W => isGood_yes c gc W)
  have HOp := hid (fun W => options_any c W)
  have HOw := hid (fun W => ownRules_any W)
  have HNw := hid (fun (W : World) (va vo vu : Value) (ha : OptsAt W va (askF c)) (ho : RulesAt W vo [mruR 1492, magicR]) (hu : OwnI W 0 vu [3]) => ngNew_any va vo (.slice none 0 0) vu [3] 0 (askF c) [mruR 1492, magicR] [] c.cf c.tm c.fails c.wait W ha ho (Or.inl ⟨rfl, none, 0, rfl⟩) hu (by decide) hcf htm hf hw (ask_fine c) (by rw [ask_put]) (ask_alone c) own_good nil_good)
  have HE := eqTapeSome ⟨tb, 0, none⟩
  have HI : Hid (∀ X : World, OwnI (X.alloc (.cells #[.int .i64 3] 3)) 0 (.slice (some ⟨X.heap.size, 0, none⟩) 1 1) [3]) := fun X => own_new [3] (by decide) X 0 (Nat.zero_le _)
  have HT := hid ht
  have HGc := hid gc
  have HB := hid (And.intro hb (And.intro htb hon))
  unfold cfV setupV at *
  generalize hA : w.alloc (.cells #[.int .i64 c.mru, .int .i64 c.auth, .int .i64 c.magic, .int .i64 c.echo, .int .i64 c.cf, .int .i64 c.tm, .int .i64 c.fails, .int .i64 c.wait] 43) = A at *
  have HA := hid hA
  have HK0 := hid hk0
  clear hA hk0 gc hcf htm hf hw ht htb hon hb
  have x0 := HC.out 0 _ rfl
  have x1 := HC.out 1 _ rfl
  have x2 := HC.out 2 _ rfl
  have x3 := HC.out 3 _ rfl
  have x4 := HC.out 4 _ rfl
  have x5 := HC.out 5 _ rfl
  have x6 := HC.out 6 _ rfl
  have x7 := HC.out 7 _ rfl
  go_enter Tryz.func19, Tryz.ntmps19
  go_upto_region 1 with fail
  rw [HA.out]
  go_wp2_with fail
  refine (HG.out _).mono ?_
  rintro e w1 ⟨rfl, hk1⟩
  have hS0 : CfgK w1 w.heap.size c w1.drew := ⟨(HC.out.kept0 hk1).kept0 ((Kept.refl _ _).drew), (Kept.refl _ _).drew⟩
  have HK1 := hid (HK0.out.trans hk1)
  clear hk1 x0 x1 x2 x3 x4 x5 x6 x7 HK0 HC HA
  have h0 : ∀ W, CfgK w1 w.heap.size c W → W.cell? ⟨w.heap.size, 0, none⟩ = some (.int .i64 c.mru) := fun W h => h.at_ 0 _ rfl
  have h1 : ∀ W, CfgK w1 w.heap.size c W → W.cell? ⟨w.heap.size, 1, none⟩ = some (.int .i64 c.auth) := fun W h => h.at_ 1 _ rfl
  have h2 : ∀ W, CfgK w1 w.heap.size c W → W.cell? ⟨w.heap.size, 2, none⟩ = some (.int .i64 c.magic) := fun W h => h.at_ 2 _ rfl
  have h3 : ∀ W, CfgK w1 w.heap.size c W → W.cell? ⟨w.heap.size, 3, none⟩ = some (.int .i64 c.echo) := fun W h => h.at_ 3 _ rfl
  have h4 : ∀ W, CfgK w1 w.heap.size c W → W.cell? ⟨w.heap.size, 4, none⟩ = some (.int .i64 c.cf) := fun W h => h.at_ 4 _ rfl
  have h5 : ∀ W, CfgK w1 w.heap.size c W → W.cell? ⟨w.heap.size, 5, none⟩ = some (.int .i64 c.tm) := fun W h => h.at_ 5 _ rfl
  have h6 : ∀ W, CfgK w1 w.heap.size c W → W.cell? ⟨w.heap.size, 6, none⟩ = some (.int .i64 c.fails) := fun W h => h.at_ 6 _ rfl
  have h7 : ∀ W, CfgK w1 w.heap.size c W → W.cell? ⟨w.heap.size, 7, none⟩ = some (.int .i64 c.wait) := fun W h => h.at_ 7 _ rfl
  go_wp2_with fail
  go_region_held3 (CfgK w1 w.heap.size c) (first | assumption | exact CfgK.kept (by assumption) ((Kept.refl _ _).alloc _)) (first
    | (go_at_call 26; refine (HOp.out _).mono ?_; rintro e w6 ⟨u6, rfl, ho6, hk6⟩; obtain ⟨pr, cr, rfl⟩ := slice_of ho6; have hS6 : CfgK w1 w.heap.size c w6 := (by first | exact CfgK.kept hS0 hk6 | exact CfgK.kept (CfgK.kept hS0 ((Kept.refl _ _).alloc _)) hk6); have F6 := hid ho6.at; have K6 := hid hk6; clear ho6 hk6)
    | (go_at_call 46; refine (HOw.out _).mono ?_; rintro e w7 ⟨v7, rfl, hr7, hk7⟩; obtain ⟨p7, c7, rfl⟩ := hr7.slice; have hS7 : CfgK w1 w.heap.size c w7 := (by first | exact CfgK.kept hS6 hk7 | exact CfgK.kept (CfgK.kept hS6 ((Kept.refl _ _).alloc _)) hk7); have F7 := hid hr7; have K7 := hid hk7; clear hr7 hk7)
    | (go_at_call 45; refine (HNw.out _ _ _ _ (by first | exact F6.out.kept0 K7.out | exact (F6.out.kept0 ((Kept.refl _ _).alloc _)).kept0 K7.out | exact (F6.out.kept0 K7.out).kept0 ((Kept.refl _ _).alloc _)) (by first | exact F7.out | exact F7.out.kept0 ((Kept.refl _ _).alloc _)) (by first | exact (HI.out _).kept0 K7.out | exact HI.out _ | exact ((HI.out w1.drew).kept0 K6.out).kept0 K7.out | exact (((HI.out w1).kept0 ((Kept.refl _ _).drew)).kept0 K6.out).kept0 K7.out)).mono ?_; rintro e w8 ⟨nb, rfl, na, hn8, hk8⟩; have hS8 : CfgK w1 w.heap.size c w8 := (by first | exact CfgK.kept hS7 hk8 | exact CfgK.kept (CfgK.kept hS7 ((Kept.refl _ _).alloc _)) hk8); have F8 : Hid (NegIn w8 w7.heap.size nb na (newL c rest asked).ng) := (by first | exact hn8 | exact hn8.lower (by simp)); have HS7 := hid hS7; clear hn8 hk8))
  all_goals
    have kz := HK1.out.trans hS8.k
    have hs := (HK1.out.trans HS7.out.k).size
    have g2 := hS8.at_ 2 _ rfl
    have g3 := hS8.at_ 3 _ rfl
    have FN := hid (newLcp_in HGc.out HB.out.1 (F8.out.lower hs) kz (Kept.refl _ w8) (HT.out.kept kz id (fun _ _ => id)) HB.out.2.1 (fun s => by have := F8.out.sn_lo _ s; have := HT.out.lt; omega) (fun i hi => ⟨fun s => by have := F8.out.sn_lo _ s; have := HT.out.rows i hi; omega, HB.out.2.2 i hi⟩))
    have KZ := hid kz
    clear kz hS8 hS7 hS6 hS0 h0 h1 h2 h3 h4 h5 h6 h7 HOp HOw HNw HG HI
    go_wp2
    go_ret2
    exact ⟨_, _, rfl, FN.out, KZ.out.alloc _, KZ.out.size⟩
set_option maxHeartbeats 8000000 in
set_option maxRecDepth 100000 in
theorem lcpNew_nil (c : Cf) (gc : GoodC c) (hcf : 1 ≤ c.cf ∧ c.cf ≤ 20) (htm : 1 ≤ c.tm ∧ c.tm ≤ 20) (hf : 0 ≤ c.fails ∧ c.fails ≤ 20) (hw : 1 ≤ c.wait ∧ c.wait ≤ 100) (base : Nat) (w : World) (hb : base ≤ w.heap.size) :
    Calls Tryz.prog 19 #[cfV c, .pointer none] w fun e w' => ∃ b m, e = .returned (.tuple #[.pointer (some ⟨b, 0, none⟩), .int .i64 0]) ∧ LcpIn w' base b m (newL c [] 0) ∧ Kept (fun _ => False) w w' ∧ w.heap.size ≤ b := by
  have hk0 := (Kept.refl (fun _ => False) w).alloc (.cells #[.int .i64 c.mru, .int .i64 c.auth, .int .i64 c.magic, .int .i64 c.echo, .int .i64 c.cf, .int .i64 c.tm, .int .i64 c.fails, .int .i64 c.wait] 43)
  have HC := hid (CfgAt.new w c)
  have HG := hid (fun W => isGood_yes c gc W)
  have HOp := hid (fun W => options_any c W)
  have HOw := hid (fun W => ownRules_any W)
  have HNw := hid (fun (W : World) (va vo vu : Value) (ha : OptsAt W va (askF c)) (ho : RulesAt W vo [mruR 1492, magicR]) (hu : OwnI W 0 vu [3]) => ngNew_any va vo (.slice none 0 0) vu [3] 0 (askF c) [mruR 1492, magicR] [] c.cf c.tm c.fails c.wait W ha ho (Or.inl ⟨rfl, none, 0, rfl⟩) hu (by decide) hcf htm hf hw (ask_fine c) (by rw [ask_put]) (ask_alone c) own_good nil_good)
  have HE := eqTapeNone
  have HI : Hid (∀ X : World, OwnI (X.alloc (.cells #[.int .i64 3] 3)) 0 (.slice (some ⟨X.heap.size, 0, none⟩) 1 1) [3]) := fun X => own_new [3] (by decide) X 0 (Nat.zero_le _)
  have HTn := hid (fun W => Tp.new_nil W)
  have HGc := hid gc
  have HB := hid hb
  unfold cfV setupV at *
  generalize hA : w.alloc (.cells #[.int .i64 c.mru, .int .i64 c.auth, .int .i64 c.magic, .int .i64 c.echo, .int .i64 c.cf, .int .i64 c.tm, .int .i64 c.fails, .int .i64 c.wait] 43) = A at *
  have HA := hid hA
  have HK0 := hid hk0
  clear hA hk0 gc hcf htm hf hw hb
  have x0 := HC.out 0 _ rfl
  have x1 := HC.out 1 _ rfl
  have x2 := HC.out 2 _ rfl
  have x3 := HC.out 3 _ rfl
  have x4 := HC.out 4 _ rfl
  have x5 := HC.out 5 _ rfl
  have x6 := HC.out 6 _ rfl
  have x7 := HC.out 7 _ rfl
  go_enter Tryz.func19, Tryz.ntmps19
  go_upto_region 1 with fail
  rw [HA.out]
  go_wp2_with fail
  refine (HG.out _).mono ?_
  rintro e w1 ⟨rfl, hk1⟩
  have hS0 : CfgK w1 w.heap.size c w1.drew := ⟨(HC.out.kept0 hk1).kept0 ((Kept.refl _ _).drew), (Kept.refl _ _).drew⟩
  have HK1 := hid (HK0.out.trans hk1)
  clear hk1 x0 x1 x2 x3 x4 x5 x6 x7 HK0 HC HA
  have h0 : ∀ W, CfgK w1 w.heap.size c W → W.cell? ⟨w.heap.size, 0, none⟩ = some (.int .i64 c.mru) := fun W h => h.at_ 0 _ rfl
  have h1 : ∀ W, CfgK w1 w.heap.size c W → W.cell? ⟨w.heap.size, 1, none⟩ = some (.int .i64 c.auth) := fun W h => h.at_ 1 _ rfl
  have h2 : ∀ W, CfgK w1 w.heap.size c W → W.cell? ⟨w.heap.size, 2, none⟩ = some (.int .i64 c.magic) := fun W h => h.at_ 2 _ rfl
  have h3 : ∀ W, CfgK w1 w.heap.size c W → W.cell? ⟨w.heap.size, 3, none⟩ = some (.int .i64 c.echo) := fun W h => h.at_ 3 _ rfl
  have h4 : ∀ W, CfgK w1 w.heap.size c W → W.cell? ⟨w.heap.size, 4, none⟩ = some (.int .i64 c.cf) := fun W h => h.at_ 4 _ rfl
  have h5 : ∀ W, CfgK w1 w.heap.size c W → W.cell? ⟨w.heap.size, 5, none⟩ = some (.int .i64 c.tm) := fun W h => h.at_ 5 _ rfl
  have h6 : ∀ W, CfgK w1 w.heap.size c W → W.cell? ⟨w.heap.size, 6, none⟩ = some (.int .i64 c.fails) := fun W h => h.at_ 6 _ rfl
  have h7 : ∀ W, CfgK w1 w.heap.size c W → W.cell? ⟨w.heap.size, 7, none⟩ = some (.int .i64 c.wait) := fun W h => h.at_ 7 _ rfl
  go_wp2_with fail
  go_region_held3 (CfgK w1 w.heap.size c) (first | assumption | exact CfgK.kept (by assumption) ((Kept.refl _ _).alloc _)) (first
    | (go_at_call 26; refine (HOp.out _).mono ?_; rintro e w6 ⟨u6, rfl, ho6, hk6⟩; obtain ⟨pr, cr, rfl⟩ := slice_of ho6; have hS6 : CfgK w1 w.heap.size c w6 := (by first | exact CfgK.kept hS0 hk6 | exact CfgK.kept (CfgK.kept hS0 ((Kept.refl _ _).alloc _)) hk6); have F6 := hid ho6.at; have K6 := hid hk6; clear ho6 hk6)
    | (go_at_call 46; refine (HOw.out _).mono ?_; rintro e w7 ⟨v7, rfl, hr7, hk7⟩; obtain ⟨p7, c7, rfl⟩ := hr7.slice; have hS7 : CfgK w1 w.heap.size c w7 := (by first | exact CfgK.kept hS6 hk7 | exact CfgK.kept (CfgK.kept hS6 ((Kept.refl _ _).alloc _)) hk7); have F7 := hid hr7; have K7 := hid hk7; clear hr7 hk7)
    | (go_at_call 45; refine (HNw.out _ _ _ _ (by first | exact F6.out.kept0 K7.out | exact (F6.out.kept0 ((Kept.refl _ _).alloc _)).kept0 K7.out | exact (F6.out.kept0 K7.out).kept0 ((Kept.refl _ _).alloc _)) (by first | exact F7.out | exact F7.out.kept0 ((Kept.refl _ _).alloc _)) (by first | exact (HI.out _).kept0 K7.out | exact HI.out _ | exact ((HI.out w1.drew).kept0 K6.out).kept0 K7.out | exact (((HI.out w1).kept0 ((Kept.refl _ _).drew)).kept0 K6.out).kept0 K7.out)).mono ?_; rintro e w8 ⟨nb, rfl, na, hn8, hk8⟩; have hS8 : CfgK w1 w.heap.size c w8 := (by first | exact CfgK.kept hS7 hk8 | exact CfgK.kept (CfgK.kept hS7 ((Kept.refl _ _).alloc _)) hk8); have F8 : Hid (NegIn w8 w7.heap.size nb na (newL c [] 0).ng) := (by first | exact hn8 | exact hn8.lower (by simp)); have HS7 := hid hS7; clear hn8 hk8))
  all_goals
    have kz := HK1.out.trans hS8.k
    have hs := (HK1.out.trans HS7.out.k).size
    have KZ := hid kz
    have H8 := hid hS8
    clear kz hS8 hS7 hS6 hS0 h0 h1 h2 h3 h4 h5 h6 h7 HOp HOw HNw HG HI
    go_wp2_with fail
    refine (HTn.out _).mono ?_
    rintro e w9 ⟨tb, tp, cap, rfl, htb, hon, hT, hk9⟩
    have h9 := H8.out.kept hk9
    have g2 := h9.at_ 2 _ rfl
    have g3 := h9.at_ 3 _ rfl
    have FN := hid (newLcp_in HGc.out HB.out (F8.out.lower hs) KZ.out hk9 hT (Nat.le_trans HB.out (Nat.le_trans KZ.out.size htb)) (fun s => by have := F8.out.sn_lt _ s; omega) (fun i hi => absurd rfl hi.1))
    have K9 := hid (KZ.out.trans hk9)
    clear h9 hT hk9 hon htb
    go_wp2
    go_ret2
    exact ⟨_, _, rfl, FN.out, K9.out.alloc _, K9.out.size⟩
end Go.Proofs.YtklapjfljffahaaGreat

namespace Go.Proofs.YtklapjfljffahaaGreat
open Go.RowKit

theorem eqLcpSome (ad : Addr) (w : World) : (binOp .eql 26 (.pointer (some ad)) (.pointer none)).run Tryz.prog w = .ok (.bool false) w := by kernel_rfl
theorem eqLcpNone (w : World) : (binOp .eql 26 (.pointer none) (.pointer none)).run Tryz.prog w = .ok (.bool true) w := by kernel_rfl

section
variable {base b : Nat} {m : Lm} {l : Lp}
set_option maxRecDepth 100000 in
theorem negotiation_any (w : World) (h : LcpIn w base b m l) : Calls Tryz.prog 31 #[.pointer (some ⟨b, 0, none⟩)] w fun e w' => e = .returned (.pointer (some ⟨m.nb, 0, none⟩)) ∧ w' = w := by
  have c0 := h.c0
  have hE := eqLcpSome ⟨b, 0, none⟩
  clear h
  go_enter Tryz.func31, Tryz.ntmps31
  go_wp2
  go_ret
  exact ⟨rfl, rfl⟩

def doL (l : Lp) (ev : Int) : Lp × List Pk0 := ({ l with ng := (doN l.ng ev).1 }, (doN l.ng ev).2)
set_option maxRecDepth 100000 in
theorem lcpDo_any (ev : Int) (w : World) (h : LcpIn w base b m l) : Calls Tryz.prog 11 #[.pointer (some ⟨b, 0, none⟩), .int .i64 ev] w fun e w' => ∃ vo, e = .returned vo ∧ LSent w w' base b m (doL l ev) vo := by
  have HN := hid (negotiation_any w h)
  have HD := hid (ngDo_any ev w h.neg)
  have H := hid h
  unfold doL
  clear h
  generalize doN l.ng ev = D at *
  go_enter Tryz.func11, Tryz.ntmps11
  go_wp2_with (first | (go_at_call 31; refine HN.out.mono ?_; rintro e w' ⟨rfl, hw⟩; rw [hw]; clear hw w'))
  refine HD.out.mono ?_
  rintro e w1 ⟨vo, rfl, S⟩
  obtain ⟨p, cap, rfl⟩ := S.slice
  have HS := hid (H.out.sent S)
  clear S
  go_wp2
  go_ret
  exact ⟨_, rfl, HS.out⟩

set_option maxRecDepth 100000 in
theorem lcpState_any (w : World) (h : LcpIn w base b m l) : Calls Tryz.prog 15 #[.pointer (some ⟨b, 0, none⟩)] w fun e w' => e = .returned (.int .i64 l.ng.au.st) ∧ w' = w := by
  have HN := hid (negotiation_any w h)
  have HD := hid (ngState_any w h.neg)
  clear h
  go_enter Tryz.func15, Tryz.ntmps15
  go_wp2_with (first
    | (go_at_call 31; refine HN.out.mono ?_; rintro e w' ⟨rfl, hw⟩; rw [hw]; clear hw w')
    | (go_at_call 42; refine HD.out.mono ?_; rintro e w' ⟨rfl, hw⟩; rw [hw]; clear hw w'))
  go_ret
  exact ⟨rfl, rfl⟩
set_option maxRecDepth 100000 in
theorem isOpened_any (w : World) (h : LcpIn w base b m l) : Calls Tryz.prog 36 #[.pointer (some ⟨b, 0, none⟩)] w fun e w' => e = .returned (.bool (l.ng.au.st == 9)) ∧ w' = w := by
  have HN := hid (lcpState_any w h)
  clear h
  go_enter Tryz.func36, Tryz.ntmps36
  go_wp2_with (first
    | (go_at_call 15; refine HN.out.mono ?_; rintro e w' ⟨rfl, hw⟩; rw [hw]; clear hw w'))
  go_ret
  exact ⟨rfl, rfl⟩
set_option maxRecDepth 100000 in
theorem loops_any (w : World) (h : LcpIn w base b m l) : Calls Tryz.prog 16 #[.pointer (some ⟨b, 0, none⟩)] w fun e w' => e = .returned (.int .i64 l.loops) ∧ w' = w := by
  have c3 := h.c3
  have hE := eqLcpSome ⟨b, 0, none⟩
  clear h
  go_enter Tryz.func16, Tryz.ntmps16
  go_wp2
  go_ret
  exact ⟨rfl, rfl⟩
set_option maxRecDepth 100000 in
theorem sign_any (w : World) (h : LcpIn w base b m l) : Calls Tryz.prog 62 #[.pointer (some ⟨b, 0, none⟩)] w fun e w' => e = .returned (.string (numF l.magic 4)) ∧ Kept (fun _ => False) w w' := by
  have c2 := h.c2
  have HP := hid (put_any l.magic 4 (by decide) (by decide) w)
  simp only [Int.cast_ofNat_Int] at HP
  generalize numF l.magic 4 = S at *
  clear h
  go_enter Tryz.func62, Tryz.ntmps62
  go_wp2_with fail
  refine HP.out.mono ?_
  rintro e w1 ⟨rfl, hk⟩
  have HK := hid hk
  clear hk
  go_wp2
  go_ret
  exact ⟨rfl, HK.out⟩

/-- Another Magic for the peer, as it is drawn. -/
def bytes4 (l : Lp) : ByteArray := ⟨(Tp.bytesF l.rest l.asked 4).toArray⟩
def drawS (l : Lp) : ByteArray := if (bytes4 l).toList == (numF 0 4).toList then numF 1 4 else bytes4 l
def drewL (l : Lp) : Lp := { l with rest := l.rest.drop 4, asked := l.asked + (4 - l.rest.length) }
set_option maxHeartbeats 1000000 in
set_option maxRecDepth 100000 in
theorem draw_any (w : World) (h : LcpIn w base b m l) (ha : l.asked ≤ 900000) : Calls Tryz.prog 85 #[.pointer (some ⟨b, 0, none⟩)] w fun e w' => e = .returned (.string (drawS l)) ∧ ∃ m', LNext w w' base b m m' (drewL l) := by
  have c1 := h.c1
  have HB := hid (show Calls Tryz.prog 104 #[.pointer (some ⟨m.tb, 0, none⟩), .int .i64 4] w _ from Tp.bytes_any m.tb m.tp m.tcap l.rest l.asked 4 (by decide) (by decide) ha w h.tape)
  have HP0 := hid (fun W => put_any 0 4 (by decide) (by decide) W)
  have HP1 := hid (fun W => put_any 1 4 (by decide) (by decide) W)
  simp only [Int.cast_ofNat_Int] at HP0 HP1
  have H := hid h
  unfold drawS
  have eB : bytes4 l = ⟨(Tp.bytesF l.rest l.asked 4).toArray⟩ := rfl
  rw [← eB] at HB
  generalize bytes4 l = B at *
  generalize numF 0 4 = Z at *
  generalize numF 1 4 = O at *
  clear h eB
  cases hq : (B.toList == Z.toList) with
  | true =>
    rw [if_pos rfl]
    go_enter Tryz.func85, Tryz.ntmps85
    go_wp2_with fail
    refine HB.out.mono ?_
    rintro e w1 ⟨rfl, ⟨p', cap', ht, hon⟩, hk⟩
    have N1 := hid (H.out.ofTape ht hon hk)
    clear ht hon hk
    go_wp2_with fail
    refine (HP0.out _).mono ?_
    rintro e w2 ⟨rfl, hk2⟩
    have N2 := hid (N1.out.then0 hk2)
    clear hk2
    go_wp2_with fail
    refine (HP1.out _).mono ?_
    rintro e w3 ⟨rfl, hk3⟩
    have N3 := hid (N2.out.then0 hk3)
    clear hk3
    go_wp2
    go_ret
    exact ⟨rfl, _, N3.out⟩
  | false =>
    rw [if_neg (by simp)]
    go_enter Tryz.func85, Tryz.ntmps85
    go_wp2_with fail
    refine HB.out.mono ?_
    rintro e w1 ⟨rfl, ⟨p', cap', ht, hon⟩, hk⟩
    have N1 := hid (H.out.ofTape ht hon hk)
    clear ht hon hk
    go_wp2_with fail
    refine (HP0.out _).mono ?_
    rintro e w2 ⟨rfl, hk2⟩
    have N2 := hid (N1.out.then0 hk2)
    clear hk2
    go_wp2
    go_ret
    exact ⟨rfl, _, N2.out⟩
end

/-- Is x among them? -/
def hasO (l : List Tg) (x : Tg) : Bool := l.any (fun t => sameT x t)
theorem hasO_take {l : List Tg} {j : Nat} {t x : Tg} (h : l[j]? = some t) : hasO (l.take (j + 1)) x = (hasO (l.take j) x || sameT x t) := by
  unfold hasO
  rw [take_next h, List.any_append]
  simp
set_option maxHeartbeats 2000000 in
set_option maxRecDepth 100000 in
theorem indexO_any (v : Value) (l : List Tg) (x : Tg) (w : World) (hv : TagsAt w v l) (hl : l.length ≤ 1000000) :
    Calls Tryz.prog 103 #[v, .agg #[.int .i64 x.type, .string x.value]] w fun e w' => ∃ i : Int, e = .returned (.int .i64 i) ∧ (decide (0 ≤ i) = hasO l x) ∧ Kept (fun _ => False) w w' := by
  obtain ⟨p, cap, rfl⟩ := hv.slice
  have hk0 := (Kept.refl (fun _ => False) w).alloc (.cells #[.int .i64 x.type, .string x.value] 67)
  have Hat := hid (fun (j : Nat) (t : Tg) (hj : l[j]? = some t) (W : World) (hW : Kept (fun _ => False) w W) => (hv.kept0 hW).at hj)
  have HB := hid (BoxO.new w x)
  have HK0 := hid hk0
  clear hv hk0
  go_enter Tryz.func103, Tryz.ntmps103
  go_wp2
  go_loopw [5, 8] (fun _ vi wr => ∃ j : Nat, j ≤ l.length ∧ vi = .int .i64 (j : Int) ∧ Hid (hasO (l.take j) x = false ∧ Kept (fun _ => False) (w.alloc (.cells #[.int .i64 x.type, .string x.value] 67)) wr)) (fun _ vi _ => l.length - (intOf vi).toNat)
  case atStart => exact ⟨0, Nat.zero_le _, rfl, rfl, Kept.refl _ _⟩
  case round =>
    obtain ⟨j, hj, rfl, HI⟩ := hrel
    by_cases hlt : j < l.length
    · have hltz : (j : Int) < (l.length : Int) := by omega
      obtain ⟨t, ht⟩ : ∃ t, l[j]? = some t := ⟨l[j], by simp [hlt]⟩
      have KW := hid (HK0.out.trans HI.out.2)
      obtain ⟨g, o, rfl, hcap, c0, c1⟩ := Hat.out j t ht wr KW.out
      have hbx : BoxO wr w.heap.size x := (HI.out.2.block _ (BoxO.lt HB.out) id).trans HB.out
      have b0 := hbx.c0
      have b1 := hbx.c1
      have e0 : sameT x t = ((x.type == t.type) && (x.value.toList == t.value.toList)) := by unfold sameT; rw [bytes_same]
      have eN := hid (hasO_take (x := x) ht)
      have HT := hid ht
      clear ht hbx
      cases hs : sameT x t with
      | false =>
        have HN : Hid (hasO (l.take (j + 1)) x = false) := by
          show _ = _
          rw [eN.out, hs, HI.out.1]
          rfl
        rw [hs] at e0
        have hcase : (x.type == t.type) = false ∨ ((x.type == t.type) = true ∧ (x.value.toList == t.value.toList) = false) := by
          cases h1 : (x.type == t.type) with
          | false => exact Or.inl rfl
          | true =>
            rw [h1] at e0
            exact Or.inr ⟨rfl, by simpa using e0.symm⟩
        clear hs e0
        rcases hcase with e1 | ⟨e1, e2⟩
        · go_wp2
          go_quiet (fail)
          go_wp2
          exact ⟨⟨j + 1, hlt, by go_num, HN.out, HI.out.2.drewN _⟩, by simp [intOf]; omega⟩
        · go_wp2
          go_quiet (fail)
          go_wp2
          exact ⟨⟨j + 1, hlt, by go_num, HN.out, HI.out.2.drewN _⟩, by simp [intOf]; omega⟩
      | true =>
        have HN : Hid (hasO l x = true) := by
          show _ = _
          unfold hasO
          rw [List.any_eq_true]
          exact ⟨t, List.mem_of_getElem? HT.out, hs⟩
        rw [hs] at e0
        have e1 : (x.type == t.type) = true := by
          cases h1 : (x.type == t.type) with
          | true => rfl
          | false => rw [h1] at e0; simp at e0
        have e2 : (x.value.toList == t.value.toList) = true := by
          rw [e1] at e0
          simpa using e0.symm
        clear hs e0
        go_wp2
        go_quiet (fail)
        go_wp2
        go_ret
        exact ⟨_, rfl, by rw [HN.out]; simp, KW.out.drewN _⟩
    · obtain rfl : j = l.length := by omega
      have hltz : ¬ (l.length : Int) < (l.length : Int) := by omega
      have HN := hid HI.out.1
      rw [List.take_length] at HN
      go_wp2
      go_ret
      exact ⟨_, rfl, by rw [HN.out]; decide, HK0.out.trans HI.out.2⟩
set_option maxHeartbeats 2000000 in
set_option maxRecDepth 100000 in
theorem containsO_any (v : Value) (l : List Tg) (x : Tg) (w : World) (hv : TagsAt w v l) (hl : l.length ≤ 1000000) :
    Calls Tryz.prog 82 #[v, .agg #[.int .i64 x.type, .string x.value]] w fun e w' => e = .returned (.bool (hasO l x)) ∧ Kept (fun _ => False) w w' := by
  have hk0 := (Kept.refl (fun _ => False) w).alloc (.cells #[.int .i64 x.type, .string x.value] 67)
  have HI := hid (indexO_any v l x _ (hv.kept0 hk0) hl)
  have b0 := (BoxO.new w x).c0
  have b1 := (BoxO.new w x).c1
  have HK0 := hid hk0
  obtain ⟨p, cap, rfl⟩ := hv.slice
  clear hv hk0
  go_enter Tryz.func82, Tryz.ntmps82
  go_wp2_with fail
  refine HI.out.mono ?_
  rintro e w1 ⟨i, rfl, hi, hk⟩
  have HD := hid hi
  have HK := hid (HK0.out.trans hk)
  clear hi hk
  go_wp2
  go_ret
  exact ⟨by rw [← HD.out]; rfl, HK.out⟩

/-- Does its own Magic come back to it? -/
def hearsF (l : Lp) (o : List Tg) : Bool := (l.magic != 0) && hasO o ⟨5, numF l.magic 4⟩
set_option maxHeartbeats 2000000 in
set_option maxRecDepth 100000 in
theorem hears_any {base b : Nat} {m : Lm} {l : Lp} (v : Value) (o : List Tg) (w : World) (h : LcpIn w base b m l) (hv : TagsAt w v o) (hl : o.length ≤ 1000000) :
    Calls Tryz.prog 58 #[.pointer (some ⟨b, 0, none⟩), v] w fun e w' => e = .returned (.bool (hearsF l o)) ∧ Kept (fun _ => False) w w' := by
  have c2 := h.c2
  have HS := hid (sign_any w h)
  have HC := hid (fun (W : World) (k : Kept (fun _ => False) w W) => containsO_any v o ⟨5, numF l.magic 4⟩ W (hv.kept0 k) hl)
  obtain ⟨p, cap, rfl⟩ := hv.slice
  unfold hearsF
  generalize hasO o ⟨5, numF l.magic 4⟩ = R at *
  simp only at HC
  generalize numF l.magic 4 = S at *
  clear h hv
  cases hm : (l.magic != 0) with
  | false =>
    go_enter Tryz.func58, Tryz.ntmps58
    go_wp2
    go_ret
    exact ⟨rfl, Kept.refl _ _⟩
  | true =>
    go_enter Tryz.func58, Tryz.ntmps58
    go_wp2_with fail
    refine HS.out.mono ?_
    rintro e w1 ⟨rfl, hk1⟩
    have K1 := hid hk1
    clear hk1
    go_wp2_with fail
    refine (HC.out _ K1.out).mono ?_
    rintro e w2 ⟨rfl, hk2⟩
    have K2 := hid (K1.out.trans hk2)
    clear hk2
    go_wp2
    go_ret
    exact ⟨rfl, K2.out⟩
end Go.Proofs.YtklapjfljffahaaGreat

namespace Go.Proofs.YtklapjfljffahaaGreat
open Go.RowKit

/-- A rule in a block of its own. -/
def BoxB (W : World) (g : Nat) (r : Rl) : Prop := W.heap[g]? = some (.cells #[.int .i64 r.type, .int .i64 r.len, .int .i64 r.min, .int .i64 r.max, .string r.suggest] 109 (0, 0))
theorem BoxB.lt {W : World} {g : Nat} {r : Rl} (h : BoxB W g r) : g < W.heap.size := (Array.getElem?_eq_some_iff.1 h).1
theorem BoxB.kept {S : Nat → Prop} {W W' : World} {g : Nat} {r : Rl} (h : BoxB W g r) (hk : Kept S W W') (hS : ¬ S g) : BoxB W' g r := (hk.block g h.lt hS).trans h
theorem BoxB.cell {W : World} {g : Nat} {r : Rl} (h : BoxB W g r) : BoxR W g r := by
  unfold BoxB at h
  refine ⟨?_, ?_, ?_, ?_, ?_⟩ <;> simp [World.cell?, h]
theorem BoxB.fz {W : World} {g : Nat} {r : Rl} (h : BoxB W g r) (j : Nat) : W.frozen? ⟨g, j, none⟩ = false := by
  unfold BoxB at h
  simp [World.frozen?, h]
theorem BoxB.set5 {W : World} {g : Nat} {r : Rl} (h : BoxB W g r) (q : Rl) :
    BoxB (((((W.setCell ⟨g, 0, none⟩ (.int .i64 q.type)).setCell ⟨g, 1, none⟩ (.int .i64 q.len)).setCell ⟨g, 2, none⟩ (.int .i64 q.min)).setCell ⟨g, 3, none⟩ (.int .i64 q.max)).setCell ⟨g, 4, none⟩ (.string q.suggest)) g q := by
  unfold BoxB at h ⊢
  exact Joins.block_setCell (Joins.block_setCell (Joins.block_setCell (Joins.block_setCell (Joins.block_setCell h _) _) _) _) _
theorem BoxB.set3 {W : World} {g : Nat} {r : Rl} (h : BoxB W g r) (x : Int) : BoxB (W.setCell ⟨g, 3, none⟩ (.int .i64 x)) g { r with max := x } := by
  unfold BoxB at h ⊢
  exact Joins.block_setCell h _
theorem set5_keptS (W : World) (g : Nat) (x0 x1 x2 x3 x4 : Value) : Kept (fun i => i = g) W (((((W.setCell ⟨g, 0, none⟩ x0).setCell ⟨g, 1, none⟩ x1).setCell ⟨g, 2, none⟩ x2).setCell ⟨g, 3, none⟩ x3).setCell ⟨g, 4, none⟩ x4) :=
  (((((Kept.refl (fun i => i = g) W).setCell (p := ⟨g, 0, none⟩) (Or.inr rfl) x0).setCell (p := ⟨g, 1, none⟩) (Or.inr rfl) x1).setCell (p := ⟨g, 2, none⟩) (Or.inr rfl) x2).setCell (p := ⟨g, 3, none⟩) (Or.inr rfl) x3).setCell (p := ⟨g, 4, none⟩) (Or.inr rfl) x4

/-- A rule's block is none of a link's. -/
theorem LcpIn.other {W : World} {base b g i : Nat} {m : Lm} {l : Lp} {u : Value} {cur : Array Value} {fz : Nat × Nat} (h : LcpIn W base b m l) (hg : W.heap[g]? = some (.cells cur 109 fz)) (hon : ∀ i, m.on i → i ≠ g) : LcpIn (W.setCell ⟨g, i, none⟩ u) base b m l := by
  have hk := kept_cell W g i u
  have hb : b ≠ g := fun e => by have h1 := h.cells; rw [e, hg] at h1; simp at h1
  have ht : m.tb ≠ g := fun e => by obtain ⟨c, h1⟩ := h.tape.blk; rw [e, hg] at h1; simp at h1
  have hn : m.nb ≠ g := fun e => by have h1 := h.neg.cells; rw [e, hg] at h1; simp at h1
  have ha : m.na.am ≠ g := fun e => by have h1 := h.neg.auto; unfold AutoIn at h1; rw [e, hg] at h1; simp at h1
  have hne : ∀ (v : Value) (o : List Tg), OwnO W base v o → ∀ i, v.ownBlock = some i → ¬ i = g := fun v o ho i hi e => by
    obtain ⟨c, h1⟩ := ho.cellsB hi
    rw [e, hg] at h1
    simp at h1
  exact ⟨(hk.block b h.lt hb).trans h.cells, h.neg.keptS hk (fun i e _ => by rw [e]; exact ⟨_, _, _, hg⟩) hn ha (hne _ _ h.neg.req) (hne _ _ h.neg.mine) (hne _ _ h.neg.theirs), h.tape.kept hk ht (fun i hi => hon i (h.onT i hi)), h.onT, h.far, fun i hi => ⟨(h.farOn i hi).1, (h.farOn i hi).2.1, (h.farOn i hi).2.2.1, (h.farOn i hi).2.2.2.1, Nat.lt_of_lt_of_le (h.farOn i hi).2.2.2.2 hk.size⟩, h.ne, h.lo, h.lo2, h.good⟩

def authQ (o : List Tg) : Rl := if authOfF o == 49187 then papR else chapR
def magicQ (l : Lp) (o : List Tg) : Rl := if hearsF l o then { magicR with max := 0 } else magicR
def base3 (l : Lp) (o : List Tg) : List Rl := [mruR 65535, authQ o, magicQ l o]
/-- Is another Magic suggested? -/
def needsF (l : Lp) (o : List Tg) : Bool := (findO (judgeF (base3 l o) o).2 5).isSome && ((judgeF (base3 l o) o).1 == 3)
def rulesF (l : Lp) (o : List Tg) : List Rl := if needsF l o then [mruR 65535, authQ o, { magicQ l o with suggest := drawS l }] else base3 l o
def ruledL (l : Lp) (o : List Tg) : Lp := if needsF l o then drewL l else l

/-- The two boxes of a rule in the making. -/
structure Two (w W : World) (g h : Nat) (mq aq : Rl) : Prop where
  mb : BoxB W g mq
  ab : BoxB W h aq
  gl : w.heap.size ≤ g
  hl : w.heap.size ≤ h
  ne : g ≠ h
  k : Kept (fun _ => False) w W
theorem Two.kept0 {w W W' : World} {g h : Nat} {mq aq : Rl} (t : Two w W g h mq aq) (hk : Kept (fun _ => False) W W') : Two w W' g h mq aq := ⟨t.mb.kept hk id, t.ab.kept hk id, t.gl, t.hl, t.ne, t.k.trans hk⟩
theorem Two.setA {w W : World} {g h : Nat} {mq aq : Rl} (t : Two w W g h mq aq) (q : Rl) :
    Two w (((((W.setCell ⟨h, 0, none⟩ (.int .i64 q.type)).setCell ⟨h, 1, none⟩ (.int .i64 q.len)).setCell ⟨h, 2, none⟩ (.int .i64 q.min)).setCell ⟨h, 3, none⟩ (.int .i64 q.max)).setCell ⟨h, 4, none⟩ (.string q.suggest)) g h mq q :=
  ⟨t.mb.kept (set5_keptS W h _ _ _ _ _) t.ne, t.ab.set5 q, t.gl, t.hl, t.ne, set5_kept t.k t.hl _ _ _ _ _⟩
theorem Two.setM {w W : World} {g h : Nat} {mq aq : Rl} (t : Two w W g h mq aq) (x : Int) : Two w (W.setCell ⟨g, 3, none⟩ (.int .i64 x)) g h { mq with max := x } aq :=
  ⟨t.mb.set3 x, t.ab.kept (kept_cell W g 3 _) (fun e => t.ne e.symm), t.gl, t.hl, t.ne, t.k.setCell (p := ⟨g, 3, none⟩) (Or.inl t.gl) _⟩
theorem two_new {w w2 : World} (k : Kept (fun _ => False) w w2) (mq aq : Rl) (X : World)
    (hX : (w2.alloc (.cells #[.int .i64 mq.type, .int .i64 mq.len, .int .i64 mq.min, .int .i64 mq.max, .string mq.suggest] 109)).alloc (.cells #[.int .i64 aq.type, .int .i64 aq.len, .int .i64 aq.min, .int .i64 aq.max, .string aq.suggest] 109) = X) :
    Two w X w2.heap.size (w2.heap.size + 1) mq aq := by
  have hs := k.size
  have hsz : (w2.alloc (.cells #[.int .i64 mq.type, .int .i64 mq.len, .int .i64 mq.min, .int .i64 mq.max, .string mq.suggest] 109)).heap.size = w2.heap.size + 1 := by simp
  have b1 : BoxB (w2.alloc (.cells #[.int .i64 mq.type, .int .i64 mq.len, .int .i64 mq.min, .int .i64 mq.max, .string mq.suggest] 109)) w2.heap.size mq := heap_alloc_new w2 _
  have ka := (Kept.refl (fun _ => False) (w2.alloc (.cells #[.int .i64 mq.type, .int .i64 mq.len, .int .i64 mq.min, .int .i64 mq.max, .string mq.suggest] 109))).alloc (.cells #[.int .i64 aq.type, .int .i64 aq.len, .int .i64 aq.min, .int .i64 aq.max, .string aq.suggest] 109)
  have b2 : BoxB ((w2.alloc (.cells #[.int .i64 mq.type, .int .i64 mq.len, .int .i64 mq.min, .int .i64 mq.max, .string mq.suggest] 109)).alloc (.cells #[.int .i64 aq.type, .int .i64 aq.len, .int .i64 aq.min, .int .i64 aq.max, .string aq.suggest] 109)) (w2.heap.size + 1) aq := by
    rw [← hsz]
    exact heap_alloc_new _ _
  rw [← hX]
  exact ⟨b1.kept ka id, b2, hs, by omega, by omega, (k.alloc _).trans ka⟩

def TwoS (w : World) (g h : Nat) (mq aq : Rl) (W : World) : Prop := Two w W g h mq aq
theorem rules3_64 (l : Lp) (o : List Tg) : ∀ r ∈ base3 l o, In64 r.type := by
  intro r hr
  unfold base3 authQ magicQ at hr
  simp only [List.mem_cons, List.not_mem_nil, or_false] at hr
  rcases hr with rfl | rfl | rfl
  · exact ⟨by simp [mruR], by simp [mruR]⟩
  · split <;> exact ⟨by decide, by decide⟩
  · split <;> exact ⟨by decide, by decide⟩

set_option maxHeartbeats 8000000 in
set_option maxRecDepth 100000 in
theorem rulesFor_any {base b : Nat} {m : Lm} {l : Lp} (v : Value) (o : List Tg) (w : World) (h : LcpIn w base b m l) (ha : l.asked ≤ 900000) (hv : OptsAt w v o) (hf : FineO o) :
    Calls Tryz.prog 60 #[.pointer (some ⟨b, 0, none⟩), v] w fun e w' => ∃ u m', e = .returned u ∧ RulesAt w' u (rulesF l o) ∧ LNext w w' base b m m' (ruledL l o) := by
  have HMg := hid (fun W => magicRule_any W)
  have HCh := hid (fun W => chapRule_any W)
  have HPp := hid (fun W => papRule_any W)
  have HMr := hid (fun W => mruRule_any 65535 W)
  have H := hid h
  have HH := hid (fun (W : World) (k : Kept (fun _ => False) w W) => hears_any v o W (H.out.kept0 k) (hv.1.kept0 k) (by have := hf.1; omega))
  have HAu := hid (fun (W : World) (k : Kept (fun _ => False) w W) => authOf_any v o W (hv.1.kept0 k) (by have := hf.1; omega) hf.2.2)
  have HJ := hid (fun (W : World) (k : Kept (fun _ => False) w W) (vr : Value) (hr : RulesAt W vr (base3 l o)) => judgeR_any vr (base3 l o) v o W hr (by simp [base3]) (rules3_64 l o) (hv.kept0 k) hf.1 hf.2.1 hf.2.2)
  have HD := hid (fun (W : World) (h : LcpIn W base b m l) => draw_any W h ha)
  have HJf := hid (judgeF_fine (rs := base3 l o) hf (fun r hr => by
    unfold base3 authQ magicQ at hr
    simp only [List.mem_cons, List.not_mem_nil, or_false] at hr
    rcases hr with rfl | rfl | rfl
    · simp [mruR, numF_size]
    · split <;> simp [papR, chapR, numF_size]
    · split <;> simp [magicR, numF_size]))
  obtain ⟨p, cap, hvs⟩ := hv.1.slice
  have HB3 : Hid (base3 l o = [mruR 65535, authQ o, magicQ l o]) := rfl
  have HMQ : Hid (magicQ l o = if hearsF l o then { magicR with max := 0 } else magicR) := rfl
  have HAQ : Hid (authQ o = if authOfF o == 49187 then papR else chapR) := rfl
  have HRF : Hid (rulesF l o = if needsF l o then [mruR 65535, authQ o, { magicQ l o with suggest := drawS l }] else base3 l o) := rfl
  have HRL : Hid (ruledL l o = if needsF l o then drewL l else l) := rfl
  have HNF : Hid (needsF l o = ((findO (judgeF (base3 l o) o).2 5).isSome && ((judgeF (base3 l o) o).1 == 3))) := rfl
  clear h ha hv hf
  subst hvs
  unfold rlV at HMg HCh HPp HMr
  generalize judgeF (base3 l o) o = J at *
  generalize base3 l o = B3 at *
  generalize rulesF l o = RF at *
  generalize ruledL l o = RL at *
  generalize magicQ l o = MQ at *
  generalize authQ o = AQ at *
  generalize needsF l o = NF at *
  generalize hearsF l o = hq at *
  generalize authOfF o = aq at *
  generalize drawS l = DS at *
  simp only [magicR] at HMg
  simp only [chapR] at HCh
  simp only [papR] at HPp
  simp only [mruR] at HMr
  go_enter Tryz.func60, Tryz.ntmps60
  go_wp2_with fail
  refine (HMg.out _).mono ?_
  rintro e w1 ⟨rfl, hk1⟩
  have K1 := hid hk1
  clear hk1
  go_wp2_with fail
  refine (HCh.out _).mono ?_
  rintro e w2 ⟨rfl, hk2⟩
  have K2 := hid (K1.out.trans hk2)
  clear hk2 K1
  go_upto_region 2 with fail
  have TN := hid (two_new K2.out magicR chapR)
  unfold magicR chapR at TN
  simp only at TN
  generalize hX : World.alloc _ (.cells #[.int .i64 3, .int .i64 3, .int .i64 12722949, .int .i64 12722949, .string (numF 12722949 3)] 109) = X
  have T1 := hid (TN.out X hX)
  clear hX TN K2
  generalize w2.heap.size + 1 = ga at *
  generalize w2.heap.size = gm at *
  go_wp2_with fail
  refine (HH.out _ T1.out.k).mono ?_
  rintro e w3 ⟨rfl, hk3⟩
  have T3 := hid (T1.out.kept0 hk3)
  clear hk3 T1
  have hMf := T3.out.mb.fz 3
  obtain ⟨b0, b1, b2, b3, b4⟩ := T3.out.mb.cell
  have T3m := hid (T3.out.setM 0)
  cases hq
  case' false =>
    simp only [Bool.false_eq_true, if_false] at HMQ
    go_upto_region 4 with fail
    have T4 : Hid (Two w w3 gm ga MQ chapR) := by rw [HMQ.out]; exact T3.out
  case' true =>
    simp only [if_true] at HMQ
    go_upto_region 4 with fail
    have T4 : Hid (Two w (w3.setCell ⟨gm, 3, none⟩ (.int .i64 0)) gm ga MQ chapR) := by rw [HMQ.out]; exact T3m.out
    generalize w3.setCell ⟨gm, 3, none⟩ (.int .i64 0) = w3 at *
  all_goals
    clear T3 T3m hMf b0 b1 b2 b3 b4 HMQ
    go_wp2_with fail
    refine (HAu.out _ T4.out.k).mono ?_
    rintro e w5 ⟨rfl, hk5⟩
    have T5 := hid (T4.out.kept0 hk5)
    clear hk5 T4
    cases hp : (aq == 49187)
    case' false =>
      simp only [hp, Bool.false_eq_true, if_false] at HAQ
      go_upto_region 6 with fail
      have T6 : Hid (Two w w5 gm ga MQ AQ) := by rw [HAQ.out]; exact T5.out
    case' true =>
      simp only [hp, if_true] at HAQ
      go_wp2_with fail
      refine (HPp.out _).mono ?_
      rintro e w6 ⟨rfl, hk6⟩
      have T5b := hid (T5.out.kept0 hk6)
      have hAf := T5b.out.ab.fz
      obtain ⟨a0, a1, a2, a3, a4⟩ := T5b.out.ab.cell
      have T5c := hid (T5b.out.setA papR)
      unfold papR at T5c
      simp only at T5c
      clear hk6
      go_upto_region 6 with fail
      generalize hX : World.setCell _ ⟨ga, 4, none⟩ (.string (numF 49187 2)) = w5 at *
      have T6 : Hid (Two w w5 gm ga MQ AQ) := by rw [HAQ.out]; exact T5c.out
      clear hX hAf a0 a1 a2 a3 a4 T5b T5c
  all_goals
    clear T5 HAQ hp
    have T6d : TwoS w gm ga MQ AQ w5.drew := T6.out.kept0 ((Kept.refl (fun _ => False) _).drew)
    have d0 : ∀ W, TwoS w gm ga MQ AQ W → W.cell? ⟨gm, 0, none⟩ = some (.int .i64 MQ.type) := fun W t => t.mb.cell.1
    have d1 : ∀ W, TwoS w gm ga MQ AQ W → W.cell? ⟨gm, 1, none⟩ = some (.int .i64 MQ.len) := fun W t => t.mb.cell.2.1
    have d2 : ∀ W, TwoS w gm ga MQ AQ W → W.cell? ⟨gm, 2, none⟩ = some (.int .i64 MQ.min) := fun W t => t.mb.cell.2.2.1
    have d3 : ∀ W, TwoS w gm ga MQ AQ W → W.cell? ⟨gm, 3, none⟩ = some (.int .i64 MQ.max) := fun W t => t.mb.cell.2.2.2.1
    have d4 : ∀ W, TwoS w gm ga MQ AQ W → W.cell? ⟨gm, 4, none⟩ = some (.string MQ.suggest) := fun W t => t.mb.cell.2.2.2.2
    have f0 : ∀ W, TwoS w gm ga MQ AQ W → W.cell? ⟨ga, 0, none⟩ = some (.int .i64 AQ.type) := fun W t => t.ab.cell.1
    have f1 : ∀ W, TwoS w gm ga MQ AQ W → W.cell? ⟨ga, 1, none⟩ = some (.int .i64 AQ.len) := fun W t => t.ab.cell.2.1
    have f2 : ∀ W, TwoS w gm ga MQ AQ W → W.cell? ⟨ga, 2, none⟩ = some (.int .i64 AQ.min) := fun W t => t.ab.cell.2.2.1
    have f3 : ∀ W, TwoS w gm ga MQ AQ W → W.cell? ⟨ga, 3, none⟩ = some (.int .i64 AQ.max) := fun W t => t.ab.cell.2.2.2.1
    have f4 : ∀ W, TwoS w gm ga MQ AQ W → W.cell? ⟨ga, 4, none⟩ = some (.string AQ.suggest) := fun W t => t.ab.cell.2.2.2.2
    go_wp2_with fail
    refine wp_region_held_drew (S := TwoS w gm ga MQ AQ) (by kernel_rfl) (T6d) (fun hSd => ?_)
    refine wpAnyH_take (i := 1) (v := ?_) rfl (by kernel_rfl) (by kernel_rfl) (by kernel_rfl) (fun _ _ _ h => h) (Or.inl ⟨by kernel_rfl, fun W hSW => by go_simp; try with_reducible rfl⟩) (by assumption) ?_
    try simp only [List.getElem_toArray]
    try simp only [List.getElem_cons_succ]
    try simp only [List.getElem_cons_zero]
    try simp only [Act.put]
    try simp only [List.setIfInBounds_toArray]
    try simp only [List.set_cons_succ]
    try simp only [List.set_cons_zero]
    refine wpAnyH_take (i := 2) (v := ?_) rfl (by kernel_rfl) (by kernel_rfl) (by kernel_rfl) (fun _ _ _ h => h) (Or.inl ⟨by kernel_rfl, fun W hSW => by go_simp; try with_reducible rfl⟩) (by assumption) ?_
    try simp only [List.getElem_toArray]
    try simp only [List.getElem_cons_succ]
    try simp only [List.getElem_cons_zero]
    try simp only [Act.put]
    try simp only [List.setIfInBounds_toArray]
    try simp only [List.set_cons_succ]
    try simp only [List.set_cons_zero]
    refine wpAnyH_ready (rs := [0]) (by kernel_rfl) (by simp) ?_
    refine AllReadyH.cons rfl (fun K hK => ?_) AllReadyH.nil
    go_simp
    refine (HMr.out _).mono ?_
    rintro e w7 ⟨rfl, hk7⟩
    have T7 := hid (show TwoS w gm ga MQ AQ w7 from T6d.kept0 hk7)
    clear hk7
    refine hK.out _ _ (T7.out) (fun _ => ?_)
    clear hK K
    try simp only [List.getElem_toArray]
    try simp only [List.getElem_cons_succ]
    try simp only [List.getElem_cons_zero]
    try simp only [Act.put]
    try simp only [List.setIfInBounds_toArray]
    try simp only [List.set_cons_succ]
    try simp only [List.set_cons_zero]
    refine wpAnyH_ready (rs := [3]) (by kernel_rfl) (by simp) ?_
    refine AllReadyH.cons rfl (fun K hK => ?_) AllReadyH.nil
    go_simp
    refine hK.out _ _ (T7.out.kept0 ((Kept.refl (fun _ => False) w7).alloc _)) (fun _ => ?_)
    clear hK K
    try simp only [List.getElem_toArray]
    try simp only [List.getElem_cons_succ]
    try simp only [List.getElem_cons_zero]
    try simp only [Act.put]
    try simp only [List.setIfInBounds_toArray]
    try simp only [List.set_cons_succ]
    try simp only [List.set_cons_zero]
    refine wpAnyH_take (i := 4) (v := ?_) rfl (by kernel_rfl) (by kernel_rfl) (by kernel_rfl) (fun _ _ _ h => h) (Or.inl ⟨by kernel_rfl, fun W hSW => by go_simp; try with_reducible rfl⟩) (by assumption) ?_
    try simp only [List.getElem_toArray]
    try simp only [List.getElem_cons_succ]
    try simp only [List.getElem_cons_zero]
    try simp only [Act.put]
    try simp only [List.setIfInBounds_toArray]
    try simp only [List.set_cons_succ]
    try simp only [List.set_cons_zero]
    refine wpAnyH_done (by kernel_rfl) ?_ _
    have R8 : Hid (RowRl (w7.alloc (.cells (rowRl [mruR 65535, AQ, MQ]).toArray 109)) w7.heap.size [mruR 65535, AQ, MQ]) := heap_alloc_new w7 _
    have K8 := hid (T7.out.k.alloc (.cells (rowRl [mruR 65535, AQ, MQ]).toArray 109))
    have hgr := T7.out.k.size
    rw [show (rowRl [mruR 65535, AQ, MQ]).toArray = #[.int .i64 1, .int .i64 2, .int .i64 64, .int .i64 65535, .string (numF 1492 2), .int .i64 AQ.type, .int .i64 AQ.len, .int .i64 AQ.min, .int .i64 AQ.max, .string AQ.suggest, .int .i64 MQ.type, .int .i64 MQ.len, .int .i64 MQ.min, .int .i64 MQ.max, .string MQ.suggest] from rfl] at R8 K8
    clear d0 d1 d2 d3 d4 f0 f1 f2 f3 f4 T7 T6 T6d HMr
    go_upto_region 7 with fail
    generalize hX : World.alloc w7 _ = w8 at *
    generalize w7.heap.size = gr at *
    clear hX
    have RA : Hid (RulesAt w8 (.slice (some ⟨gr, 0, none⟩) 3 3) B3) := by
      have h := R8.out.at (by simp)
      rw [HB3.out]
      exact h
    go_wp2_with fail
    refine (HJ.out _ K8.out _ RA.out).mono ?_
    rintro e w9 ⟨u9, rfl, ho9, hk9⟩
    have HFd := hid (findOpt_any u9 J.2 5 w9 ho9.tags (by have := HJf.out.1; omega) HJf.out.2.2)
    obtain ⟨p9, c9, rfl⟩ := slice_of ho9
    have R9 := hid (R8.out.kept hk9 id)
    have K9 := hid (K8.out.trans hk9)
    clear ho9 hk9 R8 K8 RA
    generalize findOB J.2 5 = FB at *
    generalize (findO J.2 5).isSome = fo at *
    go_wp2_with fail
    refine HFd.out.mono ?_
    rintro e w10 ⟨rfl, hk10⟩
    have R10 := hid (R9.out.kept hk10 id)
    have K10 := hid (K9.out.trans hk10)
    clear hk10 R9 K9 HFd
    have RB : Hid (RulesAt w10 (.slice (some ⟨gr, 0, none⟩) 3 3) B3) := by
      have h := R10.out.at (by simp)
      rw [HB3.out]
      exact h
    cases fo
    case' true =>
      cases hj : (J.1 == 3)
      case' true =>
        have hNF : NF = true := by rw [HNF.out, hj]; rfl
        rw [if_pos hNF] at HRF HRL
        have HDr := hid (HD.out w10 (H.out.kept0 K10.out))
        have N10 := hid (LNext.of0 H.out K10.out)
        have hsl := hid H.out.sl_lt
        clear hNF RB
        go_wp2_with fail
        refine HDr.out.mono ?_
        rintro e w11 ⟨rfl, m11, hn11⟩
        have R11 := hid (R10.out.kept hn11.kept (fun s => by have := hsl.out gr s; omega))
        have N11 := hid (N10.out.trans hn11)
        have g14 : w11.cell? ⟨gr, 14, none⟩ = some (.string MQ.suggest) := by
          have h := R11.out
          unfold RowRl at h
          simp [World.cell?, h, rowRl, rlCells]
        have z14 : w11.frozen? ⟨gr, 14, none⟩ = false := by
          have h := R11.out
          unfold RowRl at h
          simp [World.frozen?, h]
        clear hn11 HDr R10 N10
        go_wp2
        go_ret
        refine ⟨_, m11, rfl, ?_, ?_⟩
        · rw [HRF.out]
          exact RowRl.at (rs := [mruR 65535, AQ, { MQ with suggest := DS }]) (Joins.block_setCell R11.out _) (by simp)
        · rw [HRL.out]
          exact ⟨N11.out.lcp.other R11.out (fun i hi => by rw [N11.out.on] at hi; have := (H.out.farOn i hi).2.2.2.2; omega), N11.out.nb, N11.out.tb, N11.out.on, N11.out.am, N11.out.fr, N11.out.fm, N11.out.ft, N11.out.kept.setCell (p := ⟨gr, 14, none⟩) (Or.inl hgr) _⟩
  all_goals
    have hNF : ¬ NF = true := by rw [HNF.out]; simp [*]
    rw [if_neg hNF] at HRF HRL
    clear hNF
    go_wp2
    go_ret
    exact ⟨_, m, rfl, by rw [HRF.out]; exact RB.out, by rw [HRL.out]; exact LNext.of0 H.out K10.out⟩
end Go.Proofs.YtklapjfljffahaaGreat

namespace Go.Proofs.YtklapjfljffahaaGreat
open Go.RowKit

/-- A packet that comes to a link. -/
structure LPk (W : World) (b : Nat) (m : Lm) (p : Pk0) (v : Value) : Prop where
  at_ : OptsAt W v p.opts
  far : p.opts = [] ∨ ∀ i, v.ownBlock = some i → ¬ Sl b m i
  fine : FineO p.opts
  data : p.data.size ≤ 140737488351232
theorem LPk.kept0 {W W' : World} {b : Nat} {m : Lm} {p : Pk0} {v : Value} (h : LPk W b m p v) (hk : Kept (fun _ => False) W W') : LPk W' b m p v := ⟨h.at_.kept0 hk, h.far, h.fine, h.data⟩
theorem LPk.step {W W' : World} {base b : Nat} {m m' : Lm} {l' : Lp} {p : Pk0} {v : Value} (h : LPk W b m p v) (k : LNext W W' base b m m' l') : LPk W' b m' p v := by
  refine ⟨h.at_.far h.far k.kept, ?_, h.fine, h.data⟩
  rcases h.far with h0 | h0
  · exact Or.inl h0
  · by_cases hne : p.opts = []
    · exact Or.inl hne
    · refine Or.inr fun i hi s => ?_
      rcases k.sl i s with h1 | h1
      · exact h0 i hi h1
      · have := optsAt_lt h.at_ hne hi
        omega
theorem LPk.neg {W : World} {b : Nat} {m : Lm} {p : Pk0} {v : Value} (h : LPk W b m p v) : PkIn W m.nb m.na p v :=
  ⟨h.at_, h.far.imp id (fun f i hi s => f i hi (Or.inr (Or.inr s))), h.fine, h.data⟩

def loopL (l : Lp) (o : List Tg) : Lp := if hearsF l o then { l with loops := min (l.loops + 1) 4611686018427387904 } else l
def askL (l : Lp) (p : Pk0) : Lp × List Pk0 := ({ ruledL l p.opts with ng := (reqN (ruledL l p.opts).ng (rulesF l p.opts) p).1 }, (reqN (ruledL l p.opts).ng (rulesF l p.opts) p).2)
def reqL (l : Lp) (p : Pk0) : Lp × List Pk0 := if 4 ≤ (loopL l p.opts).loops then doL (loopL l p.opts) 3 else askL (loopL l p.opts) p

theorem rulesF_ok (l : Lp) (o : List Tg) : (rulesF l o).length ≤ 100000 ∧ (∀ r ∈ rulesF l o, In64 r.type) ∧ ShortR (rulesF l o) := by
  have hd : (drawS l).size ≤ 140737488351232 := by
    unfold drawS
    split
    · rw [numF_size]; decide
    · unfold bytes4
      simp [ByteArray.size, Tp.bytesF]
  have hm : In64 (magicQ l o).type ∧ (magicQ l o).suggest.size ≤ 140737488351232 := by
    unfold magicQ
    split <;> exact ⟨⟨by decide, by decide⟩, by simp [magicR, numF_size]⟩
  have ha : In64 (authQ o).type ∧ (authQ o).suggest.size ≤ 140737488351232 := by
    unfold authQ
    split
    · exact ⟨⟨by decide, by decide⟩, by simp [papR, numF_size]⟩
    · exact ⟨⟨by decide, by decide⟩, by simp [chapR, numF_size]⟩
  have hu : In64 (mruR 65535).type ∧ (mruR 65535).suggest.size ≤ 140737488351232 := ⟨⟨by decide, by decide⟩, by simp [mruR, numF_size]⟩
  unfold rulesF base3
  split
  · refine ⟨by simp, fun r hr => ?_, fun r hr => ?_⟩ <;> simp only [List.mem_cons, List.not_mem_nil, or_false] at hr <;> rcases hr with rfl | rfl | rfl
    · exact hu.1
    · exact ha.1
    · exact hm.1
    · exact hu.2
    · exact ha.2
    · exact hd
  · refine ⟨by simp, fun r hr => ?_, fun r hr => ?_⟩ <;> simp only [List.mem_cons, List.not_mem_nil, or_false] at hr <;> rcases hr with rfl | rfl | rfl
    · exact hu.1
    · exact ha.1
    · exact hm.1
    · exact hu.2
    · exact ha.2
    · exact hm.2

/-- A boxed packet and the link's first cell, as they are read. -/
structure BoxK (r b nb : Nat) (p : Pk0) (v : Value) (W : World) : Prop where
  x0 : W.cell? ⟨r, 0, none⟩ = some (.int .i64 p.code)
  x1 : W.cell? ⟨r, 1, none⟩ = some (.int .i64 p.id)
  x2 : W.cell? ⟨r, 2, none⟩ = some v
  x3 : W.cell? ⟨r, 3, none⟩ = some (.string p.data)
  c0 : W.cell? ⟨b, 0, none⟩ = some (.pointer (some ⟨nb, 0, none⟩))
theorem Own4.boxK {W : World} {r base b : Nat} {p : Pk0} {v : Value} {m : Lm} {l : Lp} (h : Own4 W r (.int .i64 p.code) (.int .i64 p.id) v (.string p.data)) (hl : LcpIn W base b m l) : BoxK r b m.nb p v W := ⟨h.1.1, h.1.2.1, h.1.2.2.1, h.1.2.2.2, hl.c0⟩

set_option maxHeartbeats 8000000 in
set_option maxRecDepth 100000 in
theorem lcpReq_any {base b : Nat} {m : Lm} {l : Lp} (p : Pk0) (v : Value) (w : World) (h : LcpIn w base b m l) (ha : l.asked ≤ 900000) (hp : LPk w b m p v) :
    Calls Tryz.prog 33 #[.pointer (some ⟨b, 0, none⟩), pkV p.code p.id v p.data] w fun e w' => ∃ vo, e = .returned vo ∧ LSent w w' base b m (reqL l p) vo := by
  unfold pkV
  obtain ⟨pv, cv, hv⟩ := hp.at_.1.slice
  have hk0 := (Kept.refl (fun _ => False) w).alloc (.cells #[.int .i64 p.code, .int .i64 p.id, v, .string p.data] 24)
  have O0 := hid (own4_new w 24 (.int .i64 p.code) (.int .i64 p.id) v (.string p.data))
  have HL := hid (h.kept0 hk0)
  have HP := hid (hp.kept0 hk0)
  have hnS : Hid (¬ Sl b m w.heap.size) := fun s => by have := h.sl_lt _ s; omega
  have HK0 := hid hk0
  generalize hA : w.alloc (.cells #[.int .i64 p.code, .int .i64 p.id, v, .string p.data] 24) = A at *
  have HA := hid hA
  have HH := hid (hears_any v p.opts A HL.out HP.out.at_.1 (by have := hp.fine.1; omega))
  subst hv
  have HR : Hid (reqL l p = if 4 ≤ (loopL l p.opts).loops then doL (loopL l p.opts) 3 else askL (loopL l p.opts) p) := rfl
  have HLp : Hid (loopL l p.opts = if hearsF l p.opts then { l with loops := min (l.loops + 1) 4611686018427387904 } else l) := rfl
  have HAs : Hid ((loopL l p.opts).asked ≤ 900000) := by
    show _ ≤ _
    unfold loopL
    split <;> exact ha
  have hrA := hid (lt_of_cell O0.out.1.1)
  obtain ⟨⟨q0, q1, q2, q3⟩, _⟩ := O0.out
  clear hA h hp hk0 ha
  generalize reqL l p = RQ at *
  generalize loopL l p.opts = L1 at *
  generalize hearsF l p.opts = hq at *
  go_enter Tryz.func33, Tryz.ntmps33
  go_upto_region 1 with fail
  rw [HA.out]
  clear HA
  go_wp2_with fail
  refine HH.out.mono ?_
  rintro e w1 ⟨rfl, hk1⟩
  have L1h := hid (HL.out.kept0 hk1)
  have N1 := hid (LNext.of0 HL.out hk1)
  have O1 := hid (O0.out.kept hk1)
  have P1 := hid (HP.out.kept0 hk1)
  clear hk1 HH q0 q1 q2 q3 O0
  have c3 := L1h.out.c3
  have f3 := L1h.out.fz 3
  have hw3 : IntKind.i64.wrap (l.loops + 1) = l.loops + 1 := by rw [IntKind.wrap_i64]; have := L1h.out.good.loops; omega
  cases hq
  case' false =>
    simp only [Bool.false_eq_true, if_false] at HLp
    go_upto_region 3 with fail
    have N2 : Hid (LNext A w1 base b m m L1) := by rw [HLp.out]; exact N1.out
    have O2 := O1
    have P2 := P1
  case' true =>
    simp only [if_true] at HLp
    have NS : Hid (LNext w1 (w1.setCell ⟨b, 3, none⟩ (.int .i64 (min (l.loops + 1) 4611686018427387904))) base b m m { l with loops := min (l.loops + 1) 4611686018427387904 }) := L1h.out.set 3 _ rfl (by have g := L1h.out.good; exact ⟨g.mag, (by have := g.loops; simp only; omega), g.echo, g.ups, g.ticks, g.missed⟩) rfl rfl rfl
    go_upto_region 3 with fail
    have N2 : Hid (LNext A (w1.setCell ⟨b, 3, none⟩ (.int .i64 (min (l.loops + 1) 4611686018427387904))) base b m m L1) := by rw [HLp.out]; exact N1.out.trans NS.out
    have O2 := hid (O1.out.keptS NS.out.kept hnS.out)
    have P2 := hid (P1.out.step NS.out)
    generalize w1.setCell ⟨b, 3, none⟩ (.int .i64 (min (l.loops + 1) 4611686018427387904)) = w1 at *
    clear NS
  all_goals
    clear c3 f3 hw3 HLp L1h N1 O1 P1 HP
    have c3 := N2.out.lcp.c3
    have c0 := N2.out.lcp.c0
    by_cases h4 : 4 ≤ L1.loops
    · have HD := hid (ngDo_any 3 w1 N2.out.lcp.neg)
      rw [if_pos h4] at HR
      go_wp2_with fail
      refine HD.out.mono ?_
      rintro e w2 ⟨vo, rfl, S⟩
      obtain ⟨po, co, rfl⟩ := S.slice
      have HS := hid (LSent.before0 HK0.out (LSent.before N2.out (N2.out.lcp.sent S)))
      clear S
      go_wp2
      go_ret
      exact ⟨_, rfl, by rw [HR.out]; exact HS.out⟩
    · rw [if_neg h4] at HR
      have HF := hid (fun (W : World) (k : Kept (fun _ => False) w1 W) => rulesFor_any (.slice pv p.opts.length cv) p.opts W (N2.out.lcp.kept0 k) HAs.out (P2.out.at_.kept0 k) P2.out.fine)
      have B2 : BoxK w.heap.size b m.nb p (.slice pv p.opts.length cv) w1.drew := (O2.out.kept ((Kept.refl _ _).drew)).boxK (N2.out.lcp.kept0 ((Kept.refl _ _).drew))
      have g0 : ∀ W, BoxK w.heap.size b m.nb p (.slice pv p.opts.length cv) W → W.cell? ⟨w.heap.size, 0, none⟩ = some (.int .i64 p.code) := fun W h => h.x0
      have g1 : ∀ W, BoxK w.heap.size b m.nb p (.slice pv p.opts.length cv) W → W.cell? ⟨w.heap.size, 1, none⟩ = some (.int .i64 p.id) := fun W h => h.x1
      have g2 : ∀ W, BoxK w.heap.size b m.nb p (.slice pv p.opts.length cv) W → W.cell? ⟨w.heap.size, 2, none⟩ = some (.slice pv p.opts.length cv) := fun W h => h.x2
      have g3 : ∀ W, BoxK w.heap.size b m.nb p (.slice pv p.opts.length cv) W → W.cell? ⟨w.heap.size, 3, none⟩ = some (.string p.data) := fun W h => h.x3
      have g4 : ∀ W, BoxK w.heap.size b m.nb p (.slice pv p.opts.length cv) W → W.cell? ⟨b, 0, none⟩ = some (.pointer (some ⟨m.nb, 0, none⟩)) := fun W h => h.c0
      go_wp2_with fail
      refine wp_region_held_drew (S := BoxK w.heap.size b m.nb p (.slice pv p.opts.length cv)) (by kernel_rfl) (B2) (fun hSd => ?_)
      refine wpAnyH_take (i := 0) (v := ?_) rfl (by kernel_rfl) (by kernel_rfl) (by kernel_rfl) (fun _ _ _ h => h) (Or.inl ⟨by kernel_rfl, fun W hSW => by go_simp; try with_reducible rfl⟩) (by assumption) ?_
      try simp only [List.getElem_toArray]
      try simp only [List.getElem_cons_succ]
      try simp only [List.getElem_cons_zero]
      try simp only [Act.put]
      try simp only [List.setIfInBounds_toArray]
      try simp only [List.set_cons_succ]
      try simp only [List.set_cons_zero]
      refine wpAnyH_take (i := 1) (v := ?_) rfl (by kernel_rfl) (by kernel_rfl) (by kernel_rfl) (fun _ _ _ h => h) (Or.inl ⟨by kernel_rfl, fun W hSW => by go_simp; try with_reducible rfl⟩) (by assumption) ?_
      try simp only [List.getElem_toArray]
      try simp only [List.getElem_cons_succ]
      try simp only [List.getElem_cons_zero]
      try simp only [Act.put]
      try simp only [List.setIfInBounds_toArray]
      try simp only [List.set_cons_succ]
      try simp only [List.set_cons_zero]
      refine wpAnyH_take (i := 2) (v := ?_) rfl (by kernel_rfl) (by kernel_rfl) (by kernel_rfl) (fun _ _ _ h => h) (Or.inl ⟨by kernel_rfl, fun W hSW => by go_simp; try with_reducible rfl⟩) (by assumption) ?_
      try simp only [List.getElem_toArray]
      try simp only [List.getElem_cons_succ]
      try simp only [List.getElem_cons_zero]
      try simp only [Act.put]
      try simp only [List.setIfInBounds_toArray]
      try simp only [List.set_cons_succ]
      try simp only [List.set_cons_zero]
      refine wpAnyH_take (i := 3) (v := ?_) rfl (by kernel_rfl) (by kernel_rfl) (by kernel_rfl) (fun _ _ _ h => h) (Or.inl ⟨by kernel_rfl, fun W hSW => by go_simp; try with_reducible rfl⟩) (by assumption) ?_
      try simp only [List.getElem_toArray]
      try simp only [List.getElem_cons_succ]
      try simp only [List.getElem_cons_zero]
      try simp only [Act.put]
      try simp only [List.setIfInBounds_toArray]
      try simp only [List.set_cons_succ]
      try simp only [List.set_cons_zero]
      refine wpAnyH_take (i := 4) (v := ?_) rfl (by kernel_rfl) (by kernel_rfl) (by kernel_rfl) (fun _ _ _ h => h) (Or.inl ⟨by kernel_rfl, fun W hSW => by go_simp; try with_reducible rfl⟩) (by assumption) ?_
      try simp only [List.getElem_toArray]
      try simp only [List.getElem_cons_succ]
      try simp only [List.getElem_cons_zero]
      try simp only [Act.put]
      try simp only [List.setIfInBounds_toArray]
      try simp only [List.set_cons_succ]
      try simp only [List.set_cons_zero]
      refine wpAnyH_take (i := 5) (v := ?_) rfl (by kernel_rfl) (by kernel_rfl) (by kernel_rfl) (fun _ _ _ h => h) (Or.inl ⟨by kernel_rfl, fun W hSW => by go_simp; try with_reducible rfl⟩) (by assumption) ?_
      try simp only [List.getElem_toArray]
      try simp only [List.getElem_cons_succ]
      try simp only [List.getElem_cons_zero]
      try simp only [Act.put]
      try simp only [List.setIfInBounds_toArray]
      try simp only [List.set_cons_succ]
      try simp only [List.set_cons_zero]
      refine wpAnyH_take (i := 6) (v := ?_) rfl (by kernel_rfl) (by kernel_rfl) (by kernel_rfl) (fun _ _ _ h => h) (Or.inl ⟨by kernel_rfl, fun W hSW => by go_simp; try with_reducible rfl⟩) (by assumption) ?_
      try simp only [List.getElem_toArray]
      try simp only [List.getElem_cons_succ]
      try simp only [List.getElem_cons_zero]
      try simp only [Act.put]
      try simp only [List.setIfInBounds_toArray]
      try simp only [List.set_cons_succ]
      try simp only [List.set_cons_zero]
      refine wpAnyH_take (i := 7) (v := ?_) rfl (by kernel_rfl) (by kernel_rfl) (by kernel_rfl) (fun _ _ _ h => h) (Or.inl ⟨by kernel_rfl, fun W hSW => by go_simp; try with_reducible rfl⟩) (by assumption) ?_
      try simp only [List.getElem_toArray]
      try simp only [List.getElem_cons_succ]
      try simp only [List.getElem_cons_zero]
      try simp only [Act.put]
      try simp only [List.setIfInBounds_toArray]
      try simp only [List.set_cons_succ]
      try simp only [List.set_cons_zero]
      refine wpAnyH_ready (rs := [8]) (by kernel_rfl) (by simp) ?_
      refine AllReadyH.cons rfl (fun K hK => ?_) AllReadyH.nil
      go_simp
      refine (HF.out _ ((Kept.refl _ _).drew)).mono ?_
      rintro e w3 ⟨u3, m3, rfl, hr3, hn3⟩
      have N3 := hid (LNext.before0 ((Kept.refl _ _).drew) hn3)
      have O3 := hid (O2.out.keptS N3.out.kept hnS.out)
      have P3 := hid (P2.out.step N3.out)
      have B3 : BoxK w.heap.size b m.nb p (.slice pv p.opts.length cv) w3 := by rw [← N3.out.nb]; exact O3.out.boxK N3.out.lcp
      have HT := hid (takeReq_any p (.slice pv p.opts.length cv) u3 (rulesF L1 p.opts) w3 N3.out.lcp.neg P3.out.neg hr3 (rulesF_ok _ _).1 (rulesF_ok _ _).2.1 (rulesF_ok _ _).2.2)
      rw [N3.out.nb] at HT
      unfold pkV at HT
      obtain ⟨p3, c3', rfl⟩ := hr3.slice
      clear hn3 hr3
      refine hK.out _ _ (B3) (fun _ => ?_)
      clear hK K
      try simp only [List.getElem_toArray]
      try simp only [List.getElem_cons_succ]
      try simp only [List.getElem_cons_zero]
      try simp only [Act.put]
      try simp only [List.setIfInBounds_toArray]
      try simp only [List.set_cons_succ]
      try simp only [List.set_cons_zero]
      refine wpAnyH_ready (rs := [9]) (by kernel_rfl) (by simp) ?_
      refine AllReadyH.cons rfl (fun K hK => ?_) AllReadyH.nil
      go_simp
      refine HT.out.mono ?_
      rintro e w4 ⟨vo, rfl, S⟩
      obtain ⟨po, co, rfl⟩ := S.slice
      have HS := hid (LSent.before0 HK0.out (LSent.before (N2.out.trans N3.out) (N3.out.lcp.sent (by rw [N3.out.nb]; exact S))))
      have B4 : BoxK w.heap.size b m.nb p (.slice pv p.opts.length cv) w4 := by
        obtain ⟨a', q', hs, _⟩ := S
        have N4 := N3.out.lcp.ofNeg (by rw [N3.out.nb]; exact hs.nx)
        rw [← N3.out.nb]
        have hx := (O3.out.keptS N4.kept (fun s => by have := N3.out.sl _ s; rcases this with h1 | h1; exact hnS.out h1; have := N2.out.kept.size; have := hrA.out; omega)).boxK N4.lcp
        exact ⟨hx.x0, hx.x1, hx.x2, hx.x3, hx.c0⟩
      clear S
      refine hK.out _ _ (B4) (fun _ => ?_)
      clear hK K
      try simp only [List.getElem_toArray]
      try simp only [List.getElem_cons_succ]
      try simp only [List.getElem_cons_zero]
      try simp only [Act.put]
      try simp only [List.setIfInBounds_toArray]
      try simp only [List.set_cons_succ]
      try simp only [List.set_cons_zero]
      refine wpAnyH_take (i := 10) (v := ?_) rfl (by kernel_rfl) (by kernel_rfl) (by kernel_rfl) (fun _ _ _ h => h) (Or.inl ⟨by kernel_rfl, fun W hSW => by go_simp; try with_reducible rfl⟩) (by assumption) ?_
      try simp only [List.getElem_toArray]
      try simp only [List.getElem_cons_succ]
      try simp only [List.getElem_cons_zero]
      try simp only [Act.put]
      try simp only [List.setIfInBounds_toArray]
      try simp only [List.set_cons_succ]
      try simp only [List.set_cons_zero]
      refine wpAnyH_done (by kernel_rfl) ?_ _
      go_wp2
      go_ret
      exact ⟨_, rfl, by rw [HR.out]; exact HS.out⟩
end Go.Proofs.YtklapjfljffahaaGreat

namespace Go.Proofs.YtklapjfljffahaaGreat
open Go.RowKit

set_option maxHeartbeats 4000000 in
set_option maxRecDepth 100000 in
theorem lcpTake_req {base b : Nat} {m : Lm} {l : Lp} (p : Pk0) (v : Value) (w : World) (h : LcpIn w base b m l) (ha : l.asked ≤ 900000) (hp : LPk w b m p v) (hc : p.code = 1) :
    Calls Tryz.prog 12 #[.pointer (some ⟨b, 0, none⟩), pkV p.code p.id v p.data] w fun e w' => ∃ vo, e = .returned vo ∧ LSent w w' base b m (reqL l p) vo := by
  obtain ⟨pv, cv, hv⟩ := hp.at_.1.slice
  have hk0 := (Kept.refl (fun _ => False) w).alloc (.cells #[.int .i64 p.code, .int .i64 p.id, v, .string p.data] 24)
  have O0 := hid (own4_new w 24 (.int .i64 p.code) (.int .i64 p.id) v (.string p.data))
  have HT := hid (lcpReq_any p v _ (h.kept0 hk0) ha (hp.kept0 hk0))
  have HN := hid (negotiation_any _ (h.kept0 hk0))
  have HE := eqNegSome ⟨m.nb, 0, none⟩
  have HK0 := hid hk0
  unfold pkV at HT ⊢
  subst hv
  rw [hc] at *
  generalize hA : w.alloc (.cells #[.int .i64 1, .int .i64 p.id, .slice pv p.opts.length cv, .string p.data] 24) = A at *
  have HA := hid hA
  obtain ⟨⟨q0, q1, q2, q3⟩, _⟩ := O0.out
  clear hA h hp hk0 ha hc
  generalize reqL l p = RQ at *
  go_enter Tryz.func12, Tryz.ntmps12
  go_upto_region 1 with fail
  rw [HA.out]
  clear HA
  go_wp2_with (first | (go_at_call 31; refine HN.out.mono ?_; rintro e w' ⟨rfl, hw⟩; rw [hw]; clear hw w'))
  refine HT.out.mono ?_
  rintro e w1 ⟨vo, rfl, S⟩
  obtain ⟨po, co, rfl⟩ := S.slice
  have HS := hid (LSent.before0 HK0.out S)
  clear S
  go_wp2
  go_ret
  exact ⟨_, rfl, HS.out⟩
end Go.Proofs.YtklapjfljffahaaGreat

namespace Go.Proofs.YtklapjfljffahaaGreat
open Go.RowKit

def cA : Cf := ⟨1492, 49699, 7, 0, 5, 2, 5, 3⟩
theorem goodA : GoodC cA := ⟨by decide, by decide, Or.inr (Or.inr rfl), by decide, by decide, by decide, by decide⟩

set_option maxHeartbeats 2000000 in
set_option maxRecDepth 100000 in
theorem lawConfig_any (w : World) : Calls Tryz.prog 25 #[] w fun e w' => e = .returned (cfV cA) ∧ Kept (fun _ => False) w w' := by
  unfold cfV cA
  simp only
  have k0 := hid ((Kept.refl (fun _ => False) w).alloc (.cells #[.int .i64 1492, .int .i64 49699, .int .i64 7, .int .i64 0, .int .i64 5, .int .i64 2, .int .i64 5, .int .i64 3] 43))
  have C := CfgAt.new w cA
  have x0 := C 0 _ rfl
  have x1 := C 1 _ rfl
  have x2 := C 2 _ rfl
  have x3 := C 3 _ rfl
  have x4 := C 4 _ rfl
  have x5 := C 5 _ rfl
  have x6 := C 6 _ rfl
  have x7 := C 7 _ rfl
  simp only [cA] at x0 x1 x2 x3 x4 x5 x6 x7
  clear C
  go_enter Tryz.func25, Tryz.ntmps25
  go_wp2
  refine bodyPost_ret (v := .agg #[.int .i64 1492, .int .i64 49699, .int .i64 7, .int .i64 0, .int .i64 5, .int .i64 2, .int .i64 5, .int .i64 3]) (by simp [results, Tryz.results25, go_sem, x0, x1, x2, x3, x4, x5, x6, x7]) rfl ⟨rfl, k0.out⟩

def oA : List Tg := [⟨3, ⟨#[194, 35, 5]⟩⟩, ⟨5, ⟨#[0, 0, 0, 7]⟩⟩]
theorem askA : askF cA = oA := by kernel_rfl
def lA0 : Lp := newL cA [1, 2, 3, 4] 0
def pkA : Pk0 := ⟨1, 1, [⟨5, ⟨#[0, 0, 0, 7]⟩⟩], ⟨#[]⟩⟩
def lA1 : Lp := (doL lA0 2).1
def lA2 : Lp := (doL lA1 0).1
def lA3 : Lp := (reqL lA2 pkA).1
theorem lstepA1 : doL lA0 2 = (lA1, []) := by kernel_rfl
theorem lstepA2 : doL lA1 0 = (lA2, [⟨1, 1, oA, ⟨#[]⟩⟩]) := by kernel_rfl
theorem lstepA3 : reqL lA2 pkA = (lA3, [⟨3, 1, [⟨5, ⟨#[1, 2, 3, 4]⟩⟩], ⟨#[]⟩⟩]) := by kernel_rfl
theorem lstepA4 : lA3.loops = 1 := by kernel_rfl
theorem lstepA5 : lA2.asked ≤ 900000 := by
  have : lA2.asked = 0 := by kernel_rfl
  omega

set_option maxHeartbeats 8000000 in
set_option maxRecDepth 100000 in
theorem lawAlive_any (w : World) : Calls Tryz.prog 9 #[] w fun e w' => e = .returned (.bool true) ∧ Kept (fun _ => False) w w' := by
  have HCf := hid lawConfig_any
  have HOp := hid (fun W => options_any cA W)
  simp only [askA] at HOp
  have HNw := hid (fun (base tb cap : Nat) (tp : Option Addr) (W : World) (hb : base ≤ W.heap.size) (ht : Tp.IsTape W tb tp cap [1, 2, 3, 4] 0) (htb : base ≤ tb) (hon : ∀ i, Tp.onTape tp [1, 2, 3, 4] i → base ≤ i) => lcpNew_some cA goodA ⟨by decide, by decide⟩ ⟨by decide, by decide⟩ ⟨by decide, by decide⟩ ⟨by decide, by decide⟩ tb cap 0 tp [1, 2, 3, 4] base W hb ht htb hon)
  unfold cfV at HCf HOp HNw
  simp only [show cA.mru = 1492 from rfl, show cA.auth = 49699 from rfl, show cA.magic = 7 from rfl, show cA.echo = 0 from rfl, show cA.cf = 5 from rfl, show cA.tm = 2 from rfl, show cA.fails = 5 from rfl, show cA.wait = 3 from rfl] at HCf HOp HNw
  go_enter Tryz.func9, Tryz.ntmps9
  go_wp2_with fail
  refine (HCf.out _).mono ?_
  rintro e w1 ⟨rfl, hk1⟩
  have K1 := hid hk1
  clear hk1
  go_wp2_with fail
  refine (HOp.out _).mono ?_
  rintro e w2 ⟨u2, rfl, ho2, hk2⟩
  have K2 := hid (K1.out.trans hk2)
  obtain ⟨p2, c2, rfl⟩ := slice_of ho2
  have HO2 := hid ho2
  clear hk2 ho2 K1
  go_wp2_with fail
  refine (HCf.out _).mono ?_
  rintro e w3 ⟨rfl, hk3⟩
  have hk4 := hk3.alloc (.cells #[.int .i64 1, .int .i64 2, .int .i64 3, .int .i64 4] 3)
  obtain ⟨g4, cap4, e4, hc4⟩ := (own_new [1, 2, 3, 4] (by decide) w3 0 (Nat.zero_le _)).row (by simp)
  have e4' : g4 = w3.heap.size := by
    have := congrArg Value.ownBlock e4
    simpa [Value.ownBlock] using this.symm
  subst e4'
  have HTp := hid (show Calls Tryz.prog 20 #[.slice (some ⟨w3.heap.size, 0, none⟩) 4 4] _ _ from Tp.new_some ⟨w3.heap.size, 0, none⟩ 4 [1, 2, 3, 4] (by decide) _ hc4)
  have K4 := hid hk4
  clear hk3 hk4 e4 hc4
  go_wp2_with fail
  refine HTp.out.mono ?_
  rintro e w4 ⟨tb, tp, cap, rfl, htb, hon, hT, hk⟩
  have K5 := hid (K4.out.trans hk)
  have hs4 : w2.heap.size ≤ (w3.alloc (.cells (intCells [1, 2, 3, 4]).toArray 3)).heap.size := K4.out.size
  have HN := hid (HNw.out w2.heap.size tb cap tp w4 K5.out.size hT (by omega) (fun i hi => by have := hon i hi; omega))
  clear htb hon hT hk HTp K4
  go_wp2_with fail
  refine HN.out.mono ?_
  rintro e w5 ⟨b, m, rfl, hL, hk5, _⟩
  have M5 : Hid (LMine w2 w5 b m lA0) := ⟨hL, K5.out.trans hk5⟩
  have hE := eqLcpSome ⟨b, 0, none⟩
  clear hL hk5 HN K5 hs4 HNw
  have HD := hid (lcpDo_any 2 w5 M5.out.lcp)
  rw [lstepA1] at HD
  go_wp2_with fail
  refine HD.out.mono ?_
  rintro e w6 ⟨vo, rfl, S6⟩
  obtain ⟨m6, p6, c6, rfl, N6⟩ := lsent_zero S6
  have M6 := hid (M5.out.next N6)
  clear S6 N6 HD M5
  have HD := hid (lcpDo_any 0 w6 M6.out.lcp)
  rw [lstepA2] at HD
  go_wp2_with fail
  refine HD.out.mono ?_
  rintro e w7 ⟨vo, rfl, S7⟩
  obtain ⟨m7, g7, c7, u7, rfl, hc7, N7, R7, _, _, _⟩ := lsent_one S7
  have M7 := hid (M6.out.next N7)
  clear S7 N7 HD M6 R7
  have ka := (Kept.refl (fun _ => False) w7).alloc (.cells #[.int .i64 5, .string ⟨#[0, 0, 0, 7]⟩] 67)
  have B7 := BoxO.new w7 ⟨5, ⟨#[0, 0, 0, 7]⟩⟩
  have hm := M7.out.still ka
  have HTk := hid (lcpTake_req pkA (.slice (some ⟨w7.heap.size, 0, none⟩) 1 1) _ hm.lcp lstepA5 ⟨(one_opt (base := 0) B7 (Nat.zero_le _)).at, Or.inr (fun i hi s => by
    have h1 : w7.heap.size = i := by simpa [Value.ownBlock] using hi
    have h2 := M7.out.lcp.sl_lt i s
    omega), fine1 ⟨by decide, by decide⟩ (by decide), by decide⟩ rfl)
  rw [lstepA3] at HTk
  unfold pkV pkA at HTk
  simp only at HTk
  have HM := hid hm
  clear hm ka B7 M7
  go_wp2_with fail
  refine HTk.out.mono ?_
  rintro e w8 ⟨vo, rfl, S8⟩
  obtain ⟨m8, g8, c8, u8, rfl, hc8, N8, R8, ho8, _, _⟩ := lsent_one S8
  have M8 := hid (HM.out.next N8)
  obtain ⟨_, r0, r1, r2, r3⟩ := R8
  obtain ⟨p8, d8, rfl⟩ := slice_of ho8
  obtain ⟨q8, o8, rfl, hd8, y0, y1⟩ := ho8.tags.at (j := 0) (x := ⟨5, ⟨#[1, 2, 3, 4]⟩⟩) rfl
  have ho2 := HO2.out.kept M8.out.kept
  obtain ⟨q2, o2, e2, hc2, s0, s1⟩ := ho2.tags.at (j := 0) (x := ⟨3, ⟨#[194, 35, 5]⟩⟩) rfl
  obtain ⟨q2', o2', e2', _, t0, t1⟩ := ho2.tags.at (j := 1) (x := ⟨5, ⟨#[0, 0, 0, 7]⟩⟩) rfl
  subst e2
  cases e2'
  simp only [Nat.zero_mul, Nat.one_mul, Nat.add_zero] at s0 s1 t0 t1 y0 y1
  have hoA : oA.length = 2 := rfl
  rw [hoA] at hc2
  have HLo := hid (loops_any w8 M8.out.lcp)
  rw [lstepA4] at HLo
  have KF := hid (K2.out.trans M8.out.kept)
  clear S8 N8 ho8 ho2 HTk HM HO2
  go_wp2_with (first
    | (go_at_call 16; refine HLo.out.mono ?_; rintro e w' ⟨rfl, hw⟩; rw [hw]; clear hw w'))
  go_ret
  exact ⟨rfl, KF.out⟩
end Go.Proofs.YtklapjfljffahaaGreat
