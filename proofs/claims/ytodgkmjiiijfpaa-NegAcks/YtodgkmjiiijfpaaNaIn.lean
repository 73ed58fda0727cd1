/- The laws' own setup. · The contracts of Ups and Theirs. · The contracts of slices.IndexFunc with the closure of change, of change where the peer's value fits or the request has no such option, and of takeAnswer of a nak, whatever change does. · The contract of slices.Delete of one option of a row. · The contracts of isMust (nothing must be), and of change at every option. · A request without what was rejected, and every packet's answer, as plain functions. · The contracts of without, of ContainsFunc with isMust (nothing must be), and of takeRej. · The contract of takeAnswer of a reject, and of Take at every packet. · Two negotiations side by side, and lists of packets beside them; 'append' of one list of packets onto another. · What NegAcks says, as plain data: what stays true of a negotiation, and of the last request that it sent, whatever packets and ticks come. · How lists of structs among the arguments are read, whatever the struct (no function is named); and how great what they hold may be. · How a list of steps (tollgatelaw11.Op) among the arguments is read. · NegAcks: its negotiation, the last request and what was sent, in memory; the contract of Small. -/
import Derived.Test.YtodgkmjiiijfpaaNgLaw
import Derived.Test.YtodgkmjiiijfpaaNgSmall
import Derived.Test.YtodgkmjiiijfpaaNgAlive
import Derived.Deep.Upon
import Derived.Laws.IdiomCopy
import Derived.Maps.AppendAt
import Derived.OwnWalk
import Derived.Deep.RegionLaw
import Derived.Deep.QuietTactic
import Derived.BigQuiet
import Derived.Test.YtodgkmjiiijfpaaKept
import Derived.ChangeSlices
import Derived.ProofKit
import Derived.OpenShut
import Derived.SizedLaws
import Derived.Lib.SmallJoins
import Derived.Test.YtodgkmjiiijfpaaNgReq
import Derived.Test.YtodgkmjiiijfpaaOpLight
namespace Go.Proofs.Ytodgkmjiiijfpaa
open Go.RowKit

set_option maxHeartbeats 2000000 in
set_option maxRecDepth 100000 in
theorem lawSetup_any (s : ByteArray) (f : Int) (w : World) : Calls Try.prog 20 #[.string s, .int .i64 f] w fun e w' => ∃ va vo vp, e = .returned (setupV va vo vp 5 2 f 2) ∧ OptsAt w' va [⟨1, s⟩] ∧ RulesAt w' vo [rule1] ∧ RulesAt w' vp [rule1] ∧ Kept (fun _ => False) w w' := by
  have HRu := hid lawRule_any
  unfold rlV rule1 at HRu
  unfold setupV
  simp only at HRu
  have kA := (Kept.refl (fun _ => False) w).alloc (.cells #[.slice none 0 0, .slice none 0 0, .slice none 0 0, .slice none 0 0, .int .i64 0, .int .i64 0, .int .i64 0, .int .i64 0] 51)
  have hf : ∀ j, (w.alloc (.cells #[.slice none 0 0, .slice none 0 0, .slice none 0 0, .slice none 0 0, .int .i64 0, .int .i64 0, .int .i64 0, .int .i64 0] 51)).frozen? ⟨w.heap.size, j, none⟩ = false := fun j => frozen_of_row _ w.heap.size j _ _ (heap_alloc_new w _)
  have c := cells8_new w 51 (.slice none 0 0) (.slice none 0 0) (.slice none 0 0) (.slice none 0 0) (.int .i64 0) (.int .i64 0) (.int .i64 0) (.int .i64 0)
  have hlt : w.heap.size < (w.alloc (.cells #[.slice none 0 0, .slice none 0 0, .slice none 0 0, .slice none 0 0, .int .i64 0, .int .i64 0, .int .i64 0, .int .i64 0] 51)).heap.size := by simp
  have hsz : (w.alloc (.cells #[.slice none 0 0, .slice none 0 0, .slice none 0 0, .slice none 0 0, .int .i64 0, .int .i64 0, .int .i64 0, .int .i64 0] 51)).heap.size = w.heap.size + 1 := by simp
  have kB := kA.alloc (.cells #[.int .i64 1, .string s] 62)
  have B1 := BoxO.new (w.alloc (.cells #[.slice none 0 0, .slice none 0 0, .slice none 0 0, .slice none 0 0, .int .i64 0, .int .i64 0, .int .i64 0, .int .i64 0] 51)) ⟨1, s⟩
  rw [hsz] at B1
  have HB1 := hid B1
  have HKB := hid kB
  have Hc : Hid (∀ W, Kept (fun _ => False) (w.alloc (.cells #[.slice none 0 0, .slice none 0 0, .slice none 0 0, .slice none 0 0, .int .i64 0, .int .i64 0, .int .i64 0, .int .i64 0] 51)) W → (∀ j u, [Value.slice none 0 0, .slice none 0 0, .slice none 0 0, .slice none 0 0, .int .i64 0, .int .i64 0, .int .i64 0, .int .i64 0][j]? = some u → W.cell? ⟨w.heap.size, j, none⟩ = some u) ∧ ∀ j, W.frozen? ⟨w.heap.size, j, none⟩ = false) := fun W k => ⟨fun j u hj => (k.cell (p := ⟨w.heap.size, j, none⟩) hlt id).trans (c j u hj), fun j => (k.frozen (p := ⟨w.heap.size, j, none⟩) hlt id).trans (hf j)⟩
  have HkB : Hid (Kept (fun _ => False) (w.alloc (.cells #[.slice none 0 0, .slice none 0 0, .slice none 0 0, .slice none 0 0, .int .i64 0, .int .i64 0, .int .i64 0, .int .i64 0] 51)) ((w.alloc (.cells #[.slice none 0 0, .slice none 0 0, .slice none 0 0, .slice none 0 0, .int .i64 0, .int .i64 0, .int .i64 0, .int .i64 0] 51)).alloc (.cells #[.int .i64 1, .string s] 62))) := (Kept.refl _ _).alloc _
  clear kA hf c hlt hsz kB B1
  go_enter Try.func20, Try.ntmps20
  go_wp2_with fail
  refine (HRu.out _).mono ?_
  rintro e w1 ⟨rfl, hk1⟩
  have K1 := hid (HKB.out.trans hk1)
  have KS1 := hid (HkB.out.trans hk1)
  have B1 := hid (((hk1.block _ (BoxO.lt (x := ⟨1, s⟩) HB1.out) id).trans HB1.out : BoxO w1 (w.heap.size + 1) ⟨1, s⟩))
  clear hk1 HKB HkB HB1
  go_wp2_with fail
  refine (HRu.out _).mono ?_
  rintro e w2 ⟨rfl, hk2⟩
  have ka := ((Kept.refl (fun _ => False) w1).alloc (.cells #[.int .i64 1, .int .i64 2, .int .i64 64, .int .i64 1492, .string ⟨#[5, 212]⟩] 59))
  have R1 : BoxRl (w1.alloc (.cells #[.int .i64 1, .int .i64 2, .int .i64 64, .int .i64 1492, .string ⟨#[5, 212]⟩] 59)) w1.heap.size rule1 := heap_alloc_new w1 _
  have hlt1 : w1.heap.size < (w1.alloc (.cells #[.int .i64 1, .int .i64 2, .int .i64 64, .int .i64 1492, .string ⟨#[5, 212]⟩] 59)).heap.size := by simp
  have R1' : BoxRl w2 w1.heap.size rule1 := (hk2.block _ hlt1 id).trans R1
  have KS3 := (KS1.out.trans ka).trans hk2
  obtain ⟨c3, f3⟩ := Hc.out _ KS3
  have z0 := c3 0 _ rfl
  have z1 := c3 1 _ rfl
  have z2 := c3 2 _ rfl
  have z3 := c3 3 _ rfl
  have z4 := c3 4 _ rfl
  have z5 := c3 5 _ rfl
  have z6 := c3 6 _ rfl
  have z7 := c3 7 _ rfl
  have RA := hid (one_rule R1')
  have K2 := hid ((K1.out.trans ka).trans hk2)
  have k13 := ka.trans hk2
  have OA := hid (one_opt (base := 0) ((k13.block _ (BoxO.lt (x := ⟨1, s⟩) B1.out) id).trans B1.out : BoxO _ (w.heap.size + 1) ⟨1, s⟩) (Nat.zero_le _)).at
  have hsz12 : w.heap.size < w1.heap.size ∧ w.heap.size < w2.heap.size := by
    have h1 := BoxO.lt (x := ⟨1, s⟩) B1.out
    have h2 := (ka.trans hk2).size
    omega
  clear hk2 ka R1 R1' hlt1 KS3 KS1 c3 k13 K1 B1
  obtain ⟨hs1, hs2⟩ := hsz12
  have e1 : ¬ w.heap.size = w2.heap.size := by omega
  have e2 : ¬ w2.heap.size = w.heap.size := by omega
  have hsc : ∀ (X : World) (p : Addr) (v : Value), (X.setCell p v).heap.size = X.heap.size := fun X p v => by simp [World.setCell]
  have key : ∀ (X : World) (o : Obj) (j : Nat), w.heap.size < X.heap.size → (X.alloc o).cell? ⟨w.heap.size, j, none⟩ = X.cell? ⟨w.heap.size, j, none⟩ := fun X o j h => World.cell?_alloc_lt X o ⟨w.heap.size, j, none⟩ h
  go_wp2
  refine bodyPost_ret (v := .agg #[.slice (some ⟨w.heap.size + 1, 0, none⟩) 1 1, .slice (some ⟨w1.heap.size, 0, none⟩) 1 1, .slice (some ⟨w2.heap.size, 0, none⟩) 1 1, .slice none 0 0, .int .i64 5, .int .i64 2, .int .i64 f, .int .i64 2]) (by simp [results, Try.results20, go_sem, key, hsc, hs2, z0, z1, z2, z3, z4, z5, z6, z7]) rfl ?_
  have kS : ∀ X : World, Kept (fun i => i = w.heap.size) w2 X → X.heap.size = w2.heap.size → Kept (fun _ => False) w X → ∃ va vo vp, Ending.returned (.agg #[.slice (some ⟨w.heap.size + 1, 0, none⟩) 1 1, .slice (some ⟨w1.heap.size, 0, none⟩) 1 1, .slice (some ⟨w2.heap.size, 0, none⟩) 1 1, .slice none 0 0, .int .i64 5, .int .i64 2, .int .i64 f, .int .i64 2]) = .returned (.agg #[va, vo, vp, .slice none 0 0, .int .i64 5, .int .i64 2, .int .i64 f, .int .i64 2]) ∧ OptsAt (X.alloc (.cells #[.int .i64 1, .int .i64 2, .int .i64 64, .int .i64 1492, .string ⟨#[5, 212]⟩] 59)) va [⟨1, s⟩] ∧ RulesAt (X.alloc (.cells #[.int .i64 1, .int .i64 2, .int .i64 64, .int .i64 1492, .string ⟨#[5, 212]⟩] 59)) vo [rule1] ∧ RulesAt (X.alloc (.cells #[.int .i64 1, .int .i64 2, .int .i64 64, .int .i64 1492, .string ⟨#[5, 212]⟩] 59)) vp [rule1] ∧ Kept (fun _ => False) w (X.alloc (.cells #[.int .i64 1, .int .i64 2, .int .i64 64, .int .i64 1492, .string ⟨#[5, 212]⟩] 59)) := fun X k hX k0 => by
    have kx := (Kept.refl (fun _ => False) X).alloc (.cells #[.int .i64 1, .int .i64 2, .int .i64 64, .int .i64 1492, .string ⟨#[5, 212]⟩] 59)
    refine ⟨_, _, _, rfl, (OA.kept k (fun i _ e h => by simp [Value.ownBlock] at h; omega)).kept0 kx, (RA.out.kept k (fun i _ e h => by simp [Value.ownBlock] at h; omega)).kept0 kx, ?_, k0.trans kx⟩
    rw [← hX]
    exact one_rule (show BoxRl (X.alloc (.cells #[.int .i64 1, .int .i64 2, .int .i64 64, .int .i64 1492, .string ⟨#[5, 212]⟩] 59)) X.heap.size rule1 from heap_alloc_new X _)
  generalize hX : World.setCell _ ⟨w.heap.size, 7, none⟩ (Value.int .i64 2) = X
  have k1 : Kept (fun i => i = w.heap.size) w2 X := by
    rw [← hX]
    refine Kept.setCell (S := fun i => i = w.heap.size) (p := ⟨w.heap.size, 7, none⟩) ?_ (Or.inr rfl) _
    refine Kept.setCell (S := fun i => i = w.heap.size) (p := ⟨w.heap.size, 6, none⟩) ?_ (Or.inr rfl) _
    refine Kept.setCell (S := fun i => i = w.heap.size) (p := ⟨w.heap.size, 5, none⟩) ?_ (Or.inr rfl) _
    refine Kept.setCell (S := fun i => i = w.heap.size) (p := ⟨w.heap.size, 4, none⟩) ?_ (Or.inr rfl) _
    refine Kept.setCell (S := fun i => i = w.heap.size) (p := ⟨w.heap.size, 3, none⟩) ?_ (Or.inr rfl) _
    refine Kept.setCell (S := fun i => i = w.heap.size) (p := ⟨w.heap.size, 2, none⟩) ?_ (Or.inr rfl) _
    refine Kept.setCell (S := fun i => i = w.heap.size) (p := ⟨w.heap.size, 1, none⟩) ?_ (Or.inr rfl) _
    refine Kept.setCell (S := fun i => i = w.heap.size) (p := ⟨w.heap.size, 0, none⟩) ?_ (Or.inr rfl) _
    exact Kept.refl _ _
  have k2 : X.heap.size = w2.heap.size := by rw [← hX]; simp only [hsc]
  have k3 : Kept (fun _ => False) w X := by
    rw [← hX]
    refine Kept.setCell (p := ⟨w.heap.size, 7, none⟩) ?_ (Or.inl (Nat.le_refl _)) _
    refine Kept.setCell (p := ⟨w.heap.size, 6, none⟩) ?_ (Or.inl (Nat.le_refl _)) _
    refine Kept.setCell (p := ⟨w.heap.size, 5, none⟩) ?_ (Or.inl (Nat.le_refl _)) _
    refine Kept.setCell (p := ⟨w.heap.size, 4, none⟩) ?_ (Or.inl (Nat.le_refl _)) _
    refine Kept.setCell (p := ⟨w.heap.size, 3, none⟩) ?_ (Or.inl (Nat.le_refl _)) _
    refine Kept.setCell (p := ⟨w.heap.size, 2, none⟩) ?_ (Or.inl (Nat.le_refl _)) _
    refine Kept.setCell (p := ⟨w.heap.size, 1, none⟩) ?_ (Or.inl (Nat.le_refl _)) _
    refine Kept.setCell (p := ⟨w.heap.size, 0, none⟩) ?_ (Or.inl (Nat.le_refl _)) _
    exact K2.out
  exact kS X k1 k2 k3
end Go.Proofs.Ytodgkmjiiijfpaa

namespace Go.Proofs.Ytodgkmjiiijfpaa
open Go.RowKit

set_option maxRecDepth 100000 in
theorem ngUps_any {base b : Nat} {a : Nm} {n : Ng} (w : World) (h : NegIn w base b a n) : Calls Try.prog 10 #[.pointer (some ⟨b, 0, none⟩)] w fun e w' => e = .returned (.tuple #[.int .i64 n.ups, .int .i64 n.downs]) ∧ Kept (fun _ => False) w w' := by
  have c14 := h.n14
  have c15 := h.n15
  have HN := hid (ngNone_any w h)
  clear h
  go_enter Try.func10, Try.ntmps10
  go_wp2_with (first
    | (go_at_call 27; refine HN.out.mono ?_; rintro e w' ⟨rfl, hw⟩; rw [hw]; clear hw w'))
  go_region
  go_wp2
  go_ret2
  exact ⟨rfl, (Kept.refl _ _).drew⟩


set_option maxRecDepth 100000 in
theorem ngTheirs_any {base b : Nat} {a : Nm} {n : Ng} (w : World) (h : NegIn w base b a n) : Calls Try.prog 16 #[.pointer (some ⟨b, 0, none⟩)] w fun e w' => ∃ u, e = .returned u ∧ OwnO w' w.heap.size u (theirsF n) ∧ Kept (fun _ => False) w w' := by
  have c13 := h.n13
  have HS := hid (ngState_any w h)
  have HC := hid (cloneO_any a.vt n.theirs w h.theirs.at (by have := h.good.theirs.1; omega))
  unfold theirsF
  obtain ⟨p, cap, hv⟩ := slice_of h.theirs
  rw [hv] at c13 HC
  clear h hv
  by_cases h9 : n.au.st = 9
  · have h9z : (n.au.st != 9) = false := by simp [h9]
    rw [if_pos h9]
    clear h9
    go_enter Try.func16, Try.ntmps16
    go_wp2_with (first
      | (go_at_call 14; refine HS.out.mono ?_; rintro e w' ⟨rfl, hw⟩; rw [hw]; clear hw w'))
    refine HC.out.mono ?_
    rintro e w1 ⟨u, rfl, ho, hk⟩
    have HO := hid ho
    clear ho
    go_wp2
    go_ret
    exact ⟨_, rfl, HO.out, hk⟩
  · have h9z : (n.au.st != 9) = true := by simp [h9]
    rw [if_neg h9]
    clear h9 HC
    go_enter Try.func16, Try.ntmps16
    go_wp2_with (first
      | (go_at_call 14; refine HS.out.mono ?_; rintro e w' ⟨rfl, hw⟩; rw [hw]; clear hw w'))
    go_ret
    exact ⟨_, rfl, OwnO.nil _ _, Kept.refl _ _⟩
end Go.Proofs.Ytodgkmjiiijfpaa

namespace Go.Proofs.Ytodgkmjiiijfpaa
open Go.RowKit

set_option maxHeartbeats 1000000 in
set_option maxRecDepth 100000 in
theorem change_fn (ob : Nat) (o r : Tg) (w : World) (hb : BoxO w ob o) : Calls Try.prog 70 #[.agg #[.int .i64 r.type, .string r.value], .pointer (some ⟨ob, 0, none⟩)] w fun e w' => e = .returned (.bool (r.type == o.type)) ∧ Kept (fun _ => False) w w' := by
  have k0 := (Kept.refl (fun _ => False) w).alloc (.cells #[.int .i64 r.type, .string r.value] 62)
  have b0 := (BoxO.new w r).c0
  have hb1 : BoxO (w.alloc (.cells #[.int .i64 r.type, .string r.value] 62)) ob o := (k0.block _ hb.lt id).trans hb
  have c0 := hb1.c0
  have HK := hid k0
  clear k0 hb hb1
  cases hq : (r.type == o.type) with
  | true =>
    go_enter Try.func70, Try.ntmps70
    go_wp2
    go_ret
    exact ⟨by rw [← hq]; rfl, HK.out⟩
  | false =>
    go_enter Try.func70, Try.ntmps70
    go_wp2
    go_ret
    exact ⟨by rw [← hq]; rfl, HK.out⟩

/-- The place of the first option of a type; -1, if there is none. -/
def FoundO (l : List Tg) (t : Int) (r : Int) : Prop := (r = -1 ∧ ∀ x ∈ l, (x.type == t) = false) ∨ ∃ (j : Nat) (x : Tg), r = (j : Int) ∧ l[j]? = some x ∧ (x.type == t) = true ∧ ∀ y ∈ l.take j, (y.type == t) = false

set_option maxHeartbeats 2000000 in
set_option maxRecDepth 100000 in
theorem indexO_any (v : Value) (l : List Tg) (ob : Nat) (o : Tg) (w : World) (hv : TagsAt w v l) (hl : l.length ≤ 1000000) (hb : BoxO w ob o) :
    Calls Try.prog 69 #[v, .func (.func 70) #[] #[.pointer (some ⟨ob, 0, none⟩)]] w fun e w' => ∃ r, e = .returned (.int .i64 r) ∧ FoundO l o.type r ∧ Kept (fun _ => False) w w' := by
  obtain ⟨p, cap, rfl⟩ := hv.slice
  have HT := hid (fun (W : World) (k : Kept (fun _ => False) w W) => hv.kept0 k)
  have HF := hid (fun (r : Tg) (W : World) (k : Kept (fun _ => False) w W) => change_fn ob o r W ((k.block _ hb.lt id).trans hb))
  clear hv hb
  go_enter Try.func69, Try.ntmps69
  go_wp2
  go_loopw [5, 8] (fun _ s wr => ∃ j : Nat, j ≤ l.length ∧ s = .int .i64 (j : Int) ∧ Hid (∀ y ∈ l.take j, (y.type == o.type) = false) ∧ Hid (Kept (fun _ => False) w wr)) (fun _ s _ => l.length - (intOf s).toNat)
  case atStart => exact ⟨0, Nat.zero_le _, rfl, (fun y hy => by simp at hy), Kept.refl _ _⟩
  case round =>
    obtain ⟨j, hj, rfl, HA, HK⟩ := hrel
    by_cases hlt : j < l.length
    · obtain ⟨x, hx⟩ : ∃ x, l[j]? = some x := ⟨l[j], by simp [hlt]⟩
      have hltz : (j : Int) < (l.length : Int) := by omega
      obtain ⟨g, of, rfl, hcap, c0, c1⟩ := (HT.out wr HK.out).at hx
      have Hx := hid hx
      have Hc := hid (HF.out x wr HK.out)
      have hst := hid (take_next hx)
      clear hx
      generalize hqq : (x.type == o.type) = q at Hc
      have Hq := hid hqq
      clear hqq
      go_wp2_with fail
      refine Hc.out.mono ?_
      rintro e w2 ⟨rfl, hk2⟩
      have HK2 := hid (HK.out.trans hk2)
      clear hk2 c0 c1 Hc
      cases q with
      | true =>
        go_wp2
        go_ret
        exact ⟨_, rfl, Or.inr ⟨j, x, rfl, Hx.out, Hq.out, HA.out⟩, HK2.out⟩
      | false =>
        go_wp2
        refine ⟨⟨j + 1, hlt, by go_num, fun y hy => ?_, HK2.out⟩, by simp [intOf]; omega⟩
        rw [hst.out, List.mem_append] at hy
        rcases hy with hy | hy
        · exact HA.out y hy
        · rw [List.mem_singleton] at hy
          rw [hy]
          exact Hq.out
    · obtain rfl : j = l.length := by omega
      have hltz : ¬ (l.length : Int) < (l.length : Int) := by omega
      go_wp2
      go_ret
      refine ⟨_, rfl, Or.inl ⟨rfl, fun y hy => HA.out y (by rw [List.take_of_length_le (Nat.le_refl _)]; exact hy)⟩, HK.out⟩

theorem rowT_set {l : List Tg} {j : Nat} {x : Tg} (hj : l[j]? = some x) (s : ByteArray) : rowT (l.set j ⟨x.type, s⟩) = (rowT l).set (j * 2 + 1) (.string s) := by
  induction l generalizing j with
  | nil => simp at hj
  | cons y l ih =>
    cases j with
    | zero =>
      have : y = x := by simpa using hj
      subst this
      simp [rowT, tgCells]
    | succ j =>
      have e := ih (j := j) (by simpa using hj)
      have e1 : rowT (y :: l) = .int .i64 y.type :: .string y.value :: rowT l := by simp [rowT, tgCells]
      have e2 : rowT (y :: l.set j ⟨x.type, s⟩) = .int .i64 y.type :: .string y.value :: rowT (l.set j ⟨x.type, s⟩) := by simp [rowT, tgCells]
      rw [List.set_cons_succ, e2, e, e1, show (j + 1) * 2 + 1 = (j * 2 + 1) + 1 + 1 by omega, List.set_cons_succ, List.set_cons_succ]

theorem OwnO.setVal {W : World} {base g n cap j : Nat} {l : List Tg} {x : Tg} (h : OwnO W base (.slice (some ⟨g, 0, none⟩) n cap) l) (hj : l[j]? = some x) (s : ByteArray) : OwnO (W.setCell ⟨g, j * 2 + 1, none⟩ (.string s)) base (.slice (some ⟨g, 0, none⟩) n cap) (l.set j ⟨x.type, s⟩) := by
  rcases h.2 with ⟨h', _⟩ | ⟨g', cap', cur, e, hb, hg, h1, h2, h3, h4⟩
  · simp at h'
  · simp only [Value.slice.injEq, Option.some.injEq, Addr.mk.injEq, and_true] at e
    obtain ⟨rfl, rfl, rfl⟩ := e
    refine ⟨by rw [rowT_length], Or.inr ⟨g, cap, cur.setIfInBounds (j * 2 + 1) (.string s), by rw [List.length_set], hb, Joins.block_setCell hg _, by rw [List.length_set]; exact h1, h2, by simpa using h3, ?_⟩⟩
    rw [List.length_set, rowT_set hj, ← h4, Array.toList_setIfInBounds, List.take_set]

section
variable {W W' : World} {base b : Nat} {a : Nm} {n : Ng}
/-- The request's own row has turned. -/
theorem NegIn.setRow (h : NegIn W base b a n) {l : List Tg} (hk : Kept (fun i => a.vr.ownBlock = some i) W W') (ho : OwnO W' base a.vr l) (hf : FineO l) : NNext W W' base b a a { n with req := l } := by
  have hc : ∀ j, a.vr.ownBlock = some j → j < W.heap.size → ∃ cur e fz, W.heap[j]? = some (.cells cur e fz) := fun j e _ => by
    obtain ⟨cur, hc⟩ := h.req.cellsB e
    exact ⟨_, _, _, hc⟩
  refine ⟨⟨(hk.block b h.lt (fun e => h.ne_b h.req e rfl)).trans h.cells, h.auto.kept hk (fun e => h.ne_a h.req e rfl), ho, h.own.kept hk hc, h.peer.kept hk hc, h.mine.keptS hk (fun i hi e => h.far1 i e hi), h.theirs.keptS hk (fun i hi e => h.far2 i e hi), h.far1, h.far2, h.lo, h.lo2, ?_⟩, rfl, fun _ h => Or.inl h, fun _ h => Or.inl h, fun _ h => Or.inl h, hk.mono (fun j _ e => Or.inr (Or.inr e))⟩
  have g := h.good
  exact ⟨g.au, g.fails, g.wait, g.id, g.naks, g.ticks, g.ups, g.downs, hf, g.mine, g.theirs⟩
end

set_option maxHeartbeats 4000000 in
set_option maxRecDepth 100000 in
theorem change_none {base b : Nat} {a : Nm} {n : Ng} (o : Tg) (w : World) (h : NegIn w base b a n) (hn : ∀ x ∈ n.req, (x.type == o.type) = false) :
    Calls Try.prog 53 #[.pointer (some ⟨b, 0, none⟩), .agg #[.int .i64 o.type, .string o.value]] w fun e w' => e = .returned (.tuple #[]) ∧ NNext w w' base b a a n := by
  have k0 := (Kept.refl (fun _ => False) w).alloc (.cells #[.int .i64 o.type, .string o.value] 62)
  have hA := h.kept0 k0
  have HIx := hid (indexO_any a.vr n.req w.heap.size o _ hA.req.tags (by have := hA.good.req.1; omega) (BoxO.new w o))
  obtain ⟨pr, cr, hvr⟩ := slice_of h.req
  have d1 := hA.n1
  rw [hvr] at HIx d1
  have HN := hid hA
  have HK := hid k0
  have HNo := hid hn
  clear h k0 hA hn
  go_enter Try.func53, Try.ntmps53
  go_wp2_with fail
  refine HIx.out.mono ?_
  rintro e w1 ⟨r, rfl, hF, hk1⟩
  rcases hF with ⟨rfl, _⟩ | ⟨j, x, rfl, hj, hx, _⟩
  · have NF := hid (NNext.before0 HK.out (NNext.of0 HN.out hk1))
    clear hk1
    go_wp2
    exact bodyPost_ret (v := .tuple #[]) (by simp [results, Try.results53]) rfl ⟨rfl, NF.out⟩
  · have := HNo.out x (List.mem_of_getElem? hj)
    rw [this] at hx
    cases hx

set_option maxHeartbeats 4000000 in
set_option maxRecDepth 100000 in
theorem change_fits {base b : Nat} {a : Nm} {n : Ng} (o : Tg) (w : World) (h : NegIn w base b a n) (ho64 : In64 o.type) (hos : o.value.size ≤ 140737488351232) (r : Tg) (hr : n.req = [r]) (ht : r.type = o.type) (hl : letsB n.own o = true) :
    Calls Try.prog 53 #[.pointer (some ⟨b, 0, none⟩), .agg #[.int .i64 o.type, .string o.value]] w fun e w' => e = .returned (.tuple #[]) ∧ NNext w w' base b a a { n with req := [⟨r.type, o.value⟩] } := by
  have k0 := (Kept.refl (fun _ => False) w).alloc (.cells #[.int .i64 o.type, .string o.value] 62)
  have hA := h.kept0 k0
  have HIx := hid (indexO_any a.vr n.req w.heap.size o _ hA.req.tags (by have := hA.good.req.1; omega) (BoxO.new w o))
  have hB := BoxO.new w o
  generalize hAe : w.alloc (.cells #[.int .i64 o.type, .string o.value] 62) = A at *
  have HAe := hid hAe
  obtain ⟨pr, cr, hvr⟩ := slice_of hA.req
  have hTg : TagsAt A (.slice pr n.req.length cr) n.req := by
    have := hA.req.tags
    rw [hvr] at this
    exact this
  obtain ⟨g, og, hpr, hcap, _, _⟩ := hTg.at (j := 0) (x := r) (by rw [hr]; rfl)
  clear hTg
  have hg0 : og = 0 := by
    rcases hA.req.2 with ⟨e, _⟩ | ⟨g', cap', cur, e, _⟩
    · rw [hvr] at e; simp at e; rw [e.1] at hpr; cases hpr
    · rw [hvr] at e
      simp only [Value.slice.injEq] at e
      rw [e.1] at hpr
      simp at hpr
      exact hpr.2.symm
  subst hg0
  subst hpr
  rw [hr, List.length_singleton] at hvr hcap
  have d1 := hA.n1
  have d2 := hA.n2
  rw [hvr] at HIx d1
  obtain ⟨mb, L, hvo, _⟩ := id hA.own
  rw [hvo] at d2
  have HN := hid hA
  have HK := hid k0
  have HBo := hid hB
  have HR := hid hr
  have HT := hid ht
  have HL := hid hl
  have HV := hid hvr
  have HVo := hid hvo
  clear h k0 hA hB hr ht hl hAe hvr hvo
  go_enter Try.func53, Try.ntmps53
  go_upto_region 1 with fail
  rw [HAe.out]
  clear HAe
  go_wp2_with fail
  refine HIx.out.mono ?_
  rintro e w1 ⟨i, rfl, hF, hk1⟩
  have hi0 : i = 0 := by
    rcases hF with ⟨rfl, h9⟩ | ⟨j, x, rfl, hj, _, _⟩
    · have := h9 r (by rw [HR.out]; simp)
      rw [HT.out] at this
      simp at this
    · have := (List.getElem?_eq_some_iff.1 hj).1
      rw [HR.out, List.length_singleton] at this
      omega
  subst hi0
  have N1 := HN.out.kept0 hk1
  have hB1 : BoxO w1 w.heap.size o := (hk1.block _ HBo.out.lt id).trans HBo.out
  have kd := (Kept.refl (fun _ => False) w1).drew
  have HFi := hid (bookFits_any a.vo n.own o w1.drew (N1.kept0 kd).own ho64 hos)
  rw [HL.out, HVo.out] at HFi
  unfold tgV at HFi
  have b0 := hB1.c0
  have b1 := hB1.c1
  have e1 := N1.n1
  have e2 := N1.n2
  rw [HV.out] at e1
  rw [HVo.out] at e2
  have HN1 := hid N1
  have HB1 := hid hB1
  have HK1 := hid (HK.out.trans hk1)
  clear hF hk1 N1 hB1 d1 d2 HIx
  go_wp2_with fail
  go_region_with (first | (go_at_call 71; refine HFi.out.mono ?_; rintro e w2 ⟨rfl, hk2⟩; have K2 := hid (kd.trans hk2); clear hk2))
  all_goals
    have N2 := hid (HN1.out.kept0 K2.out)
    have hB2 : BoxO w2 w.heap.size o := (K2.out.block _ HB1.out.lt id).trans HB1.out
    clear e1 e2 b0 b1
    have b0 := hB2.c0
    have b1 := hB2.c1
    have e1 := N2.out.n1
    rw [HV.out] at e1
    have O2 := N2.out.req
    rw [HV.out] at O2
    have hrow : w2.cell? ⟨g, 1, none⟩ = some (.string r.value) := by
      have h5 : TagsAt w2 (.slice (some ⟨g, 0, none⟩) 1 cr) n.req := O2.tags
      obtain ⟨g', o', e5, _, _, q1⟩ := h5.at (j := 0) (x := r) (by rw [HR.out]; rfl)
      simp only [Option.some.injEq, Addr.mk.injEq, and_true] at e5
      obtain ⟨rfl, rfl⟩ := e5
      exact q1
    have hfrz : w2.frozen? ⟨g, 1, none⟩ = false := by
      obtain ⟨cur, hcur⟩ := O2.cellsB (i := g) rfl
      exact frozen_of_row _ g 1 _ _ hcur
    have O3 := OwnO.setVal (j := 0) (x := r) O2 (by rw [HR.out]; rfl) o.value
    have NF : Hid (NNext w ((w2.setCell ⟨g, 1, none⟩ (.string o.value)).drew) base b a a { n with req := [⟨r.type, o.value⟩] }) := by
      have h6 : NNext w2 (w2.setCell ⟨g, 1, none⟩ (.string o.value)) base b a a { n with req := [⟨r.type, o.value⟩] } := by
        refine N2.out.setRow ((kept_cell w2 g 1 (.string o.value)).mono (fun i _ e => by rw [HV.out, e]; rfl)) ?_ (fine1 ?_ hos)
        · rw [HV.out]
          rw [HR.out] at O3
          exact O3
        · exact (N2.out.good.req.2.1 r (by rw [HR.out]; simp))
      exact ((NNext.before0 HK1.out (NNext.of0 HN1.out K2.out)).trans h6).then0 (Kept.refl _ _).drew
    clear O2 O3
    go_wp2_with fail
    go_region
    all_goals
      go_wp2
      go_end0
      exact ⟨rfl, NF.out⟩

set_option maxHeartbeats 4000000 in
set_option maxRecDepth 100000 in
theorem takeAnswer_3 {base b : Nat} {a : Nm} {n : Ng} (p : Pk0) (v : Value) (w : World) (h : NegIn w base b a n) (hp : PkIn w b a p v) (hc : p.code = 3) (ch : Ng → Tg → Ng) (Inv : Ng → Prop) (h0 : Inv n) (hI : ∀ m o, o ∈ p.opts → Inv m → Inv (ch m o))
    (hch : ∀ (W : World) (a1 : Nm) (m : Ng) (o : Tg), o ∈ p.opts → Inv m → NegIn W base b a1 m → Calls Try.prog 53 #[.pointer (some ⟨b, 0, none⟩), .agg #[.int .i64 o.type, .string o.value]] W fun e w' => e = .returned (.tuple #[]) ∧ ∃ a2, NNext W w' base b a1 a2 (ch m o)) :
    Calls Try.prog 31 #[.pointer (some ⟨b, 0, none⟩), pkV p.code p.id v p.data] w fun e w' => ∃ vo, e = .returned vo ∧ Sent w w' base b a (happenF ⟨p, pk00⟩ (p.opts.foldl ch n) 9) vo := by
  unfold pkV
  obtain ⟨pv, cv, hv⟩ := hp.at_.1.slice
  have T := TakeA.of h hp
  have B0 := PkBlk.new w #[.int .i64 p.code, .int .i64 p.id, v, .string p.data]
  generalize hAe : w.alloc (.cells #[.int .i64 p.code, .int .i64 p.id, v, .string p.data] 24) = A at *
  have HAe := hid hAe
  obtain ⟨⟨q0, q1, q2, q3⟩, _⟩ := T.own
  have HO := hid T.own
  have HCo := hid hc
  rw [hc] at q0
  rw [hc] at hAe HAe ⊢
  have HT := hid T
  have HB := hid B0
  have HCh := hid hch
  have HIn := hid hI
  have H0 := hid h0
  have hll := hp.fine.1
  subst hv
  clear hAe h hp T hc hch hI h0 B0
  go_enter Try.func31, Try.ntmps31
  go_upto_region 1 with fail
  rw [HAe.out]
  clear HAe
  go_wp2
  go_loopw [19] (fun vi wr => ∃ j : Nat, j ≤ p.opts.length ∧ vi = .int .i64 (j : Int) ∧ Hid (∃ a', Inv ((p.opts.take j).foldl ch n) ∧ NNext A wr base b a a' ((p.opts.take j).foldl ch n))) (fun vi _ => p.opts.length - (intOf vi).toNat)
  case atStart => exact ⟨0, Nat.zero_le _, rfl, a, H0.out, NNext.refl HT.out.neg⟩
  case round =>
    obtain ⟨j, hj, rfl, HI⟩ := hrel
    obtain ⟨a', hInv, N1⟩ := HI.out
    have P1 := HT.out.pk.step N1
    by_cases hlt : j < p.opts.length
    · have hltz : (j : Int) < (p.opts.length : Int) := by omega
      obtain ⟨x, hx⟩ : ∃ x, p.opts[j]? = some x := ⟨p.opts[j], by simp [hlt]⟩
      obtain ⟨g, o, rfl, hcap, c0, c1⟩ := P1.at_.1.at hx
      have ka := (Kept.refl (fun _ => False) wr).alloc (.cells #[.int .i64 x.type, .string x.value] 62)
      have b0 := (BoxO.new wr x).c0
      have b1 := (BoxO.new wr x).c1
      have eT : (p.opts.take (j + 1)).foldl ch n = ch ((p.opts.take j).foldl ch n) x := by
        rw [take_next hx, List.foldl_append]
        rfl
      have HC := hid (HCh.out _ a' _ x (List.mem_of_getElem? hx) hInv (N1.neg.kept0 ka))
      have HI2 := hid (HIn.out _ x (List.mem_of_getElem? hx) hInv)
      have HNa := hid (N1.then0 ka)
      have ET := hid eT
      clear hx eT hInv N1 P1 HI ka
      go_wp2_with fail
      refine HC.out.mono ?_
      rintro e w2 ⟨rfl, a2, N2⟩
      have R : Hid (∃ a', Inv ((p.opts.take (j + 1)).foldl ch n) ∧ NNext A w2 base b a a' ((p.opts.take (j + 1)).foldl ch n)) := by
        refine ⟨a2, ?_, ?_⟩
        · rw [ET.out]; exact HI2.out
        · rw [ET.out]; exact HNa.out.trans N2
      clear N2 HC
      go_wp2
      exact ⟨⟨j + 1, hlt, by go_num, R.out⟩, by simp [intOf]; omega⟩
    · obtain rfl : j = p.opts.length := by omega
      have hltz : ¬ (p.opts.length : Int) < (p.opts.length : Int) := by omega
      rw [List.take_length] at N1
      have hnS : ¬ Sn b a w.heap.size := pk_far HT.out.neg HB.out
      have O1 := HO.out.keptS N1.kept hnS
      rw [HCo.out] at O1
      clear q0 q1 q2 q3
      obtain ⟨⟨q0, q1, q2, q3⟩, _⟩ := O1
      have HH := hid (happen_any ⟨p, pk00⟩ (.slice pv p.opts.length cv) (.slice none 0 0) 9 ⟨by decide, by decide⟩ wr N1.neg P1.cz)
      unfold czV pk00 at HH
      simp only at HH
      rw [HCo.out] at HH
      have NT := hid (NNext.before0 HT.out.k N1)
      clear hInv N1 P1 HI hlt
      go_wp2_with fail
      refine HH.out.mono ?_
      rintro e w4 ⟨vo, rfl, vt, l, w5, N5, U⟩
      have HS := hid (Sent.of (NT.out.trans N5) U (fun i hi => by cases hi))
      obtain ⟨po, co, rfl⟩ := slice_of U.out.row
      clear U N5
      go_wp2
      go_ret
      exact ⟨_, rfl, HS.out⟩
end Go.Proofs.Ytodgkmjiiijfpaa

namespace Go.Proofs.Ytodgkmjiiijfpaa
open Go.RowKit

/-- A list in which vs stands from the place o on. -/
def splice {α : Type} (l : List α) (o : Nat) (vs : List α) : List α := l.take o ++ vs ++ l.drop (o + vs.length)
theorem splice_nil {α : Type} (l : List α) (o : Nat) : splice l o [] = l := by simp [splice]
theorem splice_cons {α : Type} (l : List α) (o : Nat) (v : α) (r : List α) (h : o < l.length) : splice (l.set o v) (o + 1) r = splice l o (v :: r) := by
  unfold splice
  have e1 : (l.set o v).take (o + 1) = l.take o ++ [v] := by
    rw [List.take_add_one, List.getElem?_set_self h, List.take_set_of_le (Nat.le_refl o)]
    simp
  have e2 : (l.set o v).drop (o + 1 + r.length) = l.drop (o + (r.length + 1)) := by
    rw [List.drop_set_of_lt (by omega)]
    congr 1
    omega
  rw [e1, e2]
  simp
theorem splice_length {α : Type} (l : List α) (o : Nat) (vs : List α) (h : o + vs.length ≤ l.length) : (splice l o vs).length = l.length := by
  unfold splice
  simp
  omega
theorem heap_setCells {g : Nat} {e : TypeId} {fz : Nat × Nat} : ∀ (vs : List Value) (o : Nat) (w : World) (cur : Array Value), w.heap[g]? = some (.cells cur e fz) → o + vs.length ≤ cur.size → ∃ cur', (w.setCells g o vs).heap[g]? = some (.cells cur' e fz) ∧ cur'.toList = splice cur.toList o vs
  | [], o, w, cur, h, _ => ⟨cur, h, (splice_nil _ _).symm⟩
  | v :: r, o, w, cur, h, hl => by
    simp at hl
    obtain ⟨c, h1, h2⟩ := heap_setCells r (o + 1) (w.setCell ⟨g, o, none⟩ v) (cur.setIfInBounds o v) (Joins.block_setCell h v) (by simp; omega)
    refine ⟨c, h1, ?_⟩
    rw [h2, Array.toList_setIfInBounds, splice_cons _ _ _ _ (by simp; omega)]
theorem grown_setCells {g : Nat} : ∀ (vs : List Value) (o : Nat) (w : World), w.grownBy (w.setCells g o vs) (some g)
  | [], _, w => World.grownBy.refl w _
  | v :: r, o, w => World.grownBy.trans (b := w.setCell ⟨g, o, none⟩ v) ⟨rfl, rfl, rfl, by simp, fun k _ hk => heap_setCell_other w ⟨g, o, none⟩ k v (fun e => hk (by simp [e]))⟩ (grown_setCells r (o + 1) _)

theorem rowT_cons (a : Tg) (r : List Tg) : rowT (a :: r) = tgCells a ++ rowT r := by simp [rowT]
theorem rowT_take (l : List Tg) (i : Nat) : (rowT l).take (i * 2) = rowT (l.take i) := by
  induction l generalizing i with
  | nil => simp [rowT]
  | cons a r ih =>
    cases i with
    | zero => simp [rowT]
    | succ i =>
      rw [List.take_succ_cons, rowT_cons, rowT_cons, ← ih, List.take_append, List.take_of_length_le (by simp [tgCells]; omega)]
      congr 1
      simp only [tgCells, List.length_cons, List.length_nil]
      congr 1
      omega
theorem rowT_drop (l : List Tg) (i : Nat) : (rowT l).drop (i * 2) = rowT (l.drop i) := by
  induction l generalizing i with
  | nil => simp [rowT]
  | cons a r ih =>
    cases i with
    | zero => simp [rowT]
    | succ i =>
      rw [List.drop_succ_cons, rowT_cons, ← ih, List.drop_append, List.drop_of_length_le (by simp [tgCells]; omega)]
      simp only [tgCells, List.length_cons, List.length_nil, List.nil_append]
      congr 1
      omega

/-- The block g is a row of room for cap options, the first ones l's. -/
def RowO (w : World) (g cap : Nat) (l : List Tg) : Prop := w.ownsRow 0 62 2 (.slice (some ⟨g, 0, none⟩) l.length cap) l.length (rowT l)

section
variable {w : World} {base g cap : Nat} {l : List Tg}
theorem RowO.block (h : RowO w g cap l) : ∃ cur, w.heap[g]? = some (.cells cur 62 (0, 0)) ∧ l.length ≤ cap ∧ cap ≤ maxLen ∧ cur.size = cap * 2 ∧ cur.toList.take (l.length * 2) = rowT l := by
  rcases h.2 with ⟨h', _⟩ | ⟨g', cap', cur, h', _, hg, h1, h2, h3, h4⟩
  · simp at h'
  · simp only [Value.slice.injEq, Option.some.injEq, Addr.mk.injEq, and_true, true_and] at h'
    obtain ⟨rfl, rfl⟩ := h'
    exact ⟨cur, hg, h1, h2, h3, h4⟩
theorem RowO.of {cur : Array Value} (hg : w.heap[g]? = some (.cells cur 62 (0, 0))) (h1 : l.length ≤ cap) (h2 : cap ≤ maxLen) (h3 : cur.size = cap * 2) (h4 : cur.toList.take (l.length * 2) = rowT l) : RowO w g cap l :=
  ⟨rowT_length l, Or.inr ⟨g, cap, cur, rfl, Nat.zero_le _, hg, h1, h2, h3, h4⟩⟩
theorem RowO.lt (h : RowO w g cap l) : g < w.heap.size := by
  obtain ⟨cur, hg, _⟩ := h.block
  exact (Array.getElem?_eq_some_iff.1 hg).1
theorem RowO.le (h : RowO w g cap l) : l.length ≤ cap := by
  obtain ⟨cur, _, h1, _⟩ := h.block
  exact h1
theorem RowO.le63 (h : RowO w g cap l) : cap ≤ 9223372036854775807 := by
  obtain ⟨cur, _, _, h1, _⟩ := h.block
  simp only [maxLen] at h1
  omega
theorem RowO.isCell (h : RowO w g cap l) {j : Nat} (hj : j < cap * 2) : (w.cell? ⟨g, j, none⟩).isSome = true := by
  obtain ⟨cur, hg, _, _, h3, _⟩ := h.block
  simp [World.cell?, hg, h3, hj]
theorem RowO.frozenAt (h : RowO w g cap l) (j : Nat) : w.frozen? ⟨g, j, none⟩ = false := World.ownsRow.frozenAt h j
theorem RowO.same {w' : World} (h : RowO w g cap l) (hb : w'.heap[g]? = w.heap[g]?) : RowO w' g cap l := by
  obtain ⟨cur, hg, h1, h2, h3, h4⟩ := h.block
  exact RowO.of (hb.trans hg) h1 h2 h3 h4
theorem RowO.ahead (h : RowO w g cap l) (i : Nat) : RowO w g cap (l.take i) := by
  obtain ⟨cur, hg, h1, h2, h3, h4⟩ := h.block
  refine RowO.of hg (by simp; omega) h2 h3 ?_
  rw [← rowT_take, ← h4, List.take_take, List.length_take]
  congr 1
  omega
theorem RowO.more (h : RowO w g cap l) (x : Tg) (hl : l.length < cap) : RowO (w.setCells g (l.length * 2) (tgCells x)) g cap (l ++ [x]) := by
  obtain ⟨cur, hg, h1, h2, h3, h4⟩ := h.block
  obtain ⟨cur', hg', hc⟩ := heap_setCells (g := g) (tgCells x) (l.length * 2) w cur hg (by simp [tgCells]; omega)
  have hlen : cur'.size = cur.size := by
    have := congrArg List.length hc
    rw [splice_length _ _ _ (by simp [tgCells]; omega)] at this
    simpa using this
  refine RowO.of hg' (by simp; omega) h2 (by rw [hlen, h3]) ?_
  rw [hc, rowT_append, rowT_one, ← h4]
  unfold splice
  rw [show (l ++ [x]).length * 2 = (cur.toList.take (l.length * 2) ++ tgCells x).length by simp [tgCells]; omega, List.take_append_of_le_length (Nat.le_refl _), List.take_of_length_le (Nat.le_refl _)]
  rfl
theorem RowO.own (h : RowO w g cap l) (hb : base ≤ g) : OwnO w base (.slice (some ⟨g, 0, none⟩) l.length cap) l := by
  obtain ⟨cur, hg, h1, h2, h3, h4⟩ := h.block
  exact ⟨rowT_length l, Or.inr ⟨g, cap, cur, rfl, hb, hg, h1, h2, h3, h4⟩⟩
end
theorem OwnO.casesR {w : World} {base : Nat} {v : Value} {l : List Tg} (h : OwnO w base v l) : (v = .slice none 0 0 ∧ l = []) ∨ ∃ g cap, v = .slice (some ⟨g, 0, none⟩) l.length cap ∧ base ≤ g ∧ RowO w g cap l := by
  rcases h.2 with ⟨h', h0⟩ | ⟨g', cap', cur, h', hb, hg, h1, h2, h3, h4⟩
  · exact Or.inl ⟨h', List.eq_nil_of_length_eq_zero h0⟩
  · exact Or.inr ⟨g', cap', h', hb, RowO.of hg h1 h2 h3 h4⟩

def z2 : Value := .agg #[.int .i64 0, .string ⟨#[]⟩]
def tg0 : Tg := ⟨0, ⟨#[]⟩⟩
theorem zeroOpt (w : World) : (zeroValue 62).run Try.prog w = .ok z2 w := by kernel_rfl
theorem z2_cells : (Builtin.zeroCells z2.cells 1).toList = tgCells tg0 := by kernel_rfl

/-- 'clear' of one option of a row. -/
theorem run_clear_opt {w : World} {g cap : Nat} {l : List Tg} (h : RowO w g cap l) (o c : Nat) (ty : TypeId) (hc : o + 1 ≤ cap) :
    (Builtin.clear_ #[22] ty #[.slice (some ⟨g, o * 2, none⟩) 1 c]).run Try.prog w = .ok (.tuple #[]) (w.setCells g (o * 2) (tgCells tg0)) := by
  have hst := run_storeCells_cells (P := Try.prog) g (o * 2) (Builtin.zeroCells z2.cells 1).toList 0 w (fun j hj => by
    rw [z2_cells] at hj
    simp [tgCells] at hj
    exact h.isCell (by omega)) (fun j _ => h.frozenAt _) (by
    rw [z2_cells]
    intro v hv
    simp [tgCells] at hv
    rcases hv with rfl | rfl <;> rfl)
  simp only [Nat.add_zero] at hst
  rw [z2_cells] at hst
  have hz := zeroOpt w
  have hzc := z2_cells
  generalize z2 = z at *
  simp [Builtin.clear_, run_underlying Try.underlying22, hz, hzc, hst]

/-- 'append' whose run is known, in a region that draws. -/
theorem step_append_run {P : Program} {ops : Array Oper} {o : Oper} {a : Act} {w : World} {K : Act → World → Prop} {Q : Exit → Act → World → Prop} {E : Prop} (hg : o.guard = none) (d x : Operand) (t : TypeId) (hop : o.op = Op.call { callee := Callee.builtin Builtin.append, args := #[d, x], argTypes := #[t, t] })
    (v u : Value) (hd : a.eval d = v) (hx : a.eval x = u) {v' : Value} {w' : World} (hr : (Builtin.append_ #[t, t] o.type #[v, u]).run P w = .ok v' w') (hK : K (a.put o.dst v') w') :
    if Region.wanted o (yielded ops a.tmps) = true then Oper.wp P o a w K Q else E := by
  rw [if_pos (by simp [Region.wanted, hg])]
  unfold Oper.wp execOp
  simp only [hop, resolve, invoke, builtin, Sem.run_bind, Sem.run_pure, Result.andThen_ok, List.map_toArray, List.map_cons, List.map_nil, hd, hx, hr]
  exact hK

theorem run_append_opts {w : World} {g cap : Nat} {l : List Tg} (h : RowO w g cap l) (ad : Addr) (m c : Nat) (news : List Tg) (hl : news.length = m) (hc : ∀ j u, (rowT news)[j]? = some u → w.cell? (ad.add j) = some u) (hroom : l.length + m ≤ cap) (ty : TypeId) :
    ∃ w', (Builtin.append_ #[22, 22] ty #[.slice (some ⟨g, 0, none⟩) l.length cap, .slice (some ad) m c]).run Try.prog w = .ok (.slice (some ⟨g, 0, none⟩) (l.length + m) cap) w' ∧ RowO w' g cap (l ++ news) ∧ w.grownBy w' (some g) := by
  obtain ⟨i0, hi0, hz0, hz1, hz2⟩ := info_parts infoOpt
  obtain ⟨w', h1, h2, h3⟩ := run_append_fits (P := Try.prog) w 0 22 ty 62 i0 2 Try.underlying22 hi0 hz1 g l.length cap (rowT l) h ad m c (rowT news) (by rw [rowT_length, hl]) hc (rowT_oneCell news) hroom
  refine ⟨w', h1, ?_, h3⟩
  unfold RowO
  rw [rowT_append, List.length_append, hl]
  exact h2

set_option maxHeartbeats 1000000 in
set_option maxRecDepth 100000 in
theorem delO_any (g cap n j : Nat) (l : List Tg) (hn : l.length = n) (hj : j < n) (w : World) (hr : RowO w g cap l) :
    Calls Try.prog 73 #[.slice (some ⟨g, 0, none⟩) n cap, .int .i64 (j : Int), .int .i64 ((j : Int) + 1)] w fun e w' =>
      e = .returned (.slice (some ⟨g, 0, none⟩) (n - 1) cap) ∧ RowO w' g cap (l.eraseIdx j ++ [tg0]) ∧ Kept (fun i => i = g) w w' := by
  have hlc := hr.le
  have h63 := hr.le63
  have hpre := (hr.ahead j).same (w' := w.drew) rfl
  have hpl : (l.take j).length = j := by rw [List.length_take]; omega
  have hel : (l.eraseIdx j).length = n - 1 := by rw [List.length_eraseIdx, if_pos (by omega), hn]
  have hrun : ∃ w', (∀ ty, (Builtin.append_ #[22, 22] ty #[.slice (some ⟨g, 0, none⟩) j cap, .slice (some ⟨g, if cap = j + 1 then 0 else (j + 1) * 2, none⟩) (n - (j + 1)) (cap - (j + 1))]).run Try.prog w.drew = .ok (.slice (some ⟨g, 0, none⟩) (n - 1) cap) w') ∧ RowO w' g cap (l.eraseIdx j) ∧ w.drew.grownBy w' (some g) := by
    obtain ⟨w', h1, h2, h3⟩ := run_append_opts hpre ⟨g, if cap = j + 1 then 0 else (j + 1) * 2, none⟩ (n - (j + 1)) (cap - (j + 1)) (l.drop (j + 1)) (by rw [List.length_drop, hn]) (fun q u hu => by
      have hq : q < (rowT (l.drop (j + 1))).length := (List.getElem?_eq_some_iff.1 hu).1
      rw [rowT_length, List.length_drop] at hq
      have hne : ¬ (cap = j + 1) := by omega
      rw [if_neg hne, Addr.add_lit, ← hu, ← rowT_drop, List.getElem?_drop]
      exact World.ownsRow.cellAt hr _ (by omega)) (by rw [hpl]; omega) 0
    rw [hpl, show j + (n - (j + 1)) = n - 1 by omega] at h1
    rw [← List.eraseIdx_eq_take_drop_succ] at h2
    exact ⟨w', fun ty => h1, h2, h3⟩
  obtain ⟨w', hrun, hrow, hgrow⟩ := hrun
  have hce := fun ty => run_clear_opt hrow (n - 1) (cap - (n - 1)) ty (by omega)
  have HR : Hid (RowO (w'.setCells g ((n - 1) * 2) (tgCells tg0)) g cap (l.eraseIdx j ++ [tg0])) := by
    have := hrow.more tg0 (by omega)
    rw [hel] at this
    exact this
  have HK : Hid (Kept (fun i => i = g) w (w'.setCells g ((n - 1) * 2) (tgCells tg0))) :=
    (((Kept.refl _ w).drew).grown hgrow (fun j hj => Or.inr (Option.some.inj hj).symm)).grown (grown_setCells _ _ _) (fun j hj => Or.inr (Option.some.inj hj).symm)
  rw [hn] at hlc
  clear hr hpre hpl hrow hgrow hel
  generalize w'.setCells g ((n - 1) * 2) (tgCells tg0) = wz at *
  have hnc : ¬ (cap = n - 1) := by omega
  have hnn : n - (n - 1) = 1 := by omega
  have hb1 : j ≤ cap := by omega
  have hb2 : (j : Int) ≤ (j : Int) + 1 := by omega
  have hb3 : (j : Int) + 1 ≤ (n : Int) := by omega
  have hb4 : (0 : Int) ≤ (j : Int) + 1 := by omega
  have hb5 : ((j : Int) + 1).toNat = j + 1 := by omega
  have hb6 : j + 1 ≤ n := hj
  by_cases hcap : cap = j + 1
  · rw [if_pos hcap] at hrun
    subst hcap
    rw [Nat.sub_self] at hrun
    go_enter Try.func73, Try.ntmps73
    go_wp2
    go_region_law (refine step_append_run rfl (.tmp 22) (.tmp 25) 22 rfl (.slice (some ⟨g, 0, none⟩) j (j + 1)) (.slice (some ⟨g, 0, none⟩) (n - (j + 1)) 0) (by simp [Act.eval, Act.put]) (by simp [Act.eval, Act.put]; omega) (hrun _) ?_)
    all_goals go_wp2
    all_goals go_ret
    all_goals exact ⟨rfl, HR.out, HK.out⟩
  · rw [if_neg hcap] at hrun
    go_enter Try.func73, Try.ntmps73
    go_wp2
    go_region_law (refine step_append_run rfl (.tmp 22) (.tmp 25) 22 rfl (.slice (some ⟨g, 0, none⟩) j cap) (.slice (some ⟨g, (j + 1) * 2, none⟩) (n - (j + 1)) (cap - (j + 1))) (by simp [Act.eval, Act.put]) (by simp [Act.eval, Act.put]) (hrun _) ?_)
    all_goals go_wp2
    all_goals go_ret
    all_goals exact ⟨rfl, HR.out, HK.out⟩
end Go.Proofs.Ytodgkmjiiijfpaa

namespace Go.Proofs.Ytodgkmjiiijfpaa
open Go.RowKit

theorem hasF_nil (y : Int) : hasF [] y = false := by kernel_rfl

set_option maxHeartbeats 2000000 in
set_option maxRecDepth 100000 in
theorem isMust_any {base b : Nat} {a : Nm} {n : Ng} (o : Tg) (w : World) (h : NegIn w base b a n) :
    Calls Try.prog 72 #[.pointer (some ⟨b, 0, none⟩), .agg #[.int .i64 o.type, .string o.value]] w fun e w' => e = .returned (.bool false) ∧ Kept (fun _ => False) w w' := by
  have k0 := (Kept.refl (fun _ => False) w).alloc (.cells #[.int .i64 o.type, .string o.value] 62)
  have hA := h.kept0 k0
  have hB := BoxO.new w o
  generalize hAe : w.alloc (.cells #[.int .i64 o.type, .string o.value] 62) = A at *
  have HAe := hid hAe
  have d4 := hA.n4
  have b0 := hB.c0
  have HC := hid (contains_any (.slice none 0 0) [] o.type 0 (by simp) A.drew (OwnI.nil _ _))
  rw [hasF_nil] at HC
  have HK := hid (k0.drew)
  clear h hA hB hAe k0
  go_enter Try.func72, Try.ntmps72
  go_upto_region 1 with fail
  rw [HAe.out]
  clear HAe
  go_wp2_with fail
  go_region_with (first | (go_at_call 79; refine HC.out.mono ?_; rintro e w' ⟨rfl, hw⟩; rw [hw]; clear hw w'))
  all_goals
    go_wp2
    go_ret
    exact ⟨rfl, HK.out⟩

/-- A request that a nak's option changes. -/
def chL (own : List Rl) (o : Tg) : List Tg → List Tg
  | [] => []
  | x :: l => if (x.type == o.type) = true then (if letsB own o = true then ⟨x.type, o.value⟩ :: l else l) else x :: chL own o l
theorem chL_none (own : List Rl) (o : Tg) : ∀ l : List Tg, (∀ x ∈ l, (x.type == o.type) = false) → chL own o l = l
  | [], _ => rfl
  | x :: l, h => by
    unfold chL
    rw [h x (by simp), if_neg (by decide), chL_none own o l (fun y hy => h y (List.mem_cons_of_mem _ hy))]
theorem chL_at (own : List Rl) (o : Tg) : ∀ (l : List Tg) (j : Nat) (x : Tg), l[j]? = some x → (x.type == o.type) = true → (∀ y ∈ l.take j, (y.type == o.type) = false) → chL own o l = if letsB own o = true then l.set j ⟨x.type, o.value⟩ else l.eraseIdx j
  | [], j, x, h, _, _ => by simp at h
  | z :: l, 0, x, h, hx, _ => by
    have : z = x := by simpa using h
    subst this
    unfold chL
    rw [hx, if_pos rfl]
    rfl
  | z :: l, j + 1, x, h, hx, hA => by
    unfold chL
    rw [hA z (by simp), if_neg (by decide), chL_at own o l j x (by simpa using h) hx (fun y hy => hA y (by simp [hy]))]
    split <;> rfl
theorem mem_set' {l : List Tg} {j : Nat} {x y : Tg} (h : y ∈ l.set j x) : y ∈ l ∨ y = x := List.mem_or_eq_of_mem_set h
theorem chL_mem (own : List Rl) (o : Tg) : ∀ (l : List Tg) (y : Tg), y ∈ chL own o l → y ∈ l ∨ (y.type = o.type ∧ y.value = o.value ∧ letsB own o = true)
  | [], _, h => by cases h
  | z :: l, y, h => by
    unfold chL at h
    split at h
    · rename_i hz
      split at h
      · rename_i hl
        rcases List.mem_cons.1 h with rfl | h
        · exact Or.inr ⟨by simpa using hz, rfl, hl⟩
        · exact Or.inl (List.mem_cons_of_mem _ h)
      · exact Or.inl (List.mem_cons_of_mem _ h)
    · rcases List.mem_cons.1 h with rfl | h
      · exact Or.inl (List.mem_cons_self ..)
      · rcases chL_mem own o l y h with h | h
        · exact Or.inl (List.mem_cons_of_mem _ h)
        · exact Or.inr h
theorem chL_len (own : List Rl) (o : Tg) : ∀ l : List Tg, (chL own o l).length ≤ l.length
  | [] => Nat.le_refl _
  | z :: l => by
    unfold chL
    have := chL_len own o l
    split
    · split <;> simp
    · simp; omega
theorem chL_fine {own : List Rl} {o : Tg} {l : List Tg} (h : FineO l) (h1 : In64 o.type) (h2 : o.value.size ≤ 140737488351232) : FineO (chL own o l) := by
  refine ⟨Nat.le_trans (chL_len own o l) h.1, fun x hx => ?_, fun x hx => ?_⟩
  · rcases chL_mem own o l x hx with h3 | ⟨h3, _, _⟩
    · exact h.2.1 x h3
    · rw [h3]; exact h1
  · rcases chL_mem own o l x hx with h3 | ⟨_, h3, _⟩
    · exact h.2.2 x h3
    · rw [h3]; exact h2

theorem fine_del {l : List Tg} {j : Nat} (h : FineO l) (hj : j < l.length) : FineO (l.eraseIdx j ++ [tg0]) := by
  refine ⟨?_, fun x hx => ?_, fun x hx => ?_⟩
  · rw [List.length_append, List.length_eraseIdx, if_pos hj, List.length_singleton]
    have := h.1
    omega
  · rcases List.mem_append.1 hx with hx | hx
    · exact h.2.1 x (List.mem_of_mem_eraseIdx hx)
    · rw [List.mem_singleton.1 hx]; exact ⟨by decide, by decide⟩
  · rcases List.mem_append.1 hx with hx | hx
    · exact h.2.2 x (List.mem_of_mem_eraseIdx hx)
    · rw [List.mem_singleton.1 hx]; decide

set_option maxHeartbeats 4000000 in
set_option maxRecDepth 100000 in
theorem change_any {base b : Nat} {a : Nm} {n : Ng} (o : Tg) (w : World) (h : NegIn w base b a n) (ho64 : In64 o.type) (hos : o.value.size ≤ 140737488351232) :
    Calls Try.prog 53 #[.pointer (some ⟨b, 0, none⟩), .agg #[.int .i64 o.type, .string o.value]] w fun e w' => e = .returned (.tuple #[]) ∧ ∃ a', NNext w w' base b a a' { n with req := chL n.own o n.req } := by
  by_cases hno : ∀ x ∈ n.req, (x.type == o.type) = false
  · rw [chL_none _ _ _ hno]
    refine (change_none o w h hno).mono ?_
    rintro e w' ⟨rfl, hn⟩
    exact ⟨rfl, a, hn⟩
  have k0 := (Kept.refl (fun _ => False) w).alloc (.cells #[.int .i64 o.type, .string o.value] 62)
  have hA := h.kept0 k0
  have HIx := hid (indexO_any a.vr n.req w.heap.size o _ hA.req.tags (by have := hA.good.req.1; omega) (BoxO.new w o))
  have hB := BoxO.new w o
  generalize hAe : w.alloc (.cells #[.int .i64 o.type, .string o.value] 62) = A at *
  have HAe := hid hAe
  have hne : n.req ≠ [] := fun e => hno (fun x hx => by rw [e] at hx; cases hx)
  obtain ⟨g, cr, hvr, hbg, hrow⟩ : ∃ g cr, a.vr = .slice (some ⟨g, 0, none⟩) n.req.length cr ∧ base ≤ g ∧ RowO A g cr n.req := by
    rcases hA.req.casesR with ⟨_, e⟩ | ⟨g, cr, e, hb, hr⟩
    · exact absurd e hne
    · exact ⟨g, cr, e, hb, hr⟩
  have d1 := hA.n1
  have d2 := hA.n2
  rw [hvr] at HIx d1
  obtain ⟨mb, L, hvo, _⟩ := id hA.own
  rw [hvo] at d2
  have hll := hA.good.req.1
  have hcr := hrow.le
  have hcr2 := hrow.le63
  have HF := hid (chL_fine (own := n.own) hA.good.req ho64 hos)
  have HN := hid hA
  have HK := hid k0
  have HBo := hid hB
  have HV := hid hvr
  have HVo := hid hvo
  have HRw := hid (fun (W : World) (k : Kept (fun _ => False) A W) => hrow.same (k.block g hrow.lt id))
  have HNo := hid hno
  have Hbg := hid hbg
  clear h k0 hA hB hAe hvr hvo hno hne hrow hbg
  go_enter Try.func53, Try.ntmps53
  go_upto_region 1 with fail
  rw [HAe.out]
  clear HAe
  go_wp2_with fail
  refine HIx.out.mono ?_
  rintro e w1 ⟨i, rfl, hF, hk1⟩
  rcases hF with ⟨rfl, h9⟩ | ⟨j, x, rfl, hj, hxt, hA0⟩
  · exact absurd h9 HNo.out
  have hCh := chL_at n.own o n.req j x hj hxt hA0
  have hjl : j < n.req.length := (List.getElem?_eq_some_iff.1 hj).1
  have hjz : ¬ (j : Int) < 0 := by omega
  have hjn : (j : Int) < (n.req.length : Int) := by omega
  have N1 := HN.out.kept0 hk1
  have hB1 : BoxO w1 w.heap.size o := (hk1.block _ HBo.out.lt id).trans HBo.out
  have kd := (Kept.refl (fun _ => False) w1).drew
  have HFi := hid (bookFits_any a.vo n.own o w1.drew (N1.kept0 kd).own ho64 hos)
  rw [HVo.out] at HFi
  unfold tgV at HFi
  have b0 := hB1.c0
  have b1 := hB1.c1
  have e1 := N1.n1
  have e2 := N1.n2
  rw [HV.out] at e1
  rw [HVo.out] at e2
  have HN1 := hid N1
  have HB1 := hid hB1
  have HK1 := hid (HK.out.trans hk1)
  have HKA := hid hk1
  have HJ := hid hj
  cases hl : letsB n.own o with
  | true =>
    rw [hl, if_pos rfl] at hCh
    rw [hl] at HFi
    have HCh := hid hCh
    clear hk1 N1 hB1 d1 d2 HIx hCh hl hj hxt hA0
    go_wp2_with fail
    go_region_with (first | (go_at_call 71; refine HFi.out.mono ?_; rintro e w2 ⟨rfl, hk2⟩; have K2 := hid (kd.trans hk2); clear hk2))
    all_goals
      have N2 := hid (HN1.out.kept0 K2.out)
      have hB2 : BoxO w2 w.heap.size o := (K2.out.block _ HB1.out.lt id).trans HB1.out
      clear e1 e2 b0 b1
      have b0 := hB2.c0
      have b1 := hB2.c1
      have e1 := N2.out.n1
      rw [HV.out] at e1
      have O2 := N2.out.req
      rw [HV.out] at O2
      have hrow : w2.cell? ⟨g, j * 2 + 1, none⟩ = some (.string x.value) := by
        obtain ⟨g', o', e5, _, _, q1⟩ := O2.tags.at HJ.out
        simp only [Option.some.injEq, Addr.mk.injEq, and_true] at e5
        obtain ⟨rfl, rfl⟩ := e5
        rw [Nat.zero_add] at q1
        exact q1
      have hfrz : w2.frozen? ⟨g, j * 2 + 1, none⟩ = false := by
        obtain ⟨cur, hcur⟩ := O2.cellsB (i := g) rfl
        exact frozen_of_row _ g _ _ _ hcur
      have O3 := OwnO.setVal (j := j) (x := x) O2 HJ.out o.value
      have NF : Hid (∃ a', NNext w ((w2.setCell ⟨g, j * 2 + 1, none⟩ (.string o.value)).drew) base b a a' { n with req := chL n.own o n.req }) := by
        have h6 : NNext w2 (w2.setCell ⟨g, j * 2 + 1, none⟩ (.string o.value)) base b a a { n with req := chL n.own o n.req } := by
          refine N2.out.setRow ((kept_cell w2 g (j * 2 + 1) (.string o.value)).mono (fun i _ e => by rw [HV.out, e]; rfl)) ?_ HF.out
          rw [HV.out, HCh.out]
          exact O3
        exact ⟨a, ((NNext.before0 HK1.out (NNext.of0 HN1.out K2.out)).trans h6).then0 (Kept.refl _ _).drew⟩
      clear O2 O3
      go_wp2_with fail
      go_region
      all_goals
        go_wp2
        go_end0
        exact ⟨rfl, NF.out⟩
  | false =>
    rw [hl, if_neg (by decide)] at hCh
    rw [hl] at HFi
    have HCh := hid hCh
    clear hk1 N1 hB1 d1 d2 HIx hCh hl hj hxt hA0
    go_wp2_with fail
    go_region_with (first | (go_at_call 71; refine HFi.out.mono ?_; rintro e w2 ⟨rfl, hk2⟩; have K2 := hid (kd.trans hk2); clear hk2))
    all_goals
      have N2 := hid (HN1.out.kept0 K2.out)
      have hB2 : BoxO w2 w.heap.size o := (K2.out.block _ HB1.out.lt id).trans HB1.out
      clear e1 e2 b0 b1
      have b0 := hB2.c0
      have b1 := hB2.c1
      have HM := hid (isMust_any o w2 N2.out)
      clear hB2
      go_wp2_with fail
      refine HM.out.mono ?_
      rintro e w3 ⟨rfl, hk3⟩
      have N3 := hid (N2.out.kept0 hk3)
      have K3 := hid (K2.out.trans hk3)
      have e1 := N3.out.n1
      rw [HV.out] at e1
      have hw63 : IntKind.i64.wrap ((j : Int) + 1) = (j : Int) + 1 := by rw [IntKind.wrap_i64]; omega
      have HD := hid (delO_any g cr n.req.length j n.req rfl hjl w3 (HRw.out w3 (HKA.out.trans K3.out)))
      clear hk3 b0 b1
      go_wp2_with fail
      refine HD.out.mono ?_
      rintro e w4 ⟨rfl, hR4, hk4⟩
      have hel : (n.req.eraseIdx j).length = n.req.length - 1 := by rw [List.length_eraseIdx, if_pos hjl]
      have N4 : NNext w3 w4 base b a a { n with req := n.req.eraseIdx j ++ [tg0] } := by
        refine N3.out.setRow (hk4.mono (fun i _ e => by rw [HV.out, e]; rfl)) ?_ (fine_del N3.out.good.req hjl)
        rw [HV.out]
        have h7 := hR4.own Hbg.out
        rw [List.length_append, hel, List.length_singleton, show n.req.length - 1 + 1 = n.req.length by omega] at h7
        exact h7
      have hO4 : OwnO w4 base (.slice (some ⟨g, 0, none⟩) (n.req.length - 1) cr) (n.req.eraseIdx j) := by
        have h7 := (hR4.ahead (n.req.length - 1)).own Hbg.out
        rw [List.take_append_of_le_length (by omega), List.take_of_length_le (by omega), hel] at h7
        exact h7
      have NF : Hid (∃ a', NNext w (w4.setCell ⟨b, 1, none⟩ (.slice (some ⟨g, 0, none⟩) (n.req.length - 1) cr)) base b a a' { n with req := chL n.own o n.req }) := by
        have h6 := N4.neg.setReq (W0 := w3) hO4 (by have := HF.out; rw [HCh.out] at this; exact this) (fun i hi v hv => by
          have hr : a.vr.ownBlock = some i := by rw [HV.out]; exact hi
          rcases hv with rfl | rfl
          · exact N4.neg.far1 i hr
          · exact N4.neg.far2 i hr) (fun i hi => Or.inl (by rw [HV.out]; exact hi)) N4.kept
        rw [HCh.out]
        exact ⟨_, NNext.before0 (HK1.out.trans K3.out) h6⟩
      clear e1
      have e1 := N4.neg.n1
      rw [HV.out] at e1
      have f1 := N4.neg.fz 1
      clear hR4 hk4 hel N4 hO4 HD
      go_wp2
      go_end0
      exact ⟨rfl, NF.out⟩
end Go.Proofs.Ytodgkmjiiijfpaa

namespace Go.Proofs.Ytodgkmjiiijfpaa
open Go.RowKit

/-- One option of the request more: is it the next one of those that are taken away? -/
def woStep (s : List Tg × List Tg) (x : Tg) : List Tg × List Tg := match s.2 with | [] => (s.1 ++ [x], []) | y :: l => if sameT y x = true then (s.1, l) else (s.1 ++ [x], y :: l)
def woF (r l : List Tg) : List Tg × List Tg := r.foldl woStep ([], l)
theorem woF_take (r l : List Tg) {j : Nat} {x : Tg} (h : r[j]? = some x) : woF (r.take (j + 1)) l = woStep (woF (r.take j) l) x := by
  unfold woF
  rw [take_next h, List.foldl_append]
  rfl
theorem woStep_none {s : List Tg × List Tg} {x : Tg} (h : s.2 = []) : woStep s x = (s.1 ++ [x], []) := by unfold woStep; rw [h]
theorem woStep_is {s : List Tg × List Tg} {x y : Tg} {m : List Tg} (h : s.2 = y :: m) (hs : sameT y x = true) : woStep s x = (s.1, m) := by unfold woStep; rw [h]; simp [hs]
theorem woStep_not {s : List Tg × List Tg} {x y : Tg} {m : List Tg} (h : s.2 = y :: m) (hs : sameT y x = false) : woStep s x = (s.1 ++ [x], y :: m) := by unfold woStep; rw [h]; simp [hs]
theorem wo_mem (r l : List Tg) : ∀ j, j ≤ r.length → (∀ x ∈ (woF (r.take j) l).1, x ∈ r) ∧ (woF (r.take j) l).1.length ≤ j ∧ ∃ k, (woF (r.take j) l).2 = l.drop k := by
  intro j
  induction j with
  | zero => exact fun _ => ⟨fun x hx => by simp [woF] at hx, by simp [woF], 0, by simp [woF]⟩
  | succ j ih =>
    intro hj
    obtain ⟨h1, h2, k, h3⟩ := ih (by omega)
    obtain ⟨x, hx⟩ : ∃ x, r[j]? = some x := ⟨r[j], by simp [show j < r.length from hj]⟩
    rw [woF_take r l hx]
    have hm := List.mem_of_getElem? hx
    cases hq : (woF (r.take j) l).2 with
    | nil =>
      rw [woStep_none hq]
      refine ⟨fun y hy => ?_, by simp; omega, k, by rw [← h3, hq]⟩
      rcases List.mem_append.1 hy with hy | hy
      · exact h1 y hy
      · rw [List.mem_singleton.1 hy]; exact hm
    | cons y m =>
      cases hs : sameT y x with
      | true =>
        rw [woStep_is hq hs]
        refine ⟨h1, by simp; omega, k + 1, ?_⟩
        rw [hq] at h3
        rw [← List.drop_drop, ← h3]
        rfl
      | false =>
        rw [woStep_not hq hs]
        refine ⟨fun z hz => ?_, by simp; omega, k, by rw [← h3, hq]⟩
        rcases List.mem_append.1 hz with hz | hz
        · exact h1 z hz
        · rw [List.mem_singleton.1 hz]; exact hm
theorem wo_fine {r l : List Tg} (h : FineO r) : FineO (woF r l).1 := by
  obtain ⟨h1, h2, _⟩ := wo_mem r l r.length (Nat.le_refl _)
  rw [List.take_length] at h1 h2
  exact ⟨Nat.le_trans h2 h.1, fun x hx => h.2.1 x (h1 x hx), fun x hx => h.2.2 x (h1 x hx)⟩

/-- What a reject of the last request does. -/
def rejN (n : Ng) (p : Pk0) : Ng × List Pk0 := if (woF n.req p.opts).2.length = 0 then happenF ⟨p, pk00⟩ { n with req := (woF n.req p.opts).1 } 9 else (n, [])
def chN (m : Ng) (o : Tg) : Ng := { m with req := chL m.own o m.req }
def ansN (n : Ng) (p : Pk0) : Ng × List Pk0 := if p.code = 2 then ackN n p else if p.code = 3 then happenF ⟨p, pk00⟩ (p.opts.foldl chN n) 9 else rejN n p
/-- What every packet does. -/
def takeN (n : Ng) (p : Pk0) : Ng × List Pk0 := takeF (ansN n p) n p
end Go.Proofs.Ytodgkmjiiijfpaa

namespace Go.Proofs.Ytodgkmjiiijfpaa
open Go.RowKit

theorem TagsAt.rest {W : World} {g o n cap : Nat} {y : Tg} {m : List Tg} (h : TagsAt W (.slice (some ⟨g, o, none⟩) n cap) (y :: m)) : TagsAt W (.slice (some ⟨g, o + 2, none⟩) m.length (cap - 1)) m := by
  rcases h with ⟨e, _⟩ | ⟨g', o', cap', e, h1, h2, hc⟩
  · cases e
  · simp only [Value.slice.injEq, Option.some.injEq, Addr.mk.injEq, and_true] at e
    obtain ⟨⟨rfl, rfl⟩, rfl, rfl⟩ := e
    refine Or.inr ⟨g, o + 2, cap - 1, rfl, by simp at h1; omega, by omega, fun j x hj => ?_⟩
    have := hc (j + 1) x (by simpa using hj)
    rw [show o + (j + 1) * 2 = o + 2 + j * 2 by omega] at this
    exact this

theorem TagsAt.low {W : World} {v : Value} {l : List Tg} (h : TagsAt W v l) : l = [] ∨ ∀ i, v.ownBlock = some i → i < W.heap.size := by
  rcases h with ⟨rfl, _⟩ | ⟨g, o, cap, rfl, _, _, hc⟩
  · exact Or.inl rfl
  · cases l with
    | nil => exact Or.inl rfl
    | cons x l =>
      refine Or.inr (fun i hi => ?_)
      have h1 := lt_of_cell (hc 0 x rfl).1
      have h2 : g = i := by simpa [Value.ownBlock] using hi
      rw [← h2]
      exact h1

set_option maxHeartbeats 2000000 in
set_option maxRecDepth 100000 in
theorem without_any (v u : Value) (r l : List Tg) (w : World) (hv : TagsAt w v r) (hu : TagsAt w u l) (hl : r.length ≤ 10000) :
    Calls Try.prog 74 #[v, u] w fun e w' => ∃ z, e = .returned (.tuple #[z, .bool (decide ((woF r l).2.length = 0))]) ∧ OwnO w' w.heap.size z (woF r l).1 ∧ Kept (fun _ => False) w w' := by
  obtain ⟨p, cap, rfl⟩ := hv.slice
  obtain ⟨q, cbp, rfl⟩ := hu.slice
  have Hat := hid (fun (j : Nat) (x : Tg) (hj : r[j]? = some x) (W : World) (hW : Kept (fun _ => False) w W) => (hv.kept0 hW).at hj)
  have HU := hid hu
  obtain ⟨B, hB⟩ : ∃ B, B = decide ((woF r l).2.length = 0) := ⟨_, rfl⟩
  rw [← hB]
  have HBq := hid hB
  clear hv hu hB
  go_enter Try.func74, Try.ntmps74
  go_wp2
  go_loopw [1, 6, 11] (fun vl v6 vi wr => ∃ j : Nat, j ≤ r.length ∧ vi = .int .i64 (j : Int) ∧ Hid (TagsAt wr vl (woF (r.take j) l).2 ∧ OwnO wr w.heap.size v6 (woF (r.take j) l).1 ∧ Kept (fun _ => False) w wr ∧ ((woF (r.take j) l).2 = [] ∨ ∀ i, vl.ownBlock = some i → i < w.heap.size))) (fun _ _ vi _ => r.length - (intOf vi).toNat)
  case atStart => exact ⟨0, Nat.zero_le _, rfl, HU.out, OwnO.nil _ _, Kept.refl _ _, HU.out.low⟩
  case round =>
    obtain ⟨j, hj, rfl, HI⟩ := hrel
    by_cases hlt : j < r.length
    · have hltz : (j : Int) < (r.length : Int) := by omega
      obtain ⟨x, hx⟩ : ∃ x, r[j]? = some x := ⟨r[j], by simp [hlt]⟩
      have HS := hid (woF_take r l hx)
      have HLe := hid (wo_mem r l j (by omega)).2.1
      generalize woF (r.take j) l = s at *
      obtain ⟨hT, hO, hK, hL⟩ := HI.out
      obtain ⟨g, o, rfl, hcap, c0, c1⟩ := Hat.out j x hx wr hK
      have k0 := (Kept.refl (fun _ => False) wr).alloc (.cells #[.int .i64 x.type, .string x.value] 62)
      have hk1 := hK.trans k0
      have hO1 := hO.kept k0
      have hT1 := hT.kept0 k0
      have hB := BoxO.new wr x
      have b0 := hB.c0
      have b1 := hB.c1
      obtain ⟨pl, cl, hvl⟩ := hT.slice
      obtain ⟨p6, c6, h6⟩ := slice_of hO
      subst h6
      have HO := hid hO1
      have HK := hid hk1
      have HB := hid hB
      have HL := hid hL
      clear hx hO hK hk1 hO1 hB k0 HI hL
      cases hq : s.2 with
      | nil =>
        rw [hq, List.length_nil] at hvl
        subst hvl
        have HN := hid (woStep_none (x := x) hq)
        clear hq hT hT1
        go_wp2
        go_quiet (fail)
        have kq := (Kept.refl (fun _ => False) (wr.alloc (.cells #[.int .i64 x.type, .string x.value] 62))).drewN nq
        generalize (wr.alloc (.cells #[.int .i64 x.type, .string x.value] 62)).drewN nq = W1 at *
        have hb1 : BoxO W1 wr.heap.size x := (kq.block _ HB.out.lt id).trans HB.out
        have d0 := hb1.c0
        have d1 := hb1.c1
        have hK1 := HK.out.trans kq
        obtain ⟨v', w2, hr, ho2, hk2, _⟩ := pushO x hK1.size (HO.out.kept kq) (by have := HLe.out; omega)
        have HR : Hid (TagsAt w2 (.slice pl 0 cl) (woF (r.take (j + 1)) l).2 ∧ OwnO w2 w.heap.size v' (woF (r.take (j + 1)) l).1 ∧ Kept (fun _ => False) w w2 ∧ ((woF (r.take (j + 1)) l).2 = [] ∨ ∀ i, (Value.slice pl 0 cl).ownBlock = some i → i < w.heap.size)) := by
          rw [HS.out, HN.out]
          exact ⟨Or.inl ⟨rfl, pl, cl, rfl⟩, ho2, hK1.andThen hk2 (fun i hi e => by have := HO.out.baseB e; omega), Or.inl rfl⟩
        clear ho2 hk2 hK1 hb1 kq b0 b1
        go_wp2_with (at_builtin; refine Lib.wpList_append_run _ rfl _ _ _ _ rfl _ _ rfl rfl _ _ (hr _) ?_)
        exact ⟨⟨j + 1, hlt, by go_num, HR.out⟩, by simp [intOf]; omega⟩
      | cons y m =>
        rw [hq] at hT hT1 HL
        rw [hq, List.length_cons] at hvl
        subst hvl
        obtain ⟨g2, o2, rfl, hcl, y0, y1⟩ := hT1.at (j := 0) (x := y) rfl
        rw [Nat.zero_mul, Nat.add_zero] at y0 y1
        have hm0 : (0 : Int) < ((m.length + 1 : Nat) : Int) := by omega
        have hm1 : 0 < m.length + 1 := by omega
        have HT := hid hT1
        have e0 : sameT y x = ((y.type == x.type) && (y.value.toList == x.value.toList)) := by unfold sameT; rw [bytes_same]
        clear hT hT1
        cases hs : sameT y x with
        | false =>
          have HN := hid (woStep_not hq hs)
          rw [hs] at e0
          have hcase : (y.type == x.type) = false ∨ ((y.type == x.type) = true ∧ (y.value.toList == x.value.toList) = false) := by
            cases h1 : (y.type == x.type) with
            | false => exact Or.inl rfl
            | true =>
              rw [h1] at e0
              exact Or.inr ⟨rfl, by simpa using e0.symm⟩
          clear hq hs e0
          rcases hcase with e1 | ⟨e1, e2⟩
          all_goals
            go_wp2
            go_quiet (fail)
            have kq := (Kept.refl (fun _ => False) (wr.alloc (.cells #[.int .i64 x.type, .string x.value] 62))).drewN nq
            generalize (wr.alloc (.cells #[.int .i64 x.type, .string x.value] 62)).drewN nq = W1 at *
            have hb1 : BoxO W1 wr.heap.size x := (kq.block _ HB.out.lt id).trans HB.out
            have d0 := hb1.c0
            have d1 := hb1.c1
            have hK1 := HK.out.trans kq
            obtain ⟨v', w2, hr, ho2, hk2, _⟩ := pushO x hK1.size (HO.out.kept kq) (by have := HLe.out; omega)
            have HR : Hid (TagsAt w2 (.slice (some ⟨g2, o2, none⟩) (m.length + 1) cl) (woF (r.take (j + 1)) l).2 ∧ OwnO w2 w.heap.size v' (woF (r.take (j + 1)) l).1 ∧ Kept (fun _ => False) w w2 ∧ ((woF (r.take (j + 1)) l).2 = [] ∨ ∀ i, (Value.slice (some ⟨g2, o2, none⟩) (m.length + 1) cl).ownBlock = some i → i < w.heap.size)) := by
              rw [HS.out, HN.out]
              have hlow := HL.out.resolve_left (by simp)
              exact ⟨(HT.out.kept0 kq).kept hk2 (fun i _ e f => by have := HO.out.baseB e; have := hlow i f; omega), ho2, hK1.andThen hk2 (fun i hi e => by have := HO.out.baseB e; omega), Or.inr hlow⟩
            clear ho2 hk2 hK1 hb1 kq b0 b1 y0 y1
            go_wp2_with (at_builtin; refine Lib.wpList_append_run _ rfl _ _ _ _ rfl _ _ rfl rfl _ _ (hr _) ?_)
            exact ⟨⟨j + 1, hlt, by go_num, HR.out⟩, by simp [intOf]; omega⟩
        | true =>
          have HN := hid (woStep_is hq hs)
          rw [hs] at e0
          obtain ⟨e1, e2⟩ : (y.type == x.type) = true ∧ (y.value.toList == x.value.toList) = true := by simpa using e0.symm
          clear hq hs e0
          have kq := fun n => (Kept.refl (fun _ => False) (wr.alloc (.cells #[.int .i64 x.type, .string x.value] 62))).drewN n
          by_cases hc1 : cl = 1
          · subst hc1
            obtain rfl : m = [] := List.eq_nil_of_length_eq_zero (by omega)
            go_wp2
            go_quiet (fail)
            go_wp2
            refine ⟨⟨j + 1, hlt, by go_num, ?_⟩, by simp [intOf]; omega⟩
            show TagsAt _ _ _ ∧ _
            rw [HS.out, HN.out]
            exact ⟨Or.inl ⟨rfl, _, _, rfl⟩, HO.out.kept (kq _), HK.out.trans (kq _), Or.inl rfl⟩
          · go_wp2
            go_quiet (fail)
            go_wp2
            refine ⟨⟨j + 1, hlt, by go_num, ?_⟩, by simp [intOf]; omega⟩
            show TagsAt _ _ _ ∧ _
            rw [HS.out, HN.out]
            exact ⟨(HT.out.kept0 (kq _)).rest, HO.out.kept (kq _), HK.out.trans (kq _), Or.inr (fun i hi => HL.out.resolve_left (by simp) i hi)⟩
    · obtain rfl : j = r.length := by omega
      have hltz : ¬ (r.length : Int) < (r.length : Int) := by omega
      obtain ⟨hT, hO, hk, _⟩ := HI.out
      rw [List.take_length] at hO hT
      obtain ⟨pl, cl, rfl⟩ := hT.slice
      obtain ⟨p6, c6, rfl⟩ := slice_of hO
      have HO := hid hO
      clear hO HI hlt hT
      generalize (woF r l).2.length = k at *
      by_cases hk0 : k = 0
      · subst hk0
        go_wp2
        go_ret2
        exact ⟨_, by rw [HBq.out]; rfl, HO.out, hk⟩
      · have hkz : ((k : Int) == 0) = false := by
          rw [beq_eq_false_iff_ne]
          omega
        have HKK := hid (decide_eq_false hk0)
        go_wp2
        go_ret2
        exact ⟨_, by rw [HBq.out, HKK.out]; rfl, HO.out, hk⟩

set_option maxHeartbeats 1000000 in
set_option maxRecDepth 100000 in
theorem indexMust_any {base b : Nat} {a : Nm} {n : Ng} (v : Value) (l : List Tg) (w : World) (hv : TagsAt w v l) (hl : l.length ≤ 1000000) (h : NegIn w base b a n) :
    Calls Try.prog 69 #[v, .func (.func 72) #[.pointer (some ⟨b, 0, none⟩)] #[]] w fun e w' => e = .returned (.int .i64 (-1)) ∧ Kept (fun _ => False) w w' := by
  obtain ⟨p, cap, rfl⟩ := hv.slice
  have HT := hid (fun (W : World) (k : Kept (fun _ => False) w W) => hv.kept0 k)
  have HF := hid (fun (r : Tg) (W : World) (k : Kept (fun _ => False) w W) => isMust_any r W (h.kept0 k))
  clear hv h
  go_enter Try.func69, Try.ntmps69
  go_wp2
  go_loopw [5, 8] (fun _ s wr => ∃ j : Nat, j ≤ l.length ∧ s = .int .i64 (j : Int) ∧ Hid (Kept (fun _ => False) w wr)) (fun _ s _ => l.length - (intOf s).toNat)
  case atStart => exact ⟨0, Nat.zero_le _, rfl, Kept.refl _ _⟩
  case round =>
    obtain ⟨j, hj, rfl, HK⟩ := hrel
    by_cases hlt : j < l.length
    · obtain ⟨x, hx⟩ : ∃ x, l[j]? = some x := ⟨l[j], by simp [hlt]⟩
      have hltz : (j : Int) < (l.length : Int) := by omega
      obtain ⟨g, of, rfl, hcap, c0, c1⟩ := (HT.out wr HK.out).at hx
      have Hc := hid (HF.out x wr HK.out)
      clear hx
      go_wp2_with fail
      refine Hc.out.mono ?_
      rintro e w2 ⟨rfl, hk2⟩
      have HK2 := hid (HK.out.trans hk2)
      clear hk2 c0 c1 Hc
      go_wp2
      exact ⟨⟨j + 1, hlt, by go_num, HK2.out⟩, by simp [intOf]; omega⟩
    · obtain rfl : j = l.length := by omega
      have hltz : ¬ (l.length : Int) < (l.length : Int) := by omega
      go_wp2
      go_ret
      exact ⟨rfl, HK.out⟩

set_option maxHeartbeats 1000000 in
set_option maxRecDepth 100000 in
theorem hasMust_any {base b : Nat} {a : Nm} {n : Ng} (v : Value) (l : List Tg) (w : World) (hv : TagsAt w v l) (hl : l.length ≤ 1000000) (h : NegIn w base b a n) :
    Calls Try.prog 75 #[v, .func (.func 72) #[.pointer (some ⟨b, 0, none⟩)] #[]] w fun e w' => e = .returned (.bool false) ∧ Kept (fun _ => False) w w' := by
  have HE := hid (indexMust_any v l w hv hl h)
  obtain ⟨p, cap, rfl⟩ := hv.slice
  clear hv h
  go_enter Try.func75, Try.ntmps75
  go_wp2_with fail
  refine HE.out.mono ?_
  rintro e w' ⟨rfl, hk⟩
  go_wp2
  go_ret
  exact ⟨rfl, hk⟩

set_option maxHeartbeats 4000000 in
set_option maxRecDepth 100000 in
theorem takeRej_any {base b : Nat} {a : Nm} {n : Ng} (p : Pk0) (v : Value) (w : World) (h : NegIn w base b a n) (hp : PkIn w b a p v) :
    Calls Try.prog 54 #[.pointer (some ⟨b, 0, none⟩), pkV p.code p.id v p.data] w fun e w' => ∃ vo, e = .returned vo ∧ Sent w w' base b a (rejN n p) vo := by
  unfold pkV
  obtain ⟨pv, cv, hv⟩ := hp.at_.1.slice
  have hk0 := (Kept.refl (fun _ => False) w).alloc (.cells #[.int .i64 p.code, .int .i64 p.id, v, .string p.data] 24)
  have O0 := hid (own4_new w 24 (.int .i64 p.code) (.int .i64 p.id) v (.string p.data))
  have hA := h.kept0 hk0
  have hPA := hp.kept0 hk0
  have hbase : base ≤ w.heap.size := by have := h.lo; have := h.lt; omega
  have B0 := PkBlk.new w #[.int .i64 p.code, .int .i64 p.id, v, .string p.data]
  generalize hAe : w.alloc (.cells #[.int .i64 p.code, .int .i64 p.id, v, .string p.data] 24) = A at *
  have HAe := hid hAe
  have d1 := hA.n1
  obtain ⟨⟨q0, q1, q2, q3⟩, _⟩ := O0.out
  have kd := (Kept.refl (fun _ => False) A).drew
  have HJ := hid (without_any a.vr v n.req p.opts A.drew (hA.kept0 kd).req.tags (hPA.kept0 kd).at_.1 hA.good.req.1)
  have HN := hid hA
  have HP := hid hPA
  have HK0 := hid hk0
  have HB0 := hid B0
  obtain ⟨pr, cr, hvr⟩ := slice_of hA.req
  rw [hvr] at HJ d1
  subst hv
  unfold rejN
  obtain ⟨R, hR⟩ : ∃ R, R = (if (woF n.req p.opts).2.length = 0 then happenF ⟨p, pk00⟩ { n with req := (woF n.req p.opts).1 } 9 else (n, [])) := ⟨_, rfl⟩
  rw [← hR]
  have HR := hid hR
  have HFi := hid (wo_fine (l := p.opts) hA.good.req)
  have hAs : A.drew.heap.size = A.heap.size := rfl
  clear hAe h hp hk0 hA hPA kd hR B0
  by_cases hz : (woF n.req p.opts).2.length = 0
  · rw [decide_eq_true hz] at HJ
    rw [if_pos hz] at HR
    clear hz
    go_enter Try.func54, Try.ntmps54
    go_upto_region 1 with fail
    rw [HAe.out]
    clear HAe
    go_wp2_with fail
    go_region_with (first | (go_at_call 74; refine HJ.out.mono ?_; rintro e w1 ⟨z, rfl, hoz, hk1⟩; have K1 := hid (((Kept.refl (fun _ => False) A).drew).trans hk1); have HZ := hid hoz; obtain ⟨pz, cz, rfl⟩ := slice_of hoz; clear hk1 hoz))
    all_goals
      clear q0 q1 q2 q3
      obtain ⟨⟨q0, q1, q2, q3⟩, _⟩ := O0.out.kept K1.out
      have N1 := hid (NNext.of0 HN.out K1.out)
      have P1 := hid (HP.out.kept0 K1.out)
      have HC := hid (hasMust_any _ p.opts w1 P1.out.at_.1 (by have := P1.out.fine.1; omega) N1.out.neg)
      clear d1 HJ
      go_wp2_with fail
      refine HC.out.mono ?_
      rintro e w2 ⟨rfl, hk2⟩
      have NA := N1.out.neg.kept0 hk2
      have e1 := NA.n1
      have f1 := NA.fz 1
      have hs1 := K1.out.size
      have hs0 := HK0.out.size
      have hoz2 := (HZ.out.kept hk2)
      have hlowA : ∀ i, a.vm.ownBlock = some i ∨ a.vt.ownBlock = some i → i < A.heap.size := fun i hi => by
        rcases hi with hi | hi
        · obtain ⟨cur, hc⟩ := HN.out.mine.cellsB hi
          exact (Array.getElem?_eq_some_iff.1 hc).1
        · obtain ⟨cur, hc⟩ := HN.out.theirs.cellsB hi
          exact (Array.getElem?_eq_some_iff.1 hc).1
      have NM := NA.setReq (W0 := A) (hoz2.mono (by omega)) HFi.out (fun i hi u hu e => by
        have h1 : A.heap.size ≤ i := HZ.out.baseB hi
        have h2 : i < A.heap.size := hlowA i (by rcases hu with rfl | rfl; exact Or.inl e; exact Or.inr e)
        omega) (fun i hi => Or.inr (HZ.out.baseB hi)) ((K1.out.trans hk2).mono (T := Sn b a) (fun _ _ h => h.elim))
      have NT := hid (NNext.before0 HK0.out NM)
      have P3 := hid (HP.out.step NM)
      have O3 := hid (((O0.out.kept K1.out).kept hk2).keptS (kept_cell w2 b 1 (.slice pz (woF n.req p.opts).1.length cz)) (fun e => (HN.out.not_pk HB0.out).1 e))
      clear hk2 NA NM HC hoz2 hlowA
      go_upto_region 7 with fail
      generalize w2.setCell ⟨b, 1, none⟩ (.slice pz (woF n.req p.opts).1.length cz) = w3 at *
      clear e1 f1 q0 q1 q2 q3
      obtain ⟨⟨q0, q1, q2, q3⟩, _⟩ := O3.out
      have HH := hid (happen_any ⟨p, pk00⟩ (.slice pv p.opts.length cv) (.slice none 0 0) 9 ⟨by decide, by decide⟩ w3 NT.out.neg P3.out.cz)
      unfold czV pk00 at HH
      simp only at HH
      go_wp2_with fail
      refine HH.out.mono ?_
      rintro e w4 ⟨vo, rfl, vt, l, w5, N5, U⟩
      have HS := hid (Sent.of (NT.out.trans N5) U (fun i hi => by cases hi))
      obtain ⟨po, co, rfl⟩ := slice_of U.out.row
      clear U N5
      go_wp2
      go_ret
      exact ⟨_, rfl, by rw [HR.out]; exact HS.out⟩
  · rw [decide_eq_false hz] at HJ
    rw [if_neg hz] at HR
    clear hz
    go_enter Try.func54, Try.ntmps54
    go_upto_region 1 with fail
    rw [HAe.out]
    clear HAe
    go_wp2_with fail
    go_region_with (first | (go_at_call 74; refine HJ.out.mono ?_; rintro e w1 ⟨z, rfl, hoz, hk1⟩; have K1 := hid (((Kept.refl (fun _ => False) A).drew).trans hk1); obtain ⟨pz, cz, rfl⟩ := slice_of hoz; clear hk1 hoz))
    all_goals
      go_wp2
      go_ret
      exact ⟨_, rfl, by rw [HR.out]; exact Sent.none (NNext.before0 HK0.out (NNext.of0 HN.out K1.out))⟩
end Go.Proofs.Ytodgkmjiiijfpaa

namespace Go.Proofs.Ytodgkmjiiijfpaa
open Go.RowKit

set_option maxHeartbeats 2000000 in
set_option maxRecDepth 100000 in
theorem takeAnswer_4 {base b : Nat} {a : Nm} {n : Ng} (p : Pk0) (v : Value) (w : World) (h : NegIn w base b a n) (hp : PkIn w b a p v) (hc : p.code = 4) :
    Calls Try.prog 31 #[.pointer (some ⟨b, 0, none⟩), pkV p.code p.id v p.data] w fun e w' => ∃ vo, e = .returned vo ∧ Sent w w' base b a (rejN n p) vo := by
  unfold pkV
  obtain ⟨pv, cv, hv⟩ := hp.at_.1.slice
  have T := TakeA.of h hp
  generalize hAe : w.alloc (.cells #[.int .i64 p.code, .int .i64 p.id, v, .string p.data] 24) = A at *
  have HAe := hid hAe
  obtain ⟨⟨q0, q1, q2, q3⟩, _⟩ := T.own
  have HH := hid (takeRej_any p v A T.neg T.pk)
  unfold pkV at HH
  rw [hc] at HH q0
  rw [hc] at hAe HAe ⊢
  have HT := hid T
  subst hv
  clear hAe h hp T hc
  go_enter Try.func31, Try.ntmps31
  go_upto_region 1 with fail
  rw [HAe.out]
  clear HAe
  go_wp2_with fail
  refine HH.out.mono ?_
  rintro e w4 ⟨vo, rfl, HS0⟩
  have HS := hid (HS0.before0 HT.out.k)
  obtain ⟨po, co, rfl⟩ := HS0.slice
  clear HS0
  go_wp2
  go_ret
  exact ⟨_, rfl, HS.out⟩

theorem answer_any {base b : Nat} {a : Nm} {n : Ng} (p : Pk0) (v : Value) (w : World) (h : NegIn w base b a n) (hp : PkIn w b a p v) (hc : p.code = 2 ∨ p.code = 3 ∨ p.code = 4) :
    Calls Try.prog 31 #[.pointer (some ⟨b, 0, none⟩), pkV p.code p.id v p.data] w fun e w' => ∃ vo, e = .returned vo ∧ Sent w w' base b a (ansN n p) vo := by
  rcases hc with hc | hc | hc
  · have e : ansN n p = ackN n p := by unfold ansN; rw [if_pos hc]
    rw [e]
    exact takeAnswer_2 p v w h hp hc
  · have e : ansN n p = happenF ⟨p, pk00⟩ (p.opts.foldl chN n) 9 := by unfold ansN; rw [if_neg (by omega), if_pos hc]
    rw [e]
    exact takeAnswer_3 p v w h hp hc chN (fun _ => True) trivial (fun _ _ _ _ => trivial) (fun W a1 m o ho _ hm => change_any o W hm (hp.fine.2.1 o ho) (hp.fine.2.2 o ho))
  · have e : ansN n p = rejN n p := by unfold ansN; rw [if_neg (by omega), if_neg (by omega)]
    rw [e]
    exact takeAnswer_4 p v w h hp hc

theorem take_any {base b : Nat} {a : Nm} {n : Ng} (p : Pk0) (v : Value) (w : World) (h : NegIn w base b a n) (hp : PkIn w b a p v) (hsr : ShortR n.peer) :
    Calls Try.prog 12 #[.pointer (some ⟨b, 0, none⟩), pkV p.code p.id v p.data] w fun e w' => ∃ vo, e = .returned vo ∧ Sent w w' base b a (takeN n p) vo := by
  unfold takeN takeF
  by_cases h1 : p.code = 1
  · rw [if_pos h1]
    exact take_req p v w h hp h1 hsr
  rw [if_neg h1]
  by_cases h2 : p.code = 2
  · rw [if_pos (Or.inl h2)]
    by_cases hb : n.begun = true
    · by_cases hi : p.id = n.last
      · rw [if_pos ⟨hb, hi⟩]
        exact take_ans2 p v w h hp h2 hb hi _ (fun W hW hpW => answer_any p v W hW hpW (Or.inl h2))
      · rw [if_neg (fun q => hi q.2)]
        exact take_not2 p v w h hp h2 hb hi
    · rw [if_neg (fun q => hb q.1)]
      exact take_not2b p v w h hp h2 (by simpa using hb)
  by_cases h3 : p.code = 3
  · rw [if_pos (Or.inr (Or.inl h3))]
    by_cases hb : n.begun = true
    · by_cases hi : p.id = n.last
      · rw [if_pos ⟨hb, hi⟩]
        exact take_ans3 p v w h hp h3 hb hi _ (fun W hW hpW => answer_any p v W hW hpW (Or.inr (Or.inl h3)))
      · rw [if_neg (fun q => hi q.2)]
        exact take_not3 p v w h hp h3 hb hi
    · rw [if_neg (fun q => hb q.1)]
      exact take_not3b p v w h hp h3 (by simpa using hb)
  by_cases h4 : p.code = 4
  · rw [if_pos (Or.inr (Or.inr h4))]
    by_cases hb : n.begun = true
    · by_cases hi : p.id = n.last
      · rw [if_pos ⟨hb, hi⟩]
        exact take_ans4 p v w h hp h4 hb hi _ (fun W hW hpW => answer_any p v W hW hpW (Or.inr (Or.inr h4)))
      · rw [if_neg (fun q => hi q.2)]
        exact take_not4 p v w h hp h4 hb hi
    · rw [if_neg (fun q => hb q.1)]
      exact take_not4b p v w h hp h4 (by simpa using hb)
  rw [if_neg (by omega)]
  by_cases h5 : p.code = 5
  · rw [if_pos h5]
    exact take_5 p v w h hp h5
  rw [if_neg h5]
  by_cases h6 : p.code = 6
  · rw [if_pos h6]
    exact take_6 p v w h hp h6
  rw [if_neg h6]
  by_cases h7 : p.code = 7
  · rw [if_pos h7]
    exact take_7 p v w h hp h7
  rw [if_neg h7]
  exact take_else p v w h hp h1 h2 h3 h4 h5 h6 h7
end Go.Proofs.Ytodgkmjiiijfpaa

namespace Go.Proofs.Ytodgkmjiiijfpaa
open Go.RowKit

/-- All blocks of a negotiation that bear its cells and lists. -/
def An (b : Nat) (a : Nm) (i : Nat) : Prop := Sn b a i ∨ a.vm.ownBlock = some i ∨ a.vt.ownBlock = some i

section
variable {W W' w : World} {base b bx bz : Nat} {a a' ax ax' az az' : Nm} {n n' x x' z z' : Ng}
theorem NegIn.an_lt (h : NegIn W base b a n) : ∀ i, An b a i → i < W.heap.size := by
  rintro i (hi | hi | hi)
  · exact h.sn_lt i hi
  · obtain ⟨cur, hc⟩ := h.mine.cellsB hi
    exact (Array.getElem?_eq_some_iff.1 hc).1
  · obtain ⟨cur, hc⟩ := h.theirs.cellsB hi
    exact (Array.getElem?_eq_some_iff.1 hc).1
theorem NNext.an (h : NNext W W' base b a a' n') : ∀ i, An b a' i → An b a i ∨ W.heap.size ≤ i := by
  rintro i (hi | hi | hi)
  · exact (h.sn i hi).imp Or.inl id
  · exact (h.fm i hi).imp (fun e => Or.inr (Or.inl e)) id
  · exact (h.ft i hi).imp (fun e => Or.inr (Or.inr e)) id
theorem NegIn.keptA {S : Nat → Prop} (h : NegIn W base b a n) (hk : Kept S W W') (hc : ∀ i, S i → i < W.heap.size → ∃ cur e fz, W.heap[i]? = some (.cells cur e fz)) (hS : ∀ i, S i → ¬ An b a i) : NegIn W' base b a n :=
  h.keptS hk hc (fun s => hS _ s (Or.inl (Or.inl rfl))) (fun s => hS _ s (Or.inl (Or.inr (Or.inl rfl)))) (fun i hi s => hS i s (Or.inl (Or.inr (Or.inr hi)))) (fun i hi s => hS i s (Or.inr (Or.inl hi))) (fun i hi s => hS i s (Or.inr (Or.inr hi)))
/-- A block of packets is none of a negotiation's. -/
theorem NegIn.an_pk (h : NegIn W base b a n) {i : Nat} (hp : PkBlk W i) : ¬ An b a i := by
  obtain ⟨_, _, h3⟩ := h.not_pk hp
  rintro (hi | hi | hi)
  · exact pk_far h hp hi
  · exact h3 _ _ h.mine hi
  · exact h3 _ _ h.theirs hi

/-- Two negotiations side by side, a law's own. -/
structure Pair (w W : World) (bx : Nat) (ax : Nm) (x : Ng) (bz : Nat) (az : Nm) (z : Ng) : Prop where
  nx : NegIn W w.heap.size bx ax x
  nz : NegIn W w.heap.size bz az z
  fx : ∀ i, Sn bx ax i → ¬ An bz az i
  fz : ∀ i, Sn bz az i → ¬ An bx ax i
  kept : Kept (fun _ => False) w W

theorem Pair.swap (h : Pair w W bx ax x bz az z) : Pair w W bz az z bx ax x := ⟨h.nz, h.nx, h.fz, h.fx, h.kept⟩
theorem Pair.left (h : Pair w W bx ax x bz az z) (k : NNext W W' w.heap.size bx ax ax' x') : Pair w W' bx ax' x' bz az z := by
  refine ⟨k.neg, h.nz.keptA k.kept h.nx.sn_cells h.fx, fun i s t => ?_, fun i s t => ?_, h.kept.andThen k.kept (fun i hi s => by have := h.nx.sn_lo i s; omega)⟩
  · rcases k.sn i s with h1 | h1
    · exact h.fx i h1 t
    · have := h.nz.an_lt i t
      omega
  · rcases k.an i t with h1 | h1
    · exact h.fz i s h1
    · have := h.nz.sn_lt i s
      omega
theorem Pair.right (h : Pair w W bx ax x bz az z) (k : NNext W W' w.heap.size bz az az' z') : Pair w W' bx ax x bz az' z' := (h.swap.left k).swap
theorem Pair.still (h : Pair w W bx ax x bz az z) (hk : Kept (fun _ => False) W W') : Pair w W' bx ax x bz az z := ⟨h.nx.kept0 hk, h.nz.kept0 hk, h.fx, h.fz, h.kept.trans hk⟩
/-- Where blocks of packets turn. -/
theorem Pair.keptR {S : Nat → Prop} (h : Pair w W bx ax x bz az z) (hk : Kept S W W') (hS : ∀ i, S i → PkBlk W i ∧ w.heap.size ≤ i) : Pair w W' bx ax x bz az z := by
  have hc : ∀ i, S i → i < W.heap.size → ∃ cur e fz, W.heap[i]? = some (.cells cur e fz) := fun i s _ => by
    obtain ⟨cur, hc⟩ := (hS i s).1
    exact ⟨_, _, _, hc⟩
  exact ⟨h.nx.keptA hk hc (fun i s => h.nx.an_pk (hS i s).1), h.nz.keptA hk hc (fun i s => h.nz.an_pk (hS i s).1), h.fx, h.fz, h.kept.andThen hk (fun i hi s => by have := (hS i s).2; omega)⟩
/-- A second one, made behind the first. -/
theorem Pair.made {B : Nat} (h : NMine w W bx ax x) (hz : NegIn W' B bz az z) (hB : W.heap.size ≤ B) (hza : ∀ i, An bz az i → B ≤ i) (hk : Kept (fun _ => False) W W') : Pair w W' bx ax x bz az z := by
  have hx := h.neg.kept0 hk
  have hs := h.kept.size
  refine ⟨hx, hz.lower (by omega), fun i s t => ?_, fun i s t => ?_, h.kept.trans hk⟩
  · have h1 := h.neg.sn_lt i s
    have h2 := hza i t
    omega
  · have h1 := h.neg.an_lt i t
    have h2 := hza i (Or.inl s)
    omega
theorem NegIn.an_lo (h : NegIn W base b a n) : ∀ i, An b a i → base ≤ i := by
  rintro i (hi | hi | hi)
  · exact h.sn_lo i hi
  · exact h.mine.baseB hi
  · exact h.theirs.baseB hi

/-- A list of packets of a law's own, apart from what T says. -/
structure Pks (W : World) (base : Nat) (T : Nat → Prop) (v : Value) (l : List (Pk0 × Value)) : Prop where
  row : W.ownsRow base 24 4 v l.length (rowP l)
  opts : ∀ q ∈ l, OwnO W base q.2 q.1.opts
  far : ∀ q ∈ l, ∀ i, q.2.ownBlock = some i → ¬ T i
def Tp (bx : Nat) (ax : Nm) (bz : Nat) (az : Nm) (i : Nat) : Prop := Sn bx ax i ∨ Sn bz az i

variable {T T' : Nat → Prop} {v : Value} {l : List (Pk0 × Value)}
theorem Pks.blk (h : Pks W base T v l) {i : Nat} (hi : v.ownBlock = some i) : PkBlk W i ∧ base ≤ i := row_blk h.row hi
theorem Pks.nil (W : World) (base : Nat) (T : Nat → Prop) : Pks W base T (.slice none 0 0) [] := ⟨World.ownsRow_nil _ _ _ _, fun _ hq => absurd hq List.not_mem_nil, fun _ hq => absurd hq List.not_mem_nil⟩
theorem Pks.lower {B : Nat} (h : Pks W base T v l) (hB : B ≤ base) : Pks W B T v l := ⟨row_rebase h.row hB, fun q hq => (h.opts q hq).mono hB, h.far⟩
theorem Pks.still (h : Pks W base T v l) (hk : Kept (fun _ => False) W W') : Pks W' base T v l := ⟨row_kept h.row hk (fun _ _ => id), fun q hq => (h.opts q hq).kept hk, h.far⟩
theorem Pks.lt (h : Pks W base T v l) {q : Pk0 × Value} (hq : q ∈ l) {i : Nat} (hi : q.2.ownBlock = some i) : i < W.heap.size := by
  obtain ⟨cur, hc⟩ := (h.opts q hq).cellsB hi
  exact (Array.getElem?_eq_some_iff.1 hc).1
/-- Where blocks of packets turn that are not its own. -/
theorem Pks.keptR {S : Nat → Prop} (h : Pks W base T v l) (hk : Kept S W W') (hS : ∀ i, S i → PkBlk W i) (hne : ∀ i, v.ownBlock = some i → ¬ S i) : Pks W' base T v l := by
  refine ⟨row_kept h.row hk hne, fun q hq => (h.opts q hq).keptS hk (fun i hi s => ?_), h.far⟩
  obtain ⟨cur, hc⟩ := (h.opts q hq).cellsB hi
  obtain ⟨cur', hc'⟩ := hS i s
  rw [hc] at hc'
  simp at hc'
/-- Where the one negotiation goes on. -/
theorem Pks.left (h : Pks W base (Tp bx ax bz az) v l) (hp : Pair w W bx ax x bz az z) (k : NNext W W' w.heap.size bx ax ax' x') : Pks W' base (Tp bx ax' bz az) v l := by
  refine ⟨row_kept h.row k.kept (fun i hi s => pk_far hp.nx (h.blk hi).1 s), fun q hq => (h.opts q hq).keptS k.kept (fun i hi s => h.far q hq i hi (Or.inl s)), fun q hq i hi t => ?_⟩
  rcases t with t | t
  · rcases k.sn i t with h1 | h1
    · exact h.far q hq i hi (Or.inl h1)
    · have := h.lt hq hi
      omega
  · exact h.far q hq i hi (Or.inr t)
theorem Pks.swap (h : Pks W base (Tp bx ax bz az) v l) : Pks W base (Tp bz az bx ax) v l := ⟨h.row, h.opts, fun q hq i hi t => h.far q hq i hi t.symm⟩
theorem Pks.right (h : Pks W base (Tp bx ax bz az) v l) (hp : Pair w W bx ax x bz az z) (k : NNext W W' w.heap.size bz az az' z') : Pks W' base (Tp bx ax bz az') v l := (h.swap.left hp.swap k).swap
/-- What the one of them has sent. -/
theorem Pair.sentL (hp : Pair w W bx ax x bz az z) {s : Ng × List Pk0} (h : Sent W W' w.heap.size bx ax s v) : ∃ ax' l, NNext W W' w.heap.size bx ax ax' s.1 ∧ Pks W' W.heap.size (Tp bx ax' bz az) v l ∧ l.map (·.1) = s.2 := by
  obtain ⟨a', l, hs, e⟩ := h
  refine ⟨a', l, hs.nx, ⟨hs.row, hs.opts, fun q hq i hi t => ?_⟩, e⟩
  rcases t with t | t
  · exact hs.far q hq i hi t
  · have h1 := hp.nz.sn_lt i t
    have h2 := (hs.opts q hq).baseB hi
    omega
theorem Pair.sentR (hp : Pair w W bx ax x bz az z) {s : Ng × List Pk0} (h : Sent W W' w.heap.size bz az s v) : ∃ az' l, NNext W W' w.heap.size bz az az' s.1 ∧ Pks W' W.heap.size (Tp bx ax bz az') v l ∧ l.map (·.1) = s.2 := by
  obtain ⟨a', l, h1, h2, h3⟩ := hp.swap.sentL h
  exact ⟨a', l, h1, h2.swap, h3⟩
/-- A packet of the list, as it is taken. -/
theorem Pks.at {p : Option Addr} {m cap j : Nat} (h : Pks W base T (.slice p m cap) l) {q : Pk0 × Value} (hj : l[j]? = some q) :
    ∃ g, p = some ⟨g, 0, none⟩ ∧ l.length ≤ cap ∧ W.cell? ⟨g, j * 4, none⟩ = some (.int .i64 q.1.code) ∧ W.cell? ⟨g, j * 4 + 1, none⟩ = some (.int .i64 q.1.id) ∧ W.cell? ⟨g, j * 4 + 2, none⟩ = some q.2 ∧ W.cell? ⟨g, j * 4 + 3, none⟩ = some (.string q.1.data) := by
  rcases h.row.2 with ⟨e, h0⟩ | ⟨g, cap', cur, e, hb, hg, h1, h2, h3, h4⟩
  · have := (List.getElem?_eq_some_iff.1 hj).1
    omega
  · simp only [Value.slice.injEq] at e
    obtain ⟨rfl, rfl, rfl⟩ := e
    have hlt := (List.getElem?_eq_some_iff.1 hj).1
    have hc : ∀ i, i < 4 → W.cell? ⟨g, j * 4 + i, none⟩ = (pkCells q)[i]? := fun i hi => by
      rw [← rowP_get hj i hi, ← h4, List.getElem?_take_of_lt (by omega)]
      simp [World.cell?, hg]
    exact ⟨g, rfl, h1, hc 0 (by omega), hc 1 (by omega), hc 2 (by omega), hc 3 (by omega)⟩
theorem Pks.slice (h : Pks W base T v l) : ∃ p cap, v = .slice p l.length cap := slice_of h.row
theorem Pks.pk (h : Pks W base T v l) {q : Pk0 × Value} (hq : q ∈ l) (hT : ∀ i, Sn b a i → T i) (hf : FineO q.1.opts) (hd : q.1.data.size ≤ 140737488351232) : PkIn W b a q.1 q.2 :=
  ⟨(h.opts q hq).at, Or.inr (fun i hi s => h.far q hq i hi (hT i s)), hf, hd⟩
theorem rowP_oneCell (h : ∀ q ∈ l, OwnO W base q.2 q.1.opts) : ∀ u ∈ rowP l, u.oneCell' = true := by
  intro u hu
  unfold rowP at hu
  obtain ⟨q, hq, hx⟩ := List.mem_flatMap.1 hu
  obtain ⟨pu, cu, e⟩ := slice_of (h q hq)
  simp only [pkCells, List.mem_cons, List.not_mem_nil, or_false] at hx
  rcases hx with rfl | rfl | rfl | rfl
  · rfl
  · rfl
  · rw [e]; rfl
  · rfl
/-- 'append' of one list onto another; what turns is the one's own row. -/
theorem Pks.app {B : Nat} {u : Value} {m : List (Pk0 × Value)} (h : Pks W base T v l) (hu : Pks W B T u m) (hB : base ≤ B) (hbs : base ≤ W.heap.size) (hn : l.length + m.length ≤ 1000) :
    ∃ v' W', AppP W v u v' W' ∧ Pks W' base T v' (l ++ m) ∧ Kept (fun i => v.ownBlock = some i) W W' := by
  obtain ⟨i0, hi0, hz0, hz1, hz2⟩ := info_parts infoPk
  obtain ⟨pu, cu, rfl⟩ := hu.slice
  by_cases hm : m = []
  · subst hm
    have hsrc : ∀ (q : Option Addr) (c : Nat), Src Try.prog i0.size 36 (.slice q 0 c) 0 [] W := fun q c => by
      cases q with
      | none => exact Src.ofNil W Try.underlying36 c
      | some a => exact Src.ofSlice W Try.underlying36 a 0 c [] (by simp) (fun j u hj => by simp at hj) (fun u hu => by simp at hu)
    refine ⟨v, W, fun ty => ?_, by rw [List.append_nil]; exact h, Kept.refl _ _⟩
    rcases h.row.2 with ⟨rfl, _⟩ | ⟨g', cap', cur, rfl, _, _, h1, _⟩
    · exact run_append_nothing W _ _ _ _ i0 Try.underlying36 hi0 none 0 0 (Nat.le_refl _) _ (hsrc _ _)
    · exact run_append_nothing W _ _ _ _ i0 Try.underlying36 hi0 _ _ _ h1 _ (hsrc _ _)
  · have hpos : 0 < m.length := List.length_pos_iff.2 hm
    rcases hu.row.2 with ⟨e, h0⟩ | ⟨g, cap', cur, e, hb, hg, h1, h2, h3, h4⟩
    · omega
    · simp only [Value.slice.injEq] at e
      obtain ⟨rfl, _, rfl⟩ := e
      have hc : ∀ (j : Nat) (x : Value), (rowP m)[j]? = some x → W.cell? ((⟨g, 0, none⟩ : Addr).add j) = some x := fun j x hj => by
        have hlt := (List.getElem?_eq_some_iff.1 hj).1
        rw [rowP_length] at hlt
        rw [add_none, Nat.zero_add, ← hj, ← h4, List.getElem?_take_of_lt hlt]
        simp [World.cell?, hg]
      obtain ⟨v', W', r1, r2, r3⟩ := owned_append (P := Try.prog) Try.underlying36 hi0 hz0 hz1 hz2 rfl (by decide) h.row hbs ⟨g, 0, none⟩ m.length cu (rowP m) hpos (rowP_length _) hc (rowP_oneCell hu.opts) (by omega) (by decide)
      have hk : Kept (fun i => v.ownBlock = some i) W W' := by
        rcases r3 with ⟨g', cap', rfl, rfl, hk⟩ | ⟨cap', rfl, hk, _⟩
        · exact hk.mono (fun i _ e => by rw [e]; rfl)
        · exact hk.mono (fun i _ e => e.elim)
      refine ⟨v', W', r1, ⟨?_, fun q hq => ?_, fun q hq => ?_⟩, hk⟩
      · rw [rowP_append, List.length_append]
        exact r2
      · have hne : ∀ {B' : Nat}, OwnO W B' q.2 q.1.opts → OwnO W' B' q.2 q.1.opts := fun {B'} ho => ho.keptS hk (fun i hi s => by
          obtain ⟨cur1, c1⟩ := ho.cellsB hi
          obtain ⟨cur2, c2⟩ := (h.blk s).1
          rw [c1] at c2
          simp at c2)
        rcases List.mem_append.1 hq with hq | hq
        · exact hne (h.opts q hq)
        · exact (hne (hu.opts q hq)).mono hB
      · rcases List.mem_append.1 hq with hq | hq
        · exact h.far q hq
        · exact hu.far q hq
end
end Go.Proofs.Ytodgkmjiiijfpaa

namespace Go.Proofs.Ytodgkmjiiijfpaa
open Go.RowKit

/-- The last request among packets. -/
def scanP (s : Int × List Tg) (q : Pk0) : Int × List Tg := if q.code = 1 then (q.id, q.opts) else s
def scanL (s : Int × List Tg) (l : List Pk0) : Int × List Tg := l.foldl scanP s
theorem scanL_append (s : Int × List Tg) (l m : List Pk0) : scanL s (l ++ m) = scanL (scanL s l) m := List.foldl_append
theorem scanL_one (s : Int × List Tg) (q : Pk0) : scanL s [q] = scanP s q := rfl

def Tied (n : Ng) (t : Int × List Tg) : Prop := n.begun = true ∧ n.last = t.1 ∧ n.req = t.2
def Right (l : List Tg) : Prop := ∀ x ∈ l, x.type = 1 ∧ fitsF rule1 x.value = true
structure Acks (n : Ng) (t : Int × List Tg) : Prop where
  own : n.own = [rule1]
  peer : n.peer = [rule1]
  ticks : n.ticks < n.wait
  wait : 1 ≤ n.wait
  theirs : Right n.theirs
  st : 0 ≤ n.au.st ∧ n.au.st ≤ 9
  last : 6 ≤ n.au.st → Tied n t

/-- What stays while actions are done. -/
structure Run (c : Cz) (n : Ng) (t : Int × List Tg) (s : Ng × List Pk0) : Prop where
  own : s.1.own = n.own
  peer : s.1.peer = n.peer
  au : s.1.au = n.au
  wait : s.1.wait = n.wait
  ticks : n.ticks < n.wait → s.1.ticks < s.1.wait
  acks : ∀ q ∈ s.2, q.code = 2 → q = c.ans
theorem refuse_parts (n : Ng) (c : Cz) : (refuseF n c).1.own = n.own ∧ (refuseF n c).1.peer = n.peer ∧ (refuseF n c).1.au = n.au ∧ (refuseF n c).1.wait = n.wait ∧ (refuseF n c).1.ticks = n.ticks ∧ (refuseF n c).1.req = n.req ∧ (refuseF n c).1.last = n.last ∧ (refuseF n c).1.begun = n.begun ∧ (refuseF n c).1.theirs = n.theirs ∧ ((refuseF n c).2 = c.ans ∨ (refuseF n c).2.code = 4) := by
  unfold refuseF
  split
  · exact ⟨rfl, rfl, rfl, rfl, rfl, rfl, rfl, rfl, rfl, Or.inl rfl⟩
  · split
    · exact ⟨rfl, rfl, rfl, rfl, rfl, rfl, rfl, rfl, rfl, Or.inl rfl⟩
    · exact ⟨rfl, rfl, rfl, rfl, rfl, rfl, rfl, rfl, rfl, Or.inr rfl⟩
theorem tally_parts (n : Ng) (x : Int) : (tallyF n x).own = n.own ∧ (tallyF n x).peer = n.peer ∧ (tallyF n x).au = n.au ∧ (tallyF n x).wait = n.wait ∧ (tallyF n x).ticks = n.ticks ∧ (tallyF n x).req = n.req ∧ (tallyF n x).last = n.last ∧ (tallyF n x).begun = n.begun ∧ (tallyF n x).theirs = n.theirs := by
  unfold tallyF
  split
  · exact ⟨rfl, rfl, rfl, rfl, rfl, rfl, rfl, rfl, rfl⟩
  · split <;> exact ⟨rfl, rfl, rfl, rfl, rfl, rfl, rfl, rfl, rfl⟩
/-- What one action does. -/
structure Once (c : Cz) (x : Int) (n : Ng) (s : Ng × List Pk0) : Prop where
  own : s.1.own = n.own
  peer : s.1.peer = n.peer
  au : s.1.au = n.au
  wait : s.1.wait = n.wait
  ticks : s.1.ticks = n.ticks ∨ s.1.ticks = 0
  req : s.1.req = n.req
  acks : ∀ q ∈ s.2, q.code = 2 → q = c.ans
  theirs : s.1.theirs = n.theirs ∨ (x = 7 ∧ s.1.theirs = c.ans.opts)
  tied : c.ans.code ≠ 1 → ∀ t, (Tied n t ∨ x = 6) → Tied s.1 (scanL t s.2)
theorem send_once (c : Cz) (n : Ng) (x : Int) : Once c x n (sendF c n x) := by
  unfold sendF
  split
  · refine ⟨rfl, rfl, rfl, rfl, Or.inr rfl, rfl, fun q hq h2 => ?_, Or.inl rfl, fun _ t _ => ⟨rfl, rfl, rfl⟩⟩
    rw [List.mem_singleton.1 hq] at h2
    simp at h2
  · rename_i h6
    have hx6 : ∀ {t : Int × List Tg}, (Tied n t ∨ x = 6) → Tied n t := fun h => h.resolve_right h6
    split
    · rename_i h7
      refine ⟨rfl, rfl, rfl, rfl, Or.inl rfl, rfl, fun q hq _ => List.mem_singleton.1 hq, Or.inr ⟨h7, rfl⟩, fun hc t h => ?_⟩
      rw [scanL_one, scanP, if_neg hc]
      exact hx6 h
    · split
      · obtain ⟨e1, e2, e3, e4, e5, e6, e7, e8, e9, e10⟩ := refuse_parts n c
        refine ⟨e1, e2, e3, e4, Or.inl e5, e6, fun q hq h2 => ?_, Or.inl e9, fun hc t h => ?_⟩
        · have hq := List.mem_singleton.1 hq
          rcases e10 with e | e
          · rw [hq, e]
          · rw [hq, e] at h2
            simp at h2
        · have hn1 : (refuseF n c).2.code ≠ 1 := by
            rcases e10 with e | e
            · rw [e]; exact hc
            · rw [e]; decide
          rw [scanL_one, scanP, if_neg hn1]
          obtain ⟨f1, f2, f3⟩ := hx6 h
          exact ⟨e8.trans f1, e7.trans f2, e6.trans f3⟩
      · split
        · refine ⟨rfl, rfl, rfl, rfl, Or.inr rfl, rfl, fun q hq h2 => ?_, Or.inl rfl, fun _ t h => hx6 h⟩
          rw [List.mem_singleton.1 hq] at h2
          simp at h2
        · split
          · refine ⟨rfl, rfl, rfl, rfl, Or.inl rfl, rfl, fun q hq h2 => ?_, Or.inl rfl, fun _ t h => hx6 h⟩
            rw [List.mem_singleton.1 hq] at h2
            simp at h2
          · split
            · refine ⟨rfl, rfl, rfl, rfl, Or.inl rfl, rfl, fun q hq h2 => ?_, Or.inl rfl, fun _ t h => hx6 h⟩
              rw [List.mem_singleton.1 hq] at h2
              simp at h2
            · exact ⟨rfl, rfl, rfl, rfl, Or.inl rfl, rfl, fun q hq => absurd hq List.not_mem_nil, Or.inl rfl, fun _ t h => hx6 h⟩
theorem act_once (c : Cz) (s : Ng × List Pk0) (x : Int) : Once c x s.1 (sendF c (tallyF s.1 x) x) := by
  obtain ⟨e1, e2, e3, e4, e5, e6, e7, e8, e9⟩ := tally_parts s.1 x
  have h := send_once c (tallyF s.1 x) x
  refine ⟨h.own.trans e1, h.peer.trans e2, h.au.trans e3, h.wait.trans e4, h.ticks.imp (fun e => e.trans e5) id, h.req.trans e6, h.acks, h.theirs.imp (fun e => e.trans e9) id, fun hc t ht => h.tied hc t (ht.imp (fun f => ?_) id)⟩
  obtain ⟨f1, f2, f3⟩ := f
  exact ⟨e8.trans f1, e7.trans f2, e6.trans f3⟩

/-- What all actions do. -/
structure Does (c : Cz) (acts : List Int) (n : Ng) (s : Ng × List Pk0) : Prop where
  own : s.1.own = n.own
  peer : s.1.peer = n.peer
  au : s.1.au = n.au
  wait : s.1.wait = n.wait
  ticks : s.1.ticks = n.ticks ∨ s.1.ticks = 0
  acks : ∀ q ∈ s.2, q.code = 2 → q = c.ans
  theirs : s.1.theirs = n.theirs ∨ (7 ∈ acts ∧ s.1.theirs = c.ans.opts)
  tied : c.ans.code ≠ 1 → ∀ t, (Tied n t ∨ 6 ∈ acts) → Tied s.1 (scanL t s.2)
theorem acts_do (c : Cz) (n : Ng) (acts : List Int) : ∀ j, j ≤ acts.length → Does c (acts.take j) n (actsF c n (acts.take j)) := by
  intro j
  induction j with
  | zero => exact fun _ => ⟨rfl, rfl, rfl, rfl, Or.inl rfl, fun q hq => by simp [actsF] at hq, Or.inl rfl, fun _ t h => by simpa [actsF, scanL] using h⟩
  | succ j ih =>
    intro hj
    have h := ih (by omega)
    obtain ⟨x, hx⟩ : ∃ x, acts[j]? = some x := ⟨acts[j], by simp [show j < acts.length from hj]⟩
    have k := act_once c (actsF c n (acts.take j)) x
    have eT : acts.take (j + 1) = acts.take j ++ [x] := by rw [List.take_add_one, hx]; rfl
    rw [actsF_take c n hx]
    unfold actF
    refine ⟨k.own.trans h.own, k.peer.trans h.peer, k.au.trans h.au, k.wait.trans h.wait, ?_, fun q hq h2 => ?_, ?_, fun hc t ht => ?_⟩
    · rcases k.ticks with e | e
      · exact h.ticks.imp (fun f => e.trans f) (fun f => e.trans f)
      · exact Or.inr e
    · rcases List.mem_append.1 hq with hq | hq
      · exact h.acks q hq h2
      · exact k.acks q hq h2
    · rcases k.theirs with e | ⟨e, f⟩
      · rcases h.theirs with g | ⟨g, g'⟩
        · exact Or.inl (e.trans g)
        · exact Or.inr ⟨by rw [eT]; exact List.mem_append_left _ g, e.trans g'⟩
      · exact Or.inr ⟨by rw [eT, e]; simp, f⟩
    · show Tied _ (scanL t (_ ++ _))
      rw [scanL_append]
      refine k.tied hc _ ?_
      rw [eT, List.mem_append, List.mem_singleton] at ht
      rcases ht with ht | ht | ht
      · exact Or.inl (h.tied hc t (Or.inl ht))
      · exact Or.inl (h.tied hc t (Or.inr ht))
      · exact Or.inr ht.symm
theorem acts_all (c : Cz) (n : Ng) (acts : List Int) : Does c acts n (actsF c n acts) := by
  have := acts_do c n acts acts.length (Nat.le_refl _)
  rw [List.take_length] at this
  exact this

/-- Of the table: who comes to ask, or to be open, has asked, or was so; whose request is refused asks anew; whose request is not right is not acked; open by an ack is who has acked. -/
theorem tab1 : allR.all (fun r => decide (r.n < 6) || r.acts.contains 6 || (decide (6 ≤ r.s) && !decide (r.e = 9))) = true := by kernel_rfl
theorem tab2 : allR.all (fun r => !(decide (r.e = 7) && r.acts.contains 7)) = true := by kernel_rfl
theorem tab3 : allR.all (fun r => !(decide (r.e = 8) && decide (r.n = 9)) || decide (8 ≤ r.s)) = true := by kernel_rfl
theorem tab4 : allR.all (fun r => decide (0 ≤ r.n) && decide (r.n ≤ 9)) = true := by kernel_rfl
theorem ask_or {s e : Int} (he : e ≠ 9) (h : 6 ≤ (nextF s e).1) : 6 ∈ (nextF s e).2 ∨ 6 ≤ s := by
  rcases nextF_is s e with f | ⟨r, hr, rfl, rfl, f⟩
  · rw [f] at h; exact Or.inr h
  · have := all_of tab1 hr
    rw [f] at h ⊢
    simp only [Bool.or_eq_true, Bool.and_eq_true, decide_eq_true_eq, List.contains_iff_mem] at this
    rcases this with (h1 | h1) | ⟨h1, _⟩
    · simp only at h; omega
    · exact Or.inl h1
    · exact Or.inr h1
theorem ask_nak {s : Int} (hs : 0 ≤ s ∧ s ≤ 9) (h : 6 ≤ (nextF s 9).1) : 6 ∈ (nextF s 9).2 := by
  rcases nextF_is s 9 with f | ⟨r, hr, rfl, h9, f⟩
  · rw [f] at h
    have hc : s = 6 ∨ s = 7 ∨ s = 8 ∨ s = 9 := by simp only at h; omega
    rcases hc with rfl | rfl | rfl | rfl <;> exact List.contains_iff_mem.1 (by kernel_rfl)
  · have := all_of tab1 hr
    rw [f] at h ⊢
    simp only [Bool.or_eq_true, Bool.and_eq_true, decide_eq_true_eq, List.contains_iff_mem] at this
    rcases this with (h1 | h1) | ⟨_, h1⟩
    · simp only at h; omega
    · exact h1
    · simp [h9] at h1
theorem no_ack {s : Int} : 7 ∉ (nextF s 7).2 := by
  rcases nextF_is s 7 with f | ⟨r, hr, rfl, h7, f⟩
  · rw [f]; simp
  · have := all_of tab2 hr
    rw [f]
    simpa [h7] using this
theorem open_by {s : Int} (h : (nextF s 8).1 = 9) : 8 ≤ s := by
  rcases nextF_is s 8 with f | ⟨r, hr, rfl, h8, f⟩
  · rw [f] at h; simp only at h; omega
  · have := all_of tab3 hr
    rw [f] at h
    simpa [h8, show r.n = 9 from h] using this
theorem st_range {s e : Int} (h : 0 ≤ s ∧ s ≤ 9) : 0 ≤ (nextF s e).1 ∧ (nextF s e).1 ≤ 9 := by
  rcases nextF_is s e with f | ⟨r, hr, rfl, _, f⟩
  · rw [f]; exact h
  · have := all_of tab4 hr
    rw [f]
    simpa using this

/-- An event, not a nak's. -/
theorem Acks.happen {n n1 : Ng} {t : Int × List Tg} (h : Acks n t) (c : Cz) (e : Int) (he : e ≠ 9) (hc : c.ans.code ≠ 1) (h7 : 7 ∈ (nextF n1.au.st e).2 → Right c.ans.opts)
    (a1 : n1.own = n.own) (a2 : n1.peer = n.peer) (a3 : n1.ticks = n.ticks) (a4 : n1.wait = n.wait) (a5 : n1.theirs = n.theirs) (a6 : n1.au = n.au) (a7 : n1.begun = n.begun) (a8 : n1.last = n.last) (a9 : n1.req = n.req) :
    Acks (happenF c n1 e).1 (scanL t (happenF c n1 e).2) ∧ ∀ q ∈ (happenF c n1 e).2, q.code = 2 → q = c.ans := by
  have D := acts_all c { n1 with au := (doF n1.au e).2 } (doF n1.au e).1
  unfold happenF
  generalize actsF c { n1 with au := (doF n1.au e).2 } (doF n1.au e).1 = S at *
  refine ⟨⟨D.own.trans (a1.trans h.own), D.peer.trans (a2.trans h.peer), ?_, ?_, ?_, ?_, fun h6 => ?_⟩, D.acks⟩
  · have ht := h.ticks
    have hw := h.wait
    rw [D.wait]
    show _ < n1.wait
    rw [a4]
    rcases D.ticks with f | f
    · rw [f]
      show n1.ticks < _
      rw [a3]; exact ht
    · rw [f]; omega
  · rw [D.wait]
    show 1 ≤ n1.wait
    rw [a4]; exact h.wait
  · rcases D.theirs with f | ⟨f, g⟩
    · rw [f]
      show Right n1.theirs
      rw [a5]; exact h.theirs
    · rw [g]; exact h7 f
  · rw [D.au]
    show 0 ≤ (nextF n1.au.st e).1 ∧ (nextF n1.au.st e).1 ≤ 9
    rw [a6]
    exact st_range h.st
  · rw [D.au] at h6
    have h6 : 6 ≤ (nextF n1.au.st e).1 := h6
    refine D.tied hc t ?_
    rcases ask_or he h6 with f | f
    · exact Or.inr f
    · rw [a6] at f
      obtain ⟨g1, g2, g3⟩ := h.last f
      exact Or.inl ⟨a7.trans g1, a8.trans g2, a9.trans g3⟩
/-- A nak's or a reject's event, whatever the request is then. -/
theorem Acks.anew {n n1 : Ng} {t : Int × List Tg} (h : Acks n t) (p : Pk0)
    (a1 : n1.own = n.own) (a2 : n1.peer = n.peer) (a3 : n1.ticks = n.ticks) (a4 : n1.wait = n.wait) (a5 : n1.theirs = n.theirs) (a6 : n1.au = n.au) :
    Acks (happenF ⟨p, pk00⟩ n1 9).1 (scanL t (happenF ⟨p, pk00⟩ n1 9).2) ∧ ∀ q ∈ (happenF ⟨p, pk00⟩ n1 9).2, q.code = 2 → q = pk00 := by
  have D := acts_all ⟨p, pk00⟩ { n1 with au := (doF n1.au 9).2 } (doF n1.au 9).1
  unfold happenF
  generalize actsF ⟨p, pk00⟩ { n1 with au := (doF n1.au 9).2 } (doF n1.au 9).1 = S at *
  refine ⟨⟨D.own.trans (a1.trans h.own), D.peer.trans (a2.trans h.peer), ?_, ?_, ?_, ?_, fun h6 => ?_⟩, D.acks⟩
  · have ht := h.ticks
    have hw := h.wait
    rw [D.wait]
    show _ < n1.wait
    rw [a4]
    rcases D.ticks with f | f
    · rw [f]
      show n1.ticks < _
      rw [a3]; exact ht
    · rw [f]; omega
  · rw [D.wait]
    show 1 ≤ n1.wait
    rw [a4]; exact h.wait
  · rcases D.theirs with f | ⟨f, g⟩
    · rw [f]
      show Right n1.theirs
      rw [a5]; exact h.theirs
    · rw [g]
      exact fun x hx => absurd hx List.not_mem_nil
  · rw [D.au]
    show 0 ≤ (nextF n1.au.st 9).1 ∧ (nextF n1.au.st 9).1 ≤ 9
    rw [a6]
    exact st_range h.st
  · rw [D.au] at h6
    have h6 : 6 ≤ (nextF n1.au.st 9).1 := h6
    rw [a6] at h6
    refine D.tied (by show (0 : Int) ≠ 1; decide) t (Or.inr ?_)
    show 6 ∈ (nextF n1.au.st 9).2
    rw [a6]
    exact ask_nak h.st h6
theorem foldl_ch (l : List Tg) (n : Ng) : (l.foldl chN n).own = n.own ∧ (l.foldl chN n).peer = n.peer ∧ (l.foldl chN n).ticks = n.ticks ∧ (l.foldl chN n).wait = n.wait ∧ (l.foldl chN n).theirs = n.theirs ∧ (l.foldl chN n).au = n.au := by
  induction l generalizing n with
  | nil => exact ⟨rfl, rfl, rfl, rfl, rfl, rfl⟩
  | cons x l ih => exact ih (chN n x)
theorem acked_right {l : List Tg} (h : (judgeF [rule1] l).1 = 2) : Right l ∧ (judgeF [rule1] l).2 = l := by
  by_cases h1 : 0 < (upTo (rejF [rule1] l) l l.length).length
  · rw [judgeF_rej h1] at h; simp at h
  · by_cases h2 : 0 < (misF [rule1] l).length
    · rw [judgeF_nak (by omega) h2] at h; simp at h
    · rw [judgeF_ack (by omega) (by omega)]
      refine ⟨fun x hx => ?_, rfl⟩
      have hnil : misF [rule1] l = [] := List.eq_nil_of_length_eq_zero (by omega)
      have hm : x ∉ misF [rule1] l := by rw [hnil]; exact List.not_mem_nil
      have hl : letsB [rule1] x = true := by
        cases hq : letsB [rule1] x with
        | true => rfl
        | false => exact absurd (List.mem_filter.2 ⟨hx, by simp [hq]⟩) hm
      unfold letsB ruleF at hl
      by_cases ht : (1 : Int) = x.type
      · have : ([rule1].find? fun r => r.type == x.type) = some rule1 := by
          rw [List.find?_cons_of_pos]
          show ((1 : Int) == x.type) = true
          simpa using ht
        rw [this] at hl
        exact ⟨ht.symm, by simpa using hl⟩
      · have : ([rule1].find? fun r => r.type == x.type) = none := by
          rw [List.find?_cons_of_neg (by show ¬ ((1 : Int) == x.type) = true; simpa using ht)]
          rfl
        rw [this] at hl
        simp at hl
theorem judge_code (rs : List Rl) (l : List Tg) : (judgeF rs l).1 ≠ 1 := by
  unfold judgeF
  split
  · show (4 : Int) ≠ 1
    decide
  · split
    · show (3 : Int) ≠ 1
      decide
    · show (2 : Int) ≠ 1
      decide
/-- What a packet does keeps all of it. -/
theorem Acks.take {n : Ng} {t : Int × List Tg} (h : Acks n t) (p : Pk0) :
    Acks (takeN n p).1 (scanL t (takeN n p).2) ∧ (∀ q ∈ (takeN n p).2, q.code = 2 → p.code = 1 ∧ q.id = p.id ∧ q.opts = p.opts) ∧ (n.au.st ≠ 9 → (takeN n p).1.au.st = 9 → p.code = 2 → p.id = t.1 ∧ p.opts = t.2) := by
  have hno : ∀ {l : List Pk0}, (∀ q ∈ l, q.code = 2 → q = pk00) → ∀ q ∈ l, q.code = 2 → p.code = 1 ∧ q.id = p.id ∧ q.opts = p.opts := fun hl q hq h2 => by
    have := hl q hq h2
    rw [this] at h2
    exact absurd h2 (by decide)
  have hR0 : Right pk00.opts := fun x hx => absurd hx List.not_mem_nil
  have hstay : Acks n (scanL t []) := h
  unfold takeN takeF
  split
  · rename_i h1
    unfold reqN
    rw [h.peer]
    split
    · rename_i hj
      obtain ⟨hr, he⟩ := acked_right hj
      rw [hj, he]
      obtain ⟨h3, h4⟩ := h.happen (n1 := { n with peer := [rule1], naks := 0 }) ⟨p, ⟨2, p.id, p.opts, ⟨#[]⟩⟩⟩ 6 (by decide) (by show (2 : Int) ≠ 1; decide) (fun _ => hr) rfl h.peer.symm rfl rfl rfl rfl rfl rfl rfl
      refine ⟨h3, fun q hq h2 => ?_, fun _ _ h2 => by omega⟩
      have := h4 q hq h2
      rw [this]
      exact ⟨h1, rfl, rfl⟩
    · rename_i hj
      obtain ⟨h3, h4⟩ := h.happen (n1 := n) ⟨p, ⟨(judgeF [rule1] p.opts).1, p.id, (judgeF [rule1] p.opts).2, ⟨#[]⟩⟩⟩ 7 (by decide) (judge_code _ _) (fun h7 => absurd h7 no_ack) rfl rfl rfl rfl rfl rfl rfl rfl rfl
      refine ⟨h3, fun q hq h2 => ?_, fun _ _ h2 => by omega⟩
      have := h4 q hq h2
      rw [this] at h2
      exact absurd h2 hj
  · split
    · rename_i h1 h234
      split
      · rename_i hb
        unfold ansN
        split
        · rename_i h2
          unfold ackN
          split
          · rename_i hs
            obtain ⟨h3, h4⟩ := h.happen (n1 := { n with mine := p.opts }) ⟨p, pk00⟩ 8 (by decide) (by show (0 : Int) ≠ 1; decide) (fun _ => hR0) rfl rfl rfl rfl rfl rfl rfl rfl rfl
            refine ⟨h3, hno h4, fun _ ho _ => ?_⟩
            have hau : (happenF ⟨p, pk00⟩ { n with mine := p.opts } 8).1.au = (doF n.au 8).2 := (acts_all ⟨p, pk00⟩ { n with mine := p.opts, au := (doF n.au 8).2 } (doF n.au 8).1).au
            rw [hau] at ho
            have h8 := open_by (show (nextF n.au.st 8).1 = 9 from ho)
            obtain ⟨g1, g2, g3⟩ := h.last (by omega)
            exact ⟨hb.2.trans g2, (sameF_iff.1 hs).trans g3⟩
          · exact ⟨hstay, fun q hq => absurd hq List.not_mem_nil, fun h9 ho => absurd ho h9⟩
        · rename_i h2
          split
          · obtain ⟨e1, e2, e3, e4, e5, e6⟩ := foldl_ch p.opts n
            obtain ⟨h3, h4⟩ := h.anew (n1 := p.opts.foldl chN n) p e1 e2 e3 e4 e5 e6
            exact ⟨h3, hno h4, fun _ _ h => absurd h h2⟩
          · unfold rejN
            split
            · obtain ⟨h3, h4⟩ := h.anew (n1 := { n with req := (woF n.req p.opts).1 }) p rfl rfl rfl rfl rfl rfl
              exact ⟨h3, hno h4, fun _ _ h => absurd h h2⟩
            · exact ⟨hstay, fun q hq => absurd hq List.not_mem_nil, fun _ _ h => absurd h h2⟩
      · exact ⟨hstay, fun q hq => absurd hq List.not_mem_nil, fun h9 ho => absurd ho h9⟩
    · rename_i h1 h234
      have hn2 : ¬ p.code = 2 := fun e => h234 (Or.inl e)
      have hev : ∀ e : Int, e ≠ 9 → Acks (happenF ⟨p, pk00⟩ n e).1 (scanL t (happenF ⟨p, pk00⟩ n e).2) ∧ (∀ q ∈ (happenF ⟨p, pk00⟩ n e).2, q.code = 2 → p.code = 1 ∧ q.id = p.id ∧ q.opts = p.opts) ∧ (n.au.st ≠ 9 → (happenF ⟨p, pk00⟩ n e).1.au.st = 9 → p.code = 2 → p.id = t.1 ∧ p.opts = t.2) := fun e he => by
        obtain ⟨h3, h4⟩ := h.happen (n1 := n) ⟨p, pk00⟩ e he (by show (0 : Int) ≠ 1; decide) (fun _ => hR0) rfl rfl rfl rfl rfl rfl rfl rfl rfl
        exact ⟨h3, hno h4, fun _ _ h => absurd h hn2⟩
      split
      · exact hev 10 (by decide)
      · split
        · exact hev 11 (by decide)
        · split
          · unfold rjN
            split
            · exact ⟨hstay, fun q hq => absurd hq List.not_mem_nil, fun _ _ h => absurd h hn2⟩
            · split
              · exact hev 14 (by decide)
              · exact hev 13 (by decide)
          · exact hev 12 (by decide)
/-- And a tick. -/
theorem Acks.tick {n : Ng} {t : Int × List Tg} (h : Acks n t) : Acks (tickN n).1 (scanL t (tickN n).2) := by
  unfold tickN
  split
  · exact h
  · split
    · rename_i ht
      exact ⟨h.own, h.peer, ht, h.wait, h.theirs, h.st, h.last⟩
    · have hw := h.wait
      have h0 : Acks { n with ticks := 0 } t := ⟨h.own, h.peer, by show (0 : Int) < n.wait; omega, h.wait, h.theirs, h.st, h.last⟩
      unfold timeF
      split
      · split
        · exact (h0.happen (n1 := { n with ticks := 0 }) (un n) 4 (by decide) (by show (0 : Int) ≠ 1; decide) (fun _ x hx => absurd hx List.not_mem_nil) rfl rfl rfl rfl rfl rfl rfl rfl rfl).1
        · exact (h0.happen (n1 := { n with ticks := 0 }) (un n) 5 (by decide) (by show (0 : Int) ≠ 1; decide) (fun _ x hx => absurd hx List.not_mem_nil) rfl rfl rfl rfl rfl rfl rfl rfl rfl).1
      · exact h0

/-- The law's own negotiation. -/
def nK0 : Ng := newN [optA] [rule1] [rule1] 5 2 3 2
def nK1 : Ng := { nK0 with au := ⟨5, 2, 1, 0⟩ }
def nK2 : Ng := { nK0 with au := ⟨5, 2, 6, 4⟩, id := 1, last := 1, begun := true }
theorem stepK1 : doN nK0 2 = (nK1, []) := by kernel_rfl
theorem stepK2 : doN nK1 0 = (nK2, [⟨1, 1, [optA], ⟨#[]⟩⟩]) := by kernel_rfl
theorem acksK : Acks nK2 (scanL (0, []) [⟨1, 1, [optA], ⟨#[]⟩⟩]) := ⟨rfl, rfl, by decide, by decide, fun x hx => absurd hx List.not_mem_nil, ⟨by decide, by decide⟩, fun _ => ⟨rfl, rfl, rfl⟩⟩
end Go.Proofs.Ytodgkmjiiijfpaa

namespace Go.Proofs.Ytodgkmjiiijfpaa
open Go.ChangeShapes Go.WideShapes Go.ChangeAt Go.RowKit Go.Joins

/-- A list in memory, to be read: K cells each. -/
def RowsAt {α : Type} (W : World) (K : Nat) (cells : α → List Value) (v : Value) (l : List α) : Prop :=
  (l = [] ∧ ∃ p cap, v = .slice p 0 cap) ∨ ∃ g o cap, v = .slice (some ⟨g, o, none⟩) l.length cap ∧ l.length ≤ cap ∧ cap ≤ maxLen ∧
    ∀ j x, l[j]? = some x → ∀ i u, (cells x)[i]? = some u → W.cell? ⟨g, o + j * K + i, none⟩ = some u
section
variable {α : Type} {K : Nat} {cells : α → List Value}
theorem RowsAt.slice {W : World} {v : Value} {l : List α} (h : RowsAt W K cells v l) : ∃ p cap, v = .slice p l.length cap := by
  rcases h with ⟨rfl, p, cap, rfl⟩ | ⟨g, o, cap, rfl, _⟩
  · exact ⟨p, cap, rfl⟩
  · exact ⟨_, cap, rfl⟩
theorem RowsAt.kept {S : Nat → Prop} {W W' : World} {v : Value} {l : List α} (h : RowsAt W K cells v l) (hk : Kept S W W') (hS : ∀ i, i < W.heap.size → S i → v.ownBlock ≠ some i) : RowsAt W' K cells v l := by
  rcases h with ⟨rfl, p, cap, rfl⟩ | ⟨g, o, cap, rfl, h1, h2, hc⟩
  · exact Or.inl ⟨rfl, p, cap, rfl⟩
  · refine Or.inr ⟨g, o, cap, rfl, h1, h2, fun j x hj i u hu => ?_⟩
    have c := hc j x hj i u hu
    have hlt := lt_of_cell c
    exact (hk.cell (p := ⟨g, o + j * K + i, none⟩) hlt (fun hs => hS g hlt hs rfl)).trans c
theorem RowsAt.kept0 {W W' : World} {v : Value} {l : List α} (h : RowsAt W K cells v l) (hk : Kept (fun _ => False) W W') : RowsAt W' K cells v l := h.kept hk (fun _ _ h => h.elim)
theorem RowsAt.at {W : World} {p : Option Addr} {n cap : Nat} {l : List α} (h : RowsAt W K cells (.slice p n cap) l) {j : Nat} {x : α} (hj : l[j]? = some x) :
    ∃ g o, p = some ⟨g, o, none⟩ ∧ n ≤ cap ∧ ∀ i u, (cells x)[i]? = some u → W.cell? ⟨g, o + j * K + i, none⟩ = some u := by
  rcases h with ⟨rfl, _⟩ | ⟨g, o, cap', e, hle, _, hc⟩
  · simp at hj
  · simp only [Value.slice.injEq] at e
    obtain ⟨rfl, rfl, rfl⟩ := e
    exact ⟨g, o, rfl, hle, hc j x hj⟩
end

section
variable {H : Type} {enc : TypeId × Value → H} {P : Program} {w : World} {base : Nat} {spare : Nat → Bool} {held : Bool}

theorem spot_no {W : World} {g o : Nat} {sp : Option Nat} {u : Value} (h : W.cell? ((⟨g, o, sp⟩ : Addr).add 0) = some u) : sp = none := by
  unfold Addr.add at h
  cases sp with
  | none => rfl
  | some q =>
    exfalso
    unfold World.cell? at h
    split at h <;> simp at h

/-- What a list's data hold, element by element. -/
def HoldsBy {α : Type} (R : α → DataW H → Prop) (l : List α) (d : DataW H) : Prop := l = [] ∨ ∃ es sp, d = .slice es sp ∧ ∀ (j : Nat) (x : α), l[j]? = some x → ∃ y, es[j]? = some y ∧ R x y

theorem open_rows {α : Type} {t e : TypeId} {K fuel : Nat} (cells : α → List Value) (R : α → DataW H → Prop) (hu : P.underlying t = some (.slice e)) (hK : P.cellsOf e = K) (x0 : α) (hc0 : ∀ x, 0 < (cells x).length)
    (each : ∀ n cs y, cs.length = K → DataW.trod enc P w base spare held n e cs = some y → ∃ x : α, cs = cells x ∧ R x y.1)
    {v : Value} {d : DataW H} {p : List MemPlace} (hf : DataW.trod enc P w base spare held fuel t [v] = some (d, p)) :
    ∃ l : List α, RowsAt w K cells v l ∧ l.length ≤ maxLen ∧ HoldsBy R l d ∧ ∀ n cap, v = .slice none n cap → cap = 0 := by
  rcases DataW.trod_slice hu hf with ⟨hcs, _⟩ | ⟨a', len, cap, elems, rest, n, _, hcs, hx, hb, hl, hm, hlen, hel, _, _⟩
  · obtain rfl := List.singleton_inj.1 hcs
    exact ⟨[], Or.inl ⟨rfl, _, _, rfl⟩, Nat.zero_le _, Or.inl rfl, fun n cap e => by simp at e; omega⟩
  · obtain rfl := List.singleton_inj.1 hcs
    have ech : ∀ i, ∃ o : α, i < len → (∀ q u, (cells o)[q]? = some u → w.cell? ((a'.add (i * K)).add q) = some u) ∧ ∃ y, (elems.map (·.1))[i]? = some y ∧ R o y := fun i => by
      by_cases hi : i < len
      · have h1 := hel i hi
        rw [hK] at h1
        obtain ⟨y, hy⟩ : ∃ y, elems[i]? = some y := ⟨elems[i]'(by omega), by simp⟩
        rw [hy, Option.bind_eq_some_iff] at h1
        obtain ⟨cs, hc, ht⟩ := h1
        obtain ⟨_, hcl, hcell⟩ := World.cells?_some hc
        obtain ⟨o, e, hR⟩ := each n cs y hcl ht
        refine ⟨o, fun _ => ⟨fun q u hq => ?_, y.1, by rw [List.getElem?_map, hy]; rfl, hR⟩⟩
        subst e
        have hql := (List.getElem?_eq_some_iff.1 hq).1
        have := hcell q (by omega)
        rw [this]
        exact hq
      · exact ⟨x0, fun h => absurd h hi⟩
    obtain ⟨F, hF⟩ := skolem1 ech
    refine ⟨(List.range len).map F, ?_, by simp; omega, ?_, fun n cap e => by simp at e⟩
    · obtain ⟨g, o, sp⟩ := a'
      cases len with
      | zero => exact Or.inl ⟨rfl, some ⟨g, o, sp⟩, cap, rfl⟩
      | succ m =>
        obtain ⟨u0, hu0⟩ : ∃ u, (cells (F 0))[0]? = some u := ⟨(cells (F 0))[0]'(hc0 _), by simp⟩
        have h0 := (hF 0 (by omega)).1 0 _ hu0
        have hsp : sp = none := by
          have e : ((⟨g, o, sp⟩ : Addr).add (0 * K)).add 0 = (⟨g, o, sp⟩ : Addr).add 0 := by
            rw [Nat.zero_mul]
            unfold Addr.add
            simp
          rw [e] at h0
          exact spot_no h0
        subst hsp
        refine Or.inr ⟨g, o, cap, by simp, by simpa using hl, hm, fun j x hj q u hq => ?_⟩
        have hjl : j < m + 1 := by
          have := (List.getElem?_eq_some_iff.1 hj).1
          simpa using this
        have hx : x = F j := by
          rw [List.getElem?_map, List.getElem?_range hjl] at hj
          simpa using hj.symm
        subst hx
        have k1 := (hF j hjl).1 q u hq
        simp only [Addr.add_lit] at k1
        exact k1
    · have hd : d = .slice (elems.map (·.1)) (rest.map (·.1)) := congrArg Prod.fst hx
      refine Or.inr ⟨_, _, hd, fun j x hj => ?_⟩
      have hjl : j < len := by
        have := (List.getElem?_eq_some_iff.1 hj).1
        simpa using this
      have hx : x = F j := by
        rw [List.getElem?_map, List.getElem?_range hjl] at hj
        simpa using hj.symm
      subst hx
      exact (hF j hjl).2

/-- What data hold is no greater than may be. -/
def Wt (P : Program) (t : TypeId) (d : DataW H) : Prop := ∀ n ∈ d.weights P t, n ≤ reachBytes
theorem wt_arg {ts : List TypeId} {ds : List (DataW H)} (h : (DataW.weightsEach P ts ds).all (· ≤ reachBytes) = true) {j : Nat} {t : TypeId} {d : DataW H} (ht : ts[j]? = some t) (hd : ds[j]? = some d) : Wt P t d := fun n hn => by
  have := List.all_eq_true.1 h _ (DataW.weights_mem_each ht hd n hn)
  simpa using this
theorem wt_all {e : TypeId} : ∀ {l : List (DataW H)} {d : DataW H}, d ∈ l → ∀ n ∈ d.weights P e, n ∈ DataW.weightsAll P e l
  | a :: l, d, h, n, hn => by
    simp only [DataW.weightsAll, List.mem_append]
    rcases List.mem_cons.1 h with rfl | h
    · exact Or.inl hn
    · exact Or.inr (wt_all h n hn)
theorem wt_slice {t e : TypeId} {es sp : List (DataW H)} {y : DataW H} (h : Wt P t (.slice es sp)) (hu : P.underlying t = some (.slice e)) (hy : y ∈ es) : Wt P e y := fun n hn => h n (by
  simp only [DataW.weights, hu, List.mem_cons, List.mem_append]
  exact Or.inr (Or.inl (wt_all hy n hn)))
theorem wt_field {t : TypeId} {fs : Array Field} {ds : List (DataW H)} {j : Nat} {f : Field} {d : DataW H} (h : Wt P t (.agg ds)) (hu : P.underlying t = some (.struct fs)) (hf : fs[j]? = some f) (hd : ds[j]? = some d) : Wt P f.type d := fun n hn => h n (by
  simp only [DataW.weights, hu]
  refine DataW.weights_mem_each (j := j) (t := f.type) (d := d) ?_ hd n hn
  rw [List.getElem?_map, Array.getElem?_toList, hf]
  rfl)
theorem wt_string {t : TypeId} {x : ByteArray} (h : Wt P t (.lit (.string x.data.toList) : DataW H)) : x.size ≤ 140737488351232 := by
  have := h x.data.toList.length (by simp [DataW.weights])
  rw [Lib.size_eq]
  exact this
theorem wt_list {α : Type} {R : α → DataW H → Prop} {t e : TypeId} {l : List α} {d : DataW H} (h : Wt P t d) (hu : P.underlying t = some (.slice e)) (hl : HoldsBy R l d) : ∀ x ∈ l, ∃ y, R x y ∧ Wt P e y := fun x hx => by
  rcases hl with rfl | ⟨es, sp, rfl, he⟩
  · cases hx
  · obtain ⟨j, hj⟩ := List.getElem?_of_mem hx
    obtain ⟨y, hy, hr⟩ := he j x hj
    exact ⟨y, hr, wt_slice h hu (List.mem_of_getElem? hy)⟩
end
end Go.Proofs.Ytodgkmjiiijfpaa

namespace Go.Proofs.Ytodgkmjiiijfpaa
open Go.ChangeShapes Go.WideShapes Go.ChangeAt Go.RowKit Go.Joins

theorem cellsOp11 : Try.prog.cellsOf 67 = 8 := by kernel_rfl
theorem cellsPk' : Try.prog.cellsOf 24 = 4 := by kernel_rfl
theorem cellsOpt' : Try.prog.cellsOf 62 = 2 := by kernel_rfl
theorem cellsOpts' : Try.prog.cellsOf 22 = 1 := by kernel_rfl
theorem cellsInt' : Try.prog.cellsOf 3 = 1 := by kernel_rfl
theorem cellsStr' : Try.prog.cellsOf 9 = 1 := by kernel_rfl
theorem laidOutO : laidOutB Try.prog = true := by kernel_rfl

/-- A step. -/
structure Op11 where
  kind : Int
  num : Int
  p : Pk0
  vo : Value
  va : Value
  vb : Value
  a : List Tg
  b : List Tg
def op11Cells (x : Op11) : List Value := [.int .i64 x.kind, .int .i64 x.num, .int .i64 x.p.code, .int .i64 x.p.id, x.vo, .string x.p.data, x.va, x.vb]

section
variable {H : Type} {enc : TypeId × Value → H} {w : World} {base : Nat} {spare : Nat → Bool} {held : Bool}

def RTg (x : Tg) (d : DataW H) : Prop := In64 x.type ∧ ∃ z, d = .agg [z, .lit (.string x.value.data.toList)]

set_option maxRecDepth 100000 in
theorem each_opt (n : Nat) (cs : List Value) (y : DataW H × List MemPlace) (hlen : cs.length = 2) (ht : DataW.trod enc Try.prog w base spare held n 62 cs = some y) : ∃ x : Tg, cs = tgCells x ∧ RTg x y.1 := by
  obtain ⟨xs, k, hk, hxy, _, hxl, hf⟩ := DataW.trod_struct Try.underlying62 ht
  match xs, hxl, cs, hlen with
  | [y0, y1], _, [v0, v1], _ =>
    have g0 := hf 0 _ rfl
    have g1 := hf 1 _ rfl
    simp [cellsInt', cellsStr'] at g0 g1
    obtain ⟨i0, e0, _, w0⟩ := DataW.trod_int Try.underlying3 g0
    obtain ⟨x, e1, hy1, _⟩ := DataW.trod_string Try.underlying9 g1
    simp at e0 e1
    subst e0 e1
    refine ⟨⟨i0, x⟩, rfl, bounds_i64 w0, y0.1, ?_⟩
    rw [hxy]
    simp [hy1]
/-- A list of options, with all that is known of it. -/
structure OptsIn (W : World) (v : Value) (l : List Tg) : Prop where
  at_ : OptsAt W v l
  len : l.length ≤ maxLen
  kind : ∀ x ∈ l, In64 x.type
theorem rows_tags {W : World} {v : Value} {l : List Tg} (h : RowsAt W 2 tgCells v l) : TagsAt W v l := by
  rcases h with h | ⟨g, o, cap, rfl, h1, h2, hc⟩
  · exact Or.inl h
  · exact Or.inr ⟨g, o, cap, rfl, h1, h2, fun j x hj => ⟨hc j x hj 0 _ rfl, hc j x hj 1 _ rfl⟩⟩
theorem open_optsA {fuel : Nat} {v : Value} {d : DataW H} {p : List MemPlace} (hf : DataW.trod enc Try.prog w base spare held fuel 22 [v] = some (d, p)) : ∃ l : List Tg, OptsIn w v l ∧ HoldsBy RTg l d := by
  obtain ⟨l, h1, h2, h3, h4⟩ := open_rows tgCells RTg Try.underlying22 cellsOpt' ⟨0, ⟨#[]⟩⟩ (fun _ => by simp [tgCells]) each_opt hf
  refine ⟨l, ⟨⟨rows_tags h1, h4⟩, h2, fun x hx => ?_⟩, h3⟩
  rcases h3 with rfl | ⟨es, sp, _, he⟩
  · cases hx
  · obtain ⟨j, hj⟩ := List.getElem?_of_mem hx
    obtain ⟨y, _, hr, _⟩ := he j x hj
    exact hr
theorem sized_optsA {l : List Tg} {d : DataW H} (h : Wt Try.prog 22 d) (hl : HoldsBy RTg l d) : ∀ x ∈ l, x.value.size ≤ 140737488351232 := fun x hx => by
  obtain ⟨y, ⟨_, z, rfl⟩, hw⟩ := wt_list h Try.underlying22 hl x hx
  exact wt_string (wt_field (j := 1) (d := .lit (.string x.value.data.toList)) hw Try.underlying62 rfl rfl)

def ROp (w : World) (x : Op11) (d : DataW H) : Prop := OptsIn w x.vo x.p.opts ∧ OptsIn w x.va x.a ∧ OptsIn w x.vb x.b ∧ (In64 x.kind ∧ In64 x.p.code ∧ In64 x.p.id) ∧ ∃ z0 z1 z2 z3 z4 z5 z6, d = .agg [z0, z1, .agg [z2, z3, z4, .lit (.string x.p.data.data.toList)], z5, z6] ∧ HoldsBy RTg x.p.opts z4 ∧ HoldsBy RTg x.a z5 ∧ HoldsBy RTg x.b z6

set_option maxRecDepth 100000 in
theorem each_op (n : Nat) (cs : List Value) (y : DataW H × List MemPlace) (hlen : cs.length = 8) (ht : DataW.trod enc Try.prog w base spare held n 67 cs = some y) : ∃ x : Op11, cs = op11Cells x ∧ ROp w x y.1 := by
  obtain ⟨xs, k, hk, hxy, _, hxl, hf⟩ := DataW.trod_struct Try.underlying67 ht
  match xs, hxl, cs, hlen with
  | [y0, y1, y2, y3, y4], _, [v0, v1, v2, v3, v4, v5, v6, v7], _ =>
    have g0 := hf 0 _ rfl
    have g1 := hf 1 _ rfl
    have g2 := hf 2 _ rfl
    have g3 := hf 3 _ rfl
    have g4 := hf 4 _ rfl
    simp [cellsInt', cellsOpts', cellsPk'] at g0 g1 g2 g3 g4
    obtain ⟨i0, e0, _, w0⟩ := DataW.trod_int Try.underlying3 g0
    obtain ⟨i1, e1, _, _⟩ := DataW.trod_int Try.underlying3 g1
    obtain ⟨ys, k2, hk2, hy2, _, hyl, hf2⟩ := DataW.trod_struct Try.underlying24 g2
    match ys, hyl with
    | [u0, u1, u2, u3], _ =>
      have p0 := hf2 0 _ rfl
      have p1 := hf2 1 _ rfl
      have p2 := hf2 2 _ rfl
      have p3 := hf2 3 _ rfl
      simp [cellsInt', cellsOpts', cellsStr'] at p0 p1 p2 p3
      obtain ⟨i2, e2, _, w2⟩ := DataW.trod_int Try.underlying3 p0
      obtain ⟨i3, e3, _, w3⟩ := DataW.trod_int Try.underlying3 p1
      obtain ⟨x, e5, hx, _⟩ := DataW.trod_string Try.underlying9 p3
      simp at e0 e1 e2 e3 e5
      subst e0 e1 e2 e3 e5
      obtain ⟨lo, ho, hho⟩ := open_optsA (d := u2.1) (p := u2.2) p2
      obtain ⟨la, ha, hha⟩ := open_optsA (d := y3.1) (p := y3.2) g3
      obtain ⟨lb, hb, hhb⟩ := open_optsA (d := y4.1) (p := y4.2) g4
      refine ⟨⟨i0, i1, ⟨i2, i3, lo, x⟩, v4, v6, v7, la, lb⟩, rfl, ho, ha, hb, ⟨bounds_i64 w0, bounds_i64 w2, bounds_i64 w3⟩, y0.1, y1.1, u0.1, u1.1, u2.1, y3.1, y4.1, ?_, hho, hha, hhb⟩
      rw [hxy]
      simp [hy2, hx]

/-- A list of steps, with all that is known of it. -/
structure OpIn (W : World) (x : Op11) : Prop where
  o : OptsIn W x.vo x.p.opts
  a : OptsIn W x.va x.a
  b : OptsIn W x.vb x.b
  num : In64 x.kind ∧ In64 x.p.code ∧ In64 x.p.id
  data : x.p.data.size ≤ 140737488351232
  so : ∀ y ∈ x.p.opts, y.value.size ≤ 140737488351232
  sa : ∀ y ∈ x.a, y.value.size ≤ 140737488351232
  sb : ∀ y ∈ x.b, y.value.size ≤ 140737488351232
def OpsAt (W : World) (v : Value) (l : List Op11) : Prop := RowsAt W 8 op11Cells v l
set_option maxRecDepth 100000 in
theorem open_ops11 {r : Reach} {b0 : Nat} {v : Value} {d : DataW H} {p : List MemPlace} (hv : Value.okWide Try.prog w r b0 64 v) (h : DataW.Trod enc Try.prog w base spare held 64 v d p) (hw : Wt Try.prog 64 d) :
    ∃ l : List Op11, OpsAt w v l ∧ l.length ≤ maxLen ∧ ∀ x ∈ l, OpIn w x := by
  obtain ⟨a, len, cap, rfl⟩ := okWide_slice Try.underlying64 hv
  obtain ⟨fuel, hf⟩ := h
  have hf' : DataW.trod enc Try.prog w base spare held fuel 64 [.slice a len cap] = some (d, p) := by simpa [Value.cells] using hf
  obtain ⟨l, h1, h2, h3, _⟩ := open_rows op11Cells (ROp w) Try.underlying64 cellsOp11 ⟨0, 0, pk00, .bool false, .bool false, .bool false, [], []⟩ (fun _ => by simp [op11Cells]) each_op hf'
  refine ⟨l, h1, h2, fun x hx => ?_⟩
  obtain ⟨y, ⟨r1, r2, r3, r4, z0, z1, z2, z3, z4, z5, z6, rfl, o4, o5, o6⟩, hwy⟩ := wt_list hw Try.underlying64 h3 x hx
  have hp := wt_field (j := 2) (d := .agg [z2, z3, z4, .lit (.string x.p.data.data.toList)]) hwy Try.underlying67 rfl rfl
  exact ⟨r1, r2, r3, r4, wt_string (wt_field (j := 3) (d := .lit (.string x.p.data.data.toList)) hp Try.underlying24 rfl rfl), sized_optsA (wt_field (j := 2) (d := z4) hp Try.underlying24 rfl rfl) o4, sized_optsA (wt_field (j := 3) (d := z5) hwy Try.underlying67 rfl rfl) o5, sized_optsA (wt_field (j := 4) (d := z6) hwy Try.underlying67 rfl rfl) o6⟩
end
end Go.Proofs.Ytodgkmjiiijfpaa

namespace Go.Proofs.Ytodgkmjiiijfpaa
open Go.RowKit

/-- The law's own negotiation, the options vs of the last request and the packets vo that were sent. -/
structure AckM (w W : World) (b : Nat) (a : Nm) (n : Ng) (vs vo : Value) (sl : List Tg) (lo : List (Pk0 × Value)) : Prop where
  mine : NMine w W b a n
  sent : OwnO W w.heap.size vs sl
  fs : ∀ i, vs.ownBlock = some i → ¬ Sn b a i
  out : Pks W w.heap.size (Sn b a) vo lo

section
variable {w W W' : World} {b : Nat} {a : Nm} {n : Ng} {vs vo : Value} {sl : List Tg} {lo : List (Pk0 × Value)}
theorem AckM.still (h : AckM w W b a n vs vo sl lo) (hk : Kept (fun _ => False) W W') : AckM w W' b a n vs vo sl lo := ⟨h.mine.still hk, h.sent.kept hk, h.fs, h.out.still hk⟩
theorem AckM.scan (h : AckM w W b a n vs vo sl lo) {q : Pk0 × Value} (hq : q ∈ lo) : AckM w W b a n q.2 vo q.1.opts lo := ⟨h.mine, h.out.opts q hq, h.out.far q hq, h.out⟩
theorem AckM.next (h : AckM w W b a n vs vo sl lo) {s : Ng × List Pk0} {v : Value} (hs : Sent W W' w.heap.size b a s v) : ∃ a' l, AckM w W' b a' s.1 vs v sl l ∧ l.map (·.1) = s.2 ∧ NNext W W' w.heap.size b a a' s.1 := by
  obtain ⟨a', l, hb, e⟩ := hs
  have hsz := h.mine.kept.size
  refine ⟨a', l, ⟨h.mine.next hb.nx, h.sent.keptS hb.nx.kept h.fs, fun i hi s' => ?_, ⟨row_rebase hb.row hsz, fun q hq => (hb.opts q hq).mono hsz, hb.far⟩⟩, e, hb.nx⟩
  rcases hb.nx.sn i s' with h1 | h1
  · exact h.fs i hi h1
  · obtain ⟨cur, hc⟩ := h.sent.cellsB hi
    have := (Array.getElem?_eq_some_iff.1 hc).1
    omega
/-- A packet of the arguments is none of the negotiation's. -/
theorem arg_pk (h : NMine w W b a n) {x : Op11} (hx : OpIn w x) (hl : x.p.opts.length ≤ 50) : PkIn W b a x.p x.vo := by
  refine ⟨hx.o.at_.kept0 h.kept, ?_, ⟨by omega, hx.o.kind, hx.so⟩, hx.data⟩
  rcases hx.o.at_.1.low with e | e
  · exact Or.inl e
  · exact Or.inr (fun i hi s => by have := h.neg.sn_lo i s; have := e i hi; omega)
end

theorem take_nextG {α : Type} {l : List α} {j : Nat} {x : α} (h : l[j]? = some x) : l.take (j + 1) = l.take j ++ [x] := by rw [List.take_add_one, h]; rfl
/-- What Small tells of a step. -/
def lightP (x : Op11) : Prop := x.p.opts.length ≤ 50 ∧ x.p.data.size ≤ 2000
def SmallIs (l : List Op11) (w : World) (e : Ending) (w' : World) : Prop := ∃ B, e = .returned (.bool B) ∧ (B = true → l.length ≤ 200 ∧ ∀ x ∈ l, lightP x) ∧ Kept (fun _ => False) w w'

set_option maxHeartbeats 2000000 in
set_option maxRecDepth 100000 in
theorem lawSmall_any (v : Value) (l : List Op11) (w : World) (hv : OpsAt w v l) (hl : l.length ≤ maxLen) (hin : ∀ x ∈ l, OpIn w x) :
    Calls Try.prog 25 #[v] w (SmallIs l w) := by
  unfold maxLen at hl
  obtain ⟨p, cap, rfl⟩ := hv.slice
  have Hat := hid (fun (j : Nat) (x : Op11) (hj : l[j]? = some x) (W : World) (hW : Kept (fun _ => False) w W) => (RowsAt.kept0 hv hW).at hj)
  have HIn := hid hin
  clear hv hin
  go_enter Try.func25, Try.ntmps25
  go_wp2
  go_loopw [3] (fun vi wr => ∃ j : Nat, j ≤ l.length ∧ vi = .int .i64 (j : Int) ∧ Hid ((∀ x ∈ l.take j, lightP x) ∧ Kept (fun _ => False) w wr)) (fun vi _ => l.length - (intOf vi).toNat)
  case atStart => exact ⟨0, Nat.zero_le _, rfl, fun x hx => by simp at hx, Kept.refl _ _⟩
  case round =>
    obtain ⟨j, hj, rfl, HI⟩ := hrel
    by_cases hlt : j < l.length
    · have hltz : (j : Int) < (l.length : Int) := by omega
      obtain ⟨x, hx⟩ : ∃ x, l[j]? = some x := ⟨l[j], by simp [hlt]⟩
      have hxi := HIn.out x (List.mem_of_getElem? hx)
      obtain ⟨g, o, rfl, hcap, hc⟩ := Hat.out j x hx wr HI.out.2
      have HC := hid (fun W (k : Kept (fun _ => False) w W) (i : Nat) (u : Value) (hu : (op11Cells x)[i]? = some u) => (Hat.out j x hx W k).elim fun g' h1 => h1.elim fun o' h2 => (by
        obtain ⟨e, _, h3⟩ := h2
        simp only [Option.some.injEq, Addr.mk.injEq, and_true] at e
        obtain ⟨rfl, rfl⟩ := e
        exact h3 i u hu : W.cell? ⟨g, o + j * 8 + i, none⟩ = some u))
      obtain ⟨p4, k4, e4⟩ := hxi.o.at_.1.slice
      obtain ⟨p6, k6, e6⟩ := hxi.a.at_.1.slice
      obtain ⟨p7, k7, e7⟩ := hxi.b.at_.1.slice
      have HA := hid (fun W (k : Kept (fun _ => False) w W) => lightO_any x.vo x.p.opts W (hxi.o.at_.kept0 k).1 hxi.o.len hxi.so)
      have HB := hid (fun W (k : Kept (fun _ => False) w W) => lightO_any x.va x.a W (hxi.a.at_.kept0 k).1 hxi.a.len hxi.sa)
      have HD := hid (fun W (k : Kept (fun _ => False) w W) => lightO_any x.vb x.b W (hxi.b.at_.kept0 k).1 hxi.b.len hxi.sb)
      have HX := hid hx
      have HO := hid HI.out.1
      have HK := hid HI.out.2
      have E4 := hid e4
      have E6 := hid e6
      have E7 := hid e7
      have c4 := HC.out wr HK.out 4 _ rfl
      rw [e4] at c4 HA
      rw [e6] at HB
      rw [e7] at HD
      clear hx hc HI e4 e6 e7 hxi
      cases q1 : lightO x.p.opts with
      | false =>
        rw [q1] at HA
        clear q1
        go_wp2_with fail
        refine (HA.out wr HK.out).mono ?_
        rintro e w1 ⟨rfl, k1⟩
        have K1 := hid (HK.out.trans k1)
        clear k1
        go_wp2
        go_ret
        exact ⟨false, rfl, (fun h => by cases h), K1.out⟩
      | true =>
        have HL1 := hid (lightO_true q1).1
        rw [q1] at HA
        clear q1
        go_wp2_with fail
        refine (HA.out wr HK.out).mono ?_
        rintro e w1 ⟨rfl, k1⟩
        have K1 := hid (HK.out.trans k1)
        have d5 := HC.out w1 K1.out 5 _ rfl
        clear k1 c4 HA
        by_cases q2 : (2000 : Int) < (x.p.data.size : Int)
        · go_wp2
          go_ret
          exact ⟨false, rfl, (fun h => by cases h), K1.out⟩
        · have d6 := HC.out w1 K1.out 6 _ rfl
          rw [E6.out] at d6
          have HL2 : Hid (x.p.data.size ≤ 2000) := by show _ ≤ _; omega
          cases q3 : lightO x.a with
          | false =>
            rw [q3] at HB
            clear q3
            go_wp2_with fail
            refine (HB.out w1 K1.out).mono ?_
            rintro e w2 ⟨rfl, k2⟩
            have K2 := hid (K1.out.trans k2)
            clear k2
            go_wp2
            go_ret
            exact ⟨false, rfl, (fun h => by cases h), K2.out⟩
          | true =>
            rw [q3] at HB
            clear q3
            go_wp2_with fail
            refine (HB.out w1 K1.out).mono ?_
            rintro e w2 ⟨rfl, k2⟩
            have K2 := hid (K1.out.trans k2)
            have d7 := HC.out w2 K2.out 7 _ rfl
            rw [E7.out] at d7
            clear k2 d5 d6
            go_wp2_with fail
            refine (HD.out w2 K2.out).mono ?_
            rintro e w3 ⟨rfl, k3⟩
            have K3 := hid (K2.out.trans k3)
            clear k3
            cases q4 : lightO x.b with
            | false =>
              go_wp2
              go_ret
              exact ⟨false, rfl, (fun h => by cases h), K3.out⟩
            | true =>
              go_wp2
              refine ⟨⟨j + 1, hlt, by go_num, fun y hy => ?_, K3.out⟩, by simp [intOf]; omega⟩
              rw [take_nextG HX.out] at hy
              rcases List.mem_append.1 hy with hy | hy
              · exact HO.out y hy
              · rw [List.mem_singleton.1 hy]
                exact ⟨HL1.out, HL2.out⟩
    · obtain rfl : j = l.length := by omega
      have hltz : ¬ (l.length : Int) < (l.length : Int) := by omega
      obtain ⟨hO, hk⟩ := HI.out
      rw [List.take_length] at hO
      have HO := hid hO
      clear hO HI hlt
      by_cases hb : (l.length : Int) ≤ 200
      · go_wp2
        go_ret
        exact ⟨true, rfl, fun _ => ⟨by omega, HO.out⟩, hk⟩
      · go_wp2
        go_ret
        exact ⟨false, rfl, (fun h => by cases h), hk⟩
end Go.Proofs.Ytodgkmjiiijfpaa
