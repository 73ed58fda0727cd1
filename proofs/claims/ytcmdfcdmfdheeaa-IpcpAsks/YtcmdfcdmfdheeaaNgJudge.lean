/- The contracts of strangers, misfits, suggestions, judge and Judge: what is answered is a plain function of the rules and the options. -/
import Derived.Test.YtcmdfcdmfdheeaaNgSeen
namespace Go.Proofs.Ytcmdfcdmfdheeaa
open Go.RowKit

/-- The options of a request that no rule lets be. -/
def misF (rs : List Rl) (l : List Tg) : List Tg := l.filter fun x => !letsB rs x
def sugF (rs : List Rl) (x : Tg) : Tg := ⟨x.type, ((ruleF rs x.type).getD rl0).suggest⟩

theorem upTo_le (f : Nat → Tg → List Tg) (hf : ∀ i t, (f i t).length ≤ 1) (l : List Tg) (j : Nat) : (upTo f l j).length ≤ j := by
  induction j with
  | zero => exact Nat.le_refl _
  | succ j ih =>
    cases h : l[j]? with
    | none =>
      have : upTo f l (j + 1) = upTo f l j := by simp [upTo, List.range_succ, h]
      rw [this]
      omega
    | some t =>
      rw [upTo_next f l j h, List.length_append]
      have := hf j t
      omega
theorem rejF_one (rs : List Rl) (l : List Tg) (i : Nat) (t : Tg) : (rejF rs l i t).length ≤ 1 := by unfold rejF; split <;> simp
theorem upTo_rej_le (rs : List Rl) (l : List Tg) (j : Nat) : (upTo (rejF rs l) l j).length ≤ j := upTo_le _ (rejF_one rs l) l j

/-- Where nothing is rejected, what is nakked is what does not fit. -/
theorem nak_is (rs : List Rl) (l : List Tg) : ∀ j, j ≤ l.length → upTo (rejF rs l) l j = [] → upTo (nakF rs l) l j = (misF rs (l.take j)).map (sugF rs)
  | 0, _, _ => by simp [upTo, misF]
  | j + 1, hj, h => by
    obtain ⟨t, ht⟩ : ∃ t, l[j]? = some t := ⟨l[j], by simp⟩
    rw [upTo_next _ _ _ ht] at h
    obtain ⟨h1, h2⟩ := List.append_eq_nil_iff.1 h
    have hb : badF rs l j t = false := by
      unfold rejF at h2
      split at h2
      · cases h2
      · rename_i hn
        simpa using hn
    have hs : (ruleF rs t.type).isSome = true := by
      unfold badF at hb
      cases hq : (ruleF rs t.type).isSome with
      | true => rfl
      | false => rw [hq] at hb; cases hb
    obtain ⟨r, hr⟩ := Option.isSome_iff_exists.1 hs
    rw [upTo_next _ _ _ ht, nak_is rs l j (by omega) h1, take_next ht]
    unfold nakF misF letsB sugF
    rw [if_neg (by rw [hb]; simp), List.filter_append, List.map_append, hr]
    congr 1
    cases hf : fitsF r t.value <;> simp [hf, hr]

set_option maxHeartbeats 2000000 in
set_option maxRecDepth 100000 in
theorem misfits_any (vb : Value) (rs : List Rl) (v : Value) (l : List Tg) (w : World) (hb : BookIs w vb rs) (hv : TagsAt w v l) (hl : l.length ≤ 10000) (h64 : ∀ x ∈ l, In64 x.type) (hsz : ∀ x ∈ l, x.value.size ≤ 140737488351232) :
    Calls Try.prog 68 #[vb, v] w fun e w' => ∃ u, e = .returned u ∧ OwnO w' w.heap.size u (misF rs l) ∧ Kept (fun _ => False) w w' := by
  obtain ⟨p, cap, rfl⟩ := hv.slice
  have Hat := hid (fun (j : Nat) (x : Tg) (hj : l[j]? = some x) (W : World) (hW : Kept (fun _ => False) w W) => (hv.kept0 hW).at hj)
  have HF := hid (fun (j : Nat) (x : Tg) (hj : l[j]? = some x) (W : World) (hW : Kept (fun _ => False) w W) => bookFits_any vb rs x W (hb.kept0 hW) (h64 x (List.mem_of_getElem? hj)) (hsz x (List.mem_of_getElem? hj)))
  unfold tgV at HF
  obtain ⟨mb, L, rfl, _⟩ := hb
  clear hv h64 hsz
  go_enter Try.func68, Try.ntmps68
  go_wp2
  go_loopw [5, 10] (fun v5 vi wr => ∃ j : Nat, j ≤ l.length ∧ vi = .int .i64 (j : Int) ∧ Hid (OwnO wr w.heap.size v5 (misF rs (l.take j)) ∧ (misF rs (l.take j)).length ≤ j ∧ Kept (fun _ => False) w wr)) (fun _ vi _ => l.length - (intOf vi).toNat)
  case atStart => exact ⟨0, Nat.zero_le _, rfl, OwnO.nil _ _, Nat.le_refl _, Kept.refl _ _⟩
  case round =>
    obtain ⟨j, hj, rfl, HI⟩ := hrel
    by_cases hlt : j < l.length
    · have hltz : (j : Int) < (l.length : Int) := by omega
      obtain ⟨x, hx⟩ : ∃ x, l[j]? = some x := ⟨l[j], by simp [hlt]⟩
      obtain ⟨g, o, rfl, hcap, c0, c1⟩ := Hat.out j x hx wr HI.out.2.2
      have hk1 := HI.out.2.2.alloc (.cells #[.int .i64 x.type, .string x.value] 51)
      have HFx := hid (HF.out j x hx _ hk1)
      have b0 := (BoxO.new wr x).c0
      have b1 := (BoxO.new wr x).c1
      have HX := hid hx
      have hO1 := HI.out.1.kept ((Kept.refl (fun _ => False) wr).alloc (.cells #[.int .i64 x.type, .string x.value] 51))
      have HB := hid (BoxO.new wr x)
      cases hq : letsB rs x with
      | true =>
        rw [hq] at HFx
        have e1 : misF rs (l.take (j + 1)) = misF rs (l.take j) := by rw [take_next HX.out]; unfold misF; rw [List.filter_append]; simp [hq]
        have HO := hid hO1
        have HK := hid hk1
        have HLe := hid HI.out.2.1
        obtain ⟨p5, c5, rfl⟩ := slice_of hO1
        clear hO1 hk1 hx HI
        go_wp2_with fail
        refine HFx.out.mono ?_
        rintro e w1 ⟨rfl, hk⟩
        have HR : Hid (OwnO w1 w.heap.size (.slice p5 (misF rs (l.take j)).length c5) (misF rs (l.take (j + 1))) ∧ (misF rs (l.take (j + 1))).length ≤ j + 1 ∧ Kept (fun _ => False) w w1) := by
          refine ⟨?_, ?_, HK.out.trans hk⟩
          · rw [e1]; exact HO.out.kept hk
          · rw [e1]; have := HLe.out; omega
        clear hk e1
        go_wp2
        exact ⟨⟨j + 1, hlt, by go_num, HR.out⟩, by simp [intOf]; omega⟩
      | false =>
        rw [hq] at HFx
        have e1 : misF rs (l.take (j + 1)) = misF rs (l.take j) ++ [x] := by rw [take_next HX.out]; unfold misF; rw [List.filter_append]; simp [hq]
        have HO := hid hO1
        have HK := hid hk1
        have HLe := hid HI.out.2.1
        obtain ⟨p5, c5, rfl⟩ := slice_of hO1
        clear hO1 hk1 hx HI
        go_wp2_with fail
        refine HFx.out.mono ?_
        rintro e w1 ⟨rfl, hk⟩
        have hb1 : BoxO w1 wr.heap.size x := (hk.block _ HB.out.lt id).trans HB.out
        have d0 := hb1.c0
        have d1 := hb1.c1
        have hK1 := HK.out.trans hk
        obtain ⟨v', w2, hr, ho2, hk2, _⟩ := pushO x hK1.size (HO.out.kept hk) (by have := HLe.out; omega)
        have HR : Hid (OwnO w2 w.heap.size v' (misF rs (l.take (j + 1))) ∧ (misF rs (l.take (j + 1))).length ≤ j + 1 ∧ Kept (fun _ => False) w w2) := by
          refine ⟨by rw [e1]; exact ho2, ?_, hK1.andThen hk2 (fun i hi e => by have := HO.out.baseB e; omega)⟩
          rw [e1, List.length_append]
          have := HLe.out
          simp
          omega
        clear hk e1 ho2 hk2 hK1 hb1
        go_wp2_with (at_builtin; refine Lib.wpList_append_run _ rfl _ _ _ _ rfl _ _ rfl rfl _ _ (hr _) ?_)
        exact ⟨⟨j + 1, hlt, by go_num, HR.out⟩, by simp [intOf]; omega⟩
    · obtain rfl : j = l.length := by omega
      have hltz : ¬ (l.length : Int) < (l.length : Int) := by omega
      obtain ⟨hO, _, hk⟩ := HI.out
      rw [List.take_length] at hO
      have HO := hid hO
      clear hO HI hlt
      go_wp2
      go_ret
      exact ⟨_, rfl, HO.out, hk⟩

set_option maxHeartbeats 400000 in
set_option maxRecDepth 100000 in
theorem suggestions_any (vb : Value) (rs : List Rl) (v : Value) (l : List Tg) (w : World) (hb : BookIs w vb rs) (hv : TagsAt w v l) (hl : l.length ≤ 10000) (h64 : ∀ x ∈ l, In64 x.type) :
    Calls Try.prog 69 #[vb, v] w fun e w' => ∃ u, e = .returned u ∧ OwnO w' w.heap.size u (l.map (sugF rs)) ∧ Kept (fun _ => False) w w' := by
  obtain ⟨p, cap, rfl⟩ := hv.slice
  have Hat := hid (fun (j : Nat) (x : Tg) (hj : l[j]? = some x) (W : World) (hW : Kept (fun _ => False) w W) => (hv.kept0 hW).at hj)
  have HF := hid (fun (j : Nat) (x : Tg) (hj : l[j]? = some x) (W : World) (hW : Kept (fun _ => False) w W) => (hb.kept0 hW).look (h64 x (List.mem_of_getElem? hj)) false)
  obtain ⟨mb, L, rfl, _⟩ := hb
  clear hv h64
  go_enter Try.func69, Try.ntmps69
  go_wp2
  go_loopw [5, 10] (fun v5 vi wr => ∃ j : Nat, j ≤ l.length ∧ vi = .int .i64 (j : Int) ∧ Hid (OwnO wr w.heap.size v5 ((l.take j).map (sugF rs)) ∧ Kept (fun _ => False) w wr)) (fun _ vi _ => l.length - (intOf vi).toNat)
  case atStart => exact ⟨0, Nat.zero_le _, rfl, OwnO.nil _ _, Kept.refl _ _⟩
  case round =>
    obtain ⟨j, hj, rfl, HI⟩ := hrel
    by_cases hlt : j < l.length
    · have hltz : (j : Int) < (l.length : Int) := by omega
      obtain ⟨x, hx⟩ : ∃ x, l[j]? = some x := ⟨l[j], by simp [hlt]⟩
      obtain ⟨g, o, rfl, hcap, c0, c1⟩ := Hat.out j x hx wr HI.out.2
      have hk1 := HI.out.2.alloc (.cells #[.int .i64 x.type, .string x.value] 51)
      have hlook := HF.out j x hx _ hk1
      obtain ⟨R, hR⟩ : ∃ R, R = (ruleF rs x.type).getD rl0 := ⟨_, rfl⟩
      rw [← hR] at hlook
      simp only [Bool.false_eq_true, if_false, rlV] at hlook
      have b0 := (BoxO.new wr x).c0
      have b1 := (BoxO.new wr x).c1
      have hO1 := HI.out.1.kept ((Kept.refl (fun _ => False) wr).alloc (.cells #[.int .i64 x.type, .string x.value] 51))
      have e1 : (l.take (j + 1)).map (sugF rs) = (l.take j).map (sugF rs) ++ [⟨x.type, R.suggest⟩] := by rw [take_next hx, List.map_append, hR]; rfl
      obtain ⟨p5, c5, h5⟩ := slice_of hO1
      rw [show ((l.take j).map (sugF rs)).length = j by simp; omega] at h5
      subst h5
      obtain ⟨v', w2, hr, ho2, hk2, _⟩ := pushO ⟨x.type, R.suggest⟩ hk1.size hO1 (by simp; omega)
      have HR : Hid (OwnO w2 w.heap.size v' ((l.take (j + 1)).map (sugF rs)) ∧ Kept (fun _ => False) w w2) :=
        ⟨by rw [e1]; exact ho2, hk1.andThen hk2 (fun i hi e => by have := hO1.baseB e; omega)⟩
      clear hk1 hO1 e1 ho2 hk2 hx HI hR
      unfold AppO at hr
      simp only at hr
      rw [show (wr.alloc (.cells #[.int .i64 x.type, .string x.value] 51)).heap.size = wr.heap.size + 1 by simp] at hr
      have hfl : ∀ W : World, Sem.run Try.prog (Instr.field 56 (.agg #[.int .i64 R.type, .int .i64 R.len, .int .i64 R.min, .int .i64 R.max, .string R.suggest]) 4) W = .ok (.string R.suggest) W := fun W => by kernel_rfl
      go_wp2_with (at_builtin; refine Lib.wpList_append_run _ rfl _ _ _ _ rfl _ _ rfl rfl _ _ (hr _) ?_)
      exact ⟨⟨j + 1, hlt, by go_num, HR.out⟩, by simp [intOf]; omega⟩
    · obtain rfl : j = l.length := by omega
      have hltz : ¬ (l.length : Int) < (l.length : Int) := by omega
      obtain ⟨hO, hk⟩ := HI.out
      rw [List.take_length] at hO
      have HO := hid hO
      clear hO HI hlt
      go_wp2
      go_ret
      exact ⟨_, rfl, HO.out, hk⟩
end Go.Proofs.Ytcmdfcdmfdheeaa
