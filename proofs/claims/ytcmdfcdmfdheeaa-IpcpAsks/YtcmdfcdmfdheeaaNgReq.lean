/- The contracts of takeRequest and takeAck. -/
import Derived.Test.YtcmdfcdmfdheeaaNgDo
namespace Go.Proofs.Ytcmdfcdmfdheeaa
open Go.RowKit

/-- A packet that comes. -/
structure PkIn (W : World) (b : Nat) (a : Nm) (p : Pk0) (v : Value) : Prop where
  at_ : OptsAt W v p.opts
  far : p.opts = [] ∨ ∀ i, v.ownBlock = some i → ¬ Sn b a i
  fine : FineO p.opts
  data : p.data.size ≤ 140737488351232
theorem PkIn.kept0 {W W' : World} {b : Nat} {a : Nm} {p : Pk0} {v : Value} (h : PkIn W b a p v) (hk : Kept (fun _ => False) W W') : PkIn W' b a p v := ⟨h.at_.kept0 hk, h.far, h.fine, h.data⟩
theorem PkIn.step {W W' : World} {base b : Nat} {a a' : Nm} {n' : Ng} {p : Pk0} {v : Value} (h : PkIn W b a p v) (k : NNext W W' base b a a' n') : PkIn W' b a' p v := by
  refine ⟨h.at_.far h.far k.kept, ?_, h.fine, h.data⟩
  rcases h.far with h0 | h0
  · exact Or.inl h0
  · by_cases hne : p.opts = []
    · exact Or.inl hne
    · refine Or.inr fun i hi s => ?_
      rcases k.sn i s with h1 | h1
      · exact h0 i hi h1
      · have := optsAt_lt h.at_ hne hi
        omega
def pk00 : Pk0 := ⟨0, 0, [], ⟨#[]⟩⟩
theorem PkIn.cz {W : World} {base b : Nat} {a : Nm} {p : Pk0} {v : Value} (h : PkIn W b a p v) : CzAt W base b a ⟨p, pk00, []⟩ v (.slice none 0 0) none :=
  ⟨h.at_, h.far, h.fine, h.data, OwnO.nil _ _, (fun _ hi => by cases hi), fineNil, (fun e => absurd e (by simp [pk00]))⟩

def reqN (n : Ng) (rs : List Rl) (p : Pk0) : Ng × List Pk0 :=
  if (judgeF rs p.opts).1 = 2 then happenF ⟨p, ⟨(judgeF rs p.opts).1, p.id, (judgeF rs p.opts).2, ⟨#[]⟩⟩, rs⟩ { n with naks := 0 } 6
  else happenF ⟨p, ⟨(judgeF rs p.opts).1, p.id, (judgeF rs p.opts).2, ⟨#[]⟩⟩, rs⟩ n 7

theorem upTo_mem {f : Nat → Tg → List Tg} {l : List Tg} {j : Nat} {x : Tg} (h : x ∈ upTo f l j) : ∃ i t, i < j ∧ l[i]? = some t ∧ x ∈ f i t := by
  unfold upTo at h
  obtain ⟨i, hi, hx⟩ := List.mem_flatMap.1 h
  cases ht : l[i]? with
  | none => rw [ht] at hx; cases hx
  | some t => rw [ht] at hx; exact ⟨i, t, List.mem_range.1 hi, ht, hx⟩
theorem nakF_one (rs : List Rl) (l : List Tg) (i : Nat) (t : Tg) : (nakF rs l i t).length ≤ 1 := by unfold nakF; split; simp; split <;> simp
/-- Rules whose suggestions are short. -/
def ShortR (rs : List Rl) : Prop := ∀ r ∈ rs, r.suggest.size ≤ 140737488351232
theorem judgeF_fine {rs : List Rl} {l : List Tg} (h : FineO l) (hr : ShortR rs) : FineO (judgeF rs l).2 := by
  have hsub : ∀ x ∈ upTo (rejF rs l) l l.length, x ∈ l := fun x hx => by
    obtain ⟨i, t, _, ht, hx⟩ := upTo_mem hx
    unfold rejF at hx
    split at hx
    · rw [List.mem_singleton.1 hx]; exact List.mem_of_getElem? ht
    · cases hx
  unfold judgeF
  split
  · exact ⟨Nat.le_trans (upTo_rej_le _ _ _) h.1, fun x hx => h.2.1 x (hsub x hx), fun x hx => h.2.2 x (hsub x hx)⟩
  · split
    · have hn : ∀ x ∈ upTo (nakF rs l) l l.length, In64 x.type ∧ x.value.size ≤ 140737488351232 := fun x hx => by
        obtain ⟨i, t, _, ht, hx⟩ := upTo_mem hx
        unfold nakF at hx
        split at hx
        · cases hx
        · split at hx
          · cases hx
          · rw [List.mem_singleton.1 hx]
            refine ⟨h.2.1 t (List.mem_of_getElem? ht), ?_⟩
            simp only
            cases hf : ruleF rs t.type with
            | none => exact Nat.zero_le _
            | some r => exact hr r (List.mem_of_find?_eq_some hf)
      exact ⟨Nat.le_trans (upTo_le _ (nakF_one rs l) l _) h.1, fun x hx => (hn x hx).1, fun x hx => (hn x hx).2⟩
    · exact h

set_option maxHeartbeats 4000000 in
set_option maxRecDepth 100000 in
theorem takeRequest_any {base b : Nat} {a : Nm} {n : Ng} (p : Pk0) (v : Value) (mb : Nat) (rs : List Rl) (w : World) (h : NegIn w base b a n) (hp : PkIn w b a p v) (hB : BookIs w (.map (some mb)) rs) (hsr : ShortR rs) :
    Calls Try.prog 30 #[.pointer (some ⟨b, 0, none⟩), pkV p.code p.id v p.data, .map (some mb)] w fun e w' => ∃ vo, e = .returned vo ∧ Sent w w' base b a (reqN n rs p) vo := by
  unfold pkV
  obtain ⟨pv, cv, hv⟩ := hp.at_.1.slice
  have hk0 := (Kept.refl (fun _ => False) w).alloc (.cells #[.int .i64 p.code, .int .i64 p.id, v, .string p.data] 40)
  have O0 := hid (own4_new w 40 (.int .i64 p.code) (.int .i64 p.id) v (.string p.data))
  have hA := h.kept0 hk0
  have hPA := hp.kept0 hk0
  have hBA := hB.kept0 hk0
  have hbase : base ≤ w.heap.size := by have := h.lo; have := h.lt; omega
  generalize hAe : w.alloc (.cells #[.int .i64 p.code, .int .i64 p.id, v, .string p.data] 40) = A at *
  have HAe := hid hAe
  obtain ⟨⟨q0, q1, q2, q3⟩, _⟩ := O0.out
  have HJ := hid (judge_any (.map (some mb)) rs v p.opts A hBA hPA.at_ hPA.fine.1 hPA.fine.2.1 hPA.fine.2.2)
  have HF := hid (judgeF_fine hPA.fine hsr)
  have HN := hid hA
  have HP := hid hPA
  have HK0 := hid hk0
  have HBk := hid hBA
  subst hv
  unfold reqN
  generalize judgeF rs p.opts = J at *
  obtain ⟨R, hR⟩ : ∃ R, R = (if J.1 = 2 then happenF ⟨p, ⟨J.1, p.id, J.2, ⟨#[]⟩⟩, rs⟩ { n with naks := 0 } 6 else happenF ⟨p, ⟨J.1, p.id, J.2, ⟨#[]⟩⟩, rs⟩ n 7) := ⟨_, rfl⟩
  rw [← hR]
  have HR := hid hR
  clear hAe h hp hk0 hA hPA hR hB hBA
  go_enter Try.func30, Try.ntmps30
  go_upto_region 1 with fail
  rw [HAe.out]
  clear HAe
  go_wp2_with fail
  refine HJ.out.mono ?_
  rintro e w1 ⟨u, rfl, ho, hk1⟩
  have K1 := hid hk1
  obtain ⟨pu, cu, rfl⟩ := slice_of ho
  have HO := hid ho
  clear ho hk1
  all_goals
    obtain ⟨⟨q0, q1, q2, q3⟩, _⟩ := O0.out.kept K1.out
    have N1 := hid (NNext.of0 HN.out K1.out)
    have P1 := hid (HP.out.kept0 K1.out)
    have hs1 := K1.out.size
    have hs0 := HK0.out.size
    have Z1 : Hid (CzAt w1 base b a ⟨p, ⟨J.1, p.id, J.2, ⟨#[]⟩⟩, rs⟩ (.slice pv p.opts.length cv) (.slice pu J.2.length cu) (some mb)) :=
      ⟨P1.out.at_, P1.out.far, P1.out.fine, P1.out.data, HO.out.mono (show base ≤ A.heap.size by omega), (fun i hi s => by
        have h1 := HO.out.baseB hi
        have h2 := HN.out.sn_lt i s
        omega), HF.out, (fun _ => HBk.out.kept0 K1.out)⟩
    have ka := (Kept.refl (fun _ => False) w1).alloc (.cells #[.int .i64 p.code, .int .i64 p.id, .slice pv p.opts.length cv, .string p.data, .int .i64 J.1, .int .i64 p.id, .slice pu J.2.length cu, .string ⟨#[]⟩, .map (some mb)] 68)
    have X := cells9_new w1 68 (.int .i64 p.code) (.int .i64 p.id) (.slice pv p.opts.length cv) (.string p.data) (.int .i64 J.1) (.int .i64 p.id) (.slice pu J.2.length cu) (.string ⟨#[]⟩) (.map (some mb))
    have x0 := X 0 _ rfl
    have x1 := X 1 _ rfl
    have x2 := X 2 _ rfl
    have x3 := X 3 _ rfl
    have x4 := X 4 _ rfl
    have x5 := X 5 _ rfl
    have x6 := X 6 _ rfl
    have x7 := X 7 _ rfl
    have x8 := X 8 _ rfl
    have hufr : ∀ i, (Value.slice pu J.2.length cu).ownBlock = some i → w.heap.size ≤ i := fun i hi => by
      have h1 := HO.out.baseB hi
      omega
    by_cases hc : J.1 = 2
    · have hcz : (J.1 != 2) = false := by simp [hc]
      have HCC := hid hc
      clear hc
      have NA := N1.out.neg.kept0 ka
      have d10 := NA.n10
      have f10 := NA.fz 10
      have g := NA.good
      have N2 := NA.set (n' := { n with naks := 0 }) 10 (.int .i64 0) rfl ⟨g.au, g.fails, g.wait, g.id, ⟨by simp, by simp⟩, g.ticks, g.ups, g.downs, g.req, g.mine, g.theirs⟩ rfl rfl rfl rfl rfl rfl
      have NT := hid (NNext.before0 HK0.out ((N1.out.then0 ka).trans N2))
      have Z2 := hid ((Z1.out.kept0 ka).step NA N2)
      have hnS : ¬ Sn b a w1.heap.size := fun s => by have := N1.out.neg.sn_lt _ s; omega
      have X2 : Hid (Box8 _ w1.heap.size ⟨p, ⟨J.1, p.id, J.2, ⟨#[]⟩⟩, rs⟩ (.slice pv p.opts.length cv) (.slice pu J.2.length cu) (some mb)) := (show Box8 _ w1.heap.size ⟨p, ⟨J.1, p.id, J.2, ⟨#[]⟩⟩, rs⟩ (.slice pv p.opts.length cv) (.slice pu J.2.length cu) (some mb) from X).kept N2.kept hnS
      clear X NA N2 g HJ
      go_upto_region 6 with fail
      generalize hw3 : World.setCell _ ⟨b, 10, none⟩ (.int .i64 0) = w3 at *
      clear hw3 x0 x1 x2 x3 x4 x5 x6 x7 x8 d10 f10
      have x0 := X2.out 0 _ rfl
      have x1 := X2.out 1 _ rfl
      have x2 := X2.out 2 _ rfl
      have x3 := X2.out 3 _ rfl
      have x4 := X2.out 4 _ rfl
      have x5 := X2.out 5 _ rfl
      have x6 := X2.out 6 _ rfl
      have x7 := X2.out 7 _ rfl
      have x8 := X2.out 8 _ rfl
      have HH := hid (happen_any ⟨p, ⟨J.1, p.id, J.2, ⟨#[]⟩⟩, rs⟩ (.slice pv p.opts.length cv) (.slice pu J.2.length cu) (some mb) 6 ⟨by decide, by decide⟩ w3 NT.out.neg Z2.out)
      unfold czV at HH
      simp only at HH
      go_wp2_with fail
      refine HH.out.mono ?_
      rintro e w4 ⟨vo, rfl, vt, l, w5, N5, U⟩
      have HS := hid (Sent.of (NT.out.trans N5) U hufr)
      obtain ⟨po, co, rfl⟩ := slice_of U.out.row
      clear U N5
      go_wp2
      go_ret
      exact ⟨_, rfl, by rw [HR.out, if_pos HCC.out]; exact HS.out⟩
    · have hcz : (J.1 != 2) = true := by simpa using hc
      have HCC := hid hc
      clear hc
      have NA := N1.out.neg.kept0 ka
      have HH := hid (happen_any ⟨p, ⟨J.1, p.id, J.2, ⟨#[]⟩⟩, rs⟩ (.slice pv p.opts.length cv) (.slice pu J.2.length cu) (some mb) 7 ⟨by decide, by decide⟩ _ NA (Z1.out.kept0 ka))
      unfold czV at HH
      simp only at HH
      have NT := hid (NNext.before0 HK0.out (N1.out.then0 ka))
      clear X NA HJ
      go_wp2_with fail
      refine HH.out.mono ?_
      rintro e w4 ⟨vo, rfl, vt, l, w5, N5, U⟩
      have HS := hid (Sent.of (NT.out.trans N5) U hufr)
      obtain ⟨po, co, rfl⟩ := slice_of U.out.row
      clear U N5
      go_wp2
      go_ret
      exact ⟨_, rfl, by rw [HR.out, if_neg HCC.out]; exact HS.out⟩

end Go.Proofs.Ytcmdfcdmfdheeaa
