/- '==' and '!=' of two data messages that are the same, by Go's comparison; and what avp.Put comes to at every list. -/
import Derived.Test.YtkneogfeokckjaaDoorMsArgs
import Derived.Test.YtkneogfeokckjaaDoorMsBackP
import Derived.DeepKeys
import Derived.WalkKit
namespace Go.Proofs.YtkneogfeokckjaaDoor
open Go.RowKit

def ldCells (l : Ld) : List Value := [.int .i64 l.tunnel, .int .i64 l.session, .bool l.seq, .int .i64 l.ns, .int .i64 l.nr, .string l.data]
theorem ldLits (d : Nat) {l : Ld} (h : LdNum l) (hx : l.data.size ≤ maxLen) : Tryd.prog.keyLits (d + 2) 26 (ldCells l) = some [.int .i64 l.tunnel, .int .i64 l.session, .bool l.seq, .int .i64 l.ns, .int .i64 l.nr, .string l.data.data.toList] := by
  have hb : ∀ q : Bool, Tryd.prog.keyLits (d + 1) 4 [.bool q] = some [.bool q] := fun q => by
    unfold Program.keyLits
    rw [Tryd.underlying4]
  have hn : ∀ z : Int, -9223372036854775808 ≤ z ∧ z ≤ 9223372036854775807 → Tryd.prog.keyLits (d + 1) 3 [.int .i64 z] = some [.int .i64 z] := fun z hz => by
    unfold Program.keyLits
    rw [Tryd.underlying3]
    simp [WalkArith.wf_i64 hz]
  have hs : Tryd.prog.keyLits (d + 1) 9 [.string l.data] = some [.string l.data.data.toList] := by
    unfold Program.keyLits
    rw [Tryd.underlying9]
    simp [hx]
  unfold Program.keyLits
  rw [Tryd.underlying26]
  simp [cellsLoad, cellsBoolV, cellsIntV, cellsStrV, ldCells, hb, hn _ h.1, hn _ h.2.1, hn _ h.2.2.1, hn _ h.2.2.2, hs]
set_option maxRecDepth 100000 in
theorem ld_eqIn {l : Ld} (h : LdNum l) (hx : l.data.size ≤ maxLen) (W : World) : Sem.run Tryd.prog (Op.equalIn 10000 26 (ldV l) (ldV l)) W = .ok true W := by
  have hk : Tryd.prog.keyTypeAt 2 26 = true := by kernel_rfl
  have hf : (ldV l).formed Tryd.prog 26 = true := by simp [ldV, Value.formed, Tryd.underlying26, cellsLoad]
  obtain ⟨r, hr, hiff⟩ := run_equalIn_deep (P := Tryd.prog) 9998 2 26 hk W 2 2 (ldV l) (ldV l) _ _ hf hf (ldLits 0 h hx) (ldLits 0 h hx)
  have hr' : (Op.equalIn 10000 26 (ldV l) (ldV l)).run Tryd.prog W = .ok r W := hr
  rw [hr', hiff.2 rfl]
theorem ld_neq {l : Ld} (h : LdNum l) (hx : l.data.size ≤ maxLen) (W : World) : (binOp .neq 26 (ldV l) (ldV l)).run Tryd.prog W = .ok (.bool false) W := by
  have e := ld_eqIn h hx W
  unfold ldV at e ⊢
  rw [run_neq_struct, e]
  rfl
theorem putA_light (u : Value) (l : List Av) (s : ByteArray) (w : World) (hI : AvsIn w u l) (hs : s.size ≤ 1000000) (hM : MaskAt w) : ∀ W, Kept (fun _ => False) w W → Calls Tryd.prog 23 #[u, .string s] W fun e w' => e = .returned (.tuple #[.string (putAF l s).1, .int .i64 (putAF l s).2]) ∧ Kept (fun _ => False) W w' := fun W hk => by
  by_cases h : 40 < l.length
  · exact putA_many u l s W (hI.kept hk).at_ h
  · exact putA_few u l s W (hI.kept hk).at_ (by omega) hs hI.size (fun _ _ => hM.kept hk)
theorem putAF_size (l : List Av) (s : ByteArray) : (putAF l s).1.size ≤ 1488 := by
  by_cases h : (putAF l s).2 = 0
  · exact (putAF_ok h).2.2.2
  · rw [putAF_err h]
    exact Nat.zero_le _
/-- msg.Put at every list. -/
theorem putM_any (c : Ct) (u : Value) (s : ByteArray) (w : World) (hI : AvsIn w u c.avps) (hs : s.size ≤ 1000000) (hM : MaskAt w) :
    Calls Tryd.prog 9 #[ctV c u, .string s] w fun e w' => e = .returned (.tuple #[.string (putCF c s).1, .int .i64 (putCF c s).2]) ∧ Kept (fun _ => False) w w' := by
  obtain ⟨p, k, rfl⟩ := RowsAt.slice hI.at_
  refine (mPut_any c.tunnel c.session c.ns c.nr p c.avps.length k s w (putAF c.avps s).1 (putAF c.avps s).2 (putA_light _ _ s w hI hs hM) (Nat.le_trans (putAF_size _ _) (by decide))).mono ?_
  rintro e w1 ⟨rfl, hk⟩
  refine ⟨?_, hk⟩
  unfold putCF
  by_cases hw : wordsB c.tunnel c.session c.ns c.nr = true
  · rw [if_pos hw, if_pos hw, if_pos hw]
    by_cases ha : (putAF c.avps s).2 = 0
    · rw [if_pos ha, if_pos ha, ha]
    · rw [if_neg ha, if_neg ha]
  · rw [if_neg hw, if_neg hw, if_neg hw]
end Go.Proofs.YtkneogfeokckjaaDoor
