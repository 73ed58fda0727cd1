/- What was put is got, of messages, as plain facts with no Go in them. -/
import Derived.Test.YtkneogfeokckjaaDoorMsIn
import Derived.Test.YtkneogfeokckjaaDoorAvBackP
namespace Go.Proofs.YtkneogfeokckjaaDoor
open Go.RowKit

theorem numAt_add (a r : ByteArray) (k j : Nat) (h : a.size = k) : numAt (a ++ r) (k + j) = numAt r j := by
  subst h
  unfold numAt
  rw [ba_app_data, Lib.size_eq a, ← List.drop_drop, List.drop_left]
theorem byteN_two (A B : UInt8) (r : ByteArray) : byteN (⟨#[A, B]⟩ ++ r) 0 = A.toNat ∧ byteN (⟨#[A, B]⟩ ++ r) 1 = B.toNat := by
  unfold byteN
  rw [ba_app_data]
  exact ⟨rfl, rfl⟩
/-- A head of four words, and what stands behind it. -/
theorem head_four (A B : UInt8) (Z t s : Nat) (hZ : Z < 65536) (ht : t < 65536) (hs : s < 65536) (r : ByteArray) :
    numAt (⟨#[A, B]⟩ ++ (two Z ++ (two t ++ (two s ++ r)))) 2 = Z ∧ numAt (⟨#[A, B]⟩ ++ (two Z ++ (two t ++ (two s ++ r)))) 4 = t ∧ numAt (⟨#[A, B]⟩ ++ (two Z ++ (two t ++ (two s ++ r)))) 6 = s ∧ (∀ j, numAt (⟨#[A, B]⟩ ++ (two Z ++ (two t ++ (two s ++ r)))) (8 + j) = numAt r j) := by
  have h0 : (⟨#[A, B]⟩ : ByteArray).size = 2 := rfl
  refine ⟨?_, ?_, ?_, fun j => ?_⟩
  · rw [show (2 : Nat) = 2 + 0 from rfl, numAt_add _ _ 2 0 h0, numAt_low Z _ hZ]
  · rw [show (4 : Nat) = 2 + (2 + 0) from rfl, numAt_add _ _ 2 _ h0, numAt_add _ _ 2 _ (two_size Z), numAt_low t _ ht]
  · rw [show (6 : Nat) = 2 + (2 + (2 + 0)) from rfl, numAt_add _ _ 2 _ h0, numAt_add _ _ 2 _ (two_size Z), numAt_add _ _ 2 _ (two_size t), numAt_low s _ hs]
  · rw [show 8 + j = 2 + (2 + (2 + (2 + j))) by omega, numAt_add _ _ 2 _ h0, numAt_add _ _ 2 _ (two_size Z), numAt_add _ _ 2 _ (two_size t), numAt_add _ _ 2 _ (two_size s)]
theorem tail_two (n r : Nat) (hn : n < 65536) (hr : r < 65536) (x : ByteArray) : numAt (two n ++ (two r ++ x)) 0 = n ∧ numAt (two n ++ (two r ++ x)) 2 = r := by
  refine ⟨numAt_low n _ hn, ?_⟩
  rw [show (2 : Nat) = 2 + 0 from rfl, numAt_add _ _ 2 0 (two_size n), numAt_low r _ hr]
theorem size_pair (A B : UInt8) : (⟨#[A, B]⟩ : ByteArray).size = 2 := rfl
theorem raw_size (t s n r : Int) (x : ByteArray) : (rawF t s n r x).size = 12 + x.size := by
  unfold rawF
  simp only [ByteArray.size_append, two_size, size_pair]
theorem raw_app (t s n r : Int) (x m : ByteArray) : rawF t s n r x ++ m = ⟨#[200, 2]⟩ ++ (two (x.size + 12) ++ (two t.toNat ++ (two s.toNat ++ (two n.toNat ++ (two r.toNat ++ (x ++ m)))))) := by
  unfold rawF
  simp only [ba_app_assoc]
theorem raw_ext (t s n r : Int) (x m : ByteArray) : (rawF t s n r x ++ m).extract 12 (x.size + 12) = x := by
  unfold rawF
  have h := ext_part (⟨#[200, 2]⟩ ++ two (x.size + 12) ++ two t.toNat ++ two s.toNat ++ two n.toNat ++ two r.toNat) x m
  rw [show ((⟨#[200, 2]⟩ : ByteArray) ++ two (x.size + 12) ++ two t.toNat ++ two s.toNat ++ two n.toNat ++ two r.toNat).size = 12 from by simp only [ByteArray.size_append, two_size, size_pair], Nat.add_comm 12] at h
  exact h
theorem wordsB_parts {a b c d : Int} (h : wordsB a b c d = true) : (0 ≤ a ∧ a ≤ 65535) ∧ (0 ≤ b ∧ b ≤ 65535) ∧ (0 ≤ c ∧ c ≤ 65535) ∧ (0 ≤ d ∧ d ≤ 65535) := by
  simp only [wordsB, wordB, Bool.and_eq_true, decide_eq_true_eq] at h
  omega
theorem putCF_ok {c : Ct} {s : ByteArray} (h : (putCF c s).2 = 0) : wordsB c.tunnel c.session c.ns c.nr = true ∧ (putAF c.avps s).2 = 0 ∧ (putCF c s).1 = rawF c.tunnel c.session c.ns c.nr (putAF c.avps s).1 := by
  unfold putCF at h ⊢
  by_cases hw : wordsB c.tunnel c.session c.ns c.nr = true
  · rw [if_pos hw] at h ⊢
    by_cases ha : (putAF c.avps s).2 = 0
    · rw [if_pos ha]
      exact ⟨hw, ha, rfl⟩
    · rw [if_neg ha] at h
      exact absurd h ha
  · rw [if_neg hw] at h
    cases h
/-- A message that was put is got, with whatever behind it. -/
theorem getCF_put {c : Ct} {s : ByteArray} (h : (putCF c s).2 = 0) (m : ByteArray) : getCF ((putCF c s).1 ++ m) s = (c, 0) := by
  obtain ⟨hw, ha, hp⟩ := putCF_ok h
  have hb := back_all ha
  have hsz := (putAF_ok ha).2.2.2
  rw [hp]
  generalize (putAF c.avps s).1 = x at *
  obtain ⟨⟨h1, h1'⟩, ⟨h2, h2'⟩, ⟨h3, h3'⟩, ⟨h4, h4'⟩⟩ := wordsB_parts hw
  have e := raw_app c.tunnel c.session c.ns c.nr x m
  obtain ⟨k2, k4, k6, k8⟩ := head_four 200 2 (x.size + 12) c.tunnel.toNat c.session.toNat (by omega) (by omega) (by omega) (two c.ns.toNat ++ (two c.nr.toNat ++ (x ++ m)))
  obtain ⟨j0, j2⟩ := tail_two c.ns.toNat c.nr.toNat (by omega) (by omega) (x ++ m)
  have k10 := k8 2
  have k8 := k8 0
  rw [j2] at k10
  rw [j0] at k8
  have kb := byteN_two 200 2 (two (x.size + 12) ++ (two c.tunnel.toNat ++ (two c.session.toNat ++ (two c.ns.toNat ++ (two c.nr.toNat ++ (x ++ m))))))
  rw [← e] at k2 k4 k6 k8 k10 kb
  have hx := raw_ext c.tunnel c.session c.ns c.nr x m
  have hs : (rawF c.tunnel c.session c.ns c.nr x ++ m).size = 12 + x.size + m.size := by rw [ByteArray.size_append, raw_size]
  generalize rawF c.tunnel c.session c.ns c.nr x ++ m = b at *
  unfold getCF
  rw [if_neg (by omega), if_neg (by rw [kb.1, kb.2]; decide), if_neg (by omega), if_neg (by omega), k2, hx, hb, if_pos rfl, k4, k6, k8, k10]
  obtain ⟨ct, cs, cn, cr, l⟩ := c
  simp only at h1 h2 h3 h4 ⊢
  rw [Int.toNat_of_nonneg h1, Int.toNat_of_nonneg h2, Int.toNat_of_nonneg h3, Int.toNat_of_nonneg h4]
/-- A control message's bytes are no data message's. -/
theorem raw_load {c : Ct} {s : ByteArray} (h : (putCF c s).2 = 0) : isCF (putCF c s).1 = true ∧ (getLF (putCF c s).1).2 = 4 ∧ 12 ≤ (putCF c s).1.size ∧ (putCF c s).1.size ≤ 1500 := by
  obtain ⟨hw, ha, hp⟩ := putCF_ok h
  have hsz := (putAF_ok ha).2.2.2
  rw [hp]
  generalize (putAF c.avps s).1 = x at *
  have e := raw_app c.tunnel c.session c.ns c.nr x ⟨#[]⟩
  rw [ba_app_nil] at e
  have kb := byteN_two 200 2 (two (x.size + 12) ++ (two c.tunnel.toNat ++ (two c.session.toNat ++ (two c.ns.toNat ++ (two c.nr.toNat ++ (x ++ (⟨#[]⟩ : ByteArray)))))))
  rw [← e] at kb
  have hs := raw_size c.tunnel c.session c.ns c.nr x
  generalize rawF c.tunnel c.session c.ns c.nr x = b at *
  refine ⟨?_, ?_, by omega, by omega⟩
  · unfold isCF
    rw [decide_eq_true (show 0 < b.size by omega), kb.1]
    rfl
  · unfold getLF
    rw [if_neg (by omega), if_pos (by rw [kb.1, kb.2]; decide)]
theorem seq_size (A B : UInt8) (Z t s n r : Nat) (x : ByteArray) : ((⟨#[A, B]⟩ : ByteArray) ++ two Z ++ two t ++ two s ++ two n ++ two r ++ x).size = 12 + x.size := by simp only [ByteArray.size_append, two_size, size_pair]
theorem load_size (A B : UInt8) (Z t s : Nat) (x : ByteArray) : ((⟨#[A, B]⟩ : ByteArray) ++ two Z ++ two t ++ two s ++ x).size = 8 + x.size := by simp only [ByteArray.size_append, two_size, size_pair]
/-- How a data message's bytes are. -/
theorem putLF_ok {l : Ld} (h : (putLF l).2 = 0) : wordsB l.tunnel l.session l.ns l.nr = true ∧ l.data.size ≤ 1460 ∧ ((l.seq = true ∧ (putLF l).1 = ⟨#[72, 2]⟩ ++ two (l.data.size + 12) ++ two l.tunnel.toNat ++ two l.session.toNat ++ two l.ns.toNat ++ two l.nr.toNat ++ l.data) ∨ (l.seq = false ∧ l.ns = 0 ∧ l.nr = 0 ∧ (putLF l).1 = ⟨#[64, 2]⟩ ++ two (l.data.size + 8) ++ two l.tunnel.toNat ++ two l.session.toNat ++ l.data)) := by
  unfold putLF at h ⊢
  by_cases hw : wordsB l.tunnel l.session l.ns l.nr = true ∧ (l.seq = true ∨ (l.ns = 0 ∧ l.nr = 0))
  · rw [if_pos hw] at h ⊢
    by_cases hl : 1460 < l.data.size
    · rw [if_pos hl] at h
      cases h
    · rw [if_neg hl] at h ⊢
      refine ⟨hw.1, by omega, ?_⟩
      cases hq : l.seq with
      | true => rw [if_pos rfl]; exact Or.inl ⟨rfl, rfl⟩
      | false =>
        rw [if_neg (by simp)]
        rcases hw.2 with h' | h'
        · rw [hq] at h'
          cases h'
        · exact Or.inr ⟨rfl, h'.1, h'.2, rfl⟩
  · rw [if_neg hw] at h
    cases h
theorem getLF_put {l : Ld} (h : (putLF l).2 = 0) (m : ByteArray) : getLF ((putLF l).1 ++ m) = (l, 0) := by
  obtain ⟨hw, hz, hp⟩ := putLF_ok h
  obtain ⟨⟨h1, h1'⟩, ⟨h2, h2'⟩, ⟨h3, h3'⟩, ⟨h4, h4'⟩⟩ := wordsB_parts hw
  obtain ⟨lt, ls, lq, ln, lr, x⟩ := l
  simp only at hw hz hp h1 h1' h2 h2' h3 h3' h4 h4'
  rcases hp with ⟨rfl, hp⟩ | ⟨rfl, rfl, rfl, hp⟩
  · rw [hp]
    have e : (⟨#[72, 2]⟩ : ByteArray) ++ two (x.size + 12) ++ two lt.toNat ++ two ls.toNat ++ two ln.toNat ++ two lr.toNat ++ x ++ m = ⟨#[72, 2]⟩ ++ (two (x.size + 12) ++ (two lt.toNat ++ (two ls.toNat ++ (two ln.toNat ++ (two lr.toNat ++ (x ++ m)))))) := by simp only [ba_app_assoc]
    obtain ⟨k2, k4, k6, k8⟩ := head_four 72 2 (x.size + 12) lt.toNat ls.toNat (by omega) (by omega) (by omega) (two ln.toNat ++ (two lr.toNat ++ (x ++ m)))
    obtain ⟨j0, j2⟩ := tail_two ln.toNat lr.toNat (by omega) (by omega) (x ++ m)
    have k10 := k8 2
    have k8 := k8 0
    rw [j2] at k10
    rw [j0] at k8
    have kb := byteN_two 72 2 (two (x.size + 12) ++ (two lt.toNat ++ (two ls.toNat ++ (two ln.toNat ++ (two lr.toNat ++ (x ++ m))))))
    rw [← e] at k2 k4 k6 k8 k10 kb
    have hx := ext_part (⟨#[72, 2]⟩ ++ two (x.size + 12) ++ two lt.toNat ++ two ls.toNat ++ two ln.toNat ++ two lr.toNat) x m
    rw [show ((⟨#[72, 2]⟩ : ByteArray) ++ two (x.size + 12) ++ two lt.toNat ++ two ls.toNat ++ two ln.toNat ++ two lr.toNat).size = 12 from by simp only [ByteArray.size_append, two_size, size_pair], Nat.add_comm 12] at hx
    have hs : ((⟨#[72, 2]⟩ : ByteArray) ++ two (x.size + 12) ++ two lt.toNat ++ two ls.toNat ++ two ln.toNat ++ two lr.toNat ++ x ++ m).size = 12 + x.size + m.size := by rw [ByteArray.size_append, seq_size]
    generalize (⟨#[72, 2]⟩ : ByteArray) ++ two (x.size + 12) ++ two lt.toNat ++ two ls.toNat ++ two ln.toNat ++ two lr.toNat ++ x ++ m = b at *
    have hk : byteN b 0 = 72 := kb.1
    have hh : headL b = 12 := by unfold headL; rw [if_pos hk]
    unfold getLF
    rw [if_neg (by omega), if_neg (by rw [kb.1, kb.2]; decide), if_neg (by omega), hh, if_neg (by omega), if_neg (by omega), if_pos hk, if_pos hk, decide_eq_true hk, k2, hx, k4, k6, k8, k10, Int.toNat_of_nonneg h1, Int.toNat_of_nonneg h2, Int.toNat_of_nonneg h3, Int.toNat_of_nonneg h4]
  · rw [hp]
    have e : (⟨#[64, 2]⟩ : ByteArray) ++ two (x.size + 8) ++ two lt.toNat ++ two ls.toNat ++ x ++ m = ⟨#[64, 2]⟩ ++ (two (x.size + 8) ++ (two lt.toNat ++ (two ls.toNat ++ (x ++ m)))) := by simp only [ba_app_assoc]
    obtain ⟨k2, k4, k6, _⟩ := head_four 64 2 (x.size + 8) lt.toNat ls.toNat (by omega) (by omega) (by omega) (x ++ m)
    have kb := byteN_two 64 2 (two (x.size + 8) ++ (two lt.toNat ++ (two ls.toNat ++ (x ++ m))))
    rw [← e] at k2 k4 k6 kb
    have hx := ext_part (⟨#[64, 2]⟩ ++ two (x.size + 8) ++ two lt.toNat ++ two ls.toNat) x m
    rw [show ((⟨#[64, 2]⟩ : ByteArray) ++ two (x.size + 8) ++ two lt.toNat ++ two ls.toNat).size = 8 from by simp only [ByteArray.size_append, two_size, size_pair], Nat.add_comm 8] at hx
    have hs : ((⟨#[64, 2]⟩ : ByteArray) ++ two (x.size + 8) ++ two lt.toNat ++ two ls.toNat ++ x ++ m).size = 8 + x.size + m.size := by rw [ByteArray.size_append, load_size]
    generalize (⟨#[64, 2]⟩ : ByteArray) ++ two (x.size + 8) ++ two lt.toNat ++ two ls.toNat ++ x ++ m = b at *
    have hk : byteN b 0 ≠ 72 := by rw [kb.1]; decide
    have hh : headL b = 8 := by unfold headL; rw [if_neg hk]
    unfold getLF
    rw [if_neg (by omega), if_neg (by rw [kb.1, kb.2]; decide), if_neg (by omega), hh, if_neg (by omega), if_neg (by omega), if_neg hk, if_neg hk, decide_eq_false hk, k2, hx, k4, k6, Int.toNat_of_nonneg h1, Int.toNat_of_nonneg h2]
/-- A data message's bytes are no control message's, whatever stands behind them. -/
theorem load_raw {l : Ld} (h : (putLF l).2 = 0) : isCF (putLF l).1 = false ∧ (putLF l).1.size ≤ 1472 ∧ ∀ m s, 12 ≤ m.size → (getCF ((putLF l).1 ++ m) s).2 = 4 := by
  obtain ⟨hw, hz, hp⟩ := putLF_ok h
  have main : ∀ (b : ByteArray) (A : UInt8) (r : ByteArray), A.toNat < 128 → 0 < b.size → b = ⟨#[A, 2]⟩ ++ r → isCF b = false ∧ ∀ m s, 12 ≤ m.size → (getCF (b ++ m) s).2 = 4 := by
    rintro b A r hA hb rfl
    have kb := (byteN_two A 2 r).1
    refine ⟨?_, fun m s hm => ?_⟩
    · unfold isCF
      rw [kb, decide_eq_false (show ¬ 128 ≤ A.toNat by omega), Bool.and_false]
    · rw [ba_app_assoc]
      have kb := (byteN_two A 2 (r ++ m)).1
      unfold getCF
      rw [if_neg (by rw [← ba_app_assoc, ByteArray.size_append]; omega), if_pos (by rw [kb]; omega)]
  rcases hp with ⟨_, hp⟩ | ⟨_, _, _, hp⟩
  · have hs : (putLF l).1.size = 12 + l.data.size := by rw [hp, seq_size]
    obtain ⟨h1, h2⟩ := main (putLF l).1 72 _ (by decide) (by omega) (by rw [hp]; simp only [ba_app_assoc]; rfl)
    exact ⟨h1, by omega, h2⟩
  · have hs : (putLF l).1.size = 8 + l.data.size := by rw [hp, load_size]
    obtain ⟨h1, h2⟩ := main (putLF l).1 64 _ (by decide) (by omega) (by rw [hp]; simp only [ba_app_assoc]; rfl)
    exact ⟨h1, by omega, h2⟩
end Go.Proofs.YtkneogfeokckjaaDoor
