/- A right Padr, taken by a concentrator under way. -/
import Derived.Test.YtgaamehjdoakhaaDoorAcSameWalk
namespace Go.Proofs.YtgaamehjdoakhaaDoor
open Go.RowKit

/-- A right Padr, taken by a concentrator under way. -/
theorem ask_at {S : Nat → Prop} {W : World} {B : Nat} {c : Cs} (hA : CAt S W B c) (hg : Good c) (hT : Tabs W) (hmac : c.mac = m9) (hsec : c.secret = sB) {h : List UInt8} (hh : h.length = 6) (hne : ¬ h = m9) {u : ByteArray} (hu : u.size ≤ 900) :
    Calls Tryd.prog 12 #[.pointer (some ⟨B, 0, none⟩), frV (askedF h m9 25 0 (padrTags u (mk5 h))), .int .i64 6] W fun e w' => ∃ v f, e = .returned v ∧ f.dst = h ∧ OwnE w' W.heap.size v [f] ∧ CNext S W w' B (askS c h u) := by
  have hok : AskOk (padrTags u (mk5 h)) := padr_ok (by rw [mk5_size]; omega)
  have hc : checkB c.secret h eB (mk5 h) 6 = true := by rw [hsec]; exact check_make sB h eB 5 6 (Or.inl (by decide))
  have key := take_padr B c hg m9 h rfl hh (askedF h m9 25 0 (padrTags u (mk5 h))).data (hok.dsize (code := 25) (ses := 0) (by omega) (by omega) h m9) 6 (by unfold In64; omega) 0 (bytesT (padrTags u (mk5 h))) (padrTags u (mk5 h)) (by rw [bytesT_length]; have := hok.2.2; omega) (hok.get (code := 25) (ses := 0) (by omega) (by omega) h m9) hok.tags hok.few W hT.t hT.z hA (by rw [hmac]; exact hne) hmac.symm rfl
  rw [grant_padr hc] at key
  obtain ⟨f, hf, he⟩ := grant_one hg (h := h) (u := u) (by omega)
  rw [he] at key
  exact key.mono fun e w' ⟨v, he, ho, hn⟩ => ⟨v, f, he, hf, ho, hn⟩

/-- A row of frames is none of the concentrator's blocks. -/
theorem frames_apart {S : Nat → Prop} {W : World} {B base : Nat} {c : Cs} {v : Value} {l : List Fr} (hA : CAt S W B c) (ho : OwnE W base v l) : ∀ i, v.ownBlock = some i → ¬ S i := by
  obtain ⟨mb, gv, hC, hS⟩ := hA
  intro i hi hs
  rcases ho.2 with ⟨rfl, _⟩ | ⟨g, cap, cur, rfl, _, hh, _⟩
  · simp [Value.ownBlock] at hi
  · simp only [Value.ownBlock, Option.some.injEq] at hi
    subst hi
    rcases (hS g).1 hs with e | e | e
    · have h1 := hC.blk
      rw [← e, hh] at h1
      simp at h1
    · obtain ⟨es, clock, h2, _⟩ := hC.ses
      rw [← e, hh] at h2
      cases h2
    · obtain ⟨cur2, h2⟩ := OwnI.block hC.own e
      rw [hh] at h2
      simp at h2
end Go.Proofs.YtgaamehjdoakhaaDoor
