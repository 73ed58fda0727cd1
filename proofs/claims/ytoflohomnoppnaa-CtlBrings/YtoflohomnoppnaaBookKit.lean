/- Rows of a call's own, of whatever elements: what an append leaves, where it lies, and of what was ahead nothing has turned. (No function of the program is named.) -/
import Derived.Test.YtoflohomnoppnaaKept
import Derived.OwnWalk
import Derived.Laws.IdiomCopy
import Derived.Maps.AppendAt
import Derived.Lib.Hide
namespace Go.Proofs.Ytoflohomnoppnaa
open Go.RowKit

section
variable {P : Program} {w : World} {base : Nat} {e : TypeId} {k n : Nat} {v : Value} {xs : List Value}

/-- How the list v became v': in place, or anew. -/
def Grew (w w' : World) (v v' : Value) (n m : Nat) : Prop :=
  (∃ g cap, v = .slice (some ⟨g, 0, none⟩) n cap ∧ v' = .slice (some ⟨g, 0, none⟩) (n + m) cap ∧ Kept (fun i => i = g) w w') ∨
    (∃ cap', v' = .slice (some ⟨w.heap.size, 0, none⟩) (n + m) cap' ∧ Kept (fun _ => False) w w' ∧ w.heap.size < w'.heap.size)

theorem owned_len (h : w.ownsRow base e k v n xs) : xs.length = n * k := h.1

theorem owned_of {g cap : Nat} {cur : Array Value} (hb : base ≤ g) (hg : w.heap[g]? = some (.cells cur e (0, 0))) (h1 : n ≤ cap) (h2 : cap ≤ maxLen) (h3 : cur.size = cap * k) (hx : xs.length = n * k) (h4 : cur.toList.take (n * k) = xs) :
    w.ownsRow base e k (.slice (some ⟨g, 0, none⟩) n cap) n xs := ⟨hx, Or.inr ⟨g, cap, cur, rfl, hb, hg, h1, h2, h3, h4⟩⟩

/-- The first elements of a row. -/
theorem owned_first {g cap m : Nat} (h : w.ownsRow base e k (.slice (some ⟨g, 0, none⟩) n cap) n xs) (hm : m ≤ n) : w.ownsRow base e k (.slice (some ⟨g, 0, none⟩) m cap) m (xs.take (m * k)) := by
  rcases h.2 with ⟨h', _⟩ | ⟨g', cap', cur, h', hb, hg, h1, h2, h3, h4⟩
  · simp at h'
  · simp only [Value.slice.injEq, Option.some.injEq, Addr.mk.injEq, and_true, true_and] at h'
    obtain ⟨rfl, rfl⟩ := h'
    have hmk : m * k ≤ n * k := Nat.mul_le_mul_right k hm
    refine owned_of hb hg (by omega) h2 h3 (by rw [List.length_take, h.1]; omega) ?_
    rw [← h4, List.take_take, Nat.min_eq_left hmk]

theorem owned_kept {w' : World} {S : Nat → Prop} (h : w.ownsRow base e k v n xs) (hk : Kept S w w') (hS : ∀ i, v.ownBlock = some i → ¬ S i) : w'.ownsRow base e k v n xs := by
  rcases h.2 with ⟨rfl, h0⟩ | ⟨g, cap, cur, rfl, hb, hg, h1, h2, h3, h4⟩
  · exact ⟨h.1, Or.inl ⟨rfl, h0⟩⟩
  · exact ⟨h.1, Or.inr ⟨g, cap, cur, rfl, hb, (hk.block g (Array.getElem?_eq_some_iff.1 hg).1 (hS g rfl)).trans hg, h1, h2, h3, h4⟩⟩

/-- Two rows of unlike elements do not share memory. -/
theorem owned_unlike {base' : Nat} {e' : TypeId} {k' n' : Nat} {v' : Value} {xs' : List Value} (h : w.ownsRow base e k v n xs) (h' : w.ownsRow base' e' k' v' n' xs') (hne : e ≠ e') : ∀ g, v.ownBlock = some g → v'.ownBlock ≠ some g := by
  intro g h1 h2
  rcases h.2 with ⟨rfl, _⟩ | ⟨g1, cap, cur, rfl, hb, hg, _⟩
  · cases h1
  · rcases h'.2 with ⟨rfl, _⟩ | ⟨g2, cap', cur', rfl, hb', hg', _⟩
    · cases h2
    · have e1 : g1 = g := by simpa [Value.ownBlock] using h1
      have e2 : g2 = g := by simpa [Value.ownBlock] using h2
      subst e1
      subst e2
      rw [hg] at hg'
      simp at hg'
      exact hne hg'.2

/-- 'append' of one element or more. -/
theorem owned_append {t : TypeId} {i0 : TypeInfo} {z : Value} {bytes : Nat} (ht : P.underlying t = some (.slice e)) (hi : P.info? e = some i0) (hz0 : i0.zero = some z) (hz1 : i0.size = k) (hz2 : i0.bytes = bytes) (hzs : z.cells.size = k) (hk : 0 < k)
    (h : w.ownsRow base e k v n xs) (hbase : base ≤ w.heap.size) (ad : Addr) (m c : Nat) (news : List Value) (hm : 0 < m) (hl : news.length = m * k) (hc : ∀ j u, news[j]? = some u → w.cell? (ad.add j) = some u) (h1 : ∀ u ∈ news, u.oneCell' = true) (hroom : n + m ≤ 1000000) (hby : bytes ≤ 1000) :
    ∃ v' w', (∀ ty, (Builtin.append_ #[t, t] ty #[v, .slice (some ad) m c]).run P w = .ok v' w') ∧ w'.ownsRow base e k v' (n + m) (xs ++ news) ∧ Grew w w' v v' n m := by
  subst hz1
  have hbig : (n + m) * bytes ≤ 1000000 * 1000 := Nat.mul_le_mul hroom hby
  rcases h.2 with ⟨rfl, h0⟩ | ⟨g, cap, cur, rfl, hb, hg, hn, hmx, hsz, htk⟩
  · subst h0
    have hx0 : xs = [] := List.eq_nil_of_length_eq_zero (by rw [h.1]; simp)
    subst hx0
    have hr := fun ty => run_append_nil (P := P) (w := w) t ty e i0 z ht hi hz0 ad m c news hl hc hm (by omega) (by rw [hz2]; rw [Nat.zero_add] at hbig; omega)
    obtain ⟨G, hG⟩ : ∃ G, G = grownCap w m 0 e := ⟨_, rfl⟩
    have hGn : m ≤ G := by rw [hG]; exact grownCap_ge w _ _ _
    have hGm : G ≤ maxLen := by rw [hG]; exact grownCap_le_maxLen w m 0 _ (by unfold maxLen; omega)
    rw [← hG] at hr
    refine ⟨_, _, hr, ?_, Or.inr ⟨G, by rw [Nat.zero_add], (Kept.refl _ w).drew.alloc _, by simp⟩⟩
    rw [List.nil_append, Nat.zero_add]
    refine owned_of hbase (heap_alloc_new w.drew _) hGn hGm ?_ hl ?_
    · rw [Array.size_append, size_zeroCells, List.size_toArray, hl, hzs, ← Nat.add_mul]
      congr 1
      omega
    · rw [Array.toList_append, List.take_append_of_le_length (by simp [hl])]
      exact List.take_of_length_le (by simp [hl])
  · by_cases hfit : n + m ≤ cap
    · obtain ⟨w', q1, q2, q3⟩ := run_append_fits (P := P) w base t 0 e i0 i0.size ht hi rfl g n cap xs h ad m c news hl hc h1 hfit
      exact ⟨_, w', fun ty => q1, q2, Or.inl ⟨g, cap, rfl, rfl, (Kept.refl _ w).grown q3 (fun j hj => Or.inr (Option.some.inj hj).symm)⟩⟩
    · have hr := fun ty => run_append_grow (P := P) w t ty e i0 z ht hi hz0 ⟨g, 0, none⟩ n cap xs h.1 (World.ownsRow.cells h rfl) ad m c news hl hc (by omega) (by omega) (by rw [hz2]; exact growslice_fits (by omega) (by omega))
      obtain ⟨G, hG⟩ : ∃ G, G = grownCap w (n + m) cap e := ⟨_, rfl⟩
      have hGn : n + m ≤ G := by rw [hG]; exact grownCap_ge w _ _ _
      have hGm : G ≤ maxLen := by rw [hG]; exact grownCap_le_maxLen w (n + m) cap _ (by unfold maxLen; omega)
      rw [← hG] at hr
      refine ⟨_, _, hr, ?_, Or.inr ⟨G, rfl, (Kept.refl _ w).drew.alloc _, by simp⟩⟩
      refine owned_of hbase (heap_alloc_new w.drew _) hGn hGm ?_ (by rw [List.length_append, h.1, hl, Nat.add_mul]) ?_
      · rw [Array.size_append, Array.size_append, size_zeroCells, List.size_toArray, List.size_toArray, h.1, hl, hzs, ← Nat.add_mul, ← Nat.add_mul]
        congr 1
        omega
      · rw [Array.toList_append, Array.toList_append, List.take_append_of_le_length (by simp [h.1, hl, Nat.add_mul])]
        exact List.take_of_length_le (by simp [h.1, hl, Nat.add_mul])

theorem Grew.below {w' : World} {v' : Value} {m : Nat} (h : Grew w w' v v' n m) (hown : w.ownsRow base e k v n xs) {w0 : World} (hw : Below base w0 w) (hb : base ≤ w.heap.size) : Below base w0 w' := by
  rcases h with ⟨g, cap, rfl, rfl, hk⟩ | ⟨cap', rfl, hk, _⟩
  · have := (World.ownsRow.lt hown g rfl).1
    exact hw.trans (hk.below hb (fun i hi => by subst hi; exact this))
  · exact hw.trans (hk.below hb (fun _ h => h.elim))
end
end Go.Proofs.Ytoflohomnoppnaa
