/- A host as plain data: what each of its calls answers and leaves, with no Go in it. -/
import Derived.Test.YtffnppfoofifgaaGreatEtPlain
namespace Go.Proofs.YtffnppfoofifgaaGreat

/-- A host. -/
structure Hs where
  mac : List UInt8
  service : ByteArray
  uniq : ByteArray
  retry : Nat
  wait : Nat
  state : Int
  conc : List UInt8
  session : Int
  asked : List Fr
  again : Nat
  ticks : Nat

def mac0 : List UInt8 := [0, 0, 0, 0, 0, 0]
/-- A state that begins. -/
def Hs.at (h : Hs) (state : Int) (conc : List UInt8) (session : Int) (asked : List Fr) : Hs := ⟨h.mac, h.service, h.uniq, h.retry, h.wait, state, conc, session, asked, 0, 0⟩
def wantedF (h : Hs) : Tg := ⟨257, h.service⟩
def markF (h : Hs) : List Tg := if h.uniq.toList.isEmpty then [] else [⟨259, h.uniq⟩]
def padiF (h : Hs) : List Fr := etDisc everyF h.mac 9 0 ([wantedF h] ++ markF h)
def padrTags (h : Hs) (offered : List Tg) : List Tg := [wantedF h] ++ (if (findF offered 260).2 = 0 then [] else [⟨260, (findF offered 260).1⟩]) ++ markF h
def padrF (h : Hs) (conc : List UInt8) (offered : List Tg) : List Fr := etDisc conc h.mac 25 0 (padrTags h offered)
def mineF (h : Hs) (tags : List Tg) : Bool := h.uniq.toList.isEmpty || sameB (findF tags 259).1 h.uniq
def startF (h : Hs) : List Fr × Hs := if h.state = 0 ∨ h.state = 4 then (padiF h, h.at 1 mac0 0 (padiF h)) else ([], h)
def stopF (h : Hs) : List Fr × Hs := (if h.state = 3 then etDisc h.conc h.mac 167 h.session [] else [], h.at 0 mac0 0 [])
def tickF (h : Hs) : List Fr × Hs :=
  if h.state = 1 ∨ h.state = 2 then
    if h.ticks + 1 < h.wait * 2 ^ h.again then ([], { h with ticks := h.ticks + 1 })
    else if h.again = h.retry then ([], h.at 4 mac0 0 [])
    else (h.asked, { h with again := h.again + 1, ticks := 0 })
  else ([], h)
def newH (m : List UInt8) (service uniq : ByteArray) (retry wait : Nat) : Hs := ⟨m, service, uniq, retry, wait, 0, mac0, 0, [], 0, 0⟩

/-- What holds of every host that New made. -/
structure GoodH (h : Hs) : Prop where
  mac : h.mac.length = 6
  conc : h.conc.length = 6
  service : h.service.size ≤ 40
  uniq : h.uniq.size ≤ 40
  retry : h.retry ≤ 10
  wait1 : 1 ≤ h.wait
  wait : h.wait ≤ 100
  again : h.again ≤ h.retry
  ticks : h.ticks < h.wait * 2 ^ h.again
  asked : h.asked.length ≤ 1
  six : ∀ f ∈ h.asked, f.dst.length = 6 ∧ f.src.length = 6

theorem pow_le10 {n : Nat} (h : n ≤ 10) : 2 ^ n ≤ 1024 := Nat.pow_le_pow_right (by decide) h
theorem GoodH.span {h : Hs} (g : GoodH h) : h.wait * 2 ^ h.again ≤ 102400 := Nat.mul_le_mul g.wait (pow_le10 (Nat.le_trans g.again g.retry))
theorem GoodH.at {h : Hs} (g : GoodH h) (s : Int) {c : List UInt8} (hc : c.length = 6) (n : Int) {l : List Fr} (hl : l.length ≤ 1) (h6 : ∀ f ∈ l, f.dst.length = 6 ∧ f.src.length = 6) : GoodH (h.at s c n l) :=
  ⟨g.mac, hc, g.service, g.uniq, g.retry, g.wait1, g.wait, Nat.zero_le _, by show 0 < h.wait * 2 ^ 0; have := g.wait1; omega, hl, h6⟩
theorem etDisc_six' {to src : List UInt8} (hto : to.length = 6) (hsrc : src.length = 6) (code session : Int) (tags : List Tg) : ∀ f ∈ etDisc to src code session tags, f.dst.length = 6 ∧ f.src.length = 6 := by
  intro f hf
  unfold etDisc at hf
  split at hf
  · split at hf
    · simp only [List.mem_cons, List.not_mem_nil, or_false] at hf
      subst hf
      unfold etFrame
      split
      · exact ⟨hto, hsrc⟩
      · exact ⟨rfl, rfl⟩
    · simp at hf
  · simp at hf
theorem GoodH.start {h : Hs} (g : GoodH h) : GoodH (startF h).2 := by
  unfold startF
  split
  · exact g.at 1 rfl 0 (etDisc_len _ _ _ _ _) (etDisc_six' rfl g.mac _ _ _)
  · exact g
theorem GoodH.stop {h : Hs} (g : GoodH h) : GoodH (stopF h).2 := g.at 0 rfl 0 (by simp) (by simp)
theorem GoodH.tick {h : Hs} (g : GoodH h) : GoodH (tickF h).2 := by
  unfold tickF
  split
  · split
    · exact ⟨g.mac, g.conc, g.service, g.uniq, g.retry, g.wait1, g.wait, g.again, by assumption, g.asked, g.six⟩
    · split
      · exact g.at 4 rfl 0 (by simp) (by simp)
      · refine ⟨g.mac, g.conc, g.service, g.uniq, g.retry, g.wait1, g.wait, ?_, ?_, g.asked, g.six⟩
        · show h.again + 1 ≤ h.retry
          have := g.again
          omega
        · show 0 < h.wait * 2 ^ (h.again + 1)
          have := g.wait1
          exact Nat.mul_pos (by omega) (Nat.pow_pos (by decide))
  · exact g
theorem good_newH {m : List UInt8} (hm : m.length = 6) {s u : ByteArray} (hs : s.size ≤ 40) (hu : u.size ≤ 40) {r t : Nat} (hr : r ≤ 10) (h1 : 1 ≤ t) (h2 : t ≤ 100) : GoodH (newH m s u r t) :=
  ⟨hm, rfl, hs, hu, hr, h1, h2, Nat.zero_le _, by show 0 < t * 2 ^ 0; omega, by simp [newH], by simp [newH]⟩
end Go.Proofs.YtffnppfoofifgaaGreat
