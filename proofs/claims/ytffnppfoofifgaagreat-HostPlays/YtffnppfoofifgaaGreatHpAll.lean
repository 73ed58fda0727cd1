/- The program's host and the document's one, as plain data: the same is asked, told and left, call by call (Start, Stop, Tick, State). · The document's host's Take at every frame, as one plain function. · Host.Take at every frame: what it answers and what is left of the host. · What is read of a frame is few: not many tags, none long, their types numbers of two bytes. So Host.Take's contract asks it of no one. · The program's host and the document's one, as plain data: Take, Data and Frame. · The program's host, the document's one and a book of frames in one memory: one lemma a call. · Both hosts at the same place, and how great their numbers stay. · The contract of host.New where it refuses; both hosts are made. · How a card, a frame and a list of what is done are read among the arguments. · How lists of structs among the arguments are read, whatever the struct (no function is named); and how great what they hold may be. · What a step of the law HostPlays calls, as pairs of calls; a new book; how both hosts and it begin, and how the book ends. · How a card is read among the arguments (of HostPlays); a block of a law's own. -/
import Derived.Test.YtffnppfoofifgaaGreatHrIn
import Derived.Test.YtffnppfoofifgaaGreatHrTake2
import Derived.Test.YtffnppfoofifgaaGreatHrTake3
import Derived.Test.YtffnppfoofifgaaGreatHrTake4
import Derived.Test.YtffnppfoofifgaaGreatHrTake5
import Derived.Test.YtffnppfoofifgaaGreatHrTake8
import Derived.Test.YtffnppfoofifgaaGreatHsTake
import Derived.Test.YtffnppfoofifgaaGreatHsTake2
import Derived.Test.YtffnppfoofifgaaGreatHsTake3
import Derived.Test.YtffnppfoofifgaaGreatHsTake4
import Derived.Test.YtffnppfoofifgaaGreatHsTake5
import Derived.Test.YtffnppfoofifgaaGreatHrFrame
import Derived.Test.YtffnppfoofifgaaGreatHsData
import Derived.Test.YtffnppfoofifgaaGreatHsFrame
import Derived.Test.YtffnppfoofifgaaGreatHsTick
import Derived.Test.YtffnppfoofifgaaGreatHrTick
import Derived.Test.YtffnppfoofifgaaGreatBeAll
import Derived.Test.YtffnppfoofifgaaGreatHsIn
import Derived.Test.YtffnppfoofifgaaGreatEtEq
import Derived.ChangeSlices
import Derived.ProofKit
import Derived.OpenShut
import Derived.SizedLaws
import Derived.Lib.SmallJoins
import Derived.Deep.Strs
import Derived.Below
import Derived.Test.YtffnppfoofifgaaGreatKept
import Derived.Test.YtffnppfoofifgaaGreatBeApart
namespace Go.Proofs.YtffnppfoofifgaaGreat
open Go.RowKit

/-- The program's host h and the document's host d stand at the same place. -/
structure TieH (h : Hs) (d : Hd) : Prop where
  mac : d.mac = h.mac
  service : d.service = h.service
  uniq : d.uniq = h.uniq
  retry : d.retry = (h.retry : Int)
  wait : d.wait = (h.wait : Int)
  state : d.state = h.state
  asks : h.state = 1 ∨ h.state = 2 → d.tries = (h.again : Int) ∧ d.ticks = (h.ticks : Int) ∧ h.asked = askD d
  two : h.state = 2 → h.conc = d.ac ∧ h.session = 0
  three : h.state = 3 → h.conc = d.ac ∧ h.session = d.session
  none : h.state ≠ 2 → h.state ≠ 3 → h.conc = mac0 ∧ h.session = 0
/-- What State tells of the program's host. -/
def showsH (h : Hs) : Int × List UInt8 × Int := (h.state, h.conc, h.session)
section
variable {h : Hs} {d : Hd}
theorem tie_new (m : List UInt8) (s u : ByteArray) (r t : Nat) : TieH (newH m s u r t) (newD m s u (r : Int) (t : Int)) :=
  ⟨rfl, rfl, rfl, rfl, rfl, rfl, fun e => (by rcases e with e | e <;> cases e), fun e => (by cases e), fun e => (by cases e), fun _ _ => ⟨rfl, rfl⟩⟩
theorem TieH.shows (t : TieH h d) : showsD d = showsH h := by
  unfold showsD showsH
  rw [t.state]
  by_cases h2 : h.state = 2
  · rw [if_pos h2, h2, (t.two h2).1, (t.two h2).2]
  · by_cases h3 : h.state = 3
    · rw [if_neg h2, if_pos h3, h3, (t.three h3).1, (t.three h3).2]
    · rw [if_neg h2, if_neg h3, (t.none h2 h3).1, (t.none h2 h3).2]
theorem TieH.padi (t : TieH h d) : padiF h = askD { d with state := 1, tries := 0 } := by
  unfold padiF askD askTags markD markF wantedF
  simp [t.mac, t.service, t.uniq]
theorem TieH.start (t : TieH h d) : (startF h).1 = (startD d).1 ∧ TieH (startF h).2 (startD d).2 := by
  unfold startF startD
  by_cases e : h.state = 0 ∨ h.state = 4
  · rw [if_pos e, if_pos (show d.state = 0 ∨ d.state = 4 by rw [t.state]; exact e)]
    refine ⟨t.padi, t.mac, t.service, t.uniq, t.retry, t.wait, rfl, fun _ => ⟨rfl, rfl, t.padi⟩, fun e => ?_, fun e => ?_, fun _ _ => ⟨rfl, rfl⟩⟩
    · exact absurd e (by show ¬ (1 : Int) = 2; decide)
    · exact absurd e (by show ¬ (1 : Int) = 3; decide)
  · rw [if_neg e, if_neg (show ¬ (d.state = 0 ∨ d.state = 4) by rw [t.state]; exact e)]
    exact ⟨rfl, t⟩
theorem TieH.stop (t : TieH h d) : (stopF h).1 = (stopD d).1 ∧ TieH (stopF h).2 (stopD d).2 := by
  unfold stopF stopD
  refine ⟨?_, t.mac, t.service, t.uniq, t.retry, t.wait, rfl, fun e => ?_, fun e => ?_, fun e => ?_, fun _ _ => ⟨rfl, rfl⟩⟩
  · simp only
    by_cases h3 : h.state = 3
    · rw [if_pos h3, if_pos (show d.state = 3 by rw [t.state]; exact h3), (t.three h3).1, (t.three h3).2, t.mac]
    · rw [if_neg h3, if_neg (show ¬ d.state = 3 by rw [t.state]; exact h3)]
  · exact absurd e (by show ¬ ((0 : Int) = 1 ∨ (0 : Int) = 2); decide)
  · exact absurd e (by show ¬ (0 : Int) = 2; decide)
  · exact absurd e (by show ¬ (0 : Int) = 3; decide)
theorem TieH.tick (t : TieH h d) (g : GoodH h) : (tickF h).1 = (tickD d).1 ∧ TieH (tickF h).2 (tickD d).2 := by
  unfold tickF tickD
  by_cases e : h.state = 1 ∨ h.state = 2
  · rw [if_pos e, if_pos (show d.state = 1 ∨ d.state = 2 by rw [t.state]; exact e)]
    obtain ⟨a1, a2, a3⟩ := t.asks e
    have hp : d.wait * 2 ^ d.tries.toNat = ((h.wait * 2 ^ h.again : Nat) : Int) := by
      rw [t.wait, a1]
      simp
    by_cases h1 : h.ticks + 1 < h.wait * 2 ^ h.again
    · rw [if_pos h1, if_pos (show d.ticks + 1 < d.wait * 2 ^ d.tries.toNat by rw [hp, a2]; omega)]
      exact ⟨rfl, t.mac, t.service, t.uniq, t.retry, t.wait, t.state, fun _ => ⟨a1, (by show d.ticks + 1 = ((h.ticks + 1 : Nat) : Int); rw [a2]; rfl), a3⟩, t.two, t.three, t.none⟩
    · rw [if_neg h1, if_neg (show ¬ d.ticks + 1 < d.wait * 2 ^ d.tries.toNat by rw [hp, a2]; omega)]
      have ha := g.again
      by_cases h2 : h.again = h.retry
      · rw [if_pos h2, if_pos (show d.retry ≤ d.tries by rw [t.retry, a1]; omega)]
        refine ⟨rfl, t.mac, t.service, t.uniq, t.retry, t.wait, rfl, fun e => ?_, fun e => ?_, fun e => ?_, fun _ _ => ⟨rfl, rfl⟩⟩
        · exact absurd e (by show ¬ ((4 : Int) = 1 ∨ (4 : Int) = 2); decide)
        · exact absurd e (by show ¬ (4 : Int) = 2; decide)
        · exact absurd e (by show ¬ (4 : Int) = 3; decide)
      · rw [if_neg h2, if_neg (show ¬ d.retry ≤ d.tries by rw [t.retry, a1]; omega)]
        exact ⟨a3, t.mac, t.service, t.uniq, t.retry, t.wait, t.state, fun _ => ⟨(by show d.tries + 1 = ((h.again + 1 : Nat) : Int); rw [a1]; rfl), rfl, a3⟩, t.two, t.three, t.none⟩
  · rw [if_neg e, if_neg (show ¬ (d.state = 1 ∨ d.state = 2) by rw [t.state]; exact e)]
    exact ⟨rfl, t⟩
end
end Go.Proofs.YtffnppfoofifgaaGreat

namespace Go.Proofs.YtffnppfoofifgaaGreat
open Go.RowKit

/-- The document's host that took an offer. -/
def choseD (h : Hd) (src : List UInt8) (l : List Tg) : Hd := { h with state := 2, ac := src, cookie := (findF l 260).1, has := decide (0 < (findF l 260).2), tries := 0 }
/-- What the document's host makes of a packet that came to its card. -/
def takeDB (h : Hd) (src : List UInt8) (d : Dc) (l : List Tg) : List Fr × Hd :=
  if h.state = 1 ∧ d.code = 7 ∧ d.session = 0 then
    (if (offB h.service l && mineD h l) = true then (askD (choseD h src l), { choseD h src l with ticks := 0 }) else ([], h))
  else if h.state = 2 ∧ d.code = 101 ∧ src = h.ac ∧ mineD h l = true then ([], { h with state := if d.session = 0 then 4 else 3, session := (d.session : Int) })
  else if h.state = 3 ∧ d.code = 167 ∧ src = h.ac ∧ (d.session : Int) = h.session then ([], { h with state := 0 })
  else ([], h)
def takeD (h : Hd) (f : Fr) : List Fr × Hd := if f.dst = h.mac ∧ (getE f).2.2 = true then takeDB h f.src (getE f).1 (getE f).2.1 else ([], h)

set_option maxHeartbeats 2000000 in
theorem rTake_any (b : Nat) (h : Hd) (hg : GoodD h) (f : Fr) (hdst : f.dst.length = 6) (hsrc : f.src.length = 6) (hsz : f.data.size ≤ 1000000) (hl : (getE f).2.1.length ≤ 1000000) (hls : ∀ t ∈ (getE f).2.1, t.value.size ≤ 1000000) (hck : (findF (getE f).2.1 260).1.size ≤ 1000000) (w : World) (H : HdIn w b h) :
    Calls Tryz.prog 18 #[.pointer (some ⟨b, 0, none⟩), frV f] w fun e w' => ∃ u, e = .returned u ∧ OwnE w' w.heap.size u (takeD h f).1 ∧ HdIn w' b (takeD h f).2 ∧ Kept (fun i => i = b) w w' := by
  obtain ⟨dst, src, ty, x⟩ := f
  simp only [] at hdst hsrc hsz
  obtain ⟨dc, l, ok, hge⟩ : ∃ d l ok, getE ⟨dst, src, ty, x⟩ = (d, l, ok) := ⟨_, _, _, rfl⟩
  rw [hge] at hl hls hck
  simp only [] at hl hls hck
  unfold takeD
  rw [hge]
  simp only []
  cases ok with
  | false =>
    rw [if_neg (fun e => by cases e.2)]
    exact rTake_unread b h hg dst src hdst hsrc ty x hsz w H (by rw [hge])
  | true =>
    by_cases hm : dst = h.mac
    · rw [if_pos ⟨hm, rfl⟩]
      unfold takeDB
      by_cases h1 : h.state = 1
      · have n2 : ¬ h.state = 2 := by omega
        have n3 : ¬ h.state = 3 := by omega
        by_cases hcd : dc.code = 7
        · by_cases hss : dc.session = 0
          · rw [if_pos ⟨h1, hcd, hss⟩]
            by_cases hno : (offB h.service l && mineD h l) = true
            · rw [if_pos hno]
              rw [Bool.and_eq_true] at hno
              unfold choseD
              by_cases hN : 0 < (findF l 260).2
              · rw [decide_eq_true hN]
                exact rTake_1has b h hg dst src hdst hsrc ty x hsz w H dc l hl hls hge hm hno.2 h1 hcd hss hno.1 _ _ rfl rfl hck hN
              · rw [decide_eq_false hN]
                exact rTake_1none b h hg dst src hdst hsrc ty x hsz w H dc l hl hls hge hm hno.2 h1 hcd hss hno.1 _ _ rfl rfl hck hN
            · rw [if_neg hno]
              exact rTake_1no b h hg dst src hdst hsrc ty x hsz w H dc l hl hls hge hm h1 hcd hss (by simpa using hno)
          · rw [if_neg (fun e => hss e.2.2), if_neg (fun e => n2 e.1), if_neg (fun e => n3 e.1)]
            exact rTake_1ses b h hg dst src hdst hsrc ty x hsz w H dc l hl hls hge hm h1 hcd hss
        · rw [if_neg (fun e => hcd e.2.1), if_neg (fun e => n2 e.1), if_neg (fun e => n3 e.1)]
          exact rTake_1code b h hg dst src hdst hsrc ty x hsz w H dc l hl hls hge hm h1 hcd
      · rw [if_neg (fun e => h1 e.1)]
        by_cases h2 : h.state = 2
        · have n3 : ¬ h.state = 3 := by omega
          by_cases hcd : dc.code = 101
          · by_cases hc : src = h.ac
            · by_cases hmi : mineD h l = true
              · rw [if_pos ⟨h2, hcd, hc, hmi⟩]
                by_cases hss : dc.session = 0
                · rw [if_pos hss]
                  exact rTake_2zero b h hg dst src hdst hsrc ty x hsz w H dc l hl hls hge hm hmi h2 hcd hc hss
                · rw [if_neg hss]
                  exact rTake_2live b h hg dst src hdst hsrc ty x hsz w H dc l hl hls hge hm hmi h2 hcd hc hss
              · rw [if_neg (fun e => hmi e.2.2.2), if_neg (fun e => n3 e.1)]
                exact rTake_2mine b h hg dst src hdst hsrc ty x hsz w H dc l hl hls hge hm (by simpa using hmi) h2 hcd hc
            · rw [if_neg (fun e => hc e.2.2.1), if_neg (fun e => n3 e.1)]
              exact rTake_2src b h hg dst src hdst hsrc ty x hsz w H dc l hl hls hge hm h2 hcd hc
          · rw [if_neg (fun e => hcd e.2.1), if_neg (fun e => n3 e.1)]
            exact rTake_2code b h hg dst src hdst hsrc ty x hsz w H dc l hl hls hge hm h2 hcd
        · rw [if_neg (fun e => h2 e.1)]
          by_cases h3 : h.state = 3
          · by_cases hcd : dc.code = 167
            · by_cases hc : src = h.ac
              · by_cases hss : (dc.session : Int) = h.session
                · rw [if_pos ⟨h3, hcd, hc, hss⟩]
                  exact rTake_3end b h hg dst src hdst hsrc ty x hsz w H dc l hl hls hge hm h3 hcd hc hss
                · rw [if_neg (fun e => hss e.2.2.2)]
                  exact rTake_3ses b h hg dst src hdst hsrc ty x hsz w H dc l hl hls hge hm h3 hcd hc hss
              · rw [if_neg (fun e => hc e.2.2.1)]
                exact rTake_3src b h hg dst src hdst hsrc ty x hsz w H dc l hl hls hge hm h3 hcd hc
            · rw [if_neg (fun e => hcd e.2.1)]
              exact rTake_3code b h hg dst src hdst hsrc ty x hsz w H dc l hl hls hge hm h3 hcd
          · rw [if_neg (fun e => h3 e.1)]
            exact rTake_idle b h hg dst src hdst hsrc ty x hsz w H dc l hl hls hge hm ⟨h1, h2, h3⟩
    · rw [if_neg (fun e => hm e.1)]
      exact rTake_other b h hg dst src hdst hsrc ty x hsz w H (by rw [hge]) hm
end Go.Proofs.YtffnppfoofifgaaGreat

namespace Go.Proofs.YtffnppfoofifgaaGreat
open Go.RowKit

/-- What a host makes of a packet that came to its card. -/
def takeB (h : Hs) (src : List UInt8) (d : Dc) (l : List Tg) : List Fr × Hs :=
  if h.state = 1 ∧ d.code = 7 ∧ d.session = 0 then chooseF h src l
  else if h.state = 2 ∧ d.code = 101 ∧ src = h.conc ∧ mineF h l = true then ([], settleF h (d.session : Int))
  else if h.state = 3 ∧ d.code = 167 ∧ src = h.conc ∧ (d.session : Int) = h.session then ([], h.at 0 mac0 0 [])
  else ([], h)
def takeH (h : Hs) (f : Fr) : List Fr × Hs := if f.dst = h.mac ∧ (getE f).2.2 = true then takeB h f.src (getE f).1 (getE f).2.1 else ([], h)

theorem GoodH.choose {h : Hs} (g : GoodH h) {src : List UInt8} (hs : src.length = 6) (l : List Tg) : GoodH (chooseF h src l).2 := by
  unfold chooseF
  split
  · exact g.at 2 hs 0 (etDisc_len _ _ _ _ _) (etDisc_six' hs g.mac _ _ _)
  · exact g
theorem GoodH.settle {h : Hs} (g : GoodH h) (n : Int) : GoodH (settleF h n) := by
  unfold settleF
  split
  · exact g.at 4 rfl 0 (by simp) (by simp)
  · exact g.at 3 g.conc n (by simp) (by simp)
theorem GoodH.take {h : Hs} (g : GoodH h) {f : Fr} (hs : f.src.length = 6) : GoodH (takeH h f).2 := by
  unfold takeH takeB
  split
  · split
    · exact g.choose hs _
    · split
      · exact g.settle _
      · split
        · exact g.at 0 rfl 0 (by simp) (by simp)
        · exact g
  · exact g

set_option maxHeartbeats 1000000 in
theorem takeH_any {S : Nat → Prop} (b : Nat) (h : Hs) (hg : GoodH h) (f : Fr) (hdst : f.dst.length = 6) (hsrc : f.src.length = 6) (hsz : f.data.size ≤ 1000000) (hfew : FewT (getE f).2.1) (w : World) (hA : HAt S w b h) :
    Calls Tryz.prog 17 #[.pointer (some ⟨b, 0, none⟩), frV f] w fun e w' => ∃ u, e = .returned u ∧ HOut S w w' b (takeH h f).2 u (takeH h f).1 := by
  obtain ⟨dst, src, ty, x⟩ := f
  simp only [] at hdst hsrc hsz
  by_cases hmac : dst = h.mac
  · obtain ⟨⟨code, ses, D⟩, l, ok, hge⟩ : ∃ d l ok, getE ⟨dst, src, ty, x⟩ = (d, l, ok) := ⟨_, _, _, rfl⟩
    unfold takeH
    rw [hge]
    rw [hge] at hfew
    simp only [] at hfew ⊢
    cases ok with
    | false =>
      rw [if_neg (by simp)]
      exact take_unread b h hg dst src hdst hsrc ty x hsz code ses D l hge w hA hmac
    | true =>
      rw [if_pos ⟨hmac, rfl⟩]
      unfold takeB
      simp only []
      by_cases h1 : h.state = 1
      · by_cases hcd : code = 7
        · by_cases hss : ses = 0
          · rw [if_pos ⟨h1, hcd, hss⟩]
            exact take_1 b h hg dst src hdst hsrc ty x hsz code ses D l hge hfew w hA hmac h1 hcd hss
          · rw [if_neg (by omega), if_neg (by omega), if_neg (by omega)]
            exact take_1ses b h hg dst src hdst hsrc ty x hsz code ses D l hge hfew w hA hmac h1 hcd hss
        · rw [if_neg (by omega), if_neg (by omega), if_neg (by omega)]
          exact take_1code b h hg dst src hdst hsrc ty x hsz code ses D l hge hfew w hA hmac h1 hcd
      · by_cases h2 : h.state = 2
        · rw [if_neg (by omega)]
          by_cases hcd : code = 101
          · by_cases hc : src = h.conc
            · cases hm : mineF h l with
              | true =>
                rw [if_pos ⟨h2, hcd, hc, rfl⟩]
                exact take_2 b h hg dst src hdst hsrc ty x hsz code ses D l hge hfew w hA hmac h2 hcd hc hm
              | false =>
                rw [if_neg (by simp), if_neg (by omega)]
                exact take_2mine b h hg dst src hdst hsrc ty x hsz code ses D l hge hfew w hA hmac h2 hcd hc hm
            · rw [if_neg (fun e => hc e.2.2.1), if_neg (by omega)]
              exact take_2src b h hg dst src hdst hsrc ty x hsz code ses D l hge hfew w hA hmac h2 hcd hc
          · rw [if_neg (fun e => hcd e.2.1), if_neg (by omega)]
            exact take_2code b h hg dst src hdst hsrc ty x hsz code ses D l hge hfew w hA hmac h2 hcd
        · by_cases h3 : h.state = 3
          · rw [if_neg (by omega), if_neg (fun e => h2 e.1)]
            by_cases hcd : code = 167
            · by_cases hc : src = h.conc
              · by_cases hss : (ses : Int) = h.session
                · rw [if_pos ⟨h3, hcd, hc, hss⟩]
                  exact take_3 b h hg dst src hdst hsrc ty x hsz code ses D l hge hfew w hA hmac h3 hcd hc hss
                · rw [if_neg (fun e => hss e.2.2.2)]
                  exact take_3ses b h hg dst src hdst hsrc ty x hsz code ses D l hge hfew w hA hmac h3 hcd hc hss
              · rw [if_neg (fun e => hc e.2.2.1)]
                exact take_3src b h hg dst src hdst hsrc ty x hsz code ses D l hge hfew w hA hmac h3 hcd hc
            · rw [if_neg (fun e => hcd e.2.1)]
              exact take_3code b h hg dst src hdst hsrc ty x hsz code ses D l hge hfew w hA hmac h3 hcd
          · rw [if_neg (by omega), if_neg (fun e => h2 e.1), if_neg (fun e => h3 e.1)]
            exact take_other b h hg dst src hdst hsrc ty x hsz code ses D l hge hfew w hA hmac h1 h2 h3
  · unfold takeH
    rw [if_neg (fun e => hmac e.1)]
    exact take_else b h hg dst src hdst hsrc ty x hsz w hA hmac
end Go.Proofs.YtffnppfoofifgaaGreat

namespace Go.Proofs.YtffnppfoofifgaaGreat
open Go.RowKit

theorem numOf_two {l : List UInt8} : numOf (l.take 2) < 65536 := by
  refine Nat.lt_of_lt_of_le (numOf_lt _) ?_
  have : (l.take 2).length ≤ 2 := by rw [List.length_take]; omega
  exact Nat.le_trans (Nat.pow_le_pow_right (by decide) this) (by decide)
theorem tagsN_few (n : Nat) : ∀ (l : List UInt8) (acc : List Tg), acc.length ≤ 20 → (∀ x ∈ acc, x.value.size ≤ 1000000 ∧ (Lit.int .i64 x.type).wf = true) → (tagsN n l acc).1.length ≤ 20 ∧ ∀ x ∈ (tagsN n l acc).1, x.value.size ≤ 1000000 ∧ (Lit.int .i64 x.type).wf = true := by
  induction n with
  | zero => intro l acc _ _; simp [tagsN]
  | succ n ih =>
    intro l acc ha hx
    simp only [tagsN]
    split
    · exact ⟨ha, hx⟩
    · split
      · simp
      · split
        · simp
        · split
          · simp
          · refine ih _ _ (by rw [List.length_append]; simp; omega) (fun x hm => ?_)
            rcases List.mem_append.1 hm with hm | hm
            · exact hx x hm
            · simp only [List.mem_cons, List.not_mem_nil, or_false] at hm
              subst hm
              refine ⟨?_, ?_⟩
              · rw [Lib.size_eq]
                show ((l.drop 4).take _).length ≤ _
                have := numOf_two (l := l.drop 2)
                rw [List.length_take]
                omega
              · have := numOf_two (l := l)
                exact WalkArith.wf_i64 (by constructor <;> simp only [] <;> omega)
theorem getE_few (f : Fr) : FewT (getE f).2.1 := by
  unfold getE
  split
  · exact ⟨by simp, by simp⟩
  · split
    · exact ⟨by simp, by simp⟩
    · split
      · exact ⟨by simp, by simp⟩
      · have h := tagsN_few ((getDiscF f.data.data.toList).1.data.length + 1) (getDiscF f.data.data.toList).1.data [] (by simp) (by simp)
        exact ⟨Nat.le_trans h.1 (by decide), h.2⟩
/-- 'Take(f)', whatever f is. -/
theorem take_all {S : Nat → Prop} (b : Nat) (h : Hs) (hg : GoodH h) (f : Fr) (hdst : f.dst.length = 6) (hsrc : f.src.length = 6) (hsz : f.data.size ≤ 1000000) (w : World) (hA : HAt S w b h) :
    Calls Tryz.prog 17 #[.pointer (some ⟨b, 0, none⟩), frV f] w fun e w' => ∃ u, e = .returned u ∧ HOut S w w' b (takeH h f).2 u (takeH h f).1 := takeH_any b h hg f hdst hsrc hsz (getE_few f) w hA
end Go.Proofs.YtffnppfoofifgaaGreat

namespace Go.Proofs.YtffnppfoofifgaaGreat
open Go.RowKit

theorem toList_same (a b : ByteArray) : (a.toList == b.toList) = (a.data.toList == b.data.toList) := by
  rw [Bool.eq_iff_iff, beq_iff_eq, beq_iff_eq, ByteArray.toList_eq, ByteArray.toList_eq]
theorem findF_gone {l : List Tg} {k : Int} (h : (findF l k).2 = 0) : (findF l k).1 = ⟨#[]⟩ := by
  suffices hs : ∀ (l : List Tg) (s : ByteArray × Nat), (s.2 = 0 → s.1 = ⟨#[]⟩) → (l.foldl (findOn k) s).2 = 0 → (l.foldl (findOn k) s).1 = ⟨#[]⟩ from hs l (⟨#[]⟩, 0) (fun _ => rfl) h
  intro l
  induction l with
  | nil => exact fun s hs h0 => hs h0
  | cons t l ih =>
    intro s hs h0
    refine ih (findOn k s t) (fun h1 => ?_) h0
    by_cases ht : t.type = k
    · exfalso
      rw [findOn_yes ht] at h1
      simp at h1
    · rw [findOn_no ht] at h1 ⊢
      exact hs h1
theorem off_same (service : ByteArray) (l : List Tg) : hasT l ⟨257, service⟩ = offB service l := by
  unfold hasT offB sameT
  congr 1
  funext t
  rw [toList_same]
  rw [Bool.eq_iff_iff]
  simp only [Bool.and_eq_true, beq_iff_eq, decide_eq_true_iff]
  constructor
  · rintro ⟨h1, h2⟩
    exact ⟨h1.symm, h2.symm⟩
  · rintro ⟨h1, h2⟩
    exact ⟨h1.symm, h2.symm⟩
section
variable {h : Hs} {d : Hd}
theorem TieH.mine (t : TieH h d) (l : List Tg) : mineF h l = mineD d l := by
  unfold mineF mineD sameB
  rw [t.uniq]
  by_cases hu : h.uniq.toList.isEmpty = true
  · rw [hu]
    rfl
  · have hu0 : h.uniq.toList.isEmpty = false := by simpa using hu
    rw [hu0, ← toList_same]
    by_cases hn : 0 < (findF l 259).2
    · rw [decide_eq_true hn]
      simp
    · rw [decide_eq_false hn]
      have he := findF_gone (l := l) (k := 259) (by omega)
      rw [he]
      have h1 : ((⟨#[]⟩ : ByteArray).toList == h.uniq.toList) = false := by
        rw [beq_eq_false_iff_ne]
        intro e
        apply hu
        rw [← e, ByteArray.toList_eq]
        rfl
      rw [h1]
      rfl
theorem TieH.data (t : TieH h d) (f : Fr) : dataH h f = dataD d f := by
  unfold dataH dataD
  by_cases h3 : h.state = 3
  · rw [t.state, t.mac, (t.three h3).1, (t.three h3).2]
  · rw [if_neg (fun e => h3 e.1), if_neg (fun e => h3 (t.state.symm.trans e.1))]
theorem TieH.frame (t : TieH h d) (x : ByteArray) : frameH h x = frameD d x := by
  unfold frameH frameD
  by_cases h3 : h.state = 3
  · rw [if_pos h3, if_pos (t.state.trans h3), t.mac, (t.three h3).1, (t.three h3).2]
  · rw [if_neg h3, if_neg (fun e => h3 (t.state.symm.trans e))]
theorem TieH.padr (t : TieH h d) (src : List UInt8) (l : List Tg) : padrF h src l = askD (choseD d src l) := by
  unfold padrF askD choseD padrTags askTags markD markF wantedF
  simp only [if_true]
  rw [t.mac, t.service, t.uniq]
  by_cases hn : (findF l 260).2 = 0
  · simp [hn]
  · have hp : 0 < (findF l 260).2 := by omega
    simp [hn, hp]
theorem TieH.take (t : TieH h d) (f : Fr) : (takeH h f).1 = (takeD d f).1 ∧ TieH (takeH h f).2 (takeD d f).2 := by
  unfold takeH takeD
  by_cases h0 : f.dst = h.mac ∧ (getE f).2.2 = true
  · rw [if_pos h0, if_pos (show f.dst = d.mac ∧ (getE f).2.2 = true by rw [t.mac]; exact h0)]
    unfold takeB takeDB
    by_cases c1 : h.state = 1 ∧ (getE f).1.code = 7 ∧ (getE f).1.session = 0
    · rw [if_pos c1, if_pos (show d.state = 1 ∧ (getE f).1.code = 7 ∧ (getE f).1.session = 0 by rw [t.state]; exact c1)]
      unfold chooseF
      have hw : hasT (getE f).2.1 (wantedF h) = offB d.service (getE f).2.1 := by rw [t.service]; exact off_same _ _
      by_cases c2 : (offB d.service (getE f).2.1 && mineD d (getE f).2.1) = true
      · have c3 := c2
        rw [Bool.and_eq_true] at c3
        rw [if_pos c2, if_pos (show hasT (getE f).2.1 (wantedF h) = true ∧ mineF h (getE f).2.1 = true from ⟨hw.trans c3.1, (t.mine _).trans c3.2⟩)]
        refine ⟨t.padr _ _, t.mac, t.service, t.uniq, t.retry, t.wait, rfl, fun _ => ⟨rfl, rfl, t.padr _ _⟩, fun _ => ⟨rfl, rfl⟩, fun e => ?_, fun e => ?_⟩
        · exact absurd e (by show ¬ (2 : Int) = 3; decide)
        · exact absurd rfl e
      · rw [if_neg c2, if_neg (show ¬ (hasT (getE f).2.1 (wantedF h) = true ∧ mineF h (getE f).2.1 = true) from fun e => c2 (by rw [Bool.and_eq_true]; exact ⟨hw.symm.trans e.1, (t.mine _).symm.trans e.2⟩))]
        exact ⟨rfl, t⟩
    · rw [if_neg c1, if_neg (show ¬ (d.state = 1 ∧ (getE f).1.code = 7 ∧ (getE f).1.session = 0) by rw [t.state]; exact c1)]
      by_cases c2 : h.state = 2 ∧ (getE f).1.code = 101 ∧ f.src = h.conc ∧ mineF h (getE f).2.1 = true
      · obtain ⟨ha, hb⟩ := t.two c2.1
        rw [if_pos c2, if_pos (show d.state = 2 ∧ (getE f).1.code = 101 ∧ f.src = d.ac ∧ mineD d (getE f).2.1 = true from ⟨t.state.trans c2.1, c2.2.1, c2.2.2.1.trans ha, (t.mine _).symm.trans c2.2.2.2⟩)]
        unfold settleF
        by_cases hz : (getE f).1.session = 0
        · rw [if_pos (show ((getE f).1.session : Int) = 0 by omega), if_pos hz]
          refine ⟨rfl, t.mac, t.service, t.uniq, t.retry, t.wait, rfl, fun e => ?_, fun e => ?_, fun e => ?_, fun _ _ => ⟨rfl, rfl⟩⟩
          · exact absurd e (by show ¬ ((4 : Int) = 1 ∨ (4 : Int) = 2); decide)
          · exact absurd e (by show ¬ (4 : Int) = 2; decide)
          · exact absurd e (by show ¬ (4 : Int) = 3; decide)
        · rw [if_neg (show ¬ ((getE f).1.session : Int) = 0 by omega), if_neg hz]
          refine ⟨rfl, t.mac, t.service, t.uniq, t.retry, t.wait, rfl, fun e => ?_, fun e => ?_, fun _ => ⟨ha, rfl⟩, fun _ e => absurd rfl e⟩
          · exact absurd e (by show ¬ ((3 : Int) = 1 ∨ (3 : Int) = 2); decide)
          · exact absurd e (by show ¬ (3 : Int) = 2; decide)
      · rw [if_neg c2]
        have c2' : ¬ (d.state = 2 ∧ (getE f).1.code = 101 ∧ f.src = d.ac ∧ mineD d (getE f).2.1 = true) := fun e => by
          have e1 := t.state.symm.trans e.1
          exact c2 ⟨e1, e.2.1, e.2.2.1.trans (t.two e1).1.symm, (t.mine _).trans e.2.2.2⟩
        rw [if_neg c2']
        by_cases c3 : h.state = 3 ∧ (getE f).1.code = 167 ∧ f.src = h.conc ∧ ((getE f).1.session : Int) = h.session
        · obtain ⟨ha, hb⟩ := t.three c3.1
          rw [if_pos c3, if_pos (show d.state = 3 ∧ (getE f).1.code = 167 ∧ f.src = d.ac ∧ ((getE f).1.session : Int) = d.session from ⟨t.state.trans c3.1, c3.2.1, c3.2.2.1.trans ha, c3.2.2.2.trans hb⟩)]
          refine ⟨rfl, t.mac, t.service, t.uniq, t.retry, t.wait, rfl, fun e => ?_, fun e => ?_, fun e => ?_, fun _ _ => ⟨rfl, rfl⟩⟩
          · exact absurd e (by show ¬ ((0 : Int) = 1 ∨ (0 : Int) = 2); decide)
          · exact absurd e (by show ¬ (0 : Int) = 2; decide)
          · exact absurd e (by show ¬ (0 : Int) = 3; decide)
        · rw [if_neg c3]
          have c3' : ¬ (d.state = 3 ∧ (getE f).1.code = 167 ∧ f.src = d.ac ∧ ((getE f).1.session : Int) = d.session) := fun e => by
            have e1 := t.state.symm.trans e.1
            exact c3 ⟨e1, e.2.1, e.2.2.1.trans (t.three e1).1.symm, e.2.2.2.trans (t.three e1).2.symm⟩
          rw [if_neg c3']
          exact ⟨rfl, t⟩
  · rw [if_neg h0, if_neg (show ¬ (f.dst = d.mac ∧ (getE f).2.2 = true) by rw [t.mac]; exact h0)]
    exact ⟨rfl, t⟩
end
end Go.Proofs.YtffnppfoofifgaaGreat

namespace Go.Proofs.YtffnppfoofifgaaGreat
open Go.RowKit
open BEthers (El GoodF OwnB rowB)

/-! Frames that are sent are good ones. -/
def GL (l : List Fr) : Prop := ∀ f ∈ l, GoodF f
theorem etFrame_good {too src : List UInt8} (h1 : too.length = 6) (h2 : src.length = 6) {kind : Int} (hk : (Lit.int .i64 kind).wf = true) (code session : Int) (data : List UInt8) : GoodF (etFrame too src kind code session data).1 := by
  unfold etFrame
  split
  · refine ⟨h1, h2, hk, ?_⟩
    show (putDiscF code session data).1.toArray.size ≤ maxLen
    unfold putDiscF
    split
    · split
      · simp [maxLen]
      · have : (discF code.toNat session.toNat data).length ≤ 2000 := by simp [discF, low]; omega
        unfold maxLen
        simp
        omega
    · simp [maxLen]
  · exact ⟨rfl, rfl, (show (Lit.int .i64 0).wf = true by decide), by show 0 ≤ maxLen; unfold maxLen; omega⟩
theorem etDisc_good {too src : List UInt8} (h1 : too.length = 6) (h2 : src.length = 6) (code session : Int) (tags : List Tg) : GL (etDisc too src code session tags) := by
  intro f hf
  unfold etDisc at hf
  split at hf
  · split at hf
    · rw [List.mem_singleton.1 hf]
      exact etFrame_good h1 h2 (by decide) _ _ _
    · cases hf
  · cases hf
theorem GL.nil : GL [] := fun _ h => absurd h List.not_mem_nil
section
variable {h : Hs}
theorem start_good (g : GoodH h) (a : GL h.asked) : GL (startF h).1 ∧ GL (startF h).2.asked := by
  unfold startF
  split
  · exact ⟨etDisc_good rfl g.mac _ _ _, etDisc_good rfl g.mac _ _ _⟩
  · exact ⟨GL.nil, a⟩
theorem stop_good (g : GoodH h) : GL (stopF h).1 ∧ GL (stopF h).2.asked := by
  unfold stopF
  refine ⟨?_, GL.nil⟩
  simp only
  split
  · exact etDisc_good g.conc g.mac _ _ _
  · exact GL.nil
theorem tick_good (a : GL h.asked) : GL (tickF h).1 ∧ GL (tickF h).2.asked := by
  unfold tickF
  split
  · split
    · exact ⟨GL.nil, a⟩
    · split
      · exact ⟨GL.nil, GL.nil⟩
      · exact ⟨a, a⟩
  · exact ⟨GL.nil, a⟩
theorem take_good (g : GoodH h) (a : GL h.asked) {f : Fr} (hs : f.src.length = 6) : GL (takeH h f).1 ∧ GL (takeH h f).2.asked := by
  unfold takeH takeB
  split
  · split
    · unfold chooseF
      split
      · exact ⟨etDisc_good hs g.mac _ _ _, etDisc_good hs g.mac _ _ _⟩
      · exact ⟨GL.nil, a⟩
    · split
      · refine ⟨GL.nil, ?_⟩
        unfold settleF
        split
        · exact GL.nil
        · exact GL.nil
      · split
        · exact ⟨GL.nil, GL.nil⟩
        · exact ⟨GL.nil, a⟩
  · exact ⟨GL.nil, a⟩
theorem start_len : (startF h).1.length ≤ 1 := by
  unfold startF
  split
  · exact etDisc_len _ _ _ _ _
  · exact Nat.zero_le _
theorem stop_len : (stopF h).1.length ≤ 1 := by
  unfold stopF
  simp only
  split
  · exact etDisc_len _ _ _ _ _
  · exact Nat.zero_le _
theorem tick_len (g : GoodH h) : (tickF h).1.length ≤ 1 := by
  unfold tickF
  split
  · split
    · exact Nat.zero_le _
    · split
      · exact Nat.zero_le _
      · exact g.asked
  · exact Nat.zero_le _
theorem take_len (f : Fr) : (takeH h f).1.length ≤ 1 := by
  unfold takeH takeB
  split
  · split
    · unfold chooseF
      split
      · exact etDisc_len _ _ _ _ _
      · exact Nat.zero_le _
    · split
      · exact Nat.zero_le _
      · split <;> exact Nat.zero_le _
  · exact Nat.zero_le _
end

/-! Lists of frames as lists of the book. -/
theorem toEl {l : List Fr} (h : GL l) : ∃ L : List El, L.map (·.1) = l := by
  induction l with
  | nil => exact ⟨[], rfl⟩
  | cons f l ih =>
    obtain ⟨L, hL⟩ := ih (fun x hx => h x (List.mem_cons_of_mem _ hx))
    exact ⟨⟨f, h f (List.mem_cons_self ..)⟩ :: L, by simp [hL]⟩
theorem rowE_map (L : List El) : rowE (L.map (·.1)) = rowB L := by
  induction L with
  | nil => rfl
  | cons a r ih =>
    rw [BEthers.rowB_cons, ← ih]
    simp [rowE, BEthers.elCells]
theorem own_el {W : World} {base : Nat} {v : Value} {L : List El} (h : OwnE W base v (L.map (·.1))) : OwnB W base v L := by
  unfold OwnE at h
  rw [rowE_map, List.length_map] at h
  exact h

/-! What turns the hosts' blocks leaves the others. -/
theorem HAt.ty {S : Nat → Prop} {W : World} {b : Nat} {h : Hs} (hA : HAt S W b h) {i : Nat} (hi : S i) : ∃ cur t, W.heap[i]? = some (.cells cur t (0, 0)) ∧ (t = 73 ∨ t = 55) := by
  obtain ⟨av, hH, hS⟩ := hA
  rcases (hS i).1 hi with rfl | e
  · exact ⟨_, _, hH.blk, Or.inl rfl⟩
  · obtain ⟨⟨cur, hc⟩, _⟩ := hH.own.block e
    exact ⟨cur, _, hc, Or.inr rfl⟩
theorem HAt.other {S T : Nat → Prop} {W W' : World} {b : Nat} {h : Hs} (hA : HAt S W b h) (hk : Kept T W W') (hn : ∀ i, S i → ¬ T i) : HAt S W' b h := by
  obtain ⟨av, hH, hS⟩ := hA
  refine ⟨av, ⟨(hk.block b (Array.getElem?_eq_some_iff.1 hH.blk).1 (hn b ((hS b).2 (Or.inl rfl)))).trans hH.blk, hH.own.same (fun i hi => hk.block i ?_ (hn i ((hS i).2 (Or.inr hi))))⟩, hS⟩
  obtain ⟨⟨cur, hc⟩, _⟩ := hH.own.block hi
  exact (Array.getElem?_eq_some_iff.1 hc).1

/-- A step's own box stays. -/
def Kp (W W' : World) : Prop := ∀ (c : Nat) (cs : Array Value), W.heap[c]? = some (Obj.cells cs 57 (0, 0)) → W'.heap[c]? = some (Obj.cells cs 57 (0, 0))
theorem Kp.of {T : Nat → Prop} {W W' : World} (hk : Kept T W W') (hT : ∀ i, T i → ∃ cur t, W.heap[i]? = some (.cells cur t (0, 0)) ∧ t ≠ 57) : Kp W W' := fun c cs h => by
  refine (hk.block c (Array.getElem?_eq_some_iff.1 h).1 (fun ht => ?_)).trans h
  obtain ⟨cur, t, h1, h2⟩ := hT c ht
  rw [h] at h1
  cases h1
  exact h2 rfl
theorem Kp.none {W W' : World} (hk : Kept (fun _ => False) W W') : Kp W W' := Kp.of hk (fun _ h => h.elim)

/-- All of it: the program's host at b, the document's at d, the book at bk with n lists. -/
structure PHs (w W : World) (S : Nat → Prop) (b d bk : Nat) (h : Hs) (D : Hd) (v6 v7 : Value) (vs us : List Value) (Ls : List (List El)) (n : Nat) : Prop where
  host : HAt S W b h
  lo : ∀ i, S i → w.heap.size ≤ i
  ref : HdIn W d D
  dlo : w.heap.size ≤ d
  book : BEthers.BookT (fun _ => .slice none 0 0) W bk w.heap.size v6 v7 vs us Ls
  far6 : ∀ (r : Nat) (v : Value) (i : Nat), vs[r]? = some v → v.ownBlock = some i → ¬ S i
  far7 : ∀ (r : Nat) (v : Value) (i : Nat), us[r]? = some v → v.ownBlock = some i → ¬ S i
  len : vs.length = n
  few : ∀ L ∈ Ls, L.length ≤ 1
  kept : Kept (fun _ => False) w W
def PH (w W : World) (b d bk : Nat) (h : Hs) (D : Hd) (n : Nat) : Prop := ∃ S v6 v7 vs us Ls, PHs w W S b d bk h D v6 v7 vs us Ls n
/-- And a list that the program's host has answered. -/
def PHV (w W : World) (b d bk : Nat) (h : Hs) (D : Hd) (n : Nat) (v : Value) (L : List El) : Prop :=
  ∃ S v6 v7 vs us Ls, PHs w W S b d bk h D v6 v7 vs us Ls n ∧ OwnB W w.heap.size v L ∧ (∀ i, v.ownBlock = some i → ¬ S i) ∧ (∀ (r : Nat) (u : Value), vs[r]? = some u → ¬ Shares u v)

section
variable {w W W' : World} {S T : Nat → Prop} {b d bk : Nat} {h h' : Hs} {D D' : Hd} {v6 v7 : Value} {vs us : List Value} {Ls : List (List El)} {n : Nat}
theorem row_ty {e : TypeId} {k m : Nat} {v : Value} {xs : List Value} {base i : Nat} (hr : W.ownsRow base e k v m xs) (hi : v.ownBlock = some i) : ∃ cur, W.heap[i]? = some (.cells cur e (0, 0)) := by
  rcases hr.2 with ⟨rfl, _⟩ | ⟨g, cap, cur, rfl, _, hg, _⟩
  · cases hi
  · have : g = i := by simpa [Value.ownBlock] using hi
    subst this
    exact ⟨cur, hg⟩
/-- The book stays where blocks turn that are none of its lists, of its rows or its own. -/
theorem book_other (H : BEthers.BookT (fun _ => .slice none 0 0) W bk w.heap.size v6 v7 vs us Ls) (hk : Kept T W W') (hT : ∀ i, T i → ∃ cur t, W.heap[i]? = some (.cells cur t (0, 0)) ∧ t ≠ 53 ∧ t ≠ 58)
    (h6 : ∀ (r : Nat) (v : Value) (i : Nat), vs[r]? = some v → v.ownBlock = some i → ¬ T i) (h7 : ∀ (r : Nat) (v : Value) (i : Nat), us[r]? = some v → v.ownBlock = some i → ¬ T i) : BEthers.BookT (fun _ => .slice none 0 0) W' bk w.heap.size v6 v7 vs us Ls := by
  have hrow : ∀ {v : Value} {xs : List Value}, BEthers.RowS W w.heap.size v xs → ∀ i, v.ownBlock = some i → ¬ T i := fun {v xs} hr i hi ht => by
    obtain ⟨cur, hc⟩ := row_ty hr hi
    obtain ⟨cur', t, hc', _, h2⟩ := hT i ht
    rw [hc] at hc'
    cases hc'
    exact h2 rfl
  have hbk : ¬ T bk := fun ht => by
    obtain ⟨cur', t, hc', h1, _⟩ := hT bk ht
    have := H.p.blk
    rw [hc'] at this
    cases this
    exact h1 rfl
  exact ⟨⟨(hk.block bk H.p.lt hbk).trans H.p.blk, BEthers.rowS_kept H.p.r6 hk (hrow H.p.r6), H.p.f6.kept hk h6, H.p.a6, H.p.lo⟩, BEthers.rowS_kept H.r7 hk (hrow H.r7), H.f7.kept hk h7, H.ne⟩
theorem PHs.still (H : PHs w W S b d bk h D v6 v7 vs us Ls n) (hk : Kept (fun _ => False) W W') : PHs w W' S b d bk h D v6 v7 vs us Ls n :=
  ⟨H.host.kept0 hk, H.lo, H.ref.kept hk id, H.dlo, H.book.kept0 hk, H.far6, H.far7, H.len, H.few, H.kept.trans hk⟩
theorem PH.still (H : PH w W b d bk h D n) (hk : Kept (fun _ => False) W W') : PH w W' b d bk h D n := by
  obtain ⟨S, v6, v7, vs, us, Ls, H⟩ := H
  exact ⟨S, v6, v7, vs, us, Ls, H.still hk⟩
theorem PH.kept (H : PH w W b d bk h D n) : Kept (fun _ => False) w W := by
  obtain ⟨S, v6, v7, vs, us, Ls, H⟩ := H
  exact H.kept
theorem PHV.still {v : Value} {L : List El} (H : PHV w W b d bk h D n v L) (hk : Kept (fun _ => False) W W') : PHV w W' b d bk h D n v L := by
  obtain ⟨S, v6, v7, vs, us, Ls, H, h1, h2, h3⟩ := H
  exact ⟨S, v6, v7, vs, us, Ls, H.still hk, h1.kept hk, h2, h3⟩
theorem PHV.ph {v : Value} {L : List El} (H : PHV w W b d bk h D n v L) : PH w W b d bk h D n := by
  obtain ⟨S, v6, v7, vs, us, Ls, H, _⟩ := H
  exact ⟨S, v6, v7, vs, us, Ls, H⟩
/-- A nil list. -/
theorem PH.nilV (H : PH w W b d bk h D n) : PHV w W b d bk h D n (.slice none 0 0) [] := by
  obtain ⟨S, v6, v7, vs, us, Ls, H⟩ := H
  exact ⟨S, v6, v7, vs, us, Ls, H, OwnB.nil _ _, fun i hi => (by cases hi), fun r u _ ⟨g, _, hg⟩ => by cases hg⟩
/-- The program's host is called. -/
theorem PH.pcall {f : FuncId} {args : Array Value} {l : List Fr} {L : List El} (H : PH w W b d bk h D n) (hL : L.map (·.1) = l) (hc : ∀ S, HAt S W b h → Calls Tryz.prog f args W fun e w' => ∃ v, e = .returned v ∧ HOut S W w' b h' v l) :
    Calls Tryz.prog f args W fun e w' => ∃ p cap, e = .returned (.slice p L.length cap) ∧ PHV w w' b d bk h' D n (.slice p L.length cap) L ∧ Kp W w' := by
  obtain ⟨S, v6, v7, vs, us, Ls, H⟩ := H
  refine (hc S H.host).mono ?_
  rintro e w' ⟨v, rfl, ho, S', hA', hS', hk, hf⟩
  rw [← hL] at ho
  have hoB := own_el ho
  obtain ⟨p, cap, hp⟩ := slice_of hoB
  subst hp
  have hty := fun i (hi : S i) => H.host.ty hi
  have hsub : ∀ {ws : List Value} {Ms : List (List El)}, BEthers.Fam W w.heap.size ws Ms → (∀ (r : Nat) (v : Value) (i : Nat), ws[r]? = some v → v.ownBlock = some i → ¬ S i) → ∀ (r : Nat) (v : Value) (i : Nat), ws[r]? = some v → v.ownBlock = some i → ¬ S' i := fun {ws Ms} hF hfar r v i hv hi hs => by
    obtain ⟨M, _, hM⟩ := hF.at hv
    have h1 := (BEthers.own_lt hM hi).2
    rcases hS' i hs with h2 | h2
    · exact hfar r v i hv hi h2
    · omega
  refine ⟨p, cap, rfl, ⟨S', v6, v7, vs, us, Ls, ⟨hA', fun i hi => ?_, H.ref.kept hk (fun hs => ?_), H.dlo, book_other H.book hk (fun i hi => ?_) H.far6 H.far7, hsub H.book.p.f6 H.far6, hsub H.book.f7 H.far7, H.len, H.few, H.kept.andThen hk (fun i hi hs => absurd (H.lo i hs) (by omega))⟩, hoB.mono H.kept.size, hf, fun r u hu hs => ?_⟩, Kp.of hk (fun i hi => ?_)⟩
  · rcases hS' i hi with h2 | h2
    · exact H.lo i h2
    · exact Nat.le_trans H.kept.size h2
  · obtain ⟨cur, t, hc', ht⟩ := hty d hs
    have := H.ref
    unfold HdIn at this
    rw [hc'] at this
    cases this
    rcases ht with ht | ht <;> revert ht <;> decide
  · obtain ⟨cur, t, hc', ht⟩ := hty i hi
    exact ⟨cur, t, hc', by rcases ht with rfl | rfl <;> decide, by rcases ht with rfl | rfl <;> decide⟩
  · obtain ⟨g, g1, g2⟩ := hs
    obtain ⟨M, _, hM⟩ := H.book.p.f6.at hu
    have h1 := (BEthers.own_lt hM g1).2
    have h2 := (BEthers.own_lt hoB g2).1
    omega
  · obtain ⟨cur, t, hc', ht⟩ := hty i hi
    exact ⟨cur, t, hc', by rcases ht with rfl | rfl <;> decide⟩
/-- The document's host is called. -/
theorem PHV.dcall {v : Value} {L : List El} {f : FuncId} {args : Array Value} (H : PHV w W b d bk h D n v L) (hc : HdIn W d D → Calls Tryz.prog f args W fun e w' => ∃ u, e = .returned u ∧ OwnE w' W.heap.size u (L.map (·.1)) ∧ HdIn w' d D' ∧ Kept (fun i => i = d) W w') :
    Calls Tryz.prog f args W fun e w' => ∃ p cap, e = .returned (.slice p L.length cap) ∧ PHV w w' b d bk h D' n v L ∧ OwnB w' W.heap.size (.slice p L.length cap) L ∧ Kp W w' := by
  obtain ⟨S, v6, v7, vs, us, Ls, H, hv, hvf, hvn⟩ := H
  refine (hc H.ref).mono ?_
  rintro e w' ⟨u, rfl, ho, hd', hk⟩
  have hoB := own_el ho
  obtain ⟨p, cap, hp⟩ := slice_of hoB
  subst hp
  have hdt : W.heap[d]? = some (.cells (hdList D).toArray 75 (0, 0)) := H.ref
  have hne : ∀ {i : Nat} {cur : Array Value} {t : TypeId}, W.heap[i]? = some (.cells cur t (0, 0)) → t ≠ 75 → ¬ i = d := fun {i cur t} hi ht e => by
    rw [e, hdt] at hi
    cases hi
    exact ht rfl
  have hfam : ∀ {ws : List Value} {Ms : List (List El)}, BEthers.Fam W w.heap.size ws Ms → ∀ (r : Nat) (x : Value) (i : Nat), ws[r]? = some x → x.ownBlock = some i → ¬ i = d := fun {ws Ms} hF r x i hx hi => by
    obtain ⟨M, _, hM⟩ := hF.at hx
    obtain ⟨cur, hcur⟩ := row_ty hM hi
    exact hne hcur (by decide)
  refine ⟨p, cap, rfl, ⟨S, v6, v7, vs, us, Ls, ⟨H.host.other hk (fun i hi => ?_), H.lo, hd', H.dlo, book_other H.book hk (fun i hi => ?_) (hfam H.book.p.f6) (hfam H.book.f7), H.far6, H.far7, H.len, H.few, H.kept.andThen hk (fun i hi e => absurd H.dlo (by omega))⟩, BEthers.own_kept hv hk (fun i hi => ?_), hvf, hvn⟩, hoB, Kp.of hk (fun i hi => by subst hi; exact ⟨_, _, hdt, by decide⟩)⟩
  · obtain ⟨cur, t, hcur, ht⟩ := H.host.ty hi
    exact hne hcur (by rcases ht with rfl | rfl <;> decide)
  · subst hi
    exact ⟨_, _, hdt, by decide, by decide⟩
  · obtain ⟨cur, hcur⟩ := row_ty hv hi
    exact hne hcur (by decide)
/-- The book keeps the list. -/
theorem PHV.keep {v : Value} {L : List El} (H : PHV w W b d bk h D n v L) (hn : n < 250) (hl : L.length ≤ 1) :
    Calls Tryz.prog 19 #[.pointer (some ⟨bk, 0, none⟩), v] W fun e w' => e = .returned (.tuple #[]) ∧ PH w w' b d bk h D (n + 1) ∧ (∀ base u M, OwnB W base u M → OwnB w' base u M) := by
  obtain ⟨S, v6, v7, vs, us, Ls, H, hv, hvf, hvn⟩ := H
  refine (BEthers.bookEthers_any H.book H.kept.size (by rw [H.len]; exact hn) hv hvn (by omega)).mono ?_
  rintro e w' ⟨rfl, v6', v7', u, hB, hk, hfr⟩
  have hbo : ∀ i, Bo bk v6 v7 i → ∃ cur t, W.heap[i]? = some (.cells cur t (0, 0)) ∧ (t = 53 ∨ t = 58) := fun i hi => by
    rcases hi with rfl | hi | hi
    · exact ⟨_, _, H.book.p.blk, Or.inl rfl⟩
    · obtain ⟨cur, hc⟩ := row_ty H.book.p.r6 hi
      exact ⟨cur, _, hc, Or.inr rfl⟩
    · obtain ⟨cur, hc⟩ := row_ty H.book.r7 hi
      exact ⟨cur, _, hc, Or.inr rfl⟩
  have hne : ∀ {i : Nat} {cur : Array Value} {t : TypeId}, W.heap[i]? = some (.cells cur t (0, 0)) → t ≠ 53 → t ≠ 58 → ¬ Bo bk v6 v7 i := fun {i cur t} hi h1 h2 hb => by
    obtain ⟨cur', t', hc', ht'⟩ := hbo i hb
    rw [hi] at hc'
    cases hc'
    rcases ht' with ht' | ht'
    · exact h1 ht'
    · exact h2 ht'
  refine ⟨rfl, ⟨S, v6', v7', vs ++ [v], us ++ [u], Ls ++ [L], H.host.other hk (fun i hi => ?_), H.lo, H.ref.kept hk (hne H.ref (by decide) (by decide)), H.dlo, hB, fun r x i hx hi => ?_, fun r x i hx hi hs => ?_, by rw [List.length_append, H.len]; rfl, fun M hM => ?_, H.kept.andThen hk (fun i hi hb => ?_)⟩, fun base x M hx => BEthers.own_kept hx hk (fun i hi => ?_)⟩
  · obtain ⟨cur, t, hcur, ht⟩ := H.host.ty hi
    exact hne hcur (by rcases ht with rfl | rfl <;> decide) (by rcases ht with rfl | rfl <;> decide)
  · by_cases hr : r < vs.length
    · rw [List.getElem?_append_left hr] at hx
      exact H.far6 r x i hx hi
    · rw [List.getElem?_append_right (by omega)] at hx
      have h0 : r - vs.length = 0 := by
        have := (List.getElem?_eq_some_iff.1 hx).1
        simp at this
        omega
      rw [h0] at hx
      simp at hx
      subst hx
      exact hvf i hi
  · by_cases hr : r < us.length
    · rw [List.getElem?_append_left hr] at hx
      exact H.far7 r x i hx hi hs
    · rw [List.getElem?_append_right (by omega)] at hx
      have h0 : r - us.length = 0 := by
        have := (List.getElem?_eq_some_iff.1 hx).1
        simp at this
        omega
      rw [h0] at hx
      simp at hx
      subst hx
      have h1 := hfr i hi
      obtain ⟨cur, t, hcur, _⟩ := H.host.ty hs
      have h2 := (Array.getElem?_eq_some_iff.1 hcur).1
      omega
  · rcases List.mem_append.1 hM with hM | hM
    · exact H.few M hM
    · rw [List.mem_singleton.1 hM]
      exact hl
  · rcases hb with rfl | hb | hb
    · exact absurd H.book.p.lo (by omega)
    · have := (World.ownsRow.lt H.book.p.r6 i hb).1
      omega
    · have := (World.ownsRow.lt H.book.r7 i hb).1
      omega
  · obtain ⟨cur, hcur⟩ := row_ty hx hi
    exact hne hcur (by decide) (by decide)
/-- What only reads. -/
theorem PH.pread {f : FuncId} {args : Array Value} {r : Ending} (H : PH w W b d bk h D n) (hc : ∀ av, HostIn W b av h → Calls Tryz.prog f args W fun e w' => e = r ∧ Kept (fun _ => False) W w') : Calls Tryz.prog f args W fun e w' => e = r ∧ PH w w' b d bk h D n ∧ Kept (fun _ => False) W w' := by
  obtain ⟨S, v6, v7, vs, us, Ls, H⟩ := H
  obtain ⟨av, hH, _⟩ := id H.host
  exact (hc av hH).mono fun _ _ ⟨h1, h2⟩ => ⟨h1, ⟨S, v6, v7, vs, us, Ls, H.still h2⟩, h2⟩
theorem PH.dread {f : FuncId} {args : Array Value} {r : Ending} (H : PH w W b d bk h D n) (hc : HdIn W d D → Calls Tryz.prog f args W fun e w' => e = r ∧ Kept (fun _ => False) W w') : Calls Tryz.prog f args W fun e w' => e = r ∧ PH w w' b d bk h D n ∧ Kept (fun _ => False) W w' := by
  obtain ⟨S, v6, v7, vs, us, Ls, H⟩ := H
  exact (hc H.ref).mono fun _ _ ⟨h1, h2⟩ => ⟨h1, ⟨S, v6, v7, vs, us, Ls, H.still h2⟩, h2⟩
end
end Go.Proofs.YtffnppfoofifgaaGreat

namespace Go.Proofs.YtffnppfoofifgaaGreat
open Go.RowKit

/-- The program's host and the document's one, and what holds of both. -/
structure TG (h : Hs) (D : Hd) : Prop where
  tie : TieH h D
  gh : GoodH h
  gd : GoodD D
  gl : GL h.asked
  tk : D.ticks ≤ 200000
theorem findF_size {l : List Tg} {k : Int} (hl : ∀ t ∈ l, t.value.size ≤ 1000000) : (findF l k).1.size ≤ 1000000 := by
  suffices hs : ∀ (l : List Tg) (s : ByteArray × Nat), s.1.size ≤ 1000000 → (∀ t ∈ l, t.value.size ≤ 1000000) → (l.foldl (findOn k) s).1.size ≤ 1000000 from hs l (⟨#[]⟩, 0) (by show 0 ≤ 1000000; decide) hl
  intro l
  induction l with
  | nil => exact fun s hs _ => hs
  | cons t l ih =>
    intro s hs ha
    refine ih (findOn k s t) ?_ (fun x hx => ha x (List.mem_cons_of_mem _ hx))
    by_cases ht : t.type = k
    · rw [findOn_yes ht]
      simp only
      split
      · exact ha t (List.mem_cons_self ..)
      · exact hs
    · rw [findOn_no ht]
      exact hs
section
variable {h : Hs} {D : Hd}
theorem TG.start (t : TG h D) : (startF h).1 = (startD D).1 ∧ TG (startF h).2 (startD D).2 := by
  refine ⟨t.tie.start.1, t.tie.start.2, t.gh.start, ?_, (start_good t.gh t.gl).2, ?_⟩
  · unfold startD
    split
    · exact t.gd.upd 1 0 0 ⟨Int.le_refl _, t.gd.retry.1⟩ ⟨Int.le_refl _, by decide⟩
    · exact t.gd
  · unfold startD
    split
    · show (0 : Int) ≤ 200000; decide
    · exact t.tk
theorem TG.stop (t : TG h D) : (stopF h).1 = (stopD D).1 ∧ TG (stopF h).2 (stopD D).2 :=
  ⟨t.tie.stop.1, t.tie.stop.2, t.gh.stop, ⟨t.gd.mac, t.gd.ac, t.gd.service, t.gd.uniq, t.gd.retry, t.gd.wait, t.gd.cookie, t.gd.ticks, t.gd.tries⟩, (stop_good t.gh).2, t.tk⟩
theorem TG.tick (t : TG h D) : (tickF h).1 = (tickD D).1 ∧ TG (tickF h).2 (tickD D).2 := by
  have hsp := t.gh.span
  have hht := t.gh.ticks
  have hkey : D.state = 1 ∨ D.state = 2 → D.ticks ≤ 102400 := fun hs => by
    have h1 := t.tie.asks (by rw [← t.tie.state]; exact hs)
    rw [h1.2.1]
    omega
  refine ⟨(t.tie.tick t.gh).1, (t.tie.tick t.gh).2, t.gh.tick, ?_, (tick_good t.gl).2, ?_⟩
  · unfold tickD
    split
    · rename_i hs
      have h1 := hkey hs
      have h2 := t.gd.ticks.1
      split
      · exact t.gd.upd D.state D.tries (D.ticks + 1) t.gd.tries ⟨by omega, by omega⟩
      · split
        · exact t.gd.upd 4 D.tries (D.ticks + 1) t.gd.tries ⟨by omega, by omega⟩
        · have h3 := t.gd.tries
          exact t.gd.upd D.state (D.tries + 1) 0 ⟨by omega, by omega⟩ ⟨Int.le_refl _, by decide⟩
    · exact t.gd
  · unfold tickD
    split
    · rename_i hs
      have h1 := hkey hs
      split
      · show D.ticks + 1 ≤ 200000; omega
      · split
        · show D.ticks + 1 ≤ 200000; omega
        · show (0 : Int) ≤ 200000; decide
    · exact t.tk
theorem TG.take (t : TG h D) {f : Fr} (hs : f.src.length = 6) : (takeH h f).1 = (takeD D f).1 ∧ TG (takeH h f).2 (takeD D f).2 := by
  have hck : (findF (getE f).2.1 260).1.size ≤ 1000000 := findF_size (fun x hx => ((getE_few f).2 x hx).1)
  refine ⟨(t.tie.take f).1, (t.tie.take f).2, t.gh.take hs, ?_, (take_good t.gh t.gl hs).2, ?_⟩
  · unfold takeD takeDB
    split
    · split
      · split
        · exact ⟨t.gd.mac, hs, t.gd.service, t.gd.uniq, t.gd.retry, t.gd.wait, hck, ⟨Int.le_refl _, by show (0 : Int) ≤ 1000000000; decide⟩, ⟨Int.le_refl _, t.gd.retry.1⟩⟩
        · exact t.gd
      · split
        · exact ⟨t.gd.mac, t.gd.ac, t.gd.service, t.gd.uniq, t.gd.retry, t.gd.wait, t.gd.cookie, t.gd.ticks, t.gd.tries⟩
        · split
          · exact ⟨t.gd.mac, t.gd.ac, t.gd.service, t.gd.uniq, t.gd.retry, t.gd.wait, t.gd.cookie, t.gd.ticks, t.gd.tries⟩
          · exact t.gd
    · exact t.gd
  · unfold takeD takeDB
    split
    · split
      · split
        · show (0 : Int) ≤ 200000; decide
        · exact t.tk
      · split
        · exact t.tk
        · split
          · exact t.tk
          · exact t.tk
    · exact t.tk
end
end Go.Proofs.YtffnppfoofifgaaGreat

namespace Go.Proofs.YtffnppfoofifgaaGreat
open Go.RowKit

def GoodNew (s u : ByteArray) (r t : Int) : Prop := s.size ≤ 40 ∧ u.size ≤ 40 ∧ 0 ≤ r ∧ r ≤ 10 ∧ 1 ≤ t ∧ t ≤ 100
set_option maxHeartbeats 2000000 in
set_option maxRecDepth 100000 in
theorem newH_bad (m : List UInt8) (hm : m.length = 6) (s u : ByteArray) (r t : Int) (h : ¬ GoodNew s u r t) (w : World) :
    Calls Tryz.prog 5 #[.agg (Lib.byteCells m).toArray, .string s, .string u, .int .i64 r, .int .i64 t] w fun e w' => e = .returned (.tuple #[.pointer none, .int .i64 1]) ∧ Kept (fun _ => False) w w' := by
  obtain ⟨x0, x1, x2, x3, x4, x5, hx⟩ := six_cells hm
  unfold GoodNew at h
  rw [hx]
  have K := hid ((Kept.refl (fun _ => False) w).alloc (.cells #[.int .u8 x0, .int .u8 x1, .int .u8 x2, .int .u8 x3, .int .u8 x4, .int .u8 x5] 23))
  clear hx
  by_cases q1 : s.size > 40
  · have z1 : (40 : Int) < (s.size : Int) := by omega
    clear h
    go_enter Tryz.func5, Tryz.ntmps5
    go_wp2
    go_ret2
    exact ⟨rfl, K.out⟩
  · have z1 : ¬ (40 : Int) < (s.size : Int) := by omega
    by_cases q2 : u.size > 40
    · have z2 : (40 : Int) < (u.size : Int) := by omega
      clear h
      go_enter Tryz.func5, Tryz.ntmps5
      go_wp2
      go_ret2
      exact ⟨rfl, K.out⟩
    · have z2 : ¬ (40 : Int) < (u.size : Int) := by omega
      by_cases q3 : r < 0
      · clear h
        go_enter Tryz.func5, Tryz.ntmps5
        go_wp2
        go_ret2
        exact ⟨rfl, K.out⟩
      · by_cases q4 : 10 < r
        · clear h
          go_enter Tryz.func5, Tryz.ntmps5
          go_wp2
          go_ret2
          exact ⟨rfl, K.out⟩
        · by_cases q5 : t < 1
          · clear h
            go_enter Tryz.func5, Tryz.ntmps5
            go_wp2
            go_ret2
            exact ⟨rfl, K.out⟩
          · have q6 : 100 < t := by omega
            clear h
            go_enter Tryz.func5, Tryz.ntmps5
            go_wp2
            go_ret2
            exact ⟨rfl, K.out⟩
theorem tg_new {m : List UInt8} (hm : m.length = 6) {s u : ByteArray} {r t : Nat} (h : GoodNew s u (r : Int) (t : Int)) : TG (newH m s u r t) (newD m s u (r : Int) (t : Int)) := by
  obtain ⟨h1, h2, h3, h4, h5, h6⟩ := h
  have hw : 1 ≤ t := by omega
  exact ⟨tie_new m s u r t, ⟨hm, rfl, h1, h2, by show r ≤ 10; omega, hw, by show t ≤ 100; omega, Nat.zero_le _, by show 0 < t * 2 ^ 0; omega, Nat.zero_le _, fun _ hf => absurd hf List.not_mem_nil⟩, GoodD.new hm ⟨h1, h2, h3, h4, h5, h6⟩, fun _ hf => absurd hf List.not_mem_nil, by show (0 : Int) ≤ 200000; decide⟩
end Go.Proofs.YtffnppfoofifgaaGreat

namespace Go.Proofs.YtffnppfoofifgaaGreat
open Go.ChangeShapes Go.WideShapes Go.ChangeAt Go.RowKit Go.Joins

theorem laidOutT : laidOutB Tryz.prog = true := by kernel_rfl
def In64 (x : Int) : Prop := -9223372036854775808 ≤ x ∧ x ≤ 9223372036854775807
theorem cells3 : Tryz.prog.cellsOf 3 = 1 := by kernel_rfl
theorem cellsEth : Tryz.prog.cellsOf 55 = 14 := by kernel_rfl
theorem cells9 : Tryz.prog.cellsOf 9 = 1 := by kernel_rfl
theorem ck5 : Tryz.prog.cellsOf 5 = 1 := by kernel_rfl
theorem ckMac : Tryz.prog.cellsOf 23 = 6 := by kernel_rfl
def byteOf : Value → UInt8
  | .int _ n => UInt8.ofNat n.toNat
  | _ => 0
section
variable {H : Type} {enc : TypeId × Value → H} {w : World} {base : Nat} {spare : Nat → Bool} {held : Bool}
theorem mac_cells {fuel : Nat} {l : List Value} {x : DataW H × List MemPlace}
    (h : DataW.trod enc Tryz.prog w base spare held fuel 23 l = some x) : ∃ d : List UInt8, d.length = 6 ∧ l = Lib.byteCells d := by
  obtain ⟨xs, m, _, _, hl, hn, hf⟩ := DataW.trod_array Tryz.underlying23 h
  rw [ckMac] at hl
  refine ⟨l.map byteOf, by simp [hl], ?_⟩
  apply List.ext_getElem?
  intro i
  by_cases hi : i < 6
  · have hfi := hf i hi
    rw [ck5, Nat.mul_one, List.getElem?_eq_getElem (by omega)] at hfi
    obtain ⟨n, hc, _, hw⟩ := DataW.trod_int Tryz.underlying5 hfi
    have hb := bounds_u8 hw
    have hli : l[i]? = some (.int .u8 n) := by
      have h0 : ((l.drop i).take 1)[0]? = some (.int .u8 n) := by rw [hc]; rfl
      rw [List.getElem?_take_of_lt (by decide), List.getElem?_drop, Nat.add_zero] at h0
      exact h0
    simp only [Lib.byteCells, List.map_map, List.getElem?_map, hli, Option.map_some, Function.comp, byteOf]
    have hlt : n.toNat < 256 := by omega
    have e : (UInt8.ofNat n.toNat).toNat = n.toNat := UInt8.toNat_ofNat_of_lt hlt
    rw [e, Int.toNat_of_nonneg hb.1]
  · rw [List.getElem?_eq_none (by omega), List.getElem?_eq_none (by simp [Lib.byteCells]; omega)]
end
section
variable {H : Type} {enc : TypeId × Value → H} {w : World} {base : Nat} {spare : Nat → Bool} {held : Bool}
theorem in64_of_wf {x : Int} (h : (Lit.int .i64 x).wf = true) : In64 x := by
  have := bounds_i64 h
  exact this

set_option maxRecDepth 100000 in
theorem open_ether {r : Reach} {b0 : Nat} {v : Value} {d : DataW H} {p : List MemPlace} (hv : Value.okWide Tryz.prog w r b0 55 v) (h : DataW.Trod enc Tryz.prog w base spare held 55 v d p) :
    ∃ (a b : List UInt8) (ty : Int) (x : ByteArray) (y0 y1 : DataW H), v = .agg (frList ⟨a, b, ty, x⟩).toArray ∧ a.length = 6 ∧ b.length = 6 ∧ (Lit.int .i64 ty).wf = true ∧ d = .agg [y0, y1, .lit (.int .i64 ty), .lit (.string x.data.toList)] := by
  obtain ⟨cs, rfl, hsz⟩ := okWide_struct Tryz.underlying55 hv
  rw [cellsEth] at hsz
  obtain ⟨fuel, hf⟩ := h
  obtain ⟨y0, y1, y2, y3, n, hx, _, h0, h1, h2, h3⟩ := trod_struct4 Tryz.underlying55 hf
  simp only [Prod.mk.injEq] at hx
  obtain ⟨a, ha, ea⟩ := mac_cells h0
  obtain ⟨b, hb, eb⟩ := mac_cells h1
  obtain ⟨ty, et, hy2, wt⟩ := DataW.trod_int Tryz.underlying3 h2
  obtain ⟨x, ex, hy3, _⟩ := DataW.trod_string Tryz.underlying9 h3
  rw [cellsMac] at ea eb
  rw [cells3] at et
  rw [cells9] at ex
  refine ⟨a, b, ty, x, y0.1, y1.1, ?_, ha, hb, wt, by rw [hx.1, hy2, hy3]⟩
  congr 1
  apply Array.toList_inj.1
  have hl : cs.toList.length = 14 := by simpa using hsz
  have e : (Value.agg cs).cells.toList = cs.toList := rfl
  rw [e] at ea eb et ex
  generalize cs.toList = L at hl ea eb et ex
  unfold frList
  simp only []
  rw [← ea, ← eb]
  have e2 : [Value.int .i64 ty, .string x] = [Value.int .i64 ty] ++ [.string x] := rfl
  rw [e2, ← et, ← ex]
  have f0 : L = L.take 6 ++ L.drop 6 := (List.take_append_drop 6 L).symm
  have f1 : L.drop 6 = (L.drop 6).take 6 ++ L.drop 12 := by have := (List.take_append_drop 6 (L.drop 6)).symm; rw [List.drop_drop] at this; exact this
  have f2 : L.drop 12 = (L.drop 12).take 1 ++ L.drop 13 := by have := (List.take_append_drop 1 (L.drop 12)).symm; rw [List.drop_drop] at this; exact this
  have f3 : (L.drop 13).take 1 = L.drop 13 := List.take_of_length_le (by simp; omega)
  rw [List.append_assoc]
  show L = (L.drop 0).take 6 ++ ((L.drop 6).take 6 ++ ((L.drop 12).take 1 ++ (L.drop 13).take 1))
  rw [List.drop_zero, f3, ← f2, ← f1, ← f0]
theorem sized_ether {ts : List TypeId} {ds : List (DataW H)} (h : (DataW.weightsEach Tryz.prog ts ds).all (· ≤ reachBytes) = true) {j : Nat} {y0 y1 y2 : DataW H} {bytes : List UInt8}
    (ht : ts[j]? = some 55) (hd : ds[j]? = some (.agg [y0, y1, y2, .lit (.string bytes)])) : bytes.length ≤ reachBytes := by
  have hm : bytes.length ∈ DataW.weights Tryz.prog 55 (.agg [y0, y1, y2, .lit (.string bytes)] : DataW H) := by
    simp only [DataW.weights, Tryz.underlying55]
    exact DataW.weights_mem_each (j := 3) (t := 9) (d := .lit (.string bytes)) rfl rfl bytes.length (by simp [DataW.weights])
  have := List.all_eq_true.1 h _ (DataW.weights_mem_each ht hd bytes.length hm)
  simpa using this

theorem spot_none {W : World} {g o : Nat} {sp : Option Nat} {u : Value} (h : W.cell? ((⟨g, o, sp⟩ : Addr).add 0) = some u) : sp = none := by
  unfold Addr.add at h
  cases sp with
  | none => rfl
  | some q =>
    exfalso
    unfold World.cell? at h
    split at h <;> simp at h

/-- Something that is done. -/
structure Op8 where
  kind : Int
  f : Fr
  data : ByteArray
def opList (o : Op8) : List Value := [.int .i64 o.kind] ++ frList o.f ++ [.string o.data]
structure Op8Ok (o : Op8) : Prop where
  kind : In64 o.kind
  six : Fr6 o.f
  type : In64 o.f.type
  fdata : o.f.data.size ≤ maxLen
  data : o.data.size ≤ maxLen
/-- A list of these in memory, as an argument. -/
def Ops8At (W : World) (v : Value) (l : List Op8) : Prop :=
  (l = [] ∧ ∃ p cap, v = .slice p 0 cap) ∨ ∃ g o cap, v = .slice (some ⟨g, o, none⟩) l.length cap ∧ l.length ≤ cap ∧ cap ≤ maxLen ∧ ∀ j x, l[j]? = some x → Op8Ok x ∧ ∀ i u, (opList x)[i]? = some u → W.cell? ⟨g, o + j * 16 + i, none⟩ = some u

theorem cellsOp8 : Tryz.prog.cellsOf 57 = 16 := by kernel_rfl

theorem cut_three {L : List Value} (hl : L.length = 16) : L = (L.drop 0).take 1 ++ (L.drop 1).take 14 ++ (L.drop 15).take 1 := by
  have f1 : L.drop 1 = (L.drop 1).take 14 ++ L.drop 15 := by have := (List.take_append_drop 14 (L.drop 1)).symm; rw [List.drop_drop] at this; exact this
  have f3 : (L.drop 15).take 1 = L.drop 15 := List.take_of_length_le (by simp; omega)
  rw [List.append_assoc, f3, ← f1, List.drop_zero]
  exact (List.take_append_drop 1 L).symm

theorem eth_cells {fuel : Nat} {l : List Value} {x : DataW H × List MemPlace} (hl : l.length = 14) (h : DataW.trod enc Tryz.prog w base spare held fuel 55 l = some x) :
    ∃ f : Fr, Fr6 f ∧ In64 f.type ∧ f.data.size ≤ maxLen ∧ l = frList f := by
  obtain ⟨y0, y1, y2, y3, n, hx, _, h0, h1, h2, h3⟩ := trod_struct4 Tryz.underlying55 h
  obtain ⟨a, ha, ea⟩ := mac_cells h0
  obtain ⟨b, hb, eb⟩ := mac_cells h1
  obtain ⟨ty, et, _, wt⟩ := DataW.trod_int Tryz.underlying3 h2
  obtain ⟨x, ex, _, hs⟩ := DataW.trod_string Tryz.underlying9 h3
  rw [cellsMac] at ea eb
  rw [cells3] at et
  rw [cells9] at ex
  refine ⟨⟨a, b, ty, x⟩, ⟨ha, hb⟩, in64_of_wf wt, hs, ?_⟩
  unfold frList
  simp only []
  rw [← ea, ← eb]
  have e2 : [Value.int .i64 ty, .string x] = [Value.int .i64 ty] ++ [.string x] := rfl
  rw [e2, ← et, ← ex]
  have f1 : l.drop 6 = (l.drop 6).take 6 ++ l.drop 12 := by have := (List.take_append_drop 6 (l.drop 6)).symm; rw [List.drop_drop] at this; exact this
  have f2 : l.drop 12 = (l.drop 12).take 1 ++ l.drop 13 := by have := (List.take_append_drop 1 (l.drop 12)).symm; rw [List.drop_drop] at this; exact this
  have f3 : (l.drop 13).take 1 = l.drop 13 := List.take_of_length_le (by simp; omega)
  rw [List.append_assoc]
  show l = (l.drop 0).take 6 ++ ((l.drop 6).take 6 ++ ((l.drop 12).take 1 ++ (l.drop 13).take 1))
  rw [List.drop_zero, f3, ← f2, ← f1, List.take_append_drop]

set_option maxRecDepth 100000 in
theorem open_op8 {n : Nat} {a : Addr} {y : DataW H × List MemPlace} (h : (w.cells? base a 16).bind (DataW.trod enc Tryz.prog w base spare held n 57) = some y) :
    ∃ o : Op8, Op8Ok o ∧ ∀ i u, (opList o)[i]? = some u → w.cell? (a.add i) = some u := by
  rw [Option.bind_eq_some_iff] at h
  obtain ⟨cs, hc, ht⟩ := h
  obtain ⟨_, hlen, hcell⟩ := World.cells?_some hc
  obtain ⟨y0, y1, y2, m, hx, _, h0, h1, h2⟩ := Go.Deep.trod_struct3 Tryz.underlying57 ht
  rw [cells3] at h0
  rw [cellsEth] at h1
  rw [cells9] at h2
  obtain ⟨k, ek, _, wk⟩ := DataW.trod_int Tryz.underlying3 h0
  obtain ⟨x, ex, _, hs⟩ := DataW.trod_string Tryz.underlying9 h2
  obtain ⟨f, f6, ft, fs, ef⟩ := eth_cells (by simp; omega) h1
  refine ⟨⟨k, f, x⟩, ⟨in64_of_wf wk, f6, ft, fs, hs⟩, fun i u hu => ?_⟩
  have e : opList ⟨k, f, x⟩ = cs := by
    unfold opList
    simp only []
    rw [← ek, ← ef, ← ex]
    exact (cut_three hlen).symm
  rw [e] at hu
  have hi := (List.getElem?_eq_some_iff.1 hu).1
  rw [hcell i (by omega)]
  exact hu

set_option maxRecDepth 100000 in
theorem open_ops8 {r : Reach} {b0 : Nat} {v : Value} {d : DataW H} {p : List MemPlace} (hv : Value.okWide Tryz.prog w r b0 24 v) (h : DataW.Trod enc Tryz.prog w base spare held 24 v d p) : ∃ l : List Op8, Ops8At w v l := by
  obtain ⟨a, len, cap, rfl⟩ := okWide_slice Tryz.underlying24 hv
  obtain ⟨fuel, hf⟩ := h
  have hf' : DataW.trod enc Tryz.prog w base spare held fuel 24 [.slice a len cap] = some (d, p) := by simpa [Value.cells] using hf
  rcases DataW.trod_slice Tryz.underlying24 hf' with ⟨hcs, _⟩ | ⟨a', len', cap', elems, rest, n, _, hcs, _, hb, hl, hm, hlen, hel, _, _⟩
  · simp at hcs
    obtain ⟨rfl, rfl, rfl⟩ := hcs
    exact ⟨[], Or.inl ⟨rfl, _, _, rfl⟩⟩
  · simp at hcs
    obtain ⟨rfl, rfl, rfl⟩ := hcs
    have each : ∀ i, ∃ o : Op8, i < len → Op8Ok o ∧ ∀ k u, (opList o)[k]? = some u → w.cell? ((a'.add (i * 16)).add k) = some u := fun i => by
      by_cases hi : i < len
      · have h1 := hel i hi
        rw [cellsOp8] at h1
        obtain ⟨y, hy⟩ : ∃ y, elems[i]? = some y := ⟨elems[i]'(by omega), by simp⟩
        rw [hy] at h1
        obtain ⟨o, ho⟩ := open_op8 h1
        exact ⟨o, fun _ => ho⟩
      · exact ⟨⟨0, frNone, ⟨#[]⟩⟩, fun h => absurd h hi⟩
    obtain ⟨F, hF⟩ := skolem1 each
    refine ⟨(List.range len).map F, ?_⟩
    obtain ⟨g, o, sp⟩ := a'
    cases len with
    | zero => exact Or.inl ⟨rfl, some ⟨g, o, sp⟩, cap, rfl⟩
    | succ m =>
      have h0 := (hF 0 (by omega)).2 0 (.int .i64 (F 0).kind) rfl
      have hsp : sp = none := by
        have h00 : w.cell? ((⟨g, o, sp⟩ : Addr).add 0) = some (.int .i64 (F 0).kind) := by
          have e : ((⟨g, o, sp⟩ : Addr).add (0 * 16)).add 0 = (⟨g, o, sp⟩ : Addr).add 0 := by
            rw [Nat.zero_mul]
            unfold Addr.add
            simp
          rw [← e]
          exact h0
        exact spot_none h00
      subst hsp
      refine Or.inr ⟨g, o, cap, by simp, by simpa using hl, hm, fun j x hj => ?_⟩
      have hjl : j < m + 1 := by
        have := (List.getElem?_eq_some_iff.1 hj).1
        simpa using this
      have hx : x = F j := by
        rw [List.getElem?_map, List.getElem?_range hjl] at hj
        simpa using hj.symm
      subst hx
      obtain ⟨k0, k1⟩ := hF j hjl
      refine ⟨k0, fun i u hu => ?_⟩
      have := k1 i u hu
      simp only [add_none] at this
      exact this
end
end Go.Proofs.YtffnppfoofifgaaGreat

namespace Go.Proofs.YtffnppfoofifgaaGreat
open Go.ChangeShapes Go.WideShapes Go.ChangeAt Go.RowKit Go.Joins

/-- A list in memory, to be read: K cells each. -/
def RowsAt {α : Type} (W : World) (K : Nat) (cells : α → List Value) (v : Value) (l : List α) : Prop :=
  (l = [] ∧ ∃ p cap, v = .slice p 0 cap) ∨ ∃ g o cap, v = .slice (some ⟨g, o, none⟩) l.length cap ∧ l.length ≤ cap ∧ cap ≤ maxLen ∧
    ∀ j x, l[j]? = some x → ∀ i u, (cells x)[i]? = some u → W.cell? ⟨g, o + j * K + i, none⟩ = some u
section
variable {α : Type} {K : Nat} {cells : α → List Value}
theorem RowsAt.slice {W : World} {v : Value} {l : List α} (h : RowsAt W K cells v l) : ∃ p cap, v = .slice p l.length cap := by
  rcases h with ⟨rfl, p, cap, rfl⟩ | ⟨g, o, cap, rfl, _⟩
  · exact ⟨p, cap, rfl⟩
  · exact ⟨_, cap, rfl⟩
theorem RowsAt.kept {S : Nat → Prop} {W W' : World} {v : Value} {l : List α} (h : RowsAt W K cells v l) (hk : Kept S W W') (hS : ∀ i, i < W.heap.size → S i → v.ownBlock ≠ some i) : RowsAt W' K cells v l := by
  rcases h with ⟨rfl, p, cap, rfl⟩ | ⟨g, o, cap, rfl, h1, h2, hc⟩
  · exact Or.inl ⟨rfl, p, cap, rfl⟩
  · refine Or.inr ⟨g, o, cap, rfl, h1, h2, fun j x hj i u hu => ?_⟩
    have c := hc j x hj i u hu
    have hlt := lt_of_cell c
    exact (hk.cell (p := ⟨g, o + j * K + i, none⟩) hlt (fun hs => hS g hlt hs rfl)).trans c
theorem RowsAt.kept0 {W W' : World} {v : Value} {l : List α} (h : RowsAt W K cells v l) (hk : Kept (fun _ => False) W W') : RowsAt W' K cells v l := h.kept hk (fun _ _ h => h.elim)
theorem RowsAt.at {W : World} {p : Option Addr} {n cap : Nat} {l : List α} (h : RowsAt W K cells (.slice p n cap) l) {j : Nat} {x : α} (hj : l[j]? = some x) :
    ∃ g o, p = some ⟨g, o, none⟩ ∧ n ≤ cap ∧ ∀ i u, (cells x)[i]? = some u → W.cell? ⟨g, o + j * K + i, none⟩ = some u := by
  rcases h with ⟨rfl, _⟩ | ⟨g, o, cap', e, hle, _, hc⟩
  · simp at hj
  · simp only [Value.slice.injEq] at e
    obtain ⟨rfl, rfl, rfl⟩ := e
    exact ⟨g, o, rfl, hle, hc j x hj⟩
end

section
variable {H : Type} {enc : TypeId × Value → H} {P : Program} {w : World} {base : Nat} {spare : Nat → Bool} {held : Bool}

theorem spot_no {W : World} {g o : Nat} {sp : Option Nat} {u : Value} (h : W.cell? ((⟨g, o, sp⟩ : Addr).add 0) = some u) : sp = none := by
  unfold Addr.add at h
  cases sp with
  | none => rfl
  | some q =>
    exfalso
    unfold World.cell? at h
    split at h <;> simp at h

/-- What a list's data hold, element by element. -/
def HoldsBy {α : Type} (R : α → DataW H → Prop) (l : List α) (d : DataW H) : Prop := l = [] ∨ ∃ es sp, d = .slice es sp ∧ ∀ (j : Nat) (x : α), l[j]? = some x → ∃ y, es[j]? = some y ∧ R x y

theorem open_rows {α : Type} {t e : TypeId} {K fuel : Nat} (cells : α → List Value) (R : α → DataW H → Prop) (hu : P.underlying t = some (.slice e)) (hK : P.cellsOf e = K) (x0 : α) (hc0 : ∀ x, 0 < (cells x).length)
    (each : ∀ n cs y, cs.length = K → DataW.trod enc P w base spare held n e cs = some y → ∃ x : α, cs = cells x ∧ R x y.1)
    {v : Value} {d : DataW H} {p : List MemPlace} (hf : DataW.trod enc P w base spare held fuel t [v] = some (d, p)) :
    ∃ l : List α, RowsAt w K cells v l ∧ l.length ≤ maxLen ∧ HoldsBy R l d ∧ ∀ n cap, v = .slice none n cap → cap = 0 := by
  rcases DataW.trod_slice hu hf with ⟨hcs, _⟩ | ⟨a', len, cap, elems, rest, n, _, hcs, hx, hb, hl, hm, hlen, hel, _, _⟩
  · obtain rfl := List.singleton_inj.1 hcs
    exact ⟨[], Or.inl ⟨rfl, _, _, rfl⟩, Nat.zero_le _, Or.inl rfl, fun n cap e => by simp at e; omega⟩
  · obtain rfl := List.singleton_inj.1 hcs
    have ech : ∀ i, ∃ o : α, i < len → (∀ q u, (cells o)[q]? = some u → w.cell? ((a'.add (i * K)).add q) = some u) ∧ ∃ y, (elems.map (·.1))[i]? = some y ∧ R o y := fun i => by
      by_cases hi : i < len
      · have h1 := hel i hi
        rw [hK] at h1
        obtain ⟨y, hy⟩ : ∃ y, elems[i]? = some y := ⟨elems[i]'(by omega), by simp⟩
        rw [hy, Option.bind_eq_some_iff] at h1
        obtain ⟨cs, hc, ht⟩ := h1
        obtain ⟨_, hcl, hcell⟩ := World.cells?_some hc
        obtain ⟨o, e, hR⟩ := each n cs y hcl ht
        refine ⟨o, fun _ => ⟨fun q u hq => ?_, y.1, by rw [List.getElem?_map, hy]; rfl, hR⟩⟩
        subst e
        have hql := (List.getElem?_eq_some_iff.1 hq).1
        have := hcell q (by omega)
        rw [this]
        exact hq
      · exact ⟨x0, fun h => absurd h hi⟩
    obtain ⟨F, hF⟩ := skolem1 ech
    refine ⟨(List.range len).map F, ?_, by simp; omega, ?_, fun n cap e => by simp at e⟩
    · obtain ⟨g, o, sp⟩ := a'
      cases len with
      | zero => exact Or.inl ⟨rfl, some ⟨g, o, sp⟩, cap, rfl⟩
      | succ m =>
        obtain ⟨u0, hu0⟩ : ∃ u, (cells (F 0))[0]? = some u := ⟨(cells (F 0))[0]'(hc0 _), by simp⟩
        have h0 := (hF 0 (by omega)).1 0 _ hu0
        have hsp : sp = none := by
          have e : ((⟨g, o, sp⟩ : Addr).add (0 * K)).add 0 = (⟨g, o, sp⟩ : Addr).add 0 := by
            rw [Nat.zero_mul]
            unfold Addr.add
            simp
          rw [e] at h0
          exact spot_no h0
        subst hsp
        refine Or.inr ⟨g, o, cap, by simp, by simpa using hl, hm, fun j x hj q u hq => ?_⟩
        have hjl : j < m + 1 := by
          have := (List.getElem?_eq_some_iff.1 hj).1
          simpa using this
        have hx : x = F j := by
          rw [List.getElem?_map, List.getElem?_range hjl] at hj
          simpa using hj.symm
        subst hx
        have k1 := (hF j hjl).1 q u hq
        simp only [Addr.add_lit] at k1
        exact k1
    · have hd : d = .slice (elems.map (·.1)) (rest.map (·.1)) := congrArg Prod.fst hx
      refine Or.inr ⟨_, _, hd, fun j x hj => ?_⟩
      have hjl : j < len := by
        have := (List.getElem?_eq_some_iff.1 hj).1
        simpa using this
      have hx : x = F j := by
        rw [List.getElem?_map, List.getElem?_range hjl] at hj
        simpa using hj.symm
      subst hx
      exact (hF j hjl).2

/-- What data hold is no greater than may be. -/
def Wt (P : Program) (t : TypeId) (d : DataW H) : Prop := ∀ n ∈ d.weights P t, n ≤ reachBytes
theorem wt_arg {ts : List TypeId} {ds : List (DataW H)} (h : (DataW.weightsEach P ts ds).all (· ≤ reachBytes) = true) {j : Nat} {t : TypeId} {d : DataW H} (ht : ts[j]? = some t) (hd : ds[j]? = some d) : Wt P t d := fun n hn => by
  have := List.all_eq_true.1 h _ (DataW.weights_mem_each ht hd n hn)
  simpa using this
theorem wt_all {e : TypeId} : ∀ {l : List (DataW H)} {d : DataW H}, d ∈ l → ∀ n ∈ d.weights P e, n ∈ DataW.weightsAll P e l
  | a :: l, d, h, n, hn => by
    simp only [DataW.weightsAll, List.mem_append]
    rcases List.mem_cons.1 h with rfl | h
    · exact Or.inl hn
    · exact Or.inr (wt_all h n hn)
theorem wt_slice {t e : TypeId} {es sp : List (DataW H)} {y : DataW H} (h : Wt P t (.slice es sp)) (hu : P.underlying t = some (.slice e)) (hy : y ∈ es) : Wt P e y := fun n hn => h n (by
  simp only [DataW.weights, hu, List.mem_cons, List.mem_append]
  exact Or.inr (Or.inl (wt_all hy n hn)))
theorem wt_field {t : TypeId} {fs : Array Field} {ds : List (DataW H)} {j : Nat} {f : Field} {d : DataW H} (h : Wt P t (.agg ds)) (hu : P.underlying t = some (.struct fs)) (hf : fs[j]? = some f) (hd : ds[j]? = some d) : Wt P f.type d := fun n hn => h n (by
  simp only [DataW.weights, hu]
  refine DataW.weights_mem_each (j := j) (t := f.type) (d := d) ?_ hd n hn
  rw [List.getElem?_map, Array.getElem?_toList, hf]
  rfl)
theorem wt_string {t : TypeId} {x : ByteArray} (h : Wt P t (.lit (.string x.data.toList) : DataW H)) : x.size ≤ 140737488351232 := by
  have := h x.data.toList.length (by simp [DataW.weights])
  rw [Lib.size_eq]
  exact this
theorem wt_list {α : Type} {R : α → DataW H → Prop} {t e : TypeId} {l : List α} {d : DataW H} (h : Wt P t d) (hu : P.underlying t = some (.slice e)) (hl : HoldsBy R l d) : ∀ x ∈ l, ∃ y, R x y ∧ Wt P e y := fun x hx => by
  rcases hl with rfl | ⟨es, sp, rfl, he⟩
  · cases hx
  · obtain ⟨j, hj⟩ := List.getElem?_of_mem hx
    obtain ⟨y, hy, hr⟩ := he j x hj
    exact ⟨y, hr, wt_slice h hu (List.mem_of_getElem? hy)⟩
end
end Go.Proofs.YtffnppfoofifgaaGreat

namespace Go.Proofs.YtffnppfoofifgaaGreat
open Go.RowKit
open BEthers (El GoodF OwnB rowB)

theorem book_newE (w : World) (base : Nat) (hb : base ≤ w.heap.size) :
    BEthers.BookT (fun _ => .slice none 0 0) (w.alloc (.cells (BEthers.bookCells (fun _ => .slice none 0 0) (.slice none 0 0) (.slice none 0 0)) 53)) w.heap.size base (.slice none 0 0) (.slice none 0 0) [] [] [] :=
  ⟨⟨heap_alloc_new w _, World.ownsRow_nil _ _ _ _, ⟨rfl, fun r v L h => by simp at h⟩, fun r q u v h => by simp at h, hb⟩, World.ownsRow_nil _ _ _ _, ⟨rfl, fun r v L h => by simp at h⟩, fun ⟨g, h, _⟩ => by simp [Value.ownBlock] at h⟩
theorem wpList_bookE {ops : Array Oper} {rest : List Oper} {o : Oper} {a : Act} {w : World} {Q : Exit → Act → World → Prop} {BC : Array Value} (hBC : BEthers.bookCells (fun _ => .slice none 0 0) (.slice none 0 0) (.slice none 0 0) = BC) (hg : o.guard = none) (ho : o.op = .build 53 #[])
    (h : wpList Tryz.prog ops Q rest (a.put o.dst (.agg BC)) w) : wpList Tryz.prog ops Q (o :: rest) a w := by
  refine wpList_build hg 53 #[] ho (by kernel_rfl) ?_
  have e : (Tryz.prog.built 53 ((#[] : Array (Nat × Operand)).map fun (i, x) => (i, a.eval x)).toList).getD #[] = BEthers.bookCells (fun _ => .slice none 0 0) (.slice none 0 0) (.slice none 0 0) := by kernel_rfl
  rw [e, hBC]
  exact h

/-- Both hosts and a new book. -/
theorem ph_new {w wA w1 w2 : World} {b d : Nat} {h : Hs} {D : Hd} (hA : Kept (fun _ => False) w wA) (hS : HSt wA w1 b h []) (hD : HdIn w2 d D) (hd : w1.heap.size ≤ d) (hk : Kept (fun _ => False) w1 w2) :
    PH w (w2.alloc (.cells (BEthers.bookCells (fun _ => .slice none 0 0) (.slice none 0 0) (.slice none 0 0)) 53)) b d w2.heap.size h D 0 := by
  obtain ⟨S, h1, h2, h3, _⟩ := hS
  have k3 : Kept (fun _ => False) w w2 := (hA.trans h3).trans hk
  have k4 : Kept (fun _ => False) w2 (w2.alloc (.cells (BEthers.bookCells (fun _ => .slice none 0 0) (.slice none 0 0) (.slice none 0 0)) 53)) := (Kept.refl _ w2).alloc _
  refine ⟨S, .slice none 0 0, .slice none 0 0, [], [], [], (h1.kept0 hk).kept0 k4, fun i hi => Nat.le_trans hA.size (h2 i hi), hD.kept k4 id, Nat.le_trans (hA.trans h3).size hd, book_newE w2 w.heap.size k3.size, fun r v i hv => ?_, fun r v i hv => ?_, rfl, fun L hL => ?_, k3.trans k4⟩
  · simp at hv
  · simp at hv
  · simp at hL
/-- The book is apart. -/
theorem PH.apart {w W : World} {b d bk n : Nat} {h : Hs} {D : Hd} (H : PH w W b d bk h D n) (hn : n ≤ 250) :
    Calls Tryz.prog 23 #[.pointer (some ⟨bk, 0, none⟩)] W fun e w' => e = .returned (.bool true) ∧ Below w.heap.size w w' := by
  obtain ⟨S, v6, v7, vs, us, Ls, H⟩ := H
  refine (BEthers.apart_Ethers H.book H.kept.size (fun L hL => Nat.le_trans (H.few L hL) (by decide)) (by rw [H.len]; exact hn)).mono ?_
  rintro e w' ⟨rfl, hb⟩
  exact ⟨rfl, (H.kept.below (Nat.le_refl _) (fun _ h => h.elim)).trans hb⟩

/-- A step: the program's call, and the document's behind it. -/
structure Arm (w : World) (b d bk n : Nat) (h : Hs) (D : Hd) (f g : FuncId) (xs ys : Array Value) (h' : Hs) (D' : Hd) (L : List El) : Prop where
  tg : TG h' D'
  few : L.length ≤ 1
  p : ∀ U, PH w U b d bk h D n → Calls Tryz.prog f xs U fun e w' => ∃ p cap, e = .returned (.slice p L.length cap) ∧ PHV w w' b d bk h' D n (.slice p L.length cap) L ∧ Kp U w'
  d : ∀ U v, PHV w U b d bk h' D n v L → Calls Tryz.prog g ys U fun e w' => ∃ p cap, e = .returned (.slice p L.length cap) ∧ PHV w w' b d bk h' D' n v L ∧ OwnB w' U.heap.size (.slice p L.length cap) L ∧ Kp U w'
section
variable {w : World} {b d bk n : Nat} {h : Hs} {D : Hd}
theorem arm_of {f g : FuncId} {xs ys : Array Value} {h' : Hs} {D' : Hd} {l : List Fr} (tg : TG h' D') (gl : GL l) (few : l.length ≤ 1)
    (hp : ∀ U S, HAt S U b h → Calls Tryz.prog f xs U fun e w' => ∃ v, e = .returned v ∧ HOut S U w' b h' v l)
    (hd : ∀ U, HdIn U d D → Calls Tryz.prog g ys U fun e w' => ∃ u, e = .returned u ∧ OwnE w' U.heap.size u l ∧ HdIn w' d D' ∧ Kept (fun i => i = d) U w') : ∃ L, Arm w b d bk n h D f g xs ys h' D' L := by
  obtain ⟨L, hL⟩ := toEl gl
  refine ⟨L, tg, ?_, fun U H => H.pcall hL (fun S hS => hp U S hS), fun U v H => H.dcall (fun hx => ?_)⟩
  · rw [← hL, List.length_map] at few
    exact few
  · rw [hL]
    exact hd U hx
theorem arm_start (t : TG h D) : ∃ h' D' L, Arm w b d bk n h D 7 8 #[.pointer (some ⟨b, 0, none⟩)] #[.pointer (some ⟨d, 0, none⟩)] h' D' L :=
  ⟨_, _, arm_of t.start.2 (start_good t.gh t.gl).1 start_len (fun U S hS => start_any b h t.gh U hS) (fun U hU => by rw [t.start.1]; exact rStart_any d D t.gd U hU)⟩
theorem arm_stop (t : TG h D) : ∃ h' D' L, Arm w b d bk n h D 9 10 #[.pointer (some ⟨b, 0, none⟩)] #[.pointer (some ⟨d, 0, none⟩)] h' D' L :=
  ⟨_, _, arm_of t.stop.2 (stop_good t.gh).1 stop_len (fun U S hS => stop_any b h t.gh U hS) (fun U hU => by rw [t.stop.1]; exact rStop_any d D t.gd U hU)⟩
theorem arm_tick (t : TG h D) : ∃ h' D' L, Arm w b d bk n h D 11 12 #[.pointer (some ⟨b, 0, none⟩)] #[.pointer (some ⟨d, 0, none⟩)] h' D' L :=
  ⟨_, _, arm_of t.tick.2 (tick_good t.gl).1 (tick_len t.gh) (fun U S hS => tick_any b h t.gh U hS) (fun U hU => by rw [t.tick.1]; exact rTick_any d D t.gd (by have := t.tk; omega) U hU)⟩
theorem arm_take (t : TG h D) (f : Fr) (hdst : f.dst.length = 6) (hsrc : f.src.length = 6) (hsz : f.data.size ≤ 1000000) : ∃ h' D' L, Arm w b d bk n h D 17 18 #[.pointer (some ⟨b, 0, none⟩), frV f] #[.pointer (some ⟨d, 0, none⟩), frV f] h' D' L :=
  ⟨_, _, arm_of (t.take hsrc).2 (take_good t.gh t.gl hsrc).1 (take_len f) (fun U S hS => take_all b h t.gh f hdst hsrc hsz U hS)
    (fun U hU => by rw [(t.take hsrc).1]; exact rTake_any d D t.gd f hdst hsrc hsz (Nat.le_trans (getE_few f).1 (by decide)) (fun x hx => ((getE_few f).2 x hx).1) (findF_size (fun x hx => ((getE_few f).2 x hx).1)) U hU)⟩
theorem rd_data (t : TG h D) (f : Fr) (hdst : f.dst.length = 6) (hsrc : f.src.length = 6) (hsz : f.data.size ≤ 1000000) : ∃ (x : ByteArray) (q : Bool),
    (∀ U, PH w U b d bk h D n → Calls Tryz.prog 13 #[.pointer (some ⟨b, 0, none⟩), frV f] U fun e w' => e = .returned (.tuple #[.string x, .bool q]) ∧ PH w w' b d bk h D n ∧ Kept (fun _ => False) U w') ∧
    (∀ U, PH w U b d bk h D n → Calls Tryz.prog 14 #[.pointer (some ⟨d, 0, none⟩), frV f] U fun e w' => e = .returned (.tuple #[.string x, .bool q]) ∧ PH w w' b d bk h D n ∧ Kept (fun _ => False) U w') :=
  ⟨(dataH h f).1, (dataH h f).2, fun U H => H.pread (fun av hH => dataH_any b av h t.gh f hdst hsrc hsz U hH), fun U H => H.dread (fun hH => by rw [t.tie.data f]; exact rData_any d D t.gd f hdst hsrc hsz U hH)⟩
theorem frame_good (g : GoodH h) (x : ByteArray) : GoodF (frameH h x).1 := by
  unfold frameH
  split
  · exact etFrame_good g.conc g.mac (by decide) _ _ _
  · exact ⟨rfl, rfl, (show (Lit.int .i64 0).wf = true by decide), by show 0 ≤ maxLen; unfold maxLen; omega⟩
theorem rd_frame (t : TG h D) (x : ByteArray) (hx : x.size ≤ 1000000) : ∃ (f : Fr) (q : Int), GoodF f ∧
    (∀ U, PH w U b d bk h D n → Calls Tryz.prog 15 #[.pointer (some ⟨b, 0, none⟩), .string x] U fun e w' => e = .returned (.tuple #[frV f, .int .i64 q]) ∧ PH w w' b d bk h D n ∧ Kept (fun _ => False) U w') ∧
    (∀ U, PH w U b d bk h D n → Calls Tryz.prog 16 #[.pointer (some ⟨d, 0, none⟩), .string x] U fun e w' => e = .returned (.tuple #[frV f, .int .i64 q]) ∧ PH w w' b d bk h D n ∧ Kept (fun _ => False) U w') :=
  ⟨(frameH h x).1, (frameH h x).2, frame_good t.gh x, fun U H => H.pread (fun av hH => frameH_any b av h t.gh x hx U hH), fun U H => H.dread (fun hH => by rw [t.tie.frame x]; exact rFrame_any d D t.gd x hx U hH)⟩
theorem rd_state (t : TG h D) : ∃ (s k : Int) (m : List UInt8), m.length = 6 ∧
    (∀ U, PH w U b d bk h D n → Calls Tryz.prog 20 #[.pointer (some ⟨b, 0, none⟩)] U fun e w' => e = .returned (.tuple #[.int .i64 s, .agg (Lib.byteCells m).toArray, .int .i64 k]) ∧ PH w w' b d bk h D n ∧ Kept (fun _ => False) U w') ∧
    (∀ U, PH w U b d bk h D n → Calls Tryz.prog 21 #[.pointer (some ⟨d, 0, none⟩)] U fun e w' => e = .returned (.tuple #[.int .i64 s, .agg (Lib.byteCells m).toArray, .int .i64 k]) ∧ PH w w' b d bk h D n ∧ Kept (fun _ => False) U w') := by
  refine ⟨h.state, h.session, h.conc, t.gh.conc, fun U H => H.pread (fun av hH => state_any b av h t.gh U hH), fun U H => H.dread (fun hH => ?_)⟩
  have := rShows_any d D t.gd U hH
  rw [t.tie.shows] at this
  exact this
end

/-- The frame and the data of a step, by their cells. -/
theorem op_cells2 {d s : List UInt8} (h : d.length = 6) (h' : s.length = 6) (k ty : Int) (x y : ByteArray) : ∃ d0 d1 d2 d3 d4 d5 s0 s1 s2 s3 s4 s5 : Int, frV ⟨d, s, ty, x⟩ = .agg #[.int .u8 d0, .int .u8 d1, .int .u8 d2, .int .u8 d3, .int .u8 d4, .int .u8 d5, .int .u8 s0, .int .u8 s1, .int .u8 s2, .int .u8 s3, .int .u8 s4, .int .u8 s5, .int .i64 ty, .string x] ∧
    opList ⟨k, ⟨d, s, ty, x⟩, y⟩ = [.int .i64 k, .int .u8 d0, .int .u8 d1, .int .u8 d2, .int .u8 d3, .int .u8 d4, .int .u8 d5, .int .u8 s0, .int .u8 s1, .int .u8 s2, .int .u8 s3, .int .u8 s4, .int .u8 s5, .int .i64 ty, .string x, .string y] := by
  obtain ⟨d0, d1, d2, d3, d4, d5, ed⟩ := six_cells h
  obtain ⟨s0, s1, s2, s3, s4, s5, es⟩ := six_cells h'
  refine ⟨d0, d1, d2, d3, d4, d5, s0, s1, s2, s3, s4, s5, ?_, ?_⟩
  · unfold frV frList
    simp only []
    rw [ed, es]
    rfl
  · unfold opList frList
    simp only []
    rw [ed, es]
    rfl
theorem fr_cells {f : Fr} (h : GoodF f) : ∃ (d0 d1 d2 d3 d4 d5 s0 s1 s2 s3 s4 s5 ty : Int) (x : ByteArray), frV f = .agg #[.int .u8 d0, .int .u8 d1, .int .u8 d2, .int .u8 d3, .int .u8 d4, .int .u8 d5, .int .u8 s0, .int .u8 s1, .int .u8 s2, .int .u8 s3, .int .u8 s4, .int .u8 s5, .int .i64 ty, .string x] := by
  obtain ⟨d, s, ty, x⟩ := f
  obtain ⟨d0, d1, d2, d3, d4, d5, s0, s1, s2, s3, s4, s5, e, _⟩ := op_cells2 (d := d) (s := s) h.1 h.2.1 0 ty x ⟨#[]⟩
  exact ⟨d0, d1, d2, d3, d4, d5, s0, s1, s2, s3, s4, s5, ty, x, e⟩
end Go.Proofs.YtffnppfoofifgaaGreat

namespace Go.Proofs.YtffnppfoofifgaaGreat
open Go.ChangeShapes Go.WideShapes Go.ChangeAt Go.RowKit Go.Joins

section
variable {H : Type} {enc : TypeId × Value → H} {w : World} {base : Nat} {spare : Nat → Bool} {held : Bool}
set_option maxRecDepth 100000 in
theorem open_mac {r : Reach} {b0 : Nat} {v : Value} {d : DataW H} {p : List MemPlace} (hv : Value.okWide Tryz.prog w r b0 23 v) (h : DataW.Trod enc Tryz.prog w base spare held 23 v d p) :
    ∃ m : List UInt8, v = .agg (Lib.byteCells m).toArray ∧ m.length = 6 := by
  obtain ⟨cs, rfl⟩ : ∃ cs, v = .agg cs := by
    simp only [Value.okWide, Tryz.underlying23] at hv
    obtain ⟨cs, h1, _⟩ := hv
    exact ⟨cs, h1⟩
  obtain ⟨fuel, hf⟩ := h
  obtain ⟨m, hm, hc⟩ := mac_cells hf
  refine ⟨m, ?_, hm⟩
  congr 1
  apply Array.toList_inj.1
  exact hc
theorem eth_cells2 {fuel : Nat} {l : List Value} {x : DataW H × List MemPlace} (hl : l.length = 14) (h : DataW.trod enc Tryz.prog w base spare held fuel 55 l = some x) :
    ∃ (f : Fr) (z0 z1 z2 : DataW H), Fr6 f ∧ l = frList f ∧ x.1 = .agg [z0, z1, z2, .lit (.string f.data.data.toList)] := by
  obtain ⟨y0, y1, y2, y3, n, hx, _, h0, h1, h2, h3⟩ := trod_struct4 Tryz.underlying55 h
  obtain ⟨a, ha, ea⟩ := mac_cells h0
  obtain ⟨b, hb, eb⟩ := mac_cells h1
  obtain ⟨ty, et, _, wt⟩ := DataW.trod_int Tryz.underlying3 h2
  obtain ⟨s, ex, hy3, hs⟩ := DataW.trod_string Tryz.underlying9 h3
  rw [cellsMac] at ea eb
  rw [cells3] at et
  rw [cells9] at ex
  refine ⟨⟨a, b, ty, s⟩, y0.1, y1.1, y2.1, ⟨ha, hb⟩, ?_, by rw [hx, hy3]⟩
  unfold frList
  simp only []
  rw [← ea, ← eb]
  have e2 : [Value.int .i64 ty, .string s] = [Value.int .i64 ty] ++ [.string s] := rfl
  rw [e2, ← et, ← ex]
  have f1 : l.drop 6 = (l.drop 6).take 6 ++ l.drop 12 := by have := (List.take_append_drop 6 (l.drop 6)).symm; rw [List.drop_drop] at this; exact this
  have f2 : l.drop 12 = (l.drop 12).take 1 ++ l.drop 13 := by have := (List.take_append_drop 1 (l.drop 12)).symm; rw [List.drop_drop] at this; exact this
  have f3 : (l.drop 13).take 1 = l.drop 13 := List.take_of_length_le (by simp; omega)
  rw [List.append_assoc]
  show l = (l.drop 0).take 6 ++ ((l.drop 6).take 6 ++ ((l.drop 12).take 1 ++ (l.drop 13).take 1))
  rw [List.drop_zero, f3, ← f2, ← f1, List.take_append_drop]
def ROp8 (x : Op8) (d : DataW H) : Prop := Fr6 x.f ∧ ∃ z0 z1 z2 z3, d = .agg [z0, .agg [z1, z2, z3, .lit (.string x.f.data.data.toList)], .lit (.string x.data.data.toList)]
set_option maxRecDepth 100000 in
theorem each_op8 (n : Nat) (cs : List Value) (y : DataW H × List MemPlace) (hlen : cs.length = 16) (ht : DataW.trod enc Tryz.prog w base spare held n 57 cs = some y) : ∃ x : Op8, cs = opList x ∧ ROp8 x y.1 := by
  obtain ⟨y0, y1, y2, m, hx, _, h0, h1, h2⟩ := Go.Deep.trod_struct3 Tryz.underlying57 ht
  rw [cells3] at h0
  rw [cellsEth] at h1
  rw [cells9] at h2
  obtain ⟨k, ek, _, wk⟩ := DataW.trod_int Tryz.underlying3 h0
  obtain ⟨x, ex, hy2, hs⟩ := DataW.trod_string Tryz.underlying9 h2
  obtain ⟨f, z0, z1, z2, f6, ef, hy1⟩ := eth_cells2 (by simp; omega) h1
  refine ⟨⟨k, f, x⟩, ?_, f6, y0.1, z0, z1, z2, by rw [hx, hy1, hy2]⟩
  unfold opList
  simp only []
  rw [← ek, ← ef, ← ex]
  exact cut_three hlen
/-- A list of steps, with all that is known of it. -/
def Ops8 (W : World) (v : Value) (l : List Op8) : Prop := RowsAt W 16 opList v l
def Fit8 (x : Op8) : Prop := Fr6 x.f ∧ x.f.data.size ≤ 140737488351232 ∧ x.data.size ≤ 140737488351232
set_option maxRecDepth 100000 in
theorem open_ops8w {r : Reach} {b0 : Nat} {v : Value} {d : DataW H} {p : List MemPlace} (hv : Value.okWide Tryz.prog w r b0 24 v) (h : DataW.Trod enc Tryz.prog w base spare held 24 v d p) (hw : Wt Tryz.prog 24 d) :
    ∃ l : List Op8, Ops8 w v l ∧ ∀ x ∈ l, Fit8 x := by
  obtain ⟨a, len, cap, rfl⟩ := okWide_slice Tryz.underlying24 hv
  obtain ⟨fuel, hf⟩ := h
  have hf' : DataW.trod enc Tryz.prog w base spare held fuel 24 [.slice a len cap] = some (d, p) := by simpa [Value.cells] using hf
  obtain ⟨l, h1, h2, h3, _⟩ := open_rows opList ROp8 Tryz.underlying24 cellsOp8 ⟨0, frNone, ⟨#[]⟩⟩ (fun _ => by simp [opList]) each_op8 hf'
  refine ⟨l, h1, fun x hx => ?_⟩
  obtain ⟨y, ⟨r1, z0, z1, z2, z3, rfl⟩, hwy⟩ := wt_list hw Tryz.underlying24 h3 x hx
  have hp := wt_field (j := 1) (d := .agg [z1, z2, z3, .lit (.string x.f.data.data.toList)]) hwy Tryz.underlying57 rfl rfl
  exact ⟨r1, wt_string (wt_field (j := 3) (d := .lit (.string x.f.data.data.toList)) hp Tryz.underlying55 rfl rfl), wt_string (wt_field (j := 2) (d := .lit (.string x.data.data.toList)) hwy Tryz.underlying57 rfl rfl)⟩
end

/-- A block of a law's own, that stays. -/
def Bx (w : World) (b : Nat) (cs : Array Value) (T : TypeId) : Prop := w.heap[b]? = some (Obj.cells cs T (0, 0))
theorem Bx.new (w : World) (cs : Array Value) (T : TypeId) : Bx (w.alloc (.cells cs T)) w.heap.size cs T := heap_alloc_new w _
theorem Bx.lt {w : World} {b : Nat} {cs : Array Value} {T : TypeId} (h : Bx w b cs T) : b < w.heap.size := (Array.getElem?_eq_some_iff.1 h).1
theorem Bx.cell {w : World} {b : Nat} {cs : Array Value} {T : TypeId} (h : Bx w b cs T) (i : Nat) : w.cell? ⟨b, i, none⟩ = cs[i]? := cell_of_row w b i _ _ _ h
theorem Bx.kept {w w' : World} {b : Nat} {cs : Array Value} {T : TypeId} (h : Bx w b cs T) (hk : Kept (fun _ => False) w w') : Bx w' b cs T := (hk.block b h.lt id).trans h
theorem Bx.kp {w w' : World} {b : Nat} {cs : Array Value} (h : Bx w b cs 57) (hk : Kp w w') : Bx w' b cs 57 := hk b cs h
end Go.Proofs.YtffnppfoofifgaaGreat
