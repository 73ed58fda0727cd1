/- Two ends that ask for a unit each, as plain data: what each is behind each round; Take at each of their packets. -/
import Derived.Test.YtodgkmjiiijfpaaNgNak
import Derived.Test.YtodgkmjiiijfpaaNgPair
namespace Go.Proofs.Ytodgkmjiiijfpaa
open Go.RowKit

def sugB : ByteArray := ⟨#[5, 212]⟩
def chF (m : Ng) (o : Tg) : Ng := { m with req := [⟨1, o.value⟩] }
def nakN (n : Ng) (p : Pk0) : Ng × List Pk0 := happenF ⟨p, pk00⟩ (p.opts.foldl chF n) 9
def tk (n : Ng) (p : Pk0) : Ng × List Pk0 := if p.code = 1 then reqN n p else if p.code = 2 then ackN n p else nakN n p
/-- Packets that such an end takes. -/
structure OkP (n : Ng) (p : Pk0) : Prop where
  kind : p.code = 1 ∨ (p.code = 2 ∧ n.begun = true ∧ p.id = n.last) ∨ (p.code = 3 ∧ n.begun = true ∧ p.id = n.last ∧ p.opts = [⟨1, sugB⟩])
  req : ∃ v, n.req = [⟨1, v⟩]
  own : n.own = [rule1]
  peer : n.peer = [rule1]
  fine : FineO p.opts
  data : p.data.size ≤ 140737488351232

theorem take_ok {base b : Nat} {a : Nm} {n : Ng} (p : Pk0) (v : Value) (w : World) (h : NegIn w base b a n) (hp : PkIn w b a p v) (ok : OkP n p) :
    Calls Try.prog 12 #[.pointer (some ⟨b, 0, none⟩), pkV p.code p.id v p.data] w fun e w' => ∃ vo, e = .returned vo ∧ Sent w w' base b a (tk n p) vo := by
  unfold tk
  rcases ok.kind with hc | ⟨hc, hb, hi⟩ | ⟨hc, hb, hi, ho⟩
  · rw [if_pos hc]
    exact take_req p v w h hp hc (by rw [ok.peer]; exact short1)
  · rw [if_neg (by omega), if_pos hc]
    exact take_ans2 p v w h hp hc hb hi _ (fun W h1 h2 => takeAnswer_2 p v W h1 h2 hc)
  · rw [if_neg (by omega), if_neg (by omega)]
    refine take_ans3 p v w h hp hc hb hi _ (fun W h1 h2 => ?_)
    refine takeAnswer_3 p v W h1 h2 hc chF (fun m => (∃ u, m.req = [⟨1, u⟩]) ∧ m.own = [rule1]) ⟨ok.req, ok.own⟩ (fun m o _ hm => ⟨⟨_, rfl⟩, hm.2⟩) (fun W1 a1 m o hmem hI hN => ?_)
    obtain ⟨⟨u, hu⟩, hown⟩ := hI
    rw [ho, List.mem_singleton] at hmem
    subst hmem
    refine (change_fits ⟨1, sugB⟩ W1 hN ⟨by decide, by decide⟩ (by decide) ⟨1, u⟩ hu rfl (by rw [hown]; kernel_rfl)).mono ?_
    rintro e w' ⟨rfl, hn⟩
    exact ⟨rfl, a1, hn⟩

/-- All packets of a list, one behind the other. -/
def runN (n : Ng) (l : List Pk0) : Ng × List Pk0 := l.foldl (fun s p => ((tk s.1 p).1, s.2 ++ (tk s.1 p).2)) (n, [])
theorem runN_take (n : Ng) {l : List Pk0} {j : Nat} {p : Pk0} (h : l[j]? = some p) : runN n (l.take (j + 1)) = ((tk (runN n (l.take j)).1 p).1, (runN n (l.take j)).2 ++ (tk (runN n (l.take j)).1 p).2) := by
  unfold runN
  rw [List.take_add_one, h, List.foldl_append]
  rfl
def OkL (n : Ng) (l : List Pk0) : Prop := ∀ j p, l[j]? = some p → OkP (runN n (l.take j)).1 p

def req1 (i : Int) (a : ByteArray) : Pk0 := ⟨1, i, [⟨1, a⟩], ⟨#[]⟩⟩
def ack1 (i : Int) (a : ByteArray) : Pk0 := ⟨2, i, [⟨1, a⟩], ⟨#[]⟩⟩
def nak1 : Pk0 := ⟨3, 1, [⟨1, sugB⟩], ⟨#[]⟩⟩
def nM (a : ByteArray) (f : Int) : Ng := newN [⟨1, a⟩] [rule1] [rule1] 5 2 f 2
def nM1 (a : ByteArray) (f : Int) : Ng := { nM a f with au := ⟨5, 2, 1, 0⟩ }
/-- What an end is behind each round, and what it sent: does its unit fit, does the other's? -/
def ag (fa fb : Bool) (a b : ByteArray) (f : Int) : Nat → Ng × List Pk0
  | 0 => ({ nM a f with au := ⟨5, 2, 6, 4⟩, id := 1, last := 1, begun := true }, [req1 1 a])
  | 1 => if fb then ({ nM a f with au := ⟨5, 2, 8, 4⟩, id := 1, last := 1, begun := true, theirs := [⟨1, b⟩] }, [ack1 1 b])
         else ({ nM a f with au := ⟨5, 2, 6, 4⟩, id := 1, last := 1, begun := true, naks := 1 }, [nak1])
  | 2 => match fa, fb with
    | true, true => ({ nM a f with au := ⟨5, 2, 9, 5⟩, id := 1, last := 1, begun := true, mine := [⟨1, a⟩], theirs := [⟨1, b⟩], ups := 1 }, [])
    | true, false => ({ nM a f with au := ⟨5, 2, 7, 5⟩, id := 1, last := 1, begun := true, naks := 1, mine := [⟨1, a⟩] }, [])
    | false, true => ({ nM sugB f with au := ⟨5, 2, 8, 4⟩, id := 2, last := 2, begun := true, theirs := [⟨1, b⟩] }, [req1 2 sugB])
    | false, false => ({ nM sugB f with au := ⟨5, 2, 6, 4⟩, id := 2, last := 2, begun := true, naks := 1 }, [req1 2 sugB])
  | 3 => match fa, fb with
    | true, true => ({ nM a f with au := ⟨5, 2, 9, 5⟩, id := 1, last := 1, begun := true, mine := [⟨1, a⟩], theirs := [⟨1, b⟩], ups := 1 }, [])
    | true, false => ({ nM a f with au := ⟨5, 2, 9, 5⟩, id := 1, last := 1, begun := true, mine := [⟨1, a⟩], theirs := [⟨1, sugB⟩], ups := 1 }, [ack1 2 sugB])
    | false, true => ({ nM sugB f with au := ⟨5, 2, 8, 4⟩, id := 2, last := 2, begun := true, theirs := [⟨1, b⟩] }, [])
    | false, false => ({ nM sugB f with au := ⟨5, 2, 8, 4⟩, id := 2, last := 2, begun := true, theirs := [⟨1, sugB⟩] }, [ack1 2 sugB])
  | _ => match fa, fb with
    | true, true => ({ nM a f with au := ⟨5, 2, 9, 5⟩, id := 1, last := 1, begun := true, mine := [⟨1, a⟩], theirs := [⟨1, b⟩], ups := 1 }, [])
    | true, false => ({ nM a f with au := ⟨5, 2, 9, 5⟩, id := 1, last := 1, begun := true, mine := [⟨1, a⟩], theirs := [⟨1, sugB⟩], ups := 1 }, [])
    | false, true => ({ nM sugB f with au := ⟨5, 2, 9, 5⟩, id := 2, last := 2, begun := true, mine := [⟨1, sugB⟩], theirs := [⟨1, b⟩], ups := 1 }, [])
    | false, false => ({ nM sugB f with au := ⟨5, 2, 9, 5⟩, id := 2, last := 2, begun := true, mine := [⟨1, sugB⟩], theirs := [⟨1, sugB⟩], ups := 1 }, [])

theorem stepM1 (a : ByteArray) (f : Int) : doN (nM a f) 2 = (nM1 a f, []) := by kernel_rfl
theorem stepM2 (fa fb : Bool) (a b : ByteArray) (f : Int) : doN (nM1 a f) 0 = ag fa fb a b f 0 := by kernel_rfl

theorem judge_one (b : ByteArray) : judgeF [rule1] [⟨1, b⟩] = if fitsF rule1 b = true then (2, [⟨1, b⟩]) else (3, [⟨1, sugB⟩]) := by
  have h0 : upTo (rejF [rule1] [⟨1, b⟩]) [⟨1, b⟩] 1 = [] := by kernel_rfl
  have h1 : upTo (nakF [rule1] [⟨1, b⟩]) [⟨1, b⟩] 1 = nakF [rule1] [⟨1, b⟩] 0 ⟨1, b⟩ := by
    rw [upTo_next _ _ 0 (t := ⟨1, b⟩) rfl, upTo_zero, List.nil_append]
  have h2 : nakF [rule1] [⟨1, b⟩] 0 ⟨1, b⟩ = if fitsF rule1 b = true then [] else [⟨1, sugB⟩] := by
    unfold nakF
    have hq : badF [rule1] [⟨1, b⟩] 0 ⟨1, b⟩ = false := by kernel_rfl
    rw [hq, if_neg (by decide)]
    rfl
  unfold judgeF
  rw [List.length_singleton, h0, h1, h2, if_neg (by simp)]
  split <;> simp
theorem fits_sug : fitsF rule1 sugB = true := by kernel_rfl

theorem req_fit {b : ByteArray} {n : Ng} (i : Int) (h : fitsF rule1 b = true) (hp : n.peer = [rule1]) : reqN n (req1 i b) = happenF ⟨req1 i b, ack1 i b⟩ { n with naks := 0 } 6 := by
  unfold reqN
  rw [hp]
  show (if (judgeF [rule1] [⟨1, b⟩]).1 = 2 then _ else _) = _
  have e := judge_one b
  rw [if_pos h] at e
  rw [show (req1 i b).opts = [⟨1, b⟩] from rfl, e]
  rfl
theorem req_not {b : ByteArray} {n : Ng} (h : fitsF rule1 b = false) (hp : n.peer = [rule1]) : reqN n (req1 1 b) = happenF ⟨req1 1 b, nak1⟩ n 7 := by
  unfold reqN
  rw [hp]
  show (if (judgeF [rule1] [⟨1, b⟩]).1 = 2 then _ else _) = _
  have e := judge_one b
  rw [if_neg (by rw [h]; decide)] at e
  rw [show (req1 1 b).opts = [⟨1, b⟩] from rfl, e]
  rfl
theorem ack_is {a : ByteArray} {n : Ng} (i : Int) (h : n.req = [⟨1, a⟩]) : ackN n (ack1 i a) = happenF ⟨ack1 i a, pk00⟩ { n with mine := [⟨1, a⟩] } 8 := by
  unfold ackN
  rw [h, show (ack1 i a).opts = [⟨1, a⟩] from rfl, sameF_self]
  rfl

theorem few {f : Int} (h2 : 2 ≤ f) (h3 : f ≤ 10) : f = 2 ∨ f = 3 ∨ f = 4 ∨ f = 5 ∨ f = 6 ∨ f = 7 ∨ f = 8 ∨ f = 9 ∨ f = 10 := by omega
theorem run_one (n : Ng) (p : Pk0) : runN n [p] = tk n p := by
  unfold runN
  simp
theorem run_nil (n : Ng) : runN n [] = (n, []) := rfl
theorem tk_req (n : Ng) (i : Int) (a : ByteArray) : tk n (req1 i a) = reqN n (req1 i a) := by kernel_rfl
theorem tk_ack (n : Ng) (i : Int) (a : ByteArray) : tk n (ack1 i a) = ackN n (ack1 i a) := by kernel_rfl
theorem tk_nak (n : Ng) : tk n nak1 = happenF ⟨nak1, pk00⟩ { n with req := [⟨1, sugB⟩] } 9 := by kernel_rfl

set_option maxHeartbeats 4000000 in
theorem ag_step {fa fb : Bool} {a b : ByteArray} {f : Int} (h2 : 2 ≤ f) (h3 : f ≤ 10) (ha : fitsF rule1 a = fa) (hb : fitsF rule1 b = fb) (i : Nat) : runN (ag fa fb a b f i).1 (ag fb fa b a f i).2 = ag fa fb a b f (i + 1) := by
  match i with
  | 0 =>
    show runN _ [req1 1 b] = _
    rw [run_one, tk_req]
    cases fb with
    | true =>
      rw [req_fit 1 hb rfl]
      kernel_rfl
    | false =>
      rw [req_not hb rfl]
      rcases few h2 h3 with rfl | rfl | rfl | rfl | rfl | rfl | rfl | rfl | rfl <;> kernel_rfl
  | 1 =>
    cases fa with
    | true =>
      show runN _ [ack1 1 a] = _
      rw [run_one, tk_ack]
      cases fb with
      | true => rw [ack_is 1 rfl]; kernel_rfl
      | false => rw [ack_is 1 rfl]; kernel_rfl
    | false =>
      show runN _ [nak1] = _
      rw [run_one, tk_nak]
      cases fb <;> kernel_rfl
  | 2 =>
    cases fb with
    | true => cases fa <;> rfl
    | false =>
      cases fa with
      | true =>
        show runN _ [req1 2 sugB] = _
        rw [run_one, tk_req, req_fit 2 fits_sug rfl]
        kernel_rfl
      | false =>
        show runN _ [req1 2 sugB] = _
        rw [run_one, tk_req, req_fit 2 fits_sug rfl]
        kernel_rfl
  | 3 =>
    cases fa with
    | true => cases fb <;> rfl
    | false =>
      cases fb with
      | true =>
        show runN _ [ack1 2 sugB] = _
        rw [run_one, tk_ack, ack_is 2 rfl]
        kernel_rfl
      | false =>
        show runN _ [ack1 2 sugB] = _
        rw [run_one, tk_ack, ack_is 2 rfl]
        kernel_rfl
  | i + 4 => cases fa <;> cases fb <;> rfl

theorem okL_nil (n : Ng) : OkL n [] := fun j p h => by simp at h
theorem okL_one {n : Ng} {p : Pk0} (h : OkP n p) : OkL n [p] := fun j q hq => by
  cases j with
  | succ j => simp at hq
  | zero =>
    have : p = q := by simpa using hq
    subst this
    exact h
theorem fine_one {a : ByteArray} (h : a.size ≤ 1000) : FineO [⟨1, a⟩] := fine1 (x := ⟨1, a⟩) ⟨by simp only; omega, by simp only; omega⟩ (by simp only; omega)
theorem ok_req {n : Ng} {a : ByteArray} (i : Int) (hn : ∃ v, n.req = [⟨1, v⟩]) (ho : n.own = [rule1]) (hp : n.peer = [rule1]) (h : a.size ≤ 1000) : OkP n (req1 i a) := ⟨Or.inl rfl, hn, ho, hp, fine_one h, Nat.zero_le _⟩
theorem ok_ack {n : Ng} {a : ByteArray} {i : Int} (hb : n.begun = true) (hi : i = n.last) (hn : ∃ v, n.req = [⟨1, v⟩]) (ho : n.own = [rule1]) (hp : n.peer = [rule1]) (h : a.size ≤ 1000) : OkP n (ack1 i a) := ⟨Or.inr (Or.inl ⟨rfl, hb, hi⟩), hn, ho, hp, fine_one h, Nat.zero_le _⟩
theorem ok_nak {n : Ng} (hb : n.begun = true) (hi : 1 = n.last) (hn : ∃ v, n.req = [⟨1, v⟩]) (ho : n.own = [rule1]) (hp : n.peer = [rule1]) : OkP n nak1 := ⟨Or.inr (Or.inr ⟨rfl, hb, hi, rfl⟩), hn, ho, hp, fine_one (by decide), by decide⟩

theorem ag_ok (fa fb : Bool) {a b : ByteArray} (f : Int) (ha : a.size ≤ 1000) (hb : b.size ≤ 1000) (i : Nat) : OkL (ag fa fb a b f i).1 (ag fb fa b a f i).2 := by
  have hs : sugB.size ≤ 1000 := by decide
  match i with
  | 0 => exact okL_one (ok_req 1 ⟨_, rfl⟩ rfl rfl hb)
  | 1 =>
    cases fa <;> cases fb
    · exact okL_one (ok_nak rfl rfl ⟨_, rfl⟩ rfl rfl)
    · exact okL_one (ok_nak rfl rfl ⟨_, rfl⟩ rfl rfl)
    · exact okL_one (ok_ack rfl rfl ⟨_, rfl⟩ rfl rfl ha)
    · exact okL_one (ok_ack rfl rfl ⟨_, rfl⟩ rfl rfl ha)
  | 2 =>
    cases fa <;> cases fb
    · exact okL_one (ok_req 2 ⟨_, rfl⟩ rfl rfl hs)
    · exact okL_nil _
    · exact okL_one (ok_req 2 ⟨_, rfl⟩ rfl rfl hs)
    · exact okL_nil _
  | 3 =>
    cases fa <;> cases fb
    · exact okL_one (ok_ack rfl rfl ⟨_, rfl⟩ rfl rfl hs)
    · exact okL_one (ok_ack rfl rfl ⟨_, rfl⟩ rfl rfl hs)
    · exact okL_nil _
    · exact okL_nil _
  | i + 4 => cases fa <;> cases fb <;> exact okL_nil _

/-- What is agreed in the end. -/
def endB (fa : Bool) (a : ByteArray) : ByteArray := if fa then a else sugB
theorem ag_end (fa fb : Bool) (a b : ByteArray) (f : Int) (i : Nat) : (ag fa fb a b f (i + 4)).1.au.st = 9 ∧ mineF (ag fa fb a b f (i + 4)).1 = [⟨1, endB fa a⟩] ∧ theirsF (ag fa fb a b f (i + 4)).1 = [⟨1, endB fb b⟩] := by
  cases fa <;> cases fb <;> exact ⟨by kernel_rfl, by kernel_rfl, by kernel_rfl⟩
theorem end_fits {fa : Bool} {a : ByteArray} (h : fitsF rule1 a = fa) : fitsF rule1 (endB fa a) = true := by
  cases fa with
  | true => exact h
  | false => exact fits_sug
theorem ag_few (fa fb : Bool) (a b : ByteArray) (f : Int) (i : Nat) : (ag fa fb a b f i).2.length ≤ 1 := by
  match i with
  | 0 => exact Nat.le_refl _
  | 1 => cases fb <;> exact Nat.le_refl _
  | 2 => cases fa <;> cases fb <;> first | exact Nat.le_refl 1 | exact Nat.zero_le 1
  | 3 => cases fa <;> cases fb <;> first | exact Nat.le_refl 1 | exact Nat.zero_le 1
  | i + 4 => cases fa <;> cases fb <;> exact Nat.zero_le 1

/-- Two ends, and four lists beside them. -/
structure Meet (w W : World) (bx : Nat) (ax : Nm) (x : Ng) (bz : Nat) (az : Nm) (z : Ng) (vp vq vu vv : Value) (lp lq lu lv : List (Pk0 × Value)) (B : Nat) : Prop where
  pair : Pair w W bx ax x bz az z
  p : Pks W w.heap.size (Tp bx ax bz az) vp lp
  q : Pks W w.heap.size (Tp bx ax bz az) vq lq
  u : Pks W w.heap.size (Tp bx ax bz az) vu lu
  v : Pks W B (Tp bx ax bz az) vv lv
  bw : w.heap.size ≤ B
  bW : B ≤ W.heap.size
  up : ∀ i, vp.ownBlock = some i → i < B
  uq : ∀ i, vq.ownBlock = some i → i < B
  uu : ∀ i, vu.ownBlock = some i → i < B

/-- One packet is taken by the one end; what it sends is laid behind the list. -/
theorem Meet.take {w W W1 : World} {bx bz B : Nat} {ax az : Nm} {x z : Ng} {vp vq vu vv vo : Value} {lp lq lu lv : List (Pk0 × Value)} (h : Meet w W bx ax x bz az z vp vq vu vv lp lq lu lv B) {s : Ng × List Pk0} (hs : Sent W W1 w.heap.size bx ax s vo) (hn : lv.length + s.2.length ≤ 1000) :
    ∃ ax' l v' W', AppP W1 vv vo v' W' ∧ l.map (·.1) = s.2 ∧ Meet w W' bx ax' s.1 bz az z vp vq vu v' lp lq lu (lv ++ l) B := by
  obtain ⟨ax', l, k, hl, e⟩ := h.pair.sentL hs
  have hsz := k.kept.size
  have P1 := h.pair.left k
  have v1 := h.v.left h.pair k
  have p1 := h.p.left h.pair k
  have q1 := h.q.left h.pair k
  have u1 := h.u.left h.pair k
  have hlen : l.length = s.2.length := by rw [← e, List.length_map]
  obtain ⟨v', W', ha, hv', hk⟩ := v1.app hl h.bW (by have := h.bW; omega) (by omega)
  have hb : ∀ i, vv.ownBlock = some i → PkBlk W1 i ∧ B ≤ i := fun i hi => v1.blk hi
  have hk' := hk.size
  refine ⟨ax', l, v', W', ha, e, ⟨P1.keptR hk (fun i hi => ⟨(hb i hi).1, by have := (hb i hi).2; have := h.bw; omega⟩), p1.keptR hk (fun i hi => (hb i hi).1) (fun i hi t => ?_), q1.keptR hk (fun i hi => (hb i hi).1) (fun i hi t => ?_), u1.keptR hk (fun i hi => (hb i hi).1) (fun i hi t => ?_), hv', h.bw, by have := h.bW; omega, h.up, h.uq, h.uu⟩⟩
  · have h1 := h.up i hi
    have h2 := (hb i t).2
    omega
  · have h1 := h.uq i hi
    have h2 := (hb i t).2
    omega
  · have h1 := h.uu i hi
    have h2 := (hb i t).2
    omega
theorem Meet.swap {w W : World} {bx bz B : Nat} {ax az : Nm} {x z : Ng} {vp vq vu vv : Value} {lp lq lu lv : List (Pk0 × Value)} (h : Meet w W bx ax x bz az z vp vq vu vv lp lq lu lv B) : Meet w W bz az z bx ax x vp vq vu vv lp lq lu lv B :=
  ⟨h.pair.swap, h.p.swap, h.q.swap, h.u.swap, h.v.swap, h.bw, h.bW, h.up, h.uq, h.uu⟩
theorem Pks.bound {W : World} {base : Nat} {T : Nat → Prop} {v : Value} {l : List (Pk0 × Value)} (h : Pks W base T v l) : ∀ i, v.ownBlock = some i → i < W.heap.size := fun _ hi => (h.blk hi).1.lt
/-- A list of none begins. -/
theorem Meet.of {w W : World} {bx bz : Nat} {ax az : Nm} {x z : Ng} {vp vq vu : Value} {lp lq lu : List (Pk0 × Value)} (hp : Pair w W bx ax x bz az z) (p : Pks W w.heap.size (Tp bx ax bz az) vp lp) (q : Pks W w.heap.size (Tp bx ax bz az) vq lq) (u : Pks W w.heap.size (Tp bx ax bz az) vu lu) : Meet w W bx ax x bz az z vp vq vu (.slice none 0 0) lp lq lu [] W.heap.size :=
  ⟨hp, p, q, u, Pks.nil _ _ _, hp.kept.size, Nat.le_refl _, p.bound, q.bound, u.bound⟩

theorem map_at {l : List (Pk0 × Value)} {m : List Pk0} (h : l.map (·.1) = m) {j : Nat} (hj : j < m.length) : ∃ q, l[j]? = some q ∧ m[j]? = some q.1 := by
  have hl : j < l.length := by rw [← h, List.length_map] at hj; exact hj
  exact ⟨l[j], by simp [hl], by rw [← h]; simp [hl]⟩

/-- One Take of a packet that stands in a list, and the 'append' of what it sends. -/
theorem Meet.calls {w W : World} {bx bz B : Nat} {ax az : Nm} {x z : Ng} {vp vq vu vv : Value} {lp lq lu lv : List (Pk0 × Value)} (h : Meet w W bx ax x bz az z vp vq vu vv lp lq lu lv B) {q : Pk0 × Value} (hq : q ∈ lp ∨ q ∈ lq) (hok : OkP x q.1) :
    Calls Try.prog 12 #[.pointer (some ⟨bx, 0, none⟩), .agg #[.int .i64 q.1.code, .int .i64 q.1.id, q.2, .string q.1.data]] W fun e w' => ∃ vo, e = .returned vo ∧ Sent W w' w.heap.size bx ax (tk x q.1) vo := by
  have hpk : PkIn W bx ax q.1 q.2 := by
    rcases hq with hq | hq
    · exact h.p.pk hq (fun i s => Or.inl s) hok.fine hok.data
    · exact h.q.pk hq (fun i s => Or.inl s) hok.fine hok.data
  exact take_ok q.1 q.2 W h.pair.nx hpk hok
/-- How far the one end has come with a list of packets. -/
def MeetK (w W : World) (bx : Nat) (n : Ng) (m : List Pk0) (bz : Nat) (az : Nm) (z : Ng) (vp vq vu : Value) (lp lq lu : List (Pk0 × Value)) (B k : Nat) (vv : Value) : Prop :=
  ∃ ax lv, Meet w W bx ax (runN n (m.take k)).1 bz az z vp vq vu vv lp lq lu lv B ∧ lv.map (·.1) = (runN n (m.take k)).2
theorem run_bound {n : Ng} {l : List Pk0} (hl : l.length ≤ 1) (h2 : (runN n l).2.length ≤ 1) {j : Nat} {p : Pk0} (h : l[j]? = some p) : (runN n (l.take j)).2.length + (tk (runN n (l.take j)).1 p).2.length ≤ 1 := by
  have hlt := (List.getElem?_eq_some_iff.1 h).1
  have e := runN_take n h
  rw [List.take_of_length_le (show l.length ≤ j + 1 by omega)] at e
  rw [e] at h2
  simpa using h2
theorem MeetK.hears {w W : World} {bx bz B k : Nat} {az : Nm} {n z : Ng} {m : List Pk0} {vp vq vu vv : Value} {lp lq lu : List (Pk0 × Value)} (h : MeetK w W bx n m bz az z vp vq vu lp lq lu B k vv) {q : Pk0 × Value} (hq : q ∈ lp ∨ q ∈ lq) (hk : m[k]? = some q.1) (hok : OkL n m) (hm : m.length ≤ 1) (h2 : (runN n m).2.length ≤ 1) :
    Calls Try.prog 12 #[.pointer (some ⟨bx, 0, none⟩), .agg #[.int .i64 q.1.code, .int .i64 q.1.id, q.2, .string q.1.data]] W fun e w1 => ∃ po co v' W', ∃ no : Nat, e = .returned (.slice po no co) ∧ AppP w1 vv (.slice po no co) v' W' ∧ MeetK w W' bx n m bz az z vp vq vu lp lq lu B (k + 1) v' := by
  obtain ⟨ax, lv, hM, e⟩ := h
  refine (hM.calls hq (hok k q.1 hk)).mono ?_
  rintro e1 w1 ⟨vo, rfl, hs⟩
  obtain ⟨po, co, rfl⟩ := hs.slice
  have hlen : lv.length = (runN n (m.take k)).2.length := by rw [← e, List.length_map]
  have hb := run_bound hm h2 hk
  obtain ⟨ax', l, v', W', ha, el, hM'⟩ := hM.take hs (by omega)
  refine ⟨po, co, v', W', _, rfl, ha, ax', lv ++ l, ?_, ?_⟩
  · rw [runN_take n hk]
    exact hM'
  · rw [runN_take n hk, List.map_append, e, el]
theorem MeetK.slice {w W : World} {bx bz B k : Nat} {az : Nm} {n z : Ng} {m : List Pk0} {vp vq vu vv : Value} {lp lq lu : List (Pk0 × Value)} (h : MeetK w W bx n m bz az z vp vq vu lp lq lu B k vv) : ∃ p n' c, vv = .slice p n' c := by
  obtain ⟨ax, lv, hM, _⟩ := h
  obtain ⟨p, c, e⟩ := hM.v.slice
  exact ⟨p, _, c, e⟩

/-- Where both ends stand behind some rounds. -/
def MeetR (w W : World) (bx bz : Nat) (x z : Ng × List Pk0) (vp vq : Value) : Prop :=
  ∃ ax az lp lq, Pair w W bx ax x.1 bz az z.1 ∧ Pks W w.heap.size (Tp bx ax bz az) vp lp ∧ Pks W w.heap.size (Tp bx ax bz az) vq lq ∧ lp.map (·.1) = x.2 ∧ lq.map (·.1) = z.2
end Go.Proofs.Ytodgkmjiiijfpaa
