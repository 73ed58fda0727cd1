/- Rules and verdicts of a negotiation, as plain functions with no Go in them; and what follows of these. -/
import Derived.Test.YtcmdfcdmfdheeaaOpPlain
import Derived.Test.YtcmdfcdmfdheeaaTagKit
namespace Go.Proofs.Ytcmdfcdmfdheeaa
open Go.RowKit

/-- A rule. -/
structure Rl where
  type : Int
  len : Int
  min : Int
  max : Int
  suggest : ByteArray

def rlCells (r : Rl) : List Value := [.int .i64 r.type, .int .i64 r.len, .int .i64 r.min, .int .i64 r.max, .string r.suggest]
def rlV (r : Rl) : Value := .agg #[.int .i64 r.type, .int .i64 r.len, .int .i64 r.min, .int .i64 r.max, .string r.suggest]
def rl0 : Rl := ⟨0, 0, 0, 0, ⟨#[]⟩⟩

/-- Does a value fit? -/
def fitsF (r : Rl) (v : ByteArray) : Bool := decide ((v.size : Int) = r.len) && (decide (r.min ≤ (numOf (v.data.toList.take 7) : Int)) && decide ((numOf (v.data.toList.take 7) : Int) ≤ r.max))
/-- The rule of a type. -/
def ruleF (l : List Rl) (kind : Int) : Option Rl := l.find? fun r => r.type == kind
/-- An option that is rejected: there is no rule, or its type stood ahead of it. -/
def badF (rules : List Rl) (l : List Tg) (i : Nat) (t : Tg) : Bool := !(ruleF rules t.type).isSome || (findO (l.take i) t.type).isSome
def rejF (rules : List Rl) (l : List Tg) (i : Nat) (t : Tg) : List Tg := if badF rules l i t = true then [t] else []
def nakF (rules : List Rl) (l : List Tg) (i : Nat) (t : Tg) : List Tg :=
  if badF rules l i t = true then [] else if fitsF ((ruleF rules t.type).getD rl0) t.value = true then [] else [⟨t.type, ((ruleF rules t.type).getD rl0).suggest⟩]
def upTo (f : Nat → Tg → List Tg) (l : List Tg) (j : Nat) : List Tg := (List.range j).flatMap fun i => match l[i]? with | some t => f i t | none => []
theorem upTo_zero (f : Nat → Tg → List Tg) (l : List Tg) : upTo f l 0 = [] := rfl
theorem upTo_next (f : Nat → Tg → List Tg) (l : List Tg) (j : Nat) {t : Tg} (h : l[j]? = some t) : upTo f l (j + 1) = upTo f l j ++ f j t := by
  simp [upTo, List.range_succ, h]
/-- What is answered to a request: a code and options. -/
def judgeF (rules : List Rl) (l : List Tg) : Int × List Tg :=
  if (upTo (rejF rules l) l l.length).length ≠ 0 then (4, upTo (rejF rules l) l l.length)
  else if (upTo (nakF rules l) l l.length).length ≠ 0 then (3, upTo (nakF rules l) l l.length) else (2, l)

/-- A list of rules in memory, to be read: five cells each. -/
def RulesAt (W : World) (v : Value) (l : List Rl) : Prop :=
  (l = [] ∧ ∃ p cap, v = .slice p 0 cap) ∨ ∃ g o cap, v = .slice (some ⟨g, o, none⟩) l.length cap ∧ l.length ≤ cap ∧ cap ≤ maxLen ∧
    ∀ j x, l[j]? = some x → ∀ i u, (rlCells x)[i]? = some u → W.cell? ⟨g, o + j * 5 + i, none⟩ = some u
theorem RulesAt.slice {W : World} {v : Value} {l : List Rl} (h : RulesAt W v l) : ∃ p cap, v = .slice p l.length cap := by
  rcases h with ⟨rfl, p, cap, rfl⟩ | ⟨g, o, cap, rfl, _⟩
  · exact ⟨p, cap, rfl⟩
  · exact ⟨_, cap, rfl⟩
theorem RulesAt.kept {S : Nat → Prop} {W W' : World} {v : Value} {l : List Rl} (h : RulesAt W v l) (hk : Kept S W W') (hS : ∀ i, i < W.heap.size → S i → v.ownBlock ≠ some i) : RulesAt W' v l := by
  rcases h with ⟨rfl, p, cap, rfl⟩ | ⟨g, o, cap, rfl, h1, h2, hc⟩
  · exact Or.inl ⟨rfl, p, cap, rfl⟩
  · refine Or.inr ⟨g, o, cap, rfl, h1, h2, fun j x hj i u hu => ?_⟩
    have c := hc j x hj i u hu
    have hlt := lt_of_cell c
    exact (hk.cell (p := ⟨g, o + j * 5 + i, none⟩) hlt (fun hs => hS g hlt hs rfl)).trans c
theorem RulesAt.kept0 {W W' : World} {v : Value} {l : List Rl} (h : RulesAt W v l) (hk : Kept (fun _ => False) W W') : RulesAt W' v l := h.kept hk (fun _ _ h => h.elim)
theorem RulesAt.at {W : World} {p : Option Addr} {n cap : Nat} {l : List Rl} (h : RulesAt W (.slice p n cap) l) {j : Nat} {x : Rl} (hj : l[j]? = some x) :
    ∃ g o, p = some ⟨g, o, none⟩ ∧ n ≤ cap ∧ W.cell? ⟨g, o + j * 5, none⟩ = some (.int .i64 x.type) ∧ W.cell? ⟨g, o + j * 5 + 1, none⟩ = some (.int .i64 x.len) ∧ W.cell? ⟨g, o + j * 5 + 2, none⟩ = some (.int .i64 x.min) ∧
      W.cell? ⟨g, o + j * 5 + 3, none⟩ = some (.int .i64 x.max) ∧ W.cell? ⟨g, o + j * 5 + 4, none⟩ = some (.string x.suggest) := by
  rcases h with ⟨rfl, _⟩ | ⟨g, o, cap', e, hle, _, hc⟩
  · simp at hj
  · simp only [Value.slice.injEq] at e
    obtain ⟨rfl, rfl, rfl⟩ := e
    exact ⟨g, o, rfl, hle, hc j x hj 0 _ rfl, hc j x hj 1 _ rfl, hc j x hj 2 _ rfl, hc j x hj 3 _ rfl, hc j x hj 4 _ rfl⟩
end Go.Proofs.Ytcmdfcdmfdheeaa
