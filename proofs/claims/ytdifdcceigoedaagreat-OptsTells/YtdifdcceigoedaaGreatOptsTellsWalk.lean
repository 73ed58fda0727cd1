/- The law OptsTells: it returns true for every packet, list of options, bytes and type, and leaves what was there. -/
import Derived.Test.YtdifdcceigoedaaGreatOptsTellsIn
namespace Go.Proofs.YtdifdcceigoedaaGreat
open Go.RowKit

theorem optsTells_walk (c i : Int) (u : Value) (o : List Tg) (x : ByteArray) (v : Value) (l : List Tg) (b : ByteArray) (kind : Int) (w : World) (hu : TagsAt w u o) (hon : o.length ≤ maxLen) (hso : ∀ z ∈ o, z.value.size ≤ 140737488351232) (hx : x.size ≤ 140737488351232) (hv : TagsAt w v l) (hln : l.length ≤ maxLen) (hsl : ∀ z ∈ l, z.value.size ≤ 140737488351232) (hb : b.size ≤ 140737488351232) (_ : -9223372036854775808 ≤ kind ∧ kind ≤ 9223372036854775807) :
    Calls Tryz.prog 3 #[pkV c i u x, v, .string b, .int .i64 kind] w fun e w' => e = .returned (.bool true) ∧ Below w.heap.size w w' := by
  cases h : lightO l with
  | false => exact optsTells_not c i u o x v l b kind w hu hon hso hx hv hln hsl hb (Or.inl h)
  | true =>
    cases h2 : lightO o with
    | false => exact optsTells_not c i u o x v l b kind w hu hon hso hx hv hln hsl hb (Or.inr (Or.inl ⟨h, h2⟩))
    | true =>
      by_cases h6 : 6000 < x.size + b.size
      · exact optsTells_not c i u o x v l b kind w hu hon hso hx hv hln hsl hb (Or.inr (Or.inr ⟨h, h2, h6⟩))
      · exact optsTells_in c i u o x v l b kind w hu hon hso hx hv hln hsl hb h h2 (by omega)
end Go.Proofs.YtdifdcceigoedaaGreat
