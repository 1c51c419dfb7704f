/-
  What the small functions of the laws of layer 2 do: add, sub, mul, cmp, equal, fine. Conditions: those that each theorem names.
-/
import Derived.Test.YtkbghamkalidcaaGreatLawSumsAll
namespace Go.Proofs.YtkbghamkalidcaaGreat
open Go.RowKit

/-- an integer with at most k words -/
def IsS (w : World) (v : Value) (n : Int) (k : Nat) : Prop := IsI w v n ∧ (Nl.limbs n.natAbs).length ≤ k
theorem IsS.below {w w' : World} {v : Value} {n : Int} {k : Nat} (h : IsS w v n k) (hb : Below w.heap.size w w') : IsS w' v n k := ⟨AtI.below h.1 hb, h.2⟩
theorem len_dif {a b : Int} {j k : Nat} (ha : (Nl.limbs a.natAbs).length ≤ j) (hb : (Nl.limbs b.natAbs).length ≤ k) : (Nl.limbs (a - b).natAbs).length ≤ max j k + 1 := by
  have h1 := Nl.limbs_mono (show (a - b).natAbs ≤ a.natAbs + b.natAbs by omega)
  have h2 := Nl.len_add a.natAbs b.natAbs
  omega
end Go.Proofs.YtkbghamkalidcaaGreat
