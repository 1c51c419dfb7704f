/-
  What over does of integers, for all four ways of rounding. Written by wip/tool/genover.py. Conditions: those that each theorem names.
-/
import Derived.Test.YtkbghamkalidcaaGreatOverIAll
namespace Go.Proofs.YtkbghamkalidcaaGreat
open Go.RowKit

/-- does a way take the quotient that lies farther from 0? -/
def farB (how : Nat) (x y : Bool) (q r d : Nat) : Bool := match how with
  | 2 => !(x == y)
  | 3 => x
  | 4 => halfB q r d
  | _ => false
end Go.Proofs.YtkbghamkalidcaaGreat
