/-
  What Div, Long and Blocks do, for all numbers. Conditions: those that each theorem names.
-/
import Derived.Test.YtfaledeidjmooaaGreatBlocks
import Derived.Test.YtfaledeidjmooaaGreatDiv
namespace Go.Proofs.YtfaledeidjmooaaGreat
open Go.RowKit

theorem div_all (va vb : Value) (xs ys : List Nat) (w : World) (ha : At w va xs) (hb : At w vb ys) (hsx : Nl.Small xs) (hsy : Nl.Small ys) :
    Calls Tryz.prog 31 #[va, vb] w fun e w' => Pair2 w w' e xs ys (divK 1 100 (Nl.val ys)) (Nl.val xs / Nl.val ys) (Nl.val xs % Nl.val ys) :=
  div_any va vb xs ys w ha hb hsx hsy fun v1 v2 h0 w' hw => over_all va vb _ _ w' ((ha.num hsx v1).below hw) ((hb.num hsy v2).below hw) (Nat.le_trans (validB_eq hsx v1).2 (by decide)) (Nat.le_trans (validB_eq hsy v2).2 (by decide)) (Nat.pos_of_ne_zero h0)
theorem long_all (va vb : Value) (xs ys : List Nat) (w : World) (ha : At w va xs) (hb : At w vb ys) (hsx : Nl.Small xs) (hsy : Nl.Small ys) :
    Calls Tryz.prog 49 #[va, vb] w fun e w' => Pair2 w w' e xs ys (divK 0 0 (Nl.val ys)) (Nl.val xs / Nl.val ys) (Nl.val xs % Nl.val ys) :=
  long_any va vb xs ys w ha hb hsx hsy fun v1 v2 h0 w' hw => overElements_any va vb _ _ w' ((ha.num hsx v1).below hw) ((hb.num hsy v2).below hw) (Nat.le_trans (validB_eq hsx v1).2 (by decide)) (Nat.pos_of_ne_zero h0)
theorem blocks_all (va vb : Value) (xs ys : List Nat) (cut : Int) (w : World) (ha : At w va xs) (hb : At w vb ys) (hsx : Nl.Small xs) (hsy : Nl.Small ys) (h1 : -9223372036854775808 ≤ cut) (h2 : cut ≤ 9223372036854775807) :
    Calls Tryz.prog 51 #[va, vb, .int .i64 cut] w fun e w' => Pair2 w w' e xs ys (divK 1 cut (Nl.val ys)) (Nl.val xs / Nl.val ys) (Nl.val xs % Nl.val ys) :=
  blocks_any va vb xs ys cut w ha hb hsx hsy h1 h2 fun v1 v2 h0 hc w' hw => by
    obtain ⟨c, hcc, hc2⟩ : ∃ c : Nat, cut = c ∧ 2 ≤ c := by
      rw [cutB] at hc
      simp at hc
      exact ⟨cut.toNat, by omega, by omega⟩
    subst hcc
    exact overBlocks_any va vb _ _ c w' ((ha.num hsx v1).below hw) ((hb.num hsy v2).below hw) (Nat.le_trans (validB_eq hsx v1).2 (by decide)) (Nat.le_trans (validB_eq hsy v2).2 (by decide)) hc2 (Nat.pos_of_ne_zero h0)
end Go.Proofs.YtfaledeidjmooaaGreat
