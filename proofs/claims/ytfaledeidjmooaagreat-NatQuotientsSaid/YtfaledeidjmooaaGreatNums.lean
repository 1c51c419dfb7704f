/-
  Add, Sub, Mul and Cmp of valid numbers whose results fit. Conditions: those that each theorem names.
-/
import Derived.Test.YtfaledeidjmooaaGreatOut
namespace Go.Proofs.YtfaledeidjmooaaGreat
open Go.RowKit

/-- a call that gives a number without an error -/
def GivesN (w w' : World) (e : Ending) (m : Nat) : Prop := ∃ v, e = .returned (.tuple #[v, .int .i64 0]) ∧ At w' v (Nl.limbs m) ∧ Below w.heap.size w w'
theorem Res2.num {w w' : World} {e : Ending} {m n r : Nat} {k : Int} (h : Res2 w w' e (Nl.limbs m) (Nl.limbs n) k r) (hm : (Nl.limbs m).length ≤ 1024) (hn : (Nl.limbs n).length ≤ 1024) (hk : k = 0) (hr : (Nl.limbs r).length ≤ 1024) : GivesN w w' e r := by
  obtain ⟨v, he, hv, hb⟩ := h.gives
  have e0 : errOf (validB (Nl.limbs m) && validB (Nl.limbs n)) k r = 0 := by
    rw [validB_limbs hm, validB_limbs hn]; exact errOf_fits hk hr
  rw [numOf, e0, if_pos rfl] at hv
  rw [e0] at he
  exact ⟨v, he, hv, hb⟩
theorem Res1.num {w w' : World} {e : Ending} {m r : Nat} {k : Int} (h : Res1 w w' e (Nl.limbs m) k r) (hm : (Nl.limbs m).length ≤ 1024) (hk : k = 0) (hr : (Nl.limbs r).length ≤ 1024) : GivesN w w' e r := by
  obtain ⟨v, he, hv, hb⟩ := h.gives
  have e0 : errOf (validB (Nl.limbs m)) k r = 0 := by
    rw [validB_limbs hm]; exact errOf_fits hk hr
  rw [numOf, e0, if_pos rfl] at hv
  rw [e0] at he
  exact ⟨v, he, hv, hb⟩

theorem add_num (va vb : Value) (m n : Nat) (w : World) (ha : At w va (Nl.limbs m)) (hb : At w vb (Nl.limbs n)) (hm : (Nl.limbs m).length ≤ 1023) (hn : (Nl.limbs n).length ≤ 1023) :
    Calls Tryz.prog 19 #[va, vb] w fun e w' => GivesN w w' e (m + n) := by
  have h := add_any va vb _ _ w ha hb (Nl.limbs_small m) (Nl.limbs_small n)
  rw [Nl.val_limbs, Nl.val_limbs] at h
  exact h.mono fun e w' h => h.num (by omega) (by omega) rfl (by have := Nl.len_add m n; omega)
theorem mul_num (va vb : Value) (m n : Nat) (w : World) (ha : At w va (Nl.limbs m)) (hb : At w vb (Nl.limbs n)) (hs : (Nl.limbs m).length + (Nl.limbs n).length ≤ 1024) :
    Calls Tryz.prog 27 #[va, vb] w fun e w' => GivesN w w' e (m * n) := by
  have h := mul_any va vb _ _ w ha hb (Nl.limbs_small m) (Nl.limbs_small n)
  rw [Nl.val_limbs, Nl.val_limbs] at h
  refine h.mono fun e w' h => h.num (by omega) (by omega) ?_ (by have := Nl.len_mul m n; omega)
  rw [mulK, if_neg (by decide), if_pos (.inr (.inr (by omega)))]
theorem sub_num (va vb : Value) (m n : Nat) (w : World) (ha : At w va (Nl.limbs m)) (hb : At w vb (Nl.limbs n)) (hm : (Nl.limbs m).length ≤ 1024) (hn : n ≤ m) :
    Calls Tryz.prog 20 #[va, vb] w fun e w' => GivesN w w' e (m - n) := by
  have h := sub_any va vb _ _ w ha hb (Nl.limbs_small m) (Nl.limbs_small n)
  rw [Nl.val_limbs, Nl.val_limbs] at h
  exact h.mono fun e w' h => h.num (by omega) (by have := Nl.limbs_mono hn; omega) (by rw [subK, if_pos hn]) (by have := Nl.len_sub m n; omega)
end Go.Proofs.YtfaledeidjmooaaGreat
