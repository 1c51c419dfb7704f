/-
  What calls on numbers give, said as functions; and what the law's alike does. Conditions: those that each theorem names.
-/
import Derived.Test.YtfaledeidjmooaaGreatSane
namespace Go.Proofs.YtfaledeidjmooaaGreat
open Go.RowKit

/-- the error of a call -/
def errOf (ok : Bool) (k : Int) (m : Nat) : Int := if ok = true then codeOf k m else 1
/-- the words of its result -/
def numOf (ok : Bool) (k : Int) (m : Nat) : List Nat := if errOf ok k m = 0 then Nl.limbs m else []
theorem errOf_ok (k : Int) (m : Nat) : errOf true k m = codeOf k m := by rw [errOf, if_pos rfl]
theorem errOf_err (ok : Bool) {k : Int} (hk : k ≠ 0) (m : Nat) : errOf ok k m = if ok = true then k else 1 := by
  rw [errOf]
  by_cases h : ok = true
  · rw [if_pos h, if_pos h, codeOf, if_pos hk]
  · rw [if_neg h, if_neg h]
theorem errOf_arg (ok : Bool) (m : Nat) : errOf ok 1 m = 1 := by
  rw [errOf_err ok (by decide)]; split <;> rfl
theorem errOf_fits {k : Int} {m : Nat} (hk : k = 0) (hm : (Nl.limbs m).length ≤ 1024) : errOf true k m = 0 := by
  rw [errOf_ok, codeOf, if_neg (by omega), if_pos hm]
/-- what a call gives: a number with these words, and this error -/
def Gives (w w' : World) (e : Ending) (c : Int) (zs : List Nat) : Prop := ∃ v, e = .returned (.tuple #[v, .int .i64 c]) ∧ At w' v zs ∧ Below w.heap.size w w'
def Gives2 (w w' : World) (e : Ending) (c : Int) (zs ts : List Nat) : Prop := ∃ u v, e = .returned (.tuple #[u, v, .int .i64 c]) ∧ At w' u zs ∧ At w' v ts ∧ Below w.heap.size w w'

theorem NatOut.gives {w w' : World} {e : Ending} {c : Int} {m : Nat} (h : NatOut w w' e c m) : Gives w w' e c (if c = 0 then Nl.limbs m else []) := by
  obtain ⟨⟨v, rfl, h2, h3⟩, h4⟩ := h
  refine ⟨v, rfl, ?_, h4⟩
  by_cases h0 : c = 0
  · rw [if_pos h0]; exact (h2 h0).at.at
  · rw [if_neg h0]; exact .inl ⟨h3 h0, rfl⟩
theorem Res2.gives {w w' : World} {e : Ending} {xs ys : List Nat} {k : Int} {m : Nat} (h : Res2 w w' e xs ys k m) : Gives w w' e (errOf (validB xs && validB ys) k m) (numOf (validB xs && validB ys) k m) := by
  obtain ⟨c, hc, ho⟩ := h
  have : c = errOf (validB xs && validB ys) k m := by
    rcases hc with ⟨h1, h2, h3⟩ | ⟨h1, h3⟩
    · rw [h1, h2, errOf, if_pos (show (true && true) = true from rfl), h3]
    · rw [errOf, if_neg, h3]
      rcases h1 with h | h <;> rw [h] <;> simp
  subst this
  exact ho.gives
theorem Res1.gives {w w' : World} {e : Ending} {xs : List Nat} {k : Int} {m : Nat} (h : Res1 w w' e xs k m) : Gives w w' e (errOf (validB xs) k m) (numOf (validB xs) k m) := by
  obtain ⟨c, hc, ho⟩ := h
  have : c = errOf (validB xs) k m := by
    rcases hc with ⟨h1, h3⟩ | ⟨h1, h3⟩
    · rw [h1, errOf, if_pos rfl, h3]
    · rw [h1, errOf, if_neg (by decide), h3]
  subst this
  exact ho.gives

theorem numOf_small (ok : Bool) (k : Int) (m : Nat) : Nl.Small (numOf ok k m) := by
  rw [numOf]; split
  · exact Nl.limbs_small m
  · exact Nl.small_nil

def alikeB (c : Int) (xs : List Nat) (d : Int) (ys : List Nat) : Bool := decide (c = d) && sameB xs ys
theorem alikeB_self (c : Int) (xs : List Nat) : alikeB c xs c xs = true := by rw [alikeB, sameB_self, decide_eq_true rfl]; rfl
theorem alike_any (va vb : Value) (xs ys : List Nat) (c d : Int) (w : World) (ha : At w va xs) (hb : At w vb ys) :
    Calls Tryz.prog 48 #[va, .int .i64 c, vb, .int .i64 d] w fun e w' => e = .returned (.bool (alikeB c xs d ys)) ∧ ∃ k, w' = w.drewN k := by
  have HS := Lib.hid (same_any va vb xs ys w ha hb)
  obtain ⟨a, ca, rfl, -⟩ := ha.form
  obtain ⟨b, cb, rfl, -⟩ := hb.form
  clear ha hb
  by_cases hc : c = d
  · have e0 : ((c : Int) == d) = true := by simp [hc]
    have hr : alikeB c xs d ys = sameB xs ys := by rw [alikeB, decide_eq_true hc, Bool.true_and]
    have HR := Lib.hid hr
    clear hc hr
    go_enter Tryz.func48, Tryz.ntmps48
    go_wp2_with (go_at_call 34; refine HS.out.mono ?_; rintro e w' ⟨rfl, j, rfl⟩)
    go_ret
    exact ⟨by rw [HR.out]; rfl, _, rfl⟩
  · have e0 : ((c : Int) == d) = false := by rw [beq_eq_false_iff_ne]; exact hc
    have hr : alikeB c xs d ys = false := by rw [alikeB, decide_eq_false hc, Bool.false_and]
    have HR := Lib.hid hr
    clear hc hr HS
    go_enter Tryz.func48, Tryz.ntmps48
    go_wp2_with fail
    go_ret
    exact ⟨by rw [HR.out]; rfl, 0, rfl⟩

/-- two results that are the same -/
theorem alike_yes (va vb : Value) (xs : List Nat) (c : Int) (w : World) (ha : At w va xs) (hb : At w vb xs) :
    Calls Tryz.prog 48 #[va, .int .i64 c, vb, .int .i64 c] w fun e w' => e = .returned (.bool true) ∧ ∃ k, w' = w.drewN k := by
  have := alike_any va vb xs xs c c w ha hb
  rwa [alikeB_self] at this
theorem same_yes (va vb : Value) (xs : List Nat) (w : World) (ha : At w va xs) (hb : At w vb xs) :
    Calls Tryz.prog 34 #[va, vb] w fun e w' => e = .returned (.bool true) ∧ ∃ k, w' = w.drewN k := by
  have := same_any va vb xs xs w ha hb
  rwa [sameB_self] at this
theorem refused_yes (v : Value) (k : Int) (w : World) (h : At w v []) :
    Calls Tryz.prog 22 #[v, .int .i64 k, .int .i64 k] w fun e w' => e = .returned (.bool true) ∧ w = w' := by
  have := refused_any v [] k k w h
  rwa [show decide (k = k ∧ ([] : List Nat).length = 0) = true by simp] at this
end Go.Proofs.YtfaledeidjmooaaGreat
