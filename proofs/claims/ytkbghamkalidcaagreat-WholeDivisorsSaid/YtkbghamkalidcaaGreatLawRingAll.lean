/-
  What the reference's Div of integers gives, and Div of package whole, with their errors. Written by wip/tool/genrdiv.py. Conditions: those that each theorem names.
  What rounded division means: sizes, signs, and where quotients lie. Conditions: those that each theorem names.
  Pieces for the law WholeDivision: Div of two numbers without an error, a magnitude as an integer, signs as they lie in memory. Conditions: those that each theorem names.
  Blocks that a region makes which draws its order. Written by wip/tool/genbit.py. Conditions: those that each theorem names.
  WholeRing returns true for any three integers. Written by wip/tool/genring2.py. Conditions: those that each theorem names.
-/
import Derived.Test.YtkbghamkalidcaaGreatDivEAll
import Derived.Test.YtkbghamkalidcaaGreatLawFns
import Derived.Test.YtkbghamkalidcaaGreatAwake
namespace Go.Proofs.YtkbghamkalidcaaGreat
open Go.RowKit

/-- the parts of a division's result: K is the error -/
def DivS (w : World) (K x y : Int) (s : Bool) (p : Option Addr) (l c : Nat) (s' : Bool) (p' : Option Addr) (l' c' : Nat) : Prop :=
  (K = 0 → IsI w (.agg #[.bool s, .slice p l c]) x ∧ IsI w (.agg #[.bool s', .slice p' l' c']) y) ∧ (K ≠ 0 → s = false ∧ p = none ∧ l = 0 ∧ c = 0 ∧ s' = false ∧ p' = none ∧ l' = 0 ∧ c' = 0)
theorem DivS.below {w w' : World} {K x y : Int} {s s' : Bool} {p p' : Option Addr} {l c l' c' : Nat} (h : DivS w K x y s p l c s' p' l' c') (hb : Below w.heap.size w w') : DivS w' K x y s p l c s' p' l' c' := ⟨fun h0 => ⟨AtI.below (h.1 h0).1 hb, AtI.below (h.1 h0).2 hb⟩, h.2⟩
theorem natAbs_lt_pos {r d : Nat} (h : d ≠ 0) : r % d < d := Nat.mod_lt _ (by omega)
/-- the rest is what is left -/
theorem divR_eq (how : Nat) (a b : Int) (hb : b ≠ 0) : divR how a b = a - divQ how a b * b := by
  have ha := sgn_self a
  have hbb := sgn_self b
  obtain ⟨A, hA⟩ : ∃ A, A = a.natAbs := ⟨_, rfl⟩
  obtain ⟨D, hD⟩ : ∃ D, D = b.natAbs := ⟨_, rfl⟩
  obtain ⟨sa, hsa⟩ : ∃ sa, sa = negB a := ⟨_, rfl⟩
  obtain ⟨sb, hsb⟩ : ∃ sb, sb = negB b := ⟨_, rfl⟩
  have hD0 : D ≠ 0 := by omega
  have hmod := natAbs_lt_pos (r := A) hD0
  have hdm := Nat.div_add_mod A D
  rw [divR, divQ, ← hA, ← hD, ← hsa, ← hsb]
  rw [← hA, ← hsa] at ha
  rw [← hD, ← hsb] at hbb
  obtain ⟨q, hq⟩ : ∃ q, q = A / D := ⟨_, rfl⟩
  obtain ⟨r, hr⟩ : ∃ r, r = A % D := ⟨_, rfl⟩
  rw [← hq, ← hr] at hdm ⊢
  rw [← hr] at hmod
  have e1 : ((A : Nat) : Int) = (D : Int) * (q : Int) + (r : Int) := by rw [← hdm]; simp
  have e2 : ((q + 1 : Nat) : Int) * (D : Int) = (D : Int) * (q : Int) + (D : Int) := by rw [Int.natCast_add, Int.add_mul, Int.mul_comm]; simp
  have e3 : (q : Int) * (D : Int) = (D : Int) * (q : Int) := Int.mul_comm _ _
  obtain ⟨P, hP⟩ : ∃ P : Int, P = (D : Int) * (q : Int) := ⟨_, rfl⟩
  rw [← hP] at e1 e2 e3
  rw [← ha, ← hbb]
  by_cases hc : r = 0 ∨ farB how sa sb q r D = false
  · rw [if_pos hc, if_pos hc]
    cases sa <;> cases sb
    · show (r : Int) = (A : Int) - (q : Int) * (D : Int); rw [e3, e1]; omega
    · show (r : Int) = (A : Int) - (-(q : Int)) * (-(D : Int)); rw [Int.neg_mul_neg, e3, e1]; omega
    · show -(r : Int) = -(A : Int) - (-(q : Int)) * (D : Int); rw [Int.neg_mul, e3, e1]; omega
    · show -(r : Int) = -(A : Int) - (q : Int) * (-(D : Int)); rw [Int.mul_neg, e3, e1]; omega
  · rw [if_neg hc, if_neg hc]
    have e4 : ((D - r : Nat) : Int) = (D : Int) - (r : Int) := by omega
    cases sa <;> cases sb
    · show -((D - r : Nat) : Int) = (A : Int) - ((q + 1 : Nat) : Int) * (D : Int); rw [e2, e1, e4]; omega
    · show -((D - r : Nat) : Int) = (A : Int) - (-((q + 1 : Nat) : Int)) * (-(D : Int)); rw [Int.neg_mul_neg, e2, e1, e4]; omega
    · show ((D - r : Nat) : Int) = -(A : Int) - (-((q + 1 : Nat) : Int)) * (D : Int); rw [Int.neg_mul, e2, e1, e4]; omega
    · show ((D - r : Nat) : Int) = -(A : Int) - ((q + 1 : Nat) : Int) * (-(D : Int)); rw [Int.mul_neg, e2, e1, e4]; omega

end Go.Proofs.YtkbghamkalidcaaGreat

namespace Go.Proofs.YtkbghamkalidcaaGreat
open Go.RowKit

theorem divR_less (how : Nat) (a b : Int) (hb : b ≠ 0) : (divR how a b).natAbs < b.natAbs := by
  have hm := natAbs_lt_pos (r := a.natAbs) (show b.natAbs ≠ 0 by omega)
  rw [divR]
  split
  · rw [sgn_abs]; exact hm
  · next h =>
    have h0 : a.natAbs % b.natAbs ≠ 0 := fun h0 => h (.inl h0)
    rw [sgn_abs]; omega
theorem negB_sgn_pos {s : Bool} {m : Nat} (h : 0 < m) : negB (sgn s m) = s := by rw [sgn_neg, decide_eq_true h, Bool.and_true]
theorem divR_euclid_way (a b : Int) (hb : b ≠ 0) : negB (divR 3 a b) = false := by
  have hm := natAbs_lt_pos (r := a.natAbs) (show b.natAbs ≠ 0 by omega)
  by_cases h0 : a.natAbs % b.natAbs = 0
  · rw [divR, if_pos (.inl h0), h0]; cases negB a <;> rfl
  · cases ha : negB a with
    | false => rw [divR, if_pos (.inr (by simp [farB, ha])), negB_sgn_pos (Nat.pos_of_ne_zero h0)]; exact ha
    | true => rw [divR, if_neg (by simp [farB, ha, h0]), negB_sgn_pos (by omega), ha]; rfl
end Go.Proofs.YtkbghamkalidcaaGreat

namespace Go.Proofs.YtkbghamkalidcaaGreat
open Go.RowKit

theorem isI_sign {w : World} {s : Bool} {p : Option Addr} {l c : Nat} {n : Int} (h : IsI w (.agg #[.bool s, .slice p l c]) n) : s = negB n ∧ l = (Nl.limbs n.natAbs).length := by
  obtain ⟨v, e, hv⟩ := h
  simp only [Value.agg.injEq, Array.mk.injEq, List.cons.injEq, and_true, Value.bool.injEq] at e
  obtain ⟨e1, e2⟩ := e
  obtain ⟨a, c', e3, -⟩ := hv.form
  rw [← e2] at e3
  simp only [Value.slice.injEq] at e3
  exact ⟨e1, e3.2.1⟩
theorem divR_words (how : Nat) (a b : Int) (k : Nat) (lb : (Nl.limbs b.natAbs).length ≤ k) (hb : b ≠ 0) : (Nl.limbs (divR how a b).natAbs).length ≤ k :=
  Nat.le_trans (Nl.limbs_mono (Nat.le_of_lt (divR_less how a b hb))) lb
end Go.Proofs.YtkbghamkalidcaaGreat

namespace Go.Proofs.YtkbghamkalidcaaGreat
open Go.RowKit

end Go.Proofs.YtkbghamkalidcaaGreat

namespace Go.Proofs.YtkbghamkalidcaaGreat
open Go.RowKit

/-- what calls inside one expression have given so far -/
def Pend (w : World) (L : List (Value × Int × Nat)) : Prop := ∀ x ∈ L, IsS w x.1 x.2.1 x.2.2
theorem Pend.nil (w : World) : Pend w [] := fun _ h => by cases h
theorem Pend.on {w w' : World} {L : List (Value × Int × Nat)} (h : Pend w L) (hb : Below w.heap.size w w') : Pend w' L := fun x hx => (h x hx).below hb
theorem Pend.g0 {w : World} {L : List (Value × Int × Nat)} {v : Value} {n : Int} {k : Nat} (h : Pend w ((v, n, k) :: L)) : IsS w v n k := h _ (List.mem_cons_self ..)
theorem Pend.g1 {w : World} {L : List (Value × Int × Nat)} {x : Value × Int × Nat} {v : Value} {n : Int} {k : Nat} (h : Pend w (x :: (v, n, k) :: L)) : IsS w v n k := h (v, n, k) (by simp)
theorem Pend.g2 {w : World} {L : List (Value × Int × Nat)} {x y : Value × Int × Nat} {v : Value} {n : Int} {k : Nat} (h : Pend w (x :: y :: (v, n, k) :: L)) : IsS w v n k := h (v, n, k) (by simp)
theorem Pend.g3 {w : World} {L : List (Value × Int × Nat)} {x y z : Value × Int × Nat} {v : Value} {n : Int} {k : Nat} (h : Pend w (x :: y :: z :: (v, n, k) :: L)) : IsS w v n k := h (v, n, k) (by simp)
theorem Pend.d {w : World} {L : List (Value × Int × Nat)} (h : Pend w L) : Pend w.drew L := h.on (below_drew0 w)
end Go.Proofs.YtkbghamkalidcaaGreat
