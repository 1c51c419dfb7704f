/-
  What the reference's Div of integers gives, and Div of package whole, with their errors. Written by wip/tool/genrdiv.py. Conditions: those that each theorem names.
  What rounded division means: sizes, signs, and where quotients lie. Conditions: those that each theorem names.
-/
import Derived.Test.YtipjbnbmackidaaGreatDivEAll
import Derived.Test.YtipjbnbmackidaaGreatLawFns
namespace Go.Proofs.YtipjbnbmackidaaGreat
open Go.RowKit

/-- the parts of a division's result: K is the error -/
def DivS (w : World) (K x y : Int) (s : Bool) (p : Option Addr) (l c : Nat) (s' : Bool) (p' : Option Addr) (l' c' : Nat) : Prop :=
  (K = 0 → IsI w (.agg #[.bool s, .slice p l c]) x ∧ IsI w (.agg #[.bool s', .slice p' l' c']) y) ∧ (K ≠ 0 → s = false ∧ p = none ∧ l = 0 ∧ c = 0 ∧ s' = false ∧ p' = none ∧ l' = 0 ∧ c' = 0)
theorem DivS.below {w w' : World} {K x y : Int} {s s' : Bool} {p p' : Option Addr} {l c l' c' : Nat} (h : DivS w K x y s p l c s' p' l' c') (hb : Below w.heap.size w w') : DivS w' K x y s p l c s' p' l' c' := ⟨fun h0 => ⟨AtI.below (h.1 h0).1 hb, AtI.below (h.1 h0).2 hb⟩, h.2⟩
def WDivOut (w w' : World) (e : Ending) (K x y : Int) : Prop := (∃ s p l c s' p' l' c', e = .returned (.tuple #[.agg #[.bool s, .slice p l c], .agg #[.bool s', .slice p' l' c'], .int .i64 K]) ∧ DivS w' K x y s p l c s' p' l' c') ∧ Below w.heap.size w w'

theorem natAbs_lt_pos {r d : Nat} (h : d ≠ 0) : r % d < d := Nat.mod_lt _ (by omega)
theorem sgn_true (m : Nat) : sgn true m = -(m : Int) := rfl
theorem sgn_false (m : Nat) : sgn false m = (m : Int) := rfl
/-- the rest is what is left -/
theorem divR_eq (how : Nat) (a b : Int) (hb : b ≠ 0) : divR how a b = a - divQ how a b * b := by
  have ha := sgn_self a
  have hbb := sgn_self b
  obtain ⟨A, hA⟩ : ∃ A, A = a.natAbs := ⟨_, rfl⟩
  obtain ⟨D, hD⟩ : ∃ D, D = b.natAbs := ⟨_, rfl⟩
  obtain ⟨sa, hsa⟩ : ∃ sa, sa = negB a := ⟨_, rfl⟩
  obtain ⟨sb, hsb⟩ : ∃ sb, sb = negB b := ⟨_, rfl⟩
  have hD0 : D ≠ 0 := by omega
  have hmod := natAbs_lt_pos (r := A) hD0
  have hdm := Nat.div_add_mod A D
  rw [divR, divQ, ← hA, ← hD, ← hsa, ← hsb]
  rw [← hA, ← hsa] at ha
  rw [← hD, ← hsb] at hbb
  obtain ⟨q, hq⟩ : ∃ q, q = A / D := ⟨_, rfl⟩
  obtain ⟨r, hr⟩ : ∃ r, r = A % D := ⟨_, rfl⟩
  rw [← hq, ← hr] at hdm ⊢
  rw [← hr] at hmod
  have e1 : ((A : Nat) : Int) = (D : Int) * (q : Int) + (r : Int) := by rw [← hdm]; simp
  have e2 : ((q + 1 : Nat) : Int) * (D : Int) = (D : Int) * (q : Int) + (D : Int) := by rw [Int.natCast_add, Int.add_mul, Int.mul_comm]; simp
  have e3 : (q : Int) * (D : Int) = (D : Int) * (q : Int) := Int.mul_comm _ _
  obtain ⟨P, hP⟩ : ∃ P : Int, P = (D : Int) * (q : Int) := ⟨_, rfl⟩
  rw [← hP] at e1 e2 e3
  rw [← ha, ← hbb]
  by_cases hc : r = 0 ∨ farB how sa sb q r D = false
  · rw [if_pos hc, if_pos hc]
    cases sa <;> cases sb
    · show (r : Int) = (A : Int) - (q : Int) * (D : Int); rw [e3, e1]; omega
    · show (r : Int) = (A : Int) - (-(q : Int)) * (-(D : Int)); rw [Int.neg_mul_neg, e3, e1]; omega
    · show -(r : Int) = -(A : Int) - (-(q : Int)) * (D : Int); rw [Int.neg_mul, e3, e1]; omega
    · show -(r : Int) = -(A : Int) - (q : Int) * (-(D : Int)); rw [Int.mul_neg, e3, e1]; omega
  · rw [if_neg hc, if_neg hc]
    have e4 : ((D - r : Nat) : Int) = (D : Int) - (r : Int) := by omega
    cases sa <;> cases sb
    · show -((D - r : Nat) : Int) = (A : Int) - ((q + 1 : Nat) : Int) * (D : Int); rw [e2, e1, e4]; omega
    · show -((D - r : Nat) : Int) = (A : Int) - (-((q + 1 : Nat) : Int)) * (-(D : Int)); rw [Int.neg_mul_neg, e2, e1, e4]; omega
    · show ((D - r : Nat) : Int) = -(A : Int) - (-((q + 1 : Nat) : Int)) * (D : Int); rw [Int.neg_mul, e2, e1, e4]; omega
    · show ((D - r : Nat) : Int) = -(A : Int) - ((q + 1 : Nat) : Int) * (-(D : Int)); rw [Int.mul_neg, e2, e1, e4]; omega

/-- the lengths of what a division gives -/
theorem divQ_len (how : Nat) (a b : Int) (la : (Nl.limbs a.natAbs).length ≤ 1000) : fitI (divQ how a b) := by
  have h1 : (Nl.limbs (a.natAbs / b.natAbs)).length ≤ 1000 := Nat.le_trans (Nl.limbs_mono (Nat.div_le_self _ _)) la
  have h2 := Nl.len_add (a.natAbs / b.natAbs) 1
  have h3 : (Nl.limbs 1).length ≤ 1 := Nl.limbs_lt (by decide)
  rw [divQ]
  split <;> rw [fitI, sgn_abs] <;> omega
theorem divR_len (how : Nat) (a b : Int) (lb : (Nl.limbs b.natAbs).length ≤ 1000) (hb : b ≠ 0) : fitI (divR how a b) := by
  have hm := natAbs_lt_pos (r := a.natAbs) (show b.natAbs ≠ 0 by omega)
  rw [divR]
  split
  · rw [fitI, sgn_abs]; exact Nat.le_trans (Nl.limbs_mono (Nat.le_of_lt hm)) (Nat.le_trans lb (by decide))
  · rw [fitI, sgn_abs]; exact Nat.le_trans (Nl.limbs_mono (Nat.sub_le _ _)) (Nat.le_trans lb (by decide))

theorem isI_valid {w : World} {v : Value} {s : Bool} {xs : List Nat} (h : AtI w v s xs) (hm : Nl.Small xs) (hok : validI s xs = true) : IsI w v (sgn s (Nl.val xs)) ∧ Nl.limbs (sgn s (Nl.val xs)).natAbs = xs := by
  obtain ⟨p, c, rfl, u⟩ := h.form
  obtain ⟨e1, e2, -⟩ := validI_norm hm hok
  exact ⟨(isI_of_ok (at_of h) hm hok).1, e2.symm⟩

theorem wDiv_any (va vb : Value) (s0 s1 : Bool) (xs ys : List Nat) (how : Int) (w : World) (h0 : AtI w va s0 xs) (h1 : AtI w vb s1 ys) (m0 : Nl.Small xs) (m1 : Nl.Small ys) (la : xs.length ≤ 900) (lb : ys.length ≤ 900) :
    Calls Tryz.prog 39 #[va, vb, .int .i64 how] w fun e w' => WDivOut w w' e (divK2 s0 s1 xs ys how) (divQ how.toNat (sgn s0 (Nl.val xs)) (sgn s1 (Nl.val ys))) (divR how.toNat (sgn s0 (Nl.val xs)) (sgn s1 (Nl.val ys))) := by
  by_cases hk : divK2 s0 s1 xs ys how = 0
  · have hok : (validI s0 xs && validI s1 ys) = true := by
      by_cases h : (validI s0 xs && validI s1 ys) = true
      · exact h
      · rw [divK2, if_neg h] at hk; exact absurd hk (by decide)
    have hhow : 1 ≤ how ∧ how ≤ 4 := by
      rw [divK2, if_pos hok] at hk
      by_cases h : 1 ≤ how ∧ how ≤ 4
      · exact h
      · rw [if_neg h] at hk; exact absurd hk (by decide)
    have hl : ys.length ≠ 0 := by
      rw [divK2, if_pos hok, if_pos hhow] at hk
      intro h
      rw [if_pos h] at hk; exact absurd hk (by decide)
    rw [Bool.and_eq_true] at hok
    obtain ⟨ia, ea⟩ := isI_valid h0 m0 hok.1
    obtain ⟨ib, eb⟩ := isI_valid h1 m1 hok.2
    obtain ⟨n, hn⟩ : ∃ n : Nat, how = n := ⟨how.toNat, by omega⟩
    subst hn
    have hb0 : sgn s1 (Nl.val ys) ≠ 0 := fun h => hl (by rw [← eb, h]; show (Nl.limbs 0).length = 0; rw [Nl.limbs_zero]; rfl)
    rw [hk]
    refine (wholeDiv_ok va vb s0 s1 n xs ys (divQ n (sgn s0 (Nl.val xs)) (sgn s1 (Nl.val ys))) (divR n (sgn s0 (Nl.val xs)) (sgn s1 (Nl.val ys))) w h0 h1 hok.1 hok.2 hhow.1 hhow.2 (by omega) (divQ_len _ _ _ (by rw [ea]; omega)) (divR_len _ _ _ (by rw [eb]; omega) hb0) (fun w' hw' => over_gen n (by omega) (by omega) va vb _ _ w' (AtI.below ia hw') (AtI.below ib hw') (by rw [ea]; omega) (by rw [fitI, eb]; omega) hb0)).mono ?_
    rintro e w' ⟨⟨u, v, rfl, hu, hv⟩, hb⟩
    obtain ⟨p, c, rfl, -⟩ := AtI.form hu
    obtain ⟨p', c', rfl, -⟩ := AtI.form hv
    exact ⟨⟨_, _, _, _, _, _, _, _, rfl, fun _ => ⟨hu, hv⟩, fun h => absurd rfl h⟩, hb⟩
  · refine (wholeDiv_bad va vb s0 s1 how xs ys w h0 h1 hk).mono ?_
    rintro e w' ⟨rfl, hb⟩
    exact ⟨⟨_, _, _, _, _, _, _, _, rfl, fun h => absurd h hk, fun _ => ⟨rfl, rfl, rfl, rfl, rfl, rfl, rfl, rfl⟩⟩, hb⟩

end Go.Proofs.YtipjbnbmackidaaGreat

namespace Go.Proofs.YtipjbnbmackidaaGreat
open Go.RowKit

theorem divR_less (how : Nat) (a b : Int) (hb : b ≠ 0) : (divR how a b).natAbs < b.natAbs := by
  have hm := natAbs_lt_pos (r := a.natAbs) (show b.natAbs ≠ 0 by omega)
  rw [divR]
  split
  · rw [sgn_abs]; exact hm
  · next h =>
    have h0 : a.natAbs % b.natAbs ≠ 0 := fun h0 => h (.inl h0)
    rw [sgn_abs]; omega
/-- every quotient is the one toward 0, or the next one beyond -/
theorem divQ_two (how : Nat) (a b : Int) : divQ how a b = sgn (negB a != negB b) (a.natAbs / b.natAbs) ∨ divQ how a b = sgn (negB a != negB b) (a.natAbs / b.natAbs + 1) := by
  rw [divQ]
  split
  · exact .inl rfl
  · exact .inr rfl
theorem two_near {s : Bool} {q : Nat} {x y : Int} (hx : x = sgn s q ∨ x = sgn s (q + 1)) (hy : y = sgn s q ∨ y = sgn s (q + 1)) : x - y ≤ 1 := by
  cases s <;> rcases hx with rfl | rfl <;> rcases hy with rfl | rfl <;> simp only [sgn_true, sgn_false] <;> omega
theorem negB_sgn_pos {s : Bool} {m : Nat} (h : 0 < m) : negB (sgn s m) = s := by rw [sgn_neg, decide_eq_true h, Bool.and_true]
theorem divR_zero_way (a b : Int) (hr : divR 1 a b ≠ 0) : negB (divR 1 a b) = negB a := by
  have hd : divR 1 a b = sgn (negB a) (a.natAbs % b.natAbs) := by rw [divR, if_pos (.inr rfl)]
  rw [hd] at hr ⊢
  exact negB_sgn_pos (Nat.pos_of_ne_zero fun h => hr (by rw [h]; cases negB a <;> rfl))
theorem divR_down_way (a b : Int) (hb : b ≠ 0) (hr : divR 2 a b ≠ 0) : negB (divR 2 a b) = negB b := by
  have hm := natAbs_lt_pos (r := a.natAbs) (show b.natAbs ≠ 0 by omega)
  by_cases h0 : a.natAbs % b.natAbs = 0
  · refine absurd ?_ hr
    rw [divR, if_pos (.inl h0), h0]; cases negB a <;> rfl
  · cases hs : (negB a == negB b) with
    | true =>
      rw [divR, if_pos (.inr (by simp [farB, hs])), negB_sgn_pos (Nat.pos_of_ne_zero h0)]
      simpa using hs
    | false =>
      rw [divR, if_neg (by simp [farB, hs, h0]), negB_sgn_pos (by omega)]
      cases ha : negB a <;> cases hbb : negB b <;> rw [ha, hbb] at hs <;> first | rfl | exact absurd hs (by decide)
theorem divR_euclid_way (a b : Int) (hb : b ≠ 0) : negB (divR 3 a b) = false := by
  have hm := natAbs_lt_pos (r := a.natAbs) (show b.natAbs ≠ 0 by omega)
  by_cases h0 : a.natAbs % b.natAbs = 0
  · rw [divR, if_pos (.inl h0), h0]; cases negB a <;> rfl
  · cases ha : negB a with
    | false => rw [divR, if_pos (.inr (by simp [farB, ha])), negB_sgn_pos (Nat.pos_of_ne_zero h0)]; exact ha
    | true => rw [divR, if_neg (by simp [farB, ha, h0]), negB_sgn_pos (by omega), ha]; rfl
/-- the nearest quotient: twice the rest is below the divisor, or it is the divisor and the quotient is even -/
theorem divR_near_way (a b : Int) (hb : b ≠ 0) : 2 * (divR 4 a b).natAbs < b.natAbs ∨ (2 * (divR 4 a b).natAbs = b.natAbs ∧ (divQ 4 a b).natAbs % 2 = 0) := by
  have hm := natAbs_lt_pos (r := a.natAbs) (show b.natAbs ≠ 0 by omega)
  by_cases h0 : a.natAbs % b.natAbs = 0
  · left
    rw [divR, if_pos (.inl h0), h0, sgn_abs]; omega
  · cases hh : halfB (a.natAbs / b.natAbs) (a.natAbs % b.natAbs) b.natAbs with
    | false =>
      rw [divR, divQ, if_pos (.inr (show farB 4 _ _ _ _ _ = false from hh)), if_pos (.inr (show farB 4 _ _ _ _ _ = false from hh)), sgn_abs, sgn_abs]
      rw [halfB, Bool.or_eq_false_iff, decide_eq_false_iff_not, Bool.and_eq_false_iff, decide_eq_false_iff_not, decide_eq_false_iff_not] at hh
      obtain ⟨h1, h2⟩ := hh
      rcases h2 with h2 | h2
      · left; omega
      · by_cases h3 : 2 * (a.natAbs % b.natAbs) = b.natAbs
        · right; exact ⟨h3, by omega⟩
        · left; omega
    | true =>
      have hn : ¬ (a.natAbs % b.natAbs = 0 ∨ farB 4 (negB a) (negB b) (a.natAbs / b.natAbs) (a.natAbs % b.natAbs) b.natAbs = false) := by
        rw [show farB 4 (negB a) (negB b) (a.natAbs / b.natAbs) (a.natAbs % b.natAbs) b.natAbs = true from hh]; simp [h0]
      rw [divR, divQ, if_neg hn, if_neg hn, sgn_abs, sgn_abs]
      rw [halfB, Bool.or_eq_true, decide_eq_true_eq, Bool.and_eq_true, decide_eq_true_eq, decide_eq_true_eq] at hh
      rcases hh with hh | ⟨h1, h2⟩
      · left; omega
      · right; exact ⟨by omega, by omega⟩
end Go.Proofs.YtipjbnbmackidaaGreat
