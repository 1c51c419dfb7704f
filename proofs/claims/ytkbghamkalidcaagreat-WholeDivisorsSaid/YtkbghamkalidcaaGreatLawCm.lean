/-
  WholeCommon returns true for any three integers. Written by wip/tool/genlawcm.py. Conditions: those that each theorem names.
-/
import Derived.Test.YtkbghamkalidcaaGreatInvWAll
import Derived.Test.YtkbghamkalidcaaGreatLawRingAll
import Derived.Test.YtkbghamkalidcaaGreatGcdW
namespace Go.Proofs.YtkbghamkalidcaaGreat
open Go.RowKit

theorem g_all (a b : Int) : 0 ≤ cG a b ∧ a * cX a b + b * cY a b = cG a b ∧ cG a b ∣ a ∧ cG a b ∣ b ∧ (b ≠ 0 → 0 ≤ cX a b ∧ cX a b * cG a b < b.natAbs) ∧ (cG a b = 0 → a = 0 ∧ b = 0) := by
  unfold cG cX cY
  by_cases hb : b = 0
  · rw [if_pos hb, if_pos hb, if_pos hb, hb]
    refine ⟨by omega, ?_, ?_, Int.dvd_zero _, fun h => absurd rfl h, fun h => ⟨by omega, rfl⟩⟩
    · unfold sgnI
      split
      · omega
      · split <;> omega
    · exact Int.natAbs_dvd.2 (Int.dvd_refl a)
  · rw [if_neg hb, if_neg hb, if_neg hb]
    obtain ⟨h0, h1, h2, h3, h4, h5⟩ := g_facts a b hb
    exact ⟨by omega, h1, h2, h3, fun _ => ⟨h4, h5⟩, fun h => by omega⟩
theorem cX_le (a b : Int) : (cX a b).natAbs ≤ max b.natAbs 1 := by
  obtain ⟨h0, -, -, -, h4, h5⟩ := g_all a b
  by_cases hb : b = 0
  · unfold cX
    rw [if_pos hb]
    unfold sgnI
    split
    · omega
    · split <;> omega
  · obtain ⟨h6, h7⟩ := h4 hb
    have h8 : 1 ≤ cG a b := by
      rcases Int.lt_or_le (cG a b) 1 with h | h
      · exact absurd (h5 (by omega)).2 hb
      · exact h
    have h9 : cX a b * 1 ≤ cX a b * cG a b := Int.mul_le_mul_of_nonneg_left h8 h6
    omega
theorem cG_le (a b : Int) : (cG a b).natAbs ≤ max a.natAbs b.natAbs := by
  obtain ⟨h0, -, h2, h3, -, -⟩ := g_all a b
  by_cases hb : b = 0
  · unfold cG; rw [if_pos hb]; omega
  · have := Nat.le_of_dvd (show 0 < b.natAbs by omega) (Int.natAbs_dvd_natAbs.2 h3)
    omega
theorem cY_le (a b : Int) : (cY a b).natAbs ≤ a.natAbs + 1 := by
  obtain ⟨h0, h1, h2, h3, h4, h5⟩ := g_all a b
  by_cases hb : b = 0
  · unfold cY
    rw [if_pos hb]; simp
  · obtain ⟨h6, h7⟩ := h4 hb
    have hx := cX_le a b
    have hg := Nat.le_of_dvd (show 0 < b.natAbs by omega) (Int.natAbs_dvd_natAbs.2 h3)
    have hxb : (cX a b).natAbs ≤ b.natAbs := by omega
    have e1 : (b * cY a b).natAbs ≤ (a * cX a b).natAbs + (cG a b).natAbs := by omega
    rw [Int.natAbs_mul, Int.natAbs_mul] at e1
    have e2 : a.natAbs * (cX a b).natAbs ≤ a.natAbs * b.natAbs := Nat.mul_le_mul_left _ hxb
    have e3 : b.natAbs * (cY a b).natAbs ≤ b.natAbs * (a.natAbs + 1) := by rw [Nat.mul_add, Nat.mul_one, Nat.mul_comm b.natAbs a.natAbs]; omega
    exact Nat.le_of_mul_le_mul_left e3 (by omega)
theorem len_cX {a b : Int} {k : Nat} (hk : 1 ≤ k) (lb : (Nl.limbs b.natAbs).length ≤ k) : (Nl.limbs (cX a b).natAbs).length ≤ k := by
  have h := cX_le a b
  have h1 : (Nl.limbs 1).length ≤ 1 := Nl.limbs_lt (show 1 < 4294967296 ^ 1 by decide)
  rcases Nat.le_total b.natAbs 1 with h2 | h2
  · exact Nat.le_trans (Nl.limbs_mono (show (cX a b).natAbs ≤ 1 by omega)) (Nat.le_trans h1 hk)
  · exact Nat.le_trans (Nl.limbs_mono (show (cX a b).natAbs ≤ b.natAbs by omega)) lb
theorem len_cG {a b : Int} {k : Nat} (la : (Nl.limbs a.natAbs).length ≤ k) (lb : (Nl.limbs b.natAbs).length ≤ k) : (Nl.limbs (cG a b).natAbs).length ≤ k := by
  have h := cG_le a b
  rcases Nat.le_total b.natAbs a.natAbs with h2 | h2
  · exact Nat.le_trans (Nl.limbs_mono (show (cG a b).natAbs ≤ a.natAbs by omega)) la
  · exact Nat.le_trans (Nl.limbs_mono (show (cG a b).natAbs ≤ b.natAbs by omega)) lb
theorem len_cY {a b : Int} {k : Nat} (la : (Nl.limbs a.natAbs).length ≤ k) : (Nl.limbs (cY a b).natAbs).length ≤ k + 1 := by
  have h1 : (Nl.limbs 1).length ≤ 1 := Nl.limbs_lt (show 1 < 4294967296 ^ 1 by decide)
  have h2 := Nl.len_add a.natAbs 1
  by_cases h0 : k = 0
  · subst h0
    have h3 := limbs_nil.1 (Nat.le_zero.1 la)
    have h := cY_le a b
    exact Nat.le_trans (Nl.limbs_mono (show (cY a b).natAbs ≤ 1 by omega)) h1
  · exact Nat.le_trans (Nl.limbs_mono (cY_le a b)) (by omega)
theorem wGcdL (va vb : Value) (x y : Int) (w : World) (ha : IsI w va x) (hb : IsI w vb y) (la : (Nl.limbs x.natAbs).length ≤ 50) (lb : (Nl.limbs y.natAbs).length ≤ 50) :
    Calls Tryz.prog 30 #[va, vb] w fun e w' => (∃ (_s : Bool) (p : Option Addr) (l c : Nat) (s' : Bool) (p' : Option Addr) (l' c' : Nat) (s'' : Bool) (p'' : Option Addr) (l'' c'' : Nat), e = .returned (.tuple #[.agg #[.bool false, .slice p l c], .agg #[.bool s', .slice p' l' c'], .agg #[.bool s'', .slice p'' l'' c''], .int .i64 0]) ∧
      IsI w' (.agg #[.bool false, .slice p l c]) (cG x y) ∧ IsI w' (.agg #[.bool s', .slice p' l' c']) (cX x y) ∧ IsI w' (.agg #[.bool s'', .slice p'' l'' c'']) (cY x y)) ∧ Below w.heap.size w w' := by
  refine (wholeGcd_ok va vb (negB x) (negB y) (Nl.limbs x.natAbs) (Nl.limbs y.natAbs) (cG x y) (cX x y) (cY x y) w ha hb (validI_of (Nat.le_trans la (by decide))) (validI_of (Nat.le_trans lb (by decide))) (Nat.le_trans (len_cG la lb) (by decide)) (Nat.le_trans (len_cX (by decide) lb) (by decide)) (Nat.le_trans (len_cY la) (by decide)) (fun w' hw' => common_any va vb x y w' (ha.below hw') (hb.below hw') la lb)).mono ?_
  rintro e w' ⟨⟨u, v, t, rfl, hu, hv, ht⟩, hb⟩
  obtain ⟨p, c, rfl, -⟩ := AtI.form hu
  obtain ⟨p', c', rfl, -⟩ := AtI.form hv
  obtain ⟨p'', c'', rfl, -⟩ := AtI.form ht
  rw [show negB (cG x y) = false from decide_eq_false (by have := cG_nonneg x y; omega)] at hu ⊢
  exact ⟨⟨false, _, _, _, _, _, _, _, _, _, _, _, rfl, hu, hv, ht⟩, hb⟩
end Go.Proofs.YtkbghamkalidcaaGreat
