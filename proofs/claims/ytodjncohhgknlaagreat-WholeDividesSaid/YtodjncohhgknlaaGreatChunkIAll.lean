/-
  What Gcd of package whole gives of 12 and 18. Conditions: those that each theorem names.
  What chunkOf does: the greatest power of a base in one element. Digits of a number to a base, the last one first. Conditions: those that each theorem names.
-/
import Derived.Test.YtodjncohhgknlaaGreatGcdW
import Derived.Test.YtodjncohhgknlaaGreatRef2dAll
import Derived.Test.YtodjncohhgknlaaGreatCountAll
namespace Go.Proofs.YtodjncohhgknlaaGreat
open Go.RowKit

instance (R : ERow) : Decidable (tiny R) := inferInstanceAs (Decidable (_ ∧ _ ∧ _))
/-- the rows of 12 and 18 -/
def rows1218 : Nat → ERow
  | 0 => (12, 1, 0)
  | 1 => (18, 0, 1)
  | 2 => (12, 1, 0)
  | 3 => (6, 1, 1)
  | _ => (0, 3, 2)
theorem gcd_12_18 (va vb : Value) (w : World) (ha : IsI w va 12) (hb : IsI w vb 18) :
    Calls Tryz.prog 45 #[va, vb] w fun e w' => ThreeI w w' e 6 2 (-1) := by
  obtain ⟨p0, c0, rfl, u0⟩ := ha.form
  obtain ⟨p1, c1, rfl, u1⟩ := hb.form
  have l12 : Nl.limbs (12 : Int).natAbs = [12] := limbs_one (by decide) (by decide)
  have l18 : Nl.limbs (18 : Int).natAbs = [18] := limbs_one (by decide) (by decide)
  refine wholeGcd_ok _ _ _ _ _ _ 6 2 (-1) w ha hb (validI_of (by rw [l12]; decide)) (validI_of (by rw [l18]; decide)) (fit_small (by decide)) (fit_small (by decide)) (fit_small (by decide)) (fun w' hw' => ?_)
  refine (common_small p0 p1 _ c0 _ c1 (rows1218 3) (rows1218 4) w' (by rw [l18]; decide) (by decide) (by decide) (by decide) (fun w2 hw2 => ?_)).mono ?_
  · exact euclid_small _ _ rows1218 3 12 18 w2 ((u0.below hw').below hw2) ((u1.below hw').below hw2) rfl rfl (fun i hi => by match i, hi with | 0, _ => rfl | 1, _ => rfl | 2, _ => rfl) (fun i hi => by match i, hi with | 0, _ => decide | 1, _ => decide | 2, _ => decide) rfl (fun i hi => by match i, hi with | 0, _ => decide | 1, _ => decide | 2, _ => decide | 3, _ => decide | 4, _ => decide)
  · rintro e w3 ⟨⟨u, v, t, rfl, h1, h2, h3⟩, hb3⟩
    exact ⟨⟨u, v, t, rfl, h1, h2, h3⟩, hb3⟩
end Go.Proofs.YtodjncohhgknlaaGreat

namespace Go.Proofs.YtodjncohhgknlaaGreat
open Go.RowKit

/-- a chunk of digits -/
def chunkOk (B s k : Nat) : Prop := s = B ^ k ∧ s ≤ 4294967295 ∧ 4294967295 < s * B ∧ k ≤ 31
set_option maxHeartbeats 1000000 in
theorem chunkOf_any (B : Nat) (w : World) (h2 : 2 ≤ B) (h36 : B ≤ 36) :
    Calls Tryz.prog 233 #[.int .i64 B] w fun e w' => (∃ s k : Nat, e = .returned (.tuple #[.int .u32 s, .int .i64 k]) ∧ chunkOk B s k) ∧ w = w' := by
  go_enter Tryz.func233, Tryz.ntmps233
  go_wp2
  go_loopw [2, 3] (fun i j wr => ∃ s k : Nat, i = .int .u32 s ∧ j = .int .i64 k ∧ s ≤ 4294967295 ∧ k ≤ 32 ∧ Hid (s = B ^ k ∧ 2 ^ k ≤ s) ∧ wr = w) (fun i _ _ => 4294967296 - (intOf i).toNat)
  case atStart => exact ⟨1, 0, rfl, rfl, by omega, by omega, ⟨by simp, by simp⟩, rfl⟩
  case round =>
    obtain ⟨s, k, rfl, rfl, hs, hk, hsk, rfl⟩ := hrel
    obtain ⟨p, hp⟩ : ∃ p, p = s * B := ⟨_, rfl⟩
    have hpl : p ≤ 4294967295 * 36 := by rw [hp]; exact Nat.mul_le_mul hs h36
    have hc1 : (s : Int) * (B : Int) = (p : Int) := by rw [hp, Int.natCast_mul]
    have hw1 : IntKind.u64.wrap (p : Int) = (p : Int) := by rw [IntKind.wrap_u64]; omega
    have hw0 : IntKind.u64.wrap (s : Int) = (s : Int) := by rw [IntKind.wrap_u64]; omega
    have hw2 : IntKind.u64.wrap (B : Int) = (B : Int) := by rw [IntKind.wrap_u64]; omega
    have hw3 : IntKind.u32.wrap (B : Int) = (B : Int) := by rw [IntKind.wrap_u32]; omega
    by_cases h : p ≤ 4294967295
    · have t0 : decide ((p : Int) ≤ 4294967295) = true := by rw [decide_eq_true_eq]; omega
      have t1 : decide (p ≤ 4294967295) = true := decide_eq_true h
      have hw4 : IntKind.u32.wrap (p : Int) = (p : Int) := by rw [IntKind.wrap_u32]; omega
      have hk31 : k < 32 := by
        rcases Nat.lt_or_ge k 32 with h' | h'
        · exact h'
        · have h3 := Nat.pow_le_pow_right (n := 2) (by decide) h'
          have h4 : 2 ^ 32 = 4294967296 := by decide
          have := hsk.out.2
          omega
      have HP := Lib.hid (And.intro hp (And.intro h2 h))
      clear hp hpl h h2 h36
      go_wp2
      go_roundw
      case rel =>
        have hp := HP.out.1
        have hpm := HP.out.2.2
        refine ⟨p, k + 1, rfl, by go_num, hpm, by omega, ⟨?_, ?_⟩, trivial⟩
        · rw [hp, hsk.out.1, Nat.pow_succ]
        · rw [hp, Nat.pow_succ]
          exact Nat.mul_le_mul hsk.out.2 HP.out.2.1
      case measure =>
        have hp := HP.out.1
        have h1 : 1 ≤ s := Nat.le_trans (Nat.one_le_two_pow (n := k)) hsk.out.2
        have h3 : s * 2 ≤ p := by rw [hp]; exact Nat.mul_le_mul_left _ HP.out.2.1
        have hpm := HP.out.2.2
        simp only [intOf, Int.toNat_natCast]
        omega
    · have t0 : decide ((p : Int) ≤ 4294967295) = false := by rw [decide_eq_false_iff_not]; omega
      have t1 : decide (p ≤ 4294967295) = false := decide_eq_false h
      have HP := Lib.hid (And.intro hp (And.intro h h2))
      clear hp hpl h h2 h36
      go_wp2
      refine bodyPost_ret (v := .tuple #[.int .u32 s, .int .i64 k]) (by simp [results, Tryz.results233, go_sem]) rfl ?_
      have hk31 : k ≤ 31 := by
        rcases Nat.lt_or_ge 31 k with h' | h'
        · have h3 := Nat.pow_le_pow_right (n := 2) (by decide) h'
          have h4 : 2 ^ 32 = 4294967296 := by decide
          have := hsk.out.2
          have h5 : 2 ^ (31 + 1) ≤ 2 ^ k := h3
          omega
        · exact h'
      refine ⟨⟨s, k, rfl, hsk.out.1, hs, ?_, hk31⟩, rfl⟩
      have := HP.out.2.1
      rw [HP.out.1] at this
      omega

/-- the digits of n to a base, the last one first; of 0 none -/
def digitsB (B n : Nat) : List Nat := if _h : n = 0 ∨ B < 2 then [] else n % B :: digitsB B (n / B)
termination_by n
decreasing_by exact Nat.div_lt_self (by omega) (by omega)
theorem digitsB_zero (B : Nat) : digitsB B 0 = [] := by rw [digitsB]; simp
theorem digitsB_pos {B n : Nat} (hB : 2 ≤ B) (h : n ≠ 0) : digitsB B n = n % B :: digitsB B (n / B) := by rw [digitsB, dif_neg (by omega)]
theorem digitsB_step {B q r j : Nat} (hB : 2 ≤ B) (h : q ≠ 0 ∨ r ≠ 0) : digitsB B (q + B ^ (j + 1) * r) = (q % B) :: digitsB B (q / B + B ^ j * r) := by
  have h1 : q + B ^ (j + 1) * r = q + B * (B ^ j * r) := by rw [Nat.pow_succ, Nat.mul_comm (B ^ j) B, Nat.mul_assoc]
  have h0 : q + B * (B ^ j * r) ≠ 0 := by
    rcases h with h | h
    · omega
    · have h2 : 0 < B * (B ^ j * r) := Nat.mul_pos (by omega) (Nat.mul_pos (Nat.pow_pos (by omega)) (Nat.pos_of_ne_zero h))
      omega
  rw [h1, digitsB_pos hB h0, Nat.add_mul_mod_self_left, Nat.add_mul_div_left _ _ (by omega)]
theorem digitsB_lt {B : Nat} (hB : 2 ≤ B) : ∀ (n x : Nat), x ∈ digitsB B n → x < B := by
  intro n
  induction n using Nat.strongRecOn with
  | ind n ih =>
    intro x hx
    by_cases h : n = 0
    · rw [h, digitsB_zero] at hx; cases hx
    · rw [digitsB_pos hB h] at hx
      rcases List.mem_cons.1 hx with rfl | hx
      · exact Nat.mod_lt _ (by omega)
      · exact ih _ (Nat.div_lt_self (by omega) (by omega)) x hx
/-- a division by a number of one word, whose answers lie in memory of their own -/
theorem div_own (va vb : Value) (m n : Nat) (w : World) (ha : At w va (Nl.limbs m)) (hb : At w vb (Nl.limbs n)) (hm : (Nl.limbs m).length ≤ 1024) (hn0 : n ≠ 0) (hn : n < 4294967296) :
    Calls Tryz.prog 161 #[va, vb] w fun e w' => (∃ u v, e = .returned (.tuple #[u, v, .int .i64 0]) ∧ Own w.heap.size w' u (Nl.limbs (m / n)) ∧ Own w.heap.size w' v (Nl.limbs (m % n))) ∧ Below w.heap.size w w' := by
  have ln : (Nl.limbs n).length ≤ 1 := Nl.limbs_lt (by omega)
  refine (div_any va vb _ _ w ha hb (Nl.limbs_small m) (Nl.limbs_small n) (fun _ _ _ w' hw' => ?_)).mono ?_
  · rw [Nl.val_limbs, Nl.val_limbs]
    exact over_one _ _ _ _ _ (show IsN w' va m from ha.below hw') (show IsN w' vb n from hb.below hw') (Nat.le_trans hm (by decide)) (Nat.pos_of_ne_zero hn0) hn
  · rintro e w2 ⟨c, hc, ⟨u, v, rfl, h2, h3⟩, hb⟩
    rw [Nl.val_limbs, Nl.val_limbs] at h2
    have hc0 : c = 0 := by
      rcases hc with ⟨_, _, h⟩ | ⟨h, _⟩
      · rw [h, Nl.val_limbs, divK, if_neg (fun h => absurd h.2 (by decide)), if_neg hn0]
      · rw [validB_limbs hm, validB_limbs (by omega)] at h
        rcases h with h | h <;> cases h
    subst hc0
    obtain ⟨o1, o2⟩ := h2 rfl
    exact ⟨⟨_, _, rfl, o1, o2⟩, hb⟩
end Go.Proofs.YtodjncohhgknlaaGreat
