/-
  What limitedPower does. Conditions: those that each theorem names.
-/
import Derived.Test.YtikgfdkaikpmhaaGreatPower
namespace Go.Proofs.YtikgfdkaikpmhaaGreat
open Go.RowKit

theorem one_lim (w : World) : Calls Tryz.prog 101 #[.int .u32 1] w fun e w' => (∃ v, e = .returned v ∧ Own w.heap.size w' v (Nl.limbs 1)) ∧ Below w.heap.size w w' := wordOf_num 1 w (by decide)
theorem len_of_bits {m k : Nat} (h : m < 2 ^ k) : (Nl.limbs m).length ≤ k / 32 + 1 := by
  apply Nl.limbs_lt
  refine Nat.lt_of_lt_of_le h ?_
  rw [pow32]
  exact Nat.pow_le_pow_right (by decide) (by omega)

theorem nbits_lt {m k : Nat} (h : m < 2 ^ k) : nbits m ≤ k := by
  by_cases h0 : m = 0
  · subst h0; simp [nbits_zero]
  · have h1 := nbits_le h0
    apply Classical.byContradiction
    intro hc
    have h2 : 2 ^ k ≤ 2 ^ (nbits m - 1) := Nat.pow_le_pow_right (by decide) (by omega)
    omega
theorem nbits_len (m : Nat) : nbits m ≤ 32 * (Nl.limbs m).length := nbits_lt (by rw [← pow32]; exact Nl.lt_limbs m)
theorem nbits_two {m : Nat} (hm : 2 ≤ m) : 2 ≤ nbits m := by
  have h1 := lt_nbits m
  apply Classical.byContradiction
  intro hc
  have h2 : 2 ^ nbits m ≤ 2 ^ 1 := Nat.pow_le_pow_right (by decide) (by omega)
  omega

/-- powers that are too large end the call -/
theorem limitedPower_no (va : Value) (m n : Nat) (w : World) (ha : IsN w va m) (hla : (Nl.limbs m).length ≤ 1024) (hm : 2 ≤ m) (hn0 : n ≠ 0) (hn : n ≤ 9223372036854775807) (hbig : 32767 / (nbits m - 1) < n) :
    Calls Tryz.prog 69 #[va, .int .i64 n] w fun e w' => e = .panicked [{ v := .iface 26 (.int .i64 2), recovered := false }] ∧ w = w' := by
  have hn0 : ((n : Int) == 0) = false := by rw [beq_eq_false_iff_ne]; omega
  have ht := belowTwo_any va m w ha
  rw [show decide (m < 2) = false by simp; omega] at ht
  have hb := bits_any va m w ha (by omega)
  have h2 := nbits_two hm
  have h3 := nbits_len m
  obtain ⟨b, hbb⟩ : ∃ b, nbits m = b + 1 := ⟨nbits m - 1, by omega⟩
  rw [hbb] at hb hbig h2 h3
  rw [show b + 1 - 1 = b from rfl] at hbig
  have hbl : b ≤ 32768 := by omega
  have hz : ¬ ((b : Int) = 0) := by omega
  have hb0 : 0 ≤ (b : Int) := by omega
  have hdi : (32767 : Int) / (b : Int) = ((32767 / b : Nat) : Int) := rfl
  obtain ⟨q, hq⟩ : ∃ q, q = 32767 / b := ⟨_, rfl⟩
  rw [← hq] at hdi hbig
  have hd : decide (n ≤ q) = false := by simp; omega
  have HT := Lib.hid ht
  have HB := Lib.hid hb
  clear ha ht hb hbb hq hbig h3
  go_enter Tryz.func69, Tryz.ntmps69
  go_wp2_with fail
  refine HT.out.mono ?_
  rintro e w' ⟨rfl, rfl⟩
  go_wp2_with fail
  refine HB.out.mono ?_
  rintro e w' ⟨rfl, rfl⟩
  go_wp2_with fail
  refine (must_no _ _).mono ?_
  rintro e w' ⟨rfl, rfl⟩
  exact ⟨rfl, rfl, rfl⟩
theorem limitedPower_zero (va : Value) (w : World) :
    Calls Tryz.prog 69 #[va, .int .i64 0] w fun e w' => (∃ v, e = .returned v ∧ IsN w' v 1) ∧ Below w.heap.size w w' := by
  go_enter Tryz.func69, Tryz.ntmps69
  go_wp2_with fail
  refine (one_lim w).mono ?_
  rintro e w' ⟨⟨v, rfl, hv⟩, hb⟩
  go_wp2_with fail
  go_ret
  exact ⟨⟨_, rfl, hv.at.at⟩, hb⟩
theorem limitedPower_yes (va : Value) (m n : Nat) (w : World) (ha : IsN w va m) (hla : (Nl.limbs m).length ≤ 1024) (hn0 : n ≠ 0) (hn : n ≤ 9223372036854775807) (hok : m < 2 ∨ n ≤ 32767 / (nbits m - 1)) :
    Calls Tryz.prog 69 #[va, .int .i64 n] w fun e w' => (∃ v, e = .returned v ∧ IsN w' v (m ^ n)) ∧ Below w.heap.size w w' := by
  have ht := belowTwo_any va m w ha
  have e0 : ((n : Int) == 0) = false := by rw [beq_eq_false_iff_ne]; omega
  by_cases hm : m < 2
  · rw [show decide (m < 2) = true by simp; omega] at ht
    have HT := Lib.hid ht
    have HA := Lib.hid ha
    have HM := Lib.hid hm
    have HN := Lib.hid hn0
    clear ht ha hm hn0 hok
    go_enter Tryz.func69, Tryz.ntmps69
    go_wp2_with fail
    refine HT.out.mono ?_
    rintro e w' ⟨rfl, rfl⟩
    go_wp2_with fail
    go_ret
    refine ⟨⟨_, rfl, ?_⟩, Below.refl _ _⟩
    have h1 : m ^ n = m := by
      have := HM.out
      obtain ⟨k, rfl⟩ := Nat.exists_eq_succ_of_ne_zero HN.out
      rcases (show m = 0 ∨ m = 1 by omega) with rfl | rfl
      · rw [Nat.pow_succ, Nat.mul_zero]
      · rw [Nat.one_pow]
    rw [h1]; exact HA.out
  · rw [show decide (m < 2) = false by simp; omega] at ht
    have hm2 : 2 ≤ m := by omega
    have hok2 : n ≤ 32767 / (nbits m - 1) := by rcases hok with h | h; exact absurd h hm; exact h
    have hb := bits_any va m w ha (by omega)
    have h2 := nbits_two hm2
    have h3 := nbits_len m
    obtain ⟨b, hbb⟩ : ∃ b, nbits m = b + 1 := ⟨nbits m - 1, by omega⟩
    have hpow : ∀ k, k ≤ n → (Nl.limbs (m ^ k)).length ≤ 100000 := by
      intro k hk
      have x1 : m ^ k < 2 ^ (nbits m * k + 1) := by
        rw [Nat.pow_succ, Nat.pow_mul]
        have x2 : m ^ k ≤ (2 ^ nbits m) ^ k := Nat.pow_le_pow_left (Nat.le_of_lt (lt_nbits m)) k
        have x3 : 0 < (2 ^ nbits m) ^ k := Nat.pow_pos (Nat.two_pow_pos _)
        omega
      have x4 := len_of_bits x1
      have x5 : (nbits m - 1) * n ≤ 32767 := by
        rw [Nat.mul_comm]; exact (Nat.le_div_iff_mul_le (by omega)).1 hok2
      have x6 : nbits m * k ≤ nbits m * n := Nat.mul_le_mul_left _ hk
      have x7 : nbits m ≤ 2 * (nbits m - 1) := by omega
      have x8 : nbits m * n ≤ 2 * (nbits m - 1) * n := Nat.mul_le_mul_right n x7
      rw [Nat.mul_assoc] at x8
      omega
    rw [hbb] at hb h2 h3 hok2
    rw [show b + 1 - 1 = b from rfl] at hok2
    have hbl : b ≤ 32768 := by omega
    have hz : ¬ ((b : Int) = 0) := by omega
    have hb0 : 0 ≤ (b : Int) := by omega
    have hdi : (32767 : Int) / (b : Int) = ((32767 / b : Nat) : Int) := rfl
    obtain ⟨q, hq⟩ : ∃ q, q = 32767 / b := ⟨_, rfl⟩
    rw [← hq] at hdi hok2
    have hd : decide (n ≤ q) = true := by simp; omega
    have hqs : q ≤ 32767 := by rw [hq]; exact Nat.div_le_self _ _
    have hp := Lib.hid (power_any va m n w ha (by omega) (by omega) hpow)
    have HT := Lib.hid ht
    have HB := Lib.hid hb
    clear ha ht hb hbb hq h3 hok2 hok hpow hm hn0 hqs
    go_enter Tryz.func69, Tryz.ntmps69
    go_wp2_with fail
    refine HT.out.mono ?_
    rintro e w' ⟨rfl, rfl⟩
    go_wp2_with fail
    refine HB.out.mono ?_
    rintro e w' ⟨rfl, rfl⟩
    go_wp2_with fail
    refine (must_yes _ _).mono ?_
    rintro e w' ⟨rfl, rfl⟩
    go_wp2_with fail
    refine hp.out.mono ?_
    rintro e w' ⟨⟨v, rfl, hv⟩, hbw⟩
    go_wp2_with fail
    go_ret
    exact ⟨⟨_, rfl, hv⟩, hbw⟩
end Go.Proofs.YtikgfdkaikpmhaaGreat
