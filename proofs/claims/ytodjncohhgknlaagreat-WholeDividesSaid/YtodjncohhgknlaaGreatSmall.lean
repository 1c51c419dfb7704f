/-
  What bits, belowTwo, spare and uint do. Conditions: those that each theorem names.
-/
import Derived.Test.YtodjncohhgknlaaGreatBitsAll
import Derived.Test.YtodjncohhgknlaaGreatCutAll
namespace Go.Proofs.YtodjncohhgknlaaGreat
open Go.RowKit

theorem wordOf_num (x : Nat) (w : World) (hx : x < 4294967296) : Calls Tryz.prog 255 #[.int .u32 x] w fun e w' => (∃ v, e = .returned v ∧ Own w.heap.size w' v (Nl.limbs x)) ∧ Below w.heap.size w w' := by
  refine (wordOf_any x w).mono ?_
  rintro e w' ⟨rfl, rfl⟩
  have hr : Row (w.alloc (.cells #[.int .u32 x] 77)) w.heap.size [x] := row_new w [x]
  refine ⟨⟨_, rfl, Own.num (Nat.le_refl _) hr rfl (by omega) (by simp [Nl.Small]; exact hx) (by simp)⟩, (Below.refl _ _).alloc (Nat.le_refl _) _⟩
theorem fromUint_num (x : Nat) (w : World) (hx : x < 18446744073709551616) : Calls Tryz.prog 192 #[.int .u64 x] w fun e w' => (∃ v, e = .returned v ∧ Own w.heap.size w' v (Nl.limbs x)) ∧ Below w.heap.size w w' := by
  refine (fromUint_any x w hx).mono ?_
  rintro e w' ⟨rfl, rfl⟩
  have hr : Row (w.alloc (.cells #[.int .u32 ((x % 4294967296 : Nat) : Int), .int .u32 ((x / 4294967296 : Nat) : Int)] 77)) w.heap.size [x % 4294967296, x / 4294967296] := row_new w [x % 4294967296, x / 4294967296]
  refine ⟨⟨_, rfl, Own.num (Nat.le_refl _) hr rfl (by omega) (by simp [Nl.Small]; omega) (by simp; omega)⟩, (Below.refl _ _).alloc (Nat.le_refl _) _⟩

theorem belowTwo_any (va : Value) (m : Nat) (w : World) (ha : IsN w va m) :
    Calls Tryz.prog 256 #[va] w fun e w' => e = .returned (.bool (decide (m < 2))) ∧ w = w' := by
  by_cases h0 : m = 0
  · subst h0
    rw [IsN, Nl.limbs_zero] at ha
    obtain ⟨a, ca, rfl, -⟩ := ha.form
    go_enter Tryz.func256, Tryz.ntmps256
    go_wp2
    go_ret
    exact ⟨rfl, rfl⟩
  · by_cases h1 : m < 4294967296
    · have hl : Nl.limbs m = [m] := by rw [Nl.limbs_pos h0, show m / 4294967296 = 0 from by omega, Nl.limbs_zero, Nat.mod_eq_of_lt h1]
      rw [IsN, hl] at ha
      rcases ha with ⟨rfl, h⟩ | ⟨b, off, cap, rfl, -, hc, hm, hb, hx⟩
      · simp at h
      have c0 := hx 0 (by simp)
      simp only [Nat.add_zero, List.getD_cons_zero] at c0
      clear hx hl
      by_cases h2 : m = 1
      · have t0 : ((m : Int) == 1) = true := by simp [h2]
        have e : decide (m < 2) = true := by simp; omega
        rw [e]
        clear h2 e h0 h1
        go_enter Tryz.func256, Tryz.ntmps256
        go_wp2
        go_ret
        exact ⟨rfl, rfl⟩
      · have t0 : ((m : Int) == 1) = false := by rw [beq_eq_false_iff_ne]; omega
        have e : decide (m < 2) = false := by simp; omega
        rw [e]
        clear h2 e h0 h1
        go_enter Tryz.func256, Tryz.ntmps256
        go_wp2
        go_ret
        exact ⟨rfl, rfl⟩
    · have hl : 2 ≤ (Nl.limbs m).length := by
        apply Classical.byContradiction
        intro hc
        have := Nl.lt_limbs m
        have := Nl.pow_le (show (Nl.limbs m).length ≤ 1 by omega)
        omega
      obtain ⟨a, ca, rfl, -⟩ := ha.form
      have e : decide (m < 2) = false := by simp; omega
      rw [e]
      have t0 : (((Nl.limbs m).length : Int) == 0) = false := by rw [beq_eq_false_iff_ne]; omega
      have t1 : (((Nl.limbs m).length : Int) == 1) = false := by rw [beq_eq_false_iff_ne]; omega
      clear ha e h0 h1
      go_enter Tryz.func256, Tryz.ntmps256
      go_wp2
      go_ret
      exact ⟨rfl, rfl⟩

theorem bits_any (va : Value) (m : Nat) (w : World) (ha : IsN w va m) (hl : (Nl.limbs m).length ≤ 1000000) :
    Calls Tryz.prog 229 #[va] w fun e w' => e = .returned (.int .i64 (nbits m : Nat)) ∧ w = w' := by
  by_cases h0 : m = 0
  · subst h0
    rw [IsN, Nl.limbs_zero] at ha
    obtain ⟨a, ca, rfl, -⟩ := ha.form
    go_enter Tryz.func229, Tryz.ntmps229
    go_wp2
    go_ret
    exact ⟨rfl, rfl⟩
  · have hp := Nl.len_pos h0
    obtain ⟨hn, hx0⟩ := nbits_limbs h0
    rcases ha with ⟨rfl, h⟩ | ⟨b, off, cap, rfl, -, hc, hm, hb, hx⟩
    · rw [h] at hp; simp at hp
    obtain ⟨k, hk⟩ : ∃ k, (Nl.limbs m).length = k + 1 := ⟨(Nl.limbs m).length - 1, by omega⟩
    have hw := (Nl.limbs_small m).getD ((Nl.limbs m).length - 1)
    rw [hk, show k + 1 - 1 = k from by omega] at hn hx0 hw
    have c0 := hx k (by omega)
    obtain ⟨x, ex⟩ : ∃ x, (Nl.limbs m).getD k 0 = x := ⟨_, rfl⟩
    rw [ex] at hn hx0 c0 hw
    rw [hk] at hc
    rw [hk]
    have HN := Lib.hid hn
    have hb8 : Lib.bitLen x ≤ 64 := Lib.bitLen_le x 64 (by omega) (by omega)
    clear hx hn ex hp h0 hx0
    have t0 : (((k : Int) + 1) == 0) = false := by rw [beq_eq_false_iff_ne]; omega
    rw [hk] at hl
    clear hk
    go_enter Tryz.func229, Tryz.ntmps229
    go_wp2_with (go_at_call 266; refine (len32 _ _ (by omega) (by omega)).mono ?_; rintro e w' ⟨rfl, rfl⟩)
    go_ret
    refine ⟨ret_int ?_, rfl⟩
    rw [HN.out]
    first | omega | (simp; omega) | trace_state
theorem lz32 (x : Int) (w : World) (h0 : 0 ≤ x) (h1 : x ≤ 4294967295) :
    Calls Tryz.prog 292 #[.int .u32 x] w fun e w' => e = .returned (.int .i64 (32 - Lib.bitLen x.toNat)) ∧ w = w' := by
  have hb := Lib.bitLen_le x.toNat 32 (by omega) (by omega)
  go_enter Tryz.func292, Tryz.ntmps292
  go_wp2_with (go_at_call 266; refine (len32 _ _ (by omega) (by omega)).mono ?_; rintro e w' ⟨rfl, rfl⟩)
  go_ret
  exact ⟨rfl, rfl⟩
theorem len_any (x : Int) (w : World) (h0 : 0 ≤ x) (h1 : x ≤ 9223372036854775807) :
    Calls Tryz.prog 285 #[.int .u64 x] w fun e w' => e = .returned (.int .i64 (Lib.bitLen x.toNat)) ∧ w = w' := by
  go_enter Tryz.func285, Tryz.ntmps285
  go_wp2_with fail
  refine (len64 _ _ (by omega) (by omega)).mono ?_
  rintro e w' ⟨rfl, rfl⟩
  go_wp2_with fail
  go_ret
  exact ⟨rfl, rfl⟩

/-- the first word of a number that is not 0 -/
theorem top_word {m : Nat} (h0 : m ≠ 0) : ∃ k x, (Nl.limbs m).length = k + 1 ∧ (Nl.limbs m).getD k 0 = x ∧ x ≠ 0 ∧ x < 4294967296 ∧ nbits m = 32 * k + Lib.bitLen x := by
  have hp := Nl.len_pos h0
  obtain ⟨hn, hx0⟩ := nbits_limbs h0
  obtain ⟨k, hk⟩ : ∃ k, (Nl.limbs m).length = k + 1 := ⟨(Nl.limbs m).length - 1, by omega⟩
  rw [hk, show k + 1 - 1 = k from by omega] at hn hx0
  exact ⟨k, _, hk, rfl, hx0, (Nl.limbs_small m).getD k, hn⟩
theorem spare_any (va : Value) (m : Nat) (w : World) (ha : IsN w va m) (hl : (Nl.limbs m).length ≤ 1000000) (h0 : m ≠ 0) :
    Calls Tryz.prog 277 #[va] w fun e w' => e = .returned (.int .i64 ((32 * (Nl.limbs m).length - nbits m : Nat) : Int)) ∧ w = w' := by
  obtain ⟨k, x, hk, ex, hx0, hw, hn⟩ := top_word h0
  have hb8 : Lib.bitLen x ≤ 32 := Lib.bitLen_le x 32 (by omega) (by omega)
  rcases ha with ⟨rfl, h⟩ | ⟨b, off, cap, rfl, -, hc, hm, hb, hx⟩
  · rw [h] at hk; simp at hk
  have c0 := hx k (by omega)
  rw [ex] at c0
  rw [hk] at hc hl ⊢
  have HN := Lib.hid hn
  clear hx hn ex h0 hx0 hk
  go_enter Tryz.func277, Tryz.ntmps277
  go_wp2_with (go_at_call 292; refine (lz32 _ _ (by omega) (by omega)).mono ?_; rintro e w' ⟨rfl, rfl⟩)
  go_ret
  refine ⟨ret_int ?_, rfl⟩
  rw [HN.out]
  omega

set_option maxHeartbeats 1000000 in
theorem uint_any (va : Value) (m : Nat) (w : World) (ha : IsN w va m) (hm : m < 18446744073709551616) :
    Calls Tryz.prog 240 #[va] w fun e w' => e = .returned (.int .u64 m) ∧ w = w' := by
  by_cases h0 : m = 0
  · subst h0
    rw [IsN, Nl.limbs_zero] at ha
    obtain ⟨a, ca, rfl, -⟩ := ha.form
    go_enter Tryz.func240, Tryz.ntmps240
    go_wp2
    go_rounds 1
    go_ret
    exact ⟨rfl, rfl⟩
  by_cases h1 : m < 4294967296
  · have hl : Nl.limbs m = [m] := by rw [Nl.limbs_pos h0, show m / 4294967296 = 0 from by omega, Nl.limbs_zero, Nat.mod_eq_of_lt h1]
    rw [IsN, hl] at ha
    rcases ha with ⟨rfl, h⟩ | ⟨b, off, cap, rfl, -, hc, hm, hb, hx⟩
    · simp at h
    have c0 := hx 0 (by simp)
    simp only [Nat.add_zero, List.getD_cons_zero] at c0
    clear hx hl h0
    go_enter Tryz.func240, Tryz.ntmps240
    go_wp2
    go_rounds 2
    go_ret
    refine ⟨ret_int ?_, rfl⟩
    rw [show (0 : Int) = ((0 : Nat) : Int) from rfl, u64_or_nat 0 m (by decide) (by omega), Nat.zero_or]
  · have hl : Nl.limbs m = [m % 4294967296, m / 4294967296] := by rw [Nl.limbs_pos h0, Nl.limbs_pos (by omega), show m / 4294967296 / 4294967296 = 0 from by omega, Nl.limbs_zero, Nat.mod_eq_of_lt (show m / 4294967296 < 4294967296 by omega)]
    rw [IsN, hl] at ha
    rcases ha with ⟨rfl, h⟩ | ⟨b, off, cap, rfl, -, hc, hm', hb, hx⟩
    · simp at h
    have c0 := hx 0 (by simp)
    have c1 := hx 1 (by simp)
    simp only [Nat.add_zero, List.getD_cons_zero, List.getD_cons_succ] at c0 c1
    obtain ⟨x, ex⟩ : ∃ x, m % 4294967296 = x := ⟨_, rfl⟩
    obtain ⟨y, ey⟩ : ∃ y, m / 4294967296 = y := ⟨_, rfl⟩
    have hx2 : x < 4294967296 := by omega
    have hy2 : y < 4294967296 := by omega
    have em : m = x + 4294967296 * y := by omega
    rw [ex] at c0
    rw [ey] at c1
    have EM := Lib.hid em
    clear hx hl h0 ex ey em h1 hm
    go_enter Tryz.func240, Tryz.ntmps240
    go_wp2
    go_rounds 3
    go_ret
    refine ⟨ret_int ?_, rfl⟩
    rw [show (0 : Int) = ((0 : Nat) : Int) from rfl, u64_or_nat 0 x (by decide) (by omega), Nat.zero_or, show (y : Int) * 4294967296 = ((y * 4294967296 : Nat) : Int) from by omega,
      u64_or_nat x _ (by omega) (by omega), Nat.or_comm, nat_join 32 _ _ (by omega) (by omega), EM.out]
    omega
end Go.Proofs.YtodjncohhgknlaaGreat
