/-
  What rootByBits does. Conditions: those that each theorem names.
-/
import Derived.Test.YtikgfdkaikpmhaaGreatWords
import Derived.Test.YtikgfdkaikpmhaaGreatPower
namespace Go.Proofs.YtikgfdkaikpmhaaGreat
open Go.RowKit

/-- r is the n-th root of m, rounded down -/
def IsRoot (n m r : Nat) : Prop := r ^ n ≤ m ∧ m < (r + 1) ^ n
theorem len_pow_le {x s n k : Nat} (hx : x ≤ 2 ^ s) (hk : k ≤ n) (hs : s * n ≤ 3000000) : (Nl.limbs (x ^ k)).length ≤ 100000 := by
  have h1 : x ^ k ≤ 2 ^ (s * n) := by
    refine Nat.le_trans (Nat.pow_le_pow_left hx k) ?_
    rw [← Nat.pow_mul]
    exact Nat.pow_le_pow_right (by decide) (Nat.mul_le_mul_left _ hk)
  have h2 : x ^ k < 2 ^ (s * n + 1) := Nat.lt_of_le_of_lt h1 (Nat.pow_lt_pow_right (by decide) (Nat.lt_succ_self _))
  have h3 := len_of_bits h2
  omega

set_option maxHeartbeats 2000000 in
theorem rootByBits_any (va : Value) (m n s : Nat) (w : World) (ha : IsN w va m) (hn : 1 ≤ n) (hn2 : n ≤ 40000) (hs : s ≤ 40000) (hsn : s * n ≤ 3000000) (hbig : m < (2 ^ s) ^ n) :
    Calls Tryz.prog 135 #[va, .int .i64 n, .int .i64 s] w fun e w' => ∃ r, IsRoot n m r ∧ (∃ v, e = .returned v ∧ IsN w' v r) ∧ Below w.heap.size w w' := by
  have HA := Lib.hid ha
  obtain ⟨a, ca, rfl, -⟩ := ha.form
  have HBIG := Lib.hid hbig
  clear ha hbig
  go_enter Tryz.func135, Tryz.ntmps135
  go_wp2_with fail
  go_loopw [7, 8] (fun v i wr => ∃ k r : Nat, k ≤ s ∧ i = .int .i64 ((k : Int) - 1) ∧ Hid (IsN wr v r) ∧ Hid (r ^ n ≤ m ∧ m < (r + 2 ^ k) ^ n ∧ r + 2 ^ k ≤ 2 ^ s) ∧ Hid (Below w.heap.size w wr)) (fun _ i _ => (intOf i + 1).toNat)
  case atStart =>
    refine ⟨s, 0, Nat.le_refl _, by go_num, ?_, ⟨?_, ?_, ?_⟩, Below.refl _ _⟩
    · exact .inl ⟨rfl, Nl.limbs_zero⟩
    · rw [Nat.zero_pow (by omega)]; exact Nat.zero_le _
    · rw [Nat.zero_add]; exact HBIG.out
    · rw [Nat.zero_add]; exact Nat.le_refl _
  case round =>
    obtain ⟨k, r, hk, rfl, hv, hr, hbel⟩ := hrel
    cases k with
    | zero =>
      go_wp2_with fail
      go_ret
      have := hr.out
      rw [Nat.pow_zero] at this
      exact ⟨r, ⟨this.1, this.2.1⟩, ⟨_, rfl, hv.out⟩, hbel.out⟩
    | succ k =>
      rw [show ((k + 1 : Nat) : Int) - 1 = (k : Int) from by omega]
      have hpow : 2 ^ (k + 1) = 2 ^ k + 2 ^ k := by rw [Nat.pow_succ]; omega
      have hr1 := hr.out
      have hk0 := Nat.two_pow_pos k
      rw [hpow] at hr1
      have hnx : r + 2 ^ k ≤ 2 ^ s := by omega
      have hlr : (Nl.limbs r).length ≤ 100000 := by
        have := len_pow_le (x := r) (s := s) (n := n) (k := 1) (by omega) hn hsn
        rwa [Nat.pow_one] at this
      have hl2 : (Nl.limbs (2 ^ k)).length ≤ 100000 := by
        have := len_pow_le (x := 2 ^ k) (s := s) (n := n) (k := 1) (by omega) hn hsn
        rwa [Nat.pow_one] at this
      have hlk : ∀ j, j ≤ n → (Nl.limbs ((r + 2 ^ k) ^ j)).length ≤ 100000 := fun j hj => len_pow_le hnx hj hsn
      have HL := Lib.hid (And.intro hlr (And.intro hl2 hlk))
      have HR := Lib.hid (And.intro hr1 hnx)
      clear hk0 hpow hr hr1 hnx hlr hl2 hlk
      go_wp2_with fail
      refine (wordOf_num 1 wr (by omega)).mono ?_
      rintro e w1 ⟨⟨v1, rfl, o1⟩, b1⟩
      have O1 := Lib.hid (show IsN w1 v1 1 from o1.at.at)
      have B1 := Lib.hid (show Below wr.heap.size wr w1 from b1)
      clear o1 b1
      go_wp2_with fail
      refine (shiftedLeft_any _ 1 k w1 O1.out (by rw [limbs_one (by decide) (by decide)]; simp) (by omega)).mono ?_
      rintro e w2 ⟨⟨v2, rfl, o2⟩, b2⟩
      rw [Nat.one_mul] at o2
      have O2 := Lib.hid o2
      have B2 := Lib.hid (show Below wr.heap.size wr w2 from B1.out.trans (b2.mono B1.out.size))
      clear o2 b2 O1 B1
      go_wp2_with fail
      refine (plus_any _ _ r (2 ^ k) w2 (hv.out.below B2.out) O2.out (by have := HL.out.1; omega) (by have := HL.out.2.1; omega)).mono ?_
      rintro e w3 ⟨⟨v3, rfl, o3⟩, b3⟩
      have O3 := Lib.hid o3
      have B3 := Lib.hid (show Below wr.heap.size wr w3 from B2.out.trans (b3.mono B2.out.size))
      clear o3 b3 O2 B2
      go_wp2_with fail
      refine (power_any _ (r + 2 ^ k) n w3 O3.out hn hn2 HL.out.2.2).mono ?_
      rintro e w4 ⟨⟨v4, rfl, o4⟩, b4⟩
      have O4 := Lib.hid o4
      have B4 := Lib.hid (show Below wr.heap.size wr w4 from B3.out.trans (b4.mono B3.out.size))
      have O3' := Lib.hid (O3.out.below b4)
      clear o4 b4 B3 O3
      go_wp2_with fail
      obtain ⟨P, hP⟩ : ∃ P, P = (r + 2 ^ k) ^ n := ⟨_, rfl⟩
      have O5 : Hid (IsN w4 v4 P) := by rw [hP]; exact O4
      have HP := Lib.hid hP
      clear hP O4
      have hcmp := compare_any _ _ P m w4 O5.out (HA.out.below (hbel.out.trans (B4.out.mono hbel.out.size)))
      refine hcmp.mono ?_
      rintro e w5 ⟨rfl, j, rfl⟩
      clear hcmp
      by_cases hc : P ≤ m
      · have e0 : decide (cmpI P m ≤ 0) = true := by rw [decide_eq_true_eq, cmpI]; split <;> (try split) <;> omega
        have HC := Lib.hid hc
        clear hc
        go_wp2_with fail
        go_roundw
        case rel =>
          refine ⟨k, r + 2 ^ k, by omega, rfl, O3'.out.below (below_drewN ..), ⟨by rw [← HP.out]; exact HC.out, ?_, ?_⟩, (hbel.out.trans (B4.out.mono hbel.out.size)).trans (below_drewN ..)⟩
          · have := HR.out.1.2.1
            rwa [← Nat.add_assoc] at this
          · have := HR.out.1.2.2
            omega
        case measure => simp [intOf] <;> omega
      · have e0 : decide (cmpI P m ≤ 0) = false := by rw [decide_eq_false_iff_not, cmpI]; split <;> (try split) <;> omega
        have HC := Lib.hid hc
        clear hc
        go_wp2_with fail
        go_roundw
        case rel =>
          refine ⟨k, r, by omega, rfl, (hv.out.below B4.out).below (below_drewN ..), ⟨HR.out.1.1, ?_, HR.out.2⟩, (hbel.out.trans (B4.out.mono hbel.out.size)).trans (below_drewN ..)⟩
          rw [← HP.out]
          have := HC.out
          omega
        case measure => simp [intOf] <;> omega
end Go.Proofs.YtikgfdkaikpmhaaGreat
