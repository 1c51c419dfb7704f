/-
  What commonDivisor does for numbers of two words. Conditions: those that each theorem names.
-/
import Derived.Test.YtikgfdkaikpmhaaGreatGcd
namespace Go.Proofs.YtikgfdkaikpmhaaGreat
open Go.RowKit

set_option maxHeartbeats 1000000 in
theorem divisorOfWords_any (x y : Nat) (w : World) (hx : x < 18446744073709551616) (hy : y < 18446744073709551616) :
    Calls Tryz.prog 109 #[.int .u64 x, .int .u64 y] w fun e w' => e = .returned (.int .u64 (Nat.gcd x y : Nat)) ∧ ∃ k, w' = w.drewN k := by
  go_enter Tryz.func109, Tryz.ntmps109
  go_wp2
  go_loopw [0, 1] (fun i j wr => ∃ a b : Nat, i = .int .u64 a ∧ j = .int .u64 b ∧ Hid (a < 18446744073709551616 ∧ b < 18446744073709551616 ∧ Nat.gcd a b = Nat.gcd x y) ∧ Hid (∃ k, wr = w.drewN k)) (fun _ j _ => (intOf j).toNat)
  case atStart => exact ⟨x, y, rfl, rfl, ⟨hx, hy, rfl⟩, ⟨0, rfl⟩⟩
  case round =>
    obtain ⟨a, b, rfl, rfl, hd, hw⟩ := hrel
    have ha := hd.out.1
    have hb := hd.out.2.1
    by_cases h0 : b = 0
    · have e0 : ((b : Int) != 0) = false := by simp [h0]
      have HZ := Lib.hid h0
      clear h0
      go_wp2
      go_ret
      have h1 := HZ.out
      have h2 := hd.out.2.2
      rw [h1, Nat.gcd_zero_right] at h2
      exact ⟨by rw [h2]; rfl, hw.out⟩
    · have e0 : ((b : Int) != 0) = true := by rw [bne_iff_ne]; omega
      have e1 : ((b : Int) == 0) = false := by rw [beq_eq_false_iff_ne]; omega
      have e2 : ¬ (b : Int) = 0 := by omega
      have HB := Lib.hid (Nat.pos_of_ne_zero h0)
      clear h0
      go_wp2
      go_region
      all_goals go_wp2
      all_goals
        refine ⟨⟨b, a % b, rfl, by rw [Int.natCast_emod], ⟨hb, Nat.lt_trans (Nat.mod_lt _ HB.out) hb, ?_⟩, ?_⟩, ?_⟩
        · have := hd.out.2.2
          rw [← this, Nat.gcd_comm a b, Nat.gcd_rec b a, Nat.gcd_comm]
        · obtain ⟨k, hk⟩ := hw.out
          exact ⟨k + 1, by rw [hk]; rfl⟩
        · have := Nat.mod_lt a HB.out
          show (((a : Int) % (b : Int))).toNat < ((b : Nat) : Int).toNat
          rw [← Int.natCast_emod, Int.toNat_natCast, Int.toNat_natCast]
          exact this

set_option maxHeartbeats 1000000 in
/-- the greatest common divisor of two numbers of at most two words -/
theorem commonDivisor_small (va vb : Value) (m n : Nat) (w : World) (ha : IsN w va m) (hb : IsN w vb n) (hm : m < 18446744073709551616) (hn : n < 18446744073709551616) :
    Calls Tryz.prog 72 #[va, vb] w fun e w' => (∃ v, e = .returned v ∧ IsN w' v (Nat.gcd m n)) ∧ Below w.heap.size w w' := by
  have hlm : (Nl.limbs m).length ≤ 2 := Nl.limbs_lt (by omega)
  have hln : (Nl.limbs n).length ≤ 2 := Nl.limbs_lt (by omega)
  have HA := Lib.hid ha
  have HB := Lib.hid hb
  obtain ⟨a, ca, rfl, -⟩ := ha.form
  obtain ⟨b, cb, rfl, -⟩ := hb.form
  clear ha hb
  have hc := Lib.hid (compare_any _ _ m n w HA.out HB.out)
  by_cases hlt : m < n
  · have e0 : decide (0 ≤ cmpI m n) = false := by rw [decide_eq_false_iff_not, cmpI_lt (by omega)]; omega
    have e00 : ¬ (0 ≤ cmpI m n) := by rw [cmpI_lt (by omega)]; omega
    clear hlt
    go_enter Tryz.func72, Tryz.ntmps72
    go_wp2_with (go_at_call 62; refine hc.out.mono ?_; rintro e w1 ⟨rfl, j, rfl⟩)
    go_loopw [0, 1] (fun i j wr => i = .slice b (Nl.limbs n).length cb ∧ j = .slice a (Nl.limbs m).length ca ∧ Hid (∃ k, wr = w.drewN k)) (fun _ _ _ => 0)
    case atStart => exact ⟨rfl, rfl, ⟨j, rfl⟩⟩
    case round =>
      obtain ⟨rfl, rfl, hw⟩ := hrel
      have t0 : decide (2 < (Nl.limbs n).length) = false := by rw [decide_eq_false_iff_not]; omega
      by_cases hz : (Nl.limbs m).length = 0
      · have e1 : (((Nl.limbs m).length : Int) == 0) = true := by simp [hz]
        have hz0 := Lib.hid (Nl.len_zero hz)
        clear hz
        go_wp2
        go_ret
        refine ⟨⟨_, rfl, ?_⟩, ?_⟩
        · rw [Nat.gcd_comm m n, hz0.out, Nat.gcd_zero_right]
          obtain ⟨k, hk⟩ := hw.out
          rw [hk]
          exact HB.out.below (below_drewN ..)
        · obtain ⟨k, hk⟩ := hw.out
          rw [hk]
          exact below_drewN ..
      · have e1 : (((Nl.limbs m).length : Int) == 0) = false := by rw [beq_eq_false_iff_ne]; omega
        clear hz
        obtain ⟨w0, hw0⟩ : ∃ w0, w0 = wr := ⟨_, rfl⟩
        obtain ⟨k, rfl⟩ := hw.out
        go_wp2_with (first
          | (go_at_call_of 110 (Value.slice b (Nl.limbs n).length cb); refine (uint_any _ n _ (HB.out.below (below_drewN ..)) (by omega)).mono ?_; rintro e w' ⟨rfl, rfl⟩)
          | (go_at_call_of 110 (Value.slice a (Nl.limbs m).length ca); refine (uint_any _ m _ (HA.out.below (below_drewN ..)) (by omega)).mono ?_; rintro e w' ⟨rfl, rfl⟩))
        refine (divisorOfWords_any n m _ (by omega) (by omega)).mono ?_
        rintro e w2 ⟨rfl, j2, rfl⟩
        go_wp2_with fail
        have hg : Nat.gcd n m < 18446744073709551616 := by
          by_cases h0 : n = 0
          · rw [h0, Nat.gcd_zero_left]; omega
          · exact Nat.lt_of_le_of_lt (Nat.gcd_le_left _ (Nat.pos_of_ne_zero h0)) (by omega)
        refine (fromUint_num _ _ hg).mono ?_
        rintro e w3 ⟨⟨v, rfl, hv⟩, hb3⟩
        have HV := Lib.hid hv
        have HB3 := Lib.hid hb3
        clear hv hb3
        go_wp2_with fail
        go_ret
        refine ⟨⟨v, rfl, ?_⟩, ?_⟩
        · rw [Nat.gcd_comm m n]; exact HV.out.at.at
        · exact (below_drewN w (k + j2) _).trans HB3.out
  · have e0 : decide (0 ≤ cmpI m n) = true := by rw [decide_eq_true_eq, cmpI]; split <;> (try split) <;> omega
    have e00 : 0 ≤ cmpI m n := by rw [cmpI]; split <;> (try split) <;> omega
    clear hlt
    go_enter Tryz.func72, Tryz.ntmps72
    go_wp2_with (go_at_call 62; refine hc.out.mono ?_; rintro e w1 ⟨rfl, j, rfl⟩)
    go_loopw [0, 1] (fun i j wr => i = .slice a (Nl.limbs m).length ca ∧ j = .slice b (Nl.limbs n).length cb ∧ Hid (∃ k, wr = w.drewN k)) (fun _ _ _ => 0)
    case atStart => exact ⟨rfl, rfl, ⟨j, rfl⟩⟩
    case round =>
      obtain ⟨rfl, rfl, hw⟩ := hrel
      have t0 : decide (2 < (Nl.limbs m).length) = false := by rw [decide_eq_false_iff_not]; omega
      by_cases hz : (Nl.limbs n).length = 0
      · have e1 : (((Nl.limbs n).length : Int) == 0) = true := by simp [hz]
        have hz0 := Lib.hid (Nl.len_zero hz)
        clear hz
        go_wp2
        go_ret
        refine ⟨⟨_, rfl, ?_⟩, ?_⟩
        · rw [hz0.out, Nat.gcd_zero_right]
          obtain ⟨k, hk⟩ := hw.out
          rw [hk]
          exact HA.out.below (below_drewN ..)
        · obtain ⟨k, hk⟩ := hw.out
          rw [hk]
          exact below_drewN ..
      · have e1 : (((Nl.limbs n).length : Int) == 0) = false := by rw [beq_eq_false_iff_ne]; omega
        clear hz
        obtain ⟨w0, hw0⟩ : ∃ w0, w0 = wr := ⟨_, rfl⟩
        obtain ⟨k, rfl⟩ := hw.out
        go_wp2_with (first
          | (go_at_call_of 110 (Value.slice a (Nl.limbs m).length ca); refine (uint_any _ m _ (HA.out.below (below_drewN ..)) (by omega)).mono ?_; rintro e w' ⟨rfl, rfl⟩)
          | (go_at_call_of 110 (Value.slice b (Nl.limbs n).length cb); refine (uint_any _ n _ (HB.out.below (below_drewN ..)) (by omega)).mono ?_; rintro e w' ⟨rfl, rfl⟩))
        refine (divisorOfWords_any m n _ (by omega) (by omega)).mono ?_
        rintro e w2 ⟨rfl, j2, rfl⟩
        go_wp2_with fail
        have hg : Nat.gcd m n < 18446744073709551616 := by
          by_cases h0 : m = 0
          · rw [h0, Nat.gcd_zero_left]; omega
          · exact Nat.lt_of_le_of_lt (Nat.gcd_le_left _ (Nat.pos_of_ne_zero h0)) (by omega)
        refine (fromUint_num _ _ hg).mono ?_
        rintro e w3 ⟨⟨v, rfl, hv⟩, hb3⟩
        have HV := Lib.hid hv
        have HB3 := Lib.hid hb3
        clear hv hb3
        go_wp2_with fail
        go_ret
        refine ⟨⟨v, rfl, ?_⟩, ?_⟩
        · exact HV.out.at.at
        · exact (below_drewN w (k + j2) _).trans HB3.out
end Go.Proofs.YtikgfdkaikpmhaaGreat
