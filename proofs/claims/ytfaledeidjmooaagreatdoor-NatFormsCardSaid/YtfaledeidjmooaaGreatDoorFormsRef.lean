/-
  What the reference's Bits, Bit and Zeros do. Conditions: those that each theorem names.
-/
import Derived.Test.YtfaledeidjmooaaGreatDoorForms
import Derived.Test.YtfaledeidjmooaaGreatDoorRef
namespace Go.Proofs.YtfaledeidjmooaaGreatDoor
open Go.RowKit

theorem refBits_any (va : Value) (m : Nat) (w : World) (ha : IsN w va m) (hl : (Nl.limbs m).length ≤ 1000000) :
    Calls Tryz.prog 17 #[va] w fun e w' => e = .returned (.int .i64 (nbits m : Nat)) ∧ w = w' := by
  by_cases h0 : m = 0
  · subst h0
    rw [IsN, Nl.limbs_zero] at ha
    obtain ⟨a, ca, rfl, -⟩ := ha.form
    go_enter Tryz.func17, Tryz.ntmps17
    go_wp2
    go_ret
    exact ⟨rfl, rfl⟩
  · obtain ⟨k, x, hk, ex, hx0, hw, hn⟩ := top_word h0
    rcases ha with ⟨rfl, h⟩ | ⟨b, off, cap, rfl, -, hc, hm, hb, hx⟩
    · rw [h] at hk; simp at hk
    have c0 := hx k (by omega)
    rw [ex] at c0
    rw [hk] at hc hl ⊢
    have hb8 : Lib.bitLen x ≤ 32 := Lib.bitLen_le x 32 (by omega) (by omega)
    have HN := Lib.hid hn
    clear hx hn ex h0 hx0 hk
    have t0 : (((k : Int) + 1) == 0) = false := by rw [beq_eq_false_iff_ne]; omega
    go_enter Tryz.func17, Tryz.ntmps17
    go_wp2_with fail
    go_loopw [4, 5] (fun b y wr => ∃ B Y : Nat, b = .int .i64 B ∧ y = .int .u32 Y ∧ Y < 4294967296 ∧ B ≤ 32 * k + 32 ∧ Hid (B + Lib.bitLen Y = nbits m) ∧ wr = w) (fun _ y _ => (intOf y).toNat)
    case atStart => exact ⟨32 * k, x, by go_num, rfl, hw, by omega, HN.out.symm, rfl⟩
    case round =>
      obtain ⟨B, Y, rfl, rfl, hY, hB, hv, rfl⟩ := hrel
      by_cases hy0 : Y = 0
      · have t1 : decide ((Y : Int) > 0) = false := decide_eq_false (by omega)
        have t2 : decide (0 < Y) = false := decide_eq_false (by omega)
        have HR := Lib.hid (show B = nbits m by
          have h1 := hv.out
          rw [hy0] at h1
          exact h1)
        clear hy0
        go_wp2_with fail
        go_ret
        exact ⟨ret_int (by rw [HR.out]), rfl⟩
      · have t1 : decide ((Y : Int) > 0) = true := decide_eq_true (by omega)
        have t2 : decide (0 < Y) = true := decide_eq_true (by omega)
        have h3 := Lib.bitLen_half Y hy0 (by omega)
        have h4 : Lib.bitLen Y ≤ 32 := Lib.bitLen_le Y 32 (by omega) (by omega)
        have HR := Lib.hid (show B + 1 + Lib.bitLen (Y / 2) = nbits m by have := hv.out; omega)
        have hB2 : B + 1 ≤ 32 * k + 32 := by
          have h5 := hv.out
          have h6 := HN.out
          omega
        clear h3 h4
        go_wp2_with fail
        go_roundw
        case rel => exact ⟨B + 1, Y / 2, by go_num, by go_num, by omega, hB2, HR.out, trivial⟩
        case measure => simp [intOf] <;> omega

theorem bit_word (m k : Nat) : (Nl.limbs m).getD (k / 32) 0 / 2 ^ (k % 32) % 2 = m / 2 ^ k % 2 := by
  obtain ⟨q, hq⟩ : ∃ q, q = k / 32 := ⟨_, rfl⟩
  obtain ⟨r, hr⟩ : ∃ r, r = k % 32 := ⟨_, rfl⟩
  have hr32 : r < 32 := by omega
  have hk : k = 32 * q + r := by omega
  rw [← hq, ← hr, hk, Nat.pow_add, ← pow32, ← Nat.div_div_eq_div_mul]
  obtain ⟨M, hM⟩ : ∃ M, M = m / 4294967296 ^ q := ⟨_, rfl⟩
  have e1 : (Nl.limbs m).getD q 0 = M % 4294967296 := by
    have h1 : (Nl.limbs m).getD q 0 = ((Nl.limbs m).drop q).getD 0 0 := by simp [List.getD_eq_getElem?_getD]
    rw [h1, Nl.limbs_drop, ← hM]
    by_cases hz : M = 0
    · rw [hz, Nl.limbs_zero]; rfl
    · have h2 := Nl.val_limbs M
      have hp := Nl.len_pos hz
      have h3 := Nl.val_drop_succ (Nl.limbs M) 0 hp
      rw [List.drop_zero, h2] at h3
      have h4 := (Nl.limbs_small M).getD 0
      omega
  rw [e1, ← hM]
  have e : (4294967296 : Nat) = 2 ^ r * (2 * 2 ^ (31 - r)) := by
    rw [← Nat.pow_succ', ← Nat.pow_add, show r + (31 - r).succ = 32 by omega]
  have h0 := Nat.div_add_mod M 4294967296
  obtain ⟨D, hD⟩ : ∃ D, D = M / 4294967296 := ⟨_, rfl⟩
  obtain ⟨E, hE⟩ : ∃ E, E = M % 4294967296 := ⟨_, rfl⟩
  rw [← hD, ← hE] at h0
  rw [← hE, ← h0, e, Nat.mul_assoc (2 ^ r), Nat.mul_add_div (Nat.two_pow_pos r), Nat.mul_assoc 2, Nat.mul_add_mod]

set_option maxHeartbeats 1000000 in
theorem refBit_any (va : Value) (m k : Nat) (w : World) (ha : IsN w va m) (hk : k ≤ 40000000) :
    Calls Tryz.prog 38 #[va, .int .i64 k] w fun e w' => e = .returned (.int .u64 ((m / 2 ^ k % 2 : Nat) : Int)) ∧ w = w' := by
  rw [← bit_word]
  obtain ⟨q, hq⟩ : ∃ q, q = k / 32 := ⟨_, rfl⟩
  obtain ⟨r, hr⟩ : ∃ r, r = k % 32 := ⟨_, rfl⟩
  have hr32 : r < 32 := by omega
  have q1 : (k : Int) / 32 = (q : Int) := by omega
  have r1 : (k : Int) % 32 = (r : Int) := by omega
  have hqb : q ≤ 40000000 := by omega
  rw [← hq, ← hr]
  have HA := Lib.hid (at_any va (Nl.limbs m) q w ha (Nl.limbs_small m))
  have hx := (Nl.limbs_small m).getD q
  obtain ⟨a, ca, rfl, -⟩ := ha.form
  obtain ⟨x, ex⟩ : ∃ x, x = (Nl.limbs m).getD q 0 := ⟨_, rfl⟩
  rw [← ex] at HA hx ⊢
  have e1 : (x : Int) / 2 ^ r % 2 = ((x / 2 ^ r % 2 : Nat) : Int) := by
    rw [Int.natCast_emod, Int.natCast_ediv, Int.natCast_pow]; rfl
  have HE := Lib.hid e1
  clear ha ex hq hr e1
  go_enter Tryz.func38, Tryz.ntmps38
  go_wp2_with (go_at_call 37; refine HA.out.mono ?_; rintro e w' ⟨rfl, rfl⟩)
  go_ret
  exact ⟨ret_int HE.out, rfl⟩

theorem refZeros_any (va : Value) (m : Nat) (w : World) (ha : IsN w va m) (hl : (Nl.limbs m).length ≤ 1000000) :
    Calls Tryz.prog 18 #[va] w fun e w' => e = .returned (.int .i64 (tzn m)) ∧ w = w' := by
  have HA := Lib.hid ha
  obtain ⟨a, ca, rfl, -⟩ := ha.form
  by_cases h0 : m = 0
  · have hl0 : (Nl.limbs m).length = 0 := by rw [h0, Nl.limbs_zero]; rfl
    have hr : tzn m = 0 := by rw [tzn, if_pos h0]
    rw [hr, hl0]
    clear h0 hr HA ha hl0
    go_enter Tryz.func18, Tryz.ntmps18
    go_wp2_with fail
    go_loopw [3] (fun i wr => i = .int .i64 0 ∧ wr = w) (fun _ _ => 0)
    case atStart => exact ⟨rfl, rfl⟩
    case round =>
      obtain ⟨rfl, rfl⟩ := hrel
      go_wp2_with fail
      go_ret
      exact ⟨rfl, rfl⟩
  · have hp := Nl.len_pos h0
    obtain ⟨⟨j, hj⟩, ht⟩ := tzn_spec h0
    have hbl : nbits m ≤ 32000000 := by
      obtain ⟨k, x, hk, ex, hx0, hw, hn⟩ := top_word h0
      have hb8 : Lib.bitLen x ≤ 32 := Lib.bitLen_le x 32 (by omega) (by omega)
      omega
    obtain ⟨T, hT⟩ : ∃ T, T = tzn m := ⟨_, rfl⟩
    rw [← hT] at hj ht ⊢
    have hTb : T ≤ 32000000 := by omega
    have HJ := Lib.hid hj
    have t0 : decide (((Nl.limbs m).length : Int) > 0) = true := decide_eq_true (by omega)
    have t1 : decide (0 < (Nl.limbs m).length) = true := decide_eq_true (by omega)
    clear hj ht hT hbl ha h0
    go_enter Tryz.func18, Tryz.ntmps18
    go_wp2_with fail
    go_loopw [3] (fun i wr => ∃ k : Nat, k ≤ T ∧ i = .int .i64 k ∧ wr = w) (fun i _ => T - (intOf i).toNat)
    case atStart => exact ⟨0, by omega, rfl, rfl⟩
    case round =>
      obtain ⟨k, hk, rfl, rfl⟩ := hrel
      have hB := refBit_any _ m k wr HA.out (by omega)
      by_cases hlt : k < T
      · have e : m / 2 ^ k % 2 = 0 := by
          rw [HJ.out, show T = k + ((T - k - 1) + 1) by omega, Nat.pow_add, Nat.mul_assoc, Nat.mul_div_cancel_left _ (Nat.two_pow_pos k), Nat.pow_succ, Nat.mul_comm (2 ^ (T - k - 1)) 2, Nat.mul_assoc, Nat.mul_mod_right]
        rw [e] at hB
        have HB := Lib.hid hB
        clear hB e
        go_wp2_with (go_at_call 38; refine HB.out.mono ?_; rintro e w' ⟨rfl, rfl⟩)
        go_roundw
        case rel => exact ⟨k + 1, by omega, by go_num, trivial⟩
        case measure => simp [intOf] <;> omega
      · have hkT : k = T := by omega
        have e : m / 2 ^ k % 2 = 1 := by
          rw [hkT, HJ.out, Nat.mul_div_cancel_left _ (Nat.two_pow_pos T)]
          omega
        rw [e] at hB
        have HB := Lib.hid hB
        clear hB e hlt
        subst hkT
        go_wp2_with (go_at_call 38; refine HB.out.mono ?_; rintro e w' ⟨rfl, rfl⟩)
        go_ret
        exact ⟨rfl, rfl⟩
end Go.Proofs.YtfaledeidjmooaaGreatDoor
