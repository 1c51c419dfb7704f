/-
  What commonDivisor does for numbers of two words. What rootByBits does. What root does where it goes bit by bit, and rootAndRest. Conditions: those that each theorem names.
-/
import Derived.Test.YtfaledeidjmooaaGreatGcd
import Derived.Test.YtfaledeidjmooaaGreatPower
import Derived.BigQuiet
import Derived.Deep.RegionWith
import Derived.Deep.Cut
namespace Go.Proofs.YtfaledeidjmooaaGreat
open Go.RowKit

set_option maxHeartbeats 1000000 in
theorem divisorOfWords_any (x y : Nat) (w : World) (hx : x < 18446744073709551616) (hy : y < 18446744073709551616) :
    Calls Tryz.prog 112 #[.int .u64 x, .int .u64 y] w fun e w' => e = .returned (.int .u64 (Nat.gcd x y : Nat)) ∧ ∃ k, w' = w.drewN k := by
  go_enter Tryz.func112, Tryz.ntmps112
  go_wp2
  go_loopw [0, 1] (fun i j wr => ∃ a b : Nat, i = .int .u64 a ∧ j = .int .u64 b ∧ Hid (a < 18446744073709551616 ∧ b < 18446744073709551616 ∧ Nat.gcd a b = Nat.gcd x y) ∧ Hid (∃ k, wr = w.drewN k)) (fun _ j _ => (intOf j).toNat)
  case atStart => exact ⟨x, y, rfl, rfl, ⟨hx, hy, rfl⟩, ⟨0, rfl⟩⟩
  case round =>
    obtain ⟨a, b, rfl, rfl, hd, hw⟩ := hrel
    have ha := hd.out.1
    have hb := hd.out.2.1
    by_cases h0 : b = 0
    · have e0 : ((b : Int) != 0) = false := by simp [h0]
      have HZ := Lib.hid h0
      clear h0
      go_wp2
      go_ret
      have h1 := HZ.out
      have h2 := hd.out.2.2
      rw [h1, Nat.gcd_zero_right] at h2
      exact ⟨by rw [h2]; rfl, hw.out⟩
    · have e0 : ((b : Int) != 0) = true := by rw [bne_iff_ne]; omega
      have e1 : ((b : Int) == 0) = false := by rw [beq_eq_false_iff_ne]; omega
      have e2 : ¬ (b : Int) = 0 := by omega
      have HB := Lib.hid (Nat.pos_of_ne_zero h0)
      clear h0
      go_wp2
      go_region
      all_goals go_wp2
      all_goals
        refine ⟨⟨b, a % b, rfl, by rw [Int.natCast_emod], ⟨hb, Nat.lt_trans (Nat.mod_lt _ HB.out) hb, ?_⟩, ?_⟩, ?_⟩
        · have := hd.out.2.2
          rw [← this, Nat.gcd_comm a b, Nat.gcd_rec b a, Nat.gcd_comm]
        · obtain ⟨k, hk⟩ := hw.out
          exact ⟨k + 1, by rw [hk]; rfl⟩
        · have := Nat.mod_lt a HB.out
          show (((a : Int) % (b : Int))).toNat < ((b : Nat) : Int).toNat
          rw [← Int.natCast_emod, Int.toNat_natCast, Int.toNat_natCast]
          exact this

set_option maxHeartbeats 1000000 in
/-- the greatest common divisor of two numbers of at most two words -/
theorem commonDivisor_small (va vb : Value) (m n : Nat) (w : World) (ha : IsN w va m) (hb : IsN w vb n) (hm : m < 18446744073709551616) (hn : n < 18446744073709551616) :
    Calls Tryz.prog 74 #[va, vb] w fun e w' => (∃ v, e = .returned v ∧ IsN w' v (Nat.gcd m n)) ∧ Below w.heap.size w w' := by
  have hlm : (Nl.limbs m).length ≤ 2 := Nl.limbs_lt (by omega)
  have hln : (Nl.limbs n).length ≤ 2 := Nl.limbs_lt (by omega)
  have HA := Lib.hid ha
  have HB := Lib.hid hb
  obtain ⟨a, ca, rfl, -⟩ := ha.form
  obtain ⟨b, cb, rfl, -⟩ := hb.form
  clear ha hb
  have hc := Lib.hid (compare_any _ _ m n w HA.out HB.out)
  by_cases hlt : m < n
  · have e0 : decide (0 ≤ cmpI m n) = false := by rw [decide_eq_false_iff_not, cmpI_lt (by omega)]; omega
    have e00 : ¬ (0 ≤ cmpI m n) := by rw [cmpI_lt (by omega)]; omega
    clear hlt
    go_enter Tryz.func74, Tryz.ntmps74
    go_wp2_with (go_at_call 62; refine hc.out.mono ?_; rintro e w1 ⟨rfl, j, rfl⟩)
    go_loopw [0, 1] (fun i j wr => i = .slice b (Nl.limbs n).length cb ∧ j = .slice a (Nl.limbs m).length ca ∧ Hid (∃ k, wr = w.drewN k)) (fun _ _ _ => 0)
    case atStart => exact ⟨rfl, rfl, ⟨j, rfl⟩⟩
    case round =>
      obtain ⟨rfl, rfl, hw⟩ := hrel
      have t0 : decide (2 < (Nl.limbs n).length) = false := by rw [decide_eq_false_iff_not]; omega
      by_cases hz : (Nl.limbs m).length = 0
      · have e1 : (((Nl.limbs m).length : Int) == 0) = true := by simp [hz]
        have hz0 := Lib.hid (Nl.len_zero hz)
        clear hz
        go_wp2
        go_ret
        refine ⟨⟨_, rfl, ?_⟩, ?_⟩
        · rw [Nat.gcd_comm m n, hz0.out, Nat.gcd_zero_right]
          obtain ⟨k, hk⟩ := hw.out
          rw [hk]
          exact HB.out.below (below_drewN ..)
        · obtain ⟨k, hk⟩ := hw.out
          rw [hk]
          exact below_drewN ..
      · have e1 : (((Nl.limbs m).length : Int) == 0) = false := by rw [beq_eq_false_iff_ne]; omega
        clear hz
        obtain ⟨w0, hw0⟩ : ∃ w0, w0 = wr := ⟨_, rfl⟩
        obtain ⟨k, rfl⟩ := hw.out
        go_wp2_with (first
          | (go_at_call_of 113 (Value.slice b (Nl.limbs n).length cb); refine (uint_any _ n _ (HB.out.below (below_drewN ..)) (by omega)).mono ?_; rintro e w' ⟨rfl, rfl⟩)
          | (go_at_call_of 113 (Value.slice a (Nl.limbs m).length ca); refine (uint_any _ m _ (HA.out.below (below_drewN ..)) (by omega)).mono ?_; rintro e w' ⟨rfl, rfl⟩))
        refine (divisorOfWords_any n m _ (by omega) (by omega)).mono ?_
        rintro e w2 ⟨rfl, j2, rfl⟩
        go_wp2_with fail
        have hg : Nat.gcd n m < 18446744073709551616 := by
          by_cases h0 : n = 0
          · rw [h0, Nat.gcd_zero_left]; omega
          · exact Nat.lt_of_le_of_lt (Nat.gcd_le_left _ (Nat.pos_of_ne_zero h0)) (by omega)
        refine (fromUint_num _ _ hg).mono ?_
        rintro e w3 ⟨⟨v, rfl, hv⟩, hb3⟩
        have HV := Lib.hid hv
        have HB3 := Lib.hid hb3
        clear hv hb3
        go_wp2_with fail
        go_ret
        refine ⟨⟨v, rfl, ?_⟩, ?_⟩
        · rw [Nat.gcd_comm m n]; exact HV.out.at.at
        · exact (below_drewN w (k + j2) _).trans HB3.out
  · have e0 : decide (0 ≤ cmpI m n) = true := by rw [decide_eq_true_eq, cmpI]; split <;> (try split) <;> omega
    have e00 : 0 ≤ cmpI m n := by rw [cmpI]; split <;> (try split) <;> omega
    clear hlt
    go_enter Tryz.func74, Tryz.ntmps74
    go_wp2_with (go_at_call 62; refine hc.out.mono ?_; rintro e w1 ⟨rfl, j, rfl⟩)
    go_loopw [0, 1] (fun i j wr => i = .slice a (Nl.limbs m).length ca ∧ j = .slice b (Nl.limbs n).length cb ∧ Hid (∃ k, wr = w.drewN k)) (fun _ _ _ => 0)
    case atStart => exact ⟨rfl, rfl, ⟨j, rfl⟩⟩
    case round =>
      obtain ⟨rfl, rfl, hw⟩ := hrel
      have t0 : decide (2 < (Nl.limbs m).length) = false := by rw [decide_eq_false_iff_not]; omega
      by_cases hz : (Nl.limbs n).length = 0
      · have e1 : (((Nl.limbs n).length : Int) == 0) = true := by simp [hz]
        have hz0 := Lib.hid (Nl.len_zero hz)
        clear hz
        go_wp2
        go_ret
        refine ⟨⟨_, rfl, ?_⟩, ?_⟩
        · rw [hz0.out, Nat.gcd_zero_right]
          obtain ⟨k, hk⟩ := hw.out
          rw [hk]
          exact HA.out.below (below_drewN ..)
        · obtain ⟨k, hk⟩ := hw.out
          rw [hk]
          exact below_drewN ..
      · have e1 : (((Nl.limbs n).length : Int) == 0) = false := by rw [beq_eq_false_iff_ne]; omega
        clear hz
        obtain ⟨w0, hw0⟩ : ∃ w0, w0 = wr := ⟨_, rfl⟩
        obtain ⟨k, rfl⟩ := hw.out
        go_wp2_with (first
          | (go_at_call_of 113 (Value.slice a (Nl.limbs m).length ca); refine (uint_any _ m _ (HA.out.below (below_drewN ..)) (by omega)).mono ?_; rintro e w' ⟨rfl, rfl⟩)
          | (go_at_call_of 113 (Value.slice b (Nl.limbs n).length cb); refine (uint_any _ n _ (HB.out.below (below_drewN ..)) (by omega)).mono ?_; rintro e w' ⟨rfl, rfl⟩))
        refine (divisorOfWords_any m n _ (by omega) (by omega)).mono ?_
        rintro e w2 ⟨rfl, j2, rfl⟩
        go_wp2_with fail
        have hg : Nat.gcd m n < 18446744073709551616 := by
          by_cases h0 : m = 0
          · rw [h0, Nat.gcd_zero_left]; omega
          · exact Nat.lt_of_le_of_lt (Nat.gcd_le_left _ (Nat.pos_of_ne_zero h0)) (by omega)
        refine (fromUint_num _ _ hg).mono ?_
        rintro e w3 ⟨⟨v, rfl, hv⟩, hb3⟩
        have HV := Lib.hid hv
        have HB3 := Lib.hid hb3
        clear hv hb3
        go_wp2_with fail
        go_ret
        refine ⟨⟨v, rfl, ?_⟩, ?_⟩
        · exact HV.out.at.at
        · exact (below_drewN w (k + j2) _).trans HB3.out


/-- r is the n-th root of m, rounded down -/
def IsRoot (n m r : Nat) : Prop := r ^ n ≤ m ∧ m < (r + 1) ^ n
theorem len_pow_le {x s n k : Nat} (hx : x ≤ 2 ^ s) (hk : k ≤ n) (hs : s * n ≤ 3000000) : (Nl.limbs (x ^ k)).length ≤ 100000 := by
  have h1 : x ^ k ≤ 2 ^ (s * n) := by
    refine Nat.le_trans (Nat.pow_le_pow_left hx k) ?_
    rw [← Nat.pow_mul]
    exact Nat.pow_le_pow_right (by decide) (Nat.mul_le_mul_left _ hk)
  have h2 : x ^ k < 2 ^ (s * n + 1) := Nat.lt_of_le_of_lt h1 (Nat.pow_lt_pow_right (by decide) (Nat.lt_succ_self _))
  have h3 := len_of_bits h2
  omega

set_option maxHeartbeats 2000000 in
theorem rootByBits_any (va : Value) (m n s : Nat) (w : World) (ha : IsN w va m) (hn : 1 ≤ n) (hn2 : n ≤ 40000) (hs : s ≤ 40000) (hsn : s * n ≤ 3000000) (hbig : m < (2 ^ s) ^ n) :
    Calls Tryz.prog 144 #[va, .int .i64 n, .int .i64 s] w fun e w' => ∃ r, IsRoot n m r ∧ (∃ v, e = .returned v ∧ IsN w' v r) ∧ Below w.heap.size w w' := by
  have HA := Lib.hid ha
  obtain ⟨a, ca, rfl, -⟩ := ha.form
  have HBIG := Lib.hid hbig
  clear ha hbig
  go_enter Tryz.func144, Tryz.ntmps144
  go_wp2_with fail
  go_loopw [7, 8] (fun v i wr => ∃ k r : Nat, k ≤ s ∧ i = .int .i64 ((k : Int) - 1) ∧ Hid (IsN wr v r) ∧ Hid (r ^ n ≤ m ∧ m < (r + 2 ^ k) ^ n ∧ r + 2 ^ k ≤ 2 ^ s) ∧ Hid (Below w.heap.size w wr)) (fun _ i _ => (intOf i + 1).toNat)
  case atStart =>
    refine ⟨s, 0, Nat.le_refl _, by go_num, ?_, ⟨?_, ?_, ?_⟩, Below.refl _ _⟩
    · exact .inl ⟨rfl, Nl.limbs_zero⟩
    · rw [Nat.zero_pow (by omega)]; exact Nat.zero_le _
    · rw [Nat.zero_add]; exact HBIG.out
    · rw [Nat.zero_add]; exact Nat.le_refl _
  case round =>
    obtain ⟨k, r, hk, rfl, hv, hr, hbel⟩ := hrel
    cases k with
    | zero =>
      go_wp2_with fail
      go_ret
      have := hr.out
      rw [Nat.pow_zero] at this
      exact ⟨r, ⟨this.1, this.2.1⟩, ⟨_, rfl, hv.out⟩, hbel.out⟩
    | succ k =>
      rw [show ((k + 1 : Nat) : Int) - 1 = (k : Int) from by omega]
      have hpow : 2 ^ (k + 1) = 2 ^ k + 2 ^ k := by rw [Nat.pow_succ]; omega
      have hr1 := hr.out
      have hk0 := Nat.two_pow_pos k
      rw [hpow] at hr1
      have hnx : r + 2 ^ k ≤ 2 ^ s := by omega
      have hlr : (Nl.limbs r).length ≤ 100000 := by
        have := len_pow_le (x := r) (s := s) (n := n) (k := 1) (by omega) hn hsn
        rwa [Nat.pow_one] at this
      have hl2 : (Nl.limbs (2 ^ k)).length ≤ 100000 := by
        have := len_pow_le (x := 2 ^ k) (s := s) (n := n) (k := 1) (by omega) hn hsn
        rwa [Nat.pow_one] at this
      have hlk : ∀ j, j ≤ n → (Nl.limbs ((r + 2 ^ k) ^ j)).length ≤ 100000 := fun j hj => len_pow_le hnx hj hsn
      have HL := Lib.hid (And.intro hlr (And.intro hl2 hlk))
      have HR := Lib.hid (And.intro hr1 hnx)
      clear hk0 hpow hr hr1 hnx hlr hl2 hlk
      go_wp2_with fail
      refine (wordOf_num 1 wr (by omega)).mono ?_
      rintro e w1 ⟨⟨v1, rfl, o1⟩, b1⟩
      have O1 := Lib.hid (show IsN w1 v1 1 from o1.at.at)
      have B1 := Lib.hid (show Below wr.heap.size wr w1 from b1)
      clear o1 b1
      go_wp2_with fail
      refine (shiftedLeft_any _ 1 k w1 O1.out (by rw [limbs_one (by decide) (by decide)]; simp) (by omega)).mono ?_
      rintro e w2 ⟨⟨v2, rfl, o2⟩, b2⟩
      rw [Nat.one_mul] at o2
      have O2 := Lib.hid o2
      have B2 := Lib.hid (show Below wr.heap.size wr w2 from B1.out.trans (b2.mono B1.out.size))
      clear o2 b2 O1 B1
      go_wp2_with fail
      refine (plus_any _ _ r (2 ^ k) w2 (hv.out.below B2.out) O2.out (by have := HL.out.1; omega) (by have := HL.out.2.1; omega)).mono ?_
      rintro e w3 ⟨⟨v3, rfl, o3⟩, b3⟩
      have O3 := Lib.hid o3
      have B3 := Lib.hid (show Below wr.heap.size wr w3 from B2.out.trans (b3.mono B2.out.size))
      clear o3 b3 O2 B2
      go_wp2_with fail
      refine (power_any _ (r + 2 ^ k) n w3 O3.out hn hn2 HL.out.2.2).mono ?_
      rintro e w4 ⟨⟨v4, rfl, o4⟩, b4⟩
      have O4 := Lib.hid o4
      have B4 := Lib.hid (show Below wr.heap.size wr w4 from B3.out.trans (b4.mono B3.out.size))
      have O3' := Lib.hid (O3.out.below b4)
      clear o4 b4 B3 O3
      go_wp2_with fail
      obtain ⟨P, hP⟩ : ∃ P, P = (r + 2 ^ k) ^ n := ⟨_, rfl⟩
      have O5 : Hid (IsN w4 v4 P) := by rw [hP]; exact O4
      have HP := Lib.hid hP
      clear hP O4
      have hcmp := compare_any _ _ P m w4 O5.out (HA.out.below (hbel.out.trans (B4.out.mono hbel.out.size)))
      refine hcmp.mono ?_
      rintro e w5 ⟨rfl, j, rfl⟩
      clear hcmp
      by_cases hc : P ≤ m
      · have e0 : decide (cmpI P m ≤ 0) = true := by rw [decide_eq_true_eq, cmpI]; split <;> (try split) <;> omega
        have HC := Lib.hid hc
        clear hc
        go_wp2_with fail
        go_roundw
        case rel =>
          refine ⟨k, r + 2 ^ k, by omega, rfl, O3'.out.below (below_drewN ..), ⟨by rw [← HP.out]; exact HC.out, ?_, ?_⟩, (hbel.out.trans (B4.out.mono hbel.out.size)).trans (below_drewN ..)⟩
          · have := HR.out.1.2.1
            rwa [← Nat.add_assoc] at this
          · have := HR.out.1.2.2
            omega
        case measure => simp [intOf] <;> omega
      · have e0 : decide (cmpI P m ≤ 0) = false := by rw [decide_eq_false_iff_not, cmpI]; split <;> (try split) <;> omega
        have HC := Lib.hid hc
        clear hc
        go_wp2_with fail
        go_roundw
        case rel =>
          refine ⟨k, r, by omega, rfl, (hv.out.below B4.out).below (below_drewN ..), ⟨HR.out.1.1, ?_, HR.out.2⟩, (hbel.out.trans (B4.out.mono hbel.out.size)).trans (below_drewN ..)⟩
          rw [← HP.out]
          have := HC.out
          omega
        case measure => simp [intOf] <;> omega


theorem root_size {m n : Nat} (h2 : 1 ≤ n) : m < (2 ^ ((nbits m + n - 1) / n)) ^ n := by
  refine Nat.lt_of_lt_of_le (lt_nbits m) ?_
  rw [← Nat.pow_mul]
  refine Nat.pow_le_pow_right (by decide) ?_
  have h3 := Nat.div_add_mod (nbits m + n - 1) n
  have h4 := Nat.mod_lt (nbits m + n - 1) (show 0 < n by omega)
  rw [Nat.mul_comm]
  omega

/-- what the inner function of roots makes: a root -/
def RootIs (w w' : World) (e : Ending) (n m : Nat) : Prop := ∃ r, IsRoot n m r ∧ (∃ v, e = .returned v ∧ IsN w' v r) ∧ Below w.heap.size w w'

set_option maxHeartbeats 2000000 in
/-- a small root: bit by bit -/
theorem root1_small (va : Value) (m n lost N L T : Nat) (w : World) (ha : IsN w va m) (hla : (Nl.limbs m).length ≤ 1024) (hn : 2 ≤ n) (hn2 : n ≤ 40000)
    (hN : w.cell? ⟨N, 0, none⟩ = some (.int .i64 n)) (hL : w.cell? ⟨L, 0, none⟩ = some (.int .i64 lost)) (hlost : lost ≤ 64)
    (hsm : (nbits m + n - 1) / n < lost + 8) :
    Calls Tryz.prog 143 #[va, .pointer (some ⟨N, 0, none⟩), .pointer (some ⟨L, 0, none⟩), .pointer (some ⟨T, 0, none⟩)] w fun e w' => RootIs w w' e n m := by
  have HA := Lib.hid ha
  have hb := nbits_len m
  have hbits : ∀ k, Calls Tryz.prog 81 #[va] (w.drewN k) fun e w' => e = .returned (.int .i64 (nbits m : Nat)) ∧ w' = w.drewN k := fun k => (bits_any va m _ (ha.below (below_drewN ..)) (by omega)).mono fun _ _ h => ⟨h.1, h.2.symm⟩
  have HBI := Lib.hid hbits
  obtain ⟨B, hB⟩ : ∃ B, B = nbits m := ⟨_, rfl⟩
  obtain ⟨s, hs⟩ : ∃ s, s = (nbits m + n - 1) / n := ⟨_, rfl⟩
  have hsz := root_size (m := m) (n := n) (by omega)
  rw [← hs] at hsz hsm
  have hsn : s * n ≤ 3000000 := by
    have := Nat.div_mul_le_self (nbits m + n - 1) n
    rw [← hs] at this
    omega
  have hs' : ((B : Int) + n - 1) / (n : Int) = (s : Int) := by
    rw [hs, hB, show ((nbits m : Int) + n - 1) = ((nbits m + n - 1 : Nat) : Int) by omega, Int.natCast_ediv]
  have hn0 : ((n : Int) == 0) = false := by rw [beq_eq_false_iff_ne]; omega
  have hn1 : ¬ (n : Int) = 0 := by omega
  have hn3 : ¬ n = 0 := by omega
  have hBl : B ≤ 40000 := by omega
  have e1 : decide ((s : Int) < (lost : Int) + 8) = true := by rw [decide_eq_true_eq]; omega
  rw [← hB] at HBI
  have hw1 : IntKind.i64.wrap ((B : Int) + n) = B + n := by rw [IntKind.wrap_i64]; omega
  have hw2 : IntKind.i64.wrap ((B : Int) + n - 1) = B + n - 1 := by rw [IntKind.wrap_i64]; omega
  have HS := Lib.hid (And.intro hsz hsn)
  obtain ⟨a, ca, rfl, -⟩ := ha.form
  clear ha hbits hb hsz hsn hs hB
  go_enter Tryz.func143, Tryz.ntmps143
  go_upto_region 1 with fail
  go_quiet ((go_at_call 81; exact Calls.quiet_of_same (HBI.out _)))
  rw [hs']
  go_wp2_with fail
  refine (rootByBits_any _ m n s _ (HA.out.below (below_drewN ..)) (by omega) hn2 (by omega) HS.out.2 HS.out.1).mono ?_
  rintro e w1 ⟨r, hr, ⟨v, rfl, hv⟩, hb1⟩
  have HR := Lib.hid hr
  have HV := Lib.hid hv
  have HB := Lib.hid (show Below w.heap.size w w1 from (below_drewN w nq _).trans hb1)
  clear hr hv hb1
  go_wp2_with fail
  go_ret
  exact ⟨r, HR.out, ⟨v, rfl, HV.out⟩, HB.out⟩

theorem bitLen_small (n : Nat) (hn : n ≤ 40000) : Lib.bitLen n ≤ 16 := Lib.bitLen_le n 16 (by omega) (by omega)

set_option maxHeartbeats 2000000 in
/-- a root that is found bit by bit -/
theorem root_small (va : Value) (m n : Nat) (w : World) (ha : IsN w va m) (hla : (Nl.limbs m).length ≤ 1024) (hn : 2 ≤ n) (hn2 : n ≤ 40000) (hsm : (nbits m + n - 1) / n < Lib.bitLen n + 8) :
    Calls Tryz.prog 114 #[va, .int .i64 n] w fun e w' => RootIs w w' e n m := by
  have hmf : ∀ (fn : Fn) (first cap : Array Value) (w : World), (Instr.makeFunc fn first cap).run Tryz.prog w = .ok (.func fn first cap) w := fun _ _ _ _ => rfl
  have HA := Lib.hid ha
  have hbl := bitLen_small n hn2
  obtain ⟨l, hl⟩ : ∃ l, l = Lib.bitLen n := ⟨_, rfl⟩
  rw [← hl] at hsm hbl
  have hlen : ∀ w, Calls Tryz.prog 132 #[.int .u64 n] w fun e w' => e = .returned (.int .i64 (l : Nat)) ∧ w = w' := fun w => by
    have := len_any (n : Int) w (by omega) (by omega)
    rwa [Int.toNat_natCast, ← hl] at this
  have HLEN := Lib.hid hlen
  obtain ⟨a, ca, rfl, -⟩ := ha.form
  have HSM := Lib.hid (And.intro hsm hl)
  clear ha hlen hsm hl
  go_enter Tryz.func114, Tryz.ntmps114
  go_wp2_with (go_at_call 132; refine (HLEN.out _).mono ?_; rintro e w' ⟨rfl, rfl⟩)
  obtain ⟨W, hW⟩ : ∃ W, W = ((w.alloc (.cells #[.int .i64 n] 3)).alloc (.cells #[.int .i64 l] 3)).alloc (.cells #[.func (.func 143) #[] #[.pointer (some ⟨w.heap.size, 0, none⟩), .pointer (some ⟨w.heap.size + 1, 0, none⟩), .pointer (some ⟨w.heap.size + 1 + 1, 0, none⟩)]] 70) := ⟨_, rfl⟩
  rw [← hW]
  have hbW : Below w.heap.size w W := by rw [hW]; exact (((Below.refl _ _).alloc (Nat.le_refl _) _).alloc (by simp) _).alloc (by simp; omega) _
  have c1 : W.cell? ⟨w.heap.size, 0, none⟩ = some (.int .i64 n) := by
    rw [hW]; exact cell_of_one ((Below.heap_alloc _ _ _ (by simp; omega)).trans (heap_alloc2_old w _ _))
  have c2 : W.cell? ⟨w.heap.size + 1, 0, none⟩ = some (.int .i64 l) := by
    rw [hW]; exact cell_of_one ((Below.heap_alloc _ _ _ (by simp)).trans (heap_alloc2_new w _ _))
  clear hW
  refine (root1_small _ m n l w.heap.size (w.heap.size + 1) (w.heap.size + 1 + 1) W (HA.out.below hbW) hla hn hn2 c1 c2 (by omega) HSM.out.1).mono ?_
  rintro e w1 ⟨r, hr, ⟨v, rfl, hv⟩, hb1⟩
  have HR := Lib.hid hr
  have HV := Lib.hid hv
  have HB := Lib.hid (show Below w.heap.size w w1 from hbW.trans (hb1.mono hbW.size))
  clear hr hv hb1 hbW c1 c2
  go_wp2_with fail
  go_ret
  exact ⟨r, HR.out, ⟨v, rfl, HV.out⟩, HB.out⟩

theorem root_unique {n m q r : Nat} (_hn : 1 ≤ n) (hq : IsRoot n m q) (hr : IsRoot n m r) : q = r := by
  have h1 : q < r + 1 := Nat.lt_of_not_le fun h => absurd (Nat.pow_le_pow_left h n) (by have := hq.1; have := hr.2; omega)
  have h2 : r < q + 1 := Nat.lt_of_not_le fun h => absurd (Nat.pow_le_pow_left h n) (by have := hr.1; have := hq.2; omega)
  omega
theorem root_exists {n : Nat} (hn : 1 ≤ n) (m : Nat) : ∃ q, IsRoot n m q := by
  induction m with
  | zero => exact ⟨0, by rw [IsRoot, Nat.zero_pow (by omega), Nat.zero_add, Nat.one_pow]; omega⟩
  | succ m ih =>
    obtain ⟨q, h1, h2⟩ := ih
    by_cases h : (q + 1) ^ n ≤ m + 1
    · refine ⟨q + 1, h, ?_⟩
      have : (q + 1) ^ n < (q + 1 + 1) ^ n := Nat.pow_lt_pow_left (Nat.lt_succ_self _) (by omega)
      omega
    · exact ⟨q, by omega, by omega⟩
theorem isRoot_one (m : Nat) : IsRoot 1 m m := by rw [IsRoot, Nat.pow_one, Nat.pow_one]; omega
theorem isRoot_small {m n : Nat} (hn : 1 ≤ n) (hm : m < 2) : IsRoot n m m ∧ m ^ n = m := by
  have : m = 0 ∨ m = 1 := by omega
  rcases this with rfl | rfl
  · rw [IsRoot, Nat.zero_pow (by omega), Nat.zero_add, Nat.one_pow]; omega
  · have : 2 ^ 1 ≤ 2 ^ n := Nat.pow_le_pow_right (by decide) hn
    refine ⟨⟨Nat.le_of_eq (Nat.one_pow n), ?_⟩, Nat.one_pow n⟩
    show 1 < 2 ^ n
    omega
theorem isRoot_big {m n : Nat} (hm : 2 ≤ m) (h : nbits m ≤ n) : IsRoot n m 1 := by
  rw [IsRoot, Nat.one_pow]
  exact ⟨by omega, Nat.lt_of_lt_of_le (lt_nbits m) (Nat.pow_le_pow_right (by decide) h)⟩

set_option maxHeartbeats 2000000 in
/-- a root and its rest, given what the inner function finds -/
theorem rootAndRest_of (va : Value) (m n q : Nat) (w : World) (ha : IsN w va m) (hla : (Nl.limbs m).length ≤ 1024) (hn : 1 ≤ n) (hn2 : n ≤ 9223372036854775807) (hq : IsRoot n m q)
    (hroot : 2 ≤ n → n < nbits m → ∀ w', Below w.heap.size w w' → Calls Tryz.prog 114 #[va, .int .i64 n] w' fun e w'' => RootIs w' w'' e n m) :
    Calls Tryz.prog 78 #[va, .int .i64 n] w fun e w' => RootOk w w' e q (m - q ^ n) := by
  have HA := Lib.hid ha
  have HROOT := Lib.hid hroot
  have HQ := Lib.hid hq
  have ht := belowTwo_any va m w ha
  have hnb := nbits_len m
  have hbits := Lib.hid (bits_any va m w ha (by omega))
  obtain ⟨a, ca, rfl, -⟩ := ha.form
  clear ha hroot hq
  by_cases h1 : n = 1 ∨ m < 2
  · have hqm : q = m ∧ m - q ^ n = 0 := by
      rcases h1 with rfl | h1
      · have := root_unique hn HQ.out (isRoot_one m)
        rw [this, Nat.pow_one]; omega
      · have := root_unique hn HQ.out (isRoot_small hn h1).1
        rw [this, (isRoot_small hn h1).2]; omega
    rw [hqm.2, hqm.1]
    clear hqm
    by_cases h2 : n = 1
    · have e0 : ((n : Int) == 1) = true := by simp [h2]
      clear h1 h2 ht
      go_enter Tryz.func78, Tryz.ntmps78
      go_wp2_with fail
      go_ret2
      exact ⟨⟨_, _, rfl, HA.out, .inl ⟨rfl, Nl.limbs_zero⟩⟩, Below.refl _ _⟩
    · have e0 : ((n : Int) == 1) = false := by rw [beq_eq_false_iff_ne]; omega
      rw [show decide (m < 2) = true from decide_eq_true (by omega)] at ht
      have HT := Lib.hid ht
      clear h1 h2 ht
      go_enter Tryz.func78, Tryz.ntmps78
      go_wp2_with (go_at_call 105; refine HT.out.mono ?_; rintro e w' ⟨rfl, rfl⟩)
      go_ret2
      exact ⟨⟨_, _, rfl, HA.out, .inl ⟨rfl, Nl.limbs_zero⟩⟩, Below.refl _ _⟩
  · have e0 : ((n : Int) == 1) = false := by rw [beq_eq_false_iff_ne]; omega
    have hm2 : 2 ≤ m := by omega
    have hn22 : 2 ≤ n := by omega
    rw [show decide (m < 2) = false from decide_eq_false (by omega)] at ht
    have HT := Lib.hid ht
    have HM := Lib.hid hm2
    obtain ⟨B, hB⟩ : ∃ B, B = nbits m := ⟨_, rfl⟩
    rw [← hB] at hbits hnb
    have HBB := Lib.hid hB
    clear h1 ht hm2 hB
    by_cases h3 : B ≤ n
    · have e1 : decide ((B : Int) ≤ n) = true := by rw [decide_eq_true_eq]; omega
      have e2 : decide (B ≤ n) = true := decide_eq_true h3
      have hq1 : q = 1 := root_unique hn HQ.out (isRoot_big HM.out (by rw [← HBB.out]; exact h3))
      rw [hq1, Nat.one_pow]
      clear hq1 h3
      go_enter Tryz.func78, Tryz.ntmps78
      go_wp2_with (first | (go_at_call 105; refine HT.out.mono ?_; rintro e w' ⟨rfl, rfl⟩) | (go_at_call 81; refine hbits.out.mono ?_; rintro e w' ⟨rfl, rfl⟩))
      refine (wordOf_num 1 _ (by omega)).mono ?_
      rintro e w1 ⟨⟨v1, rfl, o1⟩, b1⟩
      have O1 := Lib.hid (show IsN w1 v1 1 from o1.at.at)
      have B1 := Lib.hid b1
      clear o1 b1
      go_wp2_with fail
      refine (wordOf_num 1 _ (by omega)).mono ?_
      rintro e w2 ⟨⟨v2, rfl, o2⟩, b2⟩
      have O2 := Lib.hid (show IsN w2 v2 1 from o2.at.at)
      have O1' := Lib.hid (O1.out.below b2)
      have B2 := Lib.hid (B1.out.trans (b2.mono B1.out.size))
      clear o2 b2 O1 B1
      go_wp2_with fail
      refine (minus_any _ _ m 1 _ (HA.out.below B2.out) O2.out (by omega) (by have := HM.out; omega)).mono ?_
      rintro e w3 ⟨⟨v3, rfl, o3⟩, b3⟩
      have O3 := Lib.hid o3
      have B3 := Lib.hid (B2.out.trans (b3.mono B2.out.size))
      have O1'' := Lib.hid (O1'.out.below b3)
      clear o3 b3 B2 O1'
      go_wp2_with fail
      go_ret2
      exact ⟨⟨_, _, rfl, O1''.out, O3.out⟩, B3.out⟩
    · have e1 : decide ((B : Int) ≤ n) = false := by rw [decide_eq_false_iff_not]; omega
      have e2 : decide (B ≤ n) = false := decide_eq_false h3
      have hc := Lib.hid (HROOT.out hn22 (by rw [← HBB.out]; omega))
      have HNB := Lib.hid (Nat.lt_of_not_le h3)
      have hn40 : n ≤ 40000 := by omega
      clear h3
      go_enter Tryz.func78, Tryz.ntmps78
      go_wp2_with (first | (go_at_call 105; refine HT.out.mono ?_; rintro e w' ⟨rfl, rfl⟩) | (go_at_call 81; refine hbits.out.mono ?_; rintro e w' ⟨rfl, rfl⟩))
      refine (hc.out _ (Below.refl _ _)).mono ?_
      rintro e w1 ⟨r, hr, ⟨v, rfl, hv⟩, hb1⟩
      obtain rfl := root_unique hn HQ.out hr
      have HV := Lib.hid hv
      have HB1 := Lib.hid hb1
      clear hr hv hb1
      have hpl : ∀ k, k ≤ n → (Nl.limbs (q ^ k)).length ≤ 100000 := fun k hk => by
        have h1 : q ^ k ≤ m := by
          have hq0 : 0 < q := Nat.pos_of_ne_zero fun h => by
            have := HQ.out.2
            rw [h, Nat.zero_add, Nat.one_pow] at this
            have := HM.out
            omega
          exact Nat.le_trans (Nat.pow_le_pow_right hq0 hk) HQ.out.1
        exact Nat.le_trans (Nl.limbs_mono h1) (by omega)
      have HPL := Lib.hid hpl
      clear hpl
      go_wp2_with fail
      refine (power_any _ q n _ HV.out hn hn40 HPL.out).mono ?_
      rintro e w2 ⟨⟨v2, rfl, o2⟩, b2⟩
      have O2 := Lib.hid o2
      have HV2 := Lib.hid (HV.out.below b2)
      have B2 := Lib.hid (HB1.out.trans (b2.mono HB1.out.size))
      clear o2 b2 HV HB1
      go_wp2_with fail
      refine (minus_any _ _ m (q ^ n) _ (HA.out.below B2.out) O2.out (by omega) HQ.out.1).mono ?_
      rintro e w3 ⟨⟨v3, rfl, o3⟩, b3⟩
      have O3 := Lib.hid o3
      have B3 := Lib.hid (B2.out.trans (b3.mono B2.out.size))
      have HV3 := Lib.hid (HV2.out.below b3)
      clear o3 b3 B2 HV2
      go_wp2_with fail
      go_ret2
      exact ⟨⟨_, _, rfl, HV3.out, O3.out⟩, B3.out⟩
end Go.Proofs.YtfaledeidjmooaaGreat
