/-
  NatProducts returns true for any two slices and any exponent. Conditions: those that each theorem names.
-/
import Derived.Test.YtfaledeidjmooaaGreatNatShifts
import Derived.Test.YtfaledeidjmooaaGreatRefPow
import Derived.Test.YtfaledeidjmooaaGreatRoads
namespace Go.Proofs.YtfaledeidjmooaaGreat
open Go.RowKit

theorem mul_large {m n K : Nat} (hm : m ≠ 0) (hn : n ≠ 0) (h : K + 1 < (Nl.limbs m).length + (Nl.limbs n).length) : K < (Nl.limbs (m * n)).length := by
  apply Classical.byContradiction
  intro hc
  have h1 : m * n < 4294967296 ^ K := Nat.lt_of_lt_of_le (Nl.lt_limbs (m * n)) (Nl.pow_le (Nat.le_of_not_lt hc))
  have h2 := Nat.mul_le_mul (Nl.limbs_le hm) (Nl.limbs_le hn)
  rw [← Nat.pow_add] at h2
  have h3 : 4294967296 ^ K ≤ 4294967296 ^ ((Nl.limbs m).length - 1 + ((Nl.limbs n).length - 1)) := Nl.pow_le (by have := Nl.len_pos hm; have := Nl.len_pos hn; omega)
  exact Nat.lt_irrefl _ (Nat.lt_of_lt_of_le h1 (Nat.le_trans h3 h2))
theorem mul_isB (m n : Nat) : isB (numOf true (mulK 0 0 m n) (m * n)) (errOf true (mulK 0 0 m n) (m * n)) (Nl.limbs (m * n)) = true := by
  refine isB_code true _ _ rfl fun hk => ?_
  have h2 : ¬ ((0 : Int) ≠ 0 ∧ cutB 0 = false) := by decide
  rw [mulK, if_neg h2] at hk ⊢
  by_cases hc : m = 0 ∨ n = 0 ∨ (Nl.limbs m).length + (Nl.limbs n).length ≤ 1025
  · rw [if_pos hc] at hk; exact absurd rfl hk
  · rw [if_neg hc]
    exact ⟨rfl, mul_large (K := 1024) (fun h => hc (.inl h)) (fun h => hc (.inr (.inl h))) (Nat.lt_of_not_le fun h => hc (.inr (.inr h)))⟩

theorem pow_large {m n K : Nat} (hm : 2 ≤ m) (h : 32 * K ≤ n * (nbits m - 1)) : K < (Nl.limbs (m ^ n)).length := by
  apply Classical.byContradiction
  intro hc
  have h1 := lt_pow_len (Nat.le_of_not_lt hc)
  have h2 : (2 ^ (nbits m - 1)) ^ n ≤ m ^ n := Nat.pow_le_pow_left (nbits_le (by omega)) n
  rw [← Nat.pow_mul] at h2
  have h4 : 2 ^ (32 * K) ≤ 2 ^ ((nbits m - 1) * n) := Nat.pow_le_pow_right (by decide) (by rw [Nat.mul_comm (nbits m - 1)]; exact h)
  exact Nat.lt_irrefl _ (Nat.lt_of_lt_of_le h1 (Nat.le_trans h4 h2))
theorem powK_large {m : Nat} {n : Int} (h0 : 0 ≤ n) (hk : powK m n ≠ 0) : powK m n = 2 ∧ 1024 < (Nl.limbs (m ^ n.toNat)).length := by
  rw [powK, if_pos h0] at hk ⊢
  by_cases hc : n ≠ 0 ∧ 2 ≤ m ∧ 32767 / (nbits m - 1) < n.toNat
  · rw [if_pos hc]
    refine ⟨rfl, pow_large (K := 1024) hc.2.1 ?_⟩
    have h3 : 32767 < n.toNat * (nbits m - 1) := (Nat.div_lt_iff_lt_mul (by have := nbits_two hc.2.1; omega)).1 hc.2.2
    omega
  · rw [if_neg hc] at hk; exact absurd rfl hk
theorem pow_isB {m : Nat} {n : Int} (h0 : 0 ≤ n) : isB (numOf true (powK m n) (m ^ n.toNat)) (errOf true (powK m n) (m ^ n.toNat)) (Nl.limbs (m ^ n.toNat)) = true :=
  isB_code true _ _ rfl fun hk => powK_large h0 hk
theorem pow_not {m : Nat} {n : Int} (h0 : 0 ≤ n) (hf : ¬ (Nl.limbs (m ^ n.toNat)).length ≤ 1024) : errOf true (powK m n) (m ^ n.toNat) = 2 := by
  by_cases hk : powK m n = 0
  · rw [hk, errOf_ok, codeOf, if_neg (by decide), if_neg hf]
  · rw [(powK_large h0 hk).1, errOf_err _ (by decide)]; rfl

set_option maxRecDepth 10000 in
set_option maxHeartbeats 4000000 in
/-- the road of lists that are not too heavy -/
theorem natProducts_light (va vb : Value) (xs ys : List Nat) (n : Int) (w : World) (ha : At w va xs) (hb : At w vb ys) (hsx : Nl.Small xs) (hsy : Nl.Small ys) (hn1 : -9223372036854775808 ≤ n) (hn2 : n ≤ 9223372036854775807)
    (hla : xs.length ≤ 1100) (hlb : ys.length ≤ 1100) (hg : (decide ((xs.length : Int) > 20) = false) ∨ (decide ((xs.length : Int) > 20) = true ∧ decide (n > 60) = false)) :
    Calls Tryz.prog 4 #[va, vb, .int .i64 n] w fun e w' => e = .returned (.bool true) ∧ Below w.heap.size w w' := by
  have HA := Lib.hid ha
  have HB := Lib.hid hb
  have HL1 := light_any va xs 1100 w ha
  have HL2 := light_any vb ys 1100 w hb
  rw [decide_eq_true hla] at HL1
  rw [decide_eq_true hlb] at HL2
  have HL1' := Lib.hid HL1
  have HL2' := Lib.hid HL2
  have HLL := Lib.hid (And.intro hla hlb)
  obtain ⟨a, ca, rfl, -⟩ := ha.form
  obtain ⟨b, cb, rfl, -⟩ := hb.form
  clear ha hb HL1 HL2 hla hlb
  obtain ⟨c1, hc1⟩ : ∃ c, c = errOf (validB xs && validB ys) (mulK 0 0 (Nl.val xs) (Nl.val ys)) (Nl.val xs * Nl.val ys) := ⟨_, rfl⟩
  obtain ⟨z1, hz1⟩ : ∃ c, c = numOf (validB xs && validB ys) (mulK 0 0 (Nl.val xs) (Nl.val ys)) (Nl.val xs * Nl.val ys) := ⟨_, rfl⟩
  obtain ⟨c2, hc2⟩ : ∃ c, c = errOf (validB xs) (powK (Nl.val xs) n) (Nl.val xs ^ n.toNat) := ⟨_, rfl⟩
  obtain ⟨z2, hz2⟩ : ∃ c, c = numOf (validB xs) (powK (Nl.val xs) n) (Nl.val xs ^ n.toNat) := ⟨_, rfl⟩
  have C1 := Lib.hid hc1
  have Z1 := Lib.hid hz1
  have C2 := Lib.hid hc2
  have Z2 := Lib.hid hz2
  clear hc1 hz1 hc2 hz2
  have hstart : ∀ {Q : Prop}, (decide ((xs.length : Int) > 20) = false → Q) → (decide ((xs.length : Int) > 20) = true → decide (n > 60) = false → Q) → Q := fun f g => hg.elim f fun h => g h.1 h.2
  clear hg
  refine hstart (fun t20 => ?_) (fun t20 t60 => ?_)
  all_goals clear hstart
  all_goals
    go_enter Tryz.func4, Tryz.ntmps4
    go_wp2_with (first
      | (go_at_call_of 17 (Value.slice a xs.length ca); refine HL1'.out.mono ?_; rintro e w' ⟨rfl, rfl⟩)
      | (go_at_call_of 17 (Value.slice b ys.length cb); refine HL2'.out.mono ?_; rintro e w' ⟨rfl, rfl⟩))
    go_at_call 27
    refine (mul_any _ _ xs ys w HA.out HB.out hsx hsy).mono ?_
    rintro e w1 hr
    have hr := hr.gives
    rw [mulK_80, ← C1.out, ← Z1.out] at hr
    obtain ⟨v1, rfl, hv1, hb1⟩ := hr
    have V1 := Lib.hid hv1
    have B1 := Lib.hid hb1
    clear hv1 hb1 HL1' HL2'
    go_wp2_with fail
    go_at_call 28
    refine (pow_any _ xs n w1 (HA.out.below B1.out) hsx hn1 hn2).mono ?_
    rintro e w2 hr
    have hr := hr.gives
    rw [← C2.out, ← Z2.out] at hr
    obtain ⟨v2, rfl, hv2, hb2⟩ := hr
    have V2 := Lib.hid hv2
    have V12 := Lib.hid (V1.out.below hb2)
    have B2 := Lib.hid (B1.out.trans (hb2.mono B1.out.size))
    have HV := Lib.hid (refValid_any _ xs w2 (HA.out.below B2.out))
    clear hv2 hb2 V1 B1
    by_cases hv : validB xs = true
    · have hv' := HV.out
      rw [hv] at hv'
      have HV' := Lib.hid hv'
      have HVX := Lib.hid hv
      have HLE := Lib.hid (validB_eq hsx hv)
      have hc2 := C2.out
      have hz2 := Z2.out
      rw [hv] at hc2 hz2
      have C2' := Lib.hid hc2
      have Z2' := Lib.hid hz2
      clear hv' HV hc2 hz2 C2 Z2 hv
      by_cases h0 : n < 0
      · have t0 : decide (n < 0) = true := decide_eq_true h0
        have k2 : c2 = 1 := by rw [C2'.out, powK, if_neg (by omega), errOf_arg]
        have y2 : z2 = [] := by rw [Z2'.out]; exact numOf_bad (by rw [← C2'.out, k2]; decide)
        clear C2' Z2'
        subst k2 y2
        have R2 := Lib.hid (refused_yes v2 1 w2 V2.out)
        have V1k := Lib.hid V12.out
        clear V2 V12
        go_wp2_with (first
          | (go_at_call_of 21 (Value.slice a xs.length ca); refine HV'.out.mono ?_; rintro e w' ⟨rfl, rfl⟩)
          | (go_at_call 22; refine R2.out.mono ?_; rintro e w' ⟨rfl, rfl⟩))
        go_at_call 21
        by_cases hvb : validB ys = true
        · have hb' := refValid_any _ ys w2 (HB.out.below B2.out)
          rw [hvb] at hb'
          have HVB := Lib.hid hb'
          have hc1 := C1.out
          have hz1 := Z1.out
          rw [HVX.out, hvb, Bool.and_true] at hc1 hz1
          have hi1 : isB z1 c1 (Nl.limbs (Nl.val xs * Nl.val ys)) = true := by
            rw [hc1, hz1]; exact mul_isB _ _
          have I1 := Lib.hid hi1
          have HS := Lib.hid (sanity_any w2)
          clear hb' hc1 hz1 hi1 C1 Z1 hvb
          go_wp2_with (go_at_call_of 21 (Value.slice b ys.length cb); refine HVB.out.mono ?_; rintro e w' ⟨rfl, rfl⟩)
          go_at_call 18
          refine HS.out.mono ?_
          rintro e w13 ⟨rfl, hb13⟩
          have V13 := Lib.hid (V1k.out.below hb13)
          have B13 := Lib.hid (B2.out.trans (hb13.mono B2.out.size))
          have HML := Lib.hid (refMul_any _ _ xs ys w13 (HA.out.below B13.out) (HB.out.below B13.out) hsx hsy (by have := HLL.out; omega) (by have := HLL.out; omega))
          clear hb13 HS V1k HVB
          go_wp2_with fail
          go_at_call 30
          refine HML.out.mono ?_
          rintro e w14 ⟨⟨u, rfl, hu⟩, hb14⟩
          have IS := Lib.hid (is_yes (V13.out.below hb14) hu I1.out)
          have B14 := Lib.hid (B13.out.trans (hb14.mono B13.out.size))
          clear hu hb14 HML V13
          go_wp2_with fail
          go_at_call 24
          refine IS.out.mono ?_
          rintro e w15 ⟨rfl, hb15⟩
          have B15 := Lib.hid (B14.out.trans (hb15.mono B14.out.size))
          clear hb15 IS
          go_wp2_with fail
          go_ret
          exact ⟨rfl, B15.out⟩
        · have hvf : validB ys = false := by simpa using hvb
          have hb' := refValid_any _ ys w2 (HB.out.below B2.out)
          rw [hvf] at hb'
          have HVB := Lib.hid hb'
          have hc1 := C1.out
          rw [hvf, Bool.and_false] at hc1
          have k1 : c1 = 1 := by rw [hc1]; rfl
          have hz1 := Z1.out
          rw [hvf, Bool.and_false] at hz1
          have y1 : z1 = [] := by rw [hz1]; rfl
          have HS := Lib.hid (sanity_any w2)
          clear hb' hc1 hz1 C1 Z1 hvb hvf
          subst k1 y1
          go_wp2_with (go_at_call_of 21 (Value.slice b ys.length cb); refine HVB.out.mono ?_; rintro e w' ⟨rfl, rfl⟩)
          go_at_call 18
          refine HS.out.mono ?_
          rintro e w13 ⟨rfl, hb13⟩
          have R1 := Lib.hid (refused_yes v1 1 w13 (V1k.out.below hb13))
          have B13 := Lib.hid (B2.out.trans (hb13.mono B2.out.size))
          clear hb13 HS V1k HVB
          go_wp2_with (go_at_call 22; refine R1.out.mono ?_; rintro e w' ⟨rfl, rfl⟩)
          go_ret
          exact ⟨rfl, B13.out⟩
      · have t0 : decide (n < 0) = false := decide_eq_false h0
        obtain ⟨j, rfl⟩ : ∃ j : Nat, n = j := ⟨n.toNat, by omega⟩
        have hat : At w2 (.slice a xs.length ca) (Nl.limbs (Nl.val xs)) := by rw [← HLE.out.1]; exact HA.out.below B2.out
        have HPW := refPow_any _ (Nl.val xs) j w2 hat (by rw [← HLE.out.1]; have := HLL.out; omega) (by omega)
        by_cases hf : (Nl.limbs (Nl.val xs ^ j)).length ≤ 1024
        · have hi2 : isB z2 c2 (Nl.limbs (Nl.val xs ^ j)) = true := by
            have := pow_isB (m := Nl.val xs) (n := (j : Int)) (by omega)
            rw [← C2'.out, ← Z2'.out, Int.toNat_natCast] at this
            exact this
          have I2 := Lib.hid hi2
          have HF := Lib.hid hf
          have HP := Lib.hid HPW
          clear hi2 hf HPW hat C2' Z2'
          go_wp2_with (go_at_call_of 21 (Value.slice a xs.length ca); refine HV'.out.mono ?_; rintro e w' ⟨rfl, rfl⟩)
          go_at_call 29
          refine HP.out.mono ?_
          rintro e w3 ⟨⟨u, rfl, hu⟩, hb3⟩
          rw [decide_eq_true HF.out]
          have IS := Lib.hid (is_yes (V2.out.below hb3) (hu HF.out) I2.out)
          have V13 := Lib.hid (V12.out.below hb3)
          have B3 := Lib.hid (B2.out.trans (hb3.mono B2.out.size))
          clear hu hb3 HP V2 V12
          go_wp2_with fail
          go_at_call 24
          refine IS.out.mono ?_
          rintro e w4 ⟨rfl, hb4⟩
          have V1k := Lib.hid (V13.out.below hb4)
          have B4 := Lib.hid (B3.out.trans (hb4.mono B3.out.size))
          clear hb4 IS V13 B3
          go_wp2_with fail
          go_at_call 21
          by_cases hvb : validB ys = true
          · have hb' := refValid_any _ ys w4 (HB.out.below B4.out)
            rw [hvb] at hb'
            have HVB := Lib.hid hb'
            have hc1 := C1.out
            have hz1 := Z1.out
            rw [HVX.out, hvb, Bool.and_true] at hc1 hz1
            have hi1 : isB z1 c1 (Nl.limbs (Nl.val xs * Nl.val ys)) = true := by
              rw [hc1, hz1]; exact mul_isB _ _
            have I1 := Lib.hid hi1
            have HS := Lib.hid (sanity_any w4)
            clear hb' hc1 hz1 hi1 C1 Z1 hvb
            go_wp2_with (go_at_call_of 21 (Value.slice b ys.length cb); refine HVB.out.mono ?_; rintro e w' ⟨rfl, rfl⟩)
            go_at_call 18
            refine HS.out.mono ?_
            rintro e w13 ⟨rfl, hb13⟩
            have V13 := Lib.hid (V1k.out.below hb13)
            have B13 := Lib.hid (B4.out.trans (hb13.mono B4.out.size))
            have HML := Lib.hid (refMul_any _ _ xs ys w13 (HA.out.below B13.out) (HB.out.below B13.out) hsx hsy (by have := HLL.out; omega) (by have := HLL.out; omega))
            clear hb13 HS V1k HVB
            go_wp2_with fail
            go_at_call 30
            refine HML.out.mono ?_
            rintro e w14 ⟨⟨u, rfl, hu⟩, hb14⟩
            have IS := Lib.hid (is_yes (V13.out.below hb14) hu I1.out)
            have B14 := Lib.hid (B13.out.trans (hb14.mono B13.out.size))
            clear hu hb14 HML V13
            go_wp2_with fail
            go_at_call 24
            refine IS.out.mono ?_
            rintro e w15 ⟨rfl, hb15⟩
            have B15 := Lib.hid (B14.out.trans (hb15.mono B14.out.size))
            clear hb15 IS
            go_wp2_with fail
            go_ret
            exact ⟨rfl, B15.out⟩
          · have hvf : validB ys = false := by simpa using hvb
            have hb' := refValid_any _ ys w4 (HB.out.below B4.out)
            rw [hvf] at hb'
            have HVB := Lib.hid hb'
            have hc1 := C1.out
            rw [hvf, Bool.and_false] at hc1
            have k1 : c1 = 1 := by rw [hc1]; rfl
            have hz1 := Z1.out
            rw [hvf, Bool.and_false] at hz1
            have y1 : z1 = [] := by rw [hz1]; rfl
            have HS := Lib.hid (sanity_any w4)
            clear hb' hc1 hz1 C1 Z1 hvb hvf
            subst k1 y1
            go_wp2_with (go_at_call_of 21 (Value.slice b ys.length cb); refine HVB.out.mono ?_; rintro e w' ⟨rfl, rfl⟩)
            go_at_call 18
            refine HS.out.mono ?_
            rintro e w13 ⟨rfl, hb13⟩
            have R1 := Lib.hid (refused_yes v1 1 w13 (V1k.out.below hb13))
            have B13 := Lib.hid (B4.out.trans (hb13.mono B4.out.size))
            clear hb13 HS V1k HVB
            go_wp2_with (go_at_call 22; refine R1.out.mono ?_; rintro e w' ⟨rfl, rfl⟩)
            go_ret
            exact ⟨rfl, B13.out⟩
        · have k2 : c2 = 2 := by
            have := pow_not (m := Nl.val xs) (n := (j : Int)) (by omega) (by rw [Int.toNat_natCast]; exact hf)
            rw [← C2'.out] at this
            exact this
          have y2 : z2 = [] := by rw [Z2'.out]; exact numOf_bad (by rw [← C2'.out, k2]; decide)
          have HF := Lib.hid hf
          have HP := Lib.hid HPW
          clear hf HPW hat C2' Z2'
          subst k2 y2
          go_wp2_with (go_at_call_of 21 (Value.slice a xs.length ca); refine HV'.out.mono ?_; rintro e w' ⟨rfl, rfl⟩)
          go_at_call 29
          refine HP.out.mono ?_
          rintro e w3 ⟨⟨u, rfl, hu⟩, hb3⟩
          rw [decide_eq_false HF.out]
          have R2 := Lib.hid (refused_yes v2 2 w3 (V2.out.below hb3))
          have V1k := Lib.hid (V12.out.below hb3)
          have B3 := Lib.hid (B2.out.trans (hb3.mono B2.out.size))
          clear hu hb3 HP V2 V12
          go_wp2_with (go_at_call 22; refine R2.out.mono ?_; rintro e w' ⟨rfl, rfl⟩)
          go_at_call 21
          by_cases hvb : validB ys = true
          · have hb' := refValid_any _ ys w3 (HB.out.below B3.out)
            rw [hvb] at hb'
            have HVB := Lib.hid hb'
            have hc1 := C1.out
            have hz1 := Z1.out
            rw [HVX.out, hvb, Bool.and_true] at hc1 hz1
            have hi1 : isB z1 c1 (Nl.limbs (Nl.val xs * Nl.val ys)) = true := by
              rw [hc1, hz1]; exact mul_isB _ _
            have I1 := Lib.hid hi1
            have HS := Lib.hid (sanity_any w3)
            clear hb' hc1 hz1 hi1 C1 Z1 hvb
            go_wp2_with (go_at_call_of 21 (Value.slice b ys.length cb); refine HVB.out.mono ?_; rintro e w' ⟨rfl, rfl⟩)
            go_at_call 18
            refine HS.out.mono ?_
            rintro e w13 ⟨rfl, hb13⟩
            have V13 := Lib.hid (V1k.out.below hb13)
            have B13 := Lib.hid (B3.out.trans (hb13.mono B3.out.size))
            have HML := Lib.hid (refMul_any _ _ xs ys w13 (HA.out.below B13.out) (HB.out.below B13.out) hsx hsy (by have := HLL.out; omega) (by have := HLL.out; omega))
            clear hb13 HS V1k HVB
            go_wp2_with fail
            go_at_call 30
            refine HML.out.mono ?_
            rintro e w14 ⟨⟨u, rfl, hu⟩, hb14⟩
            have IS := Lib.hid (is_yes (V13.out.below hb14) hu I1.out)
            have B14 := Lib.hid (B13.out.trans (hb14.mono B13.out.size))
            clear hu hb14 HML V13
            go_wp2_with fail
            go_at_call 24
            refine IS.out.mono ?_
            rintro e w15 ⟨rfl, hb15⟩
            have B15 := Lib.hid (B14.out.trans (hb15.mono B14.out.size))
            clear hb15 IS
            go_wp2_with fail
            go_ret
            exact ⟨rfl, B15.out⟩
          · have hvf : validB ys = false := by simpa using hvb
            have hb' := refValid_any _ ys w3 (HB.out.below B3.out)
            rw [hvf] at hb'
            have HVB := Lib.hid hb'
            have hc1 := C1.out
            rw [hvf, Bool.and_false] at hc1
            have k1 : c1 = 1 := by rw [hc1]; rfl
            have hz1 := Z1.out
            rw [hvf, Bool.and_false] at hz1
            have y1 : z1 = [] := by rw [hz1]; rfl
            have HS := Lib.hid (sanity_any w3)
            clear hb' hc1 hz1 C1 Z1 hvb hvf
            subst k1 y1
            go_wp2_with (go_at_call_of 21 (Value.slice b ys.length cb); refine HVB.out.mono ?_; rintro e w' ⟨rfl, rfl⟩)
            go_at_call 18
            refine HS.out.mono ?_
            rintro e w13 ⟨rfl, hb13⟩
            have R1 := Lib.hid (refused_yes v1 1 w13 (V1k.out.below hb13))
            have B13 := Lib.hid (B3.out.trans (hb13.mono B3.out.size))
            clear hb13 HS V1k HVB
            go_wp2_with (go_at_call 22; refine R1.out.mono ?_; rintro e w' ⟨rfl, rfl⟩)
            go_ret
            exact ⟨rfl, B13.out⟩
    · have hvf : validB xs = false := by simpa using hv
      have hv' := HV.out
      rw [hvf] at hv'
      have HV' := Lib.hid hv'
      have k1 : c1 = 1 := by rw [C1.out, hvf]; rfl
      have k2 : c2 = 1 := by rw [C2.out, hvf]; rfl
      have y1 : z1 = [] := by rw [Z1.out]; exact numOf_bad (by rw [← C1.out, k1]; decide)
      have y2 : z2 = [] := by rw [Z2.out]; exact numOf_bad (by rw [← C2.out, k2]; decide)
      have HS := Lib.hid (sanity_any w2)
      clear C1 Z1 C2 Z2 hv' HV hv hvf
      subst k1 k2 y1 y2
      go_wp2_with (go_at_call 21; refine HV'.out.mono ?_; rintro e w' ⟨rfl, rfl⟩)
      go_at_call 18
      refine HS.out.mono ?_
      rintro e w3 ⟨rfl, hb3⟩
      have R1 := Lib.hid (refused_yes v1 1 w3 (V12.out.below hb3))
      have R2 := Lib.hid (refused_yes v2 1 w3 (V2.out.below hb3))
      have B3 := Lib.hid (B2.out.trans (hb3.mono B2.out.size))
      clear hb3 HS V12 V2
      go_wp2_with (first
        | (go_at_call_of 22 v1; refine R1.out.mono ?_; rintro e w' ⟨rfl, rfl⟩)
        | (go_at_call_of 22 v2; refine R2.out.mono ?_; rintro e w' ⟨rfl, rfl⟩))
      go_ret
      exact ⟨rfl, B3.out⟩

set_option maxRecDepth 10000 in
set_option maxHeartbeats 1000000 in
theorem natProducts_any (va vb : Value) (xs ys : List Nat) (n : Int) (w : World) (ha : At w va xs) (hb : At w vb ys) (hsx : Nl.Small xs) (hsy : Nl.Small ys) (hn1 : -9223372036854775808 ≤ n) (hn2 : n ≤ 9223372036854775807) :
    Calls Tryz.prog 4 #[va, vb, .int .i64 n] w fun e w' => e = .returned (.bool true) ∧ Below w.heap.size w w' := by
  have HL1 := Lib.hid (light_any va xs 1100 w ha)
  have HL2 := Lib.hid (light_any vb ys 1100 w hb)
  by_cases hla : xs.length ≤ 1100
  · by_cases hlb : ys.length ≤ 1100
    · by_cases h20 : (xs.length : Int) > 20
      · by_cases h60 : n > 60
        · have L1 := HL1.out
          have L2 := HL2.out
          rw [decide_eq_true hla] at L1
          rw [decide_eq_true hlb] at L2
          have HL1' := Lib.hid L1
          have HL2' := Lib.hid L2
          have HS := Lib.hid (sanity_any w)
          have t20 : decide ((xs.length : Int) > 20) = true := decide_eq_true h20
          have t60 : decide (n > 60) = true := decide_eq_true h60
          obtain ⟨a, ca, rfl, -⟩ := ha.form
          obtain ⟨b, cb, rfl, -⟩ := hb.form
          clear L1 L2 HL1 HL2 hla hlb ha hb h20 h60
          go_enter Tryz.func4, Tryz.ntmps4
          go_wp2_with (first
            | (go_at_call_of 17 (Value.slice a xs.length ca); refine HL1'.out.mono ?_; rintro e w' ⟨rfl, rfl⟩)
            | (go_at_call_of 17 (Value.slice b ys.length cb); refine HL2'.out.mono ?_; rintro e w' ⟨rfl, rfl⟩))
          go_at_call 18
          refine HS.out.mono ?_
          rintro e w3 ⟨rfl, hb3⟩
          have B3 := Lib.hid hb3
          clear hb3
          go_wp2_with fail
          go_ret
          exact ⟨rfl, B3.out⟩
        · exact natProducts_light va vb xs ys n w ha hb hsx hsy hn1 hn2 hla hlb (.inr ⟨decide_eq_true h20, decide_eq_false h60⟩)
      · exact natProducts_light va vb xs ys n w ha hb hsx hsy hn1 hn2 hla hlb (.inl (decide_eq_false h20))
    · have L1 := HL1.out
      have L2 := HL2.out
      rw [decide_eq_true hla] at L1
      rw [decide_eq_false hlb] at L2
      have HL1' := Lib.hid L1
      have HL2' := Lib.hid L2
      have HS := Lib.hid (sanity_any w)
      obtain ⟨a, ca, rfl, -⟩ := ha.form
      obtain ⟨b, cb, rfl, -⟩ := hb.form
      clear L1 L2 HL1 HL2 hla hlb ha hb
      go_enter Tryz.func4, Tryz.ntmps4
      go_wp2_with (first
        | (go_at_call_of 17 (Value.slice a xs.length ca); refine HL1'.out.mono ?_; rintro e w' ⟨rfl, rfl⟩)
        | (go_at_call_of 17 (Value.slice b ys.length cb); refine HL2'.out.mono ?_; rintro e w' ⟨rfl, rfl⟩))
      go_at_call 18
      refine HS.out.mono ?_
      rintro e w3 ⟨rfl, hb3⟩
      have B3 := Lib.hid hb3
      clear hb3
      go_wp2_with fail
      go_ret
      exact ⟨rfl, B3.out⟩
  · have L1 := HL1.out
    rw [decide_eq_false hla] at L1
    have HL1' := Lib.hid L1
    have HS := Lib.hid (sanity_any w)
    obtain ⟨a, ca, rfl, -⟩ := ha.form
    clear L1 HL1 HL2 hla ha hb
    go_enter Tryz.func4, Tryz.ntmps4
    go_wp2_with (go_at_call_of 17 (Value.slice a xs.length ca); refine HL1'.out.mono ?_; rintro e w' ⟨rfl, rfl⟩)
    go_at_call 18
    refine HS.out.mono ?_
    rintro e w3 ⟨rfl, hb3⟩
    have B3 := Lib.hid hb3
    clear hb3
    go_wp2_with fail
    go_ret
    exact ⟨rfl, B3.out⟩
end Go.Proofs.YtfaledeidjmooaaGreat
