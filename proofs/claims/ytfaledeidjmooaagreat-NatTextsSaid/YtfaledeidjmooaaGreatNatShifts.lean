/-
  NatShifts returns true for any slice and any number of bits. Conditions: those that each theorem names.
-/
import Derived.Test.YtfaledeidjmooaaGreatShl
import Derived.Test.YtfaledeidjmooaaGreatRefShl
import Derived.Test.YtfaledeidjmooaaGreatOut
namespace Go.Proofs.YtfaledeidjmooaaGreat
open Go.RowKit

theorem isB_code (ok : Bool) (k : Int) (m : Nat) (h1 : ok = true) (h2 : k ≠ 0 → k = 2 ∧ 1024 < (Nl.limbs m).length) : isB (numOf ok k m) (errOf ok k m) (Nl.limbs m) = true := by
  subst h1
  by_cases hk : k = 0
  · subst hk
    by_cases hl : (Nl.limbs m).length ≤ 1024
    · have e : errOf true 0 m = 0 := errOf_fits rfl hl
      rw [numOf, e, if_pos rfl, isB, if_pos hl, sameB_self]; rfl
    · have e : errOf true 0 m = 2 := by rw [errOf_ok, codeOf, if_neg (by decide), if_neg hl]
      rw [numOf, e, if_neg (by decide), isB, if_neg hl]; rfl
  · obtain ⟨rfl, hl⟩ := h2 hk
    have e : errOf true 2 m = 2 := by rw [errOf_err _ (by decide)]; rfl
    rw [numOf, e, if_neg (by decide), isB, if_neg (by omega)]; rfl
theorem lt_pow_len {m K : Nat} (h : (Nl.limbs m).length ≤ K) : m < 2 ^ (32 * K) := by
  rw [← pow32]; exact Nat.lt_of_lt_of_le (Nl.lt_limbs m) (Nl.pow_le h)
/-- a shift that is refused is too large -/
theorem shl_large {m n K : Nat} (hm : m ≠ 0) (h : 32 * K < n + nbits m) : K < (Nl.limbs (m * 2 ^ n)).length := by
  apply Classical.byContradiction
  intro hc
  have h2 := lt_pow_len (Nat.le_of_not_lt hc)
  have h4 : 2 ^ (nbits m - 1) * 2 ^ n ≤ m * 2 ^ n := Nat.mul_le_mul_right _ (nbits_le hm)
  rw [← Nat.pow_add] at h4
  have h5 : 2 ^ (32 * K) ≤ 2 ^ (nbits m - 1 + n) := Nat.pow_le_pow_right (by decide) (by have := nbits_pos hm; omega)
  exact Nat.lt_irrefl _ (Nat.lt_of_lt_of_le h2 (Nat.le_trans h5 h4))
theorem shl_isB {m : Nat} {n : Int} (h0 : 0 ≤ n) : isB (numOf true (shlK m n) (m * 2 ^ n.toNat)) (errOf true (shlK m n) (m * 2 ^ n.toNat)) (Nl.limbs (m * 2 ^ n.toNat)) = true := by
  refine isB_code true _ _ rfl fun hk => ?_
  rw [shlK, if_pos h0] at hk ⊢
  by_cases hc : m = 0 ∨ n.toNat + nbits m ≤ 32768
  · rw [if_pos hc] at hk; exact absurd rfl hk
  · rw [if_neg hc]
    exact ⟨rfl, shl_large (K := 1024) (fun h => hc (.inl h)) (Nat.lt_of_not_le fun h => hc (.inr h))⟩
theorem shr_isB {m : Nat} {n : Int} (h0 : 0 ≤ n) : isB (numOf true (shrK m n) (m / 2 ^ n.toNat)) (errOf true (shrK m n) (m / 2 ^ n.toNat)) (Nl.limbs (m / 2 ^ n.toNat)) = true := by
  refine isB_code true _ _ rfl fun hk => ?_
  rw [shrK, if_pos h0] at hk
  exact absurd rfl hk
theorem numOf_bad {ok : Bool} {k : Int} {m : Nat} (h : errOf ok k m ≠ 0) : numOf ok k m = [] := by rw [numOf, if_neg h]

theorem is_yes {v u : Value} {xs zs : List Nat} {c : Int} {w : World} (hv : At w v xs) (hu : At w u zs) (h : isB xs c zs = true) :
    Calls Tryz.prog 24 #[v, .int .i64 c, u] w fun e w' => e = .returned (.bool true) ∧ Below w.heap.size w w' := by
  have := is_any v u xs zs c w hv hu
  rw [h] at this
  refine this.mono ?_
  rintro e w' ⟨he, k, rfl⟩
  exact ⟨he, below_drewN _ _ _⟩

set_option maxRecDepth 10000 in
set_option maxHeartbeats 2000000 in
theorem natShifts_any (va : Value) (xs : List Nat) (n : Int) (w : World) (ha : At w va xs) (hsx : Nl.Small xs) (hn1 : -9223372036854775808 ≤ n) (hn2 : n ≤ 9223372036854775807) :
    Calls Tryz.prog 7 #[va, .int .i64 n] w fun e w' => e = .returned (.bool true) ∧ Below w.heap.size w w' := by
  have HA := Lib.hid ha
  have HL1 := Lib.hid (light_any va xs 1100 w ha)
  obtain ⟨a, ca, rfl, -⟩ := ha.form
  clear ha
  by_cases hla : xs.length ≤ 1100
  · have L1 := HL1.out
    rw [decide_eq_true hla] at L1
    have HL1' := Lib.hid L1
    have HLL := Lib.hid hla
    clear L1 HL1 hla
    obtain ⟨c1, hc1⟩ : ∃ c, c = errOf (validB xs) (shlK (Nl.val xs) n) (Nl.val xs * 2 ^ n.toNat) := ⟨_, rfl⟩
    obtain ⟨z1, hz1⟩ : ∃ c, c = numOf (validB xs) (shlK (Nl.val xs) n) (Nl.val xs * 2 ^ n.toNat) := ⟨_, rfl⟩
    obtain ⟨c2, hc2⟩ : ∃ c, c = errOf (validB xs) (shrK (Nl.val xs) n) (Nl.val xs / 2 ^ n.toNat) := ⟨_, rfl⟩
    obtain ⟨z2, hz2⟩ : ∃ c, c = numOf (validB xs) (shrK (Nl.val xs) n) (Nl.val xs / 2 ^ n.toNat) := ⟨_, rfl⟩
    have C1 := Lib.hid hc1
    have Z1 := Lib.hid hz1
    have C2 := Lib.hid hc2
    have Z2 := Lib.hid hz2
    clear hc1 hz1 hc2 hz2
    go_enter Tryz.func7, Tryz.ntmps7
    go_wp2_with (go_at_call 17; refine HL1'.out.mono ?_; rintro e w' ⟨rfl, rfl⟩)
    refine (shl_any _ xs n w HA.out hsx hn1 hn2).mono ?_
    rintro e w1 hr
    have hr := hr.gives
    rw [← C1.out, ← Z1.out] at hr
    obtain ⟨v1, rfl, hv1, hb1⟩ := hr
    have V1 := Lib.hid hv1
    have B1 := Lib.hid hb1
    clear hv1 hb1 HL1'
    go_wp2_with fail
    refine (shr_any _ xs n w1 (HA.out.below B1.out) hsx hn1 hn2).mono ?_
    rintro e w2 hr
    have hr := hr.gives
    rw [← C2.out, ← Z2.out] at hr
    obtain ⟨v2, rfl, hv2, hb2⟩ := hr
    have V2 := Lib.hid hv2
    have V12 := Lib.hid (V1.out.below hb2)
    have B2 := Lib.hid (B1.out.trans (hb2.mono B1.out.size))
    have HV := Lib.hid (refValid_any _ xs w2 (HA.out.below B2.out))
    have HS := Lib.hid (sanity_any w2)
    clear hv2 hb2 V1 B1
    by_cases hv : validB xs = true
    · have hv' := HV.out
      rw [hv] at hv'
      have HV' := Lib.hid hv'
      have hle := validB_eq hsx hv
      have HLE := Lib.hid hle
      have hc1 := C1.out
      have hz1 := Z1.out
      have hc2 := C2.out
      have hz2 := Z2.out
      rw [hv] at hc1 hz1 hc2 hz2
      have C1' := Lib.hid hc1
      have Z1' := Lib.hid hz1
      have C2' := Lib.hid hc2
      have Z2' := Lib.hid hz2
      clear hv' HV hle hc1 hz1 hc2 hz2 C1 Z1 C2 Z2 hv
      by_cases h0 : n < 0
      · have t0 : decide (n < 0) = true := decide_eq_true h0
        have k1 : c1 = 1 := by rw [C1'.out, shlK, if_neg (by omega), errOf_arg]
        have k2 : c2 = 1 := by rw [C2'.out, shrK, if_neg (by omega), errOf_arg]
        have y1 : z1 = [] := by rw [Z1'.out]; exact numOf_bad (by rw [← C1'.out, k1]; decide)
        have y2 : z2 = [] := by rw [Z2'.out]; exact numOf_bad (by rw [← C2'.out, k2]; decide)
        clear C1' Z1' C2' Z2'
        subst k1 k2 y1 y2
        go_wp2_with (go_at_call 21; refine HV'.out.mono ?_; rintro e w' ⟨rfl, rfl⟩)
        refine HS.out.mono ?_
        rintro e w3 ⟨rfl, hb3⟩
        have R1 := Lib.hid (refused_yes v1 1 w3 (V12.out.below hb3))
        have R2 := Lib.hid (refused_yes v2 1 w3 (V2.out.below hb3))
        have B3 := Lib.hid (B2.out.trans (hb3.mono B2.out.size))
        clear hb3 HS V12 V2
        go_wp2_with (first
          | (go_at_call_of 22 v1; refine R1.out.mono ?_; rintro e w' ⟨rfl, rfl⟩)
          | (go_at_call_of 22 v2; refine R2.out.mono ?_; rintro e w' ⟨rfl, rfl⟩))
        go_ret
        exact ⟨rfl, B3.out⟩
      · have t0 : decide (n < 0) = false := decide_eq_false h0
        obtain ⟨j, rfl⟩ : ∃ j : Nat, n = j := ⟨n.toNat, by omega⟩
        have hi1 : isB z1 c1 (Nl.limbs (Nl.val xs * 2 ^ j)) = true := by
          have := shl_isB (m := Nl.val xs) (n := (j : Int)) (by omega)
          rw [← C1'.out, ← Z1'.out, Int.toNat_natCast] at this
          exact this
        have hi2 : isB z2 c2 (Nl.limbs (Nl.val xs / 2 ^ j)) = true := by
          have := shr_isB (m := Nl.val xs) (n := (j : Int)) (by omega)
          rw [← C2'.out, ← Z2'.out, Int.toNat_natCast] at this
          exact this
        have I1 := Lib.hid hi1
        have I2 := Lib.hid hi2
        have hat : At w2 (.slice a xs.length ca) (Nl.limbs (Nl.val xs)) := by rw [← HLE.out.1]; exact HA.out.below B2.out
        have HAT := Lib.hid hat
        clear hi1 hi2 hat
        by_cases hbig : 0 < xs.length ∧ 32768 < j
        · obtain ⟨hb1, hb2⟩ := hbig
          have t1 : decide (0 < xs.length) = true := decide_eq_true hb1
          have t2 : decide ((j : Int) > 32768) = true := decide_eq_true (by omega)
          have hm0 : Nl.val xs ≠ 0 := fun h => by
            have := HLE.out.1
            rw [h, Nl.limbs_zero] at this
            rw [this] at hb1; simp at hb1
          have k1 : c1 = 2 := by
            rw [C1'.out, shlK, if_pos (by omega), Int.toNat_natCast, if_neg (by intro h; rcases h with h | h; exact hm0 h; omega), errOf_err _ (by decide)]; rfl
          have y1 : z1 = [] := by rw [Z1'.out]; exact numOf_bad (by rw [← C1'.out, k1]; decide)
          clear C1' Z1' C2' Z2' hm0 I1
          subst k1 y1
          go_wp2_with (go_at_call 21; refine HV'.out.mono ?_; rintro e w' ⟨rfl, rfl⟩)
          refine HS.out.mono ?_
          rintro e w3 ⟨rfl, hb3⟩
          have R1 := Lib.hid (refused_yes v1 2 w3 (V12.out.below hb3))
          have V3 := Lib.hid (V2.out.below hb3)
          have HSR := Lib.hid (refShr_any _ (Nl.val xs) j w3 (HAT.out.below hb3) (by rw [← HLE.out.1]; have := HLL.out; omega) (by omega))
          have B3 := Lib.hid (B2.out.trans (hb3.mono B2.out.size))
          clear hb3 HS V12 V2 HAT
          go_wp2_with (go_at_call_of 22 v1; refine R1.out.mono ?_; rintro e w' ⟨rfl, rfl⟩)
          refine HSR.out.mono ?_
          rintro e w4 ⟨⟨u, rfl, hu⟩, hb4⟩
          have IS := Lib.hid (is_yes (V3.out.below hb4) hu I2.out)
          have B4 := Lib.hid (B3.out.trans (hb4.mono B3.out.size))
          clear hu hb4 HSR V3
          go_wp2_with fail
          refine IS.out.mono ?_
          rintro e w5 ⟨rfl, hb5⟩
          have B5 := Lib.hid (B4.out.trans (hb5.mono B4.out.size))
          clear hb5 IS
          go_wp2_with fail
          go_ret
          exact ⟨rfl, B5.out⟩
        · by_cases hl0 : 0 < xs.length
          · have hj : j ≤ 32768 := by
              apply Classical.byContradiction
              intro h
              exact hbig ⟨hl0, by omega⟩
            have t1 : decide (0 < xs.length) = true := decide_eq_true hl0
            have t2 : decide ((j : Int) > 32768) = false := decide_eq_false (by omega)
            have HJ := Lib.hid (show Nl.val xs = 0 ∨ j ≤ 64000 from .inr (by omega))
            clear C1' Z1' C2' Z2' hbig
            go_wp2_with (go_at_call 21; refine HV'.out.mono ?_; rintro e w' ⟨rfl, rfl⟩)
            refine HS.out.mono ?_
            rintro e w3 ⟨rfl, hb3⟩
            have V3 := Lib.hid (V2.out.below hb3)
            have V13 := Lib.hid (V12.out.below hb3)
            have HAT3 := Lib.hid (HAT.out.below hb3)
            have HSL := Lib.hid (refShl_any _ (Nl.val xs) j w3 HAT3.out (by rw [← HLE.out.1]; have := HLL.out; omega) HJ.out)
            have B3 := Lib.hid (B2.out.trans (hb3.mono B2.out.size))
            clear hb3 HS V12 V2 HAT
            go_wp2_with fail
            refine HSL.out.mono ?_
            rintro e w4 ⟨⟨u, rfl, hu⟩, hb4⟩
            have IS := Lib.hid (is_yes (V13.out.below hb4) hu I1.out)
            have V4 := Lib.hid (V3.out.below hb4)
            have HAT4 := Lib.hid (HAT3.out.below hb4)
            have B4 := Lib.hid (B3.out.trans (hb4.mono B3.out.size))
            clear hu hb4 HSL V13 V3 HAT3
            go_wp2_with fail
            refine IS.out.mono ?_
            rintro e w5 ⟨rfl, hb5⟩
            have V5 := Lib.hid (V4.out.below hb5)
            have HSR := Lib.hid (refShr_any _ (Nl.val xs) j w5 (HAT4.out.below hb5) (by rw [← HLE.out.1]; have := HLL.out; omega) (by omega))
            have B5 := Lib.hid (B4.out.trans (hb5.mono B4.out.size))
            clear hb5 IS V4 HAT4
            go_wp2_with fail
            refine HSR.out.mono ?_
            rintro e w6 ⟨⟨u, rfl, hu⟩, hb6⟩
            have IS := Lib.hid (is_yes (V5.out.below hb6) hu I2.out)
            have B6 := Lib.hid (B5.out.trans (hb6.mono B5.out.size))
            clear hu hb6 HSR V5
            go_wp2_with fail
            refine IS.out.mono ?_
            rintro e w7 ⟨rfl, hb7⟩
            have B7 := Lib.hid (B6.out.trans (hb7.mono B6.out.size))
            clear hb7 IS
            go_wp2_with fail
            go_ret
            exact ⟨rfl, B7.out⟩
          · have t1 : decide (0 < xs.length) = false := decide_eq_false hl0
            have hx0 : xs = [] := List.eq_nil_of_length_eq_zero (by omega)
            have HJ := Lib.hid (show Nl.val xs = 0 ∨ j ≤ 64000 from .inl (by rw [hx0]; rfl))
            clear C1' Z1' C2' Z2' hbig hx0
            go_wp2_with (go_at_call 21; refine HV'.out.mono ?_; rintro e w' ⟨rfl, rfl⟩)
            refine HS.out.mono ?_
            rintro e w3 ⟨rfl, hb3⟩
            have V3 := Lib.hid (V2.out.below hb3)
            have V13 := Lib.hid (V12.out.below hb3)
            have HAT3 := Lib.hid (HAT.out.below hb3)
            have HSL := Lib.hid (refShl_any _ (Nl.val xs) j w3 HAT3.out (by rw [← HLE.out.1]; have := HLL.out; omega) HJ.out)
            have B3 := Lib.hid (B2.out.trans (hb3.mono B2.out.size))
            clear hb3 HS V12 V2 HAT
            go_wp2_with fail
            refine HSL.out.mono ?_
            rintro e w4 ⟨⟨u, rfl, hu⟩, hb4⟩
            have IS := Lib.hid (is_yes (V13.out.below hb4) hu I1.out)
            have V4 := Lib.hid (V3.out.below hb4)
            have HAT4 := Lib.hid (HAT3.out.below hb4)
            have B4 := Lib.hid (B3.out.trans (hb4.mono B3.out.size))
            clear hu hb4 HSL V13 V3 HAT3
            go_wp2_with fail
            refine IS.out.mono ?_
            rintro e w5 ⟨rfl, hb5⟩
            have V5 := Lib.hid (V4.out.below hb5)
            have HSR := Lib.hid (refShr_any _ (Nl.val xs) j w5 (HAT4.out.below hb5) (by rw [← HLE.out.1]; have := HLL.out; omega) (by omega))
            have B5 := Lib.hid (B4.out.trans (hb5.mono B4.out.size))
            clear hb5 IS V4 HAT4
            go_wp2_with fail
            refine HSR.out.mono ?_
            rintro e w6 ⟨⟨u, rfl, hu⟩, hb6⟩
            have IS := Lib.hid (is_yes (V5.out.below hb6) hu I2.out)
            have B6 := Lib.hid (B5.out.trans (hb6.mono B5.out.size))
            clear hu hb6 HSR V5
            go_wp2_with fail
            refine IS.out.mono ?_
            rintro e w7 ⟨rfl, hb7⟩
            have B7 := Lib.hid (B6.out.trans (hb7.mono B6.out.size))
            clear hb7 IS
            go_wp2_with fail
            go_ret
            exact ⟨rfl, B7.out⟩
    · have hvf : validB xs = false := by simpa using hv
      have hv' := HV.out
      rw [hvf] at hv'
      have HV' := Lib.hid hv'
      have k1 : c1 = 1 := by rw [C1.out, hvf]; rfl
      have k2 : c2 = 1 := by rw [C2.out, hvf]; rfl
      have y1 : z1 = [] := by rw [Z1.out]; exact numOf_bad (by rw [← C1.out, k1]; decide)
      have y2 : z2 = [] := by rw [Z2.out]; exact numOf_bad (by rw [← C2.out, k2]; decide)
      clear C1 Z1 C2 Z2 hv' HV hv hvf
      subst k1 k2 y1 y2
      go_wp2_with (go_at_call 21; refine HV'.out.mono ?_; rintro e w' ⟨rfl, rfl⟩)
      refine HS.out.mono ?_
      rintro e w3 ⟨rfl, hb3⟩
      have R1 := Lib.hid (refused_yes v1 1 w3 (V12.out.below hb3))
      have R2 := Lib.hid (refused_yes v2 1 w3 (V2.out.below hb3))
      have B3 := Lib.hid (B2.out.trans (hb3.mono B2.out.size))
      clear hb3 HS V12 V2
      go_wp2_with (first
        | (go_at_call_of 22 v1; refine R1.out.mono ?_; rintro e w' ⟨rfl, rfl⟩)
        | (go_at_call_of 22 v2; refine R2.out.mono ?_; rintro e w' ⟨rfl, rfl⟩))
      go_ret
      exact ⟨rfl, B3.out⟩
  · have L1 := HL1.out
    rw [decide_eq_false hla] at L1
    have HL1' := Lib.hid L1
    have HS := Lib.hid (sanity_any w)
    clear L1 HL1 hla
    go_enter Tryz.func7, Tryz.ntmps7
    go_wp2_with (go_at_call 17; refine HL1'.out.mono ?_; rintro e w' ⟨rfl, rfl⟩)
    refine HS.out.mono ?_
    rintro e w3 ⟨rfl, hb3⟩
    have B3 := Lib.hid hb3
    clear hb3
    go_wp2_with fail
    go_ret
    exact ⟨rfl, B3.out⟩
end Go.Proofs.YtfaledeidjmooaaGreat
