/-
  NatRoads returns true for any two slices and any cut. Conditions: those that each theorem names.
-/
import Derived.Test.YtfaledeidjmooaaGreatOut
namespace Go.Proofs.YtfaledeidjmooaaGreat
open Go.RowKit

theorem mulK_80 (m n : Nat) : mulK 1 80 m n = mulK 0 0 m n := by
  have h1 : ¬ ((1 : Int) ≠ 0 ∧ cutB 80 = false) := by decide
  have h2 : ¬ ((0 : Int) ≠ 0 ∧ cutB 0 = false) := by decide
  rw [mulK, mulK, if_neg h1, if_neg h2]
theorem mulK_cut {cut : Int} (h : cutB cut = true) (m n : Nat) : mulK 1 cut m n = mulK 0 0 m n := by
  have h1 : ¬ ((1 : Int) ≠ 0 ∧ cutB cut = false) := by rw [h]; decide
  have h2 : ¬ ((0 : Int) ≠ 0 ∧ cutB 0 = false) := by decide
  rw [mulK, mulK, if_neg h1, if_neg h2]
theorem mulK_bad {cut : Int} (h : cutB cut = false) (m n : Nat) : mulK 1 cut m n = 1 := by
  rw [mulK, if_pos ⟨by decide, h⟩]

set_option maxHeartbeats 4000000 in
theorem natRoads_any (va vb : Value) (xs ys : List Nat) (cut : Int) (w : World) (ha : At w va xs) (hb : At w vb ys) (hsx : Nl.Small xs) (hsy : Nl.Small ys) (h1 : -9223372036854775808 ≤ cut) (h2 : cut ≤ 9223372036854775807) :
    Calls Tryz.prog 9 #[va, vb, .int .i64 cut] w fun e w' => e = .returned (.bool true) ∧ Below w.heap.size w w' := by
  have HA := Lib.hid ha
  have HB := Lib.hid hb
  have HL1 := Lib.hid (light_any va xs 1100 w ha)
  have HL2 := Lib.hid (light_any vb ys 1100 w hb)
  obtain ⟨a, ca, rfl, -⟩ := ha.form
  obtain ⟨b, cb, rfl, -⟩ := hb.form
  clear ha hb
  by_cases hla : xs.length ≤ 1100
  · by_cases hlb : ys.length ≤ 1100
    · have L1 := HL1.out
      have L2 := HL2.out
      rw [decide_eq_true hla] at L1
      rw [decide_eq_true hlb] at L2
      have HL1' := Lib.hid L1
      have HL2' := Lib.hid L2
      clear L1 L2 HL1 HL2 hla hlb
      go_enter Tryz.func9, Tryz.ntmps9
      go_wp2_with (first
        | (go_at_call_of 17 (Value.slice a xs.length ca); refine HL1'.out.mono ?_; rintro e w' ⟨rfl, rfl⟩)
        | (go_at_call_of 17 (Value.slice b ys.length cb); refine HL2'.out.mono ?_; rintro e w' ⟨rfl, rfl⟩))
      refine (mul_any _ _ xs ys w HA.out HB.out hsx hsy).mono ?_
      rintro e w1 hr
      have hr := hr.gives
      rw [mulK_80] at hr
      obtain ⟨v1, rfl, hv1, hb1⟩ := hr
      obtain ⟨c1, hc1⟩ : ∃ c, c = errOf (validB xs && validB ys) (mulK 0 0 (Nl.val xs) (Nl.val ys)) (Nl.val xs * Nl.val ys) := ⟨_, rfl⟩
      obtain ⟨z1, hz1⟩ : ∃ c, c = numOf (validB xs && validB ys) (mulK 0 0 (Nl.val xs) (Nl.val ys)) (Nl.val xs * Nl.val ys) := ⟨_, rfl⟩
      rw [← hc1]
      rw [← hz1] at hv1
      have C1 := Lib.hid hc1
      have Z1 := Lib.hid hz1
      have V1 := Lib.hid hv1
      have B1 := Lib.hid hb1
      have HSC := Lib.hid (school_any _ _ xs ys w1 (HA.out.below hb1) (HB.out.below hb1) hsx hsy)
      clear hc1 hz1 hv1 hb1 HL1' HL2'
      go_wp2_with fail
      refine HSC.out.mono ?_
      rintro e w2 hr
      have hr := hr.gives
      rw [← C1.out, ← Z1.out] at hr
      obtain ⟨v2, rfl, hv2, hb2⟩ := hr
      have V2 := Lib.hid hv2
      have V12 := Lib.hid (V1.out.below hb2)
      have B2 := Lib.hid (B1.out.trans (hb2.mono B1.out.size))
      have HKA := Lib.hid (karatsuba_any _ _ xs ys cut w2 (HA.out.below B2.out) (HB.out.below B2.out) hsx hsy h1 h2)
      clear hv2 hb2 HSC
      go_wp2_with fail
      refine HKA.out.mono ?_
      rintro e w3 hr
      have hr := hr.gives
      have HG := Lib.hid hr
      obtain ⟨v3, hv3e, hv3, hb3⟩ := hr
      have HAL := Lib.hid (alike_yes v1 v2 z1 c1 w3 (V12.out.below hb3) (V2.out.below hb3))
      have V13 := Lib.hid (V12.out.below hb3)
      have B3 := Lib.hid (B2.out.trans (hb3.mono B2.out.size))
      have V3 := Lib.hid hv3
      clear hv3 hb3 HKA V2 V12 HG
      by_cases hc : cutB cut = true
      · have hc' : 2 ≤ cut ∧ cut ≤ 1024 := by simpa [cutB] using hc
        obtain ⟨hc2, hc3⟩ := hc'
        have t0 : decide (cut < 2) = false := decide_eq_false (by omega)
        have t1 : decide (cut > 1024) = false := decide_eq_false (by omega)
        have V3' := V3.out
        rw [mulK_cut hc] at hv3e V3'
        rw [← C1.out] at hv3e
        rw [← Z1.out] at V3'
        subst hv3e
        have V33 := Lib.hid V3'
        clear V3' V3 hc
        go_wp2_with (go_at_call_of 48 v2; refine HAL.out.mono ?_; rintro e w' ⟨rfl, k4, rfl⟩)
        have B4 := Lib.hid (B3.out.trans ((below_drewN w3 k4 _).mono B3.out.size))
        refine (sanity_any _).mono ?_
        rintro e w5 ⟨rfl, hb5⟩
        have hb5' : Below (w3.drewN k4).heap.size (w3.drewN k4) w5 := hb5
        have HAL2 := Lib.hid (alike_yes v1 v3 z1 c1 w5 ((V13.out.below (below_drewN w3 k4 _)).below hb5') ((V33.out.below (below_drewN w3 k4 _)).below hb5'))
        have B5 := Lib.hid (B4.out.trans (hb5'.mono B4.out.size))
        clear hb5 hb5' HAL
        go_wp2_with fail
        refine HAL2.out.mono ?_
        rintro e w6 ⟨rfl, k6, rfl⟩
        go_wp2_with fail
        go_ret
        exact ⟨rfl, B5.out.trans ((below_drewN w5 k6 _).mono B5.out.size)⟩
      · have hcf : cutB cut = false := by simpa using hc
        have V3' := V3.out
        have hcode : errOf (validB xs && validB ys) (mulK 1 cut (Nl.val xs) (Nl.val ys)) (Nl.val xs * Nl.val ys) = 1 := by
          rw [mulK_bad hcf, errOf_arg]
        rw [numOf, hcode, if_neg (by decide)] at V3'
        rw [hcode] at hv3e
        subst hv3e
        have V33 := Lib.hid V3'
        clear V3' V3 hcode hc
        have HC := Lib.hid hcf
        clear hcf
        have HS5 := Lib.hid (fun w => sanity_any w)
        have tail : ∀ k4 w5, Below (w3.drewN k4).heap.size (w3.drewN k4) w5 → Hid (Calls Tryz.prog 22 #[v3, .int .i64 1, .int .i64 1] w5 fun e w' => e = .returned (.bool true) ∧ w5 = w') ∧ Hid (Below w.heap.size w w5) := by
          intro k4 w5 hb5
          exact ⟨Lib.hid (refused_yes v3 1 w5 ((V33.out.below (below_drewN w3 k4 _)).below hb5)), Lib.hid ((B3.out.trans ((below_drewN w3 k4 _).mono B3.out.size)).trans (hb5.mono (Nat.le_trans B3.out.size (below_drewN w3 k4 w3.heap.size).size)))⟩
        have TAIL := Lib.hid tail
        clear tail
        by_cases hlo : cut < 2
        · have t0 : decide (cut < 2) = true := decide_eq_true hlo
          go_wp2_with (go_at_call_of 48 v2; refine HAL.out.mono ?_; rintro e w' ⟨rfl, k4, rfl⟩)
          refine (HS5.out _).mono ?_
          rintro e w5 ⟨rfl, hb5⟩
          obtain ⟨R5, B5⟩ := TAIL.out k4 w5 hb5
          clear hb5
          go_wp2_with fail
          refine R5.out.mono ?_
          rintro e w6 ⟨rfl, rfl⟩
          go_wp2_with fail
          go_ret
          exact ⟨rfl, B5.out⟩
        · have t0 : decide (cut < 2) = false := decide_eq_false hlo
          have hhi : cut > 1024 := by
            have := HC.out
            simp [cutB] at this
            omega
          have t1 : decide (cut > 1024) = true := decide_eq_true hhi
          go_wp2_with (go_at_call_of 48 v2; refine HAL.out.mono ?_; rintro e w' ⟨rfl, k4, rfl⟩)
          refine (HS5.out _).mono ?_
          rintro e w5 ⟨rfl, hb5⟩
          obtain ⟨R5, B5⟩ := TAIL.out k4 w5 hb5
          clear hb5
          go_wp2_with fail
          refine R5.out.mono ?_
          rintro e w6 ⟨rfl, rfl⟩
          go_wp2_with fail
          go_ret
          exact ⟨rfl, B5.out⟩
    · have L1 := HL1.out
      have L2 := HL2.out
      rw [decide_eq_true hla] at L1
      rw [decide_eq_false hlb] at L2
      have HL1' := Lib.hid L1
      have HL2' := Lib.hid L2
      have HS := Lib.hid (sanity_any w)
      clear L1 L2 HL1 HL2 hla hlb
      go_enter Tryz.func9, Tryz.ntmps9
      go_wp2_with (first
        | (go_at_call_of 17 (Value.slice a xs.length ca); refine HL1'.out.mono ?_; rintro e w' ⟨rfl, rfl⟩)
        | (go_at_call_of 17 (Value.slice b ys.length cb); refine HL2'.out.mono ?_; rintro e w' ⟨rfl, rfl⟩))
      refine HS.out.mono ?_
      rintro e w3 ⟨rfl, hb3⟩
      have B3 := Lib.hid hb3
      clear hb3
      go_wp2_with fail
      go_ret
      exact ⟨rfl, B3.out⟩
  · have L1 := HL1.out
    rw [decide_eq_false hla] at L1
    have HL1' := Lib.hid L1
    have HS := Lib.hid (sanity_any w)
    clear L1 HL1 HL2 hla
    go_enter Tryz.func9, Tryz.ntmps9
    go_wp2_with (go_at_call_of 17 (Value.slice a xs.length ca); refine HL1'.out.mono ?_; rintro e w' ⟨rfl, rfl⟩)
    refine HS.out.mono ?_
    rintro e w3 ⟨rfl, hb3⟩
    have B3 := Lib.hid hb3
    clear hb3
    go_wp2_with fail
    go_ret
    exact ⟨rfl, B3.out⟩
end Go.Proofs.YtfaledeidjmooaaGreat
