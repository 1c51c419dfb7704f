/-
  NatSums returns true for any two slices. Conditions: those that each theorem names.
-/
import Derived.Test.YtfaledeidjmooaaGreatSane
namespace Go.Proofs.YtfaledeidjmooaaGreat
open Go.RowKit

theorem isB_out {w w' : World} {v : Value} {c : Int} {m : Nat} (hc : c = codeOf 0 m) (h2 : c = 0 → Own w.heap.size w' v (Nl.limbs m)) (h3 : c ≠ 0 → v = .slice none 0 0) : ∃ zs, At w' v zs ∧ isB zs c (Nl.limbs m) = true := by
  by_cases hl : (Nl.limbs m).length ≤ 1024
  · have h0 : c = 0 := by rw [hc, codeOf, if_neg (by decide), if_pos hl]
    exact ⟨_, (h2 h0).at.at, by rw [isB, if_pos hl, decide_eq_true h0, sameB_self]; rfl⟩
  · have h0 : c = 2 := by rw [hc, codeOf, if_neg (by decide), if_neg hl]
    exact ⟨[], .inl ⟨h3 (by rw [h0]; decide), rfl⟩, by rw [isB, if_neg hl, decide_eq_true h0]; rfl⟩

set_option maxHeartbeats 4000000 in
theorem natSums_any (va vb : Value) (xs ys : List Nat) (w : World) (ha : At w va xs) (hb : At w vb ys) (hsx : Nl.Small xs) (hsy : Nl.Small ys) :
    Calls Tryz.prog 3 #[va, vb] w fun e w' => e = .returned (.bool true) ∧ Below w.heap.size w w' := by
  have HA := Lib.hid ha
  have HB := Lib.hid hb
  have HL1 := Lib.hid (light_any va xs 1100 w ha)
  have HL2 := Lib.hid (light_any vb ys 1100 w hb)
  obtain ⟨a, ca, rfl, -⟩ := ha.form
  obtain ⟨b, cb, rfl, -⟩ := hb.form
  clear ha hb
  by_cases hla : xs.length ≤ 1100
  · by_cases hlb : ys.length ≤ 1100
    · have L1 := HL1.out
      have L2 := HL2.out
      rw [decide_eq_true hla] at L1
      rw [decide_eq_true hlb] at L2
      have HL1' := Lib.hid L1
      have HL2' := Lib.hid L2
      have HLL := Lib.hid (And.intro hla hlb)
      clear L1 L2 HL1 HL2 hla hlb
      go_enter Tryz.func3, Tryz.ntmps3
      go_wp2_with (first
        | (go_at_call_of 17 (Value.slice a xs.length ca); refine HL1'.out.mono ?_; rintro e w' ⟨rfl, rfl⟩)
        | (go_at_call_of 17 (Value.slice b ys.length cb); refine HL2'.out.mono ?_; rintro e w' ⟨rfl, rfl⟩))
      refine (add_any _ _ xs ys w HA.out HB.out hsx hsy).mono ?_
      rintro e w1 ⟨c, hc, ⟨v, rfl, h2, h3⟩, hb1⟩
      have hsub := sub_any _ _ xs ys w1 (HA.out.below hb1) (HB.out.below hb1) hsx hsy
      have HC := Lib.hid hc
      have H23 := Lib.hid (And.intro h2 h3)
      have B1 := Lib.hid hb1
      have HSUB := Lib.hid hsub
      clear hc h2 h3 hb1 hsub
      go_wp2_with fail
      refine HSUB.out.mono ?_
      rintro e w2 ⟨c', hc', ⟨v', rfl, h2', h3'⟩, hb2⟩
      have HC' := Lib.hid hc'
      have H23' := Lib.hid (And.intro h2' h3')
      have B12 := Lib.hid hb2
      have B2 := Lib.hid (B1.out.trans (hb2.mono B1.out.size))
      have HV1 := Lib.hid (refValid_any _ xs w2 (HA.out.below B2.out))
      have HV2 := Lib.hid (refValid_any _ ys w2 (HB.out.below B2.out))
      have HS := Lib.hid (sanity_any w2)
      clear hc' h2' h3' hb2 HSUB HL1' HL2'
      by_cases hv1 : validB xs = true
      · by_cases hv2 : validB ys = true
        · have V1 := HV1.out
          have V2 := HV2.out
          rw [hv1] at V1
          rw [hv2] at V2
          have HV1' := Lib.hid V1
          have HV2' := Lib.hid V2
          have HCM := Lib.hid (refCmp_any _ _ xs ys w2 (HA.out.below B2.out) (HB.out.below B2.out) hsx hsy (by have := HLL.out; omega) (by have := HLL.out; omega))
          have hcc : c = codeOf 0 (Nl.val xs + Nl.val ys) := by
            rcases HC.out with ⟨_, _, h⟩ | ⟨h, _⟩
            · exact h
            · rcases h with h | h
              · rw [hv1] at h; cases h
              · rw [hv2] at h; cases h
          have hcd : c' = codeOf (subK (Nl.val xs) (Nl.val ys)) (Nl.val xs - Nl.val ys) := by
            rcases HC'.out with ⟨_, _, h⟩ | ⟨h, _⟩
            · exact h
            · rcases h with h | h
              · rw [hv1] at h; cases h
              · rw [hv2] at h; cases h
          obtain ⟨zs, hzs, hzb⟩ := isB_out hcc H23.out.1 H23.out.2
          have HZ := Lib.hid (And.intro (hzs.below B12.out) hzb)
          have HCD := Lib.hid hcd
          have hle1 := Lib.hid (validB_eq hsx hv1)
          have hle2 := Lib.hid (validB_eq hsy hv2)
          clear V1 V2 HV1 HV2 hcc hcd hzs hzb hv1 hv2 HC HC'
          by_cases hlt : Nl.val xs < Nl.val ys
          · have e0 : decide (cmpI (Nl.val xs) (Nl.val ys) < 0) = true := by rw [decide_eq_true_eq, cmpI_lt (by omega)]; omega
            have e1 : cmpI (Nl.val xs) (Nl.val ys) < 0 := by rw [cmpI_lt (by omega)]; omega
            have hc3 : c' = 3 := by
              rw [HCD.out, subK, if_neg (by omega), codeOf, if_pos (by decide)]
            have hv' : v' = .slice none 0 0 := H23'.out.2 (by rw [hc3]; decide)
            subst hc3
            subst hv'
            clear hlt
            go_wp2_with (first
              | (go_at_call_of 21 (Value.slice a xs.length ca); refine HV1'.out.mono ?_; rintro e w' ⟨rfl, rfl⟩)
              | (go_at_call_of 21 (Value.slice b ys.length cb); refine HV2'.out.mono ?_; rintro e w' ⟨rfl, rfl⟩)
              | (go_at_call 23; refine HCM.out.mono ?_; rintro e w' ⟨rfl, rfl⟩))
            refine HS.out.mono ?_
            rintro e w3 ⟨rfl, hb3⟩
            have HADD := Lib.hid (refAdd_any _ _ xs ys w3 ((HA.out.below B2.out).below hb3) ((HB.out.below B2.out).below hb3) hsx hsy (by have := HLL.out; omega) (by have := HLL.out; omega))
            have HZ3 := Lib.hid (HZ.out.1.below hb3)
            have B3 := Lib.hid (B2.out.trans (hb3.mono B2.out.size))
            clear hb3 HS
            go_wp2_with fail
            refine HADD.out.mono ?_
            rintro e w4 ⟨⟨u, rfl, hu⟩, hb4⟩
            have hi := is_any v u zs _ c w4 (HZ3.out.below hb4) hu
            rw [HZ.out.2] at hi
            have HI := Lib.hid hi
            have B4 := Lib.hid (B3.out.trans (hb4.mono B3.out.size))
            clear hi hb4 hu HADD
            go_wp2_with fail
            refine HI.out.mono ?_
            rintro e w5 ⟨rfl, k5, rfl⟩
            have hr := refused_any (.slice none 0 0) [] 3 3 (w4.drewN k5) (.inl ⟨rfl, rfl⟩)
            rw [show decide ((3 : Int) = 3 ∧ ([] : List Nat).length = 0) = true by decide] at hr
            have HR := Lib.hid hr
            clear hr HI
            go_wp2_with fail
            refine HR.out.mono ?_
            rintro e w6 ⟨rfl, rfl⟩
            go_wp2_with fail
            go_ret
            exact ⟨rfl, B4.out.trans ((below_drewN w4 k5 _).mono B4.out.size)⟩
          · have e0 : decide (cmpI (Nl.val xs) (Nl.val ys) < 0) = false := by rw [decide_eq_false_iff_not, cmpI]; split <;> (try split) <;> omega
            have e1 : ¬ cmpI (Nl.val xs) (Nl.val ys) < 0 := by rw [cmpI]; split <;> (try split) <;> omega
            have hc0 : c' = codeOf 0 (Nl.val xs - Nl.val ys) := by rw [HCD.out, subK, if_pos (by omega)]
            obtain ⟨zs', hzs', hzb'⟩ := isB_out hc0 H23'.out.1 H23'.out.2
            have HZ' := Lib.hid (And.intro hzs' hzb')
            have HLE := Lib.hid (Nat.not_lt.mp hlt)
            clear hlt hc0 hzs' hzb'
            go_wp2_with (first
              | (go_at_call_of 21 (Value.slice a xs.length ca); refine HV1'.out.mono ?_; rintro e w' ⟨rfl, rfl⟩)
              | (go_at_call_of 21 (Value.slice b ys.length cb); refine HV2'.out.mono ?_; rintro e w' ⟨rfl, rfl⟩)
              | (go_at_call 23; refine HCM.out.mono ?_; rintro e w' ⟨rfl, rfl⟩))
            refine HS.out.mono ?_
            rintro e w3 ⟨rfl, hb3⟩
            have HADD := Lib.hid (refAdd_any _ _ xs ys w3 ((HA.out.below B2.out).below hb3) ((HB.out.below B2.out).below hb3) hsx hsy (by have := HLL.out; omega) (by have := HLL.out; omega))
            have HZ3 := Lib.hid (HZ.out.1.below hb3)
            have HZ3' := Lib.hid (HZ'.out.1.below hb3)
            have B3 := Lib.hid (B2.out.trans (hb3.mono B2.out.size))
            clear hb3 HS
            go_wp2_with fail
            refine HADD.out.mono ?_
            rintro e w4 ⟨⟨u, rfl, hu⟩, hb4⟩
            have hi := is_any v u zs _ c w4 (HZ3.out.below hb4) hu
            rw [HZ.out.2] at hi
            have HI := Lib.hid hi
            have HZ4' := Lib.hid (HZ3'.out.below hb4)
            have B4 := Lib.hid (B3.out.trans (hb4.mono B3.out.size))
            clear hi hb4 hu HADD
            go_wp2_with fail
            refine HI.out.mono ?_
            rintro e w5 ⟨rfl, k5, hw5⟩
            have hb5 : Below w4.heap.size w4 w5 := by rw [hw5]; exact below_drewN ..
            have B5 := Lib.hid (B4.out.trans (hb5.mono B4.out.size))
            have HZ5' := Lib.hid (HZ4'.out.below hb5)
            have hlen : ys.length ≤ xs.length := by
              rw [hle1.out.1, hle2.out.1]
              exact Nl.limbs_mono HLE.out
            have HSB := Lib.hid (refSub_any _ _ xs ys w5 (HA.out.below B5.out) (HB.out.below B5.out) hsx hsy (by have := HLL.out; omega) hlen HLE.out)
            clear hw5 hb5 HI hlen
            go_wp2_with fail
            refine HSB.out.mono ?_
            rintro e w6 ⟨⟨u', rfl, hu'⟩, hb6⟩
            have hi := is_any v' u' zs' _ c' w6 (HZ5'.out.below hb6) hu'
            rw [HZ'.out.2] at hi
            have HI := Lib.hid hi
            have B6 := Lib.hid (B5.out.trans (hb6.mono B5.out.size))
            clear hi hb6 hu' HSB
            go_wp2_with fail
            refine HI.out.mono ?_
            rintro e w7 ⟨rfl, k7, rfl⟩
            go_wp2_with fail
            go_ret
            exact ⟨rfl, B6.out.trans ((below_drewN w6 k7 _).mono B6.out.size)⟩
        · have V1 := HV1.out
          have V2 := HV2.out
          rw [hv1] at V1
          rw [show validB ys = false by simpa using hv2] at V2
          have HV1' := Lib.hid V1
          have HV2' := Lib.hid V2
          have hc1 : c = 1 := by
            rcases HC.out with ⟨_, h, _⟩ | ⟨_, h⟩
            · exact absurd h hv2
            · exact h
          have hc2 : c' = 1 := by
            rcases HC'.out with ⟨_, h, _⟩ | ⟨_, h⟩
            · exact absurd h hv2
            · exact h
          clear V1 V2 HV1 HV2 hv1 hv2 HC HC'
          have hv : v = .slice none 0 0 := H23.out.2 (by rw [hc1]; decide)
          have hv' : v' = .slice none 0 0 := H23'.out.2 (by rw [hc2]; decide)
          subst hc1
          subst hc2
          subst hv
          subst hv'
          go_wp2_with (first
            | (go_at_call_of 21 (Value.slice a xs.length ca); refine HV1'.out.mono ?_; rintro e w' ⟨rfl, rfl⟩)
            | (go_at_call_of 21 (Value.slice b ys.length cb); refine HV2'.out.mono ?_; rintro e w' ⟨rfl, rfl⟩))
          refine HS.out.mono ?_
          rintro e w3 ⟨rfl, hb3⟩
          have hr : ∀ w, Calls Tryz.prog 22 #[.slice none 0 0, .int .i64 1, .int .i64 1] w fun e w' => e = .returned (.bool true) ∧ w = w' := fun w => refused_any (.slice none 0 0) [] 1 1 w (.inl ⟨rfl, rfl⟩)
          have HR := Lib.hid hr
          have B3 := Lib.hid (B2.out.trans (hb3.mono B2.out.size))
          clear hr hb3 HS
          go_wp2_with (go_at_call 22; refine (HR.out _).mono ?_; rintro e w' ⟨rfl, rfl⟩)
          go_ret
          exact ⟨rfl, B3.out⟩
      · have V1 := HV1.out
        rw [show validB xs = false by simpa using hv1] at V1
        have HV1' := Lib.hid V1
        have HV2' := HV2
        have hc1 : c = 1 := by
          rcases HC.out with ⟨h, _, _⟩ | ⟨_, h⟩
          · exact absurd h hv1
          · exact h
        have hc2 : c' = 1 := by
          rcases HC'.out with ⟨h, _, _⟩ | ⟨_, h⟩
          · exact absurd h hv1
          · exact h
        clear V1 HV1 HV2 hv1 HC HC'
        have hv : v = .slice none 0 0 := H23.out.2 (by rw [hc1]; decide)
        have hv' : v' = .slice none 0 0 := H23'.out.2 (by rw [hc2]; decide)
        subst hc1
        subst hc2
        subst hv
        subst hv'
        go_wp2_with (first
          | (go_at_call_of 21 (Value.slice a xs.length ca); refine HV1'.out.mono ?_; rintro e w' ⟨rfl, rfl⟩)
          | (go_at_call_of 21 (Value.slice b ys.length cb); refine HV2'.out.mono ?_; rintro e w' ⟨rfl, rfl⟩))
        refine HS.out.mono ?_
        rintro e w3 ⟨rfl, hb3⟩
        have hr : ∀ w, Calls Tryz.prog 22 #[.slice none 0 0, .int .i64 1, .int .i64 1] w fun e w' => e = .returned (.bool true) ∧ w = w' := fun w => refused_any (.slice none 0 0) [] 1 1 w (.inl ⟨rfl, rfl⟩)
        have HR := Lib.hid hr
        have B3 := Lib.hid (B2.out.trans (hb3.mono B2.out.size))
        clear hr hb3 HS
        go_wp2_with (go_at_call 22; refine (HR.out _).mono ?_; rintro e w' ⟨rfl, rfl⟩)
        go_ret
        exact ⟨rfl, B3.out⟩
    · have L1 := HL1.out
      have L2 := HL2.out
      rw [decide_eq_true hla] at L1
      rw [decide_eq_false hlb] at L2
      have HL1' := Lib.hid L1
      have HL2' := Lib.hid L2
      have HS := Lib.hid (sanity_any w)
      clear L1 L2 HL1 HL2 hla hlb
      go_enter Tryz.func3, Tryz.ntmps3
      go_wp2_with (first
        | (go_at_call_of 17 (Value.slice a xs.length ca); refine HL1'.out.mono ?_; rintro e w' ⟨rfl, rfl⟩)
        | (go_at_call_of 17 (Value.slice b ys.length cb); refine HL2'.out.mono ?_; rintro e w' ⟨rfl, rfl⟩))
      refine HS.out.mono ?_
      rintro e w3 ⟨rfl, hb3⟩
      have B3 := Lib.hid hb3
      clear hb3
      go_wp2_with fail
      go_ret
      exact ⟨rfl, B3.out⟩
  · have L1 := HL1.out
    rw [decide_eq_false hla] at L1
    have HL1' := Lib.hid L1
    have HS := Lib.hid (sanity_any w)
    clear L1 HL1 HL2 hla
    go_enter Tryz.func3, Tryz.ntmps3
    go_wp2_with (go_at_call_of 17 (Value.slice a xs.length ca); refine HL1'.out.mono ?_; rintro e w' ⟨rfl, rfl⟩)
    refine HS.out.mono ?_
    rintro e w3 ⟨rfl, hb3⟩
    have B3 := Lib.hid hb3
    clear hb3
    go_wp2_with fail
    go_ret
    exact ⟨rfl, B3.out⟩
end Go.Proofs.YtfaledeidjmooaaGreat
