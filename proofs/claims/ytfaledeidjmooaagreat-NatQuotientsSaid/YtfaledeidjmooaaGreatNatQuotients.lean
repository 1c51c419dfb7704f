/-
  NatQuotients returns true for any two slices. Conditions: those that each theorem names.
-/
import Derived.Test.YtfaledeidjmooaaGreatQuotRef
import Derived.Test.YtfaledeidjmooaaGreatNatGcd
import Derived.Test.YtfaledeidjmooaaGreatOut
namespace Go.Proofs.YtfaledeidjmooaaGreat
open Go.RowKit

theorem is_ok {v u : Value} {m : Nat} {w : World} (hv : At w v (Nl.limbs m)) (hu : At w u (Nl.limbs m)) (h : (Nl.limbs m).length ≤ 1024) :
    Calls Tryz.prog 24 #[v, .int .i64 0, u] w fun e w' => e = .returned (.bool true) ∧ Below w.heap.size w w' := by
  have := is_any v u _ _ 0 w hv hu
  rw [isB, if_pos h, sameB_self, show (decide ((0 : Int) = 0) && true) = true from rfl] at this
  refine this.mono ?_
  rintro e w' ⟨he, k, rfl⟩
  exact ⟨he, below_drewN _ _ _⟩
theorem same_ok {v u : Value} {m : Nat} {w : World} (hv : At w v (Nl.limbs m)) (hu : At w u (Nl.limbs m)) :
    Calls Tryz.prog 34 #[v, u] w fun e w' => e = .returned (.bool true) ∧ Below w.heap.size w w' := by
  refine (same_yes v u _ w hv hu).mono ?_
  rintro e w' ⟨he, k, rfl⟩
  exact ⟨he, below_drewN _ _ _⟩
/-- the two calls, when an argument is not valid -/
theorem div_bad {va vb : Value} {xs ys : List Nat} {w : World} (ha : At w va xs) (hb : At w vb ys) (hsx : Nl.Small xs) (hsy : Nl.Small ys) (h : (validB xs && validB ys) = false) :
    Calls Tryz.prog 31 #[va, vb] w fun e w' => Gives2 w w' e 1 [] [] := by
  refine (div_all va vb xs ys w ha hb hsx hsy).mono ?_
  rintro e w' hp
  obtain ⟨c, hc, hg⟩ := hp.gives
  rw [h, if_neg (by decide)] at hc
  subst hc
  simpa using hg
theorem gcd_bad {va vb : Value} {xs ys : List Nat} {w : World} (ha : At w va xs) (hb : At w vb ys) (hsx : Nl.Small xs) (hsy : Nl.Small ys) (h : (validB xs && validB ys) = false) :
    Calls Tryz.prog 32 #[va, vb] w fun e w' => Gives w w' e 1 [] := by
  refine (gcd_all va vb xs ys w ha hb hsx hsy).mono ?_
  rintro e w' hp
  have hg := hp.gives
  rw [h, numOf, errOf, if_neg (by decide), if_neg (by decide)] at hg
  exact hg
theorem div_zero {va vb : Value} {m : Nat} {w : World} (ha : At w va (Nl.limbs m)) (hb : At w vb (Nl.limbs 0)) (hm : (Nl.limbs m).length ≤ 1024) :
    Calls Tryz.prog 31 #[va, vb] w fun e w' => Gives2 w w' e 8 [] [] := by
  have h0 : (Nl.limbs 0).length ≤ 1024 := by rw [Nl.limbs_zero]; decide
  refine (div_all va vb _ _ w ha hb (Nl.limbs_small m) (Nl.limbs_small 0)).mono ?_
  rintro e w' hp
  obtain ⟨c, hc, hg⟩ := hp.gives
  rw [validB_limbs hm, validB_limbs h0, if_pos (show (true && true) = true from rfl), Nl.val_limbs, divK, if_neg (fun h => absurd h.2 (by decide)), if_pos rfl] at hc
  subst hc
  simpa using hg

set_option maxRecDepth 10000 in
set_option maxHeartbeats 2000000 in
/-- the law behind its first test, for lists that are not both valid -/
theorem quot_bad (va vb : Value) (xs ys : List Nat) (w : World) (ha : At w va xs) (hb : At w vb ys) (hsx : Nl.Small xs) (hsy : Nl.Small ys) (hlx : xs.length ≤ 120 ∨ 1024 < xs.length) (hly : ys.length ≤ 60) (hbad : (validB xs && validB ys) = false) :
    Calls Tryz.prog 5 #[va, vb] w fun e w' => e = .returned (.bool true) ∧ Below w.heap.size w w' := by
  have HA := Lib.hid ha
  have HB := Lib.hid hb
  have HL1 := Lib.hid (light_any va xs 120 w ha)
  have hl2 := light_any vb ys 60 w hb
  rw [decide_eq_true hly] at hl2
  have HL2 := Lib.hid hl2
  have HD := Lib.hid (div_bad ha hb hsx hsy hbad)
  obtain ⟨pa, ca, rfl, -⟩ := ha.form
  obtain ⟨pb, cb, rfl, -⟩ := hb.form
  have HG := Lib.hid (fun w' (h : Below w.heap.size w w') => gcd_bad (ha.below h) (hb.below h) hsx hsy hbad)
  have HV := Lib.hid (fun w' (h : Below w.heap.size w w') => refValid_any _ xs w' (ha.below h))
  have HW := Lib.hid (fun w' (h : Below w.heap.size w w') => refValid_any _ ys w' (hb.below h))
  have HBAD := Lib.hid hbad
  obtain ⟨bx, hbx⟩ : ∃ b, b = validB xs := ⟨_, rfl⟩
  obtain ⟨by', hby⟩ : ∃ b, b = validB ys := ⟨_, rfl⟩
  rw [← hbx] at HV
  rw [← hby] at HW
  rw [← hbx, ← hby] at HBAD
  clear ha hb hl2 hbad hbx hby hsx hsy
  rcases hlx with hlx | hlx
  · have L1 := HL1.out
    rw [decide_eq_true hlx] at L1
    have HL1' := Lib.hid L1
    clear L1 HL1
    go_enter Tryz.func5, Tryz.ntmps5
    go_wp2_with (first
      | (go_at_call_of 17 (Value.slice pa xs.length ca); refine HL1'.out.mono ?_; rintro e w' ⟨rfl, rfl⟩)
      | (go_at_call_of 17 (Value.slice pb ys.length cb); refine HL2.out.mono ?_; rintro e w' ⟨rfl, rfl⟩))
    refine HD.out.mono ?_
    rintro e w1 ⟨u, v, rfl, hu, hv, hb1⟩
    have HU1 := Lib.hid hu
    have HV1 := Lib.hid hv
    have B1 := Lib.hid hb1
    have HGG := Lib.hid (HG.out w1 hb1)
    clear hu hv hb1 HD
    go_wp2_with fail
    refine HGG.out.mono ?_
    rintro e w2 ⟨d, rfl, hd, hb2⟩
    have HU2 := Lib.hid (HU1.out.below hb2)
    have HV2 := Lib.hid (HV1.out.below hb2)
    have HD2 := Lib.hid hd
    have B2 := Lib.hid (B1.out.trans (hb2.mono B1.out.size))
    have HVX := Lib.hid (HV.out w2 B2.out)
    have HVY := Lib.hid (HW.out w2 B2.out)
    clear hd hb2 HGG HU1 HV1
    obtain ⟨pv, cv, rfl, -⟩ := HV2.out.form
    cases bx with
    | false =>
      go_wp2_with (go_at_call_of 21 (Value.slice pa xs.length ca); refine HVX.out.mono ?_; rintro e w' ⟨rfl, rfl⟩)
      refine (sanity_any w2).mono ?_
      rintro e w3 ⟨rfl, hb3⟩
      have HU3 := Lib.hid (refused_yes u 1 w3 (HU2.out.below hb3))
      have HD3 := Lib.hid (refused_yes d 1 w3 (HD2.out.below hb3))
      have B3 := Lib.hid (B2.out.trans (hb3.mono B2.out.size))
      clear hb3
      go_wp2_with fail
      refine HU3.out.mono ?_
      rintro e w4 ⟨rfl, rfl⟩
      go_wp2_with fail
      refine HD3.out.mono ?_
      rintro e w4 ⟨rfl, rfl⟩
      go_wp2_with fail
      go_ret
      exact ⟨rfl, B3.out⟩
    | true =>
      cases by' with
      | true => exact absurd HBAD.out (by decide)
      | false =>
        go_wp2_with (first
          | (go_at_call_of 21 (Value.slice pa xs.length ca); refine HVX.out.mono ?_; rintro e w' ⟨rfl, rfl⟩)
          | (go_at_call_of 21 (Value.slice pb ys.length cb); refine HVY.out.mono ?_; rintro e w' ⟨rfl, rfl⟩))
        refine (sanity_any w2).mono ?_
        rintro e w3 ⟨rfl, hb3⟩
        have HU3 := Lib.hid (refused_yes u 1 w3 (HU2.out.below hb3))
        have HD3 := Lib.hid (refused_yes d 1 w3 (HD2.out.below hb3))
        have B3 := Lib.hid (B2.out.trans (hb3.mono B2.out.size))
        clear hb3
        go_wp2_with fail
        refine HU3.out.mono ?_
        rintro e w4 ⟨rfl, rfl⟩
        go_wp2_with fail
        refine HD3.out.mono ?_
        rintro e w4 ⟨rfl, rfl⟩
        go_wp2_with fail
        go_ret
        exact ⟨rfl, B3.out⟩
  · have L1 := HL1.out
    rw [decide_eq_false (by omega)] at L1
    have HL1' := Lib.hid L1
    have t0 : decide (xs.length ≤ 1024) = false := decide_eq_false (by omega)
    have t1 : decide ((xs.length : Int) ≤ 1024) = false := decide_eq_false (by omega)
    clear L1 HL1
    go_enter Tryz.func5, Tryz.ntmps5
    go_wp2_with (first
      | (go_at_call_of 17 (Value.slice pa xs.length ca); refine HL1'.out.mono ?_; rintro e w' ⟨rfl, rfl⟩)
      | (go_at_call_of 17 (Value.slice pb ys.length cb); refine HL2.out.mono ?_; rintro e w' ⟨rfl, rfl⟩))
    refine HD.out.mono ?_
    rintro e w1 ⟨u, v, rfl, hu, hv, hb1⟩
    have HU1 := Lib.hid hu
    have HV1 := Lib.hid hv
    have B1 := Lib.hid hb1
    have HGG := Lib.hid (HG.out w1 hb1)
    clear hu hv hb1 HD
    go_wp2_with fail
    refine HGG.out.mono ?_
    rintro e w2 ⟨d, rfl, hd, hb2⟩
    have HU2 := Lib.hid (HU1.out.below hb2)
    have HV2 := Lib.hid (HV1.out.below hb2)
    have HD2 := Lib.hid hd
    have B2 := Lib.hid (B1.out.trans (hb2.mono B1.out.size))
    have HVX := Lib.hid (HV.out w2 B2.out)
    have HVY := Lib.hid (HW.out w2 B2.out)
    clear hd hb2 HGG HU1 HV1
    obtain ⟨pv, cv, rfl, -⟩ := HV2.out.form
    cases bx with
    | false =>
      go_wp2_with (go_at_call_of 21 (Value.slice pa xs.length ca); refine HVX.out.mono ?_; rintro e w' ⟨rfl, rfl⟩)
      refine (sanity_any w2).mono ?_
      rintro e w3 ⟨rfl, hb3⟩
      have HU3 := Lib.hid (refused_yes u 1 w3 (HU2.out.below hb3))
      have HD3 := Lib.hid (refused_yes d 1 w3 (HD2.out.below hb3))
      have B3 := Lib.hid (B2.out.trans (hb3.mono B2.out.size))
      clear hb3
      go_wp2_with fail
      refine HU3.out.mono ?_
      rintro e w4 ⟨rfl, rfl⟩
      go_wp2_with fail
      refine HD3.out.mono ?_
      rintro e w4 ⟨rfl, rfl⟩
      go_wp2_with fail
      go_ret
      exact ⟨rfl, B3.out⟩
    | true =>
      cases by' with
      | true => exact absurd HBAD.out (by decide)
      | false =>
        go_wp2_with (first
          | (go_at_call_of 21 (Value.slice pa xs.length ca); refine HVX.out.mono ?_; rintro e w' ⟨rfl, rfl⟩)
          | (go_at_call_of 21 (Value.slice pb ys.length cb); refine HVY.out.mono ?_; rintro e w' ⟨rfl, rfl⟩))
        refine (sanity_any w2).mono ?_
        rintro e w3 ⟨rfl, hb3⟩
        have HU3 := Lib.hid (refused_yes u 1 w3 (HU2.out.below hb3))
        have HD3 := Lib.hid (refused_yes d 1 w3 (HD2.out.below hb3))
        have B3 := Lib.hid (B2.out.trans (hb3.mono B2.out.size))
        clear hb3
        go_wp2_with fail
        refine HU3.out.mono ?_
        rintro e w4 ⟨rfl, rfl⟩
        go_wp2_with fail
        refine HD3.out.mono ?_
        rintro e w4 ⟨rfl, rfl⟩
        go_wp2_with fail
        go_ret
        exact ⟨rfl, B3.out⟩

set_option maxRecDepth 10000 in
set_option maxHeartbeats 2000000 in
theorem quot_zero (va vb : Value) (m n LA LB : Nat) (w : World) (ha : At w va (Nl.limbs m)) (hb : At w vb (Nl.limbs n)) (hLA : (Nl.limbs m).length = LA) (hLB : (Nl.limbs n).length = LB) (hla : LA ≤ 120) (hlb : LB ≤ 60) (hn0 : n = 0) :
    Calls Tryz.prog 5 #[va, vb] w fun e w' => e = .returned (.bool true) ∧ Below w.heap.size w w' := by
  have HA := Lib.hid ha
  have HB := Lib.hid hb
  have hl1 := light_any va _ 120 w ha
  rw [hLA, decide_eq_true hla] at hl1
  have HL1 := Lib.hid hl1
  have hl2 := light_any vb _ 60 w hb
  rw [hLB, decide_eq_true hlb] at hl2
  have HL2 := Lib.hid hl2
  have HD := Lib.hid (div_zero (m := m) ha (by rw [← hn0]; exact hb) (by omega))
  obtain ⟨pa, ca, rfl, -⟩ := ha.form
  obtain ⟨pb, cb, rfl, -⟩ := hb.form
  have HG := Lib.hid (fun w' (h : Below w.heap.size w w') => gcd_num _ _ m n w' (ha.below h) (hb.below h) (by omega) (by omega))
  have HV := Lib.hid (fun w' (h : Below w.heap.size w w') => (refValid_any _ _ w' (ha.below h)))
  have HW := Lib.hid (fun w' (h : Below w.heap.size w w') => (refValid_any _ _ w' (hb.below h)))
  have HVB := Lib.hid (And.intro (validB_limbs (m := m) (by omega)) (validB_limbs (m := n) (by omega)))
  rw [HVB.out.1] at HV
  rw [HVB.out.2] at HW
  have HLL := Lib.hid (And.intro hLA hLB)
  have HN := Lib.hid hn0
  have t5 : ((LB : Int) == 0) = true := by rw [← hLB, hn0, Nl.limbs_zero]; rfl
  have HGE := Lib.hid (show Nat.gcd m n = m by rw [hn0, Nat.gcd_zero_right])
  rw [hLA] at HA HL1 HD HG HV ⊢
  rw [hLB] at HB HL2 HD HG HW ⊢
  clear ha hb hl1 hl2 hLA hLB hn0
  go_enter Tryz.func5, Tryz.ntmps5
  go_wp2_with (first
    | (go_at_call_of 17 (Value.slice pa LA ca); refine HL1.out.mono ?_; rintro e w' ⟨rfl, rfl⟩)
    | (go_at_call_of 17 (Value.slice pb LB cb); refine HL2.out.mono ?_; rintro e w' ⟨rfl, rfl⟩))
  refine HD.out.mono ?_
  rintro e w1 ⟨u, v, rfl, hu, hv, hb1⟩
  have HU1 := Lib.hid hu
  have HV1 := Lib.hid hv
  have B1 := Lib.hid hb1
  have HGG := Lib.hid (HG.out w1 hb1)
  clear hu hv hb1 HD HG
  go_wp2_with fail
  refine HGG.out.mono ?_
  rintro e w2 ⟨d, rfl, hd, hb2⟩
  have HU2 := Lib.hid (HU1.out.below hb2)
  have HV2 := Lib.hid (HV1.out.below hb2)
  have HD2 := Lib.hid hd
  have B2 := Lib.hid (B1.out.trans (hb2.mono B1.out.size))
  have HVX := Lib.hid (HV.out w2 B2.out)
  have HVY := Lib.hid (HW.out w2 B2.out)
  clear hd hb2 HGG HU1 HV1 HV HW
  obtain ⟨pv, cv, rfl, -⟩ := HV2.out.form
  go_wp2_with (first
    | (go_at_call_of 21 (Value.slice pa LA ca); refine HVX.out.mono ?_; rintro e w' ⟨rfl, rfl⟩)
    | (go_at_call_of 21 (Value.slice pb LB cb); refine HVY.out.mono ?_; rintro e w' ⟨rfl, rfl⟩))
  refine (sanity_any w2).mono ?_
  rintro e w3 ⟨rfl, hb3⟩
  have HU3 := Lib.hid (refused_yes u 8 w3 (HU2.out.below hb3))
  have B3 := Lib.hid (B2.out.trans (hb3.mono B2.out.size))
  have hd3 := HD2.out.below hb3
  rw [HGE.out] at hd3
  have ha3 := HA.out.below B3.out
  have HIS := Lib.hid (is_ok hd3 ha3 (by rw [HLL.out.1]; omega))
  clear hb3 hd3 ha3
  go_wp2_with fail
  refine HU3.out.mono ?_
  rintro e w4 ⟨rfl, rfl⟩
  go_wp2_with fail
  refine HIS.out.mono ?_
  rintro e w4 ⟨rfl, hb4⟩
  have B4 := Lib.hid (B3.out.trans (hb4.mono B3.out.size))
  clear hb4
  go_wp2_with fail
  go_ret
  exact ⟨rfl, B4.out⟩

set_option maxRecDepth 10000 in
set_option maxHeartbeats 2000000 in
theorem quot_num (va vb : Value) (m n LA LB : Nat) (w : World) (ha : At w va (Nl.limbs m)) (hb : At w vb (Nl.limbs n)) (hLA : (Nl.limbs m).length = LA) (hLB : (Nl.limbs n).length = LB) (hla : LA ≤ 120) (hlb : LB ≤ 60) (hn0 : n ≠ 0) :
    Calls Tryz.prog 5 #[va, vb] w fun e w' => e = .returned (.bool true) ∧ Below w.heap.size w w' := by
  have HA := Lib.hid ha
  have HB := Lib.hid hb
  have hl1 := light_any va _ 120 w ha
  rw [hLA, decide_eq_true hla] at hl1
  have HL1 := Lib.hid hl1
  have hl2 := light_any vb _ 60 w hb
  rw [hLB, decide_eq_true hlb] at hl2
  have HL2 := Lib.hid hl2
  have HD := Lib.hid (div_num va vb m n w ha hb (by omega) (by omega) hn0)
  obtain ⟨pa, ca, rfl, -⟩ := ha.form
  obtain ⟨pb, cb, rfl, -⟩ := hb.form
  have HG := Lib.hid (fun w' (h : Below w.heap.size w w') => gcd_num _ _ m n w' (ha.below h) (hb.below h) (by omega) (by omega))
  have HV := Lib.hid (fun w' (h : Below w.heap.size w w') => (refValid_any _ _ w' (ha.below h)))
  have HW := Lib.hid (fun w' (h : Below w.heap.size w w') => (refValid_any _ _ w' (hb.below h)))
  have HVB := Lib.hid (And.intro (validB_limbs (m := m) (by omega)) (validB_limbs (m := n) (by omega)))
  rw [HVB.out.1] at HV
  rw [HVB.out.2] at HW
  have HLL := Lib.hid (And.intro hLA hLB)
  have HN := Lib.hid hn0
  have hLp := Nl.len_pos hn0
  have t5 : ((LB : Int) == 0) = false := by rw [beq_eq_false_iff_ne]; omega
  have HGL := Lib.hid (show (Nl.limbs (Nat.gcd m n)).length ≤ 1024 from Nat.le_trans (Nl.limbs_mono (Nat.gcd_le_right m (Nat.pos_of_ne_zero hn0))) (by omega))
  have HQL := Lib.hid (show (Nl.limbs (m / n)).length ≤ 1024 from Nat.le_trans (Nl.limbs_mono (Nat.div_le_self m n)) (by omega))
  clear hLp
  rw [hLA] at HA HL1 HD HG HV ⊢
  rw [hLB] at HB HL2 HD HG HW ⊢
  clear ha hb hl1 hl2 hLA hLB hn0
  go_enter Tryz.func5, Tryz.ntmps5
  go_wp2_with (first
    | (go_at_call_of 17 (Value.slice pa LA ca); refine HL1.out.mono ?_; rintro e w' ⟨rfl, rfl⟩)
    | (go_at_call_of 17 (Value.slice pb LB cb); refine HL2.out.mono ?_; rintro e w' ⟨rfl, rfl⟩))
  refine HD.out.mono ?_
  rintro e w1 ⟨u, v, rfl, hu, hv, hb1⟩
  have HU1 := Lib.hid hu
  have HV1 := Lib.hid hv
  have B1 := Lib.hid hb1
  have HGG := Lib.hid (HG.out w1 hb1)
  clear hu hv hb1 HD HG
  go_wp2_with fail
  refine HGG.out.mono ?_
  rintro e w2 ⟨d, rfl, hd, hb2⟩
  have HU2 := Lib.hid (HU1.out.below hb2)
  have HV2 := Lib.hid (HV1.out.below hb2)
  have HD2 := Lib.hid hd
  have B2 := Lib.hid (B1.out.trans (hb2.mono B1.out.size))
  have HVX := Lib.hid (HV.out w2 B2.out)
  have HVY := Lib.hid (HW.out w2 B2.out)
  clear hd hb2 HGG HU1 HV1 HV HW
  obtain ⟨pv, cv, rfl, -⟩ := HV2.out.form
  go_wp2_with (first
    | (go_at_call_of 21 (Value.slice pa LA ca); refine HVX.out.mono ?_; rintro e w' ⟨rfl, rfl⟩)
    | (go_at_call_of 21 (Value.slice pb LB cb); refine HVY.out.mono ?_; rintro e w' ⟨rfl, rfl⟩))
  refine (refDiv_any _ _ m n w2 (HA.out.below B2.out) (HB.out.below B2.out) (by rw [HLL.out.1]; omega) (by rw [HLL.out.2]; omega) HN.out).mono ?_
  rintro e w3 ⟨⟨x, y, rfl, hx, hy⟩, hb3⟩
  obtain ⟨px, cx, hxe, -⟩ := (show At w3 x _ from hx).form
  obtain ⟨py, cy, hye, -⟩ := (show At w3 y _ from hy).form
  subst hxe hye
  have HX3 := Lib.hid (show At w3 _ _ from hx)
  have HY3 := Lib.hid (show At w3 _ _ from hy)
  have HU3 := Lib.hid (HU2.out.below hb3)
  have HV3 := Lib.hid (HV2.out.below hb3)
  have HD3 := Lib.hid (HD2.out.below hb3)
  have B3 := Lib.hid (B2.out.trans (hb3.mono B2.out.size))
  clear hx hy hb3 HU2 HV2 HD2 B2
  obtain ⟨w4, hw4⟩ : ∃ w4, w4 = w3.alloc (.cells #[.slice px (Nl.limbs (m / n)).length cx, .slice py (Nl.limbs (m % n)).length cy] 42) := ⟨_, rfl⟩
  have hbx4 : w4.heap[w3.heap.size]? = some (.cells #[.slice px (Nl.limbs (m / n)).length cx, .slice py (Nl.limbs (m % n)).length cy] 42 (0, 0)) := by rw [hw4]; exact heap_alloc_new _ _
  have hb4 : Below w3.heap.size w3 w4 := by rw [hw4]; exact below_al w3 _
  have HBX4 := Lib.hid hbx4
  have HX4 := Lib.hid (HX3.out.below hb4)
  have HY4 := Lib.hid (HY3.out.below hb4)
  have HU4 := Lib.hid (HU3.out.below hb4)
  have HV4 := Lib.hid (HV3.out.below hb4)
  have HD4 := Lib.hid (HD3.out.below hb4)
  have B4 := Lib.hid (B3.out.trans (hb4.mono B3.out.size))
  clear hb4 hbx4 HX3 HY3 HU3 HV3 HD3 B3
  by_cases hbig : LA > 30 ∨ LB > 30
  · have t6 : (decide ((LA : Int) > 30) || decide ((LB : Int) > 30)) = true := by simp; omega
    by_cases hA30 : LA > 30
    · have t7 : decide ((LA : Int) > 30) = true := decide_eq_true (by omega)
      clear hbig t6
      go_wp2_with fail
      rw [← hw4]
      clear hw4
      refine (sanity_any w4).mono ?_
      rintro e w5 ⟨rfl, hb5⟩
      have HIS := Lib.hid (is_ok (HU4.out.below hb5) (HX4.out.below hb5) HQL.out)
      have HV5 := Lib.hid (HV4.out.below hb5)
      have HY5 := Lib.hid (HY4.out.below hb5)
      have HD5 := Lib.hid (HD4.out.below hb5)
      have HB5 := Lib.hid ((hb5.block _ (lt_of_block HBX4.out)).trans HBX4.out)
      have c0 := cell_of_row _ _ 0 _ _ (0, 0) HB5.out
      have c1 := cell_of_row _ _ 1 _ _ (0, 0) HB5.out
      have B5 := Lib.hid (B4.out.trans (hb5.mono B4.out.size))
      clear hb5
      go_wp2_with fail
      clear c0 c1
      refine HIS.out.mono ?_
      rintro e w6 ⟨rfl, hb6⟩
      have HB6 := (hb6.block _ (lt_of_block HB5.out)).trans HB5.out
      have c0 := cell_of_row _ _ 0 _ _ (0, 0) HB6
      have c1 := cell_of_row _ _ 1 _ _ (0, 0) HB6
      have HSM := Lib.hid (same_ok (HV5.out.below hb6) (HY5.out.below hb6))
      have HD6 := Lib.hid (HD5.out.below hb6)
      have B6 := Lib.hid (B5.out.trans (hb6.mono B5.out.size))
      clear hb6 HB6
      go_wp2_with fail
      refine HSM.out.mono ?_
      rintro e w7 ⟨rfl, hb7⟩
      have HD7 := Lib.hid (HD6.out.below hb7)
      have B7 := Lib.hid (B6.out.trans (hb7.mono B6.out.size))
      clear hb7 c0 c1
      go_wp2_with fail
      go_ret
      exact ⟨rfl, B7.out⟩
    · have t7 : decide ((LA : Int) > 30) = false := decide_eq_false (by omega)
      have t8 : decide ((LB : Int) > 30) = true := decide_eq_true (by omega)
      clear hbig t6
      go_wp2_with fail
      rw [← hw4]
      clear hw4
      refine (sanity_any w4).mono ?_
      rintro e w5 ⟨rfl, hb5⟩
      have HIS := Lib.hid (is_ok (HU4.out.below hb5) (HX4.out.below hb5) HQL.out)
      have HV5 := Lib.hid (HV4.out.below hb5)
      have HY5 := Lib.hid (HY4.out.below hb5)
      have HD5 := Lib.hid (HD4.out.below hb5)
      have HB5 := Lib.hid ((hb5.block _ (lt_of_block HBX4.out)).trans HBX4.out)
      have c0 := cell_of_row _ _ 0 _ _ (0, 0) HB5.out
      have c1 := cell_of_row _ _ 1 _ _ (0, 0) HB5.out
      have B5 := Lib.hid (B4.out.trans (hb5.mono B4.out.size))
      clear hb5
      go_wp2_with fail
      clear c0 c1
      refine HIS.out.mono ?_
      rintro e w6 ⟨rfl, hb6⟩
      have HB6 := (hb6.block _ (lt_of_block HB5.out)).trans HB5.out
      have c0 := cell_of_row _ _ 0 _ _ (0, 0) HB6
      have c1 := cell_of_row _ _ 1 _ _ (0, 0) HB6
      have HSM := Lib.hid (same_ok (HV5.out.below hb6) (HY5.out.below hb6))
      have HD6 := Lib.hid (HD5.out.below hb6)
      have B6 := Lib.hid (B5.out.trans (hb6.mono B5.out.size))
      clear hb6 HB6
      go_wp2_with fail
      refine HSM.out.mono ?_
      rintro e w7 ⟨rfl, hb7⟩
      have HD7 := Lib.hid (HD6.out.below hb7)
      have B7 := Lib.hid (B6.out.trans (hb7.mono B6.out.size))
      clear hb7 c0 c1
      go_wp2_with fail
      go_ret
      exact ⟨rfl, B7.out⟩
  · have t7 : decide ((LA : Int) > 30) = false := decide_eq_false (by omega)
    have t8 : decide ((LB : Int) > 30) = false := decide_eq_false (by omega)
    go_wp2_with fail
    rw [← hw4]
    clear hw4
    refine (sanity_any w4).mono ?_
    rintro e w5 ⟨rfl, hb5⟩
    have HIS := Lib.hid (is_ok (HU4.out.below hb5) (HX4.out.below hb5) HQL.out)
    have HV5 := Lib.hid (HV4.out.below hb5)
    have HY5 := Lib.hid (HY4.out.below hb5)
    have HD5 := Lib.hid (HD4.out.below hb5)
    have HB5 := Lib.hid ((hb5.block _ (lt_of_block HBX4.out)).trans HBX4.out)
    have c0 := cell_of_row _ _ 0 _ _ (0, 0) HB5.out
    have c1 := cell_of_row _ _ 1 _ _ (0, 0) HB5.out
    have B5 := Lib.hid (B4.out.trans (hb5.mono B4.out.size))
    clear hb5
    go_wp2_with fail
    clear c0 c1
    refine HIS.out.mono ?_
    rintro e w6 ⟨rfl, hb6⟩
    have HB6 := (hb6.block _ (lt_of_block HB5.out)).trans HB5.out
    have c0 := cell_of_row _ _ 0 _ _ (0, 0) HB6
    have c1 := cell_of_row _ _ 1 _ _ (0, 0) HB6
    have HSM := Lib.hid (same_ok (HV5.out.below hb6) (HY5.out.below hb6))
    have HD6 := Lib.hid (HD5.out.below hb6)
    have B6 := Lib.hid (B5.out.trans (hb6.mono B5.out.size))
    clear hb6 HB6
    go_wp2_with fail
    refine HSM.out.mono ?_
    rintro e w7 ⟨rfl, hb7⟩
    have HD7 := Lib.hid (HD6.out.below hb7)
    have B7 := Lib.hid (B6.out.trans (hb7.mono B6.out.size))
    clear hb7 c0 c1
    go_wp2_with fail
    refine (refGcd_any _ _ m n w7 (HA.out.below B7.out) (HB.out.below B7.out) (by rw [HLL.out.1]; omega) (by rw [HLL.out.2]; omega)).mono ?_
    rintro e w8 ⟨⟨g, rfl, hg⟩, hb8⟩
    have HIG := Lib.hid (is_ok (HD7.out.below hb8) hg HGL.out)
    have B8 := Lib.hid (B7.out.trans (hb8.mono B7.out.size))
    clear hg hb8
    go_wp2_with fail
    refine HIG.out.mono ?_
    rintro e w9 ⟨rfl, hb9⟩
    have B9 := Lib.hid (B8.out.trans (hb9.mono B8.out.size))
    clear hb9
    go_wp2_with fail
    go_ret
    exact ⟨rfl, B9.out⟩

set_option maxRecDepth 10000 in
set_option maxHeartbeats 1000000 in
theorem natQuotients_any (va vb : Value) (xs ys : List Nat) (w : World) (ha : At w va xs) (hb : At w vb ys) (hsx : Nl.Small xs) (hsy : Nl.Small ys) :
    Calls Tryz.prog 5 #[va, vb] w fun e w' => e = .returned (.bool true) ∧ Below w.heap.size w w' := by
  by_cases hl : (xs.length ≤ 120 ∨ 1024 < xs.length) ∧ ys.length ≤ 60
  · obtain ⟨hlx, hly⟩ := hl
    by_cases hbad : (validB xs && validB ys) = true
    · have h2 := hbad
      rw [Bool.and_eq_true] at h2
      obtain ⟨ex, lx⟩ := validB_eq hsx h2.1
      obtain ⟨ey, ly⟩ := validB_eq hsy h2.2
      have lx2 : xs.length ≤ 120 := by rw [← ex] at lx; omega
      rw [ex] at ha lx2
      rw [ey] at hb hly
      by_cases h0 : Nl.val ys = 0
      · exact quot_zero va vb _ _ _ _ w ha hb rfl rfl lx2 hly h0
      · exact quot_num va vb _ _ _ _ w ha hb rfl rfl lx2 hly h0
    · exact quot_bad va vb xs ys w ha hb hsx hsy hlx hly (by simpa using hbad)
  · have HL1 := Lib.hid (light_any va xs 120 w ha)
    have HL2 := Lib.hid (light_any vb ys 60 w hb)
    obtain ⟨pa, ca, rfl, -⟩ := ha.form
    obtain ⟨pb, cb, rfl, -⟩ := hb.form
    clear ha hb
    by_cases h1 : xs.length ≤ 120
    · have L1 := HL1.out
      rw [decide_eq_true h1] at L1
      have L2 := HL2.out
      rw [decide_eq_false (fun h => hl ⟨.inl h1, h⟩)] at L2
      have HL1' := Lib.hid L1
      have HL2' := Lib.hid L2
      clear L1 L2 HL1 HL2 hl
      go_enter Tryz.func5, Tryz.ntmps5
      go_wp2_with (first
        | (go_at_call_of 17 (Value.slice pa xs.length ca); refine HL1'.out.mono ?_; rintro e w' ⟨rfl, rfl⟩)
        | (go_at_call_of 17 (Value.slice pb ys.length cb); refine HL2'.out.mono ?_; rintro e w' ⟨rfl, rfl⟩))
      refine (sanity_any w).mono ?_
      rintro e w1 ⟨rfl, hb1⟩
      have B1 := Lib.hid hb1
      clear hb1
      go_wp2_with fail
      go_ret
      exact ⟨rfl, B1.out⟩
    · have L1 := HL1.out
      rw [decide_eq_false h1] at L1
      have HL1' := Lib.hid L1
      clear L1 HL1
      by_cases h3 : xs.length ≤ 1024
      · have t0 : decide (xs.length ≤ 1024) = true := decide_eq_true h3
        have t1 : decide ((xs.length : Int) ≤ 1024) = true := decide_eq_true (by omega)
        have HL2' := HL2
        clear hl
        go_enter Tryz.func5, Tryz.ntmps5
        go_wp2_with (first
          | (go_at_call_of 17 (Value.slice pa xs.length ca); refine HL1'.out.mono ?_; rintro e w' ⟨rfl, rfl⟩)
          | (go_at_call_of 17 (Value.slice pb ys.length cb); refine HL2'.out.mono ?_; rintro e w' ⟨rfl, rfl⟩))
        refine (sanity_any w).mono ?_
        rintro e w1 ⟨rfl, hb1⟩
        have B1 := Lib.hid hb1
        clear hb1
        go_wp2_with fail
        go_ret
        exact ⟨rfl, B1.out⟩
      · have t0 : decide (xs.length ≤ 1024) = false := decide_eq_false h3
        have t1 : decide ((xs.length : Int) ≤ 1024) = false := decide_eq_false (by omega)
        have L2 := HL2.out
        rw [decide_eq_false (fun h => hl ⟨.inr (by omega), h⟩)] at L2
        have HL2' := Lib.hid L2
        clear L2 HL2 hl
        go_enter Tryz.func5, Tryz.ntmps5
        go_wp2_with (first
          | (go_at_call_of 17 (Value.slice pa xs.length ca); refine HL1'.out.mono ?_; rintro e w' ⟨rfl, rfl⟩)
          | (go_at_call_of 17 (Value.slice pb ys.length cb); refine HL2'.out.mono ?_; rintro e w' ⟨rfl, rfl⟩))
        refine (sanity_any w).mono ?_
        rintro e w1 ⟨rfl, hb1⟩
        have B1 := Lib.hid hb1
        clear hb1
        go_wp2_with fail
        go_ret
        exact ⟨rfl, B1.out⟩
end Go.Proofs.YtfaledeidjmooaaGreat
