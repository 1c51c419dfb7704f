/-
  NatDivision returns true for any three slices. Conditions: those that each theorem names.
-/
import Derived.Test.YtfaledeidjmooaaGreatQuotNum
namespace Go.Proofs.YtfaledeidjmooaaGreat
open Go.RowKit

theorem divMod_of {c b r : Nat} (h : r < b) : (c * b + r) / b = c ∧ (c * b + r) % b = r := by
  have hb : 0 < b := by omega
  rw [Nat.mul_comm]
  exact ⟨by rw [Nat.mul_add_div hb, Nat.div_eq_of_lt h, Nat.add_zero], by rw [Nat.mul_add_mod, Nat.mod_eq_of_lt h]⟩

set_option maxRecDepth 10000 in
set_option maxHeartbeats 4000000 in
theorem natDivision_num (va vb vc : Value) (x y z : Nat) (w : World) (ha : At w va (Nl.limbs x)) (hb : At w vb (Nl.limbs y)) (hc : At w vc (Nl.limbs z))
    (lx : (Nl.limbs x).length ≤ 1024) (ly : (Nl.limbs y).length ≤ 1024) (lz : (Nl.limbs z).length ≤ 200) (hy : y ≠ 0) :
    Calls Tryz.prog 13 #[va, vb, vc] w fun e w' => e = .returned (.bool true) ∧ Below w.heap.size w w' := by
  obtain ⟨w0, hw0⟩ : ∃ w0, w0 = w.alloc (.cells #[va, vb] 23) := ⟨_, rfl⟩
  have b0 : Below w.heap.size w w0 := by rw [hw0]; exact below_new w _
  obtain ⟨w1, hw1⟩ : ∃ w1, w1 = w0.alloc (.cells #[vc] 23) := ⟨_, rfl⟩
  have b1 : Below w.heap.size w w1 := by rw [hw1]; exact b0.trans ((below_new w0 _).mono b0.size)
  have n2 := numbers_two va vb (Nl.limbs x) (Nl.limbs y) 1024 w ha hb (by decide)
  rw [numB_yes lx (by decide), numB_yes ly (by decide), ← hw0] at n2
  have n1 := numbers_one vc (Nl.limbs z) 200 w0 (hc.below b0) (by decide)
  rw [numB_yes lz (by decide), ← hw1] at n1
  have N2 := Lib.hid n2
  have N1 := Lib.hid n1
  have HW := Lib.hid (And.intro hw0 hw1)
  have HA := Lib.hid (ha.below b1)
  have HB := Lib.hid (hb.below b1)
  have HC := Lib.hid (hc.below b1)
  have B1 := Lib.hid b1
  have hyp := Nat.pos_of_ne_zero hy
  have hly := Nl.len_pos hy
  have e0 : (((Nl.limbs y).length : Int) == 0) = false := by rw [beq_eq_false_iff_ne]; omega
  obtain ⟨q, hq⟩ : ∃ q, q = x / y := ⟨_, rfl⟩
  obtain ⟨r, hr⟩ : ∃ r, r = x % y := ⟨_, rfl⟩
  have hqr : q * y + r = x := by rw [hq, hr, Nat.mul_comm]; exact Nat.div_add_mod x y
  have hrl : r < y := by rw [hr]; exact Nat.mod_lt _ hyp
  have lq : (Nl.limbs q).length ≤ 1024 := Nat.le_trans (Nl.limbs_mono (by rw [hq]; exact Nat.div_le_self _ _)) lx
  have lr : (Nl.limbs r).length ≤ 1024 := Nat.le_trans (Nl.limbs_mono (Nat.le_of_lt hrl)) ly
  have lqy : (Nl.limbs (q * y)).length ≤ 1024 := Nat.le_trans (Nl.limbs_mono (by omega)) lx
  have hcm := cmpI_lt hrl
  have HX := Lib.hid (And.intro hqr (And.intro hrl (And.intro lx (And.intro ly (And.intro lz (And.intro lq (And.intro lr (And.intro lqy hcm))))))))
  have HQ := Lib.hid (And.intro hq hr)
  have HY := Lib.hid hy
  obtain ⟨pa, ca, rfl, -⟩ := ha.form
  obtain ⟨pb, cb, rfl, -⟩ := hb.form
  obtain ⟨pc, cc, rfl, -⟩ := hc.form
  clear ha hb hc b0 b1 n1 n2 hw0 hw1 hyp hly hqr hrl lq lr lqy hcm hq hr hy lx ly lz
  go_enter Tryz.func13, Tryz.ntmps13
  go_wp2_with fail
  rw [← HW.out.1]
  refine N2.out.mono ?_
  rintro e w' ⟨rfl, rfl⟩
  go_wp2_with fail
  rw [← HW.out.2]
  refine N1.out.mono ?_
  rintro e w' ⟨rfl, rfl⟩
  clear N1 N2 HW
  go_wp2_with fail
  refine (div_num _ _ x y w1 HA.out HB.out HX.out.2.2.1 HX.out.2.2.2.1 HY.out).mono ?_
  rintro e w2 ⟨vq, vr, rfl, hq2, hr2, hb2⟩
  rw [← HQ.out.1] at hq2
  rw [← HQ.out.2] at hr2
  have Q2 := Lib.hid hq2
  have R2 := Lib.hid hr2
  have B2 := Lib.hid (B1.out.trans (hb2.mono B1.out.size))
  have HA2 := Lib.hid (HA.out.below hb2)
  have HB2 := Lib.hid (HB.out.below hb2)
  have HC2 := Lib.hid (HC.out.below hb2)
  clear hq2 hr2 hb2 HA HB HC B1
  go_wp2_with fail
  refine (mul_fits vq _ q y w2 Q2.out HB2.out HX.out.2.2.2.2.2.1 HX.out.2.2.2.1 HX.out.2.2.2.2.2.2.2.1).mono ?_
  rintro e w3 ⟨vp, rfl, hp3, hb3⟩
  have P3 := Lib.hid hp3
  have N3 := Lib.hid hb3
  clear hp3 hb3
  go_wp2_with fail
  refine (add_fits vp vr (q * y) r w3 P3.out (R2.out.below N3.out) HX.out.2.2.2.2.2.2.2.1 HX.out.2.2.2.2.2.2.1 (by rw [HX.out.1]; exact HX.out.2.2.1)).mono ?_
  rintro e w4 ⟨vs, rfl, hs4, hb4⟩
  rw [HX.out.1] at hs4
  have S4 := Lib.hid hs4
  have N4 := Lib.hid (N3.out.trans (hb4.mono N3.out.size))
  clear hs4 hb4 N3 P3
  go_wp2_with fail
  refine (cmp_num vr _ r y w4 (R2.out.below N4.out) (HB2.out.below N4.out) HX.out.2.2.2.2.2.2.1 HX.out.2.2.2.1).mono ?_
  rintro e w5 ⟨rfl, j, h5⟩
  rw [HX.out.2.2.2.2.2.2.2.2]
  have hb5 : Below w4.heap.size w4 w5 := by rw [h5]; exact below_drewN _ _ _
  have S5 := Lib.hid (S4.out.below hb5)
  have N5 := Lib.hid (N4.out.trans (hb5.mono N4.out.size))
  clear hb5 h5 S4 N4
  have SY := Lib.hid (same_yes vs _ (Nl.limbs x) w5 S5.out (HA2.out.below N5.out))
  go_wp2_with (go_at_call 34; refine SY.out.mono ?_; rintro e w' ⟨rfl, k6, rfl⟩)
  obtain ⟨w6, hw6⟩ : ∃ w6, w6 = w5.drewN k6 := ⟨_, rfl⟩
  rw [← hw6]
  have hb6 : Below w2.heap.size w2 w6 := by rw [hw6]; exact N5.out.trans ((below_drewN _ _ _).mono N5.out.size)
  have N6 := Lib.hid hb6
  have hlz : (Nl.limbs z).length ≤ 1024 := by have := HX.out.2.2.2.2.1; omega
  have HLZ := Lib.hid hlz
  have HM := Lib.hid (mul_gen _ _ z y w6 (HC2.out.below hb6) (HB2.out.below hb6) hlz HX.out.2.2.2.1)
  obtain ⟨C, hC⟩ : ∃ C, C = mulC z y := ⟨_, rfl⟩
  rw [← hC] at HM
  have HCC := Lib.hid hC
  clear hw6 hb6 SY N5 S5 w5 hC hlz
  refine HM.out.mono ?_
  rintro e w7 ⟨vm, rfl, hm7, hb7⟩
  have N7 := Lib.hid (N6.out.trans (hb7.mono N6.out.size))
  by_cases hC0 : C = 0
  · rw [if_pos hC0] at hm7
    have M7 := Lib.hid hm7
    have hf : (Nl.limbs (z * y)).length ≤ 1024 := by
      have h := HCC.out
      rw [hC0, mulC] at h
      by_cases h1 : (Nl.limbs (z * y)).length ≤ 1024
      · exact h1
      · rw [if_neg h1] at h; exact absurd h (by decide)
    obtain ⟨D, hD⟩ : ∃ D, D = addC (z * y) r := ⟨_, rfl⟩
    have HS := Lib.hid (add_gen vm _ (z * y) r w7 M7.out (R2.out.below N7.out) hf HX.out.2.2.2.2.2.2.1)
    rw [← hD] at HS
    have HDD := Lib.hid hD
    subst hC0
    clear hm7 hb7 hD HM N6 hf
    go_wp2_with fail
    refine HS.out.mono ?_
    rintro e w8 ⟨vt, rfl, ht8, hb8⟩
    have N8 := Lib.hid (N7.out.trans (hb8.mono N7.out.size))
    by_cases hD0 : D = 0
    · rw [if_pos hD0] at ht8
      have T8 := Lib.hid ht8
      have hf : (Nl.limbs (z * y + r)).length ≤ 1024 := by
        have h := HDD.out
        rw [hD0, addC] at h
        by_cases h1 : (Nl.limbs (z * y + r)).length ≤ 1024
        · exact h1
        · rw [if_neg h1] at h; exact absurd h (by decide)
      have hdm := divMod_of (c := z) HX.out.2.1
      have HD2 := Lib.hid (div_num vt _ (z * y + r) y w8 T8.out (HB2.out.below N8.out) hf HX.out.2.2.2.1 HY.out)
      rw [hdm.1, hdm.2] at HD2
      subst hD0
      clear ht8 hb8 N7 HS M7 hf hdm
      go_wp2_with fail
      refine HD2.out.mono ?_
      rintro e w9 ⟨vx, vy, rfl, hx9, hy9, hb9⟩
      have X9 := Lib.hid (And.intro hx9 hy9)
      have N9 := Lib.hid (N8.out.trans (hb9.mono N8.out.size))
      clear hx9 hy9 hb9 N8 HD2 T8
      go_wp2_with fail
      refine (sanity_any w9).mono ?_
      rintro e w10 ⟨rfl, hb10⟩
      have N10 := Lib.hid (N9.out.trans (hb10.mono N9.out.size))
      have X10 := Lib.hid (And.intro (X9.out.1.below hb10) (X9.out.2.below hb10))
      clear hb10 N9 X9
      have SY1 := Lib.hid (same_yes vx _ (Nl.limbs z) w10 X10.out.1 (HC2.out.below N10.out))
      go_wp2_with fail
      refine SY1.out.mono ?_
      rintro e w11 ⟨rfl, k11, h11⟩
      have N11 := Lib.hid (N10.out.trans ((show Below w10.heap.size w10 w11 by rw [h11]; exact below_drewN _ _ _).mono N10.out.size))
      have Y11 := Lib.hid (X10.out.2.below (show Below w10.heap.size w10 w11 by rw [h11]; exact below_drewN _ _ _))
      have SY2 := Lib.hid (same_yes vy vr (Nl.limbs r) w11 Y11.out (R2.out.below N11.out))
      clear h11 X10 N10 SY1
      go_wp2_with fail
      refine SY2.out.mono ?_
      rintro e w12 ⟨rfl, k12, h12⟩
      have N12 := Lib.hid (N11.out.trans ((show Below w11.heap.size w11 w12 by rw [h12]; exact below_drewN _ _ _).mono N11.out.size))
      clear h12 N11 SY2 Y11
      go_wp2_with fail
      go_ret
      exact ⟨rfl, B2.out.trans (N12.out.mono B2.out.size)⟩
    · have t1 : ((D : Int) == 0) = false := by rw [beq_eq_false_iff_ne]; exact hD0
      clear ht8 hb8 N7 HS M7 hD0
      go_wp2_with fail
      refine (sanity_any w8).mono ?_
      rintro e w10 ⟨rfl, hb10⟩
      have N10 := Lib.hid (N8.out.trans (hb10.mono N8.out.size))
      clear hb10 N8
      go_wp2_with fail
      go_ret
      exact ⟨rfl, B2.out.trans (N10.out.mono B2.out.size)⟩
  · rw [if_neg hC0, ← Nl.limbs_zero] at hm7
    have t1 : ((C : Int) == 0) = false := by rw [beq_eq_false_iff_ne]; exact hC0
    have HS := Lib.hid (add_fits vm _ 0 r w7 hm7 (R2.out.below N7.out) (by rw [Nl.limbs_zero]; simp) HX.out.2.2.2.2.2.2.1 (by rw [Nat.zero_add]; exact HX.out.2.2.2.2.2.2.1))
    clear hm7 hb7 HM N6
    go_wp2_with fail
    refine HS.out.mono ?_
    rintro e w8 ⟨vt, rfl, ht8, hb8⟩
    have N8 := Lib.hid (N7.out.trans (hb8.mono N7.out.size))
    clear ht8 hb8 N7 HS
    go_wp2_with fail
    refine (sanity_any w8).mono ?_
    rintro e w10 ⟨rfl, hb10⟩
    have N10 := Lib.hid (N8.out.trans (hb10.mono N8.out.size))
    clear hb10 N8
    go_wp2_with fail
    go_ret
    exact ⟨rfl, B2.out.trans (N10.out.mono B2.out.size)⟩

set_option maxRecDepth 10000 in
set_option maxHeartbeats 4000000 in
theorem natDivision_any (va vb vc : Value) (xs ys zs : List Nat) (w : World) (ha : At w va xs) (hb : At w vb ys) (hc : At w vc zs) (hsx : Nl.Small xs) (hsy : Nl.Small ys) (hsz : Nl.Small zs) :
    Calls Tryz.prog 13 #[va, vb, vc] w fun e w' => e = .returned (.bool true) ∧ Below w.heap.size w w' := by
  obtain ⟨w0, hw0⟩ : ∃ w0, w0 = w.alloc (.cells #[va, vb] 23) := ⟨_, rfl⟩
  have b0 : Below w.heap.size w w0 := by rw [hw0]; exact below_new w _
  obtain ⟨w1, hw1⟩ : ∃ w1, w1 = w0.alloc (.cells #[vc] 23) := ⟨_, rfl⟩
  have b1 : Below w.heap.size w w1 := by rw [hw1]; exact b0.trans ((below_new w0 _).mono b0.size)
  have n2 := numbers_two va vb xs ys 1024 w ha hb (by decide)
  have n1 := numbers_one vc zs 200 w0 (hc.below b0) (by decide)
  rw [← hw0] at n2
  rw [← hw1] at n1
  by_cases h1 : (numB 1024 xs && numB 1024 ys) = true
  · by_cases h2 : numB 200 zs = true
    · by_cases h3 : ys.length = 0
      · rw [h1] at n2
        rw [h2] at n1
        have N2 := Lib.hid n2
        have N1 := Lib.hid n1
        have HW := Lib.hid (And.intro hw0 hw1)
        have B1 := Lib.hid b1
        obtain ⟨pa, ca, rfl, -⟩ := ha.form
        obtain ⟨pb, cb, rfl, -⟩ := hb.form
        obtain ⟨pc, cc, rfl, -⟩ := hc.form
        have e0 : ((ys.length : Int) == 0) = true := by simp [h3]
        clear ha hb hc b0 b1 n1 n2 hw0 hw1 h1 h2 h3
        go_enter Tryz.func13, Tryz.ntmps13
        go_wp2_with fail
        rw [← HW.out.1]
        refine N2.out.mono ?_
        rintro e w' ⟨rfl, rfl⟩
        go_wp2_with fail
        rw [← HW.out.2]
        refine N1.out.mono ?_
        rintro e w' ⟨rfl, rfl⟩
        clear N1 N2 HW
        go_wp2_with fail
        refine (sanity_any w1).mono ?_
        rintro e w2 ⟨rfl, hb2⟩
        have B2 := Lib.hid (B1.out.trans (hb2.mono B1.out.size))
        clear hb2
        go_wp2_with fail
        go_ret
        exact ⟨rfl, B2.out⟩
      · simp only [numB, Bool.and_eq_true, decide_eq_true_eq] at h1 h2
        obtain ⟨⟨lx, vx⟩, ly, vy⟩ := h1
        obtain ⟨lz, vz⟩ := h2
        have ex := at_limbs ha hsx vx
        have ey := at_limbs hb hsy vy
        have ez := at_limbs hc hsz vz
        have hy : Nl.val ys ≠ 0 := by
          intro h
          rw [ey, h, Nl.limbs_zero] at h3
          exact h3 rfl
        rw [ex] at ha lx
        rw [ey] at hb ly
        rw [ez] at hc lz
        exact natDivision_num va vb vc _ _ _ w ha hb hc lx ly lz hy
    · rw [h1] at n2
      rw [show numB 200 zs = false by simpa using h2] at n1
      have N2 := Lib.hid n2
      have N1 := Lib.hid n1
      have HW := Lib.hid (And.intro hw0 hw1)
      have B1 := Lib.hid b1
      obtain ⟨pa, ca, rfl, -⟩ := ha.form
      obtain ⟨pb, cb, rfl, -⟩ := hb.form
      obtain ⟨pc, cc, rfl, -⟩ := hc.form
      clear ha hb hc b0 b1 n1 n2 hw0 hw1 h1 h2
      go_enter Tryz.func13, Tryz.ntmps13
      go_wp2_with fail
      rw [← HW.out.1]
      refine N2.out.mono ?_
      rintro e w' ⟨rfl, rfl⟩
      go_wp2_with fail
      rw [← HW.out.2]
      refine N1.out.mono ?_
      rintro e w' ⟨rfl, rfl⟩
      clear N1 N2 HW
      go_wp2_with fail
      refine (sanity_any w1).mono ?_
      rintro e w2 ⟨rfl, hb2⟩
      have B2 := Lib.hid (B1.out.trans (hb2.mono B1.out.size))
      clear hb2
      go_wp2_with fail
      go_ret
      exact ⟨rfl, B2.out⟩
  · rw [show (numB 1024 xs && numB 1024 ys) = false by simpa using h1] at n2
    have N2 := Lib.hid n2
    have HW := Lib.hid hw0
    have B0 := Lib.hid b0
    obtain ⟨pa, ca, rfl, -⟩ := ha.form
    obtain ⟨pb, cb, rfl, -⟩ := hb.form
    obtain ⟨pc, cc, rfl, -⟩ := hc.form
    clear ha hb hc b0 b1 n1 n2 hw0 hw1 h1
    go_enter Tryz.func13, Tryz.ntmps13
    go_wp2_with fail
    rw [← HW.out]
    refine N2.out.mono ?_
    rintro e w' ⟨rfl, rfl⟩
    clear N2 HW
    go_wp2_with fail
    refine (sanity_any w0).mono ?_
    rintro e w2 ⟨rfl, hb2⟩
    have B2 := Lib.hid (B0.out.trans (hb2.mono B0.out.size))
    clear hb2
    go_wp2_with fail
    go_ret
    exact ⟨rfl, B2.out⟩
end Go.Proofs.YtfaledeidjmooaaGreat
