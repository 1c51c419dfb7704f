/-
  NatGcd returns true for any three slices. Conditions: those that each theorem names.
-/
import Derived.Test.YtfaledeidjmooaaGreatQuotNum
import Derived.Test.YtfaledeidjmooaaGreatCommon
import Derived.Test.YtfaledeidjmooaaGreatGcd
namespace Go.Proofs.YtfaledeidjmooaaGreat
open Go.RowKit

theorem gcd_len {m n : Nat} (hm : (Nl.limbs m).length ≤ 1024) (hn : (Nl.limbs n).length ≤ 1024) : (Nl.limbs (Nat.gcd m n)).length ≤ 1024 := by
  by_cases h : m = 0
  · rw [h, Nat.gcd_zero_left]; exact hn
  · exact Nat.le_trans (Nl.limbs_mono (Nat.gcd_le_left n (Nat.pos_of_ne_zero h))) hm
theorem gcd_all (va vb : Value) (xs ys : List Nat) (w : World) (ha : At w va xs) (hb : At w vb ys) (hsx : Nl.Small xs) (hsy : Nl.Small ys) :
    Calls Tryz.prog 32 #[va, vb] w fun e w' => Res2 w w' e xs ys 0 (Nat.gcd (Nl.val xs) (Nl.val ys)) :=
  gcd_any va vb xs ys _ w ha hb fun v1 v2 w' hw => common_start va vb _ _ w' ((ha.num hsx v1).below hw) ((hb.num hsy v2).below hw) (validB_eq hsx v1).2 (validB_eq hsy v2).2
theorem gcd_num (va vb : Value) (m n : Nat) (w : World) (ha : At w va (Nl.limbs m)) (hb : At w vb (Nl.limbs n)) (hm : (Nl.limbs m).length ≤ 1024) (hn : (Nl.limbs n).length ≤ 1024) :
    Calls Tryz.prog 32 #[va, vb] w fun e w' => GivesN w w' e (Nat.gcd m n) := by
  have h := gcd_all va vb _ _ w ha hb (Nl.limbs_small m) (Nl.limbs_small n)
  rw [Nl.val_limbs, Nl.val_limbs] at h
  exact h.mono fun e w' h => h.num hm hn rfl (gcd_len hm hn)

set_option maxRecDepth 10000 in
set_option maxHeartbeats 4000000 in
theorem natGcd_num (va vb vc : Value) (x y z : Nat) (w : World) (ha : At w va (Nl.limbs x)) (hb : At w vb (Nl.limbs y)) (hc : At w vc (Nl.limbs z))
    (lx : (Nl.limbs x).length ≤ 60) (ly : (Nl.limbs y).length ≤ 60) (lz : (Nl.limbs z).length ≤ 60) :
    Calls Tryz.prog 15 #[va, vb, vc] w fun e w' => e = .returned (.bool true) ∧ Below w.heap.size w w' := by
  obtain ⟨pa, ca, rfl, -⟩ := ha.form
  obtain ⟨pb, cb, rfl, -⟩ := hb.form
  obtain ⟨pc, cc, rfl, -⟩ := hc.form
  have bn := below_three w (.slice pa (Nl.limbs x).length ca) (.slice pb (Nl.limbs y).length cb) (.slice pc (Nl.limbs z).length cc)
  have HN := Lib.hid (numbers_yes _ _ _ (Nl.limbs x) (Nl.limbs y) (Nl.limbs z) 60 w ha hb hc ⟨lx, validB_limbs (by omega)⟩ ⟨ly, validB_limbs (by omega)⟩ ⟨lz, validB_limbs (by omega)⟩ (by decide))
  obtain ⟨d, hd⟩ : ∃ d, d = Nat.gcd x y := ⟨_, rfl⟩
  have ld : (Nl.limbs d).length ≤ 60 := by
    rw [hd]
    by_cases h : x = 0
    · rw [h, Nat.gcd_zero_left]; exact ly
    · exact Nat.le_trans (Nl.limbs_mono (Nat.gcd_le_left y (Nat.pos_of_ne_zero h))) lx
  have l1 := Nl.len_mul x z
  have l2 := Nl.len_mul y z
  have l3 := Nl.len_mul d z
  have LL := Lib.hid (And.intro lx (And.intro ly (And.intro lz (And.intro ld (And.intro l1 (And.intro l2 l3))))))
  have HD := Lib.hid hd
  have HA := Lib.hid (ha.below bn)
  have HB := Lib.hid (hb.below bn)
  have HC := Lib.hid (hc.below bn)
  have B0 := Lib.hid bn
  clear ha hb hc bn lx ly lz l1 l2 l3 ld hd
  go_enter Tryz.func15, Tryz.ntmps15
  go_wp2_with fail
  refine HN.out.mono ?_
  rintro e w' ⟨rfl, rfl⟩
  obtain ⟨w0, hw0⟩ : ∃ w0, w0 = w.alloc (.cells #[.slice pa (Nl.limbs x).length ca, .slice pb (Nl.limbs y).length cb, .slice pc (Nl.limbs z).length cc] 23) := ⟨_, rfl⟩
  rw [← hw0] at HA HB HC B0 ⊢
  clear hw0 HN
  go_wp2_with fail
  refine (gcd_num _ _ x y w0 HA.out HB.out (by have := LL.out; omega) (by have := LL.out; omega)).mono ?_
  rintro e w1 ⟨vd, rfl, hvd, hb1⟩
  rw [← HD.out] at hvd
  obtain ⟨pd, cd, rfl, -⟩ := hvd.form
  have D1 := Lib.hid hvd
  have N1 := Lib.hid hb1
  clear hvd hb1
  go_wp2_with fail
  refine (gcd_num _ _ y x w1 (HB.out.below N1.out) (HA.out.below N1.out) (by have := LL.out; omega) (by have := LL.out; omega)).mono ?_
  rintro e w2 ⟨vo, rfl, hvo, hb2⟩
  rw [Nat.gcd_comm y x, ← HD.out] at hvo
  have D2 := Lib.hid (D1.out.below hb2)
  have N2 := Lib.hid (N1.out.trans (hb2.mono N1.out.size))
  have SY := Lib.hid (same_yes _ vo (Nl.limbs d) w2 D2.out hvo)
  clear hvo hb2 D1 N1
  go_wp2_with (go_at_call 34; refine SY.out.mono ?_; rintro e w' ⟨rfl, k3, rfl⟩)
  obtain ⟨w3, hw3⟩ : ∃ w3, w3 = w2.drewN k3 := ⟨_, rfl⟩
  rw [← hw3]
  have hb3 : Below w2.heap.size w2 w3 := by rw [hw3]; exact below_drewN ..
  have D3 := Lib.hid (D2.out.below hb3)
  have N3 := Lib.hid (N2.out.trans (hb3.mono N2.out.size))
  clear hw3 hb3 SY D2 N2
  refine (mul_num _ _ x z w3 (HA.out.below N3.out) (HC.out.below N3.out) (by have := LL.out; omega)).mono ?_
  rintro e w4 ⟨vac, rfl, h4, hb4⟩
  have AC4 := Lib.hid h4
  have D4 := Lib.hid (D3.out.below hb4)
  have N4 := Lib.hid (N3.out.trans (hb4.mono N3.out.size))
  clear h4 hb4 D3 N3
  go_wp2_with fail
  refine (mul_num _ _ y z w4 (HB.out.below N4.out) (HC.out.below N4.out) (by have := LL.out; omega)).mono ?_
  rintro e w5 ⟨vbc, rfl, h5, hb5⟩
  have BC5 := Lib.hid h5
  have AC5 := Lib.hid (AC4.out.below hb5)
  have D5 := Lib.hid (D4.out.below hb5)
  have N5 := Lib.hid (N4.out.trans (hb5.mono N4.out.size))
  clear h5 hb5 D4 N4 AC4
  go_wp2_with fail
  refine (mul_num _ _ d z w5 D5.out (HC.out.below N5.out) (by have := LL.out; omega)).mono ?_
  rintro e w6 ⟨vdc, rfl, h6, hb6⟩
  have DC6 := Lib.hid h6
  have BC6 := Lib.hid (BC5.out.below hb6)
  have AC6 := Lib.hid (AC5.out.below hb6)
  have D6 := Lib.hid (D5.out.below hb6)
  have N6 := Lib.hid (N5.out.trans (hb6.mono N5.out.size))
  clear h6 hb6 D5 N5 AC5 BC5
  go_wp2_with fail
  refine (gcd_num vac vbc (x * z) (y * z) w6 AC6.out BC6.out (by have := LL.out; omega) (by have := LL.out; omega)).mono ?_
  rintro e w7 ⟨vg, rfl, h7, hb7⟩
  rw [Nat.gcd_mul_right, ← HD.out] at h7
  have D7 := Lib.hid (D6.out.below hb7)
  have N7 := Lib.hid (N6.out.trans (hb7.mono N6.out.size))
  have SY := Lib.hid (same_yes vg vdc (Nl.limbs (d * z)) w7 h7 (DC6.out.below hb7))
  clear h7 hb7 D6 N6 AC6 BC6 DC6
  by_cases hd0 : d = 0
  · have hx0 : x = 0 := Nat.eq_zero_of_gcd_eq_zero_left (HD.out.symm.trans hd0)
    have hy0 : y = 0 := Nat.eq_zero_of_gcd_eq_zero_right (HD.out.symm.trans hd0)
    have t1 : (((Nl.limbs d).length : Int) == 0) = true := by rw [hd0, Nl.limbs_zero]; rfl
    have t2 : (Nl.limbs x).length = 0 := by rw [hx0, Nl.limbs_zero]; rfl
    have t3 : (Nl.limbs y).length = 0 := by rw [hy0, Nl.limbs_zero]; rfl
    clear hd0 hx0 hy0
    go_wp2_with (go_at_call 34; refine SY.out.mono ?_; rintro e w' ⟨rfl, k8, rfl⟩)
    refine (sanity_any _).mono ?_
    rintro e w8 ⟨rfl, hb8⟩
    have N8 := Lib.hid (N7.out.trans (Below.trans (b := w7.drewN k8) ((below_drewN w7 k8 _).mono N7.out.size) (hb8.mono N7.out.size)))
    clear hb8 N7
    go_wp2_with fail
    go_ret
    exact ⟨rfl, B0.out.trans (N8.out.mono B0.out.size)⟩
  · have t1 : (((Nl.limbs d).length : Int) == 0) = false := by have := Nl.len_pos hd0; rw [beq_eq_false_iff_ne]; omega
    have hdx : x % d = 0 := Nat.mod_eq_zero_of_dvd (by rw [HD.out]; exact Nat.gcd_dvd_left x y)
    have hdy : y % d = 0 := Nat.mod_eq_zero_of_dvd (by rw [HD.out]; exact Nat.gcd_dvd_right x y)
    have HDX := Lib.hid (And.intro hdx (And.intro hdy hd0))
    clear hd0 hdx hdy
    go_wp2_with (go_at_call 34; refine SY.out.mono ?_; rintro e w' ⟨rfl, k8, rfl⟩)
    obtain ⟨w8, hw8⟩ : ∃ w8, w8 = w7.drewN k8 := ⟨_, rfl⟩
    rw [← hw8]
    have hb8 : Below w7.heap.size w7 w8 := by rw [hw8]; exact below_drewN ..
    have D8 := Lib.hid (D7.out.below hb8)
    have N8 := Lib.hid (N7.out.trans (hb8.mono N7.out.size))
    clear hw8 hb8 SY D7 N7
    refine (div_num _ _ x d w8 (HA.out.below N8.out) D8.out (by have := LL.out; omega) (by have := LL.out; omega) HDX.out.2.2).mono ?_
    rintro e w9 ⟨vq, vr, rfl, -, hr9, hb9⟩
    rw [HDX.out.1, Nl.limbs_zero] at hr9
    obtain ⟨pr, cr, rfl, -⟩ := hr9.form
    have D9 := Lib.hid (D8.out.below hb9)
    have N9 := Lib.hid (N8.out.trans (hb9.mono N8.out.size))
    clear hr9 hb9 D8 N8
    go_wp2_with fail
    refine (div_num _ _ y d w9 (HB.out.below N9.out) D9.out (by have := LL.out; omega) (by have := LL.out; omega) HDX.out.2.2).mono ?_
    rintro e w10 ⟨vq2, vs, rfl, -, hs10, hb10⟩
    rw [HDX.out.2.1, Nl.limbs_zero] at hs10
    obtain ⟨ps, cs, rfl, -⟩ := hs10.form
    have D10 := Lib.hid (D9.out.below hb10)
    have N10 := Lib.hid (N9.out.trans (hb10.mono N9.out.size))
    clear hs10 hb10 D9 N9
    by_cases hz0 : z = 0
    · have t2 : (((Nl.limbs z).length : Int) == 0) = true := by rw [hz0, Nl.limbs_zero]; rfl
      clear hz0
      go_wp2_with fail
      refine (sanity_any _).mono ?_
      rintro e w11 ⟨rfl, hb11⟩
      have N11 := Lib.hid (N10.out.trans (hb11.mono N10.out.size))
      clear hb11 N10
      go_wp2_with fail
      go_ret
      exact ⟨rfl, B0.out.trans (N11.out.mono B0.out.size)⟩
    · have t2 : (((Nl.limbs z).length : Int) == 0) = false := by have := Nl.len_pos hz0; rw [beq_eq_false_iff_ne]; omega
      have HZ := Lib.hid hz0
      clear hz0
      go_wp2_with fail
      refine (div_num _ _ x z w10 (HA.out.below N10.out) (HC.out.below N10.out) (by have := LL.out; omega) (by have := LL.out; omega) HZ.out).mono ?_
      rintro e w11 ⟨vq3, vr3, rfl, -, hr11, hb11⟩
      obtain ⟨pr3, cr3, rfl, -⟩ := hr11.form
      have D11 := Lib.hid (D10.out.below hb11)
      have N11 := Lib.hid (N10.out.trans (hb11.mono N10.out.size))
      clear hr11 hb11 D10 N10
      go_wp2_with fail
      refine (div_num _ _ y z w11 (HB.out.below N11.out) (HC.out.below N11.out) (by have := LL.out; omega) (by have := LL.out; omega) HZ.out).mono ?_
      rintro e w12 ⟨vq4, vs4, rfl, -, hs12, hb12⟩
      obtain ⟨ps4, cs4, rfl, -⟩ := hs12.form
      have D12 := Lib.hid (D11.out.below hb12)
      have N12 := Lib.hid (N11.out.trans (hb12.mono N11.out.size))
      clear hs12 hb12 D11 N11
      go_wp2_with fail
      refine (div_num _ _ d z w12 D12.out (HC.out.below N12.out) (by have := LL.out; omega) (by have := LL.out; omega) HZ.out).mono ?_
      rintro e w13 ⟨vq5, vt5, rfl, -, ht13, hb13⟩
      obtain ⟨pt5, ct5, rfl, -⟩ := ht13.form
      have N13 := Lib.hid (N12.out.trans (hb13.mono N12.out.size))
      clear ht13 hb13 D12 N12
      obtain ⟨R, hR⟩ : ∃ R, R = (Nl.limbs (x % z)).length := ⟨_, rfl⟩
      obtain ⟨S, hS⟩ : ∃ S, S = (Nl.limbs (y % z)).length := ⟨_, rfl⟩
      obtain ⟨T, hT⟩ : ∃ T, T = (Nl.limbs (d % z)).length := ⟨_, rfl⟩
      rw [← hR, ← hS, ← hT]
      have hRb : R ≤ 60 := by rw [hR]; exact Nat.le_trans (Nl.limbs_mono (Nat.mod_le x z)) (by have := LL.out; omega)
      have hSb : S ≤ 60 := by rw [hS]; exact Nat.le_trans (Nl.limbs_mono (Nat.mod_le y z)) (by have := LL.out; omega)
      have hRST : R + S = 0 → T = 0 := by
        intro h
        have h1 : x % z = 0 := Nl.len_zero (by omega)
        have h2 : y % z = 0 := Nl.len_zero (by omega)
        have h3 : d % z = 0 := Nat.mod_eq_zero_of_dvd (by rw [HD.out]; exact Nat.dvd_gcd (Nat.dvd_of_mod_eq_zero h1) (Nat.dvd_of_mod_eq_zero h2))
        rw [hT, h3, Nl.limbs_zero]
        rfl
      have HR := Lib.hid hRST
      clear hR hS hT hRST
      have SN := Lib.hid (sanity_any w13)
      by_cases h0 : R + S = 0
      · have h1 := HR.out h0
        have t3 : decide ((R : Int) + (S : Int) > 0) = false := decide_eq_false (by omega)
        have t4 : ((T : Int) == 0) = true := by simp [h1]
        clear h0 h1
        go_wp2_with (go_at_call 18; refine SN.out.mono ?_; rintro e w14 ⟨rfl, hb14⟩; have N14 := Lib.hid (N13.out.trans (hb14.mono N13.out.size)); clear hb14)
        go_ret
        exact ⟨rfl, B0.out.trans (N14.out.mono B0.out.size)⟩
      · have t3 : decide ((R : Int) + (S : Int) > 0) = true := decide_eq_true (by omega)
        clear h0
        go_wp2_with (go_at_call 18; refine SN.out.mono ?_; rintro e w14 ⟨rfl, hb14⟩; have N14 := Lib.hid (N13.out.trans (hb14.mono N13.out.size)); clear hb14)
        go_ret
        exact ⟨rfl, B0.out.trans (N14.out.mono B0.out.size)⟩

set_option maxRecDepth 10000 in
set_option maxHeartbeats 1000000 in
theorem natGcd_any (va vb vc : Value) (xs ys zs : List Nat) (w : World) (ha : At w va xs) (hb : At w vb ys) (hc : At w vc zs) (hsx : Nl.Small xs) (hsy : Nl.Small ys) (hsz : Nl.Small zs) :
    Calls Tryz.prog 15 #[va, vb, vc] w fun e w' => e = .returned (.bool true) ∧ Below w.heap.size w w' := by
  by_cases hall : (numB 60 xs && (numB 60 ys && numB 60 zs)) = true
  · simp only [numB, Bool.and_eq_true, decide_eq_true_eq] at hall
    obtain ⟨⟨lx, vx⟩, ⟨ly, vy⟩, lz, vz⟩ := hall
    have ex := at_limbs ha hsx vx
    have ey := at_limbs hb hsy vy
    have ez := at_limbs hc hsz vz
    rw [ex] at ha lx
    rw [ey] at hb ly
    rw [ez] at hc lz
    exact natGcd_num va vb vc _ _ _ w ha hb hc lx ly lz
  · obtain ⟨pa, ca, rfl, -⟩ := ha.form
    obtain ⟨pb, cb, rfl, -⟩ := hb.form
    obtain ⟨pc, cc, rfl, -⟩ := hc.form
    have bn := below_three w (.slice pa xs.length ca) (.slice pb ys.length cb) (.slice pc zs.length cc)
    have hn := numbers_three _ _ _ xs ys zs 60 w ha hb hc (by decide)
    rw [show (numB 60 xs && (numB 60 ys && numB 60 zs)) = false by simpa using hall] at hn
    have HN := Lib.hid hn
    have BN := Lib.hid bn
    clear hall ha hb hc hn bn
    go_enter Tryz.func15, Tryz.ntmps15
    go_wp2_with fail
    refine HN.out.mono ?_
    rintro e w' ⟨rfl, rfl⟩
    go_wp2_with fail
    refine (sanity_any _).mono ?_
    rintro e w3 ⟨rfl, hb3⟩
    have B3 := Lib.hid (BN.out.trans (hb3.mono BN.out.size))
    clear hb3
    go_wp2_with fail
    go_ret
    exact ⟨rfl, B3.out⟩
end Go.Proofs.YtfaledeidjmooaaGreat
