/-
  NatOrder returns true for any three slices. Conditions: those that each theorem names.
-/
import Derived.Test.YtfaledeidjmooaaGreatNumbers
import Derived.Deep.Cut
namespace Go.Proofs.YtfaledeidjmooaaGreat
open Go.RowKit

theorem cmpI_add {x y z a b : Nat} (ha : a = x + z) (hb : b = y + z) : cmpI a b = cmpI x y := by
  rcases Nat.lt_trichotomy x y with h | h | h
  · rw [cmpI_lt h, cmpI_lt (by omega)]
  · rw [show a = b by omega, h, cmpI_eq, cmpI_eq]
  · rw [cmpI_gt h, cmpI_gt (by omega)]
theorem cmpI_mul {x y z a b : Nat} (hz : z ≠ 0) (ha : a = x * z) (hb : b = y * z) : cmpI a b = cmpI x y := by
  have hp : 0 < z := Nat.pos_of_ne_zero hz
  rcases Nat.lt_trichotomy x y with h | h | h
  · rw [cmpI_lt h, cmpI_lt (by rw [ha, hb]; exact Nat.mul_lt_mul_of_pos_right h hp)]
  · rw [show a = b by rw [ha, hb, h], h, cmpI_eq, cmpI_eq]
  · rw [cmpI_gt h, cmpI_gt (by rw [ha, hb]; exact Nat.mul_lt_mul_of_pos_right h hp)]
theorem same_limbs (m n : Nat) : sameB (Nl.limbs m) (Nl.limbs n) = decide (m = n) := by
  rw [sameB]
  congr 1
  exact propext ⟨Nl.limbs_inj, fun h => by rw [h]⟩

theorem sub_code (va vb : Value) (m n : Nat) (w : World) (ha : At w va (Nl.limbs m)) (hb : At w vb (Nl.limbs n)) (hm : (Nl.limbs m).length ≤ 1024) (hn : (Nl.limbs n).length ≤ 1024) :
    Calls Tryz.prog 20 #[va, vb] w fun e w' => (∃ v, e = .returned (.tuple #[v, .int .i64 (subK m n)])) ∧ Below w.heap.size w w' := by
  have h := sub_any va vb _ _ w ha hb (Nl.limbs_small m) (Nl.limbs_small n)
  rw [Nl.val_limbs, Nl.val_limbs] at h
  refine h.mono ?_
  rintro e w' hr
  obtain ⟨v, rfl, -, hb⟩ := hr.gives
  have e0 : errOf (validB (Nl.limbs m) && validB (Nl.limbs n)) (subK m n) (m - n) = subK m n := by
    rw [validB_limbs hm, validB_limbs hn]
    by_cases hc : subK m n = 0
    · rw [hc]; exact errOf_fits rfl (by have := Nl.len_sub m n; omega)
    · rw [errOf_err _ hc]; rfl
  rw [e0]
  exact ⟨⟨v, rfl⟩, hb⟩

/-- what the conditions of NatOrder need of three results -/
theorem order_cases (x y z : Nat) : (x < y ∧ cmpI x y = -1 ∧ cmpI y x = 1 ∧ subK x y = 3 ∧ decide (x = y) = false) ∨ (x = y ∧ cmpI x y = 0 ∧ cmpI y x = 0 ∧ subK x y = 0 ∧ decide (x = y) = true) ∨ (y < x ∧ cmpI x y = 1 ∧ cmpI y x = -1 ∧ subK x y = 0 ∧ decide (x = y) = false) := by
  rcases Nat.lt_trichotomy x y with h | h | h
  · exact .inl ⟨h, cmpI_lt h, cmpI_gt h, by rw [subK, if_neg (by omega)], decide_eq_false (by omega)⟩
  · subst h
    exact .inr (.inl ⟨rfl, cmpI_eq x, cmpI_eq x, by rw [subK, if_pos (by omega)], decide_eq_true rfl⟩)
  · exact .inr (.inr ⟨h, cmpI_gt h, cmpI_lt h, by rw [subK, if_pos (by omega)], decide_eq_false (by omega)⟩)
theorem cmpI_le {x y : Nat} : cmpI x y ≤ 0 ↔ x ≤ y := by
  rcases Nat.lt_trichotomy x y with h | h | h
  · rw [cmpI_lt h]; omega
  · rw [h, cmpI_eq]; omega
  · rw [cmpI_gt h]; omega

set_option maxRecDepth 10000 in
set_option maxHeartbeats 8000000 in
theorem natOrder_num (va vb vc : Value) (x y z : Nat) (w : World) (ha : At w va (Nl.limbs x)) (hb : At w vb (Nl.limbs y)) (hc : At w vc (Nl.limbs z))
    (lx : (Nl.limbs x).length ≤ 200) (ly : (Nl.limbs y).length ≤ 200) (lz : (Nl.limbs z).length ≤ 200) :
    Calls Tryz.prog 12 #[va, vb, vc] w fun e w' => e = .returned (.bool true) ∧ Below w.heap.size w w' := by
  obtain ⟨pa, ca, rfl, -⟩ := ha.form
  obtain ⟨pb, cb, rfl, -⟩ := hb.form
  obtain ⟨pc, cc, rfl, -⟩ := hc.form
  have bn := below_three w (.slice pa (Nl.limbs x).length ca) (.slice pb (Nl.limbs y).length cb) (.slice pc (Nl.limbs z).length cc)
  have HN := Lib.hid (numbers_yes _ _ _ (Nl.limbs x) (Nl.limbs y) (Nl.limbs z) 200 w ha hb hc ⟨lx, validB_limbs (by omega)⟩ ⟨ly, validB_limbs (by omega)⟩ ⟨lz, validB_limbs (by omega)⟩ (by decide))
  have l1 := Nl.len_add x z
  have l2 := Nl.len_add y z
  have l3 := Nl.len_mul x z
  have l4 := Nl.len_mul y z
  have LL := Lib.hid (And.intro lx (And.intro ly (And.intro lz (And.intro l1 (And.intro l2 (And.intro l3 l4))))))
  have HA := Lib.hid (ha.below bn)
  have HB := Lib.hid (hb.below bn)
  have HC := Lib.hid (hc.below bn)
  have B0 := Lib.hid bn
  clear ha hb hc bn lx ly lz l1 l2 l3 l4
  obtain ⟨A, hA⟩ : ∃ A, A = cmpI x y := ⟨_, rfl⟩
  obtain ⟨B, hB⟩ : ∃ A, A = cmpI y x := ⟨_, rfl⟩
  obtain ⟨C, hC⟩ : ∃ A, A = cmpI y z := ⟨_, rfl⟩
  obtain ⟨D, hD⟩ : ∃ A, A = cmpI x z := ⟨_, rfl⟩
  obtain ⟨E, hE⟩ : ∃ A, A = subK x y := ⟨_, rfl⟩
  have EA := Lib.hid hA
  have EB := Lib.hid hB
  have EC := Lib.hid hC
  have ED := Lib.hid hD
  have EE := Lib.hid hE
  clear hA hB hC hD hE
  go_enter Tryz.func12, Tryz.ntmps12
  go_wp2_with fail
  refine HN.out.mono ?_
  rintro e w' ⟨rfl, rfl⟩
  obtain ⟨w0, hw0⟩ : ∃ w0, w0 = w.alloc (.cells #[.slice pa (Nl.limbs x).length ca, .slice pb (Nl.limbs y).length cb, .slice pc (Nl.limbs z).length cc] 23) := ⟨_, rfl⟩
  rw [← hw0] at HA HB HC B0 ⊢
  clear hw0 HN
  go_wp2_with fail
  refine (cmp_num _ _ x y w0 HA.out HB.out (by have := LL.out; omega) (by have := LL.out; omega)).mono ?_
  rintro e w1 ⟨rfl, j1, h1⟩
  rw [← EA.out]
  have N1 := Lib.hid (show Below w0.heap.size w0 w1 by rw [h1]; exact below_drewN _ _ _)
  clear h1
  go_wp2_with fail
  refine (cmp_num _ _ y x w1 (HB.out.below N1.out) (HA.out.below N1.out) (by have := LL.out; omega) (by have := LL.out; omega)).mono ?_
  rintro e w2 ⟨rfl, j2, h2⟩
  rw [← EB.out]
  have N2 := Lib.hid (N1.out.trans ((show Below w1.heap.size w1 w2 by rw [h2]; exact below_drewN _ _ _).mono N1.out.size))
  clear h2 N1
  go_wp2_with fail
  refine (cmp_num _ _ y z w2 (HB.out.below N2.out) (HC.out.below N2.out) (by have := LL.out; omega) (by have := LL.out; omega)).mono ?_
  rintro e w3 ⟨rfl, j3, h3⟩
  rw [← EC.out]
  have N3 := Lib.hid (N2.out.trans ((show Below w2.heap.size w2 w3 by rw [h3]; exact below_drewN _ _ _).mono N2.out.size))
  clear h3 N2
  go_wp2_with fail
  refine (cmp_num _ _ x z w3 (HA.out.below N3.out) (HC.out.below N3.out) (by have := LL.out; omega) (by have := LL.out; omega)).mono ?_
  rintro e w4 ⟨rfl, j4, h4⟩
  rw [← ED.out]
  have N4 := Lib.hid (N3.out.trans ((show Below w3.heap.size w3 w4 by rw [h4]; exact below_drewN _ _ _).mono N3.out.size))
  clear h4 N3
  go_wp2_with fail
  refine (sub_code _ _ x y w4 (HA.out.below N4.out) (HB.out.below N4.out) (by have := LL.out; omega) (by have := LL.out; omega)).mono ?_
  rintro e w5 ⟨⟨vd, rfl⟩, hb5⟩
  rw [← EE.out]
  have N5 := Lib.hid (N4.out.trans (hb5.mono N4.out.size))
  have hsm := same_any _ _ _ _ w5 (HA.out.below N5.out) (HB.out.below N5.out)
  rw [same_limbs] at hsm
  have HSM := Lib.hid hsm
  clear hb5 N4 hsm
  go_upto_region 8 with fail
  go_cut [112] from 113 (fun v wx => v = .bool false ∧ ∃ k, wx = w5.drewN k)
  case first =>
    rcases order_cases x y z with ⟨h, hA, hB, hE, hS⟩ | ⟨h, hA, hB, hE, hS⟩ | ⟨h, hA, hB, hE, hS⟩
    · have a1 : A = -1 := by rw [EA.out, hA]
      have b1 : B = 1 := by rw [EB.out, hB]
      have e1 : E = 3 := by rw [EE.out, hE]
      have S := HSM.out
      rw [hS] at S
      have HS := Lib.hid S
      clear S hS hA hB hE HSM
      subst a1 b1 e1
      by_cases hc : C ≤ 0
      · have t1 : decide (C ≤ 0) = true := decide_eq_true hc
        have t2 : decide (D > 0) = false := decide_eq_false (by
          have h1 : y ≤ z := cmpI_le.1 (by rw [← EC.out]; exact hc)
          have h2 : D ≤ 0 := by rw [ED.out]; exact cmpI_le.2 (by omega)
          omega)
        clear h
        go_wp2_with (go_at_call 34; refine HS.out.mono ?_; rintro e w' ⟨rfl, k6, rfl⟩)
        go_meet
        case rel => exact ⟨rfl, _, rfl⟩
      · have t1 : decide (C ≤ 0) = false := decide_eq_false hc
        clear h
        go_wp2_with (go_at_call 34; refine HS.out.mono ?_; rintro e w' ⟨rfl, k6, rfl⟩)
        go_meet
        case rel => exact ⟨rfl, _, rfl⟩
    · have a1 : A = 0 := by rw [EA.out, hA]
      have b1 : B = 0 := by rw [EB.out, hB]
      have e1 : E = 0 := by rw [EE.out, hE]
      have S := HSM.out
      rw [hS] at S
      have HS := Lib.hid S
      clear S hS hA hB hE HSM
      subst a1 b1 e1
      by_cases hc : C ≤ 0
      · have t1 : decide (C ≤ 0) = true := decide_eq_true hc
        have t2 : decide (D > 0) = false := decide_eq_false (by
          have h1 : y ≤ z := cmpI_le.1 (by rw [← EC.out]; exact hc)
          have h2 : D ≤ 0 := by rw [ED.out]; exact cmpI_le.2 (by omega)
          omega)
        clear h
        go_wp2_with (go_at_call 34; refine HS.out.mono ?_; rintro e w' ⟨rfl, k6, rfl⟩)
        go_meet
        case rel => exact ⟨rfl, _, rfl⟩
      · have t1 : decide (C ≤ 0) = false := decide_eq_false hc
        clear h
        go_wp2_with (go_at_call 34; refine HS.out.mono ?_; rintro e w' ⟨rfl, k6, rfl⟩)
        go_meet
        case rel => exact ⟨rfl, _, rfl⟩
    · have a1 : A = 1 := by rw [EA.out, hA]
      have b1 : B = -1 := by rw [EB.out, hB]
      have e1 : E = 0 := by rw [EE.out, hE]
      have S := HSM.out
      rw [hS] at S
      have HS := Lib.hid S
      clear S hS hA hB hE HSM
      subst a1 b1 e1
      clear h
      go_wp2_with (go_at_call 34; refine HS.out.mono ?_; rintro e w' ⟨rfl, k6, rfl⟩)
      go_meet
      case rel => exact ⟨rfl, _, rfl⟩
  case rest =>
    obtain ⟨rfl, k6, hw6⟩ := hcut
    have N6 := Lib.hid (N5.out.trans ((show Below w5.heap.size w5 wc by rw [hw6]; exact below_drewN _ _ _).mono N5.out.size))
    clear hw6 HSM N5
    go_wp2_with fail
    refine (add_num _ _ x z wc (HA.out.below N6.out) (HC.out.below N6.out) (by have := LL.out; omega) (by have := LL.out; omega)).mono ?_
    rintro e w7 ⟨vs, rfl, hs, hb7⟩
    have HS7 := Lib.hid hs
    have N7 := Lib.hid (N6.out.trans (hb7.mono N6.out.size))
    clear hs hb7 N6
    go_wp2_with fail
    refine (add_num _ _ y z w7 (HB.out.below N7.out) (HC.out.below N7.out) (by have := LL.out; omega) (by have := LL.out; omega)).mono ?_
    rintro e w8 ⟨vt, rfl, ht, hb8⟩
    have HT8 := Lib.hid ht
    have HS8 := Lib.hid (HS7.out.below hb8)
    have N8 := Lib.hid (N7.out.trans (hb8.mono N7.out.size))
    clear ht hb8 N7 HS7
    go_wp2_with fail
    refine (cmp_num vs vt (x + z) (y + z) w8 HS8.out HT8.out (by have := LL.out; omega) (by have := LL.out; omega)).mono ?_
    rintro e w9 ⟨rfl, j9, h9⟩
    rw [cmpI_add (a := x + z) (b := y + z) rfl rfl, ← EA.out]
    have N9 := Lib.hid (N8.out.trans ((show Below w8.heap.size w8 w9 by rw [h9]; exact below_drewN _ _ _).mono N8.out.size))
    clear h9 N8 HS8 HT8
    go_wp2_with fail
    refine (mul_num _ _ x z w9 (HA.out.below N9.out) (HC.out.below N9.out) (by have := LL.out; omega)).mono ?_
    rintro e w10 ⟨vp, rfl, hp, hb10⟩
    have HP10 := Lib.hid hp
    have N10 := Lib.hid (N9.out.trans (hb10.mono N9.out.size))
    clear hp hb10 N9
    go_wp2_with fail
    refine (mul_num _ _ y z w10 (HB.out.below N10.out) (HC.out.below N10.out) (by have := LL.out; omega)).mono ?_
    rintro e w11 ⟨vq, rfl, hq, hb11⟩
    have HQ11 := Lib.hid hq
    have HP11 := Lib.hid (HP10.out.below hb11)
    have N11 := Lib.hid (N10.out.trans (hb11.mono N10.out.size))
    clear hq hb11 N10 HP10
    go_wp2_with fail
    refine (cmp_num vp vq (x * z) (y * z) w11 HP11.out HQ11.out (by have := LL.out; omega) (by have := LL.out; omega)).mono ?_
    rintro e w12 ⟨rfl, j12, h12⟩
    have N12 := Lib.hid (N11.out.trans ((show Below w11.heap.size w11 w12 by rw [h12]; exact below_drewN _ _ _).mono N11.out.size))
    clear h12 N11 HP11 HQ11
    by_cases hz : z = 0
    · have hP : cmpI ((x * z : Nat) : Int) ((y * z : Nat) : Int) = 0 := by rw [hz, Nat.mul_zero, Nat.mul_zero, cmpI_eq]
      rw [hP]
      have e0 : (((Nl.limbs z).length : Int) == 0) = true := by rw [hz, Nl.limbs_zero]; rfl
      clear hz hP
      go_wp2_with fail
      refine (sanity_any w12).mono ?_
      rintro e w13 ⟨rfl, hb13⟩
      have N13 := Lib.hid (N12.out.trans (hb13.mono N12.out.size))
      clear hb13 N12
      go_wp2_with fail
      go_ret
      exact ⟨rfl, B0.out.trans (N13.out.mono B0.out.size)⟩
    · rw [cmpI_mul (a := x * z) (b := y * z) hz rfl rfl, ← EA.out]
      have hlz := Nl.len_pos hz
      have e0 : (((Nl.limbs z).length : Int) == 0) = false := by rw [beq_eq_false_iff_ne]; omega
      have e1 : decide (0 < (Nl.limbs z).length) = true := decide_eq_true hlz
      clear hz
      go_wp2_with fail
      refine (sanity_any w12).mono ?_
      rintro e w13 ⟨rfl, hb13⟩
      have N13 := Lib.hid (N12.out.trans (hb13.mono N12.out.size))
      clear hb13 N12
      go_wp2_with fail
      go_ret
      exact ⟨rfl, B0.out.trans (N13.out.mono B0.out.size)⟩

set_option maxRecDepth 10000 in
set_option maxHeartbeats 1000000 in
theorem natOrder_any (va vb vc : Value) (xs ys zs : List Nat) (w : World) (ha : At w va xs) (hb : At w vb ys) (hc : At w vc zs) (hsx : Nl.Small xs) (hsy : Nl.Small ys) (hsz : Nl.Small zs) :
    Calls Tryz.prog 12 #[va, vb, vc] w fun e w' => e = .returned (.bool true) ∧ Below w.heap.size w w' := by
  by_cases hall : (numB 200 xs && (numB 200 ys && numB 200 zs)) = true
  · simp only [numB, Bool.and_eq_true, decide_eq_true_eq] at hall
    obtain ⟨⟨lx, vx⟩, ⟨ly, vy⟩, lz, vz⟩ := hall
    have ex := at_limbs ha hsx vx
    have ey := at_limbs hb hsy vy
    have ez := at_limbs hc hsz vz
    rw [ex] at ha lx
    rw [ey] at hb ly
    rw [ez] at hc lz
    exact natOrder_num va vb vc _ _ _ w ha hb hc lx ly lz
  · obtain ⟨pa, ca, rfl, -⟩ := ha.form
    obtain ⟨pb, cb, rfl, -⟩ := hb.form
    obtain ⟨pc, cc, rfl, -⟩ := hc.form
    have bn := below_three w (.slice pa xs.length ca) (.slice pb ys.length cb) (.slice pc zs.length cc)
    have hn := numbers_three _ _ _ xs ys zs 200 w ha hb hc (by decide)
    rw [show (numB 200 xs && (numB 200 ys && numB 200 zs)) = false by simpa using hall] at hn
    have HN := Lib.hid hn
    have BN := Lib.hid bn
    clear hall ha hb hc hn bn
    go_enter Tryz.func12, Tryz.ntmps12
    go_wp2_with fail
    refine HN.out.mono ?_
    rintro e w' ⟨rfl, rfl⟩
    go_wp2_with fail
    refine (sanity_any _).mono ?_
    rintro e w3 ⟨rfl, hb3⟩
    have B3 := Lib.hid (BN.out.trans (hb3.mono BN.out.size))
    clear hb3
    go_wp2_with fail
    go_ret
    exact ⟨rfl, B3.out⟩
end Go.Proofs.YtfaledeidjmooaaGreat
