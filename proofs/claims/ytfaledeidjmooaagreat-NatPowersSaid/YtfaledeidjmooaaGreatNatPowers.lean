/-
  NatPowers returns true for any two slices and two exponents. Conditions: those that each theorem names.
-/
import Derived.Test.YtfaledeidjmooaaGreatQuotNum
import Derived.Test.YtfaledeidjmooaaGreatNewton
import Derived.Test.YtfaledeidjmooaaGreatGcd
namespace Go.Proofs.YtfaledeidjmooaaGreat
open Go.RowKit

theorem small_mul {a b A B C : Nat} (h1 : a ≤ A) (h2 : b ≤ B) (h : A * B ≤ C) : a * b ≤ C := Nat.le_trans (Nat.mul_le_mul h1 h2) h
theorem pow_fits {m n : Nat} (h : n * nbits m ≤ 32767) : (Nl.limbs (m ^ n)).length ≤ 1024 := by
  refine pow_two_len (s := nbits m) (by rw [Nat.mul_comm]; omega) (Nat.le_of_lt (lt_nbits m))
theorem nbits_words {m n : Nat} (h : (Nl.limbs m).length ≤ n) : nbits m ≤ 32 * n := by
  by_cases h0 : m = 0
  · rw [h0, nbits_zero]; omega
  · obtain ⟨k, x, hk, -, hx0, hx, hnb⟩ := top_word h0
    have := Lib.bitLen_le x 32 (by omega) (by omega)
    omega
theorem pow_num (v : Value) (m n : Nat) (w : World) (ha : At w v (Nl.limbs m)) (hm : (Nl.limbs m).length ≤ 1024) (h : n * nbits m ≤ 32767) (hn : n ≤ 1000000) :
    Calls Tryz.prog 28 #[v, .int .i64 n] w fun e w' => GivesN w w' e (m ^ n) := by
  have hp := pow_any v _ (n : Int) w ha (Nl.limbs_small m) (by omega) (by omega)
  rw [Nl.val_limbs, Int.toNat_natCast] at hp
  refine hp.mono fun e w' h2 => h2.num hm ?_ (pow_fits h)
  rw [powK, if_pos (by omega), if_neg]
  rintro ⟨h1, h2, h3⟩
  rw [Int.toNat_natCast] at h3
  have hb : 0 < nbits m - 1 := by
    have h4 := lt_nbits m
    apply Classical.byContradiction
    intro hc
    have : nbits m ≤ 1 := by omega
    have := Nat.pow_le_pow_right (show 0 < 2 by decide) this
    omega
  rw [Nat.div_lt_iff_lt_mul hb] at h3
  have h5 : n * (nbits m - 1) ≤ n * nbits m := Nat.mul_le_mul_left n (Nat.sub_le _ _)
  omega

theorem root_num (va : Value) (m n q : Nat) (w : World) (ha : At w va (Nl.limbs m)) (hm : (Nl.limbs m).length ≤ 1024) (hn : 1 ≤ n) (hn2 : n ≤ 9223372036854775807) (hq : IsRoot n m q) :
    Calls Tryz.prog 36 #[va, .int .i64 n] w fun e w' => GivesN2 w w' e q (m - q ^ n) := by
  have hqm : q ≤ m := Nat.le_trans (Nat.le_self_pow (by omega) q) hq.1
  have h := root_any va (Nl.limbs m) q (m - q ^ n) (n : Int) w ha (fun _ => Nat.le_trans (Nl.limbs_mono hqm) hm) (fun _ => Nat.le_trans (Nl.limbs_mono (Nat.sub_le _ _)) hm)
    (fun _ _ w' hw => rootAndRest_of va m n q w' (ha.below hw) hm hn hn2 hq (fun h2 hnb w2 hw2 => by
      have hb := nbits_words hm
      exact root_all va m n w2 ((ha.below hw).below hw2) (fun h => by rw [h, nbits_zero] at hnb; omega) hm h2 (by omega)))
  refine h.mono ?_
  rintro e w' ⟨c, hc, ⟨u, v, rfl, h2, h3⟩, hb⟩
  have hc0 : c = 0 := by
    rcases hc with ⟨-, h⟩ | ⟨h, -⟩
    · rw [h, rootK, if_pos (by omega)]
    · rw [validB_limbs hm] at h; exact absurd h (by decide)
  subst hc0
  exact ⟨u, v, rfl, (h2 rfl).1.at.at, (h2 rfl).2.at.at, hb⟩

theorem at_one (w : World) (t : TypeId) : At (w.alloc (.cells #[.int .u32 1] t)) (.slice (some ⟨w.heap.size, 0, none⟩) 1 1) (Nl.limbs 1) := by
  rw [limbs_one (by decide) (by decide)]
  refine .inr ⟨w.heap.size, 0, 1, rfl, trivial, by simp, by simp, by simp, fun i hi => ?_⟩
  obtain rfl : i = 0 := by simp at hi; omega
  exact cell_of_row _ _ 0 _ _ (0, 0) (heap_alloc_new _ _)

theorem root_of_power {a k : Nat} : IsRoot k (a ^ k) a ↔ 0 < k := by
  constructor
  · rintro ⟨-, h⟩
    apply Nat.pos_of_ne_zero
    rintro rfl
    simp at h
  · intro h
    exact ⟨Nat.le_refl _, Nat.pow_lt_pow_left (Nat.lt_succ_self a) (by omega)⟩

set_option maxRecDepth 10000 in
set_option maxHeartbeats 4000000 in
theorem natPowers_num (va vb : Value) (x y M N : Nat) (w : World) (ha : At w va (Nl.limbs x)) (hb : At w vb (Nl.limbs y)) (lx : (Nl.limbs x).length ≤ 20) (ly : (Nl.limbs y).length ≤ 20) (hM : M < 256) (hN : N < 256) :
    Calls Tryz.prog 14 #[va, vb, .int .u8 M, .int .u8 N] w fun e w' => e = .returned (.bool true) ∧ Below w.heap.size w w' := by
  obtain ⟨w0, hw0⟩ : ∃ w0, w0 = w.alloc (.cells #[va, vb] 23) := ⟨_, rfl⟩
  have b0 : Below w.heap.size w w0 := by rw [hw0]; exact below_new w _
  have n2 := numbers_two va vb (Nl.limbs x) (Nl.limbs y) 20 w ha hb (by decide)
  rw [numB_yes lx (by decide), numB_yes ly (by decide), ← hw0] at n2
  obtain ⟨i, hi⟩ : ∃ i, i = M % 20 := ⟨_, rfl⟩
  obtain ⟨k, hk⟩ : ∃ k, k = N % 20 := ⟨_, rfl⟩
  have hi2 : (M : Int) % 20 = (i : Int) := by omega
  have hk2 : (N : Int) % 20 = (k : Int) := by omega
  have hib : i < 20 := by omega
  have hkb : k < 20 := by omega
  have bx := nbits_words lx
  have by' := nbits_words ly
  have N2 := Lib.hid n2
  have HW := Lib.hid hw0
  have HA := Lib.hid (ha.below b0)
  have HB := Lib.hid (hb.below b0)
  have B0 := Lib.hid b0
  have HL := Lib.hid (And.intro lx (And.intro ly (And.intro bx by')))
  obtain ⟨pa, ca, rfl, -⟩ := ha.form
  obtain ⟨pb, cb, rfl, -⟩ := hb.form
  clear ha hb b0 n2 hw0 hi hk lx ly bx by'
  go_enter Tryz.func14, Tryz.ntmps14
  go_wp2_with fail
  rw [← HW.out]
  refine N2.out.mono ?_
  rintro e w' ⟨rfl, rfl⟩
  clear N2 HW
  go_wp2_with fail
  rw [hi2, hk2]
  clear hi2 hk2
  obtain ⟨j, hj⟩ : ∃ j, j = i + k := ⟨_, rfl⟩
  have hj2 : (i : Int) + (k : Int) = (j : Int) := by omega
  obtain ⟨k1, hk1⟩ : ∃ k1, k1 = k + 1 := ⟨_, rfl⟩
  have hk12 : (k : Int) + 1 = (k1 : Int) := by omega
  have HJ := Lib.hid (And.intro hj hk1)
  have hjb : j < 39 := by omega
  have hk1b : k1 < 21 := by omega
  have hk1p : 1 ≤ k1 := by omega
  clear hj hk1
  refine (pow_num _ x i w0 HA.out (by have := HL.out; omega) (small_mul (show i ≤ 19 by omega) (show nbits (x) ≤ 640 by have := HL.out; omega) (by decide)) (by omega)).mono ?_
  rintro e w1 ⟨vx, rfl, hh1, hb1⟩
  have H1 := Lib.hid hh1
  have H2 := Lib.hid (HA.out.below hb1)
  have H3 := Lib.hid (HB.out.below hb1)
  have NN4 := Lib.hid hb1
  clear hh1 hb1 HA HB
  go_wp2_with fail
  refine (pow_num _ x k w1 H2.out (by have := HL.out; omega) (small_mul (show k ≤ 19 by omega) (show nbits (x) ≤ 640 by have := HL.out; omega) (by decide)) (by omega)).mono ?_
  rintro e w5 ⟨vy, rfl, hh5, hb5⟩
  have H5 := Lib.hid hh5
  have H6 := Lib.hid (H2.out.below hb5)
  have H7 := Lib.hid (H3.out.below hb5)
  have H8 := Lib.hid (H1.out.below hb5)
  have NN9 := Lib.hid (NN4.out.trans (hb5.mono NN4.out.size))
  clear hh5 hb5 H2 H3 H1 NN4
  go_wp2_with fail
  try rw [hj2]
  refine (pow_num _ x j w5 H6.out (by have := HL.out; omega) (small_mul (show j ≤ 38 by omega) (show nbits (x) ≤ 640 by have := HL.out; omega) (by decide)) (by omega)).mono ?_
  rintro e w10 ⟨vz, rfl, hh10, hb10⟩
  have H10 := Lib.hid hh10
  have H11 := Lib.hid (H6.out.below hb10)
  have H12 := Lib.hid (H7.out.below hb10)
  have H13 := Lib.hid (H8.out.below hb10)
  have H14 := Lib.hid (H5.out.below hb10)
  have NN15 := Lib.hid (NN9.out.trans (hb10.mono NN9.out.size))
  clear hh10 hb10 H6 H7 H8 H5 NN9
  go_wp2_with fail
  refine (mul_fits vx vy (x ^ i) (x ^ k) w10 H13.out H14.out (pow_fits (small_mul (show i ≤ 19 by omega) (show nbits x ≤ 640 by have := HL.out; omega) (by decide))) (pow_fits (small_mul (show k ≤ 19 by omega) (show nbits x ≤ 640 by have := HL.out; omega) (by decide))) (by rw [← Nat.pow_add, ← HJ.out.1]; exact pow_fits (small_mul (show j ≤ 38 by omega) (show nbits x ≤ 640 by have := HL.out; omega) (by decide)))).mono ?_
  rintro e w16 ⟨vxy, rfl, hh16, hb16⟩
  rw [← Nat.pow_add, ← HJ.out.1] at hh16
  have H16 := Lib.hid hh16
  have H17 := Lib.hid (H11.out.below hb16)
  have H18 := Lib.hid (H12.out.below hb16)
  have H19 := Lib.hid (H14.out.below hb16)
  have H20 := Lib.hid (H10.out.below hb16)
  have NN21 := Lib.hid (NN15.out.trans (hb16.mono NN15.out.size))
  clear hh16 hb16 H11 H12 H13 H14 H10 NN15
  go_wp2_with fail
  refine (same_yes vxy vz (Nl.limbs (x ^ j)) w16 H16.out H20.out).mono ?_
  rintro e w22 ⟨rfl, j22, q22⟩
  have hb22 : Below w16.heap.size w16 w22 := by rw [q22]; exact below_drewN ..
  have H23 := Lib.hid (H17.out.below hb22)
  have H24 := Lib.hid (H18.out.below hb22)
  have H25 := Lib.hid (H19.out.below hb22)
  have NN26 := Lib.hid (NN21.out.trans (hb22.mono NN21.out.size))
  clear hb22 q22 H17 H18 H19 H20 H16 NN21
  have lxy : (Nl.limbs (x * y)).length ≤ 40 := Nat.le_trans (Nl.len_mul x y) (by have := HL.out; omega)
  have bxy := nbits_words lxy
  have HXY := Lib.hid (And.intro lxy bxy)
  clear lxy bxy
  go_wp2_with fail
  refine (mul_num _ _ x y w22 H23.out H24.out (by have := HL.out; omega)).mono ?_
  rintro e w27 ⟨vab, rfl, hh27, hb27⟩
  have H27 := Lib.hid hh27
  have H28 := Lib.hid (H23.out.below hb27)
  have H29 := Lib.hid (H24.out.below hb27)
  have H30 := Lib.hid (H25.out.below hb27)
  have NN31 := Lib.hid (NN26.out.trans (hb27.mono NN26.out.size))
  clear hh27 hb27 H23 H24 H25 NN26
  go_wp2_with fail
  refine (pow_num _ (x * y) k w27 H27.out (by have := HXY.out; omega) (small_mul (show k ≤ 19 by omega) (show nbits ((x * y)) ≤ 1280 by have := HXY.out; omega) (by decide)) (by omega)).mono ?_
  rintro e w32 ⟨vl, rfl, hh32, hb32⟩
  have H32 := Lib.hid hh32
  have H33 := Lib.hid (H28.out.below hb32)
  have H34 := Lib.hid (H29.out.below hb32)
  have H35 := Lib.hid (H30.out.below hb32)
  have H36 := Lib.hid (H27.out.below hb32)
  have NN37 := Lib.hid (NN31.out.trans (hb32.mono NN31.out.size))
  clear hh32 hb32 H28 H29 H30 H27 NN31
  go_wp2_with fail
  refine (pow_num _ y k w32 H34.out (by have := HL.out; omega) (small_mul (show k ≤ 19 by omega) (show nbits (y) ≤ 640 by have := HL.out; omega) (by decide)) (by omega)).mono ?_
  rintro e w38 ⟨vww, rfl, hh38, hb38⟩
  have H38 := Lib.hid hh38
  have H39 := Lib.hid (H33.out.below hb38)
  have H40 := Lib.hid (H34.out.below hb38)
  have H41 := Lib.hid (H35.out.below hb38)
  have H42 := Lib.hid (H36.out.below hb38)
  have H43 := Lib.hid (H32.out.below hb38)
  have NN44 := Lib.hid (NN37.out.trans (hb38.mono NN37.out.size))
  clear hh38 hb38 H33 H34 H35 H36 H32 NN37
  go_wp2_with fail
  refine (mul_fits vy vww (x ^ k) (y ^ k) w38 H41.out H38.out (pow_fits (small_mul (show k ≤ 19 by omega) (show nbits x ≤ 640 by have := HL.out; omega) (by decide))) (pow_fits (small_mul (show k ≤ 19 by omega) (show nbits y ≤ 640 by have := HL.out; omega) (by decide))) (by rw [← Nat.mul_pow]; exact pow_fits (small_mul (show k ≤ 19 by omega) (show nbits (x * y) ≤ 1280 by have := HXY.out; omega) (by decide)))).mono ?_
  rintro e w45 ⟨vr, rfl, hh45, hb45⟩
  rw [← Nat.mul_pow] at hh45
  have H45 := Lib.hid hh45
  have H46 := Lib.hid (H39.out.below hb45)
  have H47 := Lib.hid (H40.out.below hb45)
  have H48 := Lib.hid (H41.out.below hb45)
  have H49 := Lib.hid (H43.out.below hb45)
  have NN50 := Lib.hid (NN44.out.trans (hb45.mono NN44.out.size))
  clear hh45 hb45 H39 H40 H41 H42 H43 H38 NN44
  go_wp2_with fail
  refine (same_yes vl vr (Nl.limbs ((x * y) ^ k)) w45 H49.out H45.out).mono ?_
  rintro e w51 ⟨rfl, j51, q51⟩
  have hb51 : Below w45.heap.size w45 w51 := by rw [q51]; exact below_drewN ..
  have H52 := Lib.hid (H46.out.below hb51)
  have H53 := Lib.hid (H47.out.below hb51)
  have H54 := Lib.hid (H48.out.below hb51)
  have NN55 := Lib.hid (NN50.out.trans (hb51.mono NN50.out.size))
  clear hb51 q51 H46 H47 H48 H49 H45 NN50
  obtain ⟨q, hq⟩ := root_exists (n := k1) hk1p y
  have hqy : q ≤ y := Nat.le_trans (Nat.le_self_pow (by omega) q) hq.1
  have lq : (Nl.limbs q).length ≤ 20 := Nat.le_trans (Nl.limbs_mono hqy) (by have := HL.out; omega)
  have lq1 : (Nl.limbs (q + 1)).length ≤ 21 := by have := Nl.len_add q 1; have : (Nl.limbs 1).length ≤ 1 := Nl.limbs_lt (by decide); omega
  have bq := nbits_words lq
  have bq1 := nbits_words lq1
  have HQL := Lib.hid (And.intro lq (And.intro lq1 (And.intro bq bq1)))
  have HQ := Lib.hid hq
  clear hq hqy lq lq1 bq bq1
  by_cases hk0 : 0 < k
  · have t1 : decide ((k : Int) > 0) = true := decide_eq_true (by omega)
    have t2 : decide (0 < k) = true := decide_eq_true hk0
    have HK0 := Lib.hid hk0
    clear hk0
    go_wp2_with fail
    refine (root_num vy (x ^ k) k x w51 H54.out (pow_fits (small_mul (show k ≤ 19 by omega) (show nbits x ≤ 640 by have := HL.out; omega) (by decide))) (by have := HK0.out; omega) (by omega) (root_of_power.2 HK0.out)).mono ?_
    rintro e w56 ⟨vrt, vrs, rfl, hh57, hh58, hb56⟩
    rw [Nat.sub_self, Nl.limbs_zero] at hh58
    obtain ⟨prs, crs, rfl, -⟩ := hh58.form
    have H59 := Lib.hid hh57
    have H60 := Lib.hid hh58
    have H61 := Lib.hid (H52.out.below hb56)
    have H62 := Lib.hid (H53.out.below hb56)
    have H63 := Lib.hid (H54.out.below hb56)
    have NN64 := Lib.hid (NN55.out.trans (hb56.mono NN55.out.size))
    clear hh57 hh58 hb56 H52 H53 H54 NN55
    go_wp2_with fail
    refine (same_yes vrt _ (Nl.limbs x) w56 H59.out H61.out).mono ?_
    rintro e w65 ⟨rfl, j65, q65⟩
    have hb65 : Below w56.heap.size w56 w65 := by rw [q65]; exact below_drewN ..
    have H66 := Lib.hid (H61.out.below hb65)
    have H67 := Lib.hid (H62.out.below hb65)
    have NN68 := Lib.hid (NN64.out.trans (hb65.mono NN64.out.size))
    clear hb65 q65 H61 H62 H63 H59 H60 NN64
    go_wp2_with fail
    refine (root_num _ y k1 q w65 H67.out (by have := HL.out; omega) hk1p (by omega) HQ.out).mono ?_
    rintro e w69 ⟨vroot, vrest, rfl, hh70, hh71, hb69⟩
    have H72 := Lib.hid hh70
    have H73 := Lib.hid hh71
    have H74 := Lib.hid (H66.out.below hb69)
    have H75 := Lib.hid (H67.out.below hb69)
    have NN76 := Lib.hid (NN68.out.trans (hb69.mono NN68.out.size))
    clear hh70 hh71 hb69 H66 H67 NN68
    go_wp2_with fail
    refine (pow_num _ q k1 w69 H72.out (by have := HQL.out; omega) (small_mul (show k1 ≤ 20 by omega) (show nbits q ≤ 640 by have := HQL.out; omega) (by decide)) (by omega)).mono ?_
    rintro e w77 ⟨vp, rfl, hh77, hb77⟩
    have H77 := Lib.hid hh77
    have H78 := Lib.hid (H74.out.below hb77)
    have H79 := Lib.hid (H75.out.below hb77)
    have H80 := Lib.hid (H72.out.below hb77)
    have H81 := Lib.hid (H73.out.below hb77)
    have NN82 := Lib.hid (NN76.out.trans (hb77.mono NN76.out.size))
    clear hh77 hb77 H74 H75 H72 H73 NN76
    go_wp2_with fail
    refine (add_fits vp vrest (q ^ k1) (y - q ^ k1) w77 H77.out H81.out (Nat.le_trans (Nl.limbs_mono HQ.out.1) (by have := HL.out; omega)) (Nat.le_trans (Nl.limbs_mono (Nat.sub_le _ _)) (by have := HL.out; omega)) (by rw [Nat.add_sub_cancel' HQ.out.1]; have := HL.out; omega)).mono ?_
    rintro e w83 ⟨vs, rfl, hh83, hb83⟩
    rw [Nat.add_sub_cancel' HQ.out.1] at hh83
    have H83 := Lib.hid hh83
    have H84 := Lib.hid (H78.out.below hb83)
    have H85 := Lib.hid (H79.out.below hb83)
    have H86 := Lib.hid (H80.out.below hb83)
    have NN87 := Lib.hid (NN82.out.trans (hb83.mono NN82.out.size))
    clear hh83 hb83 H78 H79 H80 H81 H77 NN82
    go_wp2_with fail
    obtain ⟨w88, hw88⟩ : ∃ w88, w88 = w83.alloc (.cells #[.int .u32 1] 59) := ⟨_, rfl⟩
    have hb88 : Below w83.heap.size w83 w88 := by rw [hw88]; exact below_new w83 _
    rw [← hw88]
    have H89 := Lib.hid (H84.out.below hb88)
    have H90 := Lib.hid (H85.out.below hb88)
    have H91 := Lib.hid (H86.out.below hb88)
    have H92 := Lib.hid (H83.out.below hb88)
    have NN93 := Lib.hid (NN87.out.trans (hb88.mono NN87.out.size))
    have A1 := Lib.hid (show At w88 (.slice (some ⟨w83.heap.size, 0, none⟩) 1 1) (Nl.limbs 1) by rw [hw88]; exact at_one w83 _)
    clear hb88 hw88 H84 H85 H86 H83 NN87
    refine (add_fits vroot _ q 1 w88 H91.out A1.out (by have := HQL.out; omega) (by have : (Nl.limbs 1).length ≤ 1 := Nl.limbs_lt (by decide); omega) (by have := HQL.out; omega)).mono ?_
    rintro e w94 ⟨vnext, rfl, hh94, hb94⟩
    have H94 := Lib.hid hh94
    have H95 := Lib.hid (H89.out.below hb94)
    have H96 := Lib.hid (H90.out.below hb94)
    have H97 := Lib.hid (H92.out.below hb94)
    have NN98 := Lib.hid (NN93.out.trans (hb94.mono NN93.out.size))
    clear hh94 hb94 H89 H90 H91 H92 NN93
    go_wp2_with fail
    refine (same_yes vs _ (Nl.limbs y) w94 H97.out H96.out).mono ?_
    rintro e w99 ⟨rfl, j99, q99⟩
    have hb99 : Below w94.heap.size w94 w99 := by rw [q99]; exact below_drewN ..
    have H100 := Lib.hid (H95.out.below hb99)
    have H101 := Lib.hid (H96.out.below hb99)
    have H102 := Lib.hid (H94.out.below hb99)
    have NN103 := Lib.hid (NN98.out.trans (hb99.mono NN98.out.size))
    clear hb99 q99 H95 H96 H97 H94 NN98
    go_wp2_with fail
    refine (pow_num _ (q + 1) k1 w99 H102.out (by have := HQL.out; omega) (small_mul (show k1 ≤ 20 by omega) (show nbits (q + 1) ≤ 672 by have := HQL.out; omega) (by decide)) (by omega)).mono ?_
    rintro e w104 ⟨vpp, rfl, hh104, hb104⟩
    have H104 := Lib.hid hh104
    have H105 := Lib.hid (H100.out.below hb104)
    have H106 := Lib.hid (H101.out.below hb104)
    have H107 := Lib.hid (H102.out.below hb104)
    have NN108 := Lib.hid (NN103.out.trans (hb104.mono NN103.out.size))
    clear hh104 hb104 H100 H101 H102 NN103
    go_wp2_with fail
    refine (cmp_num _ vpp y ((q + 1) ^ k1) w104 H106.out H104.out (by have := HL.out; omega) (pow_fits (small_mul (show k1 ≤ 20 by omega) (show nbits (q + 1) ≤ 672 by have := HQL.out; omega) (by decide)))).mono ?_
    rintro e w109 ⟨rfl, j109, q109⟩
    have hb109 : Below w104.heap.size w104 w109 := by rw [q109]; exact below_drewN ..
    have H110 := Lib.hid (H105.out.below hb109)
    have H111 := Lib.hid (H106.out.below hb109)
    have H112 := Lib.hid (H107.out.below hb109)
    have NN113 := Lib.hid (NN108.out.trans (hb109.mono NN108.out.size))
    clear hb109 q109 H105 H106 H107 H104 NN108
    rw [cmpI_lt HQ.out.2]
    go_wp2_with fail
    refine (sanity_any w109).mono ?_
    rintro e w114 ⟨rfl, hb114⟩
    have H115 := Lib.hid (H110.out.below hb114)
    have H116 := Lib.hid (H111.out.below hb114)
    have H117 := Lib.hid (H112.out.below hb114)
    have NN118 := Lib.hid (NN113.out.trans (hb114.mono NN113.out.size))
    clear hb114 H110 H111 H112 NN113
    go_wp2_with fail
    go_ret
    exact ⟨rfl, B0.out.trans (NN118.out.mono B0.out.size)⟩

  · have t1 : decide ((k : Int) > 0) = false := decide_eq_false (by omega)
    have t2 : decide (0 < k) = false := decide_eq_false hk0
    clear hk0
    go_wp2_with fail
    refine (root_num _ y k1 q w51 H53.out (by have := HL.out; omega) hk1p (by omega) HQ.out).mono ?_
    rintro e w56 ⟨vroot, vrest, rfl, hh57, hh58, hb56⟩
    have H59 := Lib.hid hh57
    have H60 := Lib.hid hh58
    have H61 := Lib.hid (H52.out.below hb56)
    have H62 := Lib.hid (H53.out.below hb56)
    have NN63 := Lib.hid (NN55.out.trans (hb56.mono NN55.out.size))
    clear hh57 hh58 hb56 H52 H53 NN55
    go_wp2_with fail
    refine (pow_num _ q k1 w56 H59.out (by have := HQL.out; omega) (small_mul (show k1 ≤ 20 by omega) (show nbits q ≤ 640 by have := HQL.out; omega) (by decide)) (by omega)).mono ?_
    rintro e w64 ⟨vp, rfl, hh64, hb64⟩
    have H64 := Lib.hid hh64
    have H65 := Lib.hid (H61.out.below hb64)
    have H66 := Lib.hid (H62.out.below hb64)
    have H67 := Lib.hid (H59.out.below hb64)
    have H68 := Lib.hid (H60.out.below hb64)
    have NN69 := Lib.hid (NN63.out.trans (hb64.mono NN63.out.size))
    clear hh64 hb64 H61 H62 H59 H60 NN63
    go_wp2_with fail
    refine (add_fits vp vrest (q ^ k1) (y - q ^ k1) w64 H64.out H68.out (Nat.le_trans (Nl.limbs_mono HQ.out.1) (by have := HL.out; omega)) (Nat.le_trans (Nl.limbs_mono (Nat.sub_le _ _)) (by have := HL.out; omega)) (by rw [Nat.add_sub_cancel' HQ.out.1]; have := HL.out; omega)).mono ?_
    rintro e w70 ⟨vs, rfl, hh70, hb70⟩
    rw [Nat.add_sub_cancel' HQ.out.1] at hh70
    have H70 := Lib.hid hh70
    have H71 := Lib.hid (H65.out.below hb70)
    have H72 := Lib.hid (H66.out.below hb70)
    have H73 := Lib.hid (H67.out.below hb70)
    have NN74 := Lib.hid (NN69.out.trans (hb70.mono NN69.out.size))
    clear hh70 hb70 H65 H66 H67 H68 H64 NN69
    go_wp2_with fail
    obtain ⟨w75, hw75⟩ : ∃ w75, w75 = w70.alloc (.cells #[.int .u32 1] 59) := ⟨_, rfl⟩
    have hb75 : Below w70.heap.size w70 w75 := by rw [hw75]; exact below_new w70 _
    rw [← hw75]
    have H76 := Lib.hid (H71.out.below hb75)
    have H77 := Lib.hid (H72.out.below hb75)
    have H78 := Lib.hid (H73.out.below hb75)
    have H79 := Lib.hid (H70.out.below hb75)
    have NN80 := Lib.hid (NN74.out.trans (hb75.mono NN74.out.size))
    have A1 := Lib.hid (show At w75 (.slice (some ⟨w70.heap.size, 0, none⟩) 1 1) (Nl.limbs 1) by rw [hw75]; exact at_one w70 _)
    clear hb75 hw75 H71 H72 H73 H70 NN74
    refine (add_fits vroot _ q 1 w75 H78.out A1.out (by have := HQL.out; omega) (by have : (Nl.limbs 1).length ≤ 1 := Nl.limbs_lt (by decide); omega) (by have := HQL.out; omega)).mono ?_
    rintro e w81 ⟨vnext, rfl, hh81, hb81⟩
    have H81 := Lib.hid hh81
    have H82 := Lib.hid (H76.out.below hb81)
    have H83 := Lib.hid (H77.out.below hb81)
    have H84 := Lib.hid (H79.out.below hb81)
    have NN85 := Lib.hid (NN80.out.trans (hb81.mono NN80.out.size))
    clear hh81 hb81 H76 H77 H78 H79 NN80
    go_wp2_with fail
    refine (same_yes vs _ (Nl.limbs y) w81 H84.out H83.out).mono ?_
    rintro e w86 ⟨rfl, j86, q86⟩
    have hb86 : Below w81.heap.size w81 w86 := by rw [q86]; exact below_drewN ..
    have H87 := Lib.hid (H82.out.below hb86)
    have H88 := Lib.hid (H83.out.below hb86)
    have H89 := Lib.hid (H81.out.below hb86)
    have NN90 := Lib.hid (NN85.out.trans (hb86.mono NN85.out.size))
    clear hb86 q86 H82 H83 H84 H81 NN85
    go_wp2_with fail
    refine (pow_num _ (q + 1) k1 w86 H89.out (by have := HQL.out; omega) (small_mul (show k1 ≤ 20 by omega) (show nbits (q + 1) ≤ 672 by have := HQL.out; omega) (by decide)) (by omega)).mono ?_
    rintro e w91 ⟨vpp, rfl, hh91, hb91⟩
    have H91 := Lib.hid hh91
    have H92 := Lib.hid (H87.out.below hb91)
    have H93 := Lib.hid (H88.out.below hb91)
    have H94 := Lib.hid (H89.out.below hb91)
    have NN95 := Lib.hid (NN90.out.trans (hb91.mono NN90.out.size))
    clear hh91 hb91 H87 H88 H89 NN90
    go_wp2_with fail
    refine (cmp_num _ vpp y ((q + 1) ^ k1) w91 H93.out H91.out (by have := HL.out; omega) (pow_fits (small_mul (show k1 ≤ 20 by omega) (show nbits (q + 1) ≤ 672 by have := HQL.out; omega) (by decide)))).mono ?_
    rintro e w96 ⟨rfl, j96, q96⟩
    have hb96 : Below w91.heap.size w91 w96 := by rw [q96]; exact below_drewN ..
    have H97 := Lib.hid (H92.out.below hb96)
    have H98 := Lib.hid (H93.out.below hb96)
    have H99 := Lib.hid (H94.out.below hb96)
    have NN100 := Lib.hid (NN95.out.trans (hb96.mono NN95.out.size))
    clear hb96 q96 H92 H93 H94 H91 NN95
    rw [cmpI_lt HQ.out.2]
    go_wp2_with fail
    refine (sanity_any w96).mono ?_
    rintro e w101 ⟨rfl, hb101⟩
    have H102 := Lib.hid (H97.out.below hb101)
    have H103 := Lib.hid (H98.out.below hb101)
    have H104 := Lib.hid (H99.out.below hb101)
    have NN105 := Lib.hid (NN100.out.trans (hb101.mono NN100.out.size))
    clear hb101 H97 H98 H99 NN100
    go_wp2_with fail
    go_ret
    exact ⟨rfl, B0.out.trans (NN105.out.mono B0.out.size)⟩


set_option maxRecDepth 10000 in
theorem natPowers_any (va vb : Value) (xs ys : List Nat) (M N : Nat) (w : World) (ha : At w va xs) (hb : At w vb ys) (hsx : Nl.Small xs) (hsy : Nl.Small ys) (hM : M < 256) (hN : N < 256) :
    Calls Tryz.prog 14 #[va, vb, .int .u8 M, .int .u8 N] w fun e w' => e = .returned (.bool true) ∧ Below w.heap.size w w' := by
  by_cases hall : (numB 20 xs && numB 20 ys) = true
  · simp only [numB, Bool.and_eq_true, decide_eq_true_eq] at hall
    obtain ⟨⟨lx, vx⟩, ly, vy⟩ := hall
    have ex := at_limbs ha hsx vx
    have ey := at_limbs hb hsy vy
    rw [ex] at ha lx
    rw [ey] at hb ly
    exact natPowers_num va vb _ _ M N w ha hb lx ly hM hN
  · obtain ⟨pa, ca, rfl, -⟩ := ha.form
    obtain ⟨pb, cb, rfl, -⟩ := hb.form
    have bn := below_new w (.cells #[.slice pa xs.length ca, .slice pb ys.length cb] 23)
    have h1 := numbers_two _ _ xs ys 20 w ha hb (by decide)
    rw [show (numB 20 xs && numB 20 ys) = false by simpa using hall] at h1
    have HN := Lib.hid h1
    have BN := Lib.hid bn
    clear hall ha hb h1 bn
    go_enter Tryz.func14, Tryz.ntmps14
    go_wp2_with fail
    refine HN.out.mono ?_
    rintro e w' ⟨rfl, rfl⟩
    go_wp2_with fail
    refine (sanity_any _).mono ?_
    rintro e w3 ⟨rfl, hb3⟩
    have B3 := Lib.hid (BN.out.trans (hb3.mono BN.out.size))
    clear hb3
    go_wp2_with fail
    go_ret
    exact ⟨rfl, B3.out⟩
end Go.Proofs.YtfaledeidjmooaaGreat
