/-
  NatRing returns true for any three slices. Conditions: those that each theorem names.
-/
import Derived.Test.YtfaledeidjmooaaGreatOrder
namespace Go.Proofs.YtfaledeidjmooaaGreat
open Go.RowKit

theorem limbs_1 : Nl.limbs 1 = [1] := limbs_one (by decide) (by decide)

/-- the road of three numbers of at most 200 words -/
def RingPost (w : World) (e : Ending) (w' : World) : Prop := e = .returned (.bool true) ∧ Below w.heap.size w w'

set_option maxRecDepth 10000 in
set_option maxHeartbeats 8000000 in
theorem natRing_num (va vb vc : Value) (x y z : Nat) (w : World) (ha : At w va (Nl.limbs x)) (hb : At w vb (Nl.limbs y)) (hc : At w vc (Nl.limbs z))
    (lx : (Nl.limbs x).length ≤ 200) (ly : (Nl.limbs y).length ≤ 200) (lz : (Nl.limbs z).length ≤ 200) :
    Calls Tryz.prog 11 #[va, vb, vc] w fun e w' => RingPost w e w' := by
  obtain ⟨pa, ca, rfl, -⟩ := ha.form
  obtain ⟨pb, cb, rfl, -⟩ := hb.form
  obtain ⟨pc, cc, rfl, -⟩ := hc.form
  have bn := below_three w (.slice pa (Nl.limbs x).length ca) (.slice pb (Nl.limbs y).length cb) (.slice pc (Nl.limbs z).length cc)
  have HN := Lib.hid (numbers_yes _ _ _ (Nl.limbs x) (Nl.limbs y) (Nl.limbs z) 200 w ha hb hc ⟨lx, validB_limbs (by omega)⟩ ⟨ly, validB_limbs (by omega)⟩ ⟨lz, validB_limbs (by omega)⟩ (by decide))
  have l1 := Nl.len_add x y
  have l2 := Nl.len_add y x
  have l3 := Nl.len_add y z
  have l4 := Nl.len_mul x y
  have l5 := Nl.len_mul y z
  have l6 := Nl.len_mul x z
  have LL := Lib.hid (And.intro lx (And.intro ly (And.intro lz (And.intro l1 (And.intro l2 (And.intro l3 (And.intro l4 (And.intro l5 l6))))))))
  have HA := Lib.hid (ha.below bn)
  have HB := Lib.hid (hb.below bn)
  have HC := Lib.hid (hc.below bn)
  have B0 := Lib.hid bn
  clear ha hb hc bn lx ly lz l1 l2 l3 l4 l5 l6
  go_enter Tryz.func11, Tryz.ntmps11
  go_wp2_with fail
  refine HN.out.mono ?_
  rintro e w' ⟨rfl, rfl⟩
  obtain ⟨w0, hw0⟩ : ∃ w0, w0 = w.alloc (.cells #[.slice pa (Nl.limbs x).length ca, .slice pb (Nl.limbs y).length cb, .slice pc (Nl.limbs z).length cc] 23) := ⟨_, rfl⟩
  rw [← hw0] at HA HB HC B0 ⊢
  clear hw0 HN
  go_wp2_with fail
  refine (add_num _ _ x y w0 HA.out HB.out (by have := LL.out; omega) (by have := LL.out; omega)).mono ?_
  rintro e w1 ⟨vab, rfl, hab, hb1⟩
  have HAB := Lib.hid hab
  have N1 := Lib.hid hb1
  clear hab hb1
  go_wp2_with fail
  refine (add_num _ _ y x w1 (HB.out.below N1.out) (HA.out.below N1.out) (by have := LL.out; omega) (by have := LL.out; omega)).mono ?_
  rintro e w2 ⟨vba, rfl, hba, hb2⟩
  rw [Nat.add_comm y x] at hba
  have HBA := Lib.hid hba
  have HAB2 := Lib.hid (HAB.out.below hb2)
  have N2 := Lib.hid (N1.out.trans (hb2.mono N1.out.size))
  clear hba hb2 HAB
  go_wp2_with fail
  refine (add_num _ _ y z w2 (HB.out.below N2.out) (HC.out.below N2.out) (by have := LL.out; omega) (by have := LL.out; omega)).mono ?_
  rintro e w3 ⟨vbc, rfl, hbc, hb3⟩
  have HBC := Lib.hid hbc
  have HAB3 := Lib.hid (HAB2.out.below hb3)
  have HBA3 := Lib.hid (HBA.out.below hb3)
  have N3 := Lib.hid (N2.out.trans (hb3.mono N2.out.size))
  clear hbc hb3 HAB2 HBA N2
  go_wp2_with fail
  refine (add_num vab _ (x + y) z w3 HAB3.out (HC.out.below N3.out) (by have := LL.out; omega) (by have := LL.out; omega)).mono ?_
  rintro e w4 ⟨vs, rfl, hs, hb4⟩
  have HS := Lib.hid hs
  have HAB4 := Lib.hid (HAB3.out.below hb4)
  have HBA4 := Lib.hid (HBA3.out.below hb4)
  have HBC4 := Lib.hid (HBC.out.below hb4)
  have N4 := Lib.hid (N3.out.trans (hb4.mono N3.out.size))
  clear hs hb4 HAB3 HBA3 HBC N3
  go_wp2_with fail
  refine (add_num _ vbc x (y + z) w4 (HA.out.below N4.out) HBC4.out (by have := LL.out; omega) (by have := LL.out; omega)).mono ?_
  rintro e w5 ⟨vt, rfl, ht, hb5⟩
  rw [← Nat.add_assoc] at ht
  have HT := Lib.hid ht
  have HS5 := Lib.hid (HS.out.below hb5)
  have HAB5 := Lib.hid (HAB4.out.below hb5)
  have HBA5 := Lib.hid (HBA4.out.below hb5)
  have HBC5 := Lib.hid (HBC4.out.below hb5)
  have N5 := Lib.hid (N4.out.trans (hb5.mono N4.out.size))
  clear ht hb5 HAB4 HBA4 HBC4 HS N4
  go_wp2_with fail
  refine (sub_num vab _ (x + y) y w5 HAB5.out (HB.out.below N5.out) (by have := LL.out; omega) (by omega)).mono ?_
  rintro e w6 ⟨vback, rfl, hk, hb6⟩
  rw [Nat.add_sub_cancel] at hk
  have HK := Lib.hid hk
  have HT6 := Lib.hid (HT.out.below hb6)
  have HS6 := Lib.hid (HS5.out.below hb6)
  have HBC6 := Lib.hid (HBC5.out.below hb6)
  have N6 := Lib.hid (N5.out.trans (hb6.mono N5.out.size))
  have SAB := Lib.hid (same_yes vab vba _ w6 (HAB5.out.below hb6) (HBA5.out.below hb6))
  clear hk hb6 HAB5 HBA5 HBC5 HS5 HT N5
  go_wp2_with (go_at_call_of 34 vba; refine SAB.out.mono ?_; rintro e w' ⟨rfl, k7, rfl⟩)
  have b7 := below_drewN w6 k7 w6.heap.size
  refine (alike_yes vs vt _ 0 _ (HS6.out.below b7) (HT6.out.below b7)).mono ?_
  rintro e w8 ⟨rfl, k8, hw8⟩
  have b8 : Below w6.heap.size w6 w8 := by rw [hw8]; exact b7.trans (below_drewN (w6.drewN k7) k8 _)
  have HK8 := Lib.hid (HK.out.below b8)
  have HBC8 := Lib.hid (HBC6.out.below b8)
  have N8 := Lib.hid (N6.out.trans (b8.mono N6.out.size))
  clear hw8 b7 b8 HK HBC6 HS6 HT6 SAB N6
  go_wp2_with fail
  refine (same_yes vback _ _ w8 HK8.out (HA.out.below N8.out)).mono ?_
  rintro e w9 ⟨rfl, k9, hw9⟩
  have b9 : Below w8.heap.size w8 w9 := by rw [hw9]; exact below_drewN w8 k9 _
  have HBC9 := Lib.hid (HBC8.out.below b9)
  have N9 := Lib.hid (N8.out.trans (b9.mono N8.out.size))
  clear hw9 b9 HK8 HBC8 N8
  go_wp2_with fail
  refine (mul_num _ _ x y w9 (HA.out.below N9.out) (HB.out.below N9.out) (by have := LL.out; omega)).mono ?_
  rintro e w10 ⟨vp, rfl, hp, hb10⟩
  have HP := Lib.hid hp
  have HBC10 := Lib.hid (HBC9.out.below hb10)
  have N10 := Lib.hid (N9.out.trans (hb10.mono N9.out.size))
  clear hp hb10 HBC9 N9
  go_wp2_with fail
  refine (mul_num _ _ y x w10 (HB.out.below N10.out) (HA.out.below N10.out) (by have := LL.out; omega)).mono ?_
  rintro e w11 ⟨vq, rfl, hq, hb11⟩
  rw [Nat.mul_comm y x] at hq
  have HQ := Lib.hid hq
  have HP11 := Lib.hid (HP.out.below hb11)
  have HBC11 := Lib.hid (HBC10.out.below hb11)
  have N11 := Lib.hid (N10.out.trans (hb11.mono N10.out.size))
  clear hq hb11 HBC10 HP N10
  go_wp2_with fail
  refine (mul_num vp _ (x * y) z w11 HP11.out (HC.out.below N11.out) (by have := LL.out; omega)).mono ?_
  rintro e w12 ⟨vx, rfl, hx, hb12⟩
  have HX := Lib.hid hx
  have HQ12 := Lib.hid (HQ.out.below hb12)
  have HP12 := Lib.hid (HP11.out.below hb12)
  have HBC12 := Lib.hid (HBC11.out.below hb12)
  have N12 := Lib.hid (N11.out.trans (hb12.mono N11.out.size))
  clear hx hb12 HBC11 HP11 HQ N11
  go_wp2_with fail
  refine (mul_num _ _ y z w12 (HB.out.below N12.out) (HC.out.below N12.out) (by have := LL.out; omega)).mono ?_
  rintro e w13 ⟨vbxc, rfl, hbx, hb13⟩
  have HBX := Lib.hid hbx
  have HX13 := Lib.hid (HX.out.below hb13)
  have HQ13 := Lib.hid (HQ12.out.below hb13)
  have HP13 := Lib.hid (HP12.out.below hb13)
  have HBC13 := Lib.hid (HBC12.out.below hb13)
  have N13 := Lib.hid (N12.out.trans (hb13.mono N12.out.size))
  clear hbx hb13 HBC12 HP12 HQ12 HX N12
  go_wp2_with fail
  refine (mul_num _ vbxc x (y * z) w13 (HA.out.below N13.out) HBX.out (by have := LL.out; omega)).mono ?_
  rintro e w14 ⟨vy, rfl, hy, hb14⟩
  rw [← Nat.mul_assoc] at hy
  have HY := Lib.hid hy
  have HX14 := Lib.hid (HX13.out.below hb14)
  have HQ14 := Lib.hid (HQ13.out.below hb14)
  have HP14 := Lib.hid (HP13.out.below hb14)
  have HBC14 := Lib.hid (HBC13.out.below hb14)
  have N14 := Lib.hid (N13.out.trans (hb14.mono N13.out.size))
  clear hy hb14 HBC13 HP13 HQ13 HX13 HBX N13
  go_wp2_with fail
  refine (mul_num _ vbc x (y + z) w14 (HA.out.below N14.out) HBC14.out (by have := LL.out; omega)).mono ?_
  rintro e w15 ⟨vl, rfl, hl, hb15⟩
  rw [Nat.mul_add] at hl
  have HL := Lib.hid hl
  have HY15 := Lib.hid (HY.out.below hb15)
  have HX15 := Lib.hid (HX14.out.below hb15)
  have HQ15 := Lib.hid (HQ14.out.below hb15)
  have HP15 := Lib.hid (HP14.out.below hb15)
  have N15 := Lib.hid (N14.out.trans (hb15.mono N14.out.size))
  clear hl hb15 HBC14 HP14 HQ14 HX14 HY N14
  go_wp2_with fail
  refine (mul_num _ _ x z w15 (HA.out.below N15.out) (HC.out.below N15.out) (by have := LL.out; omega)).mono ?_
  rintro e w16 ⟨vac, rfl, hac, hb16⟩
  have HAC := Lib.hid hac
  have HL16 := Lib.hid (HL.out.below hb16)
  have HY16 := Lib.hid (HY15.out.below hb16)
  have HX16 := Lib.hid (HX15.out.below hb16)
  have HQ16 := Lib.hid (HQ15.out.below hb16)
  have HP16 := Lib.hid (HP15.out.below hb16)
  have N16 := Lib.hid (N15.out.trans (hb16.mono N15.out.size))
  clear hac hb16 HP15 HQ15 HX15 HY15 HL N15
  go_wp2_with fail
  refine (add_num vp vac (x * y) (x * z) w16 HP16.out HAC.out (by have := LL.out; omega) (by have := LL.out; omega)).mono ?_
  rintro e w17 ⟨vr, rfl, hr, hb17⟩
  have HR := Lib.hid hr
  have HL17 := Lib.hid (HL16.out.below hb17)
  have HY17 := Lib.hid (HY16.out.below hb17)
  have HX17 := Lib.hid (HX16.out.below hb17)
  have HQ17 := Lib.hid (HQ16.out.below hb17)
  have HP17 := Lib.hid (HP16.out.below hb17)
  have N17 := Lib.hid (N16.out.trans (hb17.mono N16.out.size))
  clear hr hb17 HP16 HQ16 HX16 HY16 HL16 HAC N16
  go_wp2_with fail
  have bn := below_new w17 (.cells #[.int .u32 1] 59)
  have n1 := at_lit w17 1
  rw [← limbs_1] at n1
  have h1 := mul_num _ _ x 1 _ ((HA.out.below N17.out).below bn) n1 (by rw [limbs_1]; have := LL.out; simp; omega)
  rw [Nat.mul_one] at h1
  refine h1.mono ?_
  rintro e w18 ⟨vone, rfl, ho, hb18⟩
  have b18 : Below w17.heap.size w17 w18 := bn.trans (hb18.mono bn.size)
  have HO := Lib.hid ho
  have HR18 := Lib.hid (HR.out.below b18)
  have HL18 := Lib.hid (HL17.out.below b18)
  have HY18 := Lib.hid (HY17.out.below b18)
  have HX18 := Lib.hid (HX17.out.below b18)
  have HQ18 := Lib.hid (HQ17.out.below b18)
  have HP18 := Lib.hid (HP17.out.below b18)
  have N18 := Lib.hid (N17.out.trans (b18.mono N17.out.size))
  clear ho hb18 b18 bn n1 h1 HP17 HQ17 HX17 HY17 HL17 HR N17
  go_wp2_with fail
  have n0 : At w18 (.slice none 0 0) (Nl.limbs 0) := .inl ⟨rfl, Nl.limbs_zero⟩
  have h0 := mul_num _ _ x 0 _ (HA.out.below N18.out) n0 (by rw [Nl.limbs_zero]; have := LL.out; simp; omega)
  rw [Nat.mul_zero] at h0
  refine h0.mono ?_
  rintro e w19 ⟨vnone, rfl, hnone, hb19⟩
  rw [Nl.limbs_zero] at hnone
  obtain ⟨pn, cn, rfl, -⟩ := hnone.form
  have HO19 := Lib.hid (HO.out.below hb19)
  have HR19 := Lib.hid (HR18.out.below hb19)
  have HL19 := Lib.hid (HL18.out.below hb19)
  have HY19 := Lib.hid (HY18.out.below hb19)
  have HX19 := Lib.hid (HX18.out.below hb19)
  have HQ19 := Lib.hid (HQ18.out.below hb19)
  have HP19 := Lib.hid (HP18.out.below hb19)
  have N19 := Lib.hid (N18.out.trans (hb19.mono N18.out.size))
  clear hnone hb19 n0 h0 HP18 HQ18 HX18 HY18 HL18 HR18 HO N18
  go_wp2_with fail
  refine (sanity_any w19).mono ?_
  rintro e w20 ⟨rfl, hb20⟩
  have HO20 := Lib.hid (HO19.out.below hb20)
  have HR20 := Lib.hid (HR19.out.below hb20)
  have HL20 := Lib.hid (HL19.out.below hb20)
  have HY20 := Lib.hid (HY19.out.below hb20)
  have HX20 := Lib.hid (HX19.out.below hb20)
  have HQ20 := Lib.hid (HQ19.out.below hb20)
  have HP20 := Lib.hid (HP19.out.below hb20)
  have N20 := Lib.hid (N19.out.trans (hb20.mono N19.out.size))
  clear hb20 HP19 HQ19 HX19 HY19 HL19 HR19 HO19 N19
  go_wp2_with fail
  refine (same_yes vp vq _ w20 HP20.out HQ20.out).mono ?_
  rintro e w21 ⟨rfl, k21, rfl⟩
  have b21 := below_drewN w20 k21 w20.heap.size
  have HO21 := Lib.hid (HO20.out.below b21)
  have HR21 := Lib.hid (HR20.out.below b21)
  have HL21 := Lib.hid (HL20.out.below b21)
  have HY21 := Lib.hid (HY20.out.below b21)
  have HX21 := Lib.hid (HX20.out.below b21)
  have N21 := Lib.hid (N20.out.trans (b21.mono N20.out.size))
  clear b21 HX20 HY20 HL20 HR20 HO20 N20 HP20 HQ20
  go_wp2_with fail
  refine (same_yes vx vy _ _ HX21.out HY21.out).mono ?_
  rintro e w22 ⟨rfl, k22, hw22⟩
  have b22 : Below (w20.drewN k21).heap.size (w20.drewN k21) w22 := by rw [hw22]; exact below_drewN _ _ _
  have HO22 := Lib.hid (HO21.out.below b22)
  have HR22 := Lib.hid (HR21.out.below b22)
  have HL22 := Lib.hid (HL21.out.below b22)
  have N22 := Lib.hid (N21.out.trans (b22.mono N21.out.size))
  clear hw22 b22 HX21 HY21 HL21 HR21 HO21 N21
  go_wp2_with fail
  refine (same_yes vl vr _ _ HL22.out HR22.out).mono ?_
  rintro e w23 ⟨rfl, k23, hw23⟩
  have b23 : Below w22.heap.size w22 w23 := by rw [hw23]; exact below_drewN _ _ _
  have HO23 := Lib.hid (HO22.out.below b23)
  have N23 := Lib.hid (N22.out.trans (b23.mono N22.out.size))
  clear hw23 b23 HL22 HR22 HO22 N22
  go_wp2_with fail
  refine (same_yes vone _ _ _ HO23.out (HA.out.below N23.out)).mono ?_
  rintro e w24 ⟨rfl, k24, hw24⟩
  have b24 : Below w23.heap.size w23 w24 := by rw [hw24]; exact below_drewN _ _ _
  have N24 := Lib.hid (N23.out.trans (b24.mono N23.out.size))
  clear hw24 b24 HO23 N23
  go_wp2_with fail
  go_ret
  exact ⟨rfl, B0.out.trans (N24.out.mono B0.out.size)⟩
set_option maxRecDepth 10000 in
set_option maxHeartbeats 1000000 in
theorem natRing_any (va vb vc : Value) (xs ys zs : List Nat) (w : World) (ha : At w va xs) (hb : At w vb ys) (hc : At w vc zs) (hsx : Nl.Small xs) (hsy : Nl.Small ys) (hsz : Nl.Small zs) :
    Calls Tryz.prog 11 #[va, vb, vc] w fun e w' => e = .returned (.bool true) ∧ Below w.heap.size w w' := by
  by_cases hall : (numB 200 xs && (numB 200 ys && numB 200 zs)) = true
  · simp only [numB, Bool.and_eq_true, decide_eq_true_eq] at hall
    obtain ⟨⟨lx, vx⟩, ⟨ly, vy⟩, lz, vz⟩ := hall
    have ex := at_limbs ha hsx vx
    have ey := at_limbs hb hsy vy
    have ez := at_limbs hc hsz vz
    rw [ex] at ha lx
    rw [ey] at hb ly
    rw [ez] at hc lz
    exact natRing_num va vb vc _ _ _ w ha hb hc lx ly lz
  · obtain ⟨pa, ca, rfl, -⟩ := ha.form
    obtain ⟨pb, cb, rfl, -⟩ := hb.form
    obtain ⟨pc, cc, rfl, -⟩ := hc.form
    have bn := below_three w (.slice pa xs.length ca) (.slice pb ys.length cb) (.slice pc zs.length cc)
    have hn := numbers_three _ _ _ xs ys zs 200 w ha hb hc (by decide)
    rw [show (numB 200 xs && (numB 200 ys && numB 200 zs)) = false by simpa using hall] at hn
    have HN := Lib.hid hn
    have BN := Lib.hid bn
    clear hall ha hb hc hn bn
    go_enter Tryz.func11, Tryz.ntmps11
    go_wp2_with fail
    refine HN.out.mono ?_
    rintro e w' ⟨rfl, rfl⟩
    go_wp2_with fail
    refine (sanity_any _).mono ?_
    rintro e w3 ⟨rfl, hb3⟩
    have B3 := Lib.hid (BN.out.trans (hb3.mono BN.out.size))
    clear hb3
    go_wp2_with fail
    go_ret
    exact ⟨rfl, B3.out⟩
end Go.Proofs.YtfaledeidjmooaaGreat
