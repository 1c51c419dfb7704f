/-
  The self-test returns true. Conditions: those that each theorem names.
-/
import Derived.Test.YtikgfdkaikpmhaaGreatSane
namespace Go.Proofs.YtikgfdkaikpmhaaGreat
open Go.RowKit

theorem sameB_self (xs : List Nat) : sameB xs xs = true := decide_eq_true rfl
theorem same_self (va vb : Value) (xs : List Nat) (w : World) (ha : At w va xs) (hb : At w vb xs) :
    Calls Tryz.prog 34 #[va, vb] w fun e w' => e = .returned (.bool true) ∧ Below w.heap.size w w' := by
  refine (same_any va vb xs xs w ha hb).mono ?_
  rintro e w' ⟨rfl, k, rfl⟩
  exact ⟨by rw [sameB_self], below_drewN ..⟩
theorem at_lit (w : World) (x : Nat) : At (w.alloc (.cells #[.int .u32 (x : Int)] 59)) (.slice (some ⟨w.heap.size, 0, none⟩) 1 1) [x] := at_new w [x] 1 rfl (by decide)

set_option maxRecDepth 10000 in
set_option maxHeartbeats 4000000 in
theorem sanity_any (w : World) : Calls Tryz.prog 18 #[] w fun e w' => e = .returned (.bool true) ∧ Below w.heap.size w w' := by
  go_enter Tryz.func18, Tryz.ntmps18
  go_wp2_with fail
  refine (s_div1 w).mono ?_
  rintro e w1 ⟨⟨t1, t2, rfl, h1, h2⟩, hb1⟩
  rw [limbs_one (by decide) (by decide)] at h2
  have H1 := Lib.hid h1
  have H2 := Lib.hid h2
  have B1 := Lib.hid hb1
  clear h1 h2 hb1
  go_wp2_with fail
  refine (s_pow w1).mono ?_
  rintro e w2 ⟨⟨t4, rfl, h4⟩, hb⟩
  have H4 := Lib.hid h4
  have H1' := Lib.hid (H1.out.below hb)
  have H2' := Lib.hid (H2.out.below hb)
  have B2 := Lib.hid (B1.out.trans (hb.mono B1.out.size))
  clear h4 hb H1 H2 B1
  go_wp2_with fail
  refine (s_text t4 w2 H4.out).mono ?_
  rintro e w3 ⟨rfl, hb⟩
  have H1 := Lib.hid (H1'.out.below hb)
  have H2 := Lib.hid (H2'.out.below hb)
  have B3 := Lib.hid (B2.out.trans (hb.mono B2.out.size))
  clear hb H1' H2' B2 H4
  go_wp2_with fail
  refine (s_root w3).mono ?_
  rintro e w4 ⟨⟨t8, t9, rfl, h8, h9⟩, hb⟩
  rw [limbs_one (by decide) (by decide)] at h8 h9
  have H8 := Lib.hid h8
  have H9 := Lib.hid h9
  have H1' := Lib.hid (H1.out.below hb)
  have H2' := Lib.hid (H2.out.below hb)
  have B4 := Lib.hid (B3.out.trans (hb.mono B3.out.size))
  clear h8 h9 hb H1 H2 B3
  go_wp2_with fail
  refine (s_div0 w4).mono ?_
  rintro e w5 ⟨⟨t11, t12, rfl⟩, hb⟩
  have H1 := Lib.hid (H1'.out.below hb)
  have H2 := Lib.hid (H2'.out.below hb)
  have H8' := Lib.hid (H8.out.below hb)
  have H9' := Lib.hid (H9.out.below hb)
  have B5 := Lib.hid (B4.out.trans (hb.mono B4.out.size))
  clear hb H1' H2' H8 H9 B4
  go_wp2_with fail
  refine (refOf_any 1844674407370955161 w5 (by decide)).mono ?_
  rintro e w6 ⟨⟨to, rfl, ho⟩, hb⟩
  have HO := Lib.hid ho
  have H1' := Lib.hid (H1.out.below hb)
  have H2' := Lib.hid (H2.out.below hb)
  have H8 := Lib.hid (H8'.out.below hb)
  have H9 := Lib.hid (H9'.out.below hb)
  have B6 := Lib.hid (B5.out.trans (hb.mono B5.out.size))
  clear ho hb H1 H2 H8' H9' B5
  go_wp2_with fail
  refine (same_self t1 to _ w6 H1'.out HO.out).mono ?_
  rintro e w7 ⟨rfl, hb⟩
  have H2 := Lib.hid (H2'.out.below hb)
  have H8' := Lib.hid (H8.out.below hb)
  have H9' := Lib.hid (H9.out.below hb)
  have B7 := Lib.hid (B6.out.trans (hb.mono B6.out.size))
  clear hb H1' H2' H8 H9 B6 HO
  go_wp2_with fail
  have bn := below_new w7 (.cells #[.int .u32 5] 59)
  refine (same_self t2 _ [5] _ (H2.out.below bn) (at_lit w7 5)).mono ?_
  rintro e w8 ⟨rfl, hb⟩
  have H8 := Lib.hid ((H8'.out.below bn).below hb)
  have H9 := Lib.hid ((H9'.out.below bn).below hb)
  have B8 := Lib.hid (B7.out.trans ((bn.trans (hb.mono bn.size)).mono B7.out.size))
  clear hb bn H2 H8' H9' B7
  go_wp2_with fail
  have bn := below_new w8 (.cells #[.int .u32 9] 59)
  refine (same_self t8 _ [9] _ (H8.out.below bn) (at_lit w8 9)).mono ?_
  rintro e w9 ⟨rfl, hb⟩
  have H9' := Lib.hid ((H9.out.below bn).below hb)
  have B9 := Lib.hid (B8.out.trans ((bn.trans (hb.mono bn.size)).mono B8.out.size))
  clear hb bn H8 H9 B8
  go_wp2_with fail
  have bn := below_new w9 (.cells #[.int .u32 18] 59)
  refine (same_self t9 _ [18] _ (H9'.out.below bn) (at_lit w9 18)).mono ?_
  rintro e w10 ⟨rfl, hb⟩
  have B10 := Lib.hid (B9.out.trans ((bn.trans (hb.mono bn.size)).mono B9.out.size))
  clear hb bn H9' B9
  go_wp2_with fail
  refine (s_mul w10).mono ?_
  rintro e w11 ⟨⟨t14, rfl, h14⟩, hb⟩
  rw [show Nl.limbs 18446744065119617025 = [1, 4294967294] from limbs_lit2 (a := 1) (b := 4294967294) (by decide) (by decide) (by decide)] at h14
  have H14 := Lib.hid h14
  have B11 := Lib.hid (B10.out.trans (hb.mono B10.out.size))
  clear hb h14 B10
  go_wp2_with fail
  refine (s_gcd w11).mono ?_
  rintro e w12 ⟨⟨t15, rfl, h15⟩, hb⟩
  rw [limbs_one (by decide) (by decide)] at h15
  have H15 := Lib.hid h15
  have H14' := Lib.hid (H14.out.below hb)
  have B12 := Lib.hid (B11.out.trans (hb.mono B11.out.size))
  clear hb h15 H14 B11
  go_wp2_with fail
  refine (s_sub w12).mono ?_
  rintro e w13 ⟨⟨t7, rfl⟩, hb⟩
  have H15' := Lib.hid (H15.out.below hb)
  have H14 := Lib.hid (H14'.out.below hb)
  have B13 := Lib.hid (B12.out.trans (hb.mono B12.out.size))
  clear hb H15 H14' B12
  go_wp2_with fail
  refine (parse_007 w13).mono ?_
  rintro e w14 ⟨⟨tp, rfl⟩, hb⟩
  have H15 := Lib.hid (H15'.out.below hb)
  have H14' := Lib.hid (H14.out.below hb)
  have B14 := Lib.hid (B13.out.trans (hb.mono B13.out.size))
  clear hb H15' H14 B13
  go_wp2_with fail
  have bn := below_new w14 (.cells #[.int .u32 1, .int .u32 4294967294] 59)
  refine (same_self t14 _ [1, 4294967294] _ (H14'.out.below bn) (at_new w14 [1, 4294967294] 2 rfl (by decide))).mono ?_
  rintro e w15 ⟨rfl, hb⟩
  have H15' := Lib.hid ((H15.out.below bn).below hb)
  have B15 := Lib.hid (B14.out.trans ((bn.trans (hb.mono bn.size)).mono B14.out.size))
  clear hb bn H15 H14' B14
  go_wp2_with fail
  have bn := below_new w15 (.cells #[.int .u32 6] 59)
  refine (same_self t15 _ [6] _ (H15'.out.below bn) (at_lit w15 6)).mono ?_
  rintro e w16 ⟨rfl, hb⟩
  have B16 := Lib.hid (B15.out.trans ((bn.trans (hb.mono bn.size)).mono B15.out.size))
  clear hb bn H15' B15
  go_wp2_with fail
  have v1 : Calls Tryz.prog 56 #[.slice (some ⟨w16.heap.size, 0, none⟩) 2 2] (w16.alloc (.cells #[.int .u32 5, .int .u32 0] 59)) fun e w' => e = .returned (.bool false) ∧ w16.alloc (.cells #[.int .u32 5, .int .u32 0] 59) = w' :=
    valid_any _ [5, 0] _ (at_new w16 [5, 0] 2 rfl (by decide))
  refine v1.mono ?_
  rintro e w17 ⟨rfl, rfl⟩
  have B17 := Lib.hid (B16.out.trans ((below_new w16 (.cells #[.int .u32 5, .int .u32 0] 59)).mono B16.out.size))
  clear v1 B16
  obtain ⟨w17, hw17⟩ : ∃ w17, w17 = w16.alloc (.cells #[.int .u32 5, .int .u32 0] 59) := ⟨_, rfl⟩
  rw [← hw17] at B17 ⊢
  clear hw17
  go_wp2_with fail
  have v1 : Calls Tryz.prog 56 #[.slice (some ⟨w17.heap.size, 0, none⟩) 2 2] (w17.alloc (.cells #[.int .u32 0, .int .u32 1] 59)) fun e w' => e = .returned (.bool true) ∧ w17.alloc (.cells #[.int .u32 0, .int .u32 1] 59) = w' :=
    valid_any _ [0, 1] _ (at_new w17 [0, 1] 2 rfl (by decide))
  refine v1.mono ?_
  rintro e w18 ⟨rfl, rfl⟩
  have B18 := Lib.hid (B17.out.trans ((below_new w17 (.cells #[.int .u32 0, .int .u32 1] 59)).mono B17.out.size))
  clear v1 B17
  go_wp2_with fail
  go_ret
  exact ⟨rfl, B18.out⟩
end Go.Proofs.YtikgfdkaikpmhaaGreat
