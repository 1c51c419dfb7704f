/-
  What over does of integers, for all four ways of rounding. Written by wip/tool/genover.py. Conditions: those that each theorem names.
-/
import Derived.Test.YtkbghamkalidcaaGreatOverIAll
namespace Go.Proofs.YtkbghamkalidcaaGreat
open Go.RowKit

/-- does a way take the quotient that lies farther from 0? -/
def farB (how : Nat) (x y : Bool) (q r d : Nat) : Bool := match how with
  | 2 => !(x == y)
  | 3 => x
  | 4 => halfB q r d
  | _ => false
theorem far1_call (x y : Bool) (pq pr pd : Option Addr) (lq cq lr cr ld cd : Nat) (w : World) :
    Calls Tryz.prog 187 #[.agg #[.bool x, .bool y, .slice pq lq cq, .slice pr lr cr, .slice pd ld cd]] w fun e w' => e = .returned (.bool false) ∧ Below w.heap.size w w' := by
  go_enter Tryz.func187, Tryz.ntmps187
  go_wp2_with fail
  go_ret
  exact ⟨rfl, by first | exact Below.refl _ _ | exact below_one w _⟩
theorem far2_call (x y : Bool) (pq pr pd : Option Addr) (lq cq lr cr ld cd : Nat) (w : World) :
    Calls Tryz.prog 188 #[.agg #[.bool x, .bool y, .slice pq lq cq, .slice pr lr cr, .slice pd ld cd]] w fun e w' => e = .returned (.bool (!(x == y))) ∧ Below w.heap.size w w' := by
  cases x <;> cases y
  all_goals
    go_enter Tryz.func188, Tryz.ntmps188
    go_wp2_with fail
    go_ret
    exact ⟨rfl, by first | exact Below.refl _ _ | exact below_one w _⟩
theorem far3_call (x y : Bool) (pq pr pd : Option Addr) (lq cq lr cr ld cd : Nat) (w : World) :
    Calls Tryz.prog 189 #[.agg #[.bool x, .bool y, .slice pq lq cq, .slice pr lr cr, .slice pd ld cd]] w fun e w' => e = .returned (.bool x) ∧ Below w.heap.size w w' := by
  go_enter Tryz.func189, Tryz.ntmps189
  go_wp2_with fail
  go_ret
  exact ⟨rfl, by first | exact Below.refl _ _ | exact below_one w _⟩
set_option maxHeartbeats 4000000 in
theorem over2_far (p0 p1 : Option Addr) (l0 c0 l1 c1 : Nat) (a b : Int) (q r : Nat) (w : World) (_hu : At w (.slice p0 l0 c0) (Nl.limbs a.natAbs)) (hv : At w (.slice p1 l1 c1) (Nl.limbs b.natAbs)) (lb : fitI b)
    (hdiv : ∀ w', Below w.heap.size w w' → Calls Tryz.prog 140 #[.slice p0 l0 c0, .slice p1 l1 c1] w' fun e w'' => DivN w' w'' e q r)
    (hr0 : r ≠ 0) (hrb : r ≤ b.natAbs) (fq : (Nl.limbs q).length ≤ 1023) (hh : (!(negB a == negB b)) = true) :
    Calls Tryz.prog 80 #[.agg #[.bool (negB a), .slice p0 l0 c0], .agg #[.bool (negB b), .slice p1 l1 c1], .int .i64 2] w fun e w' =>
      (∃ x y, e = .returned (.tuple #[x, y]) ∧ IsI w' x (sgn (negB a != negB b) (q + 1)) ∧ IsI w' y (sgn (!negB a) (b.natAbs - r))) ∧ Below w.heap.size w w' := by
  obtain ⟨s0, hs0⟩ : ∃ s0, s0 = negB a := ⟨_, rfl⟩
  obtain ⟨s1, hs1⟩ : ∃ s1, s1 = negB b := ⟨_, rfl⟩
  rw [← hs0, ← hs1]
  obtain ⟨W, hW⟩ : ∃ W, W = (((w.alloc (.cells #[.bool s0, .slice p0 l0 c0] 78)).alloc (.cells #[.bool s1, .slice p1 l1 c1] 78)).alloc (.cells #[.bool false, .slice none 0 0] 78)).alloc (.cells #[.bool false, .slice none 0 0] 78) := ⟨_, rfl⟩
  have h4 := four_mk w W _ _ _ _ _ _ hW
  have HD := Lib.hid (hdiv W h4.below)
  have HV := Lib.hid hv
  have H4 := Lib.hid h4
  rw [← hs0, ← hs1] at hh
  have HX := Lib.hid (And.intro hr0 (And.intro hrb (And.intro fq (And.intro hh lb))))
  have k00 := cell_of_row _ _ 0 _ _ (0, 0) h4.a
  have k01 := cell_of_row _ _ 1 _ _ (0, 0) h4.a
  have k10 := cell_of_row _ _ 0 _ _ (0, 0) h4.b
  have k11 := cell_of_row _ _ 1 _ _ (0, 0) h4.b
  simp only [List.getElem?_toArray, List.getElem?_cons_zero, List.getElem?_cons_succ] at k00 k01 k10 k11
  clear _hu hv lb hdiv hs0 hs1 h4 hr0 hrb fq hh
  go_enter Tryz.func80, Tryz.ntmps80
  go_upto_region 1 with fail
  rw [← hW]
  clear hW
  go_wp2_with fail
  refine HD.out.mono ?_
  rintro e w1 ⟨⟨pq, lq, cq, pr, lr, cr, rfl, hq, hr⟩, hb1⟩
  obtain ⟨B1, e0, e1, e2, e3⟩ := H4.out.move hb1
  have j00 := cell_of_row _ _ 0 _ _ (0, 0) e0
  have j01 := cell_of_row _ _ 1 _ _ (0, 0) e0
  have j10 := cell_of_row _ _ 0 _ _ (0, 0) e1
  have j11 := cell_of_row _ _ 1 _ _ (0, 0) e1
  simp only [List.getElem?_toArray, List.getElem?_cons_zero, List.getElem?_cons_succ] at j00 j01 j10 j11
  have HQR := Lib.hid (And.intro hq (And.intro hr (And.intro B1 (And.intro e0 (And.intro e1 (And.intro e2 e3))))))
  have HLR := Lib.hid (show lr ≠ 0 from fun h => by
    obtain ⟨aa, cc, hf, -⟩ := hr.form
    simp only [Value.slice.injEq] at hf
    have h0 := hf.2.1.symm.trans h
    exact HX.out.1 (limbs_nil.1 h0))
  clear hb1 hq hr B1 e0 e1 e2 e3 HD k00 k01 k10 k11
  go_wp2_with (go_at_call 139; refine (foundTwo_yes _ _ _ _ _ _ _).mono ?_; rintro e w' ⟨rfl, rfl⟩)
  obtain ⟨T, hT⟩ : ∃ T, T = w1.heap.size := ⟨_, rfl⟩
  obtain ⟨w2, hw2⟩ : ∃ w2, w2 = w1.alloc (.cells #[.bool s0, .bool s1, .slice pq lq cq, .slice pr lr cr, .slice p1 l1 c1] 151) := ⟨_, rfl⟩
  rw [← hw2, ← hT]
  have hb2 : Below w1.heap.size w1 w2 := by rw [hw2]; exact below_one w1 _
  have hTb : w2.heap[T]? = some (.cells #[.bool s0, .bool s1, .slice pq lq cq, .slice pr lr cr, .slice p1 l1 c1] 151 (0, 0)) := by rw [hw2, hT]; exact heap_alloc_new _ _
  have hTl : T < w2.heap.size := lt_of_block hTb
  have t0 := cell_of_row _ _ 0 _ _ (0, 0) hTb
  have t1 := cell_of_row _ _ 1 _ _ (0, 0) hTb
  have t2 := cell_of_row _ _ 2 _ _ (0, 0) hTb
  have t3 := cell_of_row _ _ 3 _ _ (0, 0) hTb
  have t4 := cell_of_row _ _ 4 _ _ (0, 0) hTb
  simp only [List.getElem?_toArray, List.getElem?_cons_zero, List.getElem?_cons_succ] at t0 t1 t2 t3 t4
  have HB2 := Lib.hid hb2
  have HH := Lib.hid (fun (w' : World) (_h : Below w2.drew.heap.size w2.drew w') => far2_call s0 s1 pq pr p1 lq cq lr cr l1 c1 w')
  have HT := Lib.hid (And.intro hT hTb)
  have e5 : ((lr : Int) == 0) = false := by rw [beq_eq_false_iff_ne]; have := HLR.out; omega
  have hix : ∀ w, (Instr.index 155 (.agg #[.nilFunc, .func (.func 187) #[] #[], .func (.func 188) #[] #[], .func (.func 189) #[] #[], .func (.func 190) #[] #[]]) (.int .i64 2)).run Tryz.prog w = .ok (.agg #[.func (.func 188) #[] #[]]) w := fun _ => by kernel_rfl
  have hfi : ∀ w, (Instr.field 154 (.agg #[.func (.func 188) #[] #[]]) 0).run Tryz.prog w = .ok (.func (.func 188) #[] #[]) w := fun _ => by kernel_rfl
  have HHB := Lib.hid HX.out.2.2.2.1
  clear hb2 hTb hT hw2 j00 j01 j10 j11
  go_region_held3 (fun w' => w'.cell? ⟨T, 0, none⟩ = some (.bool s0) ∧ w'.cell? ⟨T, 1, none⟩ = some (.bool s1) ∧ w'.cell? ⟨T, 2, none⟩ = some (.slice pq lq cq) ∧ w'.cell? ⟨T, 3, none⟩ = some (.slice pr lr cr) ∧ w'.cell? ⟨T, 4, none⟩ = some (.slice p1 l1 c1))
    (first
      | go_keep
      | assumption)
    (first
      | (go_at_call 141; refine (divisions_any _).mono ?_; rintro e w3 ⟨rfl, hb3⟩; have u0 := (hb3.cell (p := ⟨T, 0, none⟩) hTl).trans t0; have u1 := (hb3.cell (p := ⟨T, 1, none⟩) hTl).trans t1; have u2 := (hb3.cell (p := ⟨T, 2, none⟩) hTl).trans t2; have u3 := (hb3.cell (p := ⟨T, 3, none⟩) hTl).trans t3; have u4 := (hb3.cell (p := ⟨T, 4, none⟩) hTl).trans t4)
      | (go_at_call 188; refine (HH.out w3 hb3).mono ?_; rintro e w4 ⟨rfl, hb4⟩; rw [HHB.out]; have v0 := (hb4.cell (p := ⟨T, 0, none⟩) (Nat.lt_of_lt_of_le hTl hb3.size)).trans u0; have v1 := (hb4.cell (p := ⟨T, 1, none⟩) (Nat.lt_of_lt_of_le hTl hb3.size)).trans u1; have v2 := (hb4.cell (p := ⟨T, 2, none⟩) (Nat.lt_of_lt_of_le hTl hb3.size)).trans u2; have v3 := (hb4.cell (p := ⟨T, 3, none⟩) (Nat.lt_of_lt_of_le hTl hb3.size)).trans u3; have v4 := (hb4.cell (p := ⟨T, 4, none⟩) (Nat.lt_of_lt_of_le hTl hb3.size)).trans u4))
  have hb24 : Below w2.heap.size w2 w4 := (below_drewN w2 1 _).trans ((hb3.trans (hb4.mono hb3.size)).mono (Nat.le_refl _))
  have hb14 : Below w1.heap.size w1 w4 := HB2.out.trans (hb24.mono HB2.out.size)
  have HQR4 := Lib.hid (And.intro (HQR.out.1.below hb14) (HQR.out.2.1.below hb14))
  have hB4 : Below w.heap.size w w4 := HQR.out.2.2.1.trans (hb14.mono HQR.out.2.2.1.size)
  have E0 := (hb14.block _ (lt_of_block HQR.out.2.2.2.1)).trans HQR.out.2.2.2.1
  have E1 := (hb14.block _ (lt_of_block HQR.out.2.2.2.2.1)).trans HQR.out.2.2.2.2.1
  have E2 := (hb14.block _ (lt_of_block HQR.out.2.2.2.2.2.1)).trans HQR.out.2.2.2.2.2.1
  have E3 := (hb14.block _ (lt_of_block HQR.out.2.2.2.2.2.2)).trans HQR.out.2.2.2.2.2.2
  have HE := Lib.hid (And.intro hB4 (And.intro E0 (And.intro E1 (And.intro E2 E3))))
  clear hb3 hb4 hb24 hb14 hB4 E0 E1 E2 E3 t0 t1 t2 t3 t4 u0 u1 u2 u3 u4 v0 v1 v2 v3 v4 HH HB2 HQR HT hTl hix hfi
  have HXX := Lib.hid (show true = (!(s0 == s1)) from HHB.out.symm)
  go_wp2_with fail
  have hb5 := below_one w4 (.cells #[.int .u32 1] 80)
  have a1 : At (w4.alloc (.cells #[.int .u32 1] 80)) (.slice (some ⟨w4.heap.size, 0, none⟩) 1 1) (Nl.limbs 1) := by
    rw [limbs_one (by decide) (by decide)]
    have hr := row_new w4 [1]
    exact .inr ⟨w4.heap.size, 0, 1, rfl, trivial, Nat.le_refl _, by omega, hr.lt, fun i hi => by rw [Nat.zero_add]; exact hr.cell hi⟩
  have l1 : (Nl.limbs 1).length ≤ 1 := by rw [limbs_one (by decide) (by decide)]; exact Nat.le_refl _
  have hadd := add_yes _ _ q 1 _ (HQR4.out.1.below hb5) a1 (Nat.le_trans HX.out.2.2.1 (by decide)) (Nat.le_trans l1 (by decide)) (by have h1 := Nl.len_add q 1; have h2 := HX.out.2.2.1; omega)
  refine hadd.mono ?_
  rintro e w6 ⟨⟨p6, n6, c6, rfl, h6⟩, hb6⟩
  have hb46 : Below w4.heap.size w4 w6 := hb5.trans (hb6.mono hb5.size)
  have H6 := Lib.hid (And.intro h6 (HQR4.out.2.below hb46))
  have B6 := Lib.hid (HE.out.1.trans (hb46.mono HE.out.1.size))
  have E0 := (hb46.block _ (lt_of_block HE.out.2.1)).trans HE.out.2.1
  have E1 := (hb46.block _ (lt_of_block HE.out.2.2.1)).trans HE.out.2.2.1
  have E2 := (hb46.block _ (lt_of_block HE.out.2.2.2.1)).trans HE.out.2.2.2.1
  have E3 := (hb46.block _ (lt_of_block HE.out.2.2.2.2)).trans HE.out.2.2.2.2
  have HE6 := Lib.hid (And.intro E2 E3)
  have hK0 : w.heap.size < w6.heap.size := lt_of_block E0
  have hK1 : w.heap.size + 1 < w6.heap.size := lt_of_block E1
  have hK2 : w.heap.size + 2 < w6.heap.size := lt_of_block E2
  have hK3 : w.heap.size + 3 < w6.heap.size := lt_of_block E3
  have k00 := cell_of_row _ _ 0 _ _ (0, 0) E0
  have k11 := cell_of_row _ _ 1 _ _ (0, 0) E1
  simp only [List.getElem?_toArray, List.getElem?_cons_zero, List.getElem?_cons_succ] at k00 k11
  clear h6 hb6 hb5 hb46 a1 l1 hadd E0 E1 E2 E3 HE HQR4
  go_wp2_with (go_at_call 125; refine (found_yes _ _ _ _).mono ?_; rintro e w' ⟨rfl, rfl⟩)
  have ne1 : ¬ w.heap.size = w.heap.size + 1 + 1 := by omega
  have ne2 : ¬ w.heap.size + 1 + 1 = w.heap.size := by omega
  have ne3 : ¬ w.heap.size = w.heap.size + 1 + 1 + 1 := by omega
  have ne4 : ¬ w.heap.size + 1 + 1 + 1 = w.heap.size := by omega
  have ne5 : ¬ w.heap.size + 1 = w.heap.size + 1 + 1 + 1 := by omega
  have ne6 : ¬ w.heap.size + 1 + 1 + 1 = w.heap.size + 1 := by omega
  have HSG := Lib.hid (signed_num true _ (q + 1) w6.drew (H6.out.1.below (below_drewN w6 1 _)))
  have HSB := Lib.hid (fun (w7 : World) (h : Below w6.drew.heap.size w6.drew w7) => sub_yes _ _ b.natAbs r w7 (((HV.out.below B6.out).below (below_drewN w6 1 _)).below h) ((H6.out.2.below (below_drewN w6 1 _)).below h) HX.out.2.2.2.2 HX.out.2.1)
  go_region_held3 (fun w' => w'.cell? ⟨w.heap.size, 0, none⟩ = some (.bool s0) ∧ w'.cell? ⟨w.heap.size + 1, 1, none⟩ = some (.slice p1 l1 c1))
    (first
      | go_keep
      | assumption)
    (first
      | (go_at_call_of 124 (Value.slice p6 n6 c6); refine HSG.out.mono ?_; rintro e w7 ⟨⟨t7, rfl, ht7⟩, hb7⟩; have d00 := (hb7.cell (p := ⟨w.heap.size, 0, none⟩) hK0).trans k00; have d11 := (hb7.cell (p := ⟨w.heap.size + 1, 1, none⟩) hK1).trans k11)
      | (go_at_call 143; refine (HSB.out w7 hb7).mono ?_; rintro e w8 ⟨⟨p8, n8, c8, rfl, h8⟩, hb8⟩; have e00 := (hb8.cell (p := ⟨w.heap.size, 0, none⟩) (Nat.lt_of_lt_of_le hK0 hb7.size)).trans d00; have e11 := (hb8.cell (p := ⟨w.heap.size + 1, 1, none⟩) (Nat.lt_of_lt_of_le hK1 hb7.size)).trans d11)
      | (go_at_call 125; refine (found_yes _ _ _ _).mono ?_; rintro e w9 ⟨rfl, rfl⟩)
      | (go_at_call 124; refine (signed_num _ _ _ _ h8).mono ?_; rintro e w10 ⟨⟨t10, rfl, ht10⟩, hb10⟩; have hb78 := hb7.trans (hb8.mono hb7.size); have hb710 := hb78.trans (hb10.mono hb78.size); have f00 := (hb710.cell (p := ⟨w.heap.size, 0, none⟩) hK0).trans k00; have f11 := (hb710.cell (p := ⟨w.heap.size + 1, 1, none⟩) hK1).trans k11; have E2 := (hb710.block (w.heap.size + 2) hK2).trans HE6.out.1; have E3 := (hb710.block (w.heap.size + 3) hK3).trans HE6.out.2; have x0 := frozen_of_row _ _ 0 _ _ E2; have x1 := frozen_of_row _ _ 1 _ _ E2; have y0 := cell_of_row _ _ 0 _ _ (0, 0) E2; have y1 := cell_of_row _ _ 1 _ _ (0, 0) E2; have x2 := frozen_of_row _ _ 0 _ _ E3; have x3 := frozen_of_row _ _ 1 _ _ E3; have y2 := cell_of_row _ _ 0 _ _ (0, 0) E3; have y3 := cell_of_row _ _ 1 _ _ (0, 0) E3; have HZ := Lib.hid (And.intro E2 (And.intro E3 (And.intro ht7 (And.intro ht10 (And.intro h8 (And.intro hb710 hb10)))))); clear E2 E3 ht7 ht10))
  have HF := Lib.hid (And.intro d00 hb8)
  clear hb7 hb8 hb10 hb78 hb710 h8 d00 d11 e00 e11 f00 f11 k00 k11 HSG HSB ne1 ne2 ne3 ne4 ne5 ne6 hK0 hK1 HF
  go_wp2_with fail
  obtain ⟨w11, hw11⟩ : ∃ w11, w11 = (w10.setCell ⟨w.heap.size + 1 + 1, 0, none⟩ (.bool (negB (sgn true (q + 1))))).setCell ⟨w.heap.size + 1 + 1, 1, none⟩ (.slice p6 n6 c6) := ⟨_, rfl⟩
  rw [← hw11]
  have G2 : w11.heap[w.heap.size + 2]? = some (.cells #[.bool (negB (sgn true (q + 1))), .slice p6 n6 c6] 78 (0, 0)) := by rw [hw11]; exact ibox_set (g := w.heap.size + 2) _ _ HZ.out.1
  have G3 : w11.heap[w.heap.size + 3]? = some (.cells #[.bool false, .slice none 0 0] 78 (0, 0)) := by
    rw [hw11, Below.heap_setCell _ ⟨w.heap.size + 1 + 1, 1, none⟩ _ _ (by simp), Below.heap_setCell _ ⟨w.heap.size + 1 + 1, 0, none⟩ _ _ (by simp)]
    exact HZ.out.2.1
  have R3 := ibox_set (g := w.heap.size + 3) (.bool t10) (.slice p8 n8 c8) G3
  have R2 : ((w11.setCell ⟨w.heap.size + 3, 0, none⟩ (.bool t10)).setCell ⟨w.heap.size + 3, 1, none⟩ (.slice p8 n8 c8)).heap[w.heap.size + 2]? = some (.cells #[.bool (negB (sgn true (q + 1))), .slice p6 n6 c6] 78 (0, 0)) := by
    rw [Below.heap_setCell _ ⟨w.heap.size + 3, 1, none⟩ _ _ (by simp), Below.heap_setCell _ ⟨w.heap.size + 3, 0, none⟩ _ _ (by simp)]
    exact G2
  refine bodyPost_ret (v := .tuple #[.agg #[.bool (negB (sgn true (q + 1))), .slice p6 n6 c6], .agg #[.bool t10, .slice p8 n8 c8]]) (results_int2 Tryz.results80 _ _ (w.heap.size + 2) (w.heap.size + 3) _ _ rfl rfl (load_whole R2) (load_whole R3)) rfl ?_
  have hb610 : Below w6.heap.size w6 w10 := (below_drewN w6 1 _).trans (HZ.out.2.2.2.2.2.1.mono (Nat.le_refl _))
  have A6 := at_ibox (g := w.heap.size + 3) (.bool t10) (.slice p8 n8 c8) (show At w11 (.slice p6 n6 c6) (Nl.limbs (q + 1)) by rw [hw11]; exact at_ibox (g := w.heap.size + 2) _ _ (H6.out.1.below hb610) HZ.out.1) G3
  have A8 := at_ibox (g := w.heap.size + 3) (.bool t10) (.slice p8 n8 c8) (show At w11 (.slice p8 n8 c8) (Nl.limbs (b.natAbs - r)) by rw [hw11]; exact at_ibox (g := w.heap.size + 2) _ _ (HZ.out.2.2.2.2.1.below HZ.out.2.2.2.2.2.2) HZ.out.1) G3
  have hb11 : Below w.heap.size w w11 := by rw [hw11]; exact below_ibox (g := w.heap.size + 2) (B6.out.trans (hb610.mono B6.out.size)) (by omega) _ _
  refine ⟨⟨_, _, rfl, isI_mk A6 rfl (by rw [HXX.out]; rfl), isI_mk A8 HZ.out.2.2.2.1 ?_⟩, below_ibox (g := w.heap.size + 3) hb11 (by omega) _ _⟩
  first
    | rfl
    | rw [show ((b.natAbs - r : Nat) : Int) = (b.natAbs : Int) - (r : Int) by have := HX.out.2.1; omega]

set_option maxHeartbeats 4000000 in
theorem over3_far (p0 p1 : Option Addr) (l0 c0 l1 c1 : Nat) (a b : Int) (q r : Nat) (w : World) (_hu : At w (.slice p0 l0 c0) (Nl.limbs a.natAbs)) (hv : At w (.slice p1 l1 c1) (Nl.limbs b.natAbs)) (lb : fitI b)
    (hdiv : ∀ w', Below w.heap.size w w' → Calls Tryz.prog 140 #[.slice p0 l0 c0, .slice p1 l1 c1] w' fun e w'' => DivN w' w'' e q r)
    (hr0 : r ≠ 0) (hrb : r ≤ b.natAbs) (fq : (Nl.limbs q).length ≤ 1023) (hh : negB a = true) :
    Calls Tryz.prog 80 #[.agg #[.bool (negB a), .slice p0 l0 c0], .agg #[.bool (negB b), .slice p1 l1 c1], .int .i64 3] w fun e w' =>
      (∃ x y, e = .returned (.tuple #[x, y]) ∧ IsI w' x (sgn (negB a != negB b) (q + 1)) ∧ IsI w' y (sgn (!negB a) (b.natAbs - r))) ∧ Below w.heap.size w w' := by
  obtain ⟨s0, hs0⟩ : ∃ s0, s0 = negB a := ⟨_, rfl⟩
  obtain ⟨s1, hs1⟩ : ∃ s1, s1 = negB b := ⟨_, rfl⟩
  rw [← hs0, ← hs1]
  obtain ⟨W, hW⟩ : ∃ W, W = (((w.alloc (.cells #[.bool s0, .slice p0 l0 c0] 78)).alloc (.cells #[.bool s1, .slice p1 l1 c1] 78)).alloc (.cells #[.bool false, .slice none 0 0] 78)).alloc (.cells #[.bool false, .slice none 0 0] 78) := ⟨_, rfl⟩
  have h4 := four_mk w W _ _ _ _ _ _ hW
  have HD := Lib.hid (hdiv W h4.below)
  have HV := Lib.hid hv
  have H4 := Lib.hid h4
  rw [← hs0] at hh
  have HX := Lib.hid (And.intro hr0 (And.intro hrb (And.intro fq (And.intro hh lb))))
  have k00 := cell_of_row _ _ 0 _ _ (0, 0) h4.a
  have k01 := cell_of_row _ _ 1 _ _ (0, 0) h4.a
  have k10 := cell_of_row _ _ 0 _ _ (0, 0) h4.b
  have k11 := cell_of_row _ _ 1 _ _ (0, 0) h4.b
  simp only [List.getElem?_toArray, List.getElem?_cons_zero, List.getElem?_cons_succ] at k00 k01 k10 k11
  clear _hu hv lb hdiv hs0 hs1 h4 hr0 hrb fq hh
  go_enter Tryz.func80, Tryz.ntmps80
  go_upto_region 1 with fail
  rw [← hW]
  clear hW
  go_wp2_with fail
  refine HD.out.mono ?_
  rintro e w1 ⟨⟨pq, lq, cq, pr, lr, cr, rfl, hq, hr⟩, hb1⟩
  obtain ⟨B1, e0, e1, e2, e3⟩ := H4.out.move hb1
  have j00 := cell_of_row _ _ 0 _ _ (0, 0) e0
  have j01 := cell_of_row _ _ 1 _ _ (0, 0) e0
  have j10 := cell_of_row _ _ 0 _ _ (0, 0) e1
  have j11 := cell_of_row _ _ 1 _ _ (0, 0) e1
  simp only [List.getElem?_toArray, List.getElem?_cons_zero, List.getElem?_cons_succ] at j00 j01 j10 j11
  have HQR := Lib.hid (And.intro hq (And.intro hr (And.intro B1 (And.intro e0 (And.intro e1 (And.intro e2 e3))))))
  have HLR := Lib.hid (show lr ≠ 0 from fun h => by
    obtain ⟨aa, cc, hf, -⟩ := hr.form
    simp only [Value.slice.injEq] at hf
    have h0 := hf.2.1.symm.trans h
    exact HX.out.1 (limbs_nil.1 h0))
  clear hb1 hq hr B1 e0 e1 e2 e3 HD k00 k01 k10 k11
  go_wp2_with (go_at_call 139; refine (foundTwo_yes _ _ _ _ _ _ _).mono ?_; rintro e w' ⟨rfl, rfl⟩)
  obtain ⟨T, hT⟩ : ∃ T, T = w1.heap.size := ⟨_, rfl⟩
  obtain ⟨w2, hw2⟩ : ∃ w2, w2 = w1.alloc (.cells #[.bool s0, .bool s1, .slice pq lq cq, .slice pr lr cr, .slice p1 l1 c1] 151) := ⟨_, rfl⟩
  rw [← hw2, ← hT]
  have hb2 : Below w1.heap.size w1 w2 := by rw [hw2]; exact below_one w1 _
  have hTb : w2.heap[T]? = some (.cells #[.bool s0, .bool s1, .slice pq lq cq, .slice pr lr cr, .slice p1 l1 c1] 151 (0, 0)) := by rw [hw2, hT]; exact heap_alloc_new _ _
  have hTl : T < w2.heap.size := lt_of_block hTb
  have t0 := cell_of_row _ _ 0 _ _ (0, 0) hTb
  have t1 := cell_of_row _ _ 1 _ _ (0, 0) hTb
  have t2 := cell_of_row _ _ 2 _ _ (0, 0) hTb
  have t3 := cell_of_row _ _ 3 _ _ (0, 0) hTb
  have t4 := cell_of_row _ _ 4 _ _ (0, 0) hTb
  simp only [List.getElem?_toArray, List.getElem?_cons_zero, List.getElem?_cons_succ] at t0 t1 t2 t3 t4
  have HB2 := Lib.hid hb2
  have HH := Lib.hid (fun (w' : World) (_h : Below w2.drew.heap.size w2.drew w') => (far3_call s0 s1 pq pr p1 lq cq lr cr l1 c1 w').mono fun e w'' h => (show e = .returned (.bool true) ∧ Below w'.heap.size w' w'' from ⟨by rw [h.1, HX.out.2.2.2.1], h.2⟩))
  have HT := Lib.hid (And.intro hT hTb)
  have e5 : ((lr : Int) == 0) = false := by rw [beq_eq_false_iff_ne]; have := HLR.out; omega
  have hix : ∀ w, (Instr.index 155 (.agg #[.nilFunc, .func (.func 187) #[] #[], .func (.func 188) #[] #[], .func (.func 189) #[] #[], .func (.func 190) #[] #[]]) (.int .i64 3)).run Tryz.prog w = .ok (.agg #[.func (.func 189) #[] #[]]) w := fun _ => by kernel_rfl
  have hfi : ∀ w, (Instr.field 154 (.agg #[.func (.func 189) #[] #[]]) 0).run Tryz.prog w = .ok (.func (.func 189) #[] #[]) w := fun _ => by kernel_rfl
  have HHB := Lib.hid HX.out.2.2.2.1
  clear hb2 hTb hT hw2 j00 j01 j10 j11
  go_region_held3 (fun w' => w'.cell? ⟨T, 0, none⟩ = some (.bool s0) ∧ w'.cell? ⟨T, 1, none⟩ = some (.bool s1) ∧ w'.cell? ⟨T, 2, none⟩ = some (.slice pq lq cq) ∧ w'.cell? ⟨T, 3, none⟩ = some (.slice pr lr cr) ∧ w'.cell? ⟨T, 4, none⟩ = some (.slice p1 l1 c1))
    (first
      | go_keep
      | assumption)
    (first
      | (go_at_call 141; refine (divisions_any _).mono ?_; rintro e w3 ⟨rfl, hb3⟩; have u0 := (hb3.cell (p := ⟨T, 0, none⟩) hTl).trans t0; have u1 := (hb3.cell (p := ⟨T, 1, none⟩) hTl).trans t1; have u2 := (hb3.cell (p := ⟨T, 2, none⟩) hTl).trans t2; have u3 := (hb3.cell (p := ⟨T, 3, none⟩) hTl).trans t3; have u4 := (hb3.cell (p := ⟨T, 4, none⟩) hTl).trans t4)
      | (go_at_call 189; refine (HH.out w3 hb3).mono ?_; rintro e w4 ⟨rfl, hb4⟩; have v0 := (hb4.cell (p := ⟨T, 0, none⟩) (Nat.lt_of_lt_of_le hTl hb3.size)).trans u0; have v1 := (hb4.cell (p := ⟨T, 1, none⟩) (Nat.lt_of_lt_of_le hTl hb3.size)).trans u1; have v2 := (hb4.cell (p := ⟨T, 2, none⟩) (Nat.lt_of_lt_of_le hTl hb3.size)).trans u2; have v3 := (hb4.cell (p := ⟨T, 3, none⟩) (Nat.lt_of_lt_of_le hTl hb3.size)).trans u3; have v4 := (hb4.cell (p := ⟨T, 4, none⟩) (Nat.lt_of_lt_of_le hTl hb3.size)).trans u4))
  have hb24 : Below w2.heap.size w2 w4 := (below_drewN w2 1 _).trans ((hb3.trans (hb4.mono hb3.size)).mono (Nat.le_refl _))
  have hb14 : Below w1.heap.size w1 w4 := HB2.out.trans (hb24.mono HB2.out.size)
  have HQR4 := Lib.hid (And.intro (HQR.out.1.below hb14) (HQR.out.2.1.below hb14))
  have hB4 : Below w.heap.size w w4 := HQR.out.2.2.1.trans (hb14.mono HQR.out.2.2.1.size)
  have E0 := (hb14.block _ (lt_of_block HQR.out.2.2.2.1)).trans HQR.out.2.2.2.1
  have E1 := (hb14.block _ (lt_of_block HQR.out.2.2.2.2.1)).trans HQR.out.2.2.2.2.1
  have E2 := (hb14.block _ (lt_of_block HQR.out.2.2.2.2.2.1)).trans HQR.out.2.2.2.2.2.1
  have E3 := (hb14.block _ (lt_of_block HQR.out.2.2.2.2.2.2)).trans HQR.out.2.2.2.2.2.2
  have HE := Lib.hid (And.intro hB4 (And.intro E0 (And.intro E1 (And.intro E2 E3))))
  clear hb3 hb4 hb24 hb14 hB4 E0 E1 E2 E3 t0 t1 t2 t3 t4 u0 u1 u2 u3 u4 v0 v1 v2 v3 v4 HH HB2 HQR HT hTl hix hfi
  obtain ⟨x, hx⟩ : ∃ x, x = (!(s0 == s1)) := ⟨_, rfl⟩
  rw [← hx]
  have HXX := Lib.hid hx
  clear hx
  go_wp2_with fail
  have hb5 := below_one w4 (.cells #[.int .u32 1] 80)
  have a1 : At (w4.alloc (.cells #[.int .u32 1] 80)) (.slice (some ⟨w4.heap.size, 0, none⟩) 1 1) (Nl.limbs 1) := by
    rw [limbs_one (by decide) (by decide)]
    have hr := row_new w4 [1]
    exact .inr ⟨w4.heap.size, 0, 1, rfl, trivial, Nat.le_refl _, by omega, hr.lt, fun i hi => by rw [Nat.zero_add]; exact hr.cell hi⟩
  have l1 : (Nl.limbs 1).length ≤ 1 := by rw [limbs_one (by decide) (by decide)]; exact Nat.le_refl _
  have hadd := add_yes _ _ q 1 _ (HQR4.out.1.below hb5) a1 (Nat.le_trans HX.out.2.2.1 (by decide)) (Nat.le_trans l1 (by decide)) (by have h1 := Nl.len_add q 1; have h2 := HX.out.2.2.1; omega)
  refine hadd.mono ?_
  rintro e w6 ⟨⟨p6, n6, c6, rfl, h6⟩, hb6⟩
  have hb46 : Below w4.heap.size w4 w6 := hb5.trans (hb6.mono hb5.size)
  have H6 := Lib.hid (And.intro h6 (HQR4.out.2.below hb46))
  have B6 := Lib.hid (HE.out.1.trans (hb46.mono HE.out.1.size))
  have E0 := (hb46.block _ (lt_of_block HE.out.2.1)).trans HE.out.2.1
  have E1 := (hb46.block _ (lt_of_block HE.out.2.2.1)).trans HE.out.2.2.1
  have E2 := (hb46.block _ (lt_of_block HE.out.2.2.2.1)).trans HE.out.2.2.2.1
  have E3 := (hb46.block _ (lt_of_block HE.out.2.2.2.2)).trans HE.out.2.2.2.2
  have HE6 := Lib.hid (And.intro E2 E3)
  have hK0 : w.heap.size < w6.heap.size := lt_of_block E0
  have hK1 : w.heap.size + 1 < w6.heap.size := lt_of_block E1
  have hK2 : w.heap.size + 2 < w6.heap.size := lt_of_block E2
  have hK3 : w.heap.size + 3 < w6.heap.size := lt_of_block E3
  have k00 := cell_of_row _ _ 0 _ _ (0, 0) E0
  have k11 := cell_of_row _ _ 1 _ _ (0, 0) E1
  simp only [List.getElem?_toArray, List.getElem?_cons_zero, List.getElem?_cons_succ] at k00 k11
  clear h6 hb6 hb5 hb46 a1 l1 hadd E0 E1 E2 E3 HE HQR4
  go_wp2_with (go_at_call 125; refine (found_yes _ _ _ _).mono ?_; rintro e w' ⟨rfl, rfl⟩)
  have ne1 : ¬ w.heap.size = w.heap.size + 1 + 1 := by omega
  have ne2 : ¬ w.heap.size + 1 + 1 = w.heap.size := by omega
  have ne3 : ¬ w.heap.size = w.heap.size + 1 + 1 + 1 := by omega
  have ne4 : ¬ w.heap.size + 1 + 1 + 1 = w.heap.size := by omega
  have ne5 : ¬ w.heap.size + 1 = w.heap.size + 1 + 1 + 1 := by omega
  have ne6 : ¬ w.heap.size + 1 + 1 + 1 = w.heap.size + 1 := by omega
  have HSG := Lib.hid (signed_num x _ (q + 1) w6.drew (H6.out.1.below (below_drewN w6 1 _)))
  have HSB := Lib.hid (fun (w7 : World) (h : Below w6.drew.heap.size w6.drew w7) => sub_yes _ _ b.natAbs r w7 (((HV.out.below B6.out).below (below_drewN w6 1 _)).below h) ((H6.out.2.below (below_drewN w6 1 _)).below h) HX.out.2.2.2.2 HX.out.2.1)
  go_region_held3 (fun w' => w'.cell? ⟨w.heap.size, 0, none⟩ = some (.bool s0) ∧ w'.cell? ⟨w.heap.size + 1, 1, none⟩ = some (.slice p1 l1 c1))
    (first
      | go_keep
      | assumption)
    (first
      | (go_at_call_of 124 (Value.bool x); refine HSG.out.mono ?_; rintro e w7 ⟨⟨t7, rfl, ht7⟩, hb7⟩; have d00 := (hb7.cell (p := ⟨w.heap.size, 0, none⟩) hK0).trans k00; have d11 := (hb7.cell (p := ⟨w.heap.size + 1, 1, none⟩) hK1).trans k11)
      | (go_at_call 143; refine (HSB.out w7 hb7).mono ?_; rintro e w8 ⟨⟨p8, n8, c8, rfl, h8⟩, hb8⟩; have e00 := (hb8.cell (p := ⟨w.heap.size, 0, none⟩) (Nat.lt_of_lt_of_le hK0 hb7.size)).trans d00; have e11 := (hb8.cell (p := ⟨w.heap.size + 1, 1, none⟩) (Nat.lt_of_lt_of_le hK1 hb7.size)).trans d11)
      | (go_at_call 125; refine (found_yes _ _ _ _).mono ?_; rintro e w9 ⟨rfl, rfl⟩)
      | (go_at_call 124; refine (signed_num _ _ _ _ h8).mono ?_; rintro e w10 ⟨⟨t10, rfl, ht10⟩, hb10⟩; have hb78 := hb7.trans (hb8.mono hb7.size); have hb710 := hb78.trans (hb10.mono hb78.size); have f00 := (hb710.cell (p := ⟨w.heap.size, 0, none⟩) hK0).trans k00; have f11 := (hb710.cell (p := ⟨w.heap.size + 1, 1, none⟩) hK1).trans k11; have E2 := (hb710.block (w.heap.size + 2) hK2).trans HE6.out.1; have E3 := (hb710.block (w.heap.size + 3) hK3).trans HE6.out.2; have x0 := frozen_of_row _ _ 0 _ _ E2; have x1 := frozen_of_row _ _ 1 _ _ E2; have y0 := cell_of_row _ _ 0 _ _ (0, 0) E2; have y1 := cell_of_row _ _ 1 _ _ (0, 0) E2; have x2 := frozen_of_row _ _ 0 _ _ E3; have x3 := frozen_of_row _ _ 1 _ _ E3; have y2 := cell_of_row _ _ 0 _ _ (0, 0) E3; have y3 := cell_of_row _ _ 1 _ _ (0, 0) E3; have HZ := Lib.hid (And.intro E2 (And.intro E3 (And.intro ht7 (And.intro ht10 (And.intro h8 (And.intro hb710 hb10)))))); clear E2 E3 ht7 ht10))
  have HF := Lib.hid (And.intro d00 hb8)
  clear hb7 hb8 hb10 hb78 hb710 h8 d00 d11 e00 e11 f00 f11 k00 k11 HSG HSB ne1 ne2 ne3 ne4 ne5 ne6 hK0 hK1 HF
  go_wp2_with fail
  obtain ⟨w11, hw11⟩ : ∃ w11, w11 = (w10.setCell ⟨w.heap.size + 1 + 1, 0, none⟩ (.bool (negB (sgn x (q + 1))))).setCell ⟨w.heap.size + 1 + 1, 1, none⟩ (.slice p6 n6 c6) := ⟨_, rfl⟩
  rw [← hw11]
  have G2 : w11.heap[w.heap.size + 2]? = some (.cells #[.bool (negB (sgn x (q + 1))), .slice p6 n6 c6] 78 (0, 0)) := by rw [hw11]; exact ibox_set (g := w.heap.size + 2) _ _ HZ.out.1
  have G3 : w11.heap[w.heap.size + 3]? = some (.cells #[.bool false, .slice none 0 0] 78 (0, 0)) := by
    rw [hw11, Below.heap_setCell _ ⟨w.heap.size + 1 + 1, 1, none⟩ _ _ (by simp), Below.heap_setCell _ ⟨w.heap.size + 1 + 1, 0, none⟩ _ _ (by simp)]
    exact HZ.out.2.1
  have R3 := ibox_set (g := w.heap.size + 3) (.bool t10) (.slice p8 n8 c8) G3
  have R2 : ((w11.setCell ⟨w.heap.size + 3, 0, none⟩ (.bool t10)).setCell ⟨w.heap.size + 3, 1, none⟩ (.slice p8 n8 c8)).heap[w.heap.size + 2]? = some (.cells #[.bool (negB (sgn x (q + 1))), .slice p6 n6 c6] 78 (0, 0)) := by
    rw [Below.heap_setCell _ ⟨w.heap.size + 3, 1, none⟩ _ _ (by simp), Below.heap_setCell _ ⟨w.heap.size + 3, 0, none⟩ _ _ (by simp)]
    exact G2
  refine bodyPost_ret (v := .tuple #[.agg #[.bool (negB (sgn x (q + 1))), .slice p6 n6 c6], .agg #[.bool t10, .slice p8 n8 c8]]) (results_int2 Tryz.results80 _ _ (w.heap.size + 2) (w.heap.size + 3) _ _ rfl rfl (load_whole R2) (load_whole R3)) rfl ?_
  have hb610 : Below w6.heap.size w6 w10 := (below_drewN w6 1 _).trans (HZ.out.2.2.2.2.2.1.mono (Nat.le_refl _))
  have A6 := at_ibox (g := w.heap.size + 3) (.bool t10) (.slice p8 n8 c8) (show At w11 (.slice p6 n6 c6) (Nl.limbs (q + 1)) by rw [hw11]; exact at_ibox (g := w.heap.size + 2) _ _ (H6.out.1.below hb610) HZ.out.1) G3
  have A8 := at_ibox (g := w.heap.size + 3) (.bool t10) (.slice p8 n8 c8) (show At w11 (.slice p8 n8 c8) (Nl.limbs (b.natAbs - r)) by rw [hw11]; exact at_ibox (g := w.heap.size + 2) _ _ (HZ.out.2.2.2.2.1.below HZ.out.2.2.2.2.2.2) HZ.out.1) G3
  have hb11 : Below w.heap.size w w11 := by rw [hw11]; exact below_ibox (g := w.heap.size + 2) (B6.out.trans (hb610.mono B6.out.size)) (by omega) _ _
  refine ⟨⟨_, _, rfl, isI_mk A6 rfl (by rw [HXX.out]; rfl), isI_mk A8 HZ.out.2.2.2.1 ?_⟩, below_ibox (g := w.heap.size + 3) hb11 (by omega) _ _⟩
  first
    | rfl
    | rw [show ((b.natAbs - r : Nat) : Int) = (b.natAbs : Int) - (r : Int) by have := HX.out.2.1; omega]

set_option maxHeartbeats 4000000 in
theorem over1_near (p0 p1 : Option Addr) (l0 c0 l1 c1 : Nat) (a b : Int) (q r : Nat) (w : World) (_hu : At w (.slice p0 l0 c0) (Nl.limbs a.natAbs)) (hv : At w (.slice p1 l1 c1) (Nl.limbs b.natAbs)) (lb : fitI b)
    (hdiv : ∀ w', Below w.heap.size w w' → Calls Tryz.prog 140 #[.slice p0 l0 c0, .slice p1 l1 c1] w' fun e w'' => DivN w' w'' e q r)
    (hr0 : r ≠ 0) (hrb : r ≤ b.natAbs) (fq : (Nl.limbs q).length ≤ 1023) (hh : false = false) :
    Calls Tryz.prog 80 #[.agg #[.bool (negB a), .slice p0 l0 c0], .agg #[.bool (negB b), .slice p1 l1 c1], .int .i64 1] w fun e w' =>
      (∃ x y, e = .returned (.tuple #[x, y]) ∧ IsI w' x (sgn (negB a != negB b) q) ∧ IsI w' y (sgn (negB a) r)) ∧ Below w.heap.size w w' := by
  obtain ⟨s0, hs0⟩ : ∃ s0, s0 = negB a := ⟨_, rfl⟩
  obtain ⟨s1, hs1⟩ : ∃ s1, s1 = negB b := ⟨_, rfl⟩
  rw [← hs0, ← hs1]
  obtain ⟨W, hW⟩ : ∃ W, W = (((w.alloc (.cells #[.bool s0, .slice p0 l0 c0] 78)).alloc (.cells #[.bool s1, .slice p1 l1 c1] 78)).alloc (.cells #[.bool false, .slice none 0 0] 78)).alloc (.cells #[.bool false, .slice none 0 0] 78) := ⟨_, rfl⟩
  have h4 := four_mk w W _ _ _ _ _ _ hW
  have HD := Lib.hid (hdiv W h4.below)
  have HV := Lib.hid hv
  have H4 := Lib.hid h4
  have HX := Lib.hid (And.intro hr0 (And.intro hrb (And.intro fq (And.intro hh lb))))
  have k00 := cell_of_row _ _ 0 _ _ (0, 0) h4.a
  have k01 := cell_of_row _ _ 1 _ _ (0, 0) h4.a
  have k10 := cell_of_row _ _ 0 _ _ (0, 0) h4.b
  have k11 := cell_of_row _ _ 1 _ _ (0, 0) h4.b
  simp only [List.getElem?_toArray, List.getElem?_cons_zero, List.getElem?_cons_succ] at k00 k01 k10 k11
  clear _hu hv lb hdiv hs0 hs1 h4 hr0 hrb fq hh
  go_enter Tryz.func80, Tryz.ntmps80
  go_upto_region 1 with fail
  rw [← hW]
  clear hW
  go_wp2_with fail
  refine HD.out.mono ?_
  rintro e w1 ⟨⟨pq, lq, cq, pr, lr, cr, rfl, hq, hr⟩, hb1⟩
  obtain ⟨B1, e0, e1, e2, e3⟩ := H4.out.move hb1
  have j00 := cell_of_row _ _ 0 _ _ (0, 0) e0
  have j01 := cell_of_row _ _ 1 _ _ (0, 0) e0
  have j10 := cell_of_row _ _ 0 _ _ (0, 0) e1
  have j11 := cell_of_row _ _ 1 _ _ (0, 0) e1
  simp only [List.getElem?_toArray, List.getElem?_cons_zero, List.getElem?_cons_succ] at j00 j01 j10 j11
  have HQR := Lib.hid (And.intro hq (And.intro hr (And.intro B1 (And.intro e0 (And.intro e1 (And.intro e2 e3))))))
  have HLR := Lib.hid (show lr ≠ 0 from fun h => by
    obtain ⟨aa, cc, hf, -⟩ := hr.form
    simp only [Value.slice.injEq] at hf
    have h0 := hf.2.1.symm.trans h
    exact HX.out.1 (limbs_nil.1 h0))
  clear hb1 hq hr B1 e0 e1 e2 e3 HD k00 k01 k10 k11
  go_wp2_with (go_at_call 139; refine (foundTwo_yes _ _ _ _ _ _ _).mono ?_; rintro e w' ⟨rfl, rfl⟩)
  obtain ⟨T, hT⟩ : ∃ T, T = w1.heap.size := ⟨_, rfl⟩
  obtain ⟨w2, hw2⟩ : ∃ w2, w2 = w1.alloc (.cells #[.bool s0, .bool s1, .slice pq lq cq, .slice pr lr cr, .slice p1 l1 c1] 151) := ⟨_, rfl⟩
  rw [← hw2, ← hT]
  have hb2 : Below w1.heap.size w1 w2 := by rw [hw2]; exact below_one w1 _
  have hTb : w2.heap[T]? = some (.cells #[.bool s0, .bool s1, .slice pq lq cq, .slice pr lr cr, .slice p1 l1 c1] 151 (0, 0)) := by rw [hw2, hT]; exact heap_alloc_new _ _
  have hTl : T < w2.heap.size := lt_of_block hTb
  have t0 := cell_of_row _ _ 0 _ _ (0, 0) hTb
  have t1 := cell_of_row _ _ 1 _ _ (0, 0) hTb
  have t2 := cell_of_row _ _ 2 _ _ (0, 0) hTb
  have t3 := cell_of_row _ _ 3 _ _ (0, 0) hTb
  have t4 := cell_of_row _ _ 4 _ _ (0, 0) hTb
  simp only [List.getElem?_toArray, List.getElem?_cons_zero, List.getElem?_cons_succ] at t0 t1 t2 t3 t4
  have HB2 := Lib.hid hb2
  have HH := Lib.hid (fun (w' : World) (_h : Below w2.drew.heap.size w2.drew w') => far1_call s0 s1 pq pr p1 lq cq lr cr l1 c1 w')
  have HT := Lib.hid (And.intro hT hTb)
  have e5 : ((lr : Int) == 0) = false := by rw [beq_eq_false_iff_ne]; have := HLR.out; omega
  have hix : ∀ w, (Instr.index 155 (.agg #[.nilFunc, .func (.func 187) #[] #[], .func (.func 188) #[] #[], .func (.func 189) #[] #[], .func (.func 190) #[] #[]]) (.int .i64 1)).run Tryz.prog w = .ok (.agg #[.func (.func 187) #[] #[]]) w := fun _ => by kernel_rfl
  have hfi : ∀ w, (Instr.field 154 (.agg #[.func (.func 187) #[] #[]]) 0).run Tryz.prog w = .ok (.func (.func 187) #[] #[]) w := fun _ => by kernel_rfl
  have HHB := Lib.hid HX.out.2.2.2.1
  clear hb2 hTb hT hw2 j00 j01 j10 j11
  go_region_held3 (fun w' => w'.cell? ⟨T, 0, none⟩ = some (.bool s0) ∧ w'.cell? ⟨T, 1, none⟩ = some (.bool s1) ∧ w'.cell? ⟨T, 2, none⟩ = some (.slice pq lq cq) ∧ w'.cell? ⟨T, 3, none⟩ = some (.slice pr lr cr) ∧ w'.cell? ⟨T, 4, none⟩ = some (.slice p1 l1 c1))
    (first
      | go_keep
      | assumption)
    (first
      | (go_at_call 141; refine (divisions_any _).mono ?_; rintro e w3 ⟨rfl, hb3⟩; have u0 := (hb3.cell (p := ⟨T, 0, none⟩) hTl).trans t0; have u1 := (hb3.cell (p := ⟨T, 1, none⟩) hTl).trans t1; have u2 := (hb3.cell (p := ⟨T, 2, none⟩) hTl).trans t2; have u3 := (hb3.cell (p := ⟨T, 3, none⟩) hTl).trans t3; have u4 := (hb3.cell (p := ⟨T, 4, none⟩) hTl).trans t4)
      | (go_at_call 187; refine (HH.out w3 hb3).mono ?_; rintro e w4 ⟨rfl, hb4⟩; have v0 := (hb4.cell (p := ⟨T, 0, none⟩) (Nat.lt_of_lt_of_le hTl hb3.size)).trans u0; have v1 := (hb4.cell (p := ⟨T, 1, none⟩) (Nat.lt_of_lt_of_le hTl hb3.size)).trans u1; have v2 := (hb4.cell (p := ⟨T, 2, none⟩) (Nat.lt_of_lt_of_le hTl hb3.size)).trans u2; have v3 := (hb4.cell (p := ⟨T, 3, none⟩) (Nat.lt_of_lt_of_le hTl hb3.size)).trans u3; have v4 := (hb4.cell (p := ⟨T, 4, none⟩) (Nat.lt_of_lt_of_le hTl hb3.size)).trans u4))
  have hb24 : Below w2.heap.size w2 w4 := (below_drewN w2 1 _).trans ((hb3.trans (hb4.mono hb3.size)).mono (Nat.le_refl _))
  have hb14 : Below w1.heap.size w1 w4 := HB2.out.trans (hb24.mono HB2.out.size)
  have HQR4 := Lib.hid (And.intro (HQR.out.1.below hb14) (HQR.out.2.1.below hb14))
  have hB4 : Below w.heap.size w w4 := HQR.out.2.2.1.trans (hb14.mono HQR.out.2.2.1.size)
  have E0 := (hb14.block _ (lt_of_block HQR.out.2.2.2.1)).trans HQR.out.2.2.2.1
  have E1 := (hb14.block _ (lt_of_block HQR.out.2.2.2.2.1)).trans HQR.out.2.2.2.2.1
  have E2 := (hb14.block _ (lt_of_block HQR.out.2.2.2.2.2.1)).trans HQR.out.2.2.2.2.2.1
  have E3 := (hb14.block _ (lt_of_block HQR.out.2.2.2.2.2.2)).trans HQR.out.2.2.2.2.2.2
  have HE := Lib.hid (And.intro hB4 (And.intro E0 (And.intro E1 (And.intro E2 E3))))
  clear hb3 hb4 hb24 hb14 hB4 E0 E1 E2 E3 t0 t1 t2 t3 t4 u0 u1 u2 u3 u4 v0 v1 v2 v3 v4 HH HB2 HQR HT hTl hix hfi
  obtain ⟨x, hx⟩ : ∃ x, x = (!(s0 == s1)) := ⟨_, rfl⟩
  rw [← hx]
  have HXX := Lib.hid hx
  clear hx
  have hK0 : w.heap.size < w4.heap.size := lt_of_block HE.out.2.1
  have hK2 : w.heap.size + 2 < w4.heap.size := lt_of_block HE.out.2.2.2.1
  have hK3 : w.heap.size + 3 < w4.heap.size := lt_of_block HE.out.2.2.2.2
  have k00 := cell_of_row _ _ 0 _ _ (0, 0) HE.out.2.1
  simp only [List.getElem?_toArray, List.getElem?_cons_zero] at k00
  go_wp2_with fail
  have bd := below_drewN w4 1 w4.heap.size
  have HSG := Lib.hid (signed_num x (.slice pq lq cq) q w4.drew (HQR4.out.1.below bd))
  have HSR := Lib.hid (fun (w7 : World) (h : Below w4.drew.heap.size w4.drew w7) => signed_num s0 (.slice pr lr cr) r w7 ((HQR4.out.2.below bd).below h))
  have ne1 : ¬ w.heap.size = w.heap.size + 1 + 1 := by omega
  have ne2 : ¬ w.heap.size + 1 + 1 = w.heap.size := by omega
  have ne3 : ¬ w.heap.size = w.heap.size + 1 + 1 + 1 := by omega
  have ne4 : ¬ w.heap.size + 1 + 1 + 1 = w.heap.size := by omega
  clear bd
  go_region_held3 (fun w' => w'.cell? ⟨w.heap.size, 0, none⟩ = some (.bool s0))
    (first
      | go_keep
      | assumption)
    (first
      | (go_at_call_of 124 (Value.slice pq lq cq); refine HSG.out.mono ?_; rintro e w7 ⟨⟨t7, rfl, ht7⟩, hb7⟩; have d00 := (hb7.cell (p := ⟨w.heap.size, 0, none⟩) hK0).trans k00)
      | (go_at_call_of 124 (Value.slice pr lr cr); refine (HSR.out w7 hb7).mono ?_; rintro e w10 ⟨⟨t10, rfl, ht10⟩, hb10⟩; have hb710 := hb7.trans (hb10.mono hb7.size); have f00 := (hb710.cell (p := ⟨w.heap.size, 0, none⟩) hK0).trans k00; have E2 := (hb710.block (w.heap.size + 2) hK2).trans HE.out.2.2.2.1; have E3 := (hb710.block (w.heap.size + 3) hK3).trans HE.out.2.2.2.2; have x0 := frozen_of_row _ _ 0 _ _ E2; have x1 := frozen_of_row _ _ 1 _ _ E2; have y0 := cell_of_row _ _ 0 _ _ (0, 0) E2; have y1 := cell_of_row _ _ 1 _ _ (0, 0) E2; have x2 := frozen_of_row _ _ 0 _ _ E3; have x3 := frozen_of_row _ _ 1 _ _ E3; have y2 := cell_of_row _ _ 0 _ _ (0, 0) E3; have y3 := cell_of_row _ _ 1 _ _ (0, 0) E3; have HZ := Lib.hid (And.intro E2 (And.intro E3 (And.intro ht7 (And.intro ht10 hb710)))); clear E2 E3 ht7 ht10))
  clear hb7 hb10 hb710 d00 f00 k00 HSG HSR ne1 ne2 ne3 ne4 hK0 hK2 hK3
  go_wp2_with fail
  obtain ⟨w11, hw11⟩ : ∃ w11, w11 = (w10.setCell ⟨w.heap.size + 1 + 1, 0, none⟩ (.bool (negB (sgn x q)))).setCell ⟨w.heap.size + 1 + 1, 1, none⟩ (.slice pq lq cq) := ⟨_, rfl⟩
  rw [← hw11]
  have G2 : w11.heap[w.heap.size + 2]? = some (.cells #[.bool (negB (sgn x q)), .slice pq lq cq] 78 (0, 0)) := by rw [hw11]; exact ibox_set (g := w.heap.size + 2) _ _ HZ.out.1
  have G3 : w11.heap[w.heap.size + 3]? = some (.cells #[.bool false, .slice none 0 0] 78 (0, 0)) := by
    rw [hw11, Below.heap_setCell _ ⟨w.heap.size + 1 + 1, 1, none⟩ _ _ (by simp), Below.heap_setCell _ ⟨w.heap.size + 1 + 1, 0, none⟩ _ _ (by simp)]
    exact HZ.out.2.1
  have R3 := ibox_set (g := w.heap.size + 3) (.bool t10) (.slice pr lr cr) G3
  have R2 : ((w11.setCell ⟨w.heap.size + 3, 0, none⟩ (.bool t10)).setCell ⟨w.heap.size + 3, 1, none⟩ (.slice pr lr cr)).heap[w.heap.size + 2]? = some (.cells #[.bool (negB (sgn x q)), .slice pq lq cq] 78 (0, 0)) := by
    rw [Below.heap_setCell _ ⟨w.heap.size + 3, 1, none⟩ _ _ (by simp), Below.heap_setCell _ ⟨w.heap.size + 3, 0, none⟩ _ _ (by simp)]
    exact G2
  refine bodyPost_ret (v := .tuple #[.agg #[.bool (negB (sgn x q)), .slice pq lq cq], .agg #[.bool t10, .slice pr lr cr]]) (results_int2 Tryz.results80 _ _ (w.heap.size + 2) (w.heap.size + 3) _ _ rfl rfl (load_whole R2) (load_whole R3)) rfl ?_
  have hb410 : Below w4.heap.size w4 w10 := (below_drewN w4 1 _).trans (HZ.out.2.2.2.2.mono (Nat.le_refl _))
  have A6 := at_ibox (g := w.heap.size + 3) (.bool t10) (.slice pr lr cr) (show At w11 (.slice pq lq cq) (Nl.limbs q) by rw [hw11]; exact at_ibox (g := w.heap.size + 2) _ _ (HQR4.out.1.below hb410) HZ.out.1) G3
  have A8 := at_ibox (g := w.heap.size + 3) (.bool t10) (.slice pr lr cr) (show At w11 (.slice pr lr cr) (Nl.limbs r) by rw [hw11]; exact at_ibox (g := w.heap.size + 2) _ _ (HQR4.out.2.below hb410) HZ.out.1) G3
  have hb11 : Below w.heap.size w w11 := by rw [hw11]; exact below_ibox (g := w.heap.size + 2) (HE.out.1.trans (hb410.mono HE.out.1.size)) (by omega) _ _
  exact ⟨⟨_, _, rfl, isI_mk A6 rfl (by rw [HXX.out]; rfl), isI_mk A8 HZ.out.2.2.2.1 rfl⟩, below_ibox (g := w.heap.size + 3) hb11 (by omega) _ _⟩

set_option maxHeartbeats 4000000 in
theorem over2_near (p0 p1 : Option Addr) (l0 c0 l1 c1 : Nat) (a b : Int) (q r : Nat) (w : World) (_hu : At w (.slice p0 l0 c0) (Nl.limbs a.natAbs)) (hv : At w (.slice p1 l1 c1) (Nl.limbs b.natAbs)) (lb : fitI b)
    (hdiv : ∀ w', Below w.heap.size w w' → Calls Tryz.prog 140 #[.slice p0 l0 c0, .slice p1 l1 c1] w' fun e w'' => DivN w' w'' e q r)
    (hr0 : r ≠ 0) (hrb : r ≤ b.natAbs) (fq : (Nl.limbs q).length ≤ 1023) (hh : (!(negB a == negB b)) = false) :
    Calls Tryz.prog 80 #[.agg #[.bool (negB a), .slice p0 l0 c0], .agg #[.bool (negB b), .slice p1 l1 c1], .int .i64 2] w fun e w' =>
      (∃ x y, e = .returned (.tuple #[x, y]) ∧ IsI w' x (sgn (negB a != negB b) q) ∧ IsI w' y (sgn (negB a) r)) ∧ Below w.heap.size w w' := by
  obtain ⟨s0, hs0⟩ : ∃ s0, s0 = negB a := ⟨_, rfl⟩
  obtain ⟨s1, hs1⟩ : ∃ s1, s1 = negB b := ⟨_, rfl⟩
  rw [← hs0, ← hs1]
  obtain ⟨W, hW⟩ : ∃ W, W = (((w.alloc (.cells #[.bool s0, .slice p0 l0 c0] 78)).alloc (.cells #[.bool s1, .slice p1 l1 c1] 78)).alloc (.cells #[.bool false, .slice none 0 0] 78)).alloc (.cells #[.bool false, .slice none 0 0] 78) := ⟨_, rfl⟩
  have h4 := four_mk w W _ _ _ _ _ _ hW
  have HD := Lib.hid (hdiv W h4.below)
  have HV := Lib.hid hv
  have H4 := Lib.hid h4
  rw [← hs0, ← hs1] at hh
  have HX := Lib.hid (And.intro hr0 (And.intro hrb (And.intro fq (And.intro hh lb))))
  have k00 := cell_of_row _ _ 0 _ _ (0, 0) h4.a
  have k01 := cell_of_row _ _ 1 _ _ (0, 0) h4.a
  have k10 := cell_of_row _ _ 0 _ _ (0, 0) h4.b
  have k11 := cell_of_row _ _ 1 _ _ (0, 0) h4.b
  simp only [List.getElem?_toArray, List.getElem?_cons_zero, List.getElem?_cons_succ] at k00 k01 k10 k11
  clear _hu hv lb hdiv hs0 hs1 h4 hr0 hrb fq hh
  go_enter Tryz.func80, Tryz.ntmps80
  go_upto_region 1 with fail
  rw [← hW]
  clear hW
  go_wp2_with fail
  refine HD.out.mono ?_
  rintro e w1 ⟨⟨pq, lq, cq, pr, lr, cr, rfl, hq, hr⟩, hb1⟩
  obtain ⟨B1, e0, e1, e2, e3⟩ := H4.out.move hb1
  have j00 := cell_of_row _ _ 0 _ _ (0, 0) e0
  have j01 := cell_of_row _ _ 1 _ _ (0, 0) e0
  have j10 := cell_of_row _ _ 0 _ _ (0, 0) e1
  have j11 := cell_of_row _ _ 1 _ _ (0, 0) e1
  simp only [List.getElem?_toArray, List.getElem?_cons_zero, List.getElem?_cons_succ] at j00 j01 j10 j11
  have HQR := Lib.hid (And.intro hq (And.intro hr (And.intro B1 (And.intro e0 (And.intro e1 (And.intro e2 e3))))))
  have HLR := Lib.hid (show lr ≠ 0 from fun h => by
    obtain ⟨aa, cc, hf, -⟩ := hr.form
    simp only [Value.slice.injEq] at hf
    have h0 := hf.2.1.symm.trans h
    exact HX.out.1 (limbs_nil.1 h0))
  clear hb1 hq hr B1 e0 e1 e2 e3 HD k00 k01 k10 k11
  go_wp2_with (go_at_call 139; refine (foundTwo_yes _ _ _ _ _ _ _).mono ?_; rintro e w' ⟨rfl, rfl⟩)
  obtain ⟨T, hT⟩ : ∃ T, T = w1.heap.size := ⟨_, rfl⟩
  obtain ⟨w2, hw2⟩ : ∃ w2, w2 = w1.alloc (.cells #[.bool s0, .bool s1, .slice pq lq cq, .slice pr lr cr, .slice p1 l1 c1] 151) := ⟨_, rfl⟩
  rw [← hw2, ← hT]
  have hb2 : Below w1.heap.size w1 w2 := by rw [hw2]; exact below_one w1 _
  have hTb : w2.heap[T]? = some (.cells #[.bool s0, .bool s1, .slice pq lq cq, .slice pr lr cr, .slice p1 l1 c1] 151 (0, 0)) := by rw [hw2, hT]; exact heap_alloc_new _ _
  have hTl : T < w2.heap.size := lt_of_block hTb
  have t0 := cell_of_row _ _ 0 _ _ (0, 0) hTb
  have t1 := cell_of_row _ _ 1 _ _ (0, 0) hTb
  have t2 := cell_of_row _ _ 2 _ _ (0, 0) hTb
  have t3 := cell_of_row _ _ 3 _ _ (0, 0) hTb
  have t4 := cell_of_row _ _ 4 _ _ (0, 0) hTb
  simp only [List.getElem?_toArray, List.getElem?_cons_zero, List.getElem?_cons_succ] at t0 t1 t2 t3 t4
  have HB2 := Lib.hid hb2
  have HH := Lib.hid (fun (w' : World) (_h : Below w2.drew.heap.size w2.drew w') => far2_call s0 s1 pq pr p1 lq cq lr cr l1 c1 w')
  have HT := Lib.hid (And.intro hT hTb)
  have e5 : ((lr : Int) == 0) = false := by rw [beq_eq_false_iff_ne]; have := HLR.out; omega
  have hix : ∀ w, (Instr.index 155 (.agg #[.nilFunc, .func (.func 187) #[] #[], .func (.func 188) #[] #[], .func (.func 189) #[] #[], .func (.func 190) #[] #[]]) (.int .i64 2)).run Tryz.prog w = .ok (.agg #[.func (.func 188) #[] #[]]) w := fun _ => by kernel_rfl
  have hfi : ∀ w, (Instr.field 154 (.agg #[.func (.func 188) #[] #[]]) 0).run Tryz.prog w = .ok (.func (.func 188) #[] #[]) w := fun _ => by kernel_rfl
  have HHB := Lib.hid HX.out.2.2.2.1
  clear hb2 hTb hT hw2 j00 j01 j10 j11
  go_region_held3 (fun w' => w'.cell? ⟨T, 0, none⟩ = some (.bool s0) ∧ w'.cell? ⟨T, 1, none⟩ = some (.bool s1) ∧ w'.cell? ⟨T, 2, none⟩ = some (.slice pq lq cq) ∧ w'.cell? ⟨T, 3, none⟩ = some (.slice pr lr cr) ∧ w'.cell? ⟨T, 4, none⟩ = some (.slice p1 l1 c1))
    (first
      | go_keep
      | assumption)
    (first
      | (go_at_call 141; refine (divisions_any _).mono ?_; rintro e w3 ⟨rfl, hb3⟩; have u0 := (hb3.cell (p := ⟨T, 0, none⟩) hTl).trans t0; have u1 := (hb3.cell (p := ⟨T, 1, none⟩) hTl).trans t1; have u2 := (hb3.cell (p := ⟨T, 2, none⟩) hTl).trans t2; have u3 := (hb3.cell (p := ⟨T, 3, none⟩) hTl).trans t3; have u4 := (hb3.cell (p := ⟨T, 4, none⟩) hTl).trans t4)
      | (go_at_call 188; refine (HH.out w3 hb3).mono ?_; rintro e w4 ⟨rfl, hb4⟩; rw [HHB.out]; have v0 := (hb4.cell (p := ⟨T, 0, none⟩) (Nat.lt_of_lt_of_le hTl hb3.size)).trans u0; have v1 := (hb4.cell (p := ⟨T, 1, none⟩) (Nat.lt_of_lt_of_le hTl hb3.size)).trans u1; have v2 := (hb4.cell (p := ⟨T, 2, none⟩) (Nat.lt_of_lt_of_le hTl hb3.size)).trans u2; have v3 := (hb4.cell (p := ⟨T, 3, none⟩) (Nat.lt_of_lt_of_le hTl hb3.size)).trans u3; have v4 := (hb4.cell (p := ⟨T, 4, none⟩) (Nat.lt_of_lt_of_le hTl hb3.size)).trans u4))
  have hb24 : Below w2.heap.size w2 w4 := (below_drewN w2 1 _).trans ((hb3.trans (hb4.mono hb3.size)).mono (Nat.le_refl _))
  have hb14 : Below w1.heap.size w1 w4 := HB2.out.trans (hb24.mono HB2.out.size)
  have HQR4 := Lib.hid (And.intro (HQR.out.1.below hb14) (HQR.out.2.1.below hb14))
  have hB4 : Below w.heap.size w w4 := HQR.out.2.2.1.trans (hb14.mono HQR.out.2.2.1.size)
  have E0 := (hb14.block _ (lt_of_block HQR.out.2.2.2.1)).trans HQR.out.2.2.2.1
  have E1 := (hb14.block _ (lt_of_block HQR.out.2.2.2.2.1)).trans HQR.out.2.2.2.2.1
  have E2 := (hb14.block _ (lt_of_block HQR.out.2.2.2.2.2.1)).trans HQR.out.2.2.2.2.2.1
  have E3 := (hb14.block _ (lt_of_block HQR.out.2.2.2.2.2.2)).trans HQR.out.2.2.2.2.2.2
  have HE := Lib.hid (And.intro hB4 (And.intro E0 (And.intro E1 (And.intro E2 E3))))
  clear hb3 hb4 hb24 hb14 hB4 E0 E1 E2 E3 t0 t1 t2 t3 t4 u0 u1 u2 u3 u4 v0 v1 v2 v3 v4 HH HB2 HQR HT hTl hix hfi
  have HXX := Lib.hid (show false = (!(s0 == s1)) from HHB.out.symm)
  have hK0 : w.heap.size < w4.heap.size := lt_of_block HE.out.2.1
  have hK2 : w.heap.size + 2 < w4.heap.size := lt_of_block HE.out.2.2.2.1
  have hK3 : w.heap.size + 3 < w4.heap.size := lt_of_block HE.out.2.2.2.2
  have k00 := cell_of_row _ _ 0 _ _ (0, 0) HE.out.2.1
  simp only [List.getElem?_toArray, List.getElem?_cons_zero] at k00
  go_wp2_with fail
  have bd := below_drewN w4 1 w4.heap.size
  have HSG := Lib.hid (signed_num false (.slice pq lq cq) q w4.drew (HQR4.out.1.below bd))
  have HSR := Lib.hid (fun (w7 : World) (h : Below w4.drew.heap.size w4.drew w7) => signed_num s0 (.slice pr lr cr) r w7 ((HQR4.out.2.below bd).below h))
  have ne1 : ¬ w.heap.size = w.heap.size + 1 + 1 := by omega
  have ne2 : ¬ w.heap.size + 1 + 1 = w.heap.size := by omega
  have ne3 : ¬ w.heap.size = w.heap.size + 1 + 1 + 1 := by omega
  have ne4 : ¬ w.heap.size + 1 + 1 + 1 = w.heap.size := by omega
  clear bd
  go_region_held3 (fun w' => w'.cell? ⟨w.heap.size, 0, none⟩ = some (.bool s0))
    (first
      | go_keep
      | assumption)
    (first
      | (go_at_call_of 124 (Value.slice pq lq cq); refine HSG.out.mono ?_; rintro e w7 ⟨⟨t7, rfl, ht7⟩, hb7⟩; have d00 := (hb7.cell (p := ⟨w.heap.size, 0, none⟩) hK0).trans k00)
      | (go_at_call_of 124 (Value.slice pr lr cr); refine (HSR.out w7 hb7).mono ?_; rintro e w10 ⟨⟨t10, rfl, ht10⟩, hb10⟩; have hb710 := hb7.trans (hb10.mono hb7.size); have f00 := (hb710.cell (p := ⟨w.heap.size, 0, none⟩) hK0).trans k00; have E2 := (hb710.block (w.heap.size + 2) hK2).trans HE.out.2.2.2.1; have E3 := (hb710.block (w.heap.size + 3) hK3).trans HE.out.2.2.2.2; have x0 := frozen_of_row _ _ 0 _ _ E2; have x1 := frozen_of_row _ _ 1 _ _ E2; have y0 := cell_of_row _ _ 0 _ _ (0, 0) E2; have y1 := cell_of_row _ _ 1 _ _ (0, 0) E2; have x2 := frozen_of_row _ _ 0 _ _ E3; have x3 := frozen_of_row _ _ 1 _ _ E3; have y2 := cell_of_row _ _ 0 _ _ (0, 0) E3; have y3 := cell_of_row _ _ 1 _ _ (0, 0) E3; have HZ := Lib.hid (And.intro E2 (And.intro E3 (And.intro ht7 (And.intro ht10 hb710)))); clear E2 E3 ht7 ht10))
  clear hb7 hb10 hb710 d00 f00 k00 HSG HSR ne1 ne2 ne3 ne4 hK0 hK2 hK3
  go_wp2_with fail
  obtain ⟨w11, hw11⟩ : ∃ w11, w11 = (w10.setCell ⟨w.heap.size + 1 + 1, 0, none⟩ (.bool (negB (sgn false q)))).setCell ⟨w.heap.size + 1 + 1, 1, none⟩ (.slice pq lq cq) := ⟨_, rfl⟩
  rw [← hw11]
  have G2 : w11.heap[w.heap.size + 2]? = some (.cells #[.bool (negB (sgn false q)), .slice pq lq cq] 78 (0, 0)) := by rw [hw11]; exact ibox_set (g := w.heap.size + 2) _ _ HZ.out.1
  have G3 : w11.heap[w.heap.size + 3]? = some (.cells #[.bool false, .slice none 0 0] 78 (0, 0)) := by
    rw [hw11, Below.heap_setCell _ ⟨w.heap.size + 1 + 1, 1, none⟩ _ _ (by simp), Below.heap_setCell _ ⟨w.heap.size + 1 + 1, 0, none⟩ _ _ (by simp)]
    exact HZ.out.2.1
  have R3 := ibox_set (g := w.heap.size + 3) (.bool t10) (.slice pr lr cr) G3
  have R2 : ((w11.setCell ⟨w.heap.size + 3, 0, none⟩ (.bool t10)).setCell ⟨w.heap.size + 3, 1, none⟩ (.slice pr lr cr)).heap[w.heap.size + 2]? = some (.cells #[.bool (negB (sgn false q)), .slice pq lq cq] 78 (0, 0)) := by
    rw [Below.heap_setCell _ ⟨w.heap.size + 3, 1, none⟩ _ _ (by simp), Below.heap_setCell _ ⟨w.heap.size + 3, 0, none⟩ _ _ (by simp)]
    exact G2
  refine bodyPost_ret (v := .tuple #[.agg #[.bool (negB (sgn false q)), .slice pq lq cq], .agg #[.bool t10, .slice pr lr cr]]) (results_int2 Tryz.results80 _ _ (w.heap.size + 2) (w.heap.size + 3) _ _ rfl rfl (load_whole R2) (load_whole R3)) rfl ?_
  have hb410 : Below w4.heap.size w4 w10 := (below_drewN w4 1 _).trans (HZ.out.2.2.2.2.mono (Nat.le_refl _))
  have A6 := at_ibox (g := w.heap.size + 3) (.bool t10) (.slice pr lr cr) (show At w11 (.slice pq lq cq) (Nl.limbs q) by rw [hw11]; exact at_ibox (g := w.heap.size + 2) _ _ (HQR4.out.1.below hb410) HZ.out.1) G3
  have A8 := at_ibox (g := w.heap.size + 3) (.bool t10) (.slice pr lr cr) (show At w11 (.slice pr lr cr) (Nl.limbs r) by rw [hw11]; exact at_ibox (g := w.heap.size + 2) _ _ (HQR4.out.2.below hb410) HZ.out.1) G3
  have hb11 : Below w.heap.size w w11 := by rw [hw11]; exact below_ibox (g := w.heap.size + 2) (HE.out.1.trans (hb410.mono HE.out.1.size)) (by omega) _ _
  exact ⟨⟨_, _, rfl, isI_mk A6 rfl (by rw [HXX.out]; rfl), isI_mk A8 HZ.out.2.2.2.1 rfl⟩, below_ibox (g := w.heap.size + 3) hb11 (by omega) _ _⟩

set_option maxHeartbeats 4000000 in
theorem over3_near (p0 p1 : Option Addr) (l0 c0 l1 c1 : Nat) (a b : Int) (q r : Nat) (w : World) (_hu : At w (.slice p0 l0 c0) (Nl.limbs a.natAbs)) (hv : At w (.slice p1 l1 c1) (Nl.limbs b.natAbs)) (lb : fitI b)
    (hdiv : ∀ w', Below w.heap.size w w' → Calls Tryz.prog 140 #[.slice p0 l0 c0, .slice p1 l1 c1] w' fun e w'' => DivN w' w'' e q r)
    (hr0 : r ≠ 0) (hrb : r ≤ b.natAbs) (fq : (Nl.limbs q).length ≤ 1023) (hh : negB a = false) :
    Calls Tryz.prog 80 #[.agg #[.bool (negB a), .slice p0 l0 c0], .agg #[.bool (negB b), .slice p1 l1 c1], .int .i64 3] w fun e w' =>
      (∃ x y, e = .returned (.tuple #[x, y]) ∧ IsI w' x (sgn (negB a != negB b) q) ∧ IsI w' y (sgn (negB a) r)) ∧ Below w.heap.size w w' := by
  obtain ⟨s0, hs0⟩ : ∃ s0, s0 = negB a := ⟨_, rfl⟩
  obtain ⟨s1, hs1⟩ : ∃ s1, s1 = negB b := ⟨_, rfl⟩
  rw [← hs0, ← hs1]
  obtain ⟨W, hW⟩ : ∃ W, W = (((w.alloc (.cells #[.bool s0, .slice p0 l0 c0] 78)).alloc (.cells #[.bool s1, .slice p1 l1 c1] 78)).alloc (.cells #[.bool false, .slice none 0 0] 78)).alloc (.cells #[.bool false, .slice none 0 0] 78) := ⟨_, rfl⟩
  have h4 := four_mk w W _ _ _ _ _ _ hW
  have HD := Lib.hid (hdiv W h4.below)
  have HV := Lib.hid hv
  have H4 := Lib.hid h4
  rw [← hs0] at hh
  have HX := Lib.hid (And.intro hr0 (And.intro hrb (And.intro fq (And.intro hh lb))))
  have k00 := cell_of_row _ _ 0 _ _ (0, 0) h4.a
  have k01 := cell_of_row _ _ 1 _ _ (0, 0) h4.a
  have k10 := cell_of_row _ _ 0 _ _ (0, 0) h4.b
  have k11 := cell_of_row _ _ 1 _ _ (0, 0) h4.b
  simp only [List.getElem?_toArray, List.getElem?_cons_zero, List.getElem?_cons_succ] at k00 k01 k10 k11
  clear _hu hv lb hdiv hs0 hs1 h4 hr0 hrb fq hh
  go_enter Tryz.func80, Tryz.ntmps80
  go_upto_region 1 with fail
  rw [← hW]
  clear hW
  go_wp2_with fail
  refine HD.out.mono ?_
  rintro e w1 ⟨⟨pq, lq, cq, pr, lr, cr, rfl, hq, hr⟩, hb1⟩
  obtain ⟨B1, e0, e1, e2, e3⟩ := H4.out.move hb1
  have j00 := cell_of_row _ _ 0 _ _ (0, 0) e0
  have j01 := cell_of_row _ _ 1 _ _ (0, 0) e0
  have j10 := cell_of_row _ _ 0 _ _ (0, 0) e1
  have j11 := cell_of_row _ _ 1 _ _ (0, 0) e1
  simp only [List.getElem?_toArray, List.getElem?_cons_zero, List.getElem?_cons_succ] at j00 j01 j10 j11
  have HQR := Lib.hid (And.intro hq (And.intro hr (And.intro B1 (And.intro e0 (And.intro e1 (And.intro e2 e3))))))
  have HLR := Lib.hid (show lr ≠ 0 from fun h => by
    obtain ⟨aa, cc, hf, -⟩ := hr.form
    simp only [Value.slice.injEq] at hf
    have h0 := hf.2.1.symm.trans h
    exact HX.out.1 (limbs_nil.1 h0))
  clear hb1 hq hr B1 e0 e1 e2 e3 HD k00 k01 k10 k11
  go_wp2_with (go_at_call 139; refine (foundTwo_yes _ _ _ _ _ _ _).mono ?_; rintro e w' ⟨rfl, rfl⟩)
  obtain ⟨T, hT⟩ : ∃ T, T = w1.heap.size := ⟨_, rfl⟩
  obtain ⟨w2, hw2⟩ : ∃ w2, w2 = w1.alloc (.cells #[.bool s0, .bool s1, .slice pq lq cq, .slice pr lr cr, .slice p1 l1 c1] 151) := ⟨_, rfl⟩
  rw [← hw2, ← hT]
  have hb2 : Below w1.heap.size w1 w2 := by rw [hw2]; exact below_one w1 _
  have hTb : w2.heap[T]? = some (.cells #[.bool s0, .bool s1, .slice pq lq cq, .slice pr lr cr, .slice p1 l1 c1] 151 (0, 0)) := by rw [hw2, hT]; exact heap_alloc_new _ _
  have hTl : T < w2.heap.size := lt_of_block hTb
  have t0 := cell_of_row _ _ 0 _ _ (0, 0) hTb
  have t1 := cell_of_row _ _ 1 _ _ (0, 0) hTb
  have t2 := cell_of_row _ _ 2 _ _ (0, 0) hTb
  have t3 := cell_of_row _ _ 3 _ _ (0, 0) hTb
  have t4 := cell_of_row _ _ 4 _ _ (0, 0) hTb
  simp only [List.getElem?_toArray, List.getElem?_cons_zero, List.getElem?_cons_succ] at t0 t1 t2 t3 t4
  have HB2 := Lib.hid hb2
  have HH := Lib.hid (fun (w' : World) (_h : Below w2.drew.heap.size w2.drew w') => (far3_call s0 s1 pq pr p1 lq cq lr cr l1 c1 w').mono fun e w'' h => (show e = .returned (.bool false) ∧ Below w'.heap.size w' w'' from ⟨by rw [h.1, HX.out.2.2.2.1], h.2⟩))
  have HT := Lib.hid (And.intro hT hTb)
  have e5 : ((lr : Int) == 0) = false := by rw [beq_eq_false_iff_ne]; have := HLR.out; omega
  have hix : ∀ w, (Instr.index 155 (.agg #[.nilFunc, .func (.func 187) #[] #[], .func (.func 188) #[] #[], .func (.func 189) #[] #[], .func (.func 190) #[] #[]]) (.int .i64 3)).run Tryz.prog w = .ok (.agg #[.func (.func 189) #[] #[]]) w := fun _ => by kernel_rfl
  have hfi : ∀ w, (Instr.field 154 (.agg #[.func (.func 189) #[] #[]]) 0).run Tryz.prog w = .ok (.func (.func 189) #[] #[]) w := fun _ => by kernel_rfl
  have HHB := Lib.hid HX.out.2.2.2.1
  clear hb2 hTb hT hw2 j00 j01 j10 j11
  go_region_held3 (fun w' => w'.cell? ⟨T, 0, none⟩ = some (.bool s0) ∧ w'.cell? ⟨T, 1, none⟩ = some (.bool s1) ∧ w'.cell? ⟨T, 2, none⟩ = some (.slice pq lq cq) ∧ w'.cell? ⟨T, 3, none⟩ = some (.slice pr lr cr) ∧ w'.cell? ⟨T, 4, none⟩ = some (.slice p1 l1 c1))
    (first
      | go_keep
      | assumption)
    (first
      | (go_at_call 141; refine (divisions_any _).mono ?_; rintro e w3 ⟨rfl, hb3⟩; have u0 := (hb3.cell (p := ⟨T, 0, none⟩) hTl).trans t0; have u1 := (hb3.cell (p := ⟨T, 1, none⟩) hTl).trans t1; have u2 := (hb3.cell (p := ⟨T, 2, none⟩) hTl).trans t2; have u3 := (hb3.cell (p := ⟨T, 3, none⟩) hTl).trans t3; have u4 := (hb3.cell (p := ⟨T, 4, none⟩) hTl).trans t4)
      | (go_at_call 189; refine (HH.out w3 hb3).mono ?_; rintro e w4 ⟨rfl, hb4⟩; have v0 := (hb4.cell (p := ⟨T, 0, none⟩) (Nat.lt_of_lt_of_le hTl hb3.size)).trans u0; have v1 := (hb4.cell (p := ⟨T, 1, none⟩) (Nat.lt_of_lt_of_le hTl hb3.size)).trans u1; have v2 := (hb4.cell (p := ⟨T, 2, none⟩) (Nat.lt_of_lt_of_le hTl hb3.size)).trans u2; have v3 := (hb4.cell (p := ⟨T, 3, none⟩) (Nat.lt_of_lt_of_le hTl hb3.size)).trans u3; have v4 := (hb4.cell (p := ⟨T, 4, none⟩) (Nat.lt_of_lt_of_le hTl hb3.size)).trans u4))
  have hb24 : Below w2.heap.size w2 w4 := (below_drewN w2 1 _).trans ((hb3.trans (hb4.mono hb3.size)).mono (Nat.le_refl _))
  have hb14 : Below w1.heap.size w1 w4 := HB2.out.trans (hb24.mono HB2.out.size)
  have HQR4 := Lib.hid (And.intro (HQR.out.1.below hb14) (HQR.out.2.1.below hb14))
  have hB4 : Below w.heap.size w w4 := HQR.out.2.2.1.trans (hb14.mono HQR.out.2.2.1.size)
  have E0 := (hb14.block _ (lt_of_block HQR.out.2.2.2.1)).trans HQR.out.2.2.2.1
  have E1 := (hb14.block _ (lt_of_block HQR.out.2.2.2.2.1)).trans HQR.out.2.2.2.2.1
  have E2 := (hb14.block _ (lt_of_block HQR.out.2.2.2.2.2.1)).trans HQR.out.2.2.2.2.2.1
  have E3 := (hb14.block _ (lt_of_block HQR.out.2.2.2.2.2.2)).trans HQR.out.2.2.2.2.2.2
  have HE := Lib.hid (And.intro hB4 (And.intro E0 (And.intro E1 (And.intro E2 E3))))
  clear hb3 hb4 hb24 hb14 hB4 E0 E1 E2 E3 t0 t1 t2 t3 t4 u0 u1 u2 u3 u4 v0 v1 v2 v3 v4 HH HB2 HQR HT hTl hix hfi
  obtain ⟨x, hx⟩ : ∃ x, x = (!(s0 == s1)) := ⟨_, rfl⟩
  rw [← hx]
  have HXX := Lib.hid hx
  clear hx
  have hK0 : w.heap.size < w4.heap.size := lt_of_block HE.out.2.1
  have hK2 : w.heap.size + 2 < w4.heap.size := lt_of_block HE.out.2.2.2.1
  have hK3 : w.heap.size + 3 < w4.heap.size := lt_of_block HE.out.2.2.2.2
  have k00 := cell_of_row _ _ 0 _ _ (0, 0) HE.out.2.1
  simp only [List.getElem?_toArray, List.getElem?_cons_zero] at k00
  go_wp2_with fail
  have bd := below_drewN w4 1 w4.heap.size
  have HSG := Lib.hid (signed_num x (.slice pq lq cq) q w4.drew (HQR4.out.1.below bd))
  have HSR := Lib.hid (fun (w7 : World) (h : Below w4.drew.heap.size w4.drew w7) => signed_num s0 (.slice pr lr cr) r w7 ((HQR4.out.2.below bd).below h))
  have ne1 : ¬ w.heap.size = w.heap.size + 1 + 1 := by omega
  have ne2 : ¬ w.heap.size + 1 + 1 = w.heap.size := by omega
  have ne3 : ¬ w.heap.size = w.heap.size + 1 + 1 + 1 := by omega
  have ne4 : ¬ w.heap.size + 1 + 1 + 1 = w.heap.size := by omega
  clear bd
  go_region_held3 (fun w' => w'.cell? ⟨w.heap.size, 0, none⟩ = some (.bool s0))
    (first
      | go_keep
      | assumption)
    (first
      | (go_at_call_of 124 (Value.slice pq lq cq); refine HSG.out.mono ?_; rintro e w7 ⟨⟨t7, rfl, ht7⟩, hb7⟩; have d00 := (hb7.cell (p := ⟨w.heap.size, 0, none⟩) hK0).trans k00)
      | (go_at_call_of 124 (Value.slice pr lr cr); refine (HSR.out w7 hb7).mono ?_; rintro e w10 ⟨⟨t10, rfl, ht10⟩, hb10⟩; have hb710 := hb7.trans (hb10.mono hb7.size); have f00 := (hb710.cell (p := ⟨w.heap.size, 0, none⟩) hK0).trans k00; have E2 := (hb710.block (w.heap.size + 2) hK2).trans HE.out.2.2.2.1; have E3 := (hb710.block (w.heap.size + 3) hK3).trans HE.out.2.2.2.2; have x0 := frozen_of_row _ _ 0 _ _ E2; have x1 := frozen_of_row _ _ 1 _ _ E2; have y0 := cell_of_row _ _ 0 _ _ (0, 0) E2; have y1 := cell_of_row _ _ 1 _ _ (0, 0) E2; have x2 := frozen_of_row _ _ 0 _ _ E3; have x3 := frozen_of_row _ _ 1 _ _ E3; have y2 := cell_of_row _ _ 0 _ _ (0, 0) E3; have y3 := cell_of_row _ _ 1 _ _ (0, 0) E3; have HZ := Lib.hid (And.intro E2 (And.intro E3 (And.intro ht7 (And.intro ht10 hb710)))); clear E2 E3 ht7 ht10))
  clear hb7 hb10 hb710 d00 f00 k00 HSG HSR ne1 ne2 ne3 ne4 hK0 hK2 hK3
  go_wp2_with fail
  obtain ⟨w11, hw11⟩ : ∃ w11, w11 = (w10.setCell ⟨w.heap.size + 1 + 1, 0, none⟩ (.bool (negB (sgn x q)))).setCell ⟨w.heap.size + 1 + 1, 1, none⟩ (.slice pq lq cq) := ⟨_, rfl⟩
  rw [← hw11]
  have G2 : w11.heap[w.heap.size + 2]? = some (.cells #[.bool (negB (sgn x q)), .slice pq lq cq] 78 (0, 0)) := by rw [hw11]; exact ibox_set (g := w.heap.size + 2) _ _ HZ.out.1
  have G3 : w11.heap[w.heap.size + 3]? = some (.cells #[.bool false, .slice none 0 0] 78 (0, 0)) := by
    rw [hw11, Below.heap_setCell _ ⟨w.heap.size + 1 + 1, 1, none⟩ _ _ (by simp), Below.heap_setCell _ ⟨w.heap.size + 1 + 1, 0, none⟩ _ _ (by simp)]
    exact HZ.out.2.1
  have R3 := ibox_set (g := w.heap.size + 3) (.bool t10) (.slice pr lr cr) G3
  have R2 : ((w11.setCell ⟨w.heap.size + 3, 0, none⟩ (.bool t10)).setCell ⟨w.heap.size + 3, 1, none⟩ (.slice pr lr cr)).heap[w.heap.size + 2]? = some (.cells #[.bool (negB (sgn x q)), .slice pq lq cq] 78 (0, 0)) := by
    rw [Below.heap_setCell _ ⟨w.heap.size + 3, 1, none⟩ _ _ (by simp), Below.heap_setCell _ ⟨w.heap.size + 3, 0, none⟩ _ _ (by simp)]
    exact G2
  refine bodyPost_ret (v := .tuple #[.agg #[.bool (negB (sgn x q)), .slice pq lq cq], .agg #[.bool t10, .slice pr lr cr]]) (results_int2 Tryz.results80 _ _ (w.heap.size + 2) (w.heap.size + 3) _ _ rfl rfl (load_whole R2) (load_whole R3)) rfl ?_
  have hb410 : Below w4.heap.size w4 w10 := (below_drewN w4 1 _).trans (HZ.out.2.2.2.2.mono (Nat.le_refl _))
  have A6 := at_ibox (g := w.heap.size + 3) (.bool t10) (.slice pr lr cr) (show At w11 (.slice pq lq cq) (Nl.limbs q) by rw [hw11]; exact at_ibox (g := w.heap.size + 2) _ _ (HQR4.out.1.below hb410) HZ.out.1) G3
  have A8 := at_ibox (g := w.heap.size + 3) (.bool t10) (.slice pr lr cr) (show At w11 (.slice pr lr cr) (Nl.limbs r) by rw [hw11]; exact at_ibox (g := w.heap.size + 2) _ _ (HQR4.out.2.below hb410) HZ.out.1) G3
  have hb11 : Below w.heap.size w w11 := by rw [hw11]; exact below_ibox (g := w.heap.size + 2) (HE.out.1.trans (hb410.mono HE.out.1.size)) (by omega) _ _
  exact ⟨⟨_, _, rfl, isI_mk A6 rfl (by rw [HXX.out]; rfl), isI_mk A8 HZ.out.2.2.2.1 rfl⟩, below_ibox (g := w.heap.size + 3) hb11 (by omega) _ _⟩

set_option maxHeartbeats 4000000 in
theorem over4_near (p0 p1 : Option Addr) (l0 c0 l1 c1 : Nat) (a b : Int) (q r : Nat) (w : World) (_hu : At w (.slice p0 l0 c0) (Nl.limbs a.natAbs)) (hv : At w (.slice p1 l1 c1) (Nl.limbs b.natAbs)) (lb : fitI b)
    (hdiv : ∀ w', Below w.heap.size w w' → Calls Tryz.prog 140 #[.slice p0 l0 c0, .slice p1 l1 c1] w' fun e w'' => DivN w' w'' e q r)
    (hr0 : r ≠ 0) (hrb : r ≤ b.natAbs) (fq : (Nl.limbs q).length ≤ 1023) (hh : halfB q r b.natAbs = false) :
    Calls Tryz.prog 80 #[.agg #[.bool (negB a), .slice p0 l0 c0], .agg #[.bool (negB b), .slice p1 l1 c1], .int .i64 4] w fun e w' =>
      (∃ x y, e = .returned (.tuple #[x, y]) ∧ IsI w' x (sgn (negB a != negB b) q) ∧ IsI w' y (sgn (negB a) r)) ∧ Below w.heap.size w w' := by
  obtain ⟨s0, hs0⟩ : ∃ s0, s0 = negB a := ⟨_, rfl⟩
  obtain ⟨s1, hs1⟩ : ∃ s1, s1 = negB b := ⟨_, rfl⟩
  rw [← hs0, ← hs1]
  obtain ⟨W, hW⟩ : ∃ W, W = (((w.alloc (.cells #[.bool s0, .slice p0 l0 c0] 78)).alloc (.cells #[.bool s1, .slice p1 l1 c1] 78)).alloc (.cells #[.bool false, .slice none 0 0] 78)).alloc (.cells #[.bool false, .slice none 0 0] 78) := ⟨_, rfl⟩
  have h4 := four_mk w W _ _ _ _ _ _ hW
  have HD := Lib.hid (hdiv W h4.below)
  have HV := Lib.hid hv
  have H4 := Lib.hid h4
  have HX := Lib.hid (And.intro hr0 (And.intro hrb (And.intro fq (And.intro hh lb))))
  have k00 := cell_of_row _ _ 0 _ _ (0, 0) h4.a
  have k01 := cell_of_row _ _ 1 _ _ (0, 0) h4.a
  have k10 := cell_of_row _ _ 0 _ _ (0, 0) h4.b
  have k11 := cell_of_row _ _ 1 _ _ (0, 0) h4.b
  simp only [List.getElem?_toArray, List.getElem?_cons_zero, List.getElem?_cons_succ] at k00 k01 k10 k11
  clear _hu hv lb hdiv hs0 hs1 h4 hr0 hrb fq hh
  go_enter Tryz.func80, Tryz.ntmps80
  go_upto_region 1 with fail
  rw [← hW]
  clear hW
  go_wp2_with fail
  refine HD.out.mono ?_
  rintro e w1 ⟨⟨pq, lq, cq, pr, lr, cr, rfl, hq, hr⟩, hb1⟩
  obtain ⟨B1, e0, e1, e2, e3⟩ := H4.out.move hb1
  have j00 := cell_of_row _ _ 0 _ _ (0, 0) e0
  have j01 := cell_of_row _ _ 1 _ _ (0, 0) e0
  have j10 := cell_of_row _ _ 0 _ _ (0, 0) e1
  have j11 := cell_of_row _ _ 1 _ _ (0, 0) e1
  simp only [List.getElem?_toArray, List.getElem?_cons_zero, List.getElem?_cons_succ] at j00 j01 j10 j11
  have HQR := Lib.hid (And.intro hq (And.intro hr (And.intro B1 (And.intro e0 (And.intro e1 (And.intro e2 e3))))))
  have HLR := Lib.hid (show lr ≠ 0 from fun h => by
    obtain ⟨aa, cc, hf, -⟩ := hr.form
    simp only [Value.slice.injEq] at hf
    have h0 := hf.2.1.symm.trans h
    exact HX.out.1 (limbs_nil.1 h0))
  clear hb1 hq hr B1 e0 e1 e2 e3 HD k00 k01 k10 k11
  go_wp2_with (go_at_call 139; refine (foundTwo_yes _ _ _ _ _ _ _).mono ?_; rintro e w' ⟨rfl, rfl⟩)
  obtain ⟨T, hT⟩ : ∃ T, T = w1.heap.size := ⟨_, rfl⟩
  obtain ⟨w2, hw2⟩ : ∃ w2, w2 = w1.alloc (.cells #[.bool s0, .bool s1, .slice pq lq cq, .slice pr lr cr, .slice p1 l1 c1] 151) := ⟨_, rfl⟩
  rw [← hw2, ← hT]
  have hb2 : Below w1.heap.size w1 w2 := by rw [hw2]; exact below_one w1 _
  have hTb : w2.heap[T]? = some (.cells #[.bool s0, .bool s1, .slice pq lq cq, .slice pr lr cr, .slice p1 l1 c1] 151 (0, 0)) := by rw [hw2, hT]; exact heap_alloc_new _ _
  have hTl : T < w2.heap.size := lt_of_block hTb
  have t0 := cell_of_row _ _ 0 _ _ (0, 0) hTb
  have t1 := cell_of_row _ _ 1 _ _ (0, 0) hTb
  have t2 := cell_of_row _ _ 2 _ _ (0, 0) hTb
  have t3 := cell_of_row _ _ 3 _ _ (0, 0) hTb
  have t4 := cell_of_row _ _ 4 _ _ (0, 0) hTb
  simp only [List.getElem?_toArray, List.getElem?_cons_zero, List.getElem?_cons_succ] at t0 t1 t2 t3 t4
  have HB2 := Lib.hid hb2
  have HH := Lib.hid (fun (w' : World) (h : Below w2.drew.heap.size w2.drew w') => (half_any s0 s1 (.slice pq lq cq) (.slice pr lr cr) (.slice p1 l1 c1) q r b.natAbs w'
    (((HQR.out.1.below hb2).below (below_drewN w2 1 _)).below h) (((HQR.out.2.1.below hb2).below (below_drewN w2 1 _)).below h) (((((HV.out.below HQR.out.2.2.1).below hb2).below (below_drewN w2 1 _))).below h)
    HX.out.2.2.2.2 HX.out.2.1 (Nat.le_trans HX.out.2.2.1 (by decide))))
  have HT := Lib.hid (And.intro hT hTb)
  have e5 : ((lr : Int) == 0) = false := by rw [beq_eq_false_iff_ne]; have := HLR.out; omega
  have hix : ∀ w, (Instr.index 155 (.agg #[.nilFunc, .func (.func 187) #[] #[], .func (.func 188) #[] #[], .func (.func 189) #[] #[], .func (.func 190) #[] #[]]) (.int .i64 4)).run Tryz.prog w = .ok (.agg #[.func (.func 190) #[] #[]]) w := fun _ => by kernel_rfl
  have hfi : ∀ w, (Instr.field 154 (.agg #[.func (.func 190) #[] #[]]) 0).run Tryz.prog w = .ok (.func (.func 190) #[] #[]) w := fun _ => by kernel_rfl
  have HHB := Lib.hid HX.out.2.2.2.1
  clear hb2 hTb hT hw2 j00 j01 j10 j11
  go_region_held3 (fun w' => w'.cell? ⟨T, 0, none⟩ = some (.bool s0) ∧ w'.cell? ⟨T, 1, none⟩ = some (.bool s1) ∧ w'.cell? ⟨T, 2, none⟩ = some (.slice pq lq cq) ∧ w'.cell? ⟨T, 3, none⟩ = some (.slice pr lr cr) ∧ w'.cell? ⟨T, 4, none⟩ = some (.slice p1 l1 c1))
    (first
      | go_keep
      | assumption)
    (first
      | (go_at_call 141; refine (divisions_any _).mono ?_; rintro e w3 ⟨rfl, hb3⟩; have u0 := (hb3.cell (p := ⟨T, 0, none⟩) hTl).trans t0; have u1 := (hb3.cell (p := ⟨T, 1, none⟩) hTl).trans t1; have u2 := (hb3.cell (p := ⟨T, 2, none⟩) hTl).trans t2; have u3 := (hb3.cell (p := ⟨T, 3, none⟩) hTl).trans t3; have u4 := (hb3.cell (p := ⟨T, 4, none⟩) hTl).trans t4)
      | (go_at_call 190; refine (HH.out w3 hb3).mono ?_; rintro e w4 ⟨rfl, hb4⟩; rw [HHB.out]; have v0 := (hb4.cell (p := ⟨T, 0, none⟩) (Nat.lt_of_lt_of_le hTl hb3.size)).trans u0; have v1 := (hb4.cell (p := ⟨T, 1, none⟩) (Nat.lt_of_lt_of_le hTl hb3.size)).trans u1; have v2 := (hb4.cell (p := ⟨T, 2, none⟩) (Nat.lt_of_lt_of_le hTl hb3.size)).trans u2; have v3 := (hb4.cell (p := ⟨T, 3, none⟩) (Nat.lt_of_lt_of_le hTl hb3.size)).trans u3; have v4 := (hb4.cell (p := ⟨T, 4, none⟩) (Nat.lt_of_lt_of_le hTl hb3.size)).trans u4))
  have hb24 : Below w2.heap.size w2 w4 := (below_drewN w2 1 _).trans ((hb3.trans (hb4.mono hb3.size)).mono (Nat.le_refl _))
  have hb14 : Below w1.heap.size w1 w4 := HB2.out.trans (hb24.mono HB2.out.size)
  have HQR4 := Lib.hid (And.intro (HQR.out.1.below hb14) (HQR.out.2.1.below hb14))
  have hB4 : Below w.heap.size w w4 := HQR.out.2.2.1.trans (hb14.mono HQR.out.2.2.1.size)
  have E0 := (hb14.block _ (lt_of_block HQR.out.2.2.2.1)).trans HQR.out.2.2.2.1
  have E1 := (hb14.block _ (lt_of_block HQR.out.2.2.2.2.1)).trans HQR.out.2.2.2.2.1
  have E2 := (hb14.block _ (lt_of_block HQR.out.2.2.2.2.2.1)).trans HQR.out.2.2.2.2.2.1
  have E3 := (hb14.block _ (lt_of_block HQR.out.2.2.2.2.2.2)).trans HQR.out.2.2.2.2.2.2
  have HE := Lib.hid (And.intro hB4 (And.intro E0 (And.intro E1 (And.intro E2 E3))))
  clear hb3 hb4 hb24 hb14 hB4 E0 E1 E2 E3 t0 t1 t2 t3 t4 u0 u1 u2 u3 u4 v0 v1 v2 v3 v4 HH HB2 HQR HT hTl hix hfi
  obtain ⟨x, hx⟩ : ∃ x, x = (!(s0 == s1)) := ⟨_, rfl⟩
  rw [← hx]
  have HXX := Lib.hid hx
  clear hx
  have hK0 : w.heap.size < w4.heap.size := lt_of_block HE.out.2.1
  have hK2 : w.heap.size + 2 < w4.heap.size := lt_of_block HE.out.2.2.2.1
  have hK3 : w.heap.size + 3 < w4.heap.size := lt_of_block HE.out.2.2.2.2
  have k00 := cell_of_row _ _ 0 _ _ (0, 0) HE.out.2.1
  simp only [List.getElem?_toArray, List.getElem?_cons_zero] at k00
  go_wp2_with fail
  have bd := below_drewN w4 1 w4.heap.size
  have HSG := Lib.hid (signed_num x (.slice pq lq cq) q w4.drew (HQR4.out.1.below bd))
  have HSR := Lib.hid (fun (w7 : World) (h : Below w4.drew.heap.size w4.drew w7) => signed_num s0 (.slice pr lr cr) r w7 ((HQR4.out.2.below bd).below h))
  have ne1 : ¬ w.heap.size = w.heap.size + 1 + 1 := by omega
  have ne2 : ¬ w.heap.size + 1 + 1 = w.heap.size := by omega
  have ne3 : ¬ w.heap.size = w.heap.size + 1 + 1 + 1 := by omega
  have ne4 : ¬ w.heap.size + 1 + 1 + 1 = w.heap.size := by omega
  clear bd
  go_region_held3 (fun w' => w'.cell? ⟨w.heap.size, 0, none⟩ = some (.bool s0))
    (first
      | go_keep
      | assumption)
    (first
      | (go_at_call_of 124 (Value.slice pq lq cq); refine HSG.out.mono ?_; rintro e w7 ⟨⟨t7, rfl, ht7⟩, hb7⟩; have d00 := (hb7.cell (p := ⟨w.heap.size, 0, none⟩) hK0).trans k00)
      | (go_at_call_of 124 (Value.slice pr lr cr); refine (HSR.out w7 hb7).mono ?_; rintro e w10 ⟨⟨t10, rfl, ht10⟩, hb10⟩; have hb710 := hb7.trans (hb10.mono hb7.size); have f00 := (hb710.cell (p := ⟨w.heap.size, 0, none⟩) hK0).trans k00; have E2 := (hb710.block (w.heap.size + 2) hK2).trans HE.out.2.2.2.1; have E3 := (hb710.block (w.heap.size + 3) hK3).trans HE.out.2.2.2.2; have x0 := frozen_of_row _ _ 0 _ _ E2; have x1 := frozen_of_row _ _ 1 _ _ E2; have y0 := cell_of_row _ _ 0 _ _ (0, 0) E2; have y1 := cell_of_row _ _ 1 _ _ (0, 0) E2; have x2 := frozen_of_row _ _ 0 _ _ E3; have x3 := frozen_of_row _ _ 1 _ _ E3; have y2 := cell_of_row _ _ 0 _ _ (0, 0) E3; have y3 := cell_of_row _ _ 1 _ _ (0, 0) E3; have HZ := Lib.hid (And.intro E2 (And.intro E3 (And.intro ht7 (And.intro ht10 hb710)))); clear E2 E3 ht7 ht10))
  clear hb7 hb10 hb710 d00 f00 k00 HSG HSR ne1 ne2 ne3 ne4 hK0 hK2 hK3
  go_wp2_with fail
  obtain ⟨w11, hw11⟩ : ∃ w11, w11 = (w10.setCell ⟨w.heap.size + 1 + 1, 0, none⟩ (.bool (negB (sgn x q)))).setCell ⟨w.heap.size + 1 + 1, 1, none⟩ (.slice pq lq cq) := ⟨_, rfl⟩
  rw [← hw11]
  have G2 : w11.heap[w.heap.size + 2]? = some (.cells #[.bool (negB (sgn x q)), .slice pq lq cq] 78 (0, 0)) := by rw [hw11]; exact ibox_set (g := w.heap.size + 2) _ _ HZ.out.1
  have G3 : w11.heap[w.heap.size + 3]? = some (.cells #[.bool false, .slice none 0 0] 78 (0, 0)) := by
    rw [hw11, Below.heap_setCell _ ⟨w.heap.size + 1 + 1, 1, none⟩ _ _ (by simp), Below.heap_setCell _ ⟨w.heap.size + 1 + 1, 0, none⟩ _ _ (by simp)]
    exact HZ.out.2.1
  have R3 := ibox_set (g := w.heap.size + 3) (.bool t10) (.slice pr lr cr) G3
  have R2 : ((w11.setCell ⟨w.heap.size + 3, 0, none⟩ (.bool t10)).setCell ⟨w.heap.size + 3, 1, none⟩ (.slice pr lr cr)).heap[w.heap.size + 2]? = some (.cells #[.bool (negB (sgn x q)), .slice pq lq cq] 78 (0, 0)) := by
    rw [Below.heap_setCell _ ⟨w.heap.size + 3, 1, none⟩ _ _ (by simp), Below.heap_setCell _ ⟨w.heap.size + 3, 0, none⟩ _ _ (by simp)]
    exact G2
  refine bodyPost_ret (v := .tuple #[.agg #[.bool (negB (sgn x q)), .slice pq lq cq], .agg #[.bool t10, .slice pr lr cr]]) (results_int2 Tryz.results80 _ _ (w.heap.size + 2) (w.heap.size + 3) _ _ rfl rfl (load_whole R2) (load_whole R3)) rfl ?_
  have hb410 : Below w4.heap.size w4 w10 := (below_drewN w4 1 _).trans (HZ.out.2.2.2.2.mono (Nat.le_refl _))
  have A6 := at_ibox (g := w.heap.size + 3) (.bool t10) (.slice pr lr cr) (show At w11 (.slice pq lq cq) (Nl.limbs q) by rw [hw11]; exact at_ibox (g := w.heap.size + 2) _ _ (HQR4.out.1.below hb410) HZ.out.1) G3
  have A8 := at_ibox (g := w.heap.size + 3) (.bool t10) (.slice pr lr cr) (show At w11 (.slice pr lr cr) (Nl.limbs r) by rw [hw11]; exact at_ibox (g := w.heap.size + 2) _ _ (HQR4.out.2.below hb410) HZ.out.1) G3
  have hb11 : Below w.heap.size w w11 := by rw [hw11]; exact below_ibox (g := w.heap.size + 2) (HE.out.1.trans (hb410.mono HE.out.1.size)) (by omega) _ _
  exact ⟨⟨_, _, rfl, isI_mk A6 rfl (by rw [HXX.out]; rfl), isI_mk A8 HZ.out.2.2.2.1 rfl⟩, below_ibox (g := w.heap.size + 3) hb11 (by omega) _ _⟩

set_option maxHeartbeats 4000000 in
theorem over_even (p0 p1 : Option Addr) (l0 c0 l1 c1 : Nat) (a b how : Int) (q : Nat) (w : World) (_hu : At w (.slice p0 l0 c0) (Nl.limbs a.natAbs)) (hv : At w (.slice p1 l1 c1) (Nl.limbs b.natAbs))
    (hdiv : ∀ w', Below w.heap.size w w' → Calls Tryz.prog 140 #[.slice p0 l0 c0, .slice p1 l1 c1] w' fun e w'' => DivN w' w'' e q 0)
     :
    Calls Tryz.prog 80 #[.agg #[.bool (negB a), .slice p0 l0 c0], .agg #[.bool (negB b), .slice p1 l1 c1], .int .i64 how] w fun e w' =>
      (∃ x y, e = .returned (.tuple #[x, y]) ∧ IsI w' x (sgn (negB a != negB b) q) ∧ IsI w' y (sgn (negB a) 0)) ∧ Below w.heap.size w w' := by
  obtain ⟨s0, hs0⟩ : ∃ s0, s0 = negB a := ⟨_, rfl⟩
  obtain ⟨s1, hs1⟩ : ∃ s1, s1 = negB b := ⟨_, rfl⟩
  rw [← hs0, ← hs1]
  obtain ⟨W, hW⟩ : ∃ W, W = (((w.alloc (.cells #[.bool s0, .slice p0 l0 c0] 78)).alloc (.cells #[.bool s1, .slice p1 l1 c1] 78)).alloc (.cells #[.bool false, .slice none 0 0] 78)).alloc (.cells #[.bool false, .slice none 0 0] 78) := ⟨_, rfl⟩
  have h4 := four_mk w W _ _ _ _ _ _ hW
  have HD := Lib.hid (hdiv W h4.below)
  have HV := Lib.hid hv
  have H4 := Lib.hid h4
  have k00 := cell_of_row _ _ 0 _ _ (0, 0) h4.a
  have k01 := cell_of_row _ _ 1 _ _ (0, 0) h4.a
  have k10 := cell_of_row _ _ 0 _ _ (0, 0) h4.b
  have k11 := cell_of_row _ _ 1 _ _ (0, 0) h4.b
  simp only [List.getElem?_toArray, List.getElem?_cons_zero, List.getElem?_cons_succ] at k00 k01 k10 k11
  clear _hu hv hdiv hs0 hs1 h4
  go_enter Tryz.func80, Tryz.ntmps80
  go_upto_region 1 with fail
  rw [← hW]
  clear hW
  go_wp2_with fail
  refine HD.out.mono ?_
  rintro e w1 ⟨⟨pq, lq, cq, pr, lr, cr, rfl, hq, hr⟩, hb1⟩
  obtain ⟨B1, e0, e1, e2, e3⟩ := H4.out.move hb1
  have j00 := cell_of_row _ _ 0 _ _ (0, 0) e0
  have j01 := cell_of_row _ _ 1 _ _ (0, 0) e0
  have j10 := cell_of_row _ _ 0 _ _ (0, 0) e1
  have j11 := cell_of_row _ _ 1 _ _ (0, 0) e1
  simp only [List.getElem?_toArray, List.getElem?_cons_zero, List.getElem?_cons_succ] at j00 j01 j10 j11
  have HQR := Lib.hid (And.intro hq (And.intro hr (And.intro B1 (And.intro e0 (And.intro e1 (And.intro e2 e3))))))
  have HLR := Lib.hid (show lr = 0 from by
    obtain ⟨aa, cc, hf, -⟩ := hr.form
    simp only [Value.slice.injEq] at hf
    rw [hf.2.1, Nl.limbs_zero]; rfl)
  have hl0 := HLR.out
  subst hl0
  clear hb1 hq hr B1 e0 e1 e2 e3 HD k00 k01 k10 k11
  go_wp2_with (go_at_call 139; refine (foundTwo_yes _ _ _ _ _ _ _).mono ?_; rintro e w' ⟨rfl, rfl⟩)
  obtain ⟨T, hT⟩ : ∃ T, T = w1.heap.size := ⟨_, rfl⟩
  obtain ⟨w2, hw2⟩ : ∃ w2, w2 = w1.alloc (.cells #[.bool s0, .bool s1, .slice pq lq cq, .slice pr 0 cr, .slice p1 l1 c1] 151) := ⟨_, rfl⟩
  rw [← hw2, ← hT]
  have hb2 : Below w1.heap.size w1 w2 := by rw [hw2]; exact below_one w1 _
  have hTb : w2.heap[T]? = some (.cells #[.bool s0, .bool s1, .slice pq lq cq, .slice pr 0 cr, .slice p1 l1 c1] 151 (0, 0)) := by rw [hw2, hT]; exact heap_alloc_new _ _
  have hTl : T < w2.heap.size := lt_of_block hTb
  have t0 := cell_of_row _ _ 0 _ _ (0, 0) hTb
  have t1 := cell_of_row _ _ 1 _ _ (0, 0) hTb
  have t2 := cell_of_row _ _ 2 _ _ (0, 0) hTb
  have t3 := cell_of_row _ _ 3 _ _ (0, 0) hTb
  have t4 := cell_of_row _ _ 4 _ _ (0, 0) hTb
  simp only [List.getElem?_toArray, List.getElem?_cons_zero, List.getElem?_cons_succ] at t0 t1 t2 t3 t4
  have HB2 := Lib.hid hb2
  have HT := Lib.hid (And.intro hT hTb)
  have hlt0 : ¬ w.heap.size = T := fun h => by have := lt_of_block HQR.out.2.2.2.1; omega
  clear hb2 hTb hT hw2 j00 j01 j10 j11
  go_quiet (fail)
  obtain ⟨w4, hw4⟩ : ∃ w4, w4 = w2.drewN nq := ⟨_, rfl⟩
  rw [← hw4]
  have hb24 : Below w2.heap.size w2 w4 := by rw [hw4]; exact below_drewN w2 nq _
  have hb14 : Below w1.heap.size w1 w4 := HB2.out.trans (hb24.mono HB2.out.size)
  have HQR4 := Lib.hid (And.intro (HQR.out.1.below hb14) (HQR.out.2.1.below hb14))
  have hB4 : Below w.heap.size w w4 := HQR.out.2.2.1.trans (hb14.mono HQR.out.2.2.1.size)
  have E0 := (hb14.block _ (lt_of_block HQR.out.2.2.2.1)).trans HQR.out.2.2.2.1
  have E1 := (hb14.block _ (lt_of_block HQR.out.2.2.2.2.1)).trans HQR.out.2.2.2.2.1
  have E2 := (hb14.block _ (lt_of_block HQR.out.2.2.2.2.2.1)).trans HQR.out.2.2.2.2.2.1
  have E3 := (hb14.block _ (lt_of_block HQR.out.2.2.2.2.2.2)).trans HQR.out.2.2.2.2.2.2
  have HE := Lib.hid (And.intro hB4 (And.intro E0 (And.intro E1 (And.intro E2 E3))))
  clear hb24 hb14 hB4 E0 E1 E2 E3 t0 t1 t2 t3 t4 HB2 HQR HT hTl hw4 hlt0
  obtain ⟨x, hx⟩ : ∃ x, x = (!(s0 == s1)) := ⟨_, rfl⟩
  rw [← hx]
  have HXX := Lib.hid hx
  clear hx
  have hK0 : w.heap.size < w4.heap.size := lt_of_block HE.out.2.1
  have hK2 : w.heap.size + 2 < w4.heap.size := lt_of_block HE.out.2.2.2.1
  have hK3 : w.heap.size + 3 < w4.heap.size := lt_of_block HE.out.2.2.2.2
  have k00 := cell_of_row _ _ 0 _ _ (0, 0) HE.out.2.1
  simp only [List.getElem?_toArray, List.getElem?_cons_zero] at k00
  go_wp2_with fail
  have bd := below_drewN w4 1 w4.heap.size
  have HSG := Lib.hid (signed_num x (.slice pq lq cq) q w4.drew (HQR4.out.1.below bd))
  have HSR := Lib.hid (fun (w7 : World) (h : Below w4.drew.heap.size w4.drew w7) => signed_num s0 (.slice pr 0 cr) 0 w7 ((HQR4.out.2.below bd).below h))
  have ne1 : ¬ w.heap.size = w.heap.size + 1 + 1 := by omega
  have ne2 : ¬ w.heap.size + 1 + 1 = w.heap.size := by omega
  have ne3 : ¬ w.heap.size = w.heap.size + 1 + 1 + 1 := by omega
  have ne4 : ¬ w.heap.size + 1 + 1 + 1 = w.heap.size := by omega
  clear bd
  go_region_held3 (fun w' => w'.cell? ⟨w.heap.size, 0, none⟩ = some (.bool s0))
    (first
      | go_keep
      | assumption)
    (first
      | (go_at_call_of 124 (Value.slice pq lq cq); refine HSG.out.mono ?_; rintro e w7 ⟨⟨t7, rfl, ht7⟩, hb7⟩; have d00 := (hb7.cell (p := ⟨w.heap.size, 0, none⟩) hK0).trans k00)
      | (go_at_call_of 124 (Value.slice pr 0 cr); refine (HSR.out w7 hb7).mono ?_; rintro e w10 ⟨⟨t10, rfl, ht10⟩, hb10⟩; have hb710 := hb7.trans (hb10.mono hb7.size); have f00 := (hb710.cell (p := ⟨w.heap.size, 0, none⟩) hK0).trans k00; have E2 := (hb710.block (w.heap.size + 2) hK2).trans HE.out.2.2.2.1; have E3 := (hb710.block (w.heap.size + 3) hK3).trans HE.out.2.2.2.2; have x0 := frozen_of_row _ _ 0 _ _ E2; have x1 := frozen_of_row _ _ 1 _ _ E2; have y0 := cell_of_row _ _ 0 _ _ (0, 0) E2; have y1 := cell_of_row _ _ 1 _ _ (0, 0) E2; have x2 := frozen_of_row _ _ 0 _ _ E3; have x3 := frozen_of_row _ _ 1 _ _ E3; have y2 := cell_of_row _ _ 0 _ _ (0, 0) E3; have y3 := cell_of_row _ _ 1 _ _ (0, 0) E3; have HZ := Lib.hid (And.intro E2 (And.intro E3 (And.intro ht7 (And.intro ht10 hb710)))); clear E2 E3 ht7 ht10))
  clear hb7 hb10 hb710 d00 f00 k00 HSG HSR ne1 ne2 ne3 ne4 hK0 hK2 hK3
  go_wp2_with fail
  obtain ⟨w11, hw11⟩ : ∃ w11, w11 = (w10.setCell ⟨w.heap.size + 1 + 1, 0, none⟩ (.bool (negB (sgn x q)))).setCell ⟨w.heap.size + 1 + 1, 1, none⟩ (.slice pq lq cq) := ⟨_, rfl⟩
  rw [← hw11]
  have G2 : w11.heap[w.heap.size + 2]? = some (.cells #[.bool (negB (sgn x q)), .slice pq lq cq] 78 (0, 0)) := by rw [hw11]; exact ibox_set (g := w.heap.size + 2) _ _ HZ.out.1
  have G3 : w11.heap[w.heap.size + 3]? = some (.cells #[.bool false, .slice none 0 0] 78 (0, 0)) := by
    rw [hw11, Below.heap_setCell _ ⟨w.heap.size + 1 + 1, 1, none⟩ _ _ (by simp), Below.heap_setCell _ ⟨w.heap.size + 1 + 1, 0, none⟩ _ _ (by simp)]
    exact HZ.out.2.1
  have R3 := ibox_set (g := w.heap.size + 3) (.bool t10) (.slice pr 0 cr) G3
  have R2 : ((w11.setCell ⟨w.heap.size + 3, 0, none⟩ (.bool t10)).setCell ⟨w.heap.size + 3, 1, none⟩ (.slice pr 0 cr)).heap[w.heap.size + 2]? = some (.cells #[.bool (negB (sgn x q)), .slice pq lq cq] 78 (0, 0)) := by
    rw [Below.heap_setCell _ ⟨w.heap.size + 3, 1, none⟩ _ _ (by simp), Below.heap_setCell _ ⟨w.heap.size + 3, 0, none⟩ _ _ (by simp)]
    exact G2
  refine bodyPost_ret (v := .tuple #[.agg #[.bool (negB (sgn x q)), .slice pq lq cq], .agg #[.bool t10, .slice pr 0 cr]]) (results_int2 Tryz.results80 _ _ (w.heap.size + 2) (w.heap.size + 3) _ _ rfl rfl (load_whole R2) (load_whole R3)) rfl ?_
  have hb410 : Below w4.heap.size w4 w10 := (below_drewN w4 1 _).trans (HZ.out.2.2.2.2.mono (Nat.le_refl _))
  have A6 := at_ibox (g := w.heap.size + 3) (.bool t10) (.slice pr 0 cr) (show At w11 (.slice pq lq cq) (Nl.limbs q) by rw [hw11]; exact at_ibox (g := w.heap.size + 2) _ _ (HQR4.out.1.below hb410) HZ.out.1) G3
  have A8 := at_ibox (g := w.heap.size + 3) (.bool t10) (.slice pr 0 cr) (show At w11 (.slice pr 0 cr) (Nl.limbs 0) by rw [hw11]; exact at_ibox (g := w.heap.size + 2) _ _ (HQR4.out.2.below hb410) HZ.out.1) G3
  have hb11 : Below w.heap.size w w11 := by rw [hw11]; exact below_ibox (g := w.heap.size + 2) (HE.out.1.trans (hb410.mono HE.out.1.size)) (by omega) _ _
  exact ⟨⟨_, _, rfl, isI_mk A6 rfl (by rw [HXX.out]; rfl), isI_mk A8 HZ.out.2.2.2.1 rfl⟩, below_ibox (g := w.heap.size + 3) hb11 (by omega) _ _⟩

end Go.Proofs.YtkbghamkalidcaaGreat
