/-
  What the reference's Neg, Add, Sub, Mul, Sign and Cmp of integers do. Written by wip/tool/genref2e.py. Conditions: those that each theorem names.
-/
import Derived.Test.YtodjncohhgknlaaGreatRef2dAll
namespace Go.Proofs.YtodjncohhgknlaaGreat
open Go.RowKit

theorem lowI_of {n : Int} (h : fitI n) : lowI n := Nat.le_trans h (by decide)
theorem cmpI_sgn (a b : Int) : sgnI (a - b) = cmpI a b := by
  rw [sgnI, cmpI]
  split <;> split <;> (try split) <;> (try split) <;> omega
theorem at_of {w : World} {s : Bool} {p : Option Addr} {l c : Nat} {xs : List Nat} (h : AtI w (.agg #[.bool s, .slice p l c]) s xs) : At w (.slice p l c) xs := by
  obtain ⟨u, hu1, hu2⟩ := h
  simp only [Value.agg.injEq, Array.mk.injEq, List.cons.injEq, and_true, true_and] at hu1
  rw [hu1]; exact hu2
set_option maxHeartbeats 2000000 in
theorem rAdd_any (v0 : Value) (s0 : Bool) (xs : List Nat) (v1 : Value) (s1 : Bool) (ys : List Nat) (w : World) (h0 : AtI w v0 s0 xs) (m0 : Nl.Small xs) (h1 : AtI w v1 s1 ys) (m1 : Nl.Small ys) :
    Calls Tryz.prog 36 #[v0, v1] w fun e w' => GotI w w' e (if (validI s0 xs && validI s1 ys) = true then codeI 0 ((sgn s0 (Nl.val xs)) + (sgn s1 (Nl.val ys))) else 1) ((sgn s0 (Nl.val xs)) + (sgn s1 (Nl.val ys))) := by
  obtain ⟨p0, c0, rfl, u0⟩ := h0.form
  obtain ⟨l0, hl0⟩ : ∃ l0, l0 = xs.length := ⟨_, rfl⟩
  rw [← hl0] at u0 h0 ⊢
  obtain ⟨p1, c1, rfl, u1⟩ := h1.form
  obtain ⟨l1, hl1⟩ : ∃ l1, l1 = ys.length := ⟨_, rfl⟩
  rw [← hl1] at u1 h1 ⊢
  obtain ⟨W, hW⟩ : ∃ W, W = ((w.alloc (.cells #[.bool s0, .slice p0 l0 c0] 25)).alloc (.cells #[.bool s1, .slice p1 l1 c1] 25)).alloc (.cells #[.bool false, .slice none 0 0, .int .i64 0] 41) := ⟨_, rfl⟩
  have hb : Below w.heap.size w W := by rw [hW]; exact three_new w _ _ _
  have B0 : W.heap[w.heap.size]? = some (.cells #[.bool s0, .slice p0 l0 c0] 25 (0, 0)) := by rw [hW]; exact al_keep _ _ (by simp <;> omega) (al_keep _ _ (by simp <;> omega) (al_at _ _ (by simp)))
  have B1 : W.heap[w.heap.size + 1]? = some (.cells #[.bool s1, .slice p1 l1 c1] 25 (0, 0)) := by rw [hW]; exact al_keep _ _ (by simp <;> omega) (al_at _ _ (by simp))
  have B2 : W.heap[w.heap.size + 2]? = some (.cells #[.bool false, .slice none 0 0, .int .i64 0] 41 (0, 0)) := by rw [hW]; exact al_at _ _ (by simp)
  have HB := Lib.hid (And.intro hb (And.intro B0 (And.intro B1 B2)))
  have HU0 := Lib.hid (And.intro h0 m0)
  have HU1 := Lib.hid (And.intro h1 m1)
  have k00 := cell_of_row _ _ 0 _ _ (0, 0) B0
  have k01 := cell_of_row _ _ 1 _ _ (0, 0) B0
  have k10 := cell_of_row _ _ 0 _ _ (0, 0) B1
  have k11 := cell_of_row _ _ 1 _ _ (0, 0) B1
  simp only [List.getElem?_toArray, List.getElem?_cons_zero, List.getElem?_cons_succ] at k00 k01 k10 k11
  have fr0 := frozen_of_row _ _ 0 _ _ B2
  have fr1 := frozen_of_row _ _ 1 _ _ B2
  have fr2 := frozen_of_row _ _ 2 _ _ B2
  have gr0 := cell_of_row _ _ 0 _ _ (0, 0) B2
  have gr1 := cell_of_row _ _ 1 _ _ (0, 0) B2
  have gr2 := cell_of_row _ _ 2 _ _ (0, 0) B2
  have HW := HB
  clear HB h0 u0 m0 hl0 h1 u1 m1 hl1 hb B0 B1 B2
  obtain ⟨nn, hnn⟩ : ∃ nn : Int, nn = (sgn s0 (Nl.val xs)) + (sgn s1 (Nl.val ys)) := ⟨_, rfl⟩
  rw [← hnn]
  have HNN := Lib.hid hnn
  clear hnn
  cases hok0 : validI s0 xs with
  | false =>
    rw [if_neg (by simp)]
    go_enter Tryz.func36, Tryz.ntmps36
    go_upto_region 1 with fail
    rw [← hW]
    clear hW
    have hv0 := ref2Valid_any _ s0 xs W (HU0.out.1.below HW.out.1)
    rw [hok0] at hv0
    have HV0 := Lib.hid hv0
    clear hv0
    go_wp2_with fail
    refine HV0.out.mono ?_
    rintro e w1 ⟨rfl, hbw1⟩
    have Y0 := (hbw1.block _ (lt_of_block HW.out.2.1)).trans HW.out.2.1
    have Y1 := (hbw1.block _ (lt_of_block HW.out.2.2.1)).trans HW.out.2.2.1
    have Y2 := (hbw1.block _ (lt_of_block HW.out.2.2.2)).trans HW.out.2.2.2
    have Hw1 := Lib.hid (And.intro (HW.out.1.trans (hbw1.mono HW.out.1.size)) (And.intro Y0 (And.intro Y1 Y2)))
    clear k00 k01 k10 k11 fr0 fr1 fr2 gr0 gr1 gr2
    have k00 := cell_of_row _ _ 0 _ _ (0, 0) Y0
    have k01 := cell_of_row _ _ 1 _ _ (0, 0) Y0
    have k10 := cell_of_row _ _ 0 _ _ (0, 0) Y1
    have k11 := cell_of_row _ _ 1 _ _ (0, 0) Y1
    simp only [List.getElem?_toArray, List.getElem?_cons_zero, List.getElem?_cons_succ] at k00 k01 k10 k11
    have fr0 := frozen_of_row _ _ 0 _ _ Y2
    have gr0 := cell_of_row _ _ 0 _ _ (0, 0) Y2
    have fr1 := frozen_of_row _ _ 1 _ _ Y2
    have gr1 := cell_of_row _ _ 1 _ _ (0, 0) Y2
    have fr2 := frozen_of_row _ _ 2 _ _ Y2
    have gr2 := cell_of_row _ _ 2 _ _ (0, 0) Y2
    clear hbw1 Y0 Y1 Y2 HV0
    clear hok0 HU0 HU1
    go_wp2_with fail
    refine bodyPost_ret (v := .agg #[.bool false, .slice none 0 0, .int .i64 1]) (results_cell_row Tryz.results36 _ _ (w.heap.size + 2) 41 _ (0, 0) _ rfl (got_set (g := w.heap.size + 2) _ _ _ Hw1.out.2.2.2) Tryz.underlying41 rfl (by kernel_rfl)) rfl ?_
    exact ⟨below_row (g := w.heap.size + 2) Hw1.out.1 (by omega) _ _ _, _, _, _, _, rfl, fun h => absurd h (by decide), fun _ => ⟨rfl, rfl, rfl, rfl⟩⟩
  | true =>
    cases hok1 : validI s1 ys with
    | false =>
      rw [if_neg (by simp)]
      go_enter Tryz.func36, Tryz.ntmps36
      go_upto_region 1 with fail
      rw [← hW]
      clear hW
      have hv0 := ref2Valid_any _ s0 xs W (HU0.out.1.below HW.out.1)
      rw [hok0] at hv0
      have HV0 := Lib.hid hv0
      clear hv0
      go_wp2_with fail
      refine HV0.out.mono ?_
      rintro e w1 ⟨rfl, hbw1⟩
      have Y0 := (hbw1.block _ (lt_of_block HW.out.2.1)).trans HW.out.2.1
      have Y1 := (hbw1.block _ (lt_of_block HW.out.2.2.1)).trans HW.out.2.2.1
      have Y2 := (hbw1.block _ (lt_of_block HW.out.2.2.2)).trans HW.out.2.2.2
      have Hw1 := Lib.hid (And.intro (HW.out.1.trans (hbw1.mono HW.out.1.size)) (And.intro Y0 (And.intro Y1 Y2)))
      clear k00 k01 k10 k11 fr0 fr1 fr2 gr0 gr1 gr2
      have k00 := cell_of_row _ _ 0 _ _ (0, 0) Y0
      have k01 := cell_of_row _ _ 1 _ _ (0, 0) Y0
      have k10 := cell_of_row _ _ 0 _ _ (0, 0) Y1
      have k11 := cell_of_row _ _ 1 _ _ (0, 0) Y1
      simp only [List.getElem?_toArray, List.getElem?_cons_zero, List.getElem?_cons_succ] at k00 k01 k10 k11
      have fr0 := frozen_of_row _ _ 0 _ _ Y2
      have gr0 := cell_of_row _ _ 0 _ _ (0, 0) Y2
      have fr1 := frozen_of_row _ _ 1 _ _ Y2
      have gr1 := cell_of_row _ _ 1 _ _ (0, 0) Y2
      have fr2 := frozen_of_row _ _ 2 _ _ Y2
      have gr2 := cell_of_row _ _ 2 _ _ (0, 0) Y2
      clear hbw1 Y0 Y1 Y2 HV0
      have hv1 := ref2Valid_any _ s1 ys w1 (HU1.out.1.below Hw1.out.1)
      rw [hok1] at hv1
      have HV1 := Lib.hid hv1
      clear hv1
      go_wp2_with fail
      refine HV1.out.mono ?_
      rintro e w2 ⟨rfl, hbw2⟩
      have Y0 := (hbw2.block _ (lt_of_block Hw1.out.2.1)).trans Hw1.out.2.1
      have Y1 := (hbw2.block _ (lt_of_block Hw1.out.2.2.1)).trans Hw1.out.2.2.1
      have Y2 := (hbw2.block _ (lt_of_block Hw1.out.2.2.2)).trans Hw1.out.2.2.2
      have Hw2 := Lib.hid (And.intro (Hw1.out.1.trans (hbw2.mono Hw1.out.1.size)) (And.intro Y0 (And.intro Y1 Y2)))
      clear k00 k01 k10 k11 fr0 fr1 fr2 gr0 gr1 gr2
      have k00 := cell_of_row _ _ 0 _ _ (0, 0) Y0
      have k01 := cell_of_row _ _ 1 _ _ (0, 0) Y0
      have k10 := cell_of_row _ _ 0 _ _ (0, 0) Y1
      have k11 := cell_of_row _ _ 1 _ _ (0, 0) Y1
      simp only [List.getElem?_toArray, List.getElem?_cons_zero, List.getElem?_cons_succ] at k00 k01 k10 k11
      have fr0 := frozen_of_row _ _ 0 _ _ Y2
      have gr0 := cell_of_row _ _ 0 _ _ (0, 0) Y2
      have fr1 := frozen_of_row _ _ 1 _ _ Y2
      have gr1 := cell_of_row _ _ 1 _ _ (0, 0) Y2
      have fr2 := frozen_of_row _ _ 2 _ _ Y2
      have gr2 := cell_of_row _ _ 2 _ _ (0, 0) Y2
      clear hbw2 Y0 Y1 Y2 HV1
      clear hok0 hok1 HU0 HU1
      go_wp2_with fail
      refine bodyPost_ret (v := .agg #[.bool false, .slice none 0 0, .int .i64 1]) (results_cell_row Tryz.results36 _ _ (w.heap.size + 2) 41 _ (0, 0) _ rfl (got_set (g := w.heap.size + 2) _ _ _ Hw2.out.2.2.2) Tryz.underlying41 rfl (by kernel_rfl)) rfl ?_
      exact ⟨below_row (g := w.heap.size + 2) Hw2.out.1 (by omega) _ _ _, _, _, _, _, rfl, fun h => absurd h (by decide), fun _ => ⟨rfl, rfl, rfl, rfl⟩⟩
    | true =>
      rw [if_pos (show (true && true) = true from rfl)]
      have ok0 := isI_of_ok (at_of HU0.out.1) HU0.out.2 hok0
      have ok1 := isI_of_ok (at_of HU1.out.1) HU1.out.2 hok1
      go_enter Tryz.func36, Tryz.ntmps36
      go_upto_region 1 with fail
      rw [← hW]
      clear hW
      have hv0 := ref2Valid_any _ s0 xs W (HU0.out.1.below HW.out.1)
      rw [hok0] at hv0
      have HV0 := Lib.hid hv0
      clear hv0
      go_wp2_with fail
      refine HV0.out.mono ?_
      rintro e w1 ⟨rfl, hbw1⟩
      have Y0 := (hbw1.block _ (lt_of_block HW.out.2.1)).trans HW.out.2.1
      have Y1 := (hbw1.block _ (lt_of_block HW.out.2.2.1)).trans HW.out.2.2.1
      have Y2 := (hbw1.block _ (lt_of_block HW.out.2.2.2)).trans HW.out.2.2.2
      have Hw1 := Lib.hid (And.intro (HW.out.1.trans (hbw1.mono HW.out.1.size)) (And.intro Y0 (And.intro Y1 Y2)))
      clear k00 k01 k10 k11 fr0 fr1 fr2 gr0 gr1 gr2
      have k00 := cell_of_row _ _ 0 _ _ (0, 0) Y0
      have k01 := cell_of_row _ _ 1 _ _ (0, 0) Y0
      have k10 := cell_of_row _ _ 0 _ _ (0, 0) Y1
      have k11 := cell_of_row _ _ 1 _ _ (0, 0) Y1
      simp only [List.getElem?_toArray, List.getElem?_cons_zero, List.getElem?_cons_succ] at k00 k01 k10 k11
      have fr0 := frozen_of_row _ _ 0 _ _ Y2
      have gr0 := cell_of_row _ _ 0 _ _ (0, 0) Y2
      have fr1 := frozen_of_row _ _ 1 _ _ Y2
      have gr1 := cell_of_row _ _ 1 _ _ (0, 0) Y2
      have fr2 := frozen_of_row _ _ 2 _ _ Y2
      have gr2 := cell_of_row _ _ 2 _ _ (0, 0) Y2
      clear hbw1 Y0 Y1 Y2 HV0
      have hv1 := ref2Valid_any _ s1 ys w1 (HU1.out.1.below Hw1.out.1)
      rw [hok1] at hv1
      have HV1 := Lib.hid hv1
      clear hv1
      go_wp2_with fail
      refine HV1.out.mono ?_
      rintro e w2 ⟨rfl, hbw2⟩
      have Y0 := (hbw2.block _ (lt_of_block Hw1.out.2.1)).trans Hw1.out.2.1
      have Y1 := (hbw2.block _ (lt_of_block Hw1.out.2.2.1)).trans Hw1.out.2.2.1
      have Y2 := (hbw2.block _ (lt_of_block Hw1.out.2.2.2)).trans Hw1.out.2.2.2
      have Hw2 := Lib.hid (And.intro (Hw1.out.1.trans (hbw2.mono Hw1.out.1.size)) (And.intro Y0 (And.intro Y1 Y2)))
      clear k00 k01 k10 k11 fr0 fr1 fr2 gr0 gr1 gr2
      have k00 := cell_of_row _ _ 0 _ _ (0, 0) Y0
      have k01 := cell_of_row _ _ 1 _ _ (0, 0) Y0
      have k10 := cell_of_row _ _ 0 _ _ (0, 0) Y1
      have k11 := cell_of_row _ _ 1 _ _ (0, 0) Y1
      simp only [List.getElem?_toArray, List.getElem?_cons_zero, List.getElem?_cons_succ] at k00 k01 k10 k11
      have fr0 := frozen_of_row _ _ 0 _ _ Y2
      have gr0 := cell_of_row _ _ 0 _ _ (0, 0) Y2
      have fr1 := frozen_of_row _ _ 1 _ _ Y2
      have gr1 := cell_of_row _ _ 1 _ _ (0, 0) Y2
      have fr2 := frozen_of_row _ _ 2 _ _ Y2
      have gr2 := cell_of_row _ _ 2 _ _ (0, 0) Y2
      clear hbw2 Y0 Y1 Y2 HV1
      have HP := Lib.hid (rplus_any _ _ _ _ w2 (ok0.1.below Hw2.out.1) (ok1.1.below Hw2.out.1) (lowI_of ok0.2) (lowI_of ok1.2))
      rw [← HNN.out] at HP
      clear ok0 ok1 hok0 hok1 HU0 HU1
      go_wp2_with fail
      refine HP.out.mono ?_
      rintro e w3 ⟨hb3, v3, rfl, hv3⟩
      have HL := Lib.hid (limited_law v3 nn w3 hv3)
      have H3 := Lib.hid hb3
      obtain ⟨q3, d3, rfl, -⟩ := AtI.form hv3
      clear hb3 hv3 HP
      go_wp2_with fail
      refine HL.out.mono ?_
      rintro e w4 ⟨hb4, s, p, l, c, rfl, hg4⟩
      have hb24 := H3.out.trans (hb4.mono H3.out.size)
      have Y := (hb24.block _ (lt_of_block Hw2.out.2.2.2)).trans Hw2.out.2.2.2
      clear fr0 fr1 fr2 gr0 gr1 gr2
      have fr0 := frozen_of_row _ _ 0 _ _ Y
      have fr1 := frozen_of_row _ _ 1 _ _ Y
      have fr2 := frozen_of_row _ _ 2 _ _ Y
      have gr0 := cell_of_row _ _ 0 _ _ (0, 0) Y
      have gr1 := cell_of_row _ _ 1 _ _ (0, 0) Y
      have gr2 := cell_of_row _ _ 2 _ _ (0, 0) Y
      have HZ := Lib.hid (And.intro Y (And.intro hg4 (Hw2.out.1.trans (hb24.mono Hw2.out.1.size))))
      obtain ⟨kk, hkk⟩ : ∃ kk, kk = codeI 0 nn := ⟨_, rfl⟩
      rw [← hkk] at HZ ⊢
      have HKK := Lib.hid hkk
      clear hb4 hb24 Y hg4 HL hkk
      go_wp2_with fail
      refine bodyPost_ret (v := .agg #[.bool s, .slice p l c, .int .i64 kk]) (results_cell_row Tryz.results36 _ _ (w.heap.size + 2) 41 _ (0, 0) _ rfl (got_set (g := w.heap.size + 2) _ _ _ HZ.out.1) Tryz.underlying41 rfl (by kernel_rfl)) rfl ?_
      show GotI w _ _ (codeI 0 nn) nn
      rw [← HKK.out]
      exact ⟨below_row (g := w.heap.size + 2) HZ.out.2.2 (by omega) _ _ _, _, _, _, _, rfl, fun h => isI_three (g := w.heap.size + 2) (HZ.out.2.1.1 h) HZ.out.1, HZ.out.2.1.2⟩

set_option maxHeartbeats 2000000 in
theorem rSub_any (v0 : Value) (s0 : Bool) (xs : List Nat) (v1 : Value) (s1 : Bool) (ys : List Nat) (w : World) (h0 : AtI w v0 s0 xs) (m0 : Nl.Small xs) (h1 : AtI w v1 s1 ys) (m1 : Nl.Small ys) :
    Calls Tryz.prog 37 #[v0, v1] w fun e w' => GotI w w' e (if (validI s0 xs && validI s1 ys) = true then codeI 0 ((sgn s0 (Nl.val xs)) - (sgn s1 (Nl.val ys))) else 1) ((sgn s0 (Nl.val xs)) - (sgn s1 (Nl.val ys))) := by
  obtain ⟨p0, c0, rfl, u0⟩ := h0.form
  obtain ⟨l0, hl0⟩ : ∃ l0, l0 = xs.length := ⟨_, rfl⟩
  rw [← hl0] at u0 h0 ⊢
  obtain ⟨p1, c1, rfl, u1⟩ := h1.form
  obtain ⟨l1, hl1⟩ : ∃ l1, l1 = ys.length := ⟨_, rfl⟩
  rw [← hl1] at u1 h1 ⊢
  obtain ⟨W, hW⟩ : ∃ W, W = ((w.alloc (.cells #[.bool s0, .slice p0 l0 c0] 25)).alloc (.cells #[.bool s1, .slice p1 l1 c1] 25)).alloc (.cells #[.bool false, .slice none 0 0, .int .i64 0] 41) := ⟨_, rfl⟩
  have hb : Below w.heap.size w W := by rw [hW]; exact three_new w _ _ _
  have B0 : W.heap[w.heap.size]? = some (.cells #[.bool s0, .slice p0 l0 c0] 25 (0, 0)) := by rw [hW]; exact al_keep _ _ (by simp <;> omega) (al_keep _ _ (by simp <;> omega) (al_at _ _ (by simp)))
  have B1 : W.heap[w.heap.size + 1]? = some (.cells #[.bool s1, .slice p1 l1 c1] 25 (0, 0)) := by rw [hW]; exact al_keep _ _ (by simp <;> omega) (al_at _ _ (by simp))
  have B2 : W.heap[w.heap.size + 2]? = some (.cells #[.bool false, .slice none 0 0, .int .i64 0] 41 (0, 0)) := by rw [hW]; exact al_at _ _ (by simp)
  have HB := Lib.hid (And.intro hb (And.intro B0 (And.intro B1 B2)))
  have HU0 := Lib.hid (And.intro h0 m0)
  have HU1 := Lib.hid (And.intro h1 m1)
  have k00 := cell_of_row _ _ 0 _ _ (0, 0) B0
  have k01 := cell_of_row _ _ 1 _ _ (0, 0) B0
  have k10 := cell_of_row _ _ 0 _ _ (0, 0) B1
  have k11 := cell_of_row _ _ 1 _ _ (0, 0) B1
  simp only [List.getElem?_toArray, List.getElem?_cons_zero, List.getElem?_cons_succ] at k00 k01 k10 k11
  have fr0 := frozen_of_row _ _ 0 _ _ B2
  have fr1 := frozen_of_row _ _ 1 _ _ B2
  have fr2 := frozen_of_row _ _ 2 _ _ B2
  have gr0 := cell_of_row _ _ 0 _ _ (0, 0) B2
  have gr1 := cell_of_row _ _ 1 _ _ (0, 0) B2
  have gr2 := cell_of_row _ _ 2 _ _ (0, 0) B2
  have HW := HB
  clear HB h0 u0 m0 hl0 h1 u1 m1 hl1 hb B0 B1 B2
  obtain ⟨nn, hnn⟩ : ∃ nn : Int, nn = (sgn s0 (Nl.val xs)) - (sgn s1 (Nl.val ys)) := ⟨_, rfl⟩
  rw [← hnn]
  have HNN := Lib.hid hnn
  clear hnn
  cases hok0 : validI s0 xs with
  | false =>
    rw [if_neg (by simp)]
    go_enter Tryz.func37, Tryz.ntmps37
    go_upto_region 1 with fail
    rw [← hW]
    clear hW
    have hv0 := ref2Valid_any _ s0 xs W (HU0.out.1.below HW.out.1)
    rw [hok0] at hv0
    have HV0 := Lib.hid hv0
    clear hv0
    go_wp2_with fail
    refine HV0.out.mono ?_
    rintro e w1 ⟨rfl, hbw1⟩
    have Y0 := (hbw1.block _ (lt_of_block HW.out.2.1)).trans HW.out.2.1
    have Y1 := (hbw1.block _ (lt_of_block HW.out.2.2.1)).trans HW.out.2.2.1
    have Y2 := (hbw1.block _ (lt_of_block HW.out.2.2.2)).trans HW.out.2.2.2
    have Hw1 := Lib.hid (And.intro (HW.out.1.trans (hbw1.mono HW.out.1.size)) (And.intro Y0 (And.intro Y1 Y2)))
    clear k00 k01 k10 k11 fr0 fr1 fr2 gr0 gr1 gr2
    have k00 := cell_of_row _ _ 0 _ _ (0, 0) Y0
    have k01 := cell_of_row _ _ 1 _ _ (0, 0) Y0
    have k10 := cell_of_row _ _ 0 _ _ (0, 0) Y1
    have k11 := cell_of_row _ _ 1 _ _ (0, 0) Y1
    simp only [List.getElem?_toArray, List.getElem?_cons_zero, List.getElem?_cons_succ] at k00 k01 k10 k11
    have fr0 := frozen_of_row _ _ 0 _ _ Y2
    have gr0 := cell_of_row _ _ 0 _ _ (0, 0) Y2
    have fr1 := frozen_of_row _ _ 1 _ _ Y2
    have gr1 := cell_of_row _ _ 1 _ _ (0, 0) Y2
    have fr2 := frozen_of_row _ _ 2 _ _ Y2
    have gr2 := cell_of_row _ _ 2 _ _ (0, 0) Y2
    clear hbw1 Y0 Y1 Y2 HV0
    clear hok0 HU0 HU1
    go_wp2_with fail
    refine bodyPost_ret (v := .agg #[.bool false, .slice none 0 0, .int .i64 1]) (results_cell_row Tryz.results37 _ _ (w.heap.size + 2) 41 _ (0, 0) _ rfl (got_set (g := w.heap.size + 2) _ _ _ Hw1.out.2.2.2) Tryz.underlying41 rfl (by kernel_rfl)) rfl ?_
    exact ⟨below_row (g := w.heap.size + 2) Hw1.out.1 (by omega) _ _ _, _, _, _, _, rfl, fun h => absurd h (by decide), fun _ => ⟨rfl, rfl, rfl, rfl⟩⟩
  | true =>
    cases hok1 : validI s1 ys with
    | false =>
      rw [if_neg (by simp)]
      go_enter Tryz.func37, Tryz.ntmps37
      go_upto_region 1 with fail
      rw [← hW]
      clear hW
      have hv0 := ref2Valid_any _ s0 xs W (HU0.out.1.below HW.out.1)
      rw [hok0] at hv0
      have HV0 := Lib.hid hv0
      clear hv0
      go_wp2_with fail
      refine HV0.out.mono ?_
      rintro e w1 ⟨rfl, hbw1⟩
      have Y0 := (hbw1.block _ (lt_of_block HW.out.2.1)).trans HW.out.2.1
      have Y1 := (hbw1.block _ (lt_of_block HW.out.2.2.1)).trans HW.out.2.2.1
      have Y2 := (hbw1.block _ (lt_of_block HW.out.2.2.2)).trans HW.out.2.2.2
      have Hw1 := Lib.hid (And.intro (HW.out.1.trans (hbw1.mono HW.out.1.size)) (And.intro Y0 (And.intro Y1 Y2)))
      clear k00 k01 k10 k11 fr0 fr1 fr2 gr0 gr1 gr2
      have k00 := cell_of_row _ _ 0 _ _ (0, 0) Y0
      have k01 := cell_of_row _ _ 1 _ _ (0, 0) Y0
      have k10 := cell_of_row _ _ 0 _ _ (0, 0) Y1
      have k11 := cell_of_row _ _ 1 _ _ (0, 0) Y1
      simp only [List.getElem?_toArray, List.getElem?_cons_zero, List.getElem?_cons_succ] at k00 k01 k10 k11
      have fr0 := frozen_of_row _ _ 0 _ _ Y2
      have gr0 := cell_of_row _ _ 0 _ _ (0, 0) Y2
      have fr1 := frozen_of_row _ _ 1 _ _ Y2
      have gr1 := cell_of_row _ _ 1 _ _ (0, 0) Y2
      have fr2 := frozen_of_row _ _ 2 _ _ Y2
      have gr2 := cell_of_row _ _ 2 _ _ (0, 0) Y2
      clear hbw1 Y0 Y1 Y2 HV0
      have hv1 := ref2Valid_any _ s1 ys w1 (HU1.out.1.below Hw1.out.1)
      rw [hok1] at hv1
      have HV1 := Lib.hid hv1
      clear hv1
      go_wp2_with fail
      refine HV1.out.mono ?_
      rintro e w2 ⟨rfl, hbw2⟩
      have Y0 := (hbw2.block _ (lt_of_block Hw1.out.2.1)).trans Hw1.out.2.1
      have Y1 := (hbw2.block _ (lt_of_block Hw1.out.2.2.1)).trans Hw1.out.2.2.1
      have Y2 := (hbw2.block _ (lt_of_block Hw1.out.2.2.2)).trans Hw1.out.2.2.2
      have Hw2 := Lib.hid (And.intro (Hw1.out.1.trans (hbw2.mono Hw1.out.1.size)) (And.intro Y0 (And.intro Y1 Y2)))
      clear k00 k01 k10 k11 fr0 fr1 fr2 gr0 gr1 gr2
      have k00 := cell_of_row _ _ 0 _ _ (0, 0) Y0
      have k01 := cell_of_row _ _ 1 _ _ (0, 0) Y0
      have k10 := cell_of_row _ _ 0 _ _ (0, 0) Y1
      have k11 := cell_of_row _ _ 1 _ _ (0, 0) Y1
      simp only [List.getElem?_toArray, List.getElem?_cons_zero, List.getElem?_cons_succ] at k00 k01 k10 k11
      have fr0 := frozen_of_row _ _ 0 _ _ Y2
      have gr0 := cell_of_row _ _ 0 _ _ (0, 0) Y2
      have fr1 := frozen_of_row _ _ 1 _ _ Y2
      have gr1 := cell_of_row _ _ 1 _ _ (0, 0) Y2
      have fr2 := frozen_of_row _ _ 2 _ _ Y2
      have gr2 := cell_of_row _ _ 2 _ _ (0, 0) Y2
      clear hbw2 Y0 Y1 Y2 HV1
      clear hok0 hok1 HU0 HU1
      go_wp2_with fail
      refine bodyPost_ret (v := .agg #[.bool false, .slice none 0 0, .int .i64 1]) (results_cell_row Tryz.results37 _ _ (w.heap.size + 2) 41 _ (0, 0) _ rfl (got_set (g := w.heap.size + 2) _ _ _ Hw2.out.2.2.2) Tryz.underlying41 rfl (by kernel_rfl)) rfl ?_
      exact ⟨below_row (g := w.heap.size + 2) Hw2.out.1 (by omega) _ _ _, _, _, _, _, rfl, fun h => absurd h (by decide), fun _ => ⟨rfl, rfl, rfl, rfl⟩⟩
    | true =>
      rw [if_pos (show (true && true) = true from rfl)]
      have ok0 := isI_of_ok (at_of HU0.out.1) HU0.out.2 hok0
      have ok1 := isI_of_ok (at_of HU1.out.1) HU1.out.2 hok1
      go_enter Tryz.func37, Tryz.ntmps37
      go_upto_region 1 with fail
      rw [← hW]
      clear hW
      have hv0 := ref2Valid_any _ s0 xs W (HU0.out.1.below HW.out.1)
      rw [hok0] at hv0
      have HV0 := Lib.hid hv0
      clear hv0
      go_wp2_with fail
      refine HV0.out.mono ?_
      rintro e w1 ⟨rfl, hbw1⟩
      have Y0 := (hbw1.block _ (lt_of_block HW.out.2.1)).trans HW.out.2.1
      have Y1 := (hbw1.block _ (lt_of_block HW.out.2.2.1)).trans HW.out.2.2.1
      have Y2 := (hbw1.block _ (lt_of_block HW.out.2.2.2)).trans HW.out.2.2.2
      have Hw1 := Lib.hid (And.intro (HW.out.1.trans (hbw1.mono HW.out.1.size)) (And.intro Y0 (And.intro Y1 Y2)))
      clear k00 k01 k10 k11 fr0 fr1 fr2 gr0 gr1 gr2
      have k00 := cell_of_row _ _ 0 _ _ (0, 0) Y0
      have k01 := cell_of_row _ _ 1 _ _ (0, 0) Y0
      have k10 := cell_of_row _ _ 0 _ _ (0, 0) Y1
      have k11 := cell_of_row _ _ 1 _ _ (0, 0) Y1
      simp only [List.getElem?_toArray, List.getElem?_cons_zero, List.getElem?_cons_succ] at k00 k01 k10 k11
      have fr0 := frozen_of_row _ _ 0 _ _ Y2
      have gr0 := cell_of_row _ _ 0 _ _ (0, 0) Y2
      have fr1 := frozen_of_row _ _ 1 _ _ Y2
      have gr1 := cell_of_row _ _ 1 _ _ (0, 0) Y2
      have fr2 := frozen_of_row _ _ 2 _ _ Y2
      have gr2 := cell_of_row _ _ 2 _ _ (0, 0) Y2
      clear hbw1 Y0 Y1 Y2 HV0
      have hv1 := ref2Valid_any _ s1 ys w1 (HU1.out.1.below Hw1.out.1)
      rw [hok1] at hv1
      have HV1 := Lib.hid hv1
      clear hv1
      go_wp2_with fail
      refine HV1.out.mono ?_
      rintro e w2 ⟨rfl, hbw2⟩
      have Y0 := (hbw2.block _ (lt_of_block Hw1.out.2.1)).trans Hw1.out.2.1
      have Y1 := (hbw2.block _ (lt_of_block Hw1.out.2.2.1)).trans Hw1.out.2.2.1
      have Y2 := (hbw2.block _ (lt_of_block Hw1.out.2.2.2)).trans Hw1.out.2.2.2
      have Hw2 := Lib.hid (And.intro (Hw1.out.1.trans (hbw2.mono Hw1.out.1.size)) (And.intro Y0 (And.intro Y1 Y2)))
      clear k00 k01 k10 k11 fr0 fr1 fr2 gr0 gr1 gr2
      have k00 := cell_of_row _ _ 0 _ _ (0, 0) Y0
      have k01 := cell_of_row _ _ 1 _ _ (0, 0) Y0
      have k10 := cell_of_row _ _ 0 _ _ (0, 0) Y1
      have k11 := cell_of_row _ _ 1 _ _ (0, 0) Y1
      simp only [List.getElem?_toArray, List.getElem?_cons_zero, List.getElem?_cons_succ] at k00 k01 k10 k11
      have fr0 := frozen_of_row _ _ 0 _ _ Y2
      have gr0 := cell_of_row _ _ 0 _ _ (0, 0) Y2
      have fr1 := frozen_of_row _ _ 1 _ _ Y2
      have gr1 := cell_of_row _ _ 1 _ _ (0, 0) Y2
      have fr2 := frozen_of_row _ _ 2 _ _ Y2
      have gr2 := cell_of_row _ _ 2 _ _ (0, 0) Y2
      clear hbw2 Y0 Y1 Y2 HV1
      have HP := Lib.hid (rminus_any _ _ _ _ w2 (ok0.1.below Hw2.out.1) (ok1.1.below Hw2.out.1) (lowI_of ok0.2) (lowI_of ok1.2))
      rw [← HNN.out] at HP
      clear ok0 ok1 hok0 hok1 HU0 HU1
      go_wp2_with fail
      refine HP.out.mono ?_
      rintro e w3 ⟨hb3, v3, rfl, hv3⟩
      have HL := Lib.hid (limited_law v3 nn w3 hv3)
      have H3 := Lib.hid hb3
      obtain ⟨q3, d3, rfl, -⟩ := AtI.form hv3
      clear hb3 hv3 HP
      go_wp2_with fail
      refine HL.out.mono ?_
      rintro e w4 ⟨hb4, s, p, l, c, rfl, hg4⟩
      have hb24 := H3.out.trans (hb4.mono H3.out.size)
      have Y := (hb24.block _ (lt_of_block Hw2.out.2.2.2)).trans Hw2.out.2.2.2
      clear fr0 fr1 fr2 gr0 gr1 gr2
      have fr0 := frozen_of_row _ _ 0 _ _ Y
      have fr1 := frozen_of_row _ _ 1 _ _ Y
      have fr2 := frozen_of_row _ _ 2 _ _ Y
      have gr0 := cell_of_row _ _ 0 _ _ (0, 0) Y
      have gr1 := cell_of_row _ _ 1 _ _ (0, 0) Y
      have gr2 := cell_of_row _ _ 2 _ _ (0, 0) Y
      have HZ := Lib.hid (And.intro Y (And.intro hg4 (Hw2.out.1.trans (hb24.mono Hw2.out.1.size))))
      obtain ⟨kk, hkk⟩ : ∃ kk, kk = codeI 0 nn := ⟨_, rfl⟩
      rw [← hkk] at HZ ⊢
      have HKK := Lib.hid hkk
      clear hb4 hb24 Y hg4 HL hkk
      go_wp2_with fail
      refine bodyPost_ret (v := .agg #[.bool s, .slice p l c, .int .i64 kk]) (results_cell_row Tryz.results37 _ _ (w.heap.size + 2) 41 _ (0, 0) _ rfl (got_set (g := w.heap.size + 2) _ _ _ HZ.out.1) Tryz.underlying41 rfl (by kernel_rfl)) rfl ?_
      show GotI w _ _ (codeI 0 nn) nn
      rw [← HKK.out]
      exact ⟨below_row (g := w.heap.size + 2) HZ.out.2.2 (by omega) _ _ _, _, _, _, _, rfl, fun h => isI_three (g := w.heap.size + 2) (HZ.out.2.1.1 h) HZ.out.1, HZ.out.2.1.2⟩

set_option maxHeartbeats 2000000 in
theorem rMul_any (v0 : Value) (s0 : Bool) (xs : List Nat) (v1 : Value) (s1 : Bool) (ys : List Nat) (w : World) (h0 : AtI w v0 s0 xs) (m0 : Nl.Small xs) (h1 : AtI w v1 s1 ys) (m1 : Nl.Small ys) :
    Calls Tryz.prog 38 #[v0, v1] w fun e w' => GotI w w' e (if (validI s0 xs && validI s1 ys) = true then codeI 0 ((sgn s0 (Nl.val xs)) * (sgn s1 (Nl.val ys))) else 1) ((sgn s0 (Nl.val xs)) * (sgn s1 (Nl.val ys))) := by
  obtain ⟨p0, c0, rfl, u0⟩ := h0.form
  obtain ⟨l0, hl0⟩ : ∃ l0, l0 = xs.length := ⟨_, rfl⟩
  rw [← hl0] at u0 h0 ⊢
  obtain ⟨p1, c1, rfl, u1⟩ := h1.form
  obtain ⟨l1, hl1⟩ : ∃ l1, l1 = ys.length := ⟨_, rfl⟩
  rw [← hl1] at u1 h1 ⊢
  obtain ⟨W, hW⟩ : ∃ W, W = ((w.alloc (.cells #[.bool s0, .slice p0 l0 c0] 25)).alloc (.cells #[.bool s1, .slice p1 l1 c1] 25)).alloc (.cells #[.bool false, .slice none 0 0, .int .i64 0] 41) := ⟨_, rfl⟩
  have hb : Below w.heap.size w W := by rw [hW]; exact three_new w _ _ _
  have B0 : W.heap[w.heap.size]? = some (.cells #[.bool s0, .slice p0 l0 c0] 25 (0, 0)) := by rw [hW]; exact al_keep _ _ (by simp <;> omega) (al_keep _ _ (by simp <;> omega) (al_at _ _ (by simp)))
  have B1 : W.heap[w.heap.size + 1]? = some (.cells #[.bool s1, .slice p1 l1 c1] 25 (0, 0)) := by rw [hW]; exact al_keep _ _ (by simp <;> omega) (al_at _ _ (by simp))
  have B2 : W.heap[w.heap.size + 2]? = some (.cells #[.bool false, .slice none 0 0, .int .i64 0] 41 (0, 0)) := by rw [hW]; exact al_at _ _ (by simp)
  have HB := Lib.hid (And.intro hb (And.intro B0 (And.intro B1 B2)))
  have HU0 := Lib.hid (And.intro h0 m0)
  have HU1 := Lib.hid (And.intro h1 m1)
  have k00 := cell_of_row _ _ 0 _ _ (0, 0) B0
  have k01 := cell_of_row _ _ 1 _ _ (0, 0) B0
  have k10 := cell_of_row _ _ 0 _ _ (0, 0) B1
  have k11 := cell_of_row _ _ 1 _ _ (0, 0) B1
  simp only [List.getElem?_toArray, List.getElem?_cons_zero, List.getElem?_cons_succ] at k00 k01 k10 k11
  have fr0 := frozen_of_row _ _ 0 _ _ B2
  have fr1 := frozen_of_row _ _ 1 _ _ B2
  have fr2 := frozen_of_row _ _ 2 _ _ B2
  have gr0 := cell_of_row _ _ 0 _ _ (0, 0) B2
  have gr1 := cell_of_row _ _ 1 _ _ (0, 0) B2
  have gr2 := cell_of_row _ _ 2 _ _ (0, 0) B2
  have HW := HB
  clear HB h0 u0 m0 hl0 h1 u1 m1 hl1 hb B0 B1 B2
  obtain ⟨nn, hnn⟩ : ∃ nn : Int, nn = (sgn s0 (Nl.val xs)) * (sgn s1 (Nl.val ys)) := ⟨_, rfl⟩
  rw [← hnn]
  have HNN := Lib.hid hnn
  clear hnn
  cases hok0 : validI s0 xs with
  | false =>
    rw [if_neg (by simp)]
    go_enter Tryz.func38, Tryz.ntmps38
    go_upto_region 1 with fail
    rw [← hW]
    clear hW
    have hv0 := ref2Valid_any _ s0 xs W (HU0.out.1.below HW.out.1)
    rw [hok0] at hv0
    have HV0 := Lib.hid hv0
    clear hv0
    go_wp2_with fail
    refine HV0.out.mono ?_
    rintro e w1 ⟨rfl, hbw1⟩
    have Y0 := (hbw1.block _ (lt_of_block HW.out.2.1)).trans HW.out.2.1
    have Y1 := (hbw1.block _ (lt_of_block HW.out.2.2.1)).trans HW.out.2.2.1
    have Y2 := (hbw1.block _ (lt_of_block HW.out.2.2.2)).trans HW.out.2.2.2
    have Hw1 := Lib.hid (And.intro (HW.out.1.trans (hbw1.mono HW.out.1.size)) (And.intro Y0 (And.intro Y1 Y2)))
    clear k00 k01 k10 k11 fr0 fr1 fr2 gr0 gr1 gr2
    have k00 := cell_of_row _ _ 0 _ _ (0, 0) Y0
    have k01 := cell_of_row _ _ 1 _ _ (0, 0) Y0
    have k10 := cell_of_row _ _ 0 _ _ (0, 0) Y1
    have k11 := cell_of_row _ _ 1 _ _ (0, 0) Y1
    simp only [List.getElem?_toArray, List.getElem?_cons_zero, List.getElem?_cons_succ] at k00 k01 k10 k11
    have fr0 := frozen_of_row _ _ 0 _ _ Y2
    have gr0 := cell_of_row _ _ 0 _ _ (0, 0) Y2
    have fr1 := frozen_of_row _ _ 1 _ _ Y2
    have gr1 := cell_of_row _ _ 1 _ _ (0, 0) Y2
    have fr2 := frozen_of_row _ _ 2 _ _ Y2
    have gr2 := cell_of_row _ _ 2 _ _ (0, 0) Y2
    clear hbw1 Y0 Y1 Y2 HV0
    clear hok0 HU0 HU1
    go_wp2_with fail
    refine bodyPost_ret (v := .agg #[.bool false, .slice none 0 0, .int .i64 1]) (results_cell_row Tryz.results38 _ _ (w.heap.size + 2) 41 _ (0, 0) _ rfl (got_set (g := w.heap.size + 2) _ _ _ Hw1.out.2.2.2) Tryz.underlying41 rfl (by kernel_rfl)) rfl ?_
    exact ⟨below_row (g := w.heap.size + 2) Hw1.out.1 (by omega) _ _ _, _, _, _, _, rfl, fun h => absurd h (by decide), fun _ => ⟨rfl, rfl, rfl, rfl⟩⟩
  | true =>
    cases hok1 : validI s1 ys with
    | false =>
      rw [if_neg (by simp)]
      go_enter Tryz.func38, Tryz.ntmps38
      go_upto_region 1 with fail
      rw [← hW]
      clear hW
      have hv0 := ref2Valid_any _ s0 xs W (HU0.out.1.below HW.out.1)
      rw [hok0] at hv0
      have HV0 := Lib.hid hv0
      clear hv0
      go_wp2_with fail
      refine HV0.out.mono ?_
      rintro e w1 ⟨rfl, hbw1⟩
      have Y0 := (hbw1.block _ (lt_of_block HW.out.2.1)).trans HW.out.2.1
      have Y1 := (hbw1.block _ (lt_of_block HW.out.2.2.1)).trans HW.out.2.2.1
      have Y2 := (hbw1.block _ (lt_of_block HW.out.2.2.2)).trans HW.out.2.2.2
      have Hw1 := Lib.hid (And.intro (HW.out.1.trans (hbw1.mono HW.out.1.size)) (And.intro Y0 (And.intro Y1 Y2)))
      clear k00 k01 k10 k11 fr0 fr1 fr2 gr0 gr1 gr2
      have k00 := cell_of_row _ _ 0 _ _ (0, 0) Y0
      have k01 := cell_of_row _ _ 1 _ _ (0, 0) Y0
      have k10 := cell_of_row _ _ 0 _ _ (0, 0) Y1
      have k11 := cell_of_row _ _ 1 _ _ (0, 0) Y1
      simp only [List.getElem?_toArray, List.getElem?_cons_zero, List.getElem?_cons_succ] at k00 k01 k10 k11
      have fr0 := frozen_of_row _ _ 0 _ _ Y2
      have gr0 := cell_of_row _ _ 0 _ _ (0, 0) Y2
      have fr1 := frozen_of_row _ _ 1 _ _ Y2
      have gr1 := cell_of_row _ _ 1 _ _ (0, 0) Y2
      have fr2 := frozen_of_row _ _ 2 _ _ Y2
      have gr2 := cell_of_row _ _ 2 _ _ (0, 0) Y2
      clear hbw1 Y0 Y1 Y2 HV0
      have hv1 := ref2Valid_any _ s1 ys w1 (HU1.out.1.below Hw1.out.1)
      rw [hok1] at hv1
      have HV1 := Lib.hid hv1
      clear hv1
      go_wp2_with fail
      refine HV1.out.mono ?_
      rintro e w2 ⟨rfl, hbw2⟩
      have Y0 := (hbw2.block _ (lt_of_block Hw1.out.2.1)).trans Hw1.out.2.1
      have Y1 := (hbw2.block _ (lt_of_block Hw1.out.2.2.1)).trans Hw1.out.2.2.1
      have Y2 := (hbw2.block _ (lt_of_block Hw1.out.2.2.2)).trans Hw1.out.2.2.2
      have Hw2 := Lib.hid (And.intro (Hw1.out.1.trans (hbw2.mono Hw1.out.1.size)) (And.intro Y0 (And.intro Y1 Y2)))
      clear k00 k01 k10 k11 fr0 fr1 fr2 gr0 gr1 gr2
      have k00 := cell_of_row _ _ 0 _ _ (0, 0) Y0
      have k01 := cell_of_row _ _ 1 _ _ (0, 0) Y0
      have k10 := cell_of_row _ _ 0 _ _ (0, 0) Y1
      have k11 := cell_of_row _ _ 1 _ _ (0, 0) Y1
      simp only [List.getElem?_toArray, List.getElem?_cons_zero, List.getElem?_cons_succ] at k00 k01 k10 k11
      have fr0 := frozen_of_row _ _ 0 _ _ Y2
      have gr0 := cell_of_row _ _ 0 _ _ (0, 0) Y2
      have fr1 := frozen_of_row _ _ 1 _ _ Y2
      have gr1 := cell_of_row _ _ 1 _ _ (0, 0) Y2
      have fr2 := frozen_of_row _ _ 2 _ _ Y2
      have gr2 := cell_of_row _ _ 2 _ _ (0, 0) Y2
      clear hbw2 Y0 Y1 Y2 HV1
      clear hok0 hok1 HU0 HU1
      go_wp2_with fail
      refine bodyPost_ret (v := .agg #[.bool false, .slice none 0 0, .int .i64 1]) (results_cell_row Tryz.results38 _ _ (w.heap.size + 2) 41 _ (0, 0) _ rfl (got_set (g := w.heap.size + 2) _ _ _ Hw2.out.2.2.2) Tryz.underlying41 rfl (by kernel_rfl)) rfl ?_
      exact ⟨below_row (g := w.heap.size + 2) Hw2.out.1 (by omega) _ _ _, _, _, _, _, rfl, fun h => absurd h (by decide), fun _ => ⟨rfl, rfl, rfl, rfl⟩⟩
    | true =>
      rw [if_pos (show (true && true) = true from rfl)]
      have ok0 := isI_of_ok (at_of HU0.out.1) HU0.out.2 hok0
      have ok1 := isI_of_ok (at_of HU1.out.1) HU1.out.2 hok1
      go_enter Tryz.func38, Tryz.ntmps38
      go_upto_region 1 with fail
      rw [← hW]
      clear hW
      have hv0 := ref2Valid_any _ s0 xs W (HU0.out.1.below HW.out.1)
      rw [hok0] at hv0
      have HV0 := Lib.hid hv0
      clear hv0
      go_wp2_with fail
      refine HV0.out.mono ?_
      rintro e w1 ⟨rfl, hbw1⟩
      have Y0 := (hbw1.block _ (lt_of_block HW.out.2.1)).trans HW.out.2.1
      have Y1 := (hbw1.block _ (lt_of_block HW.out.2.2.1)).trans HW.out.2.2.1
      have Y2 := (hbw1.block _ (lt_of_block HW.out.2.2.2)).trans HW.out.2.2.2
      have Hw1 := Lib.hid (And.intro (HW.out.1.trans (hbw1.mono HW.out.1.size)) (And.intro Y0 (And.intro Y1 Y2)))
      clear k00 k01 k10 k11 fr0 fr1 fr2 gr0 gr1 gr2
      have k00 := cell_of_row _ _ 0 _ _ (0, 0) Y0
      have k01 := cell_of_row _ _ 1 _ _ (0, 0) Y0
      have k10 := cell_of_row _ _ 0 _ _ (0, 0) Y1
      have k11 := cell_of_row _ _ 1 _ _ (0, 0) Y1
      simp only [List.getElem?_toArray, List.getElem?_cons_zero, List.getElem?_cons_succ] at k00 k01 k10 k11
      have fr0 := frozen_of_row _ _ 0 _ _ Y2
      have gr0 := cell_of_row _ _ 0 _ _ (0, 0) Y2
      have fr1 := frozen_of_row _ _ 1 _ _ Y2
      have gr1 := cell_of_row _ _ 1 _ _ (0, 0) Y2
      have fr2 := frozen_of_row _ _ 2 _ _ Y2
      have gr2 := cell_of_row _ _ 2 _ _ (0, 0) Y2
      clear hbw1 Y0 Y1 Y2 HV0
      have hv1 := ref2Valid_any _ s1 ys w1 (HU1.out.1.below Hw1.out.1)
      rw [hok1] at hv1
      have HV1 := Lib.hid hv1
      clear hv1
      go_wp2_with fail
      refine HV1.out.mono ?_
      rintro e w2 ⟨rfl, hbw2⟩
      have Y0 := (hbw2.block _ (lt_of_block Hw1.out.2.1)).trans Hw1.out.2.1
      have Y1 := (hbw2.block _ (lt_of_block Hw1.out.2.2.1)).trans Hw1.out.2.2.1
      have Y2 := (hbw2.block _ (lt_of_block Hw1.out.2.2.2)).trans Hw1.out.2.2.2
      have Hw2 := Lib.hid (And.intro (Hw1.out.1.trans (hbw2.mono Hw1.out.1.size)) (And.intro Y0 (And.intro Y1 Y2)))
      clear k00 k01 k10 k11 fr0 fr1 fr2 gr0 gr1 gr2
      have k00 := cell_of_row _ _ 0 _ _ (0, 0) Y0
      have k01 := cell_of_row _ _ 1 _ _ (0, 0) Y0
      have k10 := cell_of_row _ _ 0 _ _ (0, 0) Y1
      have k11 := cell_of_row _ _ 1 _ _ (0, 0) Y1
      simp only [List.getElem?_toArray, List.getElem?_cons_zero, List.getElem?_cons_succ] at k00 k01 k10 k11
      have fr0 := frozen_of_row _ _ 0 _ _ Y2
      have gr0 := cell_of_row _ _ 0 _ _ (0, 0) Y2
      have fr1 := frozen_of_row _ _ 1 _ _ Y2
      have gr1 := cell_of_row _ _ 1 _ _ (0, 0) Y2
      have fr2 := frozen_of_row _ _ 2 _ _ Y2
      have gr2 := cell_of_row _ _ 2 _ _ (0, 0) Y2
      clear hbw2 Y0 Y1 Y2 HV1
      have HP := Lib.hid (rtimes_any _ _ _ _ w2 (ok0.1.below Hw2.out.1) (ok1.1.below Hw2.out.1) (lowI_of ok0.2) (lowI_of ok1.2))
      rw [← HNN.out] at HP
      clear ok0 ok1 hok0 hok1 HU0 HU1
      go_wp2_with fail
      refine HP.out.mono ?_
      rintro e w3 ⟨hb3, v3, rfl, hv3⟩
      have HL := Lib.hid (limited_law v3 nn w3 hv3)
      have H3 := Lib.hid hb3
      obtain ⟨q3, d3, rfl, -⟩ := AtI.form hv3
      clear hb3 hv3 HP
      go_wp2_with fail
      refine HL.out.mono ?_
      rintro e w4 ⟨hb4, s, p, l, c, rfl, hg4⟩
      have hb24 := H3.out.trans (hb4.mono H3.out.size)
      have Y := (hb24.block _ (lt_of_block Hw2.out.2.2.2)).trans Hw2.out.2.2.2
      clear fr0 fr1 fr2 gr0 gr1 gr2
      have fr0 := frozen_of_row _ _ 0 _ _ Y
      have fr1 := frozen_of_row _ _ 1 _ _ Y
      have fr2 := frozen_of_row _ _ 2 _ _ Y
      have gr0 := cell_of_row _ _ 0 _ _ (0, 0) Y
      have gr1 := cell_of_row _ _ 1 _ _ (0, 0) Y
      have gr2 := cell_of_row _ _ 2 _ _ (0, 0) Y
      have HZ := Lib.hid (And.intro Y (And.intro hg4 (Hw2.out.1.trans (hb24.mono Hw2.out.1.size))))
      obtain ⟨kk, hkk⟩ : ∃ kk, kk = codeI 0 nn := ⟨_, rfl⟩
      rw [← hkk] at HZ ⊢
      have HKK := Lib.hid hkk
      clear hb4 hb24 Y hg4 HL hkk
      go_wp2_with fail
      refine bodyPost_ret (v := .agg #[.bool s, .slice p l c, .int .i64 kk]) (results_cell_row Tryz.results38 _ _ (w.heap.size + 2) 41 _ (0, 0) _ rfl (got_set (g := w.heap.size + 2) _ _ _ HZ.out.1) Tryz.underlying41 rfl (by kernel_rfl)) rfl ?_
      show GotI w _ _ (codeI 0 nn) nn
      rw [← HKK.out]
      exact ⟨below_row (g := w.heap.size + 2) HZ.out.2.2 (by omega) _ _ _, _, _, _, _, rfl, fun h => isI_three (g := w.heap.size + 2) (HZ.out.2.1.1 h) HZ.out.1, HZ.out.2.1.2⟩

set_option maxHeartbeats 2000000 in
theorem rNeg_any (v0 : Value) (s0 : Bool) (xs : List Nat) (w : World) (h0 : AtI w v0 s0 xs) (m0 : Nl.Small xs) :
    Calls Tryz.prog 35 #[v0] w fun e w' => GotI w w' e (if (validI s0 xs) = true then codeI 0 (-(sgn s0 (Nl.val xs))) else 1) (-(sgn s0 (Nl.val xs))) := by
  obtain ⟨p0, c0, rfl, u0⟩ := h0.form
  obtain ⟨l0, hl0⟩ : ∃ l0, l0 = xs.length := ⟨_, rfl⟩
  rw [← hl0] at u0 h0 ⊢
  obtain ⟨W, hW⟩ : ∃ W, W = (w.alloc (.cells #[.bool s0, .slice p0 l0 c0] 25)).alloc (.cells #[.bool false, .slice none 0 0, .int .i64 0] 41) := ⟨_, rfl⟩
  have hb : Below w.heap.size w W := by rw [hW]; exact two_new w _ _
  have B0 : W.heap[w.heap.size]? = some (.cells #[.bool s0, .slice p0 l0 c0] 25 (0, 0)) := by rw [hW]; exact al_keep _ _ (by simp <;> omega) (al_at _ _ (by simp))
  have B1 : W.heap[w.heap.size + 1]? = some (.cells #[.bool false, .slice none 0 0, .int .i64 0] 41 (0, 0)) := by rw [hW]; exact al_at _ _ (by simp)
  have HB := Lib.hid (And.intro hb (And.intro B0 B1))
  have HU0 := Lib.hid (And.intro h0 m0)
  have k00 := cell_of_row _ _ 0 _ _ (0, 0) B0
  have k01 := cell_of_row _ _ 1 _ _ (0, 0) B0
  simp only [List.getElem?_toArray, List.getElem?_cons_zero, List.getElem?_cons_succ] at k00 k01
  have fr0 := frozen_of_row _ _ 0 _ _ B1
  have fr1 := frozen_of_row _ _ 1 _ _ B1
  have fr2 := frozen_of_row _ _ 2 _ _ B1
  have gr0 := cell_of_row _ _ 0 _ _ (0, 0) B1
  have gr1 := cell_of_row _ _ 1 _ _ (0, 0) B1
  have gr2 := cell_of_row _ _ 2 _ _ (0, 0) B1
  have HW := HB
  clear HB h0 u0 m0 hl0 hb B0 B1
  obtain ⟨nn, hnn⟩ : ∃ nn : Int, nn = -(sgn s0 (Nl.val xs)) := ⟨_, rfl⟩
  rw [← hnn]
  have HNN := Lib.hid hnn
  clear hnn
  cases hok0 : validI s0 xs with
  | false =>
    rw [if_neg (by decide)]
    go_enter Tryz.func35, Tryz.ntmps35
    go_upto_region 1 with fail
    rw [← hW]
    clear hW
    have hv0 := ref2Valid_any _ s0 xs W (HU0.out.1.below HW.out.1)
    rw [hok0] at hv0
    have HV0 := Lib.hid hv0
    clear hv0
    go_wp2_with fail
    refine HV0.out.mono ?_
    rintro e w1 ⟨rfl, hbw1⟩
    have Y0 := (hbw1.block _ (lt_of_block HW.out.2.1)).trans HW.out.2.1
    have Y1 := (hbw1.block _ (lt_of_block HW.out.2.2)).trans HW.out.2.2
    have Hw1 := Lib.hid (And.intro (HW.out.1.trans (hbw1.mono HW.out.1.size)) (And.intro Y0 Y1))
    clear k00 k01 fr0 fr1 fr2 gr0 gr1 gr2
    have k00 := cell_of_row _ _ 0 _ _ (0, 0) Y0
    have k01 := cell_of_row _ _ 1 _ _ (0, 0) Y0
    simp only [List.getElem?_toArray, List.getElem?_cons_zero, List.getElem?_cons_succ] at k00 k01
    have fr0 := frozen_of_row _ _ 0 _ _ Y1
    have gr0 := cell_of_row _ _ 0 _ _ (0, 0) Y1
    have fr1 := frozen_of_row _ _ 1 _ _ Y1
    have gr1 := cell_of_row _ _ 1 _ _ (0, 0) Y1
    have fr2 := frozen_of_row _ _ 2 _ _ Y1
    have gr2 := cell_of_row _ _ 2 _ _ (0, 0) Y1
    clear hbw1 Y0 Y1 HV0
    clear hok0 HU0
    go_wp2_with fail
    refine bodyPost_ret (v := .agg #[.bool false, .slice none 0 0, .int .i64 1]) (results_cell_row Tryz.results35 _ _ (w.heap.size + 1) 41 _ (0, 0) _ rfl (got_set (g := w.heap.size + 1) _ _ _ Hw1.out.2.2) Tryz.underlying41 rfl (by kernel_rfl)) rfl ?_
    exact ⟨below_row (g := w.heap.size + 1) Hw1.out.1 (by omega) _ _ _, _, _, _, _, rfl, fun h => absurd h (by decide), fun _ => ⟨rfl, rfl, rfl, rfl⟩⟩
  | true =>
    rw [if_pos rfl]
    have ok0 := isI_of_ok (at_of HU0.out.1) HU0.out.2 hok0
    go_enter Tryz.func35, Tryz.ntmps35
    go_upto_region 1 with fail
    rw [← hW]
    clear hW
    have hv0 := ref2Valid_any _ s0 xs W (HU0.out.1.below HW.out.1)
    rw [hok0] at hv0
    have HV0 := Lib.hid hv0
    clear hv0
    go_wp2_with fail
    refine HV0.out.mono ?_
    rintro e w1 ⟨rfl, hbw1⟩
    have Y0 := (hbw1.block _ (lt_of_block HW.out.2.1)).trans HW.out.2.1
    have Y1 := (hbw1.block _ (lt_of_block HW.out.2.2)).trans HW.out.2.2
    have Hw1 := Lib.hid (And.intro (HW.out.1.trans (hbw1.mono HW.out.1.size)) (And.intro Y0 Y1))
    clear k00 k01 fr0 fr1 fr2 gr0 gr1 gr2
    have k00 := cell_of_row _ _ 0 _ _ (0, 0) Y0
    have k01 := cell_of_row _ _ 1 _ _ (0, 0) Y0
    simp only [List.getElem?_toArray, List.getElem?_cons_zero, List.getElem?_cons_succ] at k00 k01
    have fr0 := frozen_of_row _ _ 0 _ _ Y1
    have gr0 := cell_of_row _ _ 0 _ _ (0, 0) Y1
    have fr1 := frozen_of_row _ _ 1 _ _ Y1
    have gr1 := cell_of_row _ _ 1 _ _ (0, 0) Y1
    have fr2 := frozen_of_row _ _ 2 _ _ Y1
    have gr2 := cell_of_row _ _ 2 _ _ (0, 0) Y1
    clear hbw1 Y0 Y1 HV0
    have HP := Lib.hid (ref2Opposite_any _ _ w1 (ok0.1.below Hw1.out.1) (Nat.le_trans ok0.2 (by decide)))
    have HF := Lib.hid (show codeI 0 nn = 0 from codeI_fit (by rw [HNN.out, fitI, show (-(sgn s0 (Nl.val xs))).natAbs = (sgn s0 (Nl.val xs)).natAbs by omega]; exact ok0.2))
    rw [← HNN.out] at HP
    clear ok0 hok0 HU0
    go_wp2_with fail
    refine HP.out.mono ?_
    rintro e w4 ⟨⟨v3, rfl, hv3⟩, hb4⟩
    obtain ⟨q3, d3, rfl, -⟩ := AtI.form hv3
    have Y := (hb4.block _ (lt_of_block Hw1.out.2.2)).trans Hw1.out.2.2
    clear fr0 fr1 fr2 gr0 gr1 gr2
    have fr0 := frozen_of_row _ _ 0 _ _ Y
    have fr1 := frozen_of_row _ _ 1 _ _ Y
    have fr2 := frozen_of_row _ _ 2 _ _ Y
    have gr0 := cell_of_row _ _ 0 _ _ (0, 0) Y
    have gr1 := cell_of_row _ _ 1 _ _ (0, 0) Y
    have gr2 := cell_of_row _ _ 2 _ _ (0, 0) Y
    have HZ := Lib.hid (And.intro Y (And.intro hv3 (Hw1.out.1.trans (hb4.mono Hw1.out.1.size))))
    obtain ⟨ll, hll⟩ : ∃ ll, ll = (Nl.limbs nn.natAbs).length := ⟨_, rfl⟩
    obtain ⟨sn, hsn⟩ : ∃ sn, sn = negB nn := ⟨_, rfl⟩
    rw [← hll, ← hsn] at HZ ⊢
    clear hb4 Y hv3 HP hll hsn
    go_wp2_with fail
    refine bodyPost_ret (v := .agg #[.bool sn, .slice q3 ll d3, .int .i64 0]) (results_cell_row Tryz.results35 _ _ (w.heap.size + 1) 41 _ (0, 0) _ rfl (got_set (g := w.heap.size + 1) _ _ _ HZ.out.1) Tryz.underlying41 rfl (by kernel_rfl)) rfl ?_
    show GotI w _ _ (codeI 0 nn) nn
    rw [HF.out]
    exact ⟨below_row (g := w.heap.size + 1) HZ.out.2.2 (by omega) _ _ _, _, _, _, _, rfl, fun _ => isI_three (g := w.heap.size + 1) HZ.out.2.1 HZ.out.1, fun h => absurd rfl h⟩

end Go.Proofs.YtodjncohhgknlaaGreat
