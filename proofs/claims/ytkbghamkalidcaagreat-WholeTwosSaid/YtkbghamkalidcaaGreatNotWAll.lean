/-
  The law's bit: the bit of an integer at a place. Written by wip/tool/genbit.py. Conditions: those that each theorem names.
  What Not of package whole does where the result fits. Written by wip/tool/genops2.py. Conditions: those that each theorem names.
-/
import Derived.Test.YtkbghamkalidcaaGreatBitMAll
import Derived.Test.YtkbghamkalidcaaGreatToIntXAll
import Derived.Test.YtkbghamkalidcaaGreatOpsLAll
import Derived.Deep.Cut
import Derived.Test.YtkbghamkalidcaaGreatNotIAll
namespace Go.Proofs.YtkbghamkalidcaaGreat
open Go.RowKit

theorem bit_rest (S : Int) : divR 2 S 2 = ((Nl.low S 2 : Nat) : Int) ∧ (divR 2 S 2).natAbs ≤ 1 := by
  have h1 := divR_eq 2 S 2 (by decide)
  have h2 := divR_less 2 S 2 (by decide)
  have h3 : 0 ≤ divR 2 S 2 := by
    by_cases h : divR 2 S 2 = 0
    · omega
    · have h4 := divR_down_way S 2 (by decide) h
      rw [show negB (2 : Int) = false from rfl, negB] at h4
      have := of_decide_eq_false h4; omega
  obtain ⟨r, hr⟩ : ∃ r, r = divR 2 S 2 := ⟨_, rfl⟩
  obtain ⟨q, hq⟩ : ∃ q, q = divQ 2 S 2 := ⟨_, rfl⟩
  rw [← hr] at h1 h2 h3 ⊢
  rw [← hq] at h1
  have h5 : (2 : Int).natAbs = 2 := rfl
  rw [h5] at h2
  refine ⟨?_, by omega⟩
  rw [Nl.low_of (a := S) (P := 2) (v := r.toNat) (by omega) q (by omega)]; omega
theorem len_floor (a : Int) (n : Nat) {k : Nat} (la : (Nl.limbs a.natAbs).length ≤ k) : (Nl.limbs (a / ((2 ^ n : Nat) : Int)).natAbs).length ≤ k := by
  refine Nat.le_trans (Nl.limbs_mono ?_) la
  have hp := Nat.two_pow_pos n
  obtain ⟨P, hP⟩ : ∃ P, P = 2 ^ n := ⟨_, rfl⟩
  rw [← hP] at hp ⊢
  exact Int.natAbs_ediv_le_natAbs a P
theorem wShift_down (va : Value) (a : Int) (n : Nat) (w : World) (ha : IsI w va a) (la : (Nl.limbs a.natAbs).length ≤ 900) (h2 : n ≤ 2000) :
    Calls Tryz.prog 23 #[va, .int .i64 (-(n : Int))] w fun e w' => (∃ s p l c, e = .returned (.tuple #[.agg #[.bool s, .slice p l c], .int .i64 0]) ∧ IsI w' (.agg #[.bool s, .slice p l c]) (a / ((2 ^ n : Nat) : Int))) ∧ Below w.heap.size w w' := by
  have hw := wholeShift_down va (negB a) (Nl.limbs a.natAbs) n w ha (Nl.limbs_small _) h2 (by rw [sgn_val]; exact la)
  rw [sgn_val] at hw
  refine hw.mono ?_
  rintro e w' ⟨c, hc, ⟨v, rfl, h3, h4⟩, hb⟩
  rw [if_pos (validI_of (Nat.le_trans la (by decide))), codeI_fit (show fitI _ from len_floor a n (Nat.le_trans la (by decide)))] at hc
  subst hc
  obtain ⟨p, cp, rfl, hu⟩ := (h3 rfl).form
  exact ⟨⟨_, _, _, _, rfl, h3 rfl⟩, hb⟩
theorem toInt_small (va : Value) (n : Int) (w : World) (ha : IsI w va n) (hn : n.natAbs ≤ 1) :
    Calls Tryz.prog 53 #[va] w fun e w' => e = .returned (.tuple #[.int .i64 n, .int .i64 0]) ∧ Below w.heap.size w w' := by
  have hl : (Nl.limbs n.natAbs).length ≤ 1 := Nl.limbs_lt (Nat.lt_of_le_of_lt hn (by decide))
  have hw := wholeToInt_anyX va (negB n) (Nl.limbs n.natAbs) w ha (Nl.limbs_small _)
  rw [sgn_val, validI_of (Nat.le_trans hl (by decide)), intKX, if_pos (show isInt n from ⟨by omega, by omega⟩)] at hw
  refine hw.mono ?_
  rintro e w' ⟨c, rfl, rfl, hb⟩
  exact ⟨rfl, hb⟩
set_option maxRecDepth 10000 in
set_option maxHeartbeats 16000000 in
theorem bit_law (va : Value) (a : Int) (t : Nat) (w : World) (ha : IsI w va a) (la : (Nl.limbs a.natAbs).length ≤ 100) (ht : t ≤ 2000) :
    Calls Tryz.prog 19 #[va, .int .i64 t] w fun e w' => e = .returned (.int .i64 ((Nl.bitI a t : Nat) : Int)) ∧ Below w.heap.size w w' := by
  obtain ⟨pa, ca, rfl, ua⟩ := ha.form
  obtain ⟨l0, hl0⟩ : ∃ l0, l0 = (Nl.limbs a.natAbs).length := ⟨_, rfl⟩
  rw [← hl0] at ha ⊢
  obtain ⟨s0, hs0⟩ : ∃ s0, s0 = negB a := ⟨_, rfl⟩
  rw [← hs0] at ha ⊢
  obtain ⟨W, hW⟩ : ∃ W, W = w.alloc (.cells #[.bool s0, .slice pa l0 ca] 25) := ⟨_, rfl⟩
  have hb : Below w.heap.size w W := by rw [hW]; exact below_one w _
  have hP : W.heap[w.heap.size]? = some (.cells #[.bool s0, .slice pa l0 ca] 25 (0, 0)) := by rw [hW]; exact heap_alloc_new _ _
  have c0 := cell_of_row _ _ 0 _ _ (0, 0) hP
  have c1 := cell_of_row _ _ 1 _ _ (0, 0) hP
  simp only [List.getElem?_toArray, List.getElem?_cons_zero, List.getElem?_cons_succ] at c0 c1
  have HC := Lib.hid (wShift_down _ a t W (ha.below hb) (Nat.le_trans la (by decide)) ht)
  have HB := Lib.hid hb
  have LA := Lib.hid la
  rw [hW] at c0 c1
  clear ha ua hl0 hs0 hb hP la
  go_enter Tryz.func19, Tryz.ntmps19
  go_wp2_with fail
  rw [← hW]
  clear hW c0 c1
  refine HC.out.mono ?_
  rintro e w1 ⟨⟨ss, ps, ls, cs, rfl, hi⟩, hb1⟩
  obtain ⟨S, hS⟩ : ∃ S, S = a / ((2 ^ t : Nat) : Int) := ⟨_, rfl⟩
  rw [← hS] at hi
  obtain ⟨Z, hZ⟩ : ∃ Z, Z = w1.alloc (.cells #[.bool ss, .slice ps ls cs] 25) := ⟨_, rfl⟩
  have hz : Below w1.heap.size w1 Z := by rw [hZ]; exact below_one _ _
  have Rs : Z.heap[w1.heap.size]? = some (.cells #[.bool ss, .slice ps ls cs] 25 (0, 0)) := by rw [hZ]; exact al_at _ _ rfl
  have Vs := Lib.hid (Kept.mk Rs (AtI.below hi hz))
  have HBZ := Lib.hid (HB.out.trans ((hb1.trans (hz.mono hb1.size)).mono HB.out.size))
  have HS := Lib.hid (And.intro hS (show (Nl.limbs S.natAbs).length ≤ 900 by rw [hS]; exact Nat.le_trans (len_floor a t (Nat.le_trans LA.out (by decide : 100 ≤ 900))) (by decide)))
  clear hS hi hb1 hz Rs HC
  go_wp2_with fail
  rw [← hZ]
  clear hZ
  have z0s : ∀ w', Below Z.heap.size Z w' → w'.cell? ⟨w1.heap.size, 0, none⟩ = some (.bool ss) := fun w' h => (Vs.out.on h).c0
  have z1s : ∀ w', Below Z.heap.size Z w' → w'.cell? ⟨w1.heap.size, 1, none⟩ = some (.slice ps ls cs) := fun w' h => (Vs.out.on h).c1
  have hrr : Below Z.heap.size Z Z := Below.refl _ _
  go_cut [7, 8, 9] from 19 (fun v7 v8 v9 wx => v9 = .int .i64 0 ∧ ∃ g s p l c, v8 = .pointer (some ⟨g, 0, none⟩) ∧ Z.heap.size ≤ g ∧ Kept wx g s p l c (divR 2 S 2) ∧ Below Z.heap.size Z wx)
  case first =>
    go_region_held3 (fun w' => Below Z.heap.size Z w')
      (first
        | assumption
        | ((try (repeat (first | refine sl_al ?_ _ | refine sl_dr ?_ | refine sl_st ?_ (by first | exact Nat.le_refl _ | exact Nat.le_succ _ | assumption | (dsimp only; omega) | (exact Nat.le_trans (by assumption) (Nat.le_succ _)) | (simp; omega)) _))); (first | assumption | exact Below.refl _ _)))
      (first
        | (go_at_call 18; refine (fromInt_row 2 _ (by decide) (by decide)).mono ?_; rintro e wx ⟨⟨so, po, lo, co, rfl, ho⟩, hwr⟩; (try (have rA : wx.heap[Z.heap.size]? = some (.cells #[.bool false, .slice none 0 0] 25 (0, 0)) := sl_via hwr (by first | exact heap_alloc_new _ _ | exact heap_alloc2_old _ _ _))); (try (have rB : wx.heap[Z.heap.size + 1]? = some (.cells #[.bool false, .slice none 0 0] 25 (0, 0)) := sl_via hwr (by exact heap_alloc2_new _ _ _))); have belR := below_on (D := Z) (by ((try (repeat (first | refine sl_al ?_ _ | refine sl_dr ?_ | refine sl_st ?_ (by first | exact Nat.le_refl _ | exact Nat.le_succ _ | assumption | (dsimp only; omega) | (exact Nat.le_trans (by assumption) (Nat.le_succ _)) | (simp; omega)) _))); (first | assumption | exact Below.refl _ _))) hwr; have kx := belR.size; clear hwr)
        | (go_at_call 31; refine (sl_div _ _ S 2 2 2 rfl _ (Vs.out.on (by ((try (repeat (first | refine sl_al ?_ _ | refine sl_dr ?_ | refine sl_st ?_ (by first | exact Nat.le_refl _ | exact Nat.le_succ _ | assumption | (dsimp only; omega) | (exact Nat.le_trans (by assumption) (Nat.le_succ _)) | (simp; omega)) _))); (first | assumption | exact Below.refl _ _)))).num (IsI.below ho (by ((try (repeat (first | refine sl_al ?_ _ | refine sl_dr ?_ | refine sl_st ?_ (by first | exact Nat.le_refl _ | exact Nat.le_succ _ | assumption | (dsimp only; omega) | (exact Nat.le_trans (by assumption) (Nat.le_succ _)) | (simp; omega)) _))); (first | assumption | exact Below.refl _ _)))) HS.out.2 (by rw [show Nl.limbs (2 : Int).natAbs = [2] from limbs_one (by decide) (by decide)]; decide) (by decide) (by decide) (by decide)).mono ?_; rintro e wd ⟨⟨sd, pd, ld, cd, sr, pr, lr, cr, rfl, hd, hr⟩, hwd⟩; (try (have sA : wd.heap[Z.heap.size]? = some (.cells #[.bool false, .slice none 0 0] 25 (0, 0)) := sl_via hwd (by first | exact rA | exact al_keep _ _ (lt_of_block rA) rA | exact al_keep _ _ (by have := lt_of_block rA; simp; omega) (al_keep _ _ (lt_of_block rA) rA)); have nA := lt_of_block sA; have mA : ¬ Z.heap.size = wd.heap.size := Nat.ne_of_lt nA; have lA : ¬ wd.heap.size = Z.heap.size := Nat.ne_of_gt nA; have fA0 := frozen_of_row _ _ 0 _ _ sA; have fA1 := frozen_of_row _ _ 1 _ _ sA; have gA0 := cell_of_row _ _ 0 _ _ (0, 0) sA; have gA1 := cell_of_row _ _ 1 _ _ (0, 0) sA; simp only [List.getElem?_toArray, List.getElem?_cons_zero, List.getElem?_cons_succ] at gA0 gA1)); (try (have sB : wd.heap[Z.heap.size + 1]? = some (.cells #[.bool false, .slice none 0 0] 25 (0, 0)) := sl_via hwd (by first | exact rB | exact al_keep _ _ (lt_of_block rB) rB | exact al_keep _ _ (by have := lt_of_block rB; simp; omega) (al_keep _ _ (lt_of_block rB) rB)); have nB := lt_of_block sB; have mB : ¬ Z.heap.size + 1 = wd.heap.size := Nat.ne_of_lt nB; have lB : ¬ wd.heap.size = Z.heap.size + 1 := Nat.ne_of_gt nB; have fB0 := frozen_of_row _ _ 0 _ _ sB; have fB1 := frozen_of_row _ _ 1 _ _ sB; have gB0 := cell_of_row _ _ 0 _ _ (0, 0) sB; have gB1 := cell_of_row _ _ 1 _ _ (0, 0) sB; simp only [List.getElem?_toArray, List.getElem?_cons_zero, List.getElem?_cons_succ] at gB0 gB1)); (try (have sC : wd.heap[wx.heap.size]? = some (.cells #[.bool false, .slice none 0 0] 25 (0, 0)) := sl_via hwd (by first | exact heap_alloc_new _ _ | exact heap_alloc2_old _ _ _); have nC := lt_of_block sC; have mC : ¬ wx.heap.size = wd.heap.size := Nat.ne_of_lt nC; have lC : ¬ wd.heap.size = wx.heap.size := Nat.ne_of_gt nC; have fC0 := frozen_of_row _ _ 0 _ _ sC; have fC1 := frozen_of_row _ _ 1 _ _ sC; have gC0 := cell_of_row _ _ 0 _ _ (0, 0) sC; have gC1 := cell_of_row _ _ 1 _ _ (0, 0) sC; simp only [List.getElem?_toArray, List.getElem?_cons_zero, List.getElem?_cons_succ] at gC0 gC1)); (try (have sD : wd.heap[wx.heap.size + 1]? = some (.cells #[.bool false, .slice none 0 0] 25 (0, 0)) := sl_via hwd (by exact heap_alloc2_new _ _ _); have nD := lt_of_block sD; have mD : ¬ wx.heap.size + 1 = wd.heap.size := Nat.ne_of_lt nD; have lD : ¬ wd.heap.size = wx.heap.size + 1 := Nat.ne_of_gt nD; have fD0 := frozen_of_row _ _ 0 _ _ sD; have fD1 := frozen_of_row _ _ 1 _ _ sD; have gD0 := cell_of_row _ _ 0 _ _ (0, 0) sD; have gD1 := cell_of_row _ _ 1 _ _ (0, 0) sD; simp only [List.getElem?_toArray, List.getElem?_cons_zero, List.getElem?_cons_succ] at gD0 gD1)); (try (have n1 : ¬ Z.heap.size = wx.heap.size := Nat.ne_of_lt (lt_of_block rA); have n2 : ¬ wx.heap.size = Z.heap.size := Nat.ne_of_gt (lt_of_block rA))); have n3 : ¬ Z.heap.size = Z.heap.size + 1 := (by omega); have n4 : ¬ Z.heap.size + 1 = Z.heap.size := (by omega); have n5 : ¬ wx.heap.size = wx.heap.size + 1 := (by omega); have n6 : ¬ wx.heap.size + 1 = wx.heap.size := (by omega); have belD := below_on (D := Z) (by ((try (repeat (first | refine sl_al ?_ _ | refine sl_dr ?_ | refine sl_st ?_ (by first | exact Nat.le_refl _ | exact Nat.le_succ _ | assumption | (dsimp only; omega) | (exact Nat.le_trans (by assumption) (Nat.le_succ _)) | (simp; omega)) _))); (first | assumption | exact Below.refl _ _))) hwd; have kd := belD.size; clear hwd))
    all_goals (go_wp2_with fail; go_meet; case rel => refine ⟨rfl, _, _, _, _, _, rfl, (by first | exact Nat.le_refl _ | exact Nat.le_succ _ | assumption | exact Nat.le_succ_of_le (by assumption)), (by first | exact sl_f1 _ hr | exact sl_f2 _ hr | exact sl_f3 _ _ hr (by assumption) | exact sl_f4 _ _ hr (by assumption) (by assumption) (by assumption) | exact sl_f5 _ hr (by assumption)), (by ((try (repeat (first | refine sl_al ?_ _ | refine sl_dr ?_ | refine sl_st ?_ (by first | exact Nat.le_refl _ | exact Nat.le_succ _ | assumption | (dsimp only; omega) | (exact Nat.le_trans (by assumption) (Nat.le_succ _)) | (simp; omega)) _))); (first | assumption | exact Below.refl _ _)))⟩)
  case rest =>
    obtain ⟨rfl, gr, sr, pr, lr, cr, rfl, hgr, kr, hs⟩ := hcut
    have Vr := Lib.hid kr
    have HBc := Lib.hid (HBZ.out.trans (hs.mono HBZ.out.size))
    clear hgr kr hs z0s z1s hrr Vs
    have c0 := Vr.out.c0
    have c1 := Vr.out.c1
    have HT := Lib.hid (toInt_small _ (divR 2 S 2) wc Vr.out.num (bit_rest S).2)
    go_wp2_with fail
    refine HT.out.mono ?_
    rintro e w5 ⟨rfl, hb5⟩
    clear c0 c1 HT
    go_wp2_with fail
    go_ret
    refine ⟨?_, HBc.out.trans (hb5.mono HBc.out.size)⟩
    rw [(bit_rest S).1, Nl.bitI, ← HS.out.1]; rfl
end Go.Proofs.YtkbghamkalidcaaGreat

namespace Go.Proofs.YtkbghamkalidcaaGreat
open Go.RowKit

set_option maxHeartbeats 2000000 in
theorem Not_1_does (s0 : Bool) (p0 : Option Addr) (l0 c0 : Nat) (a : Int) (K : Nat) (w : World) (h0 : BoxI w K s0 p0 l0 c0) (g0 : IsI w (.agg #[.bool s0, .slice p0 l0 c0]) a) (la : fitI a) (e1 : fitI (a + 1)) :
    IntDoes 48 #[.pointer (some ⟨K, 0, none⟩)] w (0) (-1 - a) := by
  intro W hW
  obtain ⟨V, hV⟩ : ∃ V, V = W.alloc (.cells #[.bool false, .slice none 0 0] 78) := ⟨_, rfl⟩
  have hbV : Below W.heap.size W V := by rw [hV]; exact below_one W _
  have hQ : V.heap[W.heap.size]? = some (.cells #[.bool false, .slice none 0 0] 78 (0, 0)) := by rw [hV]; exact heap_alloc_new _ _
  have bh0 := (hbV.block _ (Nat.lt_of_lt_of_le (lt_of_block h0) hW.size)).trans ((hW.block _ (lt_of_block h0)).trans h0)
  have kh00 := cell_of_row _ _ 0 _ _ (0, 0) bh0
  have kh01 := cell_of_row _ _ 1 _ _ (0, 0) bh0
  simp only [List.getElem?_toArray, List.getElem?_cons_zero, List.getElem?_cons_succ] at kh00 kh01
  have HV := Lib.hid (And.intro hbV hQ)
  have hi0 := (g0.below hW).below hbV
  rw [hV] at kh00 kh01
  have HC := Lib.hid (not_fit _ a V hi0 la e1)
  have HK := Lib.hid (rfl : (0 : Int) = 0)
  clear h0 g0 bh0 hW hbV hQ hi0 la e1
  go_enter Tryz.func48, Tryz.ntmps48
  go_wp2_with fail
  rw [← hV]
  clear hV
  refine HC.out.mono ?_
  rintro e w1 ⟨⟨t, a', l', c', rfl, hi⟩, hb1⟩
  clear kh00 kh01
  have BQ := (hb1.block _ (lt_of_block HV.out.2)).trans HV.out.2
  have f0 := frozen_of_row _ _ 0 _ _ BQ
  have f1 := frozen_of_row _ _ 1 _ _ BQ
  have g0 := cell_of_row _ _ 0 _ _ (0, 0) BQ
  have g1 := cell_of_row _ _ 1 _ _ (0, 0) BQ
  have HH := Lib.hid (And.intro hi (And.intro hb1 BQ))
  clear hi hb1 BQ HC
  go_wp2_with fail
  refine bodyPost_ret (v := .agg #[.bool t, .slice a' l' c']) (results_cell_row Tryz.results48 _ _ W.heap.size 78 _ (0, 0) _ rfl (ibox_set _ _ HH.out.2.2) Tryz.underlying78 rfl (by kernel_rfl)) rfl ?_
  refine ⟨below_ibox (HV.out.1.trans (HH.out.2.1.mono HV.out.1.size)) (Nat.le_refl _) _ _, .inl ⟨HK.out, _, rfl, ?_⟩⟩
  obtain ⟨v5, e5, hv5⟩ := HH.out.1
  exact ⟨v5, e5, at_ibox _ _ hv5 HH.out.2.2⟩

set_option maxHeartbeats 2000000 in
theorem wholeNot_fit (v0 : Value) (s0 : Bool) (xs0 : List Nat) (w : World) (h0 : AtI w v0 s0 xs0) (m0 : Nl.Small xs0) (e1 : fitI (sgn s0 (Nl.val xs0) + 1)) :
    Calls Tryz.prog 14 #[v0] w fun e w' => ResK w w' e (validI s0 xs0) (0) (-1 - sgn s0 (Nl.val xs0)) := by
  have hmf : ∀ (fn : Fn) (first cap : Array Value) (w : World), (Instr.makeFunc fn first cap).run Tryz.prog w = .ok (.func fn first cap) w := fun _ _ _ _ => rfl
  obtain ⟨p0, c0, rfl, u0⟩ := h0.form
  obtain ⟨W, hW⟩ : ∃ W, W = (((w.alloc (.cells #[.bool s0, .slice p0 xs0.length c0] 25)).alloc (.cells #[.bool false, .slice none 0 0] 25)).alloc (.cells #[.bool s0, .slice p0 xs0.length c0] 25)) := ⟨_, rfl⟩
  have hb : Below w.heap.size w W := by rw [hW]; exact ((((Below.refl _ _).alloc (by simp <;> omega) _).alloc (by simp <;> omega) _).alloc (by simp <;> omega) _)
  have hs : W.heap.size = w.heap.size + 3 := by rw [hW]; simp
  have B0 : W.heap[w.heap.size + 0]? = some (.cells #[.bool s0, .slice p0 xs0.length c0] 25 (0, 0)) := by rw [hW]; exact al_keep _ _ (by simp <;> omega) (al_keep _ _ (by simp <;> omega) (al_at _ _ (by simp)))
  have B1 : W.heap[w.heap.size + 1]? = some (.cells #[.bool false, .slice none 0 0] 25 (0, 0)) := by rw [hW]; exact al_keep _ _ (by simp <;> omega) (al_at _ _ (by simp))
  have B2 : W.heap[w.heap.size + 2]? = some (.cells #[.bool s0, .slice p0 xs0.length c0] 25 (0, 0)) := by rw [hW]; exact al_at _ _ (by simp)
  have HO := Lib.hid (ione_any 48 #[.pointer (some ⟨w.heap.size, 0, none⟩)] W (0) (-1 - sgn s0 (Nl.val xs0)) (w.heap.size + 2) [(s0, .slice p0 xs0.length c0, xs0)] (givenI_one (w.heap.size + 2) B2 (u0.below hb)) (by omega) (by simp) (fun hall => by
    have o0 := isI_of_ok (u0.below hb) m0 (hall (s0, .slice p0 xs0.length c0, xs0) (by simp))
    exact Not_1_does _ _ _ _ _ w.heap.size W B0 o0.1 o0.2 e1) (fun _ _ => by kernel_rfl))
  have HB := Lib.hid (And.intro hb (And.intro hs B1))
  clear h0 u0 m0 hb hs B0 B1 B2
  go_enter Tryz.func14, Tryz.ntmps14
  go_wp2_with fail
  rw [← hW]
  clear hW
  refine HO.out.mono ?_
  rintro e w1 ⟨c, hc, ⟨v, rfl, h2, h3⟩, hb1⟩
  have hform : ∃ t p l cp, v = .agg #[.bool t, .slice p l cp] := by
    by_cases h0 : c = 0
    · obtain ⟨pp, cc, rfl, -⟩ := (h2 h0).form
      exact ⟨_, _, _, _, rfl⟩
    · rw [h3 h0]; exact ⟨_, _, _, _, rfl⟩
  obtain ⟨t, p, l, cp, rfl⟩ := hform
  have BQ := (hb1.block _ (lt_of_block HB.out.2.2)).trans HB.out.2.2
  have f0 := frozen_of_row _ _ 0 _ _ BQ
  have f1 := frozen_of_row _ _ 1 _ _ BQ
  have g0 := cell_of_row _ _ 0 _ _ (0, 0) BQ
  have g1 := cell_of_row _ _ 1 _ _ (0, 0) BQ
  have HR := Lib.hid (And.intro hc (And.intro h2 (And.intro h3 (And.intro hb1 BQ))))
  clear hc h2 h3 hb1 BQ HO
  go_wp2_with fail
  refine bodyPost_ret (v := .tuple #[.agg #[.bool t, .slice p l cp], .int .i64 c]) (results_int1 Tryz.results14 _ _ (w.heap.size + 1) _ _ rfl rfl (load_int (ibox_set (g := w.heap.size + 1) _ _ HR.out.2.2.2.2))) rfl ?_
  refine ⟨c, ?_, ⟨_, rfl, fun h0 => ?_, HR.out.2.2.1⟩, below_ibox (HB.out.1.trans (HR.out.2.2.2.1.mono HB.out.1.size)) (g := w.heap.size + 1) (by omega) _ _⟩
  · rcases HR.out.1 with ⟨hall, h1⟩ | ⟨⟨q, hq, h5⟩, h1⟩
    · rw [h1, if_pos (by exact hall (s0, .slice p0 xs0.length c0, xs0) (by simp))]
    · rw [h1, if_neg]
      intro hok
      simp only [List.mem_singleton] at hq; subst hq; exact Bool.noConfusion (h5.symm.trans hok)
  · obtain ⟨u, hu1, hu2⟩ := HR.out.2.1 h0
    simp only [Value.agg.injEq, Array.mk.injEq, List.cons.injEq, Value.bool.injEq, and_true] at hu1
    obtain ⟨rfl, rfl⟩ := hu1
    exact AtI.mk (at_ibox (g := w.heap.size + 1) _ _ hu2 HR.out.2.2.2.2)
end Go.Proofs.YtkbghamkalidcaaGreat
