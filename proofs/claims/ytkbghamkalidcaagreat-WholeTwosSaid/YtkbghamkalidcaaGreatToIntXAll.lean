/-
  An integer shifted to the right. Conditions: those that each theorem names.
  What Shift of package whole does to the right. Written by wip/tool/genops2.py. Conditions: those that each theorem names.
  ToInt, once more, for texts that are shared with another claim. Conditions: those that each theorem names.
-/
import Derived.Test.YtkbghamkalidcaaGreatNotIAll
import Derived.Test.YtkbghamkalidcaaGreatOpsLAll
import Derived.Test.YtkbghamkalidcaaGreatLawSumsAll
namespace Go.Proofs.YtkbghamkalidcaaGreat
open Go.RowKit

theorem nbits_len900 {m n : Nat} (h : (Nl.limbs m).length ≤ n) : nbits m ≤ 32 * n := by
  by_cases h0 : m = 0
  · subst h0; rw [nbits_zero]; omega
  · have h1 := nbits_le h0
    have h2 := Nl.lt_limbs m
    have h3 : m < 2 ^ (32 * n) := by rw [← pow32]; exact Nat.lt_of_lt_of_le h2 (Nl.pow_le h)
    refine Nat.le_of_not_lt fun h4 => absurd (Nat.lt_of_le_of_lt h1 h3) (Nat.not_lt.2 (Nat.pow_le_pow_right (by decide) (by omega)))
theorem shr_yes (va : Value) (m n : Nat) (w : World) (ha : At w va (Nl.limbs m)) (hm : (Nl.limbs m).length ≤ 1024) (hn : n ≤ 9223372036854775807) :
    Calls Tryz.prog 127 #[va, .int .i64 n] w fun e w' => OneN w w' e (m / 2 ^ n) := by
  have h := shrX_any va _ (n : Int) w ha (Nl.limbs_small m) (by omega) (by omega)
  rw [Nl.val_limbs, Int.toNat_natCast] at h
  exact h.mono fun e w' h => natOut_yes (h.of hm) (by rw [shrKX, if_pos (by omega), codeOf, if_neg (by decide), if_pos (Nat.le_trans (Nl.limbs_mono (Nat.div_le_self _ _)) hm)])
set_option maxHeartbeats 2000000 in
/-- a number that is not negative -/
theorem shifted_down (va : Value) (m t : Nat) (w : World) (ha : IsI w va (m : Int)) (la : (Nl.limbs m).length ≤ 1024) (ht : 1 ≤ t) (ht2 : t ≤ 32768) :
    Calls Tryz.prog 60 #[va, .int .i64 (-(t : Int))] w fun e w' => (∃ s p l c, e = .returned (.agg #[.bool s, .slice p l c]) ∧ IsI w' (.agg #[.bool s, .slice p l c]) ((m / 2 ^ t : Nat) : Int)) ∧ Below w.heap.size w w' := by
  have hneg : negB (m : Int) = false := by rw [negB]; exact decide_eq_false (Int.not_lt.mpr (Int.natCast_nonneg _))
  have hna : ((m : Int)).natAbs = m := Int.natAbs_natCast m
  obtain ⟨p0, c0, rfl, hu⟩ := ha.form
  rw [hna] at hu ⊢
  rw [hneg]
  obtain ⟨l0, hl0⟩ : ∃ l0, l0 = (Nl.limbs m).length := ⟨_, rfl⟩
  rw [← hl0] at hu ⊢
  obtain ⟨W, hW⟩ : ∃ W, W = (w.alloc (.cells #[.bool false, .slice p0 l0 c0] 78)).alloc (.cells #[.bool false, .slice none 0 0] 78) := ⟨_, rfl⟩
  have hb : Below w.heap.size w W := by rw [hW]; exact two_new w _ _
  have hP : W.heap[w.heap.size]? = some (.cells #[.bool false, .slice p0 l0 c0] 78 (0, 0)) := by rw [hW]; exact heap_alloc2_old w _ _
  have hQ : W.heap[w.heap.size + 1]? = some (.cells #[.bool false, .slice none 0 0] 78 (0, 0)) := by rw [hW]; exact heap_alloc2_new w _ _
  have k00 := cell_of_row _ _ 0 _ _ (0, 0) hP
  have k01 := cell_of_row _ _ 1 _ _ (0, 0) hP
  simp only [List.getElem?_toArray, List.getElem?_cons_zero, List.getElem?_cons_succ] at k00 k01
  have t0 : decide (-(t : Int) ≥ 0) = false := decide_eq_false (by omega)
  have t0' : decide (0 ≤ -(t : Int)) = false := decide_eq_false (by omega)
  have m1 : max (-(t : Int)) (-32768) = -(t : Int) := by omega
  have m2 : -(-(t : Int)) = (t : Int) := by omega
  have HC := Lib.hid (shr_yes _ _ t W (hu.below hb) (by rw [← hl0]; omega) (by omega))
  have HB := Lib.hid (And.intro hb hQ)
  clear ha hu hb hP hQ hl0 hneg hna
  go_enter Tryz.func60, Tryz.ntmps60
  go_upto_region 1 with fail
  rw [← hW]
  clear hW
  go_wp2_with fail
  refine HC.out.mono ?_
  rintro e w2 ⟨⟨p2, n2, c2, rfl, hat2⟩, hb2⟩
  have HA := Lib.hid (And.intro hat2 hb2)
  clear hat2 hb2 HC
  go_wp2_with fail
  refine (found_yes _ _ _ _).mono ?_
  rintro e w3 ⟨rfl, rfl⟩
  have BQ := (HA.out.2.block _ (lt_of_block HB.out.2)).trans HB.out.2
  have f0 := frozen_of_row _ _ 0 _ _ BQ
  have f1 := frozen_of_row _ _ 1 _ _ BQ
  have g0 := cell_of_row _ _ 0 _ _ (0, 0) BQ
  have g1 := cell_of_row _ _ 1 _ _ (0, 0) BQ
  have HQ := Lib.hid BQ
  clear BQ
  go_wp2_with fail
  refine bodyPost_ret (v := .agg #[.bool false, .slice p2 n2 c2]) (results_cell_row Tryz.results60 _ _ (w.heap.size + 1) 78 _ (0, 0) _ rfl (ibox_set (g := w.heap.size + 1) _ _ HQ.out) Tryz.underlying78 rfl (by kernel_rfl)) rfl ?_
  refine ⟨⟨_, _, _, _, rfl, isI_mk (s := false) (at_ibox (g := w.heap.size + 1) _ _ HA.out.1 HQ.out) ?_ rfl⟩, below_ibox (HB.out.1.trans (HA.out.2.mono HB.out.1.size)) (g := w.heap.size + 1) (Nat.le_succ _) _ _⟩
  rw [sgn_neg]; rfl
theorem floor_neg (a : Int) (m t : Nat) (hm : -1 - a = (m : Int)) : -1 - ((m / 2 ^ t : Nat) : Int) = a / ((2 ^ t : Nat) : Int) := by
  have hp := Nat.two_pow_pos t
  obtain ⟨P, hP⟩ : ∃ P, P = 2 ^ t := ⟨_, rfl⟩
  rw [← hP] at hp ⊢
  have h1 := Nat.mod_add_div m P
  have h2 := Nat.mod_lt m hp
  obtain ⟨q, hq⟩ : ∃ q, q = m / P := ⟨_, rfl⟩
  obtain ⟨r, hr⟩ : ∃ r, r = m % P := ⟨_, rfl⟩
  rw [← hq, ← hr] at h1
  rw [← hr] at h2
  rw [← hq]
  have h3 : a = ((P : Int) - 1 - (r : Int)) + (P : Int) * (-1 - (q : Int)) := by
    rw [Int.mul_sub, Int.mul_neg, Int.mul_one, ← Int.natCast_mul]; omega
  rw [h3, Int.add_mul_ediv_left _ _ (by omega), Int.ediv_eq_zero_of_lt (by omega) (by omega), Int.zero_add]
set_option maxHeartbeats 2000000 in
theorem shifted_neg (va : Value) (a : Int) (t : Nat) (w : World) (ha : IsI w va a) (la : (Nl.limbs a.natAbs).length ≤ 1000) (h0 : a < 0) (ht : 1 ≤ t) (ht2 : t ≤ 32768) :
    Calls Tryz.prog 60 #[va, .int .i64 (-(t : Int))] w fun e w' => (∃ s p l c, e = .returned (.agg #[.bool s, .slice p l c]) ∧ IsI w' (.agg #[.bool s, .slice p l c]) (a / ((2 ^ t : Nat) : Int))) ∧ Below w.heap.size w w' := by
  obtain ⟨m, hm⟩ : ∃ m : Nat, -1 - a = (m : Int) := ⟨(-1 - a).toNat, by omega⟩
  have hneg : negB a = true := by rw [negB]; exact decide_eq_true h0
  have lm : (Nl.limbs m).length ≤ 1000 := Nat.le_trans (Nl.limbs_mono (by omega)) la
  have lq : (Nl.limbs (m / 2 ^ t)).length ≤ 1000 := Nat.le_trans (Nl.limbs_mono (Nat.div_le_self _ _)) lm
  have f1 : fitI (a + 1) := by rw [fitI, show (a + 1).natAbs = m by omega]; omega
  have f2 : fitI (((m / 2 ^ t : Nat) : Int) + 1) := by
    have := Nl.len_add (m / 2 ^ t) 1
    obtain ⟨q, hq⟩ : ∃ q, q = m / 2 ^ t := ⟨_, rfl⟩
    rw [← hq] at this lq ⊢
    rw [fitI, show ((q : Int) + 1).natAbs = q + 1 by omega]
    have h5 : (Nl.limbs 1).length ≤ 1 := by rw [limbs_one (by decide) (by decide)]; decide
    omega
  obtain ⟨p0, c0, rfl, hu⟩ := ha.form
  obtain ⟨l0, hl0⟩ : ∃ l0, l0 = (Nl.limbs a.natAbs).length := ⟨_, rfl⟩
  rw [← hl0] at ha ⊢
  rw [hneg] at ha ⊢
  obtain ⟨W, hW⟩ : ∃ W, W = (w.alloc (.cells #[.bool true, .slice p0 l0 c0] 78)).alloc (.cells #[.bool false, .slice none 0 0] 78) := ⟨_, rfl⟩
  have hb : Below w.heap.size w W := by rw [hW]; exact two_new w _ _
  have hP : W.heap[w.heap.size]? = some (.cells #[.bool true, .slice p0 l0 c0] 78 (0, 0)) := by rw [hW]; exact heap_alloc2_old w _ _
  have hQ : W.heap[w.heap.size + 1]? = some (.cells #[.bool false, .slice none 0 0] 78 (0, 0)) := by rw [hW]; exact heap_alloc2_new w _ _
  have k00 := cell_of_row _ _ 0 _ _ (0, 0) hP
  have k01 := cell_of_row _ _ 1 _ _ (0, 0) hP
  simp only [List.getElem?_toArray, List.getElem?_cons_zero, List.getElem?_cons_succ] at k00 k01
  have t0 : decide (-(t : Int) ≥ 0) = false := decide_eq_false (by omega)
  have t0' : decide (0 ≤ -(t : Int)) = false := decide_eq_false (by omega)
  have HC := Lib.hid (not_fit _ a W (ha.below hb) (show (Nl.limbs a.natAbs).length ≤ 1024 by omega) f1)
  have HB := Lib.hid (And.intro hb hQ)
  have HF := Lib.hid (And.intro hm (And.intro (show (Nl.limbs m).length ≤ 1024 by omega) (And.intro (show fitI ((m / 2 ^ t : Nat) : Int) by rw [fitI, Int.natAbs_natCast]; omega) f2)))
  clear ha hu hb hP hQ hl0 hneg hm lm lq f1 f2 la h0
  go_enter Tryz.func60, Tryz.ntmps60
  go_upto_region 1 with fail
  rw [← hW]
  clear hW
  go_wp2_with fail
  refine HC.out.mono ?_
  rintro e w2 ⟨⟨s2, p2, l2, c2, rfl, hi2⟩, hb2⟩
  rw [HF.out.1] at hi2
  have HC2 := Lib.hid (shifted_down _ m t w2 hi2 HF.out.2.1 ht ht2)
  have HB2 := Lib.hid hb2
  clear hi2 hb2 HC
  go_wp2_with fail
  refine HC2.out.mono ?_
  rintro e w3 ⟨⟨s3, p3, l3, c3, rfl, hi3⟩, hb3⟩
  have HC3 := Lib.hid (not_fit _ _ w3 hi3 HF.out.2.2.1 HF.out.2.2.2)
  have HB3 := Lib.hid (HB2.out.trans (hb3.mono HB2.out.size))
  clear hi3 hb3 HC2 HB2
  go_wp2_with fail
  refine HC3.out.mono ?_
  rintro e w4 ⟨⟨s4, p4, l4, c4, rfl, hi4⟩, hb4⟩
  have hb5 := HB3.out.trans (hb4.mono HB3.out.size)
  have BQ := (hb5.block _ (lt_of_block HB.out.2)).trans HB.out.2
  have f0 := frozen_of_row _ _ 0 _ _ BQ
  have f1 := frozen_of_row _ _ 1 _ _ BQ
  have g0 := cell_of_row _ _ 0 _ _ (0, 0) BQ
  have g1 := cell_of_row _ _ 1 _ _ (0, 0) BQ
  have HQ := Lib.hid (And.intro BQ (And.intro hi4 hb5))
  clear BQ hi4 hb4 hb5 HC3 HB3
  go_wp2_with fail
  refine bodyPost_ret (v := .agg #[.bool s4, .slice p4 l4 c4]) (results_cell_row Tryz.results60 _ _ (w.heap.size + 1) 78 _ (0, 0) _ rfl (ibox_set (g := w.heap.size + 1) _ _ HQ.out.1) Tryz.underlying78 rfl (by kernel_rfl)) rfl ?_
  refine ⟨⟨_, _, _, _, rfl, ?_⟩, below_ibox (HB.out.1.trans (HQ.out.2.2.mono HB.out.1.size)) (g := w.heap.size + 1) (Nat.le_succ _) _ _⟩
  have hi := HQ.out.2.1
  rw [floor_neg a m t HF.out.1] at hi
  obtain ⟨v5, e5, hv5⟩ := hi
  exact ⟨v5, e5, at_ibox (g := w.heap.size + 1) _ _ hv5 HQ.out.1⟩
theorem shifted_right (va : Value) (a : Int) (t : Nat) (w : World) (ha : IsI w va a) (la : (Nl.limbs a.natAbs).length ≤ 900) (ht2 : t ≤ 2000) :
    Calls Tryz.prog 60 #[va, .int .i64 (-(t : Int))] w fun e w' => (∃ s p l c, e = .returned (.agg #[.bool s, .slice p l c]) ∧ IsI w' (.agg #[.bool s, .slice p l c]) (a / ((2 ^ t : Nat) : Int))) ∧ Below w.heap.size w w' := by
  by_cases ht : t = 0
  · subst ht
    have h := shifted_fit va a 0 w ha (show (Nl.limbs a.natAbs).length ≤ 1024 by omega) (by omega) (by
      have := nbits_len900 la
      omega)
    rw [show ((2 ^ 0 : Nat) : Int) = 1 from rfl] at h ⊢
    rw [Int.mul_one] at h
    rw [Int.ediv_one]
    exact h
  · by_cases h0 : a < 0
    · exact shifted_neg va a t w ha (by omega) h0 (by omega) (by omega)
    · obtain ⟨m, rfl⟩ : ∃ m : Nat, a = (m : Int) := ⟨a.toNat, by omega⟩
      rw [Int.natAbs_natCast] at la
      have h := shifted_down va m t w ha (by omega) (by omega) (by omega)
      rw [Int.natCast_ediv] at h
      exact h
end Go.Proofs.YtkbghamkalidcaaGreat

namespace Go.Proofs.YtkbghamkalidcaaGreat
open Go.RowKit

set_option maxHeartbeats 2000000 in
theorem ShiftDown_1_does (s0 : Bool) (p0 : Option Addr) (l0 c0 : Nat) (a : Int) (n : Nat) (K : Nat) (w : World) (h0 : BoxI w K s0 p0 l0 c0) (g0 : IsI w (.agg #[.bool s0, .slice p0 l0 c0]) a) (la : (Nl.limbs a.natAbs).length ≤ 900) (hn : w.heap[K + 1]? = some (.cells #[.int .i64 (-(n : Int))] 3 (0, 0))) (e1 : n ≤ 2000) :
    IntDoes 59 #[.pointer (some ⟨K, 0, none⟩), .pointer (some ⟨K + 1, 0, none⟩)] w (0) (a / ((2 ^ n : Nat) : Int)) := by
  intro W hW
  obtain ⟨V, hV⟩ : ∃ V, V = W.alloc (.cells #[.bool false, .slice none 0 0] 78) := ⟨_, rfl⟩
  have hbV : Below W.heap.size W V := by rw [hV]; exact below_one W _
  have hQ : V.heap[W.heap.size]? = some (.cells #[.bool false, .slice none 0 0] 78 (0, 0)) := by rw [hV]; exact heap_alloc_new _ _
  have bh0 := (hbV.block _ (Nat.lt_of_lt_of_le (lt_of_block h0) hW.size)).trans ((hW.block _ (lt_of_block h0)).trans h0)
  have kh00 := cell_of_row _ _ 0 _ _ (0, 0) bh0
  have kh01 := cell_of_row _ _ 1 _ _ (0, 0) bh0
  have bhn := (hbV.block _ (Nat.lt_of_lt_of_le (lt_of_block hn) hW.size)).trans ((hW.block _ (lt_of_block hn)).trans hn)
  have khn0 := cell_of_row _ _ 0 _ _ (0, 0) bhn
  simp only [List.getElem?_toArray, List.getElem?_cons_zero, List.getElem?_cons_succ] at kh00 kh01 khn0
  have HV := Lib.hid (And.intro hbV hQ)
  have hi0 := (g0.below hW).below hbV
  rw [hV] at kh00 kh01 khn0
  have HC := Lib.hid (shifted_right _ a n V hi0 la e1)
  have HK := Lib.hid (rfl : (0 : Int) = 0)
  clear h0 hn g0 bh0 bhn hW hbV hQ hi0 la
  go_enter Tryz.func59, Tryz.ntmps59
  go_wp2_with fail
  rw [← hV]
  clear hV
  refine HC.out.mono ?_
  rintro e w1 ⟨⟨t, a', l', c', rfl, hi⟩, hb1⟩
  clear kh00 kh01 khn0
  have BQ := (hb1.block _ (lt_of_block HV.out.2)).trans HV.out.2
  have f0 := frozen_of_row _ _ 0 _ _ BQ
  have f1 := frozen_of_row _ _ 1 _ _ BQ
  have g0 := cell_of_row _ _ 0 _ _ (0, 0) BQ
  have g1 := cell_of_row _ _ 1 _ _ (0, 0) BQ
  have HH := Lib.hid (And.intro hi (And.intro hb1 BQ))
  clear hi hb1 BQ HC
  go_wp2_with fail
  refine bodyPost_ret (v := .agg #[.bool t, .slice a' l' c']) (results_cell_row Tryz.results59 _ _ W.heap.size 78 _ (0, 0) _ rfl (ibox_set _ _ HH.out.2.2) Tryz.underlying78 rfl (by kernel_rfl)) rfl ?_
  refine ⟨below_ibox (HV.out.1.trans (HH.out.2.1.mono HV.out.1.size)) (Nat.le_refl _) _ _, .inl ⟨HK.out, _, rfl, ?_⟩⟩
  obtain ⟨v5, e5, hv5⟩ := HH.out.1
  exact ⟨v5, e5, at_ibox _ _ hv5 HH.out.2.2⟩

set_option maxHeartbeats 2000000 in
theorem wholeShift_down (v0 : Value) (s0 : Bool) (xs0 : List Nat) (n : Nat) (w : World) (h0 : AtI w v0 s0 xs0) (m0 : Nl.Small xs0) (e1 : n ≤ 2000) (e2 : (Nl.limbs (sgn s0 (Nl.val xs0)).natAbs).length ≤ 900) :
    Calls Tryz.prog 23 #[v0, .int .i64 (-(n : Int))] w fun e w' => ResK w w' e (validI s0 xs0) (0) (sgn s0 (Nl.val xs0) / ((2 ^ n : Nat) : Int)) := by
  have hmf : ∀ (fn : Fn) (first cap : Array Value) (w : World), (Instr.makeFunc fn first cap).run Tryz.prog w = .ok (.func fn first cap) w := fun _ _ _ _ => rfl
  obtain ⟨p0, c0, rfl, u0⟩ := h0.form
  obtain ⟨W, hW⟩ : ∃ W, W = ((((w.alloc (.cells #[.bool s0, .slice p0 xs0.length c0] 25)).alloc (.cells #[.int .i64 (-(n : Int))] 3)).alloc (.cells #[.bool false, .slice none 0 0] 25)).alloc (.cells #[.bool s0, .slice p0 xs0.length c0] 25)) := ⟨_, rfl⟩
  have hb : Below w.heap.size w W := by rw [hW]; exact (((((Below.refl _ _).alloc (by simp <;> omega) _).alloc (by simp <;> omega) _).alloc (by simp <;> omega) _).alloc (by simp <;> omega) _)
  have hs : W.heap.size = w.heap.size + 4 := by rw [hW]; simp
  have B0 : W.heap[w.heap.size + 0]? = some (.cells #[.bool s0, .slice p0 xs0.length c0] 25 (0, 0)) := by rw [hW]; exact al_keep _ _ (by simp <;> omega) (al_keep _ _ (by simp <;> omega) (al_keep _ _ (by simp <;> omega) (al_at _ _ (by simp))))
  have B1 : W.heap[w.heap.size + 1]? = some (.cells #[.int .i64 (-(n : Int))] 3 (0, 0)) := by rw [hW]; exact al_keep _ _ (by simp <;> omega) (al_keep _ _ (by simp <;> omega) (al_at _ _ (by simp)))
  have B2 : W.heap[w.heap.size + 2]? = some (.cells #[.bool false, .slice none 0 0] 25 (0, 0)) := by rw [hW]; exact al_keep _ _ (by simp <;> omega) (al_at _ _ (by simp))
  have B3 : W.heap[w.heap.size + 3]? = some (.cells #[.bool s0, .slice p0 xs0.length c0] 25 (0, 0)) := by rw [hW]; exact al_at _ _ (by simp)
  have HO := Lib.hid (ione_any 59 #[.pointer (some ⟨w.heap.size, 0, none⟩), .pointer (some ⟨w.heap.size + 1, 0, none⟩)] W (0) (sgn s0 (Nl.val xs0) / ((2 ^ n : Nat) : Int)) (w.heap.size + 3) [(s0, .slice p0 xs0.length c0, xs0)] (givenI_one (w.heap.size + 3) B3 (u0.below hb)) (by omega) (by simp) (fun hall => by
    have o0 := isI_of_ok (u0.below hb) m0 (hall (s0, .slice p0 xs0.length c0, xs0) (by simp))
    exact ShiftDown_1_does _ _ _ _ _ n w.heap.size W B0 o0.1 e2 B1 e1) (fun _ _ => by kernel_rfl))
  have HB := Lib.hid (And.intro hb (And.intro hs B2))
  clear h0 u0 m0 hb hs B0 B1 B2 B3
  go_enter Tryz.func23, Tryz.ntmps23
  go_wp2_with fail
  rw [← hW]
  clear hW
  refine HO.out.mono ?_
  rintro e w1 ⟨c, hc, ⟨v, rfl, h2, h3⟩, hb1⟩
  have hform : ∃ t p l cp, v = .agg #[.bool t, .slice p l cp] := by
    by_cases h0 : c = 0
    · obtain ⟨pp, cc, rfl, -⟩ := (h2 h0).form
      exact ⟨_, _, _, _, rfl⟩
    · rw [h3 h0]; exact ⟨_, _, _, _, rfl⟩
  obtain ⟨t, p, l, cp, rfl⟩ := hform
  have BQ := (hb1.block _ (lt_of_block HB.out.2.2)).trans HB.out.2.2
  have f0 := frozen_of_row _ _ 0 _ _ BQ
  have f1 := frozen_of_row _ _ 1 _ _ BQ
  have g0 := cell_of_row _ _ 0 _ _ (0, 0) BQ
  have g1 := cell_of_row _ _ 1 _ _ (0, 0) BQ
  have HR := Lib.hid (And.intro hc (And.intro h2 (And.intro h3 (And.intro hb1 BQ))))
  clear hc h2 h3 hb1 BQ HO
  go_wp2_with fail
  refine bodyPost_ret (v := .tuple #[.agg #[.bool t, .slice p l cp], .int .i64 c]) (results_int1 Tryz.results23 _ _ (w.heap.size + 2) _ _ rfl rfl (load_int (ibox_set (g := w.heap.size + 2) _ _ HR.out.2.2.2.2))) rfl ?_
  refine ⟨c, ?_, ⟨_, rfl, fun h0 => ?_, HR.out.2.2.1⟩, below_ibox (HB.out.1.trans (HR.out.2.2.2.1.mono HB.out.1.size)) (g := w.heap.size + 2) (by omega) _ _⟩
  · rcases HR.out.1 with ⟨hall, h1⟩ | ⟨⟨q, hq, h5⟩, h1⟩
    · rw [h1, if_pos (by exact hall (s0, .slice p0 xs0.length c0, xs0) (by simp))]
    · rw [h1, if_neg]
      intro hok
      simp only [List.mem_singleton] at hq; subst hq; exact Bool.noConfusion (h5.symm.trans hok)
  · obtain ⟨u, hu1, hu2⟩ := HR.out.2.1 h0
    simp only [Value.agg.injEq, Array.mk.injEq, List.cons.injEq, Value.bool.injEq, and_true] at hu1
    obtain ⟨rfl, rfl⟩ := hu1
    exact AtI.mk (at_ibox (g := w.heap.size + 2) _ _ hu2 HR.out.2.2.2.2)
end Go.Proofs.YtkbghamkalidcaaGreat

namespace Go.Proofs.YtkbghamkalidcaaGreat
open Go.RowKit

theorem wordOf_noX (v : Value) (m : Nat) (w : World) (h : At w v (Nl.limbs m)) (hf : (Nl.limbs m).length ≤ 1024) (hm : ¬ m < 18446744073709551616) :
    Calls Tryz.prog 166 #[v] w fun e w' => e = fault 3 ∧ w = w' := by
  have hl : ¬ (Nl.limbs m).length ≤ 2 := fun h2 => hm (by
    have h1 := Nl.lt_limbs m
    have h3 := Nl.pow_le h2
    have h4 : 4294967296 ^ 2 = 18446744073709551616 := by decide
    omega)
  have H := toUint_any v _ w h (Nl.limbs_small m)
  rw [uintV, uintC, if_neg (fun h => hl h.2), if_pos (validB_limbs hf), if_neg hl] at H
  have HH := Lib.hid H
  obtain ⟨a, c, rfl, -⟩ := h.form
  clear H h hl
  go_enter Tryz.func166, Tryz.ntmps166
  go_wp2_with fail
  refine HH.out.mono ?_
  rintro e w' ⟨rfl, rfl⟩
  go_wp2_with (go_at_call 55; refine (must_no _ _).mono ?_; rintro e w' ⟨rfl, rfl⟩)
  first
    | exact ⟨rfl, rfl⟩
    | exact ⟨rfl, rfl, rfl⟩
set_option maxHeartbeats 1000000 in
theorem iint_yesX (v : Value) (n : Int) (w : World) (h : IsI w v n) (hn : isInt n) :
    Calls Tryz.prog 117 #[v] w fun e w' => e = .returned (.int .i64 n) ∧ Below w.heap.size w w' := by
  obtain ⟨a, c, rfl, hu⟩ := h.form
  obtain ⟨h1, h2⟩ := hn
  obtain ⟨W, hW⟩ : ∃ W, W = w.alloc (.cells #[.bool (negB n), .slice a (Nl.limbs n.natAbs).length c] 78) := ⟨_, rfl⟩
  have hbW : Below w.heap.size w W := by rw [hW]; exact below_one w _
  have HWO := Lib.hid (wordOf_yes _ _ W (hu.below hbW) (by omega))
  have hP : W.heap[w.heap.size]? = some (.cells #[.bool (negB n), .slice a (Nl.limbs n.natAbs).length c] 78 (0, 0)) := by rw [hW]; exact heap_alloc_new _ _
  have k0 := cell_of_row _ _ 0 _ _ (0, 0) hP
  have HB := Lib.hid hbW
  obtain ⟨m, hm⟩ : ∃ m, m = n.natAbs := ⟨_, rfl⟩
  obtain ⟨l, hl⟩ : ∃ l, l = (Nl.limbs n.natAbs).length := ⟨_, rfl⟩
  rw [← hl] at HWO hW ⊢
  rw [← hm] at HWO
  by_cases hneg : n < 0
  · have e1 : decide ((m : Int) ≤ 9223372036854775808) = true := decide_eq_true (by omega)
    have e2 : decide (m ≤ 9223372036854775808) = true := decide_eq_true (by omega)
    have e3 : IntKind.i64.wrap (IntKind.u64.wrap (-(m : Int))) = n := by rw [IntKind.wrap_u64, IntKind.wrap_i64]; omega
    rw [show negB n = true from decide_eq_true hneg] at hW k0 ⊢
    clear h hu hbW hP hm hl hneg h1 h2
    go_enter Tryz.func117, Tryz.ntmps117
    go_wp2_with fail
    rw [← hW]
    refine HWO.out.mono ?_
    rintro e w1 ⟨rfl, rfl⟩
    go_wp2_with (go_at_call 55; refine (must_yes _ _).mono ?_; rintro e w' ⟨rfl, rfl⟩)
    go_ret
    exact ⟨rfl, below_one w _⟩
  · have e1 : decide ((m : Int) < 9223372036854775808) = true := decide_eq_true (by omega)
    have e2 : decide (m < 9223372036854775808) = true := decide_eq_true (by omega)
    have e3 : IntKind.i64.wrap (m : Int) = n := by rw [IntKind.wrap_i64]; omega
    rw [show negB n = false from decide_eq_false hneg] at hW k0 ⊢
    clear h hu hbW hP hm hl hneg h1 h2
    go_enter Tryz.func117, Tryz.ntmps117
    go_wp2_with fail
    rw [← hW]
    refine HWO.out.mono ?_
    rintro e w1 ⟨rfl, rfl⟩
    go_wp2_with (go_at_call 55; refine (must_yes _ _).mono ?_; rintro e w' ⟨rfl, rfl⟩)
    go_ret
    exact ⟨rfl, below_one w _⟩
set_option maxHeartbeats 1000000 in
theorem iint_noX (v : Value) (n : Int) (w : World) (h : IsI w v n) (hf : fitI n) (hn : ¬ isInt n) :
    Calls Tryz.prog 117 #[v] w fun e w' => e = fault 3 ∧ Below w.heap.size w w' := by
  obtain ⟨a, c, rfl, hu⟩ := h.form
  obtain ⟨W, hW⟩ : ∃ W, W = w.alloc (.cells #[.bool (negB n), .slice a (Nl.limbs n.natAbs).length c] 78) := ⟨_, rfl⟩
  have hbW : Below w.heap.size w W := by rw [hW]; exact below_one w _
  have hP : W.heap[w.heap.size]? = some (.cells #[.bool (negB n), .slice a (Nl.limbs n.natAbs).length c] 78 (0, 0)) := by rw [hW]; exact heap_alloc_new _ _
  have k0 := cell_of_row _ _ 0 _ _ (0, 0) hP
  have HB := Lib.hid hbW
  obtain ⟨m, hm⟩ : ∃ m, m = n.natAbs := ⟨_, rfl⟩
  obtain ⟨l, hl⟩ : ∃ l, l = (Nl.limbs n.natAbs).length := ⟨_, rfl⟩
  have hnn : n < -9223372036854775808 ∨ 9223372036854775807 < n := by
    by_cases h1 : -9223372036854775808 ≤ n
    · exact .inr (Int.not_le.1 fun h2 => hn ⟨h1, h2⟩)
    · exact .inl (by omega)
  by_cases h64 : m < 18446744073709551616
  · have HWO := Lib.hid (wordOf_yes _ _ W (hu.below hbW) (by rw [← hm]; exact h64))
    rw [← hl] at HWO hW ⊢
    rw [← hm] at HWO
    by_cases hneg : n < 0
    · have e1 : decide ((m : Int) ≤ 9223372036854775808) = false := decide_eq_false (by omega)
      have e2 : decide (m ≤ 9223372036854775808) = false := decide_eq_false (by omega)
      rw [show negB n = true from decide_eq_true hneg] at hW k0 ⊢
      clear h hu hbW hP hm hl hneg hnn hn hf h64
      go_enter Tryz.func117, Tryz.ntmps117
      go_wp2_with fail
      rw [← hW]
      refine HWO.out.mono ?_
      rintro e w1 ⟨rfl, rfl⟩
      go_wp2_with (go_at_call 55; refine (must_no _ _).mono ?_; rintro e w' ⟨rfl, rfl⟩)
      first
        | exact ⟨rfl, rfl, below_one w _⟩
        | exact ⟨rfl, below_one w _⟩
    · have e1 : decide ((m : Int) < 9223372036854775808) = false := decide_eq_false (by omega)
      have e2 : decide (m < 9223372036854775808) = false := decide_eq_false (by omega)
      rw [show negB n = false from decide_eq_false hneg] at hW k0 ⊢
      clear h hu hbW hP hm hl hneg hnn hn hf h64
      go_enter Tryz.func117, Tryz.ntmps117
      go_wp2_with fail
      rw [← hW]
      refine HWO.out.mono ?_
      rintro e w1 ⟨rfl, rfl⟩
      go_wp2_with (go_at_call 55; refine (must_no _ _).mono ?_; rintro e w' ⟨rfl, rfl⟩)
      first
        | exact ⟨rfl, rfl, below_one w _⟩
        | exact ⟨rfl, below_one w _⟩
  · have HWO := Lib.hid (wordOf_noX _ _ W (hu.below hbW) hf (by rw [← hm]; exact h64))
    rw [← hl] at HWO hW ⊢
    clear h hu hbW hP hm hl hnn hn hf h64
    go_enter Tryz.func117, Tryz.ntmps117
    go_wp2_with fail
    rw [← hW]
    refine HWO.out.mono ?_
    rintro e w1 ⟨rfl, rfl⟩
    first
      | exact ⟨rfl, rfl, by rw [hW]; exact below_one w _⟩
      | exact ⟨rfl, rfl, HB.out⟩
      | exact ⟨rfl, HB.out⟩
      | exact ⟨rfl, below_one w _⟩
def intKX (n : Int) : Int := if isInt n then 0 else 3
theorem iint_doesX (v : Value) (n : Int) (w : World) (h : IsI w v n) (hf : fitI n) :
    Calls Tryz.prog 117 #[v] w fun e w' => Below w.heap.size w w' ∧ ((intKX n = 0 ∧ e = .returned (.int .i64 n)) ∨ (intKX n ≠ 0 ∧ e = fault (intKX n))) := by
  by_cases hn : isInt n
  · exact (iint_yesX v n w h hn).mono fun e w' h => ⟨h.2, .inl ⟨by rw [intKX, if_pos hn], h.1⟩⟩
  · exact (iint_noX v n w h hf hn).mono fun e w' h => ⟨h.2, .inr ⟨by rw [intKX, if_neg hn]; decide, by rw [intKX, if_neg hn]; exact h.1⟩⟩
set_option maxHeartbeats 1000000 in
theorem ToInt_1_doesX (s0 : Bool) (p0 : Option Addr) (l0 c0 : Nat) (a : Int) (K : Nat) (w : World) (h0 : BoxI w (K) s0 p0 l0 c0) (g0 : IsI w (.agg #[.bool s0, .slice p0 l0 c0]) a) (f0 : fitI a) :
    CntDoes 116 #[.pointer (some ⟨K, 0, none⟩)] w (intKX a) (a) := by
  intro W hW
  have b0 := (hW.block (K) (lt_of_block h0)).trans h0
  have k00 := cell_of_row _ _ 0 _ _ (0, 0) b0
  have k01 := cell_of_row _ _ 1 _ _ (0, 0) b0
  simp only [List.getElem?_toArray, List.getElem?_cons_zero, List.getElem?_cons_succ] at k00 k01
  have hc := iint_doesX _ a W (g0.below hW) f0
  obtain ⟨k, hk⟩ : ∃ k : Int, k = intKX a := ⟨_, rfl⟩
  obtain ⟨x, hx⟩ : ∃ x : Int, x = a := ⟨_, rfl⟩
  rw [← hk, ← hx] at hc ⊢
  have HC := Lib.hid hc
  clear h0 g0 f0 b0 hW hc hk hx
  go_enter Tryz.func116, Tryz.ntmps116
  go_wp2_with fail
  refine HC.out.mono ?_
  rintro e w1 ⟨hb1, ⟨hf, rfl⟩ | ⟨hf, rfl⟩⟩
  · have HH := Lib.hid (And.intro hb1 hf)
    clear hb1 hf HC
    go_wp2_with fail
    go_ret
    exact ⟨HH.out.1, .inl ⟨HH.out.2, rfl⟩⟩
  · first
      | exact ⟨rfl, hb1, .inr ⟨hf, rfl⟩⟩
      | exact ⟨hb1, .inr ⟨hf, rfl⟩⟩
set_option maxHeartbeats 1000000 in
theorem wholeToInt_anyX (v0 : Value) (s0 : Bool) (xs : List Nat) (w : World) (h0 : AtI w v0 s0 xs) (m0 : Nl.Small xs) :
    Calls Tryz.prog 53 #[v0] w fun e w' => ResC w w' e (validI s0 xs) (intKX (sgn s0 (Nl.val xs))) ((sgn s0 (Nl.val xs))) := by
  have hmf : ∀ (fn : Fn) (first cap : Array Value) (w : World), (Instr.makeFunc fn first cap).run Tryz.prog w = .ok (.func fn first cap) w := fun _ _ _ _ => rfl
  obtain ⟨p0, c0, rfl, u0⟩ := h0.form
  obtain ⟨W, hW⟩ : ∃ W, W = (w.alloc (.cells #[.bool s0, .slice p0 xs.length c0] 25)).alloc (.cells #[.bool s0, .slice p0 xs.length c0] 25) := ⟨_, rfl⟩
  have hb : Below w.heap.size w W := by rw [hW]; exact (((Below.refl _ _).alloc (by simp <;> omega) _).alloc (by simp <;> omega) _)
  have hs : W.heap.size = w.heap.size + 2 := by rw [hW]; simp
  have B0 : W.heap[w.heap.size + 0]? = some (.cells #[.bool s0, .slice p0 xs.length c0] 25 (0, 0)) := by rw [hW]; exact al_keep _ _ (by simp <;> omega) (al_at _ _ (by simp))
  have B1 : W.heap[w.heap.size + 1]? = some (.cells #[.bool s0, .slice p0 xs.length c0] 25 (0, 0)) := by rw [hW]; exact al_at _ _ (by simp)
  have HO := Lib.hid (icount_any 116 #[.pointer (some ⟨w.heap.size, 0, none⟩)] W (intKX (sgn s0 (Nl.val xs))) ((sgn s0 (Nl.val xs))) (w.heap.size + 1) [(s0, .slice p0 xs.length c0, xs)] (givenI_one (w.heap.size + 1) B1 (u0.below hb)) (by omega) (by simp) (fun hall => by
    have o0 := isI_of_ok (u0.below hb) m0 (hall (s0, .slice p0 xs.length c0, xs) (by simp))
    exact ToInt_1_doesX _ _ _ _ _ w.heap.size W B0 o0.1 o0.2) (fun _ _ => by kernel_rfl))
  have HB := Lib.hid hb
  clear h0 u0 m0 hb hs B0 B1
  go_enter Tryz.func53, Tryz.ntmps53
  go_wp2_with fail
  rw [← hW]
  clear hW
  refine HO.out.mono ?_
  rintro e w1 ⟨c, hc, rfl, hb1⟩
  have HR := Lib.hid (And.intro hc hb1)
  clear hc hb1 HO
  obtain ⟨y, hy⟩ : ∃ y : Int, y = if c = 0 then (sgn s0 (Nl.val xs)) else 0 := ⟨_, rfl⟩
  rw [← hy]
  have HY := Lib.hid hy
  clear hy
  go_wp2_with fail
  go_ret2
  refine ⟨c, ?_, by rw [← HY.out]; rfl, HB.out.trans (HR.out.2.mono HB.out.size)⟩
  rcases HR.out.1 with ⟨hall, h1⟩ | ⟨⟨q, hq, h5⟩, h1⟩
  · rw [h1, if_pos (by exact hall (s0, .slice p0 xs.length c0, xs) (by simp))]
  · rw [h1, if_neg]
    intro hok
    simp only [List.mem_singleton] at hq; subst hq; exact Bool.noConfusion (h5.symm.trans hok)
end Go.Proofs.YtkbghamkalidcaaGreat
