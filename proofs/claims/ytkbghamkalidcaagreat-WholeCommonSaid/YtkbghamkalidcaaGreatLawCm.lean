/-
  WholeCommon returns true for any three integers. Written by wip/tool/genlawcm.py. Conditions: those that each theorem names.
-/
import Derived.Test.YtkbghamkalidcaaGreatInvWAll
import Derived.Test.YtkbghamkalidcaaGreatLawRingAll
import Derived.Test.YtkbghamkalidcaaGreatGcdW
namespace Go.Proofs.YtkbghamkalidcaaGreat
open Go.RowKit

theorem g_all (a b : Int) : 0 ≤ cG a b ∧ a * cX a b + b * cY a b = cG a b ∧ cG a b ∣ a ∧ cG a b ∣ b ∧ (b ≠ 0 → 0 ≤ cX a b ∧ cX a b * cG a b < b.natAbs) ∧ (cG a b = 0 → a = 0 ∧ b = 0) := by
  unfold cG cX cY
  by_cases hb : b = 0
  · rw [if_pos hb, if_pos hb, if_pos hb, hb]
    refine ⟨by omega, ?_, ?_, Int.dvd_zero _, fun h => absurd rfl h, fun h => ⟨by omega, rfl⟩⟩
    · unfold sgnI
      split
      · omega
      · split <;> omega
    · exact Int.natAbs_dvd.2 (Int.dvd_refl a)
  · rw [if_neg hb, if_neg hb, if_neg hb]
    obtain ⟨h0, h1, h2, h3, h4, h5⟩ := g_facts a b hb
    exact ⟨by omega, h1, h2, h3, fun _ => ⟨h4, h5⟩, fun h => by omega⟩
theorem cX_le (a b : Int) : (cX a b).natAbs ≤ max b.natAbs 1 := by
  obtain ⟨h0, -, -, -, h4, h5⟩ := g_all a b
  by_cases hb : b = 0
  · unfold cX
    rw [if_pos hb]
    unfold sgnI
    split
    · omega
    · split <;> omega
  · obtain ⟨h6, h7⟩ := h4 hb
    have h8 : 1 ≤ cG a b := by
      rcases Int.lt_or_le (cG a b) 1 with h | h
      · exact absurd (h5 (by omega)).2 hb
      · exact h
    have h9 : cX a b * 1 ≤ cX a b * cG a b := Int.mul_le_mul_of_nonneg_left h8 h6
    omega
theorem cG_le (a b : Int) : (cG a b).natAbs ≤ max a.natAbs b.natAbs := by
  obtain ⟨h0, -, h2, h3, -, -⟩ := g_all a b
  by_cases hb : b = 0
  · unfold cG; rw [if_pos hb]; omega
  · have := Nat.le_of_dvd (show 0 < b.natAbs by omega) (Int.natAbs_dvd_natAbs.2 h3)
    omega
theorem cY_le (a b : Int) : (cY a b).natAbs ≤ a.natAbs + 1 := by
  obtain ⟨h0, h1, h2, h3, h4, h5⟩ := g_all a b
  by_cases hb : b = 0
  · unfold cY
    rw [if_pos hb]; simp
  · obtain ⟨h6, h7⟩ := h4 hb
    have hx := cX_le a b
    have hg := Nat.le_of_dvd (show 0 < b.natAbs by omega) (Int.natAbs_dvd_natAbs.2 h3)
    have hxb : (cX a b).natAbs ≤ b.natAbs := by omega
    have e1 : (b * cY a b).natAbs ≤ (a * cX a b).natAbs + (cG a b).natAbs := by omega
    rw [Int.natAbs_mul, Int.natAbs_mul] at e1
    have e2 : a.natAbs * (cX a b).natAbs ≤ a.natAbs * b.natAbs := Nat.mul_le_mul_left _ hxb
    have e3 : b.natAbs * (cY a b).natAbs ≤ b.natAbs * (a.natAbs + 1) := by rw [Nat.mul_add, Nat.mul_one, Nat.mul_comm b.natAbs a.natAbs]; omega
    exact Nat.le_of_mul_le_mul_left e3 (by omega)
theorem one_of_dvd {g x y u v : Int} (h0 : 0 ≤ g) (h1 : g ∣ x) (h2 : g ∣ y) (h : x * u + y * v = 1) : g = 1 := by
  have h3 : g ∣ 1 := by rw [← h]; exact Int.dvd_add (Int.dvd_mul_of_dvd_left h1) (Int.dvd_mul_of_dvd_left h2)
  exact Int.eq_one_of_dvd_one h0 h3
/-- the inverse of the inverse -/
theorem inv_inv {a b r q : Int} (hb : 0 < b) (hg : cG a b = 1) (hr : a = q * b + r) (r0 : 0 ≤ r) (r1 : r < b) : cG (cX a b) b = 1 ∧ cX (cX a b) b = r := by
  obtain ⟨-, e1, -, -, e4, -⟩ := g_all a b
  rw [hg] at e1 e4
  obtain ⟨x0, x1⟩ := e4 (by omega)
  obtain ⟨f0, f1, f2, f3, f4, -⟩ := g_all (cX a b) b
  have k1 : cG (cX a b) b = 1 := one_of_dvd (u := a) (v := cY a b) f0 f2 f3 (by rw [Int.mul_comm]; exact e1)
  rw [k1] at f1 f4
  obtain ⟨y0, y1⟩ := f4 (by omega)
  refine ⟨k1, ?_⟩
  generalize cX (cX a b) b = w at *
  generalize cY (cX a b) b = y' at *
  generalize cX a b = v at *
  generalize cY a b = y at *
  have h1 : w - r = b * (w * y - a * y' + q) := by grind
  generalize w * y - a * y' + q = k at *
  have h2 : k = 0 := by
    rcases Int.lt_trichotomy k 0 with h | h | h
    · have : b * k ≤ b * (-1) := Int.mul_le_mul_of_nonneg_left (by omega) (by omega)
      omega
    · exact h
    · have : b * 1 ≤ b * k := Int.mul_le_mul_of_nonneg_left (by omega) (by omega)
      omega
  rw [h2] at h1
  omega

theorem len_cX {a b : Int} {k : Nat} (hk : 1 ≤ k) (lb : (Nl.limbs b.natAbs).length ≤ k) : (Nl.limbs (cX a b).natAbs).length ≤ k := by
  have h := cX_le a b
  have h1 : (Nl.limbs 1).length ≤ 1 := Nl.limbs_lt (show 1 < 4294967296 ^ 1 by decide)
  rcases Nat.le_total b.natAbs 1 with h2 | h2
  · exact Nat.le_trans (Nl.limbs_mono (show (cX a b).natAbs ≤ 1 by omega)) (Nat.le_trans h1 hk)
  · exact Nat.le_trans (Nl.limbs_mono (show (cX a b).natAbs ≤ b.natAbs by omega)) lb
theorem len_cG {a b : Int} {k : Nat} (la : (Nl.limbs a.natAbs).length ≤ k) (lb : (Nl.limbs b.natAbs).length ≤ k) : (Nl.limbs (cG a b).natAbs).length ≤ k := by
  have h := cG_le a b
  rcases Nat.le_total b.natAbs a.natAbs with h2 | h2
  · exact Nat.le_trans (Nl.limbs_mono (show (cG a b).natAbs ≤ a.natAbs by omega)) la
  · exact Nat.le_trans (Nl.limbs_mono (show (cG a b).natAbs ≤ b.natAbs by omega)) lb
theorem len_cY {a b : Int} {k : Nat} (la : (Nl.limbs a.natAbs).length ≤ k) : (Nl.limbs (cY a b).natAbs).length ≤ k + 1 := by
  have h1 : (Nl.limbs 1).length ≤ 1 := Nl.limbs_lt (show 1 < 4294967296 ^ 1 by decide)
  have h2 := Nl.len_add a.natAbs 1
  by_cases h0 : k = 0
  · subst h0
    have h3 := limbs_nil.1 (Nat.le_zero.1 la)
    have h := cY_le a b
    exact Nat.le_trans (Nl.limbs_mono (show (cY a b).natAbs ≤ 1 by omega)) h1
  · exact Nat.le_trans (Nl.limbs_mono (cY_le a b)) (by omega)
theorem len_mulI {a b : Int} {j k : Nat} (la : (Nl.limbs a.natAbs).length ≤ j) (lb : (Nl.limbs b.natAbs).length ≤ k) : (Nl.limbs (a * b).natAbs).length ≤ j + k := by
  rw [Int.natAbs_mul]
  exact Nat.le_trans (Nl.len_mul _ _) (by omega)
theorem wMulL (va vb : Value) (x y : Int) (w : World) (ha : IsI w va x) (hb : IsI w vb y) (la : (Nl.limbs x.natAbs).length ≤ 100) (lb : (Nl.limbs y.natAbs).length ≤ 100) :
    Calls Tryz.prog 29 #[va, vb] w fun e w' => (∃ s p l c, e = .returned (.agg #[.bool s, .slice p l c]) ∧ IsI w' (.agg #[.bool s, .slice p l c]) (x * y)) ∧ Below w.heap.size w w' := by
  refine (mul_law va vb x y 100 100 w ⟨ha, la⟩ ⟨hb, lb⟩ (by decide) (by decide) (by decide)).mono ?_
  rintro e w' ⟨⟨s, p, l, c, rfl, h⟩, hb⟩
  exact ⟨⟨_, _, _, _, rfl, h.1⟩, hb⟩
theorem wGcdL (va vb : Value) (x y : Int) (w : World) (ha : IsI w va x) (hb : IsI w vb y) (la : (Nl.limbs x.natAbs).length ≤ 50) (lb : (Nl.limbs y.natAbs).length ≤ 50) :
    Calls Tryz.prog 30 #[va, vb] w fun e w' => (∃ (_s : Bool) (p : Option Addr) (l c : Nat) (s' : Bool) (p' : Option Addr) (l' c' : Nat) (s'' : Bool) (p'' : Option Addr) (l'' c'' : Nat), e = .returned (.tuple #[.agg #[.bool false, .slice p l c], .agg #[.bool s', .slice p' l' c'], .agg #[.bool s'', .slice p'' l'' c''], .int .i64 0]) ∧
      IsI w' (.agg #[.bool false, .slice p l c]) (cG x y) ∧ IsI w' (.agg #[.bool s', .slice p' l' c']) (cX x y) ∧ IsI w' (.agg #[.bool s'', .slice p'' l'' c'']) (cY x y)) ∧ Below w.heap.size w w' := by
  refine (wholeGcd_ok va vb (negB x) (negB y) (Nl.limbs x.natAbs) (Nl.limbs y.natAbs) (cG x y) (cX x y) (cY x y) w ha hb (validI_of (Nat.le_trans la (by decide))) (validI_of (Nat.le_trans lb (by decide))) (Nat.le_trans (len_cG la lb) (by decide)) (Nat.le_trans (len_cX (by decide) lb) (by decide)) (Nat.le_trans (len_cY la) (by decide)) (fun w' hw' => common_any va vb x y w' (ha.below hw') (hb.below hw') la lb)).mono ?_
  rintro e w' ⟨⟨u, v, t, rfl, hu, hv, ht⟩, hb⟩
  obtain ⟨p, c, rfl, -⟩ := AtI.form hu
  obtain ⟨p', c', rfl, -⟩ := AtI.form hv
  obtain ⟨p'', c'', rfl, -⟩ := AtI.form ht
  rw [show negB (cG x y) = false from decide_eq_false (by have := cG_nonneg x y; omega)] at hu ⊢
  exact ⟨⟨false, _, _, _, _, _, _, _, _, _, _, _, rfl, hu, hv, ht⟩, hb⟩
theorem wInvL (va vb : Value) (x y : Int) (w : World) (ha : IsI w va x) (hb : IsI w vb y) (la : (Nl.limbs x.natAbs).length ≤ 50) (lb : (Nl.limbs y.natAbs).length ≤ 50) (hk : invK x y = 0) :
    Calls Tryz.prog 32 #[va, vb] w fun e w' => (∃ s p l c, e = .returned (.tuple #[.agg #[.bool s, .slice p l c], .int .i64 0]) ∧ IsI w' (.agg #[.bool s, .slice p l c]) (cX x y)) ∧ Below w.heap.size w w' := by
  have hw := wholeInverse_any va (negB x) (Nl.limbs x.natAbs) vb (negB y) (Nl.limbs y.natAbs) w ha (Nl.limbs_small _) hb (Nl.limbs_small _) (by rw [sgn_val]; exact la) (by rw [sgn_val]; exact lb)
  rw [sgn_val, sgn_val, hk] at hw
  refine hw.mono ?_
  rintro e w' ⟨c, hc, ⟨v, rfl, h3, h4⟩, hb⟩
  rw [if_pos (by rw [validI_of (Nat.le_trans la (by decide)), validI_of (Nat.le_trans lb (by decide))]; rfl), codeI_fit (show fitI _ from Nat.le_trans (len_cX (by decide) lb) (by decide))] at hc
  subst hc
  obtain ⟨p, cp, rfl, hu⟩ := (h3 rfl).form
  exact ⟨⟨_, _, _, _, rfl, h3 rfl⟩, hb⟩
theorem wInvN (va vb : Value) (x y K : Int) (w : World) (hK : K = invK x y) (ha : IsI w va x) (hb : IsI w vb y) (la : (Nl.limbs x.natAbs).length ≤ 50) (lb : (Nl.limbs y.natAbs).length ≤ 50) (hk : K ≠ 0) :
    Calls Tryz.prog 32 #[va, vb] w fun e w' => e = .returned (.tuple #[.agg #[.bool false, .slice none 0 0], .int .i64 K]) ∧ Below w.heap.size w w' := by
  have hw := wholeInverse_any va (negB x) (Nl.limbs x.natAbs) vb (negB y) (Nl.limbs y.natAbs) w ha (Nl.limbs_small _) hb (Nl.limbs_small _) (by rw [sgn_val]; exact la) (by rw [sgn_val]; exact lb)
  rw [sgn_val, sgn_val, ← hK] at hw
  refine hw.mono ?_
  rintro e w' ⟨c, hc, ⟨v, rfl, h3, h4⟩, hb⟩
  rw [if_pos (by rw [validI_of (Nat.le_trans la (by decide)), validI_of (Nat.le_trans lb (by decide))]; rfl), codeI, if_pos hk] at hc
  subst hc
  rw [h4 hk]
  exact ⟨rfl, hb⟩
theorem rem_zero {w : World} {s : Bool} {p : Option Addr} {l c : Nat} {x y : Int} (h : IsI w (.agg #[.bool s, .slice p l c]) (divR 1 x y)) (hd : y ∣ x) : l = 0 := by
  have hz : x.natAbs % y.natAbs = 0 := Nat.mod_eq_zero_of_dvd (Int.natAbs_dvd_natAbs.2 hd)
  have e : divR 1 x y = 0 := by rw [divR, if_pos (.inl hz), hz]; cases negB x <;> rfl
  rw [(isI_sign h).2, e]
  show (Nl.limbs 0).length = 0
  rw [Nl.limbs_zero]; rfl
theorem invK_zero {x y : Int} (h : invK x y = 0) : 0 < y ∧ cG x y = 1 := by
  unfold invK at h
  by_cases h1 : y = 0
  · rw [if_pos h1] at h; exact absurd h (by decide)
  · rw [if_neg h1] at h
    by_cases h2 : y < 0
    · rw [if_pos h2] at h; exact absurd h (by decide)
    · rw [if_neg h2] at h
      by_cases h3 : cG x y = 1
      · exact ⟨by omega, h3⟩
      · rw [if_neg h3] at h; exact absurd h (by decide)
theorem invK_ok {x y : Int} (h1 : 0 < y) (h2 : cG x y = 1) : invK x y = 0 := by rw [invK, if_neg (by omega), if_neg (by omega), if_pos h2]
/-- the inverse of the inverse is the rest -/
theorem inv_rest {x y : Int} (h : invK x y = 0) : invK (cX x y) y = 0 ∧ cX (cX x y) y = divR 3 x y := by
  obtain ⟨h1, h2⟩ := invK_zero h
  have h3 := divR_eq 3 x y (by omega)
  have h4 := divR_less 3 x y (by omega)
  have h5 : 0 ≤ divR 3 x y := by have := of_decide_eq_false (divR_euclid_way x y (by omega)); omega
  obtain ⟨k1, k2⟩ := inv_inv (a := x) (b := y) (r := divR 3 x y) (q := divQ 3 x y) h1 h2 (by omega) h5 (by omega)
  exact ⟨invK_ok h1 k1, k2⟩
theorem cG_of_zero (x y : Int) : cG (x * 0) (y * 0) = 0 := by rw [Int.mul_zero, Int.mul_zero]; unfold cG; rw [if_pos rfl]; rfl

set_option maxRecDepth 10000 in
set_option maxHeartbeats 32000000 in
theorem wholeCommon_any (va vb vc : Value) (sa sb sc : Bool) (xa xb xc : List Nat) (w : World) (ha : AtI w va sa xa) (hb : AtI w vb sb xb) (hc : AtI w vc sc xc) (ma : Nl.Small xa) (mb : Nl.Small xb) (mc : Nl.Small xc) :
    Calls Tryz.prog 5 #[va, vb, vc] w fun e w' => e = .returned (.bool true) ∧ Below w.heap.size w w' := by
  obtain ⟨pa, ca, rfl, ua⟩ := ha.form
  obtain ⟨la, hla⟩ : ∃ la, la = xa.length := ⟨_, rfl⟩
  rw [← hla] at ua ha ⊢
  obtain ⟨pb, cb, rfl, ub⟩ := hb.form
  obtain ⟨lb, hlb⟩ : ∃ lb, lb = xb.length := ⟨_, rfl⟩
  rw [← hlb] at ub hb ⊢
  obtain ⟨pc, cc, rfl, uc⟩ := hc.form
  obtain ⟨lc, hlc⟩ : ∃ lc, lc = xc.length := ⟨_, rfl⟩
  rw [← hlc] at uc hc ⊢
  obtain ⟨W, hW⟩ : ∃ W, W = ((w.alloc (.cells #[.bool sa, .slice pa la ca] 25)).alloc (.cells #[.bool sb, .slice pb lb cb] 25)).alloc (.cells #[.bool sc, .slice pc lc cc] 25) := ⟨_, rfl⟩
  have hbW : Below w.heap.size w W := by rw [hW]; exact three_new w _ _ _
  have Ba : W.heap[w.heap.size]? = some (.cells #[.bool sa, .slice pa la ca] 25 (0, 0)) := by rw [hW]; exact al_keep _ _ (by simp <;> omega) (al_keep _ _ (by simp <;> omega) (al_at _ _ (by simp)))
  have Bb : W.heap[w.heap.size + 1]? = some (.cells #[.bool sb, .slice pb lb cb] 25 (0, 0)) := by rw [hW]; exact al_keep _ _ (by simp <;> omega) (al_at _ _ (by simp))
  have Bc : W.heap[w.heap.size + 1 + 1]? = some (.cells #[.bool sc, .slice pc lc cc] 25 (0, 0)) := by rw [hW]; exact al_at _ _ (by simp)
  have HW := Lib.hid hbW
  have HR := Lib.hid (And.intro Ba (And.intro Bb Bc))
  have HU := Lib.hid (And.intro (ua.below hbW) (And.intro (ub.below hbW) (uc.below hbW)))
  have HM := Lib.hid (And.intro ma (And.intro mb mc))
  clear ha hb hc ua ub uc ma mb mc hla hlb hlc hbW Ba Bb Bc
  go_enter Tryz.func5, Tryz.ntmps5
  go_wp2_with fail
  rw [← hW]
  clear hW
  refine (awake_any W).mono ?_
  rintro e w1 ⟨rfl, hb1⟩
  have Ra := (hb1.block _ (lt_of_block HR.out.1)).trans HR.out.1
  have c0a := cell_of_row _ _ 0 _ _ (0, 0) Ra
  have c1a := cell_of_row _ _ 1 _ _ (0, 0) Ra
  simp only [List.getElem?_toArray, List.getElem?_cons_zero, List.getElem?_cons_succ] at c0a c1a
  have Rb := (hb1.block _ (lt_of_block HR.out.2.1)).trans HR.out.2.1
  have c0b := cell_of_row _ _ 0 _ _ (0, 0) Rb
  have c1b := cell_of_row _ _ 1 _ _ (0, 0) Rb
  simp only [List.getElem?_toArray, List.getElem?_cons_zero, List.getElem?_cons_succ] at c0b c1b
  have Rc := (hb1.block _ (lt_of_block HR.out.2.2)).trans HR.out.2.2
  have c0c := cell_of_row _ _ 0 _ _ (0, 0) Rc
  have c1c := cell_of_row _ _ 1 _ _ (0, 0) Rc
  simp only [List.getElem?_toArray, List.getElem?_cons_zero, List.getElem?_cons_succ] at c0c c1c
  obtain ⟨G, hG⟩ : ∃ G, G = w1.alloc (.cells #[.bool sa, .slice pa la ca, .bool sb, .slice pb lb cb, .bool sc, .slice pc lc cc] 25) := ⟨_, rfl⟩
  have hg : Below w1.heap.size w1 G := by rw [hG]; exact below_one _ _
  have RG : G.heap[w1.heap.size]? = some (.cells #[.bool sa, .slice pa la ca, .bool sb, .slice pb lb cb, .bool sc, .slice pc lc cc] 25 (0, 0)) := by rw [hG]; exact al_at _ _ rfl
  have hF := fine_law w1.heap.size 20 [(sa, Value.slice pa la ca, xa), (sb, Value.slice pb lb cb, xb), (sc, Value.slice pc lc cc, xc)] G (givenI_three w1.heap.size RG ((HU.out.1.below hb1).below hg) ((HU.out.2.1.below hb1).below hg) ((HU.out.2.2.below hb1).below hg)) (lt_of_block RG) (by simp)
  obtain ⟨fb, hfb⟩ : ∃ fb, fb = List.all [(sa, Value.slice pa la ca, xa), (sb, Value.slice pb lb cb, xb), (sc, Value.slice pc lc cc, xc)] (fineP 20) := ⟨_, rfl⟩
  rw [← hfb] at hF
  have HF := Lib.hid hF
  have HFB := Lib.hid hfb
  have HB1 := Lib.hid (hb1.trans (hg.mono hb1.size))
  clear hF hfb Ra Rb Rc RG hb1 hg
  go_wp2_with fail
  rw [← hG]
  clear hG
  refine HF.out.mono ?_
  rintro e w2 ⟨rfl, hb2⟩
  have hW2 := HB1.out.trans (hb2.mono HB1.out.size)
  clear c0a c1a c0b c1b c0c c1c HF HB1 hb2
  cases fb with
  | false =>
    go_wp2_with fail
    go_ret
    exact ⟨rfl, HW.out.trans (hW2.mono HW.out.size)⟩
  | true =>
    have hall := List.all_eq_true.1 HFB.out.symm
    obtain ⟨na, ka⟩ := fine_one (hall (sa, .slice pa la ca, xa) (by simp)) (HU.out.1.below hW2) HM.out.1
    have Va := Lib.hid (Kept.mk ((hW2.block _ (lt_of_block HR.out.1)).trans HR.out.1) ka.1)
    have La := Lib.hid ka.2
    obtain ⟨nb, kb⟩ := fine_one (hall (sb, .slice pb lb cb, xb) (by simp)) (HU.out.2.1.below hW2) HM.out.2.1
    have Vb := Lib.hid (Kept.mk ((hW2.block _ (lt_of_block HR.out.2.1)).trans HR.out.2.1) kb.1)
    have Lb := Lib.hid kb.2
    obtain ⟨nc, kc⟩ := fine_one (hall (sc, .slice pc lc cc, xc) (by simp)) (HU.out.2.2.below hW2) HM.out.2.2
    have Vc := Lib.hid (Kept.mk ((hW2.block _ (lt_of_block HR.out.2.2)).trans HR.out.2.2) kc.1)
    have Lc := Lib.hid kc.2
    have HB2 := Lib.hid (HW.out.trans (hW2.mono HW.out.size))
    clear hall ka kb kc hW2 HFB HR HU HM HW
    have c0a := Va.out.c0
    have c1a := Va.out.c1
    have c0c := Vc.out.c0
    have c1c := Vc.out.c1
    have HC3 := Lib.hid (wMulL _ _ na nc w2 Va.out.num Vc.out.num (Nat.le_trans La.out (by decide)) (Nat.le_trans Lc.out (by decide)))
    go_wp2_with fail
    refine HC3.out.mono ?_
    rintro e w3 ⟨⟨sm, pm, lm, cm, rfl, him⟩, hbx⟩
    obtain ⟨Z3, hZ3⟩ : ∃ Z3, Z3 = (w3.alloc (.cells #[.bool sm, .slice pm lm cm] 25)) := ⟨_, rfl⟩
    have hz : Below w3.heap.size w3 Z3 := by rw [hZ3]; exact below_one w3 _
    have Rm : Z3.heap[w3.heap.size]? = some (.cells #[.bool sm, .slice pm lm cm] 25 (0, 0)) := by rw [hZ3]; exact al_at _ _ (by simp)
    have Im := him.below hz
    have hs := hbx.trans (hz.mono hbx.size)
    clear him hz
    clear hbx HC3
    have Ya := Lib.hid (Va.out.on hs)
    clear Va
    have Va := Ya
    clear Ya
    have Yb := Lib.hid (Vb.out.on hs)
    clear Vb
    have Vb := Yb
    clear Yb
    have Yc := Lib.hid (Vc.out.on hs)
    clear Vc
    have Vc := Yc
    clear Yc
    have Vm := Lib.hid (Kept.mk Rm Im)
    clear Rm Im
    have HB3 := Lib.hid (below_on HB2.out hs)
    clear hs
    clear c0a c1a c0c c1c
    have c0b := Vb.out.c0
    have c1b := Vb.out.c1
    have c0c := Vc.out.c0
    have c1c := Vc.out.c1
    rw [hZ3] at c0b c1b c0c c1c
    have HC4 := Lib.hid (wMulL _ _ nb nc Z3 Vb.out.num Vc.out.num (Nat.le_trans Lb.out (by decide)) (Nat.le_trans Lc.out (by decide)))
    go_wp2_with fail
    rw [← hZ3]
    clear hZ3
    refine HC4.out.mono ?_
    rintro e w4 ⟨⟨sn, pn, ln, cn, rfl, hin⟩, hbx⟩
    obtain ⟨Z4, hZ4⟩ : ∃ Z4, Z4 = (w4.alloc (.cells #[.bool sn, .slice pn ln cn] 25)) := ⟨_, rfl⟩
    have hz : Below w4.heap.size w4 Z4 := by rw [hZ4]; exact below_one w4 _
    have Rn : Z4.heap[w4.heap.size]? = some (.cells #[.bool sn, .slice pn ln cn] 25 (0, 0)) := by rw [hZ4]; exact al_at _ _ (by simp)
    have In := hin.below hz
    have hs := hbx.trans (hz.mono hbx.size)
    clear hin hz
    clear hbx HC4
    have Ya := Lib.hid (Va.out.on hs)
    clear Va
    have Va := Ya
    clear Ya
    have Yb := Lib.hid (Vb.out.on hs)
    clear Vb
    have Vb := Yb
    clear Yb
    have Yc := Lib.hid (Vc.out.on hs)
    clear Vc
    have Vc := Yc
    clear Yc
    have Ym := Lib.hid (Vm.out.on hs)
    clear Vm
    have Vm := Ym
    clear Ym
    have Vn := Lib.hid (Kept.mk Rn In)
    clear Rn In
    have HB4 := Lib.hid (below_on HB3.out hs)
    clear hs
    clear HB3
    clear c0b c1b c0c c1c
    obtain ⟨M, hM⟩ : ∃ M, M = na * nc := ⟨_, rfl⟩
    obtain ⟨N, hN⟩ : ∃ N, N = nb * nc := ⟨_, rfl⟩
    have LM := Lib.hid (show (Nl.limbs M.natAbs).length ≤ 40 by rw [hM]; exact len_mulI La.out Lc.out)
    have LN := Lib.hid (show (Nl.limbs N.natAbs).length ≤ 40 by rw [hN]; exact len_mulI Lb.out Lc.out)
    rw [← hM] at Vm
    rw [← hN] at Vn
    have HMN := Lib.hid (And.intro hM hN)
    clear hM hN
    have c0m := Vm.out.c0
    have c1m := Vm.out.c1
    have c0n := Vn.out.c0
    have c1n := Vn.out.c1
    rw [hZ4] at c0m c1m c0n c1n
    have HC5 := Lib.hid (wGcdL _ _ M N Z4 Vm.out.num Vn.out.num (Nat.le_trans LM.out (by decide)) (Nat.le_trans LN.out (by decide)))
    go_wp2_with fail
    rw [← hZ4]
    clear hZ4
    refine HC5.out.mono ?_
    rintro e w5 ⟨⟨sg, pg, lg, cg, sx, px, lx, cx, sy, py, ly, cy, rfl, hig, hix, hiy⟩, hbx⟩
    obtain ⟨Z5, hZ5⟩ : ∃ Z5, Z5 = (((w5.alloc (.cells #[.bool false, .slice pg lg cg] 25)).alloc (.cells #[.bool sx, .slice px lx cx] 25)).alloc (.cells #[.bool sy, .slice py ly cy] 25)) := ⟨_, rfl⟩
    have hz : Below w5.heap.size w5 Z5 := by rw [hZ5]; exact three_new w5 _ _ _
    have Rg : Z5.heap[w5.heap.size]? = some (.cells #[.bool false, .slice pg lg cg] 25 (0, 0)) := by rw [hZ5]; exact al_keep _ _ (by simp <;> omega) (al_keep _ _ (by simp <;> omega) (al_at _ _ (by simp)))
    have Rx : Z5.heap[w5.heap.size + 1]? = some (.cells #[.bool sx, .slice px lx cx] 25 (0, 0)) := by rw [hZ5]; exact al_keep _ _ (by simp <;> omega) (al_at _ _ (by simp))
    have Ry : Z5.heap[w5.heap.size + 1 + 1]? = some (.cells #[.bool sy, .slice py ly cy] 25 (0, 0)) := by rw [hZ5]; exact al_at _ _ (by simp)
    have Ig := hig.below hz
    have Ix := hix.below hz
    have Iy := hiy.below hz
    have hs := hbx.trans (hz.mono hbx.size)
    clear hig hix hiy hz
    clear hbx HC5
    have Ya := Lib.hid (Va.out.on hs)
    clear Va
    have Va := Ya
    clear Ya
    have Yb := Lib.hid (Vb.out.on hs)
    clear Vb
    have Vb := Yb
    clear Yb
    have Yc := Lib.hid (Vc.out.on hs)
    clear Vc
    have Vc := Yc
    clear Yc
    have Ym := Lib.hid (Vm.out.on hs)
    clear Vm
    have Vm := Ym
    clear Ym
    have Yn := Lib.hid (Vn.out.on hs)
    clear Vn
    have Vn := Yn
    clear Yn
    have Vg := Lib.hid (Kept.mk Rg Ig)
    clear Rg Ig
    have Vx := Lib.hid (Kept.mk Rx Ix)
    clear Rx Ix
    have Vy := Lib.hid (Kept.mk Ry Iy)
    clear Ry Iy
    have HB5 := Lib.hid (below_on HB4.out hs)
    clear hs
    clear HB4
    clear c0m c1m c0n c1n
    skip
    have hgl := (isI_sign Vg.out.num).2
    have HGA := Lib.hid (g_all M N)
    obtain ⟨G, hG⟩ : ∃ G, G = cG M N := ⟨_, rfl⟩
    obtain ⟨X, hX⟩ : ∃ X, X = cX M N := ⟨_, rfl⟩
    obtain ⟨Y, hY⟩ : ∃ Y, Y = cY M N := ⟨_, rfl⟩
    have LG := Lib.hid (show (Nl.limbs G.natAbs).length ≤ 40 by rw [hG]; exact len_cG LM.out LN.out)
    have LX := Lib.hid (show (Nl.limbs X.natAbs).length ≤ 40 by rw [hX]; exact len_cX (by decide) LN.out)
    have LY := Lib.hid (show (Nl.limbs Y.natAbs).length ≤ 41 by rw [hY]; exact len_cY LM.out)
    rw [← hG] at Vg hgl HGA
    rw [← hX] at Vx HGA
    rw [← hY] at Vy HGA
    have HGX := Lib.hid hG
    have HGL := Lib.hid hgl
    clear hG hX hY hgl
    have z0m : ∀ w', Below Z5.heap.size Z5 w' → w'.cell? ⟨w3.heap.size, 0, none⟩ = some (.bool sm) := fun w' h => (Vm.out.on h).c0
    have z1m : ∀ w', Below Z5.heap.size Z5 w' → w'.cell? ⟨w3.heap.size, 1, none⟩ = some (.slice pm lm cm) := fun w' h => (Vm.out.on h).c1
    have Fm := Lib.hid (fun (w' : World) (h : Below Z5.heap.size Z5 w') => (⟨(Vm.out.on h).num, LM.out⟩ : IsS w' (Value.agg #[.bool sm, .slice pm lm cm]) M 40))
    have z0n : ∀ w', Below Z5.heap.size Z5 w' → w'.cell? ⟨w4.heap.size, 0, none⟩ = some (.bool sn) := fun w' h => (Vn.out.on h).c0
    have z1n : ∀ w', Below Z5.heap.size Z5 w' → w'.cell? ⟨w4.heap.size, 1, none⟩ = some (.slice pn ln cn) := fun w' h => (Vn.out.on h).c1
    have Fn := Lib.hid (fun (w' : World) (h : Below Z5.heap.size Z5 w') => (⟨(Vn.out.on h).num, LN.out⟩ : IsS w' (Value.agg #[.bool sn, .slice pn ln cn]) N 40))
    have z0g : ∀ w', Below Z5.heap.size Z5 w' → w'.cell? ⟨w5.heap.size, 0, none⟩ = some (.bool false) := fun w' h => (Vg.out.on h).c0
    have z1g : ∀ w', Below Z5.heap.size Z5 w' → w'.cell? ⟨w5.heap.size, 1, none⟩ = some (.slice pg lg cg) := fun w' h => (Vg.out.on h).c1
    have Fg := Lib.hid (fun (w' : World) (h : Below Z5.heap.size Z5 w') => (⟨(Vg.out.on h).num, LG.out⟩ : IsS w' (Value.agg #[.bool false, .slice pg lg cg]) G 40))
    have z0x : ∀ w', Below Z5.heap.size Z5 w' → w'.cell? ⟨w5.heap.size + 1, 0, none⟩ = some (.bool sx) := fun w' h => (Vx.out.on h).c0
    have z1x : ∀ w', Below Z5.heap.size Z5 w' → w'.cell? ⟨w5.heap.size + 1, 1, none⟩ = some (.slice px lx cx) := fun w' h => (Vx.out.on h).c1
    have Fx := Lib.hid (fun (w' : World) (h : Below Z5.heap.size Z5 w') => (⟨(Vx.out.on h).num, LX.out⟩ : IsS w' (Value.agg #[.bool sx, .slice px lx cx]) X 40))
    have z0y : ∀ w', Below Z5.heap.size Z5 w' → w'.cell? ⟨w5.heap.size + 1 + 1, 0, none⟩ = some (.bool sy) := fun w' h => (Vy.out.on h).c0
    have z1y : ∀ w', Below Z5.heap.size Z5 w' → w'.cell? ⟨w5.heap.size + 1 + 1, 1, none⟩ = some (.slice py ly cy) := fun w' h => (Vy.out.on h).c1
    have Fy := Lib.hid (fun (w' : World) (h : Below Z5.heap.size Z5 w') => (⟨(Vy.out.on h).num, LY.out⟩ : IsS w' (Value.agg #[.bool sy, .slice py ly cy]) Y 41))
    have hrr : Below Z5.heap.size Z5 Z5 := Below.refl _ _
    have hp := Pend.nil Z5
    go_wp2_with fail
    rw [← hZ5]
    clear hZ5
    go_region_held3 (fun w' => Below Z5.heap.size Z5 w')
      (first
        | assumption
        | exact below_drew0 _
        | exact below_drew1 (by assumption))
      (first
        | (go_at_call 29; refine (mul_law _ _ _ _ _ _ _ (by first | exact Fm.out _ (by first | assumption | exact below_drew0 _) | exact Fn.out _ (by first | assumption | exact below_drew0 _) | exact Fg.out _ (by first | assumption | exact below_drew0 _) | exact Fx.out _ (by first | assumption | exact below_drew0 _) | exact Fy.out _ (by first | assumption | exact below_drew0 _) | exact hp.g0 | exact hp.g1 | exact hp.g2 | exact hp.d.g0 | exact hp.d.g1 | exact hp.d.g2) (by first | exact Fm.out _ (by first | assumption | exact below_drew0 _) | exact Fn.out _ (by first | assumption | exact below_drew0 _) | exact Fg.out _ (by first | assumption | exact below_drew0 _) | exact Fx.out _ (by first | assumption | exact below_drew0 _) | exact Fy.out _ (by first | assumption | exact below_drew0 _) | exact hp.g0 | exact hp.g1 | exact hp.g2 | exact hp.d.g0 | exact hp.d.g1 | exact hp.d.g2) (by decide) (by decide) (by decide)).mono ?_; rintro e wr ⟨⟨t1, t2, t3, t4, rfl, hi⟩, hwr⟩; have hp := (show Pend wr _ from (by first | exact hp.on hwr | exact hp.d.on hwr)).push hi; have belR := below_on (D := Z5) (by first | assumption | exact below_drew0 _) hwr; clear hwr hi)
        | (go_at_call 16; refine (add_law _ _ _ _ _ _ _ (by first | exact Fm.out _ (by first | assumption | exact below_drew0 _) | exact Fn.out _ (by first | assumption | exact below_drew0 _) | exact Fg.out _ (by first | assumption | exact below_drew0 _) | exact Fx.out _ (by first | assumption | exact below_drew0 _) | exact Fy.out _ (by first | assumption | exact below_drew0 _) | exact hp.g0 | exact hp.g1 | exact hp.g2 | exact hp.d.g0 | exact hp.d.g1 | exact hp.d.g2) (by first | exact Fm.out _ (by first | assumption | exact below_drew0 _) | exact Fn.out _ (by first | assumption | exact below_drew0 _) | exact Fg.out _ (by first | assumption | exact below_drew0 _) | exact Fx.out _ (by first | assumption | exact below_drew0 _) | exact Fy.out _ (by first | assumption | exact below_drew0 _) | exact hp.g0 | exact hp.g1 | exact hp.g2 | exact hp.d.g0 | exact hp.d.g1 | exact hp.d.g2) (by decide) (by decide) (by decide)).mono ?_; rintro e wr ⟨⟨t1, t2, t3, t4, rfl, hi⟩, hwr⟩; have hp := (show Pend wr _ from (by first | exact hp.on hwr | exact hp.d.on hwr)).push hi; have belR := below_on (D := Z5) (by first | assumption | exact below_drew0 _) hwr; clear hwr hi)
        | (go_at_call 15; refine (equal_yes _ _ _ _ _ _ _ (by first | exact Fm.out _ (by first | assumption | exact below_drew0 _) | exact Fn.out _ (by first | assumption | exact below_drew0 _) | exact Fg.out _ (by first | assumption | exact below_drew0 _) | exact Fx.out _ (by first | assumption | exact below_drew0 _) | exact Fy.out _ (by first | assumption | exact below_drew0 _) | exact hp.g0 | exact hp.g1 | exact hp.g2 | exact hp.d.g0 | exact hp.d.g1 | exact hp.d.g2) (by first | exact Fm.out _ (by first | assumption | exact below_drew0 _) | exact Fn.out _ (by first | assumption | exact below_drew0 _) | exact Fg.out _ (by first | assumption | exact below_drew0 _) | exact Fx.out _ (by first | assumption | exact below_drew0 _) | exact Fy.out _ (by first | assumption | exact below_drew0 _) | exact hp.g0 | exact hp.g1 | exact hp.g2 | exact hp.d.g0 | exact hp.d.g1 | exact hp.d.g2) (by first | (with_reducible exact HGA.out.2.1) | omega)).mono ?_; rintro e wr ⟨rfl, hwr⟩; have hp := Pend.nil wr; have belR := below_on (D := Z5) (by first | assumption | exact below_drew0 _) hwr; clear hwr))
    have hs : Below Z5.heap.size Z5 wr := by assumption
    clear Vx
    clear Vy
    have Ya := Lib.hid (Va.out.on hs)
    clear Va
    have Va := Ya
    clear Ya
    have Yb := Lib.hid (Vb.out.on hs)
    clear Vb
    have Vb := Yb
    clear Yb
    have Yc := Lib.hid (Vc.out.on hs)
    clear Vc
    have Vc := Yc
    clear Yc
    have Ym := Lib.hid (Vm.out.on hs)
    clear Vm
    have Vm := Ym
    clear Ym
    have Yn := Lib.hid (Vn.out.on hs)
    clear Vn
    have Vn := Yn
    clear Yn
    have Yg := Lib.hid (Vg.out.on hs)
    clear Vg
    have Vg := Yg
    clear Yg
    have HBa := Lib.hid (below_on HB5.out hs)
    clear hs hrr hp z0m z1m Fm z0n z1n Fn z0g z1g Fg z0x z1x Fx z0y z1y Fy
    obtain ⟨D1, hD1⟩ : ∃ D1, D1 = wr := ⟨_, rfl⟩
    rw [← hD1] at Va Vb Vc Vm Vn Vg HBa ⊢
    clear hD1
    have c0g := Vg.out.c0
    have c1g := Vg.out.c1
    by_cases hl0 : lg = 0
    · have d0 : decide (0 < lg) = false := decide_eq_false (by omega)
      have d0' : decide ((lg : Int) > 0) = false := decide_eq_false (by omega)
      clear hl0 HGL HGA HGX HMN Vm Vn LG LX LY LM LN
      obtain ⟨K, hK⟩ : ∃ K, K = invK na nb := ⟨_, rfl⟩
      by_cases hk0 : K = 0
      · have HK0 := Lib.hid (show invK na nb = 0 ∧ invK (cX na nb) nb = 0 ∧ cX (cX na nb) nb = divR 3 na nb ∧ nb ≠ 0 from ⟨hK.symm.trans hk0, (inv_rest (hK.symm.trans hk0)).1, (inv_rest (hK.symm.trans hk0)).2, by have := (invK_zero (hK.symm.trans hk0)).1; omega⟩)
        clear hk0 hK
        have c0a := Va.out.c0
        have c1a := Va.out.c1
        have c0b := Vb.out.c0
        have c1b := Vb.out.c1
        have HC6 := Lib.hid (wInvL _ _ na nb D1 Va.out.num Vb.out.num (Nat.le_trans La.out (by decide)) (Nat.le_trans Lb.out (by decide)) HK0.out.1)
        go_wp2_with fail
        refine HC6.out.mono ?_
        rintro e w6 ⟨⟨sv, pv, lv, cv, rfl, hiv⟩, hbx⟩
        obtain ⟨Z6, hZ6⟩ : ∃ Z6, Z6 = (w6.alloc (.cells #[.bool sv, .slice pv lv cv] 25)) := ⟨_, rfl⟩
        have hz : Below w6.heap.size w6 Z6 := by rw [hZ6]; exact below_one w6 _
        have Rv : Z6.heap[w6.heap.size]? = some (.cells #[.bool sv, .slice pv lv cv] 25 (0, 0)) := by rw [hZ6]; exact al_at _ _ (by simp)
        have Iv := hiv.below hz
        have hs := hbx.trans (hz.mono hbx.size)
        clear hiv hz
        clear hbx HC6
        have Ya := Lib.hid (Va.out.on hs)
        clear Va
        have Va := Ya
        clear Ya
        have Yb := Lib.hid (Vb.out.on hs)
        clear Vb
        have Vb := Yb
        clear Yb
        have Yc := Lib.hid (Vc.out.on hs)
        clear Vc
        have Vc := Yc
        clear Yc
        have Vv := Lib.hid (Kept.mk Rv Iv)
        clear Rv Iv
        have HB6 := Lib.hid (below_on HBa.out hs)
        clear hs
        clear c0a c1a c0b c1b
        have c0v := Vv.out.c0
        have c1v := Vv.out.c1
        have c0b := Vb.out.c0
        have c1b := Vb.out.c1
        rw [hZ6] at c0v c1v c0b c1b
        have HC7 := Lib.hid (wInvL _ _ (cX na nb) nb Z6 Vv.out.num Vb.out.num (Nat.le_trans (len_cX (k := 20) (by decide) Lb.out) (by decide)) (Nat.le_trans Lb.out (by decide)) HK0.out.2.1)
        go_wp2_with fail
        rw [← hZ6]
        clear hZ6
        refine HC7.out.mono ?_
        rintro e w7 ⟨⟨sk, pk, lk, ck, rfl, hik⟩, hbx⟩
        obtain ⟨Z7, hZ7⟩ : ∃ Z7, Z7 = (w7.alloc (.cells #[.bool sk, .slice pk lk ck] 25)) := ⟨_, rfl⟩
        have hz : Below w7.heap.size w7 Z7 := by rw [hZ7]; exact below_one w7 _
        have Rk : Z7.heap[w7.heap.size]? = some (.cells #[.bool sk, .slice pk lk ck] 25 (0, 0)) := by rw [hZ7]; exact al_at _ _ (by simp)
        have Ik := hik.below hz
        have hs := hbx.trans (hz.mono hbx.size)
        clear hik hz
        clear hbx HC7
        have Ya := Lib.hid (Va.out.on hs)
        clear Va
        have Va := Ya
        clear Ya
        have Yb := Lib.hid (Vb.out.on hs)
        clear Vb
        have Vb := Yb
        clear Yb
        have Yc := Lib.hid (Vc.out.on hs)
        clear Vc
        have Vc := Yc
        clear Yc
        have Yv := Lib.hid (Vv.out.on hs)
        clear Vv
        have Vv := Yv
        clear Yv
        have Vk := Lib.hid (Kept.mk Rk Ik)
        clear Rk Ik
        have HB7 := Lib.hid (below_on HB6.out hs)
        clear hs
        clear c0v c1v c0b c1b
        have c0a := Va.out.c0
        have c1a := Va.out.c1
        have c0b := Vb.out.c0
        have c1b := Vb.out.c1
        rw [hZ7] at c0a c1a c0b c1b
        have HC8 := Lib.hid (sl_div _ _ na nb 3 3 rfl Z7 Va.out.num Vb.out.num (Nat.le_trans La.out (by decide)) (Nat.le_trans Lb.out (by decide)) HK0.out.2.2.2 (by decide) (by decide))
        go_wp2_with fail
        rw [← hZ7]
        clear hZ7
        refine HC8.out.mono ?_
        rintro e w8 ⟨⟨st, pt, lt, ct, sf, pf, lf, cf, rfl, hit, hif⟩, hbx⟩
        obtain ⟨Z8, hZ8⟩ : ∃ Z8, Z8 = ((w8.alloc (.cells #[.bool st, .slice pt lt ct] 25)).alloc (.cells #[.bool sf, .slice pf lf cf] 25)) := ⟨_, rfl⟩
        have hz : Below w8.heap.size w8 Z8 := by rw [hZ8]; exact two_new w8 _ _
        have Rt : Z8.heap[w8.heap.size]? = some (.cells #[.bool st, .slice pt lt ct] 25 (0, 0)) := by rw [hZ8]; exact al_keep _ _ (by simp <;> omega) (al_at _ _ (by simp))
        have Rf : Z8.heap[w8.heap.size + 1]? = some (.cells #[.bool sf, .slice pf lf cf] 25 (0, 0)) := by rw [hZ8]; exact al_at _ _ (by simp)
        have It := hit.below hz
        have If := hif.below hz
        have hs := hbx.trans (hz.mono hbx.size)
        clear hit hif hz
        clear hbx HC8
        have Ya := Lib.hid (Va.out.on hs)
        clear Va
        have Va := Ya
        clear Ya
        have Yb := Lib.hid (Vb.out.on hs)
        clear Vb
        have Vb := Yb
        clear Yb
        have Yc := Lib.hid (Vc.out.on hs)
        clear Vc
        have Vc := Yc
        clear Yc
        have Yv := Lib.hid (Vv.out.on hs)
        clear Vv
        have Vv := Yv
        clear Yv
        have Yk := Lib.hid (Vk.out.on hs)
        clear Vk
        have Vk := Yk
        clear Yk
        have Vt := Lib.hid (Kept.mk Rt It)
        clear Rt It
        have Vf := Lib.hid (Kept.mk Rf If)
        clear Rf If
        have HB8 := Lib.hid (below_on HB7.out hs)
        clear hs
        clear HB7
        clear c0a c1a c0b c1b
        have c0k := Vk.out.c0
        have c1k := Vk.out.c1
        have c0f := Vf.out.c0
        have c1f := Vf.out.c1
        rw [hZ8] at c0k c1k c0f c1f
        have HC9 := Lib.hid (equal_yes _ _ _ _ _ _ Z8 ⟨Vk.out.num, Nat.le_refl _⟩ ⟨Vf.out.num, Nat.le_refl _⟩ HK0.out.2.2.1)
        go_wp2_with fail
        rw [← hZ8]
        clear hZ8
        refine HC9.out.mono ?_
        rintro e w9 ⟨rfl, hbx⟩
        have hs := hbx
        clear hbx HC9
        have Ya := Lib.hid (Va.out.on hs)
        clear Va
        have Va := Ya
        clear Ya
        have Yb := Lib.hid (Vb.out.on hs)
        clear Vb
        have Vb := Yb
        clear Yb
        have Yc := Lib.hid (Vc.out.on hs)
        clear Vc
        have Vc := Yc
        clear Yc
        have Yv := Lib.hid (Vv.out.on hs)
        clear Vv
        have Vv := Yv
        clear Yv
        have Yk := Lib.hid (Vk.out.on hs)
        clear Vk
        have Vk := Yk
        clear Yk
        have Yt := Lib.hid (Vt.out.on hs)
        clear Vt
        have Vt := Yt
        clear Yt
        have Yf := Lib.hid (Vf.out.on hs)
        clear Vf
        have Vf := Yf
        clear Yf
        have HB9 := Lib.hid (below_on HB8.out hs)
        clear hs
        clear HB8
        clear c0k c1k c0f c1f
        go_wp2_with fail
        go_ret
        exact ⟨rfl, HB9.out⟩
      · have HK := Lib.hid hK
        clear hK
        have c0a := Va.out.c0
        have c1a := Va.out.c1
        have c0b := Vb.out.c0
        have c1b := Vb.out.c1
        have HN := Lib.hid (wInvN _ _ na nb K D1 HK.out Va.out.num Vb.out.num (Nat.le_trans La.out (by decide)) (Nat.le_trans Lb.out (by decide)) hk0)
        have ek : (K != 0) = true := by simpa using hk0
        go_wp2_with fail
        refine HN.out.mono ?_
        rintro e wz ⟨rfl, hbz⟩
        have HBz := Lib.hid (below_on HBa.out hbz)
        clear hbz HN c0a c1a c0b c1b
        go_wp2_with fail
        go_ret
        exact ⟨rfl, HBz.out.alloc HBz.out.size _⟩
    · have d0 : decide (0 < lg) = true := decide_eq_true (by omega)
      have d0' : decide ((lg : Int) > 0) = true := decide_eq_true (by omega)
      have hG0 : G ≠ 0 := fun h => hl0 (by rw [HGL.out, h]; show (Nl.limbs 0).length = 0; rw [Nl.limbs_zero]; rfl)
      have hc0 : nc ≠ 0 := fun h => hG0 (by rw [HGX.out, HMN.out.1, HMN.out.2, h]; exact cG_of_zero na nb)
      have HNZ := Lib.hid (And.intro hG0 (show ((nc.natAbs : Nat) : Int) ≠ 0 by omega))
      have hdm : G ∣ M := HGA.out.2.2.1
      have hdn : G ∣ N := HGA.out.2.2.2.1
      have hdc : ((nc.natAbs : Nat) : Int) ∣ G := by
        rw [← HGA.out.2.1, HMN.out.1, HMN.out.2]
        exact Int.natAbs_dvd.2 (Int.dvd_add (Int.dvd_mul_of_dvd_left (Int.dvd_mul_left _ _)) (Int.dvd_mul_of_dvd_left (Int.dvd_mul_left _ _)))
      have HDV := Lib.hid (And.intro hdm (And.intro hdn hdc))
      clear hl0 hG0 hc0 hdm hdn hdc HGL HGX HMN
      have c0m := Vm.out.c0
      have c1m := Vm.out.c1
      have HC6 := Lib.hid (sl_div _ _ M G 1 1 rfl D1 Vm.out.num Vg.out.num (Nat.le_trans LM.out (by decide)) (Nat.le_trans LG.out (by decide)) HNZ.out.1 (by decide) (by decide))
      go_wp2_with fail
      refine HC6.out.mono ?_
      rintro e w6 ⟨⟨su, pu, lu, cu, sr, pr, lr, cr, rfl, hiu, hir⟩, hbx⟩
      obtain ⟨Z6, hZ6⟩ : ∃ Z6, Z6 = ((w6.alloc (.cells #[.bool su, .slice pu lu cu] 25)).alloc (.cells #[.bool sr, .slice pr lr cr] 25)) := ⟨_, rfl⟩
      have hz : Below w6.heap.size w6 Z6 := by rw [hZ6]; exact two_new w6 _ _
      have Ru : Z6.heap[w6.heap.size]? = some (.cells #[.bool su, .slice pu lu cu] 25 (0, 0)) := by rw [hZ6]; exact al_keep _ _ (by simp <;> omega) (al_at _ _ (by simp))
      have Rr : Z6.heap[w6.heap.size + 1]? = some (.cells #[.bool sr, .slice pr lr cr] 25 (0, 0)) := by rw [hZ6]; exact al_at _ _ (by simp)
      have Iu := hiu.below hz
      have Ir := hir.below hz
      have hs := hbx.trans (hz.mono hbx.size)
      clear hiu hir hz
      clear hbx HC6
      have Ya := Lib.hid (Va.out.on hs)
      clear Va
      have Va := Ya
      clear Ya
      have Yb := Lib.hid (Vb.out.on hs)
      clear Vb
      have Vb := Yb
      clear Yb
      have Yc := Lib.hid (Vc.out.on hs)
      clear Vc
      have Vc := Yc
      clear Yc
      have Ym := Lib.hid (Vm.out.on hs)
      clear Vm
      have Vm := Ym
      clear Ym
      have Yn := Lib.hid (Vn.out.on hs)
      clear Vn
      have Vn := Yn
      clear Yn
      have Yg := Lib.hid (Vg.out.on hs)
      clear Vg
      have Vg := Yg
      clear Yg
      have Vu := Lib.hid (Kept.mk Ru Iu)
      clear Ru Iu
      have Vr := Lib.hid (Kept.mk Rr Ir)
      clear Rr Ir
      have HB6 := Lib.hid (below_on HBa.out hs)
      clear hs
      clear c0m c1m c0g c1g
      clear d0 d0'
      have c0n := Vn.out.c0
      have c1n := Vn.out.c1
      have c0g := Vg.out.c0
      have c1g := Vg.out.c1
      rw [hZ6] at c0n c1n c0g c1g
      have HC7 := Lib.hid (sl_div _ _ N G 1 1 rfl Z6 Vn.out.num Vg.out.num (Nat.le_trans LN.out (by decide)) (Nat.le_trans LG.out (by decide)) HNZ.out.1 (by decide) (by decide))
      go_wp2_with fail
      rw [← hZ6]
      clear hZ6
      refine HC7.out.mono ?_
      rintro e w7 ⟨⟨st, pt, lt, ct, sd, pd, ld, cd, rfl, hit, hid⟩, hbx⟩
      obtain ⟨Z7, hZ7⟩ : ∃ Z7, Z7 = ((w7.alloc (.cells #[.bool st, .slice pt lt ct] 25)).alloc (.cells #[.bool sd, .slice pd ld cd] 25)) := ⟨_, rfl⟩
      have hz : Below w7.heap.size w7 Z7 := by rw [hZ7]; exact two_new w7 _ _
      have Rt : Z7.heap[w7.heap.size]? = some (.cells #[.bool st, .slice pt lt ct] 25 (0, 0)) := by rw [hZ7]; exact al_keep _ _ (by simp <;> omega) (al_at _ _ (by simp))
      have Rd : Z7.heap[w7.heap.size + 1]? = some (.cells #[.bool sd, .slice pd ld cd] 25 (0, 0)) := by rw [hZ7]; exact al_at _ _ (by simp)
      have It := hit.below hz
      have Id := hid.below hz
      have hs := hbx.trans (hz.mono hbx.size)
      clear hit hid hz
      clear hbx HC7
      have Ya := Lib.hid (Va.out.on hs)
      clear Va
      have Va := Ya
      clear Ya
      have Yb := Lib.hid (Vb.out.on hs)
      clear Vb
      have Vb := Yb
      clear Yb
      have Yc := Lib.hid (Vc.out.on hs)
      clear Vc
      have Vc := Yc
      clear Yc
      have Ym := Lib.hid (Vm.out.on hs)
      clear Vm
      have Vm := Ym
      clear Ym
      have Yn := Lib.hid (Vn.out.on hs)
      clear Vn
      have Vn := Yn
      clear Yn
      have Yg := Lib.hid (Vg.out.on hs)
      clear Vg
      have Vg := Yg
      clear Yg
      have Yu := Lib.hid (Vu.out.on hs)
      clear Vu
      have Vu := Yu
      clear Yu
      have Yr := Lib.hid (Vr.out.on hs)
      clear Vr
      have Vr := Yr
      clear Yr
      have Vt := Lib.hid (Kept.mk Rt It)
      clear Rt It
      have Vd := Lib.hid (Kept.mk Rd Id)
      clear Rd Id
      have HB7 := Lib.hid (below_on HB6.out hs)
      clear hs
      clear c0n c1n c0g c1g
      have c0g := Vg.out.c0
      have c1g := Vg.out.c1
      have c0c := Vc.out.c0
      have c1c := Vc.out.c1
      rw [hZ7] at c0g c1g c0c c1c
      have HC8 := Lib.hid (sl_div _ _ G ((nc.natAbs : Nat) : Int) 1 1 rfl Z7 Vg.out.num (abs_isI Vc.out.num) (Nat.le_trans LG.out (by decide)) (by rw [Int.natAbs_natCast]; exact Nat.le_trans Lc.out (by decide)) HNZ.out.2 (by decide) (by decide))
      go_wp2_with fail
      rw [← hZ7]
      clear hZ7
      refine HC8.out.mono ?_
      rintro e w8 ⟨⟨so, po, lo, co, sj, pj, lj, cj, rfl, hio, hij⟩, hbx⟩
      obtain ⟨Z8, hZ8⟩ : ∃ Z8, Z8 = ((w8.alloc (.cells #[.bool so, .slice po lo co] 25)).alloc (.cells #[.bool sj, .slice pj lj cj] 25)) := ⟨_, rfl⟩
      have hz : Below w8.heap.size w8 Z8 := by rw [hZ8]; exact two_new w8 _ _
      have Ro : Z8.heap[w8.heap.size]? = some (.cells #[.bool so, .slice po lo co] 25 (0, 0)) := by rw [hZ8]; exact al_keep _ _ (by simp <;> omega) (al_at _ _ (by simp))
      have Rj : Z8.heap[w8.heap.size + 1]? = some (.cells #[.bool sj, .slice pj lj cj] 25 (0, 0)) := by rw [hZ8]; exact al_at _ _ (by simp)
      have Io := hio.below hz
      have Ij := hij.below hz
      have hs := hbx.trans (hz.mono hbx.size)
      clear hio hij hz
      clear hbx HC8
      have Ya := Lib.hid (Va.out.on hs)
      clear Va
      have Va := Ya
      clear Ya
      have Yb := Lib.hid (Vb.out.on hs)
      clear Vb
      have Vb := Yb
      clear Yb
      have Yc := Lib.hid (Vc.out.on hs)
      clear Vc
      have Vc := Yc
      clear Yc
      have Ym := Lib.hid (Vm.out.on hs)
      clear Vm
      have Vm := Ym
      clear Ym
      have Yn := Lib.hid (Vn.out.on hs)
      clear Vn
      have Vn := Yn
      clear Yn
      have Yg := Lib.hid (Vg.out.on hs)
      clear Vg
      have Vg := Yg
      clear Yg
      have Yu := Lib.hid (Vu.out.on hs)
      clear Vu
      have Vu := Yu
      clear Yu
      have Yr := Lib.hid (Vr.out.on hs)
      clear Vr
      have Vr := Yr
      clear Yr
      have Yt := Lib.hid (Vt.out.on hs)
      clear Vt
      have Vt := Yt
      clear Yt
      have Yd := Lib.hid (Vd.out.on hs)
      clear Vd
      have Vd := Yd
      clear Yd
      have Vo := Lib.hid (Kept.mk Ro Io)
      clear Ro Io
      have Vj := Lib.hid (Kept.mk Rj Ij)
      clear Rj Ij
      have HB8 := Lib.hid (below_on HB7.out hs)
      clear hs
      clear HB7
      clear c0g c1g c0c c1c
      have zr := rem_zero Vr.out.num HDV.out.1
      have zd := rem_zero Vd.out.num HDV.out.2.1
      have zj := rem_zero Vj.out.num HDV.out.2.2
      have c0r := Vr.out.c0
      have c1r := Vr.out.c1
      have c0d := Vd.out.c0
      have c1d := Vd.out.c1
      have c0j := Vj.out.c0
      have c1j := Vj.out.c1
      rw [hZ8] at c0r c1r c0d c1d c0j c1j
      subst zr zd zj
      clear Vu
      clear Vt
      clear Vo
      clear Vm
      clear Vn
      clear Vg
      clear Vr
      clear Vd
      clear Vj
      obtain ⟨K, hK⟩ : ∃ K, K = invK na nb := ⟨_, rfl⟩
      by_cases hk0 : K = 0
      · have HK0 := Lib.hid (show invK na nb = 0 ∧ invK (cX na nb) nb = 0 ∧ cX (cX na nb) nb = divR 3 na nb ∧ nb ≠ 0 from ⟨hK.symm.trans hk0, (inv_rest (hK.symm.trans hk0)).1, (inv_rest (hK.symm.trans hk0)).2, by have := (invK_zero (hK.symm.trans hk0)).1; omega⟩)
        clear hk0 hK
        have c0a := Va.out.c0
        have c1a := Va.out.c1
        have c0b := Vb.out.c0
        have c1b := Vb.out.c1
        rw [hZ8] at c0a c1a c0b c1b
        have HC9 := Lib.hid (wInvL _ _ na nb Z8 Va.out.num Vb.out.num (Nat.le_trans La.out (by decide)) (Nat.le_trans Lb.out (by decide)) HK0.out.1)
        go_wp2_with fail
        rw [← hZ8]
        clear hZ8
        refine HC9.out.mono ?_
        rintro e w9 ⟨⟨sv, pv, lv, cv, rfl, hiv⟩, hbx⟩
        obtain ⟨Z9, hZ9⟩ : ∃ Z9, Z9 = (w9.alloc (.cells #[.bool sv, .slice pv lv cv] 25)) := ⟨_, rfl⟩
        have hz : Below w9.heap.size w9 Z9 := by rw [hZ9]; exact below_one w9 _
        have Rv : Z9.heap[w9.heap.size]? = some (.cells #[.bool sv, .slice pv lv cv] 25 (0, 0)) := by rw [hZ9]; exact al_at _ _ (by simp)
        have Iv := hiv.below hz
        have hs := hbx.trans (hz.mono hbx.size)
        clear hiv hz
        clear hbx HC9
        have Ya := Lib.hid (Va.out.on hs)
        clear Va
        have Va := Ya
        clear Ya
        have Yb := Lib.hid (Vb.out.on hs)
        clear Vb
        have Vb := Yb
        clear Yb
        have Yc := Lib.hid (Vc.out.on hs)
        clear Vc
        have Vc := Yc
        clear Yc
        have Vv := Lib.hid (Kept.mk Rv Iv)
        clear Rv Iv
        have HB9 := Lib.hid (below_on HB8.out hs)
        clear hs
        clear HB8
        clear c0a c1a c0b c1b
        have c0v := Vv.out.c0
        have c1v := Vv.out.c1
        have c0b := Vb.out.c0
        have c1b := Vb.out.c1
        rw [hZ9] at c0v c1v c0b c1b
        have HC10 := Lib.hid (wInvL _ _ (cX na nb) nb Z9 Vv.out.num Vb.out.num (Nat.le_trans (len_cX (k := 20) (by decide) Lb.out) (by decide)) (Nat.le_trans Lb.out (by decide)) HK0.out.2.1)
        go_wp2_with fail
        rw [← hZ9]
        clear hZ9
        refine HC10.out.mono ?_
        rintro e w10 ⟨⟨sk, pk, lk, ck, rfl, hik⟩, hbx⟩
        obtain ⟨Z10, hZ10⟩ : ∃ Z10, Z10 = (w10.alloc (.cells #[.bool sk, .slice pk lk ck] 25)) := ⟨_, rfl⟩
        have hz : Below w10.heap.size w10 Z10 := by rw [hZ10]; exact below_one w10 _
        have Rk : Z10.heap[w10.heap.size]? = some (.cells #[.bool sk, .slice pk lk ck] 25 (0, 0)) := by rw [hZ10]; exact al_at _ _ (by simp)
        have Ik := hik.below hz
        have hs := hbx.trans (hz.mono hbx.size)
        clear hik hz
        clear hbx HC10
        have Ya := Lib.hid (Va.out.on hs)
        clear Va
        have Va := Ya
        clear Ya
        have Yb := Lib.hid (Vb.out.on hs)
        clear Vb
        have Vb := Yb
        clear Yb
        have Yc := Lib.hid (Vc.out.on hs)
        clear Vc
        have Vc := Yc
        clear Yc
        have Yv := Lib.hid (Vv.out.on hs)
        clear Vv
        have Vv := Yv
        clear Yv
        have Vk := Lib.hid (Kept.mk Rk Ik)
        clear Rk Ik
        have HB10 := Lib.hid (below_on HB9.out hs)
        clear hs
        clear HB9
        clear c0v c1v c0b c1b
        have c0a := Va.out.c0
        have c1a := Va.out.c1
        have c0b := Vb.out.c0
        have c1b := Vb.out.c1
        rw [hZ10] at c0a c1a c0b c1b
        have HC11 := Lib.hid (sl_div _ _ na nb 3 3 rfl Z10 Va.out.num Vb.out.num (Nat.le_trans La.out (by decide)) (Nat.le_trans Lb.out (by decide)) HK0.out.2.2.2 (by decide) (by decide))
        go_wp2_with fail
        rw [← hZ10]
        clear hZ10
        refine HC11.out.mono ?_
        rintro e w11 ⟨⟨st, pt, lt, ct, sf, pf, lf, cf, rfl, hit, hif⟩, hbx⟩
        obtain ⟨Z11, hZ11⟩ : ∃ Z11, Z11 = ((w11.alloc (.cells #[.bool st, .slice pt lt ct] 25)).alloc (.cells #[.bool sf, .slice pf lf cf] 25)) := ⟨_, rfl⟩
        have hz : Below w11.heap.size w11 Z11 := by rw [hZ11]; exact two_new w11 _ _
        have Rt : Z11.heap[w11.heap.size]? = some (.cells #[.bool st, .slice pt lt ct] 25 (0, 0)) := by rw [hZ11]; exact al_keep _ _ (by simp <;> omega) (al_at _ _ (by simp))
        have Rf : Z11.heap[w11.heap.size + 1]? = some (.cells #[.bool sf, .slice pf lf cf] 25 (0, 0)) := by rw [hZ11]; exact al_at _ _ (by simp)
        have It := hit.below hz
        have If := hif.below hz
        have hs := hbx.trans (hz.mono hbx.size)
        clear hit hif hz
        clear hbx HC11
        have Ya := Lib.hid (Va.out.on hs)
        clear Va
        have Va := Ya
        clear Ya
        have Yb := Lib.hid (Vb.out.on hs)
        clear Vb
        have Vb := Yb
        clear Yb
        have Yc := Lib.hid (Vc.out.on hs)
        clear Vc
        have Vc := Yc
        clear Yc
        have Yv := Lib.hid (Vv.out.on hs)
        clear Vv
        have Vv := Yv
        clear Yv
        have Yk := Lib.hid (Vk.out.on hs)
        clear Vk
        have Vk := Yk
        clear Yk
        have Vt := Lib.hid (Kept.mk Rt It)
        clear Rt It
        have Vf := Lib.hid (Kept.mk Rf If)
        clear Rf If
        have HB11 := Lib.hid (below_on HB10.out hs)
        clear hs
        clear HB10
        clear c0a c1a c0b c1b
        have c0k := Vk.out.c0
        have c1k := Vk.out.c1
        have c0f := Vf.out.c0
        have c1f := Vf.out.c1
        rw [hZ11] at c0k c1k c0f c1f
        have HC12 := Lib.hid (equal_yes _ _ _ _ _ _ Z11 ⟨Vk.out.num, Nat.le_refl _⟩ ⟨Vf.out.num, Nat.le_refl _⟩ HK0.out.2.2.1)
        go_wp2_with fail
        rw [← hZ11]
        clear hZ11
        refine HC12.out.mono ?_
        rintro e w12 ⟨rfl, hbx⟩
        have hs := hbx
        clear hbx HC12
        have Ya := Lib.hid (Va.out.on hs)
        clear Va
        have Va := Ya
        clear Ya
        have Yb := Lib.hid (Vb.out.on hs)
        clear Vb
        have Vb := Yb
        clear Yb
        have Yc := Lib.hid (Vc.out.on hs)
        clear Vc
        have Vc := Yc
        clear Yc
        have Yv := Lib.hid (Vv.out.on hs)
        clear Vv
        have Vv := Yv
        clear Yv
        have Yk := Lib.hid (Vk.out.on hs)
        clear Vk
        have Vk := Yk
        clear Yk
        have Yt := Lib.hid (Vt.out.on hs)
        clear Vt
        have Vt := Yt
        clear Yt
        have Yf := Lib.hid (Vf.out.on hs)
        clear Vf
        have Vf := Yf
        clear Yf
        have HB12 := Lib.hid (below_on HB11.out hs)
        clear hs
        clear HB11
        clear c0k c1k c0f c1f
        go_wp2_with fail
        go_ret
        exact ⟨rfl, HB12.out⟩
      · have HK := Lib.hid hK
        clear hK
        have c0a := Va.out.c0
        have c1a := Va.out.c1
        have c0b := Vb.out.c0
        have c1b := Vb.out.c1
        rw [hZ8] at c0a c1a c0b c1b
        have HN := Lib.hid (wInvN _ _ na nb K Z8 HK.out Va.out.num Vb.out.num (Nat.le_trans La.out (by decide)) (Nat.le_trans Lb.out (by decide)) hk0)
        have ek : (K != 0) = true := by simpa using hk0
        go_wp2_with fail
        rw [← hZ8]
        clear hZ8
        refine HN.out.mono ?_
        rintro e wz ⟨rfl, hbz⟩
        have HBz := Lib.hid (below_on HB8.out hbz)
        clear hbz HN c0a c1a c0b c1b
        go_wp2_with fail
        go_ret
        exact ⟨rfl, HBz.out.alloc HBz.out.size _⟩
end Go.Proofs.YtkbghamkalidcaaGreat
