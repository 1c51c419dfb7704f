/-
  WholeWraps returns true for any two integers, any number of bits, with or without a sign. Written by wip/tool/genlawwr.py. Conditions: those that each theorem names.
-/
import Derived.Test.YtipjbnbmackidaaGreatLawRingAll
import Derived.Test.YtipjbnbmackidaaGreatShiftWAll
namespace Go.Proofs.YtipjbnbmackidaaGreat
open Go.RowKit

def OneI (w w' : World) (e : Ending) (n : Int) : Prop := (∃ s p l c, e = .returned (.tuple #[.agg #[.bool s, .slice p l c], .int .i64 0]) ∧ IsI w' (.agg #[.bool s, .slice p l c]) n) ∧ Below w.heap.size w w'
theorem res_one {w w' : World} {e : Ending} {ok : Bool} {n m : Int} (h : ResK w w' e ok 0 n) (hok : ok = true) (hf : fitI n) (hm : n = m) : OneI w w' e m := by
  obtain ⟨c, hc, ⟨v, rfl, h2, h3⟩, hb⟩ := h
  rw [if_pos hok, codeI_fit hf] at hc
  subst hc; subst hm
  obtain ⟨p, cp, rfl, hu⟩ := (h2 rfl).form
  exact ⟨⟨_, _, _, _, rfl, h2 rfl⟩, hb⟩
theorem len_bits {m : Int} {n k : Nat} (h : m.natAbs ≤ 2 ^ n) (hk : n < 32 * k) : (Nl.limbs m.natAbs).length ≤ k := by
  refine Nl.limbs_lt (Nat.lt_of_le_of_lt h ?_)
  rw [pow32]
  exact Nat.pow_lt_pow_right (by decide) hk
theorem wWrap_ok (va : Value) (a : Int) (n : Nat) (sg : Bool) (w : World) (ha : IsI w va a) (la : (Nl.limbs a.natAbs).length ≤ 1024) (h1 : 1 ≤ n) (h2 : n ≤ 4096) :
    Calls Tryz.prog 49 #[va, .int .i64 n, .bool sg] w fun e w' => OneI w w' e (Nl.wrapI a n sg) := by
  have hw := wholeWrap_any va (negB a) (Nl.limbs a.natAbs) (n : Int) sg w ha (Nl.limbs_small _)
  rw [sgn_val, Int.toNat_natCast, wrapK, if_pos (by omega)] at hw
  exact hw.mono fun e w' h => res_one h (validI_of la) (Nat.le_trans (len_bits (k := 129) (Nl.wrapI_size a n sg) (by omega)) (by decide)) rfl
theorem nbits_small {m n : Nat} (h : (Nl.limbs m).length ≤ n) : nbits m ≤ 32 * n := by
  by_cases h0 : m = 0
  · subst h0; rw [nbits_zero]; omega
  · have h1 := nbits_le h0
    have h2 := Nl.lt_limbs m
    have h3 : m < 2 ^ (32 * n) := by rw [← pow32]; exact Nat.lt_of_lt_of_le h2 (Nl.pow_le h)
    refine Nat.le_of_not_lt fun h4 => absurd (Nat.lt_of_le_of_lt h1 h3) (Nat.not_lt.2 (Nat.pow_le_pow_right (by decide) (by omega)))
theorem wShift_ok (va : Value) (a : Int) (n : Nat) (w : World) (ha : IsI w va a) (la : (Nl.limbs a.natAbs).length ≤ 100) (h2 : n ≤ 4096) :
    Calls Tryz.prog 52 #[va, .int .i64 n] w fun e w' => OneI w w' e (a * ((2 ^ n : Nat) : Int)) := by
  have hb := nbits_small la
  have hw := wholeShift_fit va (negB a) (Nl.limbs a.natAbs) n w ha (Nl.limbs_small _) (by omega) (by rw [sgn_val]; omega)
  rw [sgn_val] at hw
  exact hw.mono fun e w' h => res_one h (validI_of (Nat.le_trans la (by decide))) (by rw [fitI, (shl_sgn a n).1]; exact shl_fits (by omega)) rfl
theorem add_num (va vb : Value) (a b : Int) (j k : Nat) (w : World) (ha : IsI w va a) (hb : IsI w vb b) (la : (Nl.limbs a.natAbs).length ≤ j) (lb : (Nl.limbs b.natAbs).length ≤ k) (hj : j ≤ 1024) (hk : k ≤ 1024) (hjk : max j k + 1 ≤ 1024) :
    Calls Tryz.prog 63 #[va, vb] w fun e w' => (∃ s p l c, e = .returned (.agg #[.bool s, .slice p l c]) ∧ IsI w' (.agg #[.bool s, .slice p l c]) (a + b)) ∧ Below w.heap.size w w' :=
  (add_law va vb a b j k w ⟨ha, la⟩ ⟨hb, lb⟩ hj hk hjk).mono fun e w' h => by
    obtain ⟨⟨s, p, l, c, rfl, hi⟩, hb⟩ := h
    exact ⟨⟨s, p, l, c, rfl, hi.1⟩, hb⟩
theorem sub_num (va vb : Value) (a b : Int) (j k : Nat) (w : World) (ha : IsI w va a) (hb : IsI w vb b) (la : (Nl.limbs a.natAbs).length ≤ j) (lb : (Nl.limbs b.natAbs).length ≤ k) (hj : j ≤ 1024) (hk : k ≤ 1024) (hjk : max j k + 1 ≤ 1024) :
    Calls Tryz.prog 64 #[va, vb] w fun e w' => (∃ s p l c, e = .returned (.agg #[.bool s, .slice p l c]) ∧ IsI w' (.agg #[.bool s, .slice p l c]) (a - b)) ∧ Below w.heap.size w w' :=
  (sub_law va vb a b j k w ⟨ha, la⟩ ⟨hb, lb⟩ hj hk hjk).mono fun e w' h => by
    obtain ⟨⟨s, p, l, c, rfl, hi⟩, hb⟩ := h
    exact ⟨⟨s, p, l, c, rfl, hi.1⟩, hb⟩
theorem mul_num (va vb : Value) (a b : Int) (j k : Nat) (w : World) (ha : IsI w va a) (hb : IsI w vb b) (la : (Nl.limbs a.natAbs).length ≤ j) (lb : (Nl.limbs b.natAbs).length ≤ k) (hj : j ≤ 1024) (hk : k ≤ 1024) (hjk : j + k ≤ 1024) :
    Calls Tryz.prog 65 #[va, vb] w fun e w' => (∃ s p l c, e = .returned (.agg #[.bool s, .slice p l c]) ∧ IsI w' (.agg #[.bool s, .slice p l c]) (a * b)) ∧ Below w.heap.size w w' :=
  (mul_law va vb a b j k w ⟨ha, la⟩ ⟨hb, lb⟩ hj hk hjk).mono fun e w' h => by
    obtain ⟨⟨s, p, l, c, rfl, hi⟩, hb⟩ := h
    exact ⟨⟨s, p, l, c, rfl, hi.1⟩, hb⟩
theorem bel_al {D w' : World} (h : Below D.heap.size D w') (o : Obj) : Below D.heap.size D (w'.alloc o) := h.alloc h.size o
theorem bel_dr {B : Nat} {D w' : World} (h : Below B D w') : Below B D w'.drew := h.trans (below_drewN w' 1 B)
theorem blk_via {W wd : World} (h : Below W.heap.size W wd) {g : Nat} {o : Obj} (r : W.heap[g]? = some o) : wd.heap[g]? = some o := (h.block _ (lt_of_block r)).trans r
theorem bel_st {D w' : World} {p : Addr} (h : Below D.heap.size D w') (hp : D.heap.size ≤ p.block) (v : Value) : Below D.heap.size D (w'.setCell p v) := h.setCell hp v
theorem isI_set2 {w : World} {y : Nat} {v : Value} {n : Int} (a b : Value) (h : IsI w v n) (row : w.heap[y]? = some (.cells #[.bool false, .slice none 0 0] 25 (0, 0))) : IsI ((w.setCell ⟨y, 0, none⟩ a).setCell ⟨y, 1, none⟩ b) v n := by
  obtain ⟨u, e, hu⟩ := h
  exact ⟨u, e, at_ibox a b hu row⟩
theorem row_set2 {w : World} {y z : Nat} {o : Obj} (a b : Value) (hne : ¬ z = y) (row : w.heap[z]? = some o) : ((w.setCell ⟨y, 0, none⟩ a).setCell ⟨y, 1, none⟩ b).heap[z]? = some o := by
  rw [Below.heap_setCell _ ⟨y, 1, none⟩ _ _ hne, Below.heap_setCell _ ⟨y, 0, none⟩ _ _ hne]; exact row
theorem size_set2 (w : World) (y : Nat) (a b : Value) : ((w.setCell ⟨y, 0, none⟩ a).setCell ⟨y, 1, none⟩ b).heap.size = w.heap.size := by simp
theorem kept_f1 {w : World} {s : Bool} {p : Option Addr} {l c : Nat} {n : Int} (o : Obj) (h : IsI w (Value.agg #[.bool s, .slice p l c]) n) : Kept ((w.alloc o).alloc (.cells #[.bool s, .slice p l c] 25)) (w.heap.size + 1) s p l c n := ⟨heap_alloc2_new w _ _, h.below (two_new w _ _)⟩
theorem kept_f2 {w : World} {s : Bool} {p : Option Addr} {l c : Nat} {n : Int} (o : Obj) (h : IsI w (Value.agg #[.bool s, .slice p l c]) n) : Kept ((w.alloc (.cells #[.bool s, .slice p l c] 25)).alloc o) w.heap.size s p l c n := ⟨heap_alloc2_old w _ _, h.below (two_new w _ _)⟩
theorem kept_f3 {w : World} {y : Nat} {s : Bool} {p : Option Addr} {l c : Nat} {n : Int} (a b : Value) (h : IsI w (Value.agg #[.bool s, .slice p l c]) n) (row : w.heap[y]? = some (.cells #[.bool false, .slice none 0 0] 25 (0, 0))) : Kept (((w.setCell ⟨y, 0, none⟩ a).setCell ⟨y, 1, none⟩ b).alloc (.cells #[.bool s, .slice p l c] 25)) w.heap.size s p l c n :=
  ⟨al_at _ _ (size_set2 w y a b), (isI_set2 a b h row).below (below_one _ _)⟩
theorem kept_f4 {w : World} {y z : Nat} {s : Bool} {p : Option Addr} {l c : Nat} {n : Int} (a b : Value) (h : IsI w (Value.agg #[.bool s, .slice p l c]) n) (ry : w.heap[y]? = some (.cells #[.bool false, .slice none 0 0] 25 (0, 0))) (rz : w.heap[z]? = some (.cells #[.bool false, .slice none 0 0] 25 (0, 0))) (hne : ¬ z = y) : Kept ((((w.setCell ⟨y, 0, none⟩ a).setCell ⟨y, 1, none⟩ b).setCell ⟨z, 0, none⟩ (.bool s)).setCell ⟨z, 1, none⟩ (.slice p l c)) z s p l c n :=
  ⟨ibox_set _ _ (row_set2 a b hne rz), isI_set2 _ _ (isI_set2 a b h ry) (row_set2 a b hne rz)⟩
theorem kept_f5 {w : World} {z : Nat} {s : Bool} {p : Option Addr} {l c : Nat} {n : Int} (o : Obj) (h : IsI w (Value.agg #[.bool s, .slice p l c]) n) (rz : w.heap[z]? = some (.cells #[.bool false, .slice none 0 0] 25 (0, 0))) : Kept (((w.setCell ⟨z, 0, none⟩ (.bool s)).setCell ⟨z, 1, none⟩ (.slice p l c)).alloc o) z s p l c n :=
  ⟨al_keep _ _ (by rw [size_set2]; exact lt_of_block rz) (ibox_set _ _ rz), (isI_set2 _ _ h rz).below (below_one _ _)⟩
theorem cmpI_m1 {a b : Int} (h : a < b) : cmpI a b = -1 := by rw [cmpI, if_pos h]
theorem wrap_sum (a b : Int) (n : Nat) (s : Bool) : Nl.wrapI (a + b) n s = Nl.wrapI (Nl.wrapI a n s + Nl.wrapI b n s) n s := by
  obtain ⟨p, hp⟩ := Nl.wrapI_mod a n s
  obtain ⟨q, hq⟩ := Nl.wrapI_mod b n s
  refine Nl.wrapI_low n s (p + q) ?_
  rw [Int.mul_add]; omega
theorem wrap_pro (a b : Int) (n : Nat) (s : Bool) : Nl.wrapI (a * b) n s = Nl.wrapI (Nl.wrapI a n s * Nl.wrapI b n s) n s := by
  obtain ⟨p, hp⟩ := Nl.wrapI_mod a n s
  obtain ⟨q, hq⟩ := Nl.wrapI_mod b n s
  obtain ⟨x, hx⟩ : ∃ x, x = Nl.wrapI a n s := ⟨_, rfl⟩
  obtain ⟨y, hy⟩ : ∃ y, y = Nl.wrapI b n s := ⟨_, rfl⟩
  rw [← hx] at hp ⊢
  rw [← hy] at hq ⊢
  obtain ⟨P, hP⟩ : ∃ P : Int, P = ((2 ^ n : Nat) : Int) := ⟨_, rfl⟩
  refine Nl.wrapI_low n s (x * q + p * y + P * p * q) ?_
  rw [← hP] at hp hq ⊢
  rw [hp, hq, Int.mul_add, Int.mul_add, Int.add_mul, Int.mul_add, Int.add_mul]
  have e1 : P * (x * q) = x * (P * q) := by rw [← Int.mul_assoc, Int.mul_comm P x, Int.mul_assoc]
  have e2 : P * (p * y) = P * p * y := (Int.mul_assoc ..).symm
  have e3 : P * (P * p * q) = P * p * (P * q) := by rw [Int.mul_assoc P p q, Int.mul_assoc P p (P * q), ← Int.mul_assoc p P q, Int.mul_comm p P, Int.mul_assoc P p q]
  rw [e1, e2, e3]; omega

theorem wrap_rest (a : Int) (n : Nat) (s : Bool) : (divR 1 (a - Nl.wrapI a n s) (1 * ((2 ^ n : Nat) : Int))).natAbs = 0 := by
  obtain ⟨q, hq⟩ := Nl.wrapI_mod a n s
  rw [divR, if_pos (.inr rfl), sgn_abs, Int.one_mul, Int.natAbs_natCast, show a - Nl.wrapI a n s = ((2 ^ n : Nat) : Int) * q by omega, Int.natAbs_mul, Int.natAbs_natCast, Nat.mul_mod_right]
theorem wDivL (va vb : Value) (a b h : Int) (how : Nat) (hh : h = (how : Int)) (w : World) (ha : IsI w va a) (hb : IsI w vb b) (la : (Nl.limbs a.natAbs).length ≤ 900) (lb : (Nl.limbs b.natAbs).length ≤ 900) (hb0 : b ≠ 0) (h1 : 1 ≤ how) (h4 : how ≤ 4) :
  Calls Tryz.prog 39 #[va, vb, .int .i64 h] w fun e w' => (∃ s p l c s' p' l' c', e = .returned (.tuple #[.agg #[.bool s, .slice p l c], .agg #[.bool s', .slice p' l' c'], .int .i64 0]) ∧ IsI w' (.agg #[.bool s, .slice p l c]) (divQ how a b) ∧ IsI w' (.agg #[.bool s', .slice p' l' c']) (divR how a b)) ∧ Below w.heap.size w w' :=
  hh ▸ wDivN va vb a b how w ha hb la lb hb0 h1 h4
set_option maxRecDepth 10000 in
set_option maxHeartbeats 32000000 in
theorem wholeWraps_any (va vb : Value) (sa sb : Bool) (xa xb : List Nat) (n : Int) (sg : Bool) (w : World) (ha : AtI w va sa xa) (hb : AtI w vb sb xb) (ma : Nl.Small xa) (mb : Nl.Small xb) :
    Calls Tryz.prog 15 #[va, vb, .int .i64 n, .bool sg] w fun e w' => e = .returned (.bool true) ∧ Below w.heap.size w w' := by
  obtain ⟨pa, ca, rfl, ua⟩ := ha.form
  obtain ⟨la, hla⟩ : ∃ la, la = xa.length := ⟨_, rfl⟩
  rw [← hla] at ua ha ⊢
  obtain ⟨pb, cb, rfl, ub⟩ := hb.form
  obtain ⟨lb, hlb⟩ : ∃ lb, lb = xb.length := ⟨_, rfl⟩
  rw [← hlb] at ub hb ⊢
  obtain ⟨W, hW⟩ : ∃ W, W = (w.alloc (.cells #[.bool sa, .slice pa la ca] 25)).alloc (.cells #[.bool sb, .slice pb lb cb] 25) := ⟨_, rfl⟩
  have hbW : Below w.heap.size w W := by rw [hW]; exact two_new w _ _
  have Ba : W.heap[w.heap.size]? = some (.cells #[.bool sa, .slice pa la ca] 25 (0, 0)) := by rw [hW]; exact heap_alloc2_old w _ _
  have Bb : W.heap[w.heap.size + 1]? = some (.cells #[.bool sb, .slice pb lb cb] 25 (0, 0)) := by rw [hW]; exact heap_alloc2_new w _ _
  have HW := Lib.hid hbW
  have HR := Lib.hid (And.intro Ba Bb)
  have HU := Lib.hid (And.intro (ua.below hbW) (ub.below hbW))
  have HM := Lib.hid (And.intro ma mb)
  have HLB := Lib.hid hlb
  clear ha hb ua ub ma mb hla hlb hbW Ba Bb
  go_enter Tryz.func15, Tryz.ntmps15
  go_wp2_with fail
  rw [← hW]
  clear hW
  refine (awake_any W).mono ?_
  rintro e w1 ⟨rfl, hb1⟩
  have Ra := (hb1.block _ (lt_of_block HR.out.1)).trans HR.out.1
  have c0a := cell_of_row _ _ 0 _ _ (0, 0) Ra
  have c1a := cell_of_row _ _ 1 _ _ (0, 0) Ra
  simp only [List.getElem?_toArray, List.getElem?_cons_zero, List.getElem?_cons_succ] at c0a c1a
  have Rb := (hb1.block _ (lt_of_block HR.out.2)).trans HR.out.2
  have c0b := cell_of_row _ _ 0 _ _ (0, 0) Rb
  have c1b := cell_of_row _ _ 1 _ _ (0, 0) Rb
  simp only [List.getElem?_toArray, List.getElem?_cons_zero, List.getElem?_cons_succ] at c0b c1b
  obtain ⟨G, hG⟩ : ∃ G, G = w1.alloc (.cells #[.bool sa, .slice pa la ca, .bool sb, .slice pb lb cb] 25) := ⟨_, rfl⟩
  have hg : Below w1.heap.size w1 G := by rw [hG]; exact below_one _ _
  have RG : G.heap[w1.heap.size]? = some (.cells #[.bool sa, .slice pa la ca, .bool sb, .slice pb lb cb] 25 (0, 0)) := by rw [hG]; exact al_at _ _ rfl
  have hF := fine_law w1.heap.size 40 [(sa, Value.slice pa la ca, xa), (sb, Value.slice pb lb cb, xb)] G (givenI_two w1.heap.size RG ((HU.out.1.below hb1).below hg) ((HU.out.2.below hb1).below hg)) (lt_of_block RG) (by simp)
  obtain ⟨fb, hfb⟩ : ∃ fb, fb = List.all [(sa, Value.slice pa la ca, xa), (sb, Value.slice pb lb cb, xb)] (fineP 40) := ⟨_, rfl⟩
  rw [← hfb] at hF
  have HF := Lib.hid hF
  have HFB := Lib.hid hfb
  have HB1 := Lib.hid (hb1.trans (hg.mono hb1.size))
  clear hF hfb Ra Rb RG hb1 hg
  go_wp2_with fail
  rw [← hG]
  clear hG
  refine HF.out.mono ?_
  rintro e w2 ⟨rfl, hb2⟩
  have hW2 := HB1.out.trans (hb2.mono HB1.out.size)
  clear c0a c1a c0b c1b HF HB1 hb2
  cases fb with
  | false =>
    go_wp2_with fail
    go_ret
    exact ⟨rfl, HW.out.trans (hW2.mono HW.out.size)⟩
  | true =>
    by_cases q1 : n < 1
    · have d1 : decide (n < 1) = true := decide_eq_true q1
      clear q1
      go_wp2_with fail
      go_ret
      exact ⟨rfl, HW.out.trans (hW2.mono HW.out.size)⟩
    have d1 : decide (n < 1) = false := decide_eq_false q1
    by_cases q2 : n > 2000
    · have d2 : decide (n > 2000) = true := decide_eq_true q2
      have d2' : decide (2000 < n) = true := decide_eq_true q2
      clear q1 q2
      go_wp2_with fail
      go_ret
      exact ⟨rfl, HW.out.trans (hW2.mono HW.out.size)⟩
    obtain ⟨m, rfl⟩ : ∃ m : Nat, n = m := ⟨n.toNat, by omega⟩
    have d2 : decide ((m : Int) > 2000) = false := decide_eq_false q2
    have d2' : decide (2000 < (m : Int)) = false := decide_eq_false q2
    have hm1 : 1 ≤ m := by omega
    have hm2 : m ≤ 2000 := by omega
    have HMM := Lib.hid (And.intro hm1 hm2)
    clear q1 q2 hm1 hm2
    have hall := List.all_eq_true.1 HFB.out.symm
    obtain ⟨na, ka⟩ := fine_one (hall (sa, .slice pa la ca, xa) (by simp)) (HU.out.1.below hW2) HM.out.1
    have Va := Lib.hid (Kept.mk ((hW2.block _ (lt_of_block HR.out.1)).trans HR.out.1) ka.1)
    have La := Lib.hid ka.2
    obtain ⟨nb, kb⟩ := fine_one (hall (sb, .slice pb lb cb, xb) (by simp)) (HU.out.2.below hW2) HM.out.2
    have Vb := Lib.hid (Kept.mk ((hW2.block _ (lt_of_block HR.out.2)).trans HR.out.2) kb.1)
    have Lb := Lib.hid kb.2
    have HB2 := Lib.hid (HW.out.trans (hW2.mono HW.out.size))
    clear hall ka kb hW2 HFB HR HU HM HW HLB
    have c0a := Va.out.c0
    have c1a := Va.out.c1
    have HC3 := Lib.hid (wWrap_ok _ na m sg w2 Va.out.num (Nat.le_trans La.out (by decide)) (by have := HMM.out; omega) (by have := HMM.out; omega))
    go_wp2_with fail
    refine HC3.out.mono ?_
    rintro e w3 ⟨⟨sx, px, lx, cx, rfl, hix⟩, hbx⟩
    obtain ⟨Z3, hZ3⟩ : ∃ Z3, Z3 = (w3.alloc (.cells #[.bool sx, .slice px lx cx] 25)) := ⟨_, rfl⟩
    have hz : Below w3.heap.size w3 Z3 := by rw [hZ3]; exact below_one w3 _
    have Rx : Z3.heap[w3.heap.size]? = some (.cells #[.bool sx, .slice px lx cx] 25 (0, 0)) := by rw [hZ3]; exact al_at _ _ (by simp)
    have Ix := hix.below hz
    have hs := hbx.trans (hz.mono hbx.size)
    clear hix hz
    clear hbx HC3
    have Ya := Lib.hid (Va.out.on hs)
    clear Va
    have Va := Ya
    clear Ya
    have Yb := Lib.hid (Vb.out.on hs)
    clear Vb
    have Vb := Yb
    clear Yb
    have Vx := Lib.hid (Kept.mk Rx Ix)
    clear Rx Ix
    have HB3 := Lib.hid (below_on HB2.out hs)
    clear hs
    clear c0a c1a
    have c0b := Vb.out.c0
    have c1b := Vb.out.c1
    rw [hZ3] at c0b c1b
    have HC4 := Lib.hid (wWrap_ok _ nb m sg Z3 Vb.out.num (Nat.le_trans Lb.out (by decide)) (by have := HMM.out; omega) (by have := HMM.out; omega))
    go_wp2_with fail
    rw [← hZ3]
    clear hZ3
    refine HC4.out.mono ?_
    rintro e w4 ⟨⟨sy, py, ly, cy, rfl, hiy⟩, hbx⟩
    obtain ⟨Z4, hZ4⟩ : ∃ Z4, Z4 = (w4.alloc (.cells #[.bool sy, .slice py ly cy] 25)) := ⟨_, rfl⟩
    have hz : Below w4.heap.size w4 Z4 := by rw [hZ4]; exact below_one w4 _
    have Ry : Z4.heap[w4.heap.size]? = some (.cells #[.bool sy, .slice py ly cy] 25 (0, 0)) := by rw [hZ4]; exact al_at _ _ (by simp)
    have Iy := hiy.below hz
    have hs := hbx.trans (hz.mono hbx.size)
    clear hiy hz
    clear hbx HC4
    have Ya := Lib.hid (Va.out.on hs)
    clear Va
    have Va := Ya
    clear Ya
    have Yb := Lib.hid (Vb.out.on hs)
    clear Vb
    have Vb := Yb
    clear Yb
    have Yx := Lib.hid (Vx.out.on hs)
    clear Vx
    have Vx := Yx
    clear Yx
    have Vy := Lib.hid (Kept.mk Ry Iy)
    clear Ry Iy
    have HB4 := Lib.hid (below_on HB3.out hs)
    clear hs
    clear HB3
    clear c0b c1b
    have c0a := Va.out.c0
    have c1a := Va.out.c1
    have c0b := Vb.out.c0
    have c1b := Vb.out.c1
    rw [hZ4] at c0a c1a c0b c1b
    have HC5 := Lib.hid (add_num _ _ na nb 40 40 Z4 Va.out.num Vb.out.num La.out Lb.out (by decide) (by decide) (by decide))
    go_wp2_with fail
    rw [← hZ4]
    clear hZ4
    refine HC5.out.mono ?_
    rintro e w5 ⟨⟨su, pu, lu, cu, rfl, hiu⟩, hbx⟩
    have Iu := hiu
    clear hiu
    have hs := hbx
    clear hbx HC5
    have Ya := Lib.hid (Va.out.on hs)
    clear Va
    have Va := Ya
    clear Ya
    have Yb := Lib.hid (Vb.out.on hs)
    clear Vb
    have Vb := Yb
    clear Yb
    have Yx := Lib.hid (Vx.out.on hs)
    clear Vx
    have Vx := Yx
    clear Yx
    have Yy := Lib.hid (Vy.out.on hs)
    clear Vy
    have Vy := Yy
    clear Yy
    have Vu := Lib.hid (HeldI.mk Iu)
    clear Iu
    have HB5 := Lib.hid (below_on HB4.out hs)
    clear hs
    clear HB4
    clear c0a c1a c0b c1b
    have HC6 := Lib.hid (wWrap_ok _ (na + nb) m sg w5 Vu.out.num (Nat.le_trans (len_sum La.out Lb.out) (by decide)) (by have := HMM.out; omega) (by have := HMM.out; omega))
    go_wp2_with fail
    refine HC6.out.mono ?_
    rintro e w6 ⟨⟨ss, ps, ls, cs, rfl, his⟩, hbx⟩
    obtain ⟨Z6, hZ6⟩ : ∃ Z6, Z6 = (w6.alloc (.cells #[.bool ss, .slice ps ls cs] 25)) := ⟨_, rfl⟩
    have hz : Below w6.heap.size w6 Z6 := by rw [hZ6]; exact below_one w6 _
    have Rs : Z6.heap[w6.heap.size]? = some (.cells #[.bool ss, .slice ps ls cs] 25 (0, 0)) := by rw [hZ6]; exact al_at _ _ (by simp)
    have Is := his.below hz
    have hs := hbx.trans (hz.mono hbx.size)
    clear his hz
    clear hbx HC6
    have Ya := Lib.hid (Va.out.on hs)
    clear Va
    have Va := Ya
    clear Ya
    have Yb := Lib.hid (Vb.out.on hs)
    clear Vb
    have Vb := Yb
    clear Yb
    have Yx := Lib.hid (Vx.out.on hs)
    clear Vx
    have Vx := Yx
    clear Yx
    have Yy := Lib.hid (Vy.out.on hs)
    clear Vy
    have Vy := Yy
    clear Yy
    have Yu := Lib.hid (Vu.out.on hs)
    clear Vu
    have Vu := Yu
    clear Yu
    have Vs := Lib.hid (Kept.mk Rs Is)
    clear Rs Is
    have HB6 := Lib.hid (below_on HB5.out hs)
    clear hs
    clear HB5
    clear Vu
    have c0x := Vx.out.c0
    have c1x := Vx.out.c1
    have c0y := Vy.out.c0
    have c1y := Vy.out.c1
    rw [hZ6] at c0x c1x c0y c1y
    have HC7 := Lib.hid (add_num _ _ (Nl.wrapI na m sg) (Nl.wrapI nb m sg) 63 63 Z6 Vx.out.num Vy.out.num (len_bits (k := 63) (Nl.wrapI_size _ m sg) (by have := HMM.out; omega)) (len_bits (k := 63) (Nl.wrapI_size _ m sg) (by have := HMM.out; omega)) (by decide) (by decide) (by decide))
    go_wp2_with fail
    rw [← hZ6]
    clear hZ6
    refine HC7.out.mono ?_
    rintro e w7 ⟨⟨su, pu, lu, cu, rfl, hiu⟩, hbx⟩
    have Iu := hiu
    clear hiu
    have hs := hbx
    clear hbx HC7
    have Ya := Lib.hid (Va.out.on hs)
    clear Va
    have Va := Ya
    clear Ya
    have Yb := Lib.hid (Vb.out.on hs)
    clear Vb
    have Vb := Yb
    clear Yb
    have Yx := Lib.hid (Vx.out.on hs)
    clear Vx
    have Vx := Yx
    clear Yx
    have Yy := Lib.hid (Vy.out.on hs)
    clear Vy
    have Vy := Yy
    clear Yy
    have Ys := Lib.hid (Vs.out.on hs)
    clear Vs
    have Vs := Ys
    clear Ys
    have Vu := Lib.hid (HeldI.mk Iu)
    clear Iu
    have HB7 := Lib.hid (below_on HB6.out hs)
    clear hs
    clear HB6
    clear c0x c1x c0y c1y
    have HC8 := Lib.hid (wWrap_ok _ ((Nl.wrapI na m sg) + (Nl.wrapI nb m sg)) m sg w7 Vu.out.num (Nat.le_trans (len_sum (len_bits (k := 63) (Nl.wrapI_size _ m sg) (by have := HMM.out; omega)) (len_bits (k := 63) (Nl.wrapI_size _ m sg) (by have := HMM.out; omega))) (by decide)) (by have := HMM.out; omega) (by have := HMM.out; omega))
    go_wp2_with fail
    refine HC8.out.mono ?_
    rintro e w8 ⟨⟨st, pt, lt, ct, rfl, hit⟩, hbx⟩
    obtain ⟨Z8, hZ8⟩ : ∃ Z8, Z8 = (w8.alloc (.cells #[.bool st, .slice pt lt ct] 25)) := ⟨_, rfl⟩
    have hz : Below w8.heap.size w8 Z8 := by rw [hZ8]; exact below_one w8 _
    have Rt : Z8.heap[w8.heap.size]? = some (.cells #[.bool st, .slice pt lt ct] 25 (0, 0)) := by rw [hZ8]; exact al_at _ _ (by simp)
    have It := hit.below hz
    have hs := hbx.trans (hz.mono hbx.size)
    clear hit hz
    clear hbx HC8
    have Ya := Lib.hid (Va.out.on hs)
    clear Va
    have Va := Ya
    clear Ya
    have Yb := Lib.hid (Vb.out.on hs)
    clear Vb
    have Vb := Yb
    clear Yb
    have Yx := Lib.hid (Vx.out.on hs)
    clear Vx
    have Vx := Yx
    clear Yx
    have Yy := Lib.hid (Vy.out.on hs)
    clear Vy
    have Vy := Yy
    clear Yy
    have Ys := Lib.hid (Vs.out.on hs)
    clear Vs
    have Vs := Ys
    clear Ys
    have Yu := Lib.hid (Vu.out.on hs)
    clear Vu
    have Vu := Yu
    clear Yu
    have Vt := Lib.hid (Kept.mk Rt It)
    clear Rt It
    have HB8 := Lib.hid (below_on HB7.out hs)
    clear hs
    clear HB7
    clear Vu
    have c0a := Va.out.c0
    have c1a := Va.out.c1
    have c0b := Vb.out.c0
    have c1b := Vb.out.c1
    rw [hZ8] at c0a c1a c0b c1b
    have HC9 := Lib.hid (mul_num _ _ na nb 40 40 Z8 Va.out.num Vb.out.num La.out Lb.out (by decide) (by decide) (by decide))
    go_wp2_with fail
    rw [← hZ8]
    clear hZ8
    refine HC9.out.mono ?_
    rintro e w9 ⟨⟨su, pu, lu, cu, rfl, hiu⟩, hbx⟩
    have Iu := hiu
    clear hiu
    have hs := hbx
    clear hbx HC9
    have Ya := Lib.hid (Va.out.on hs)
    clear Va
    have Va := Ya
    clear Ya
    have Yb := Lib.hid (Vb.out.on hs)
    clear Vb
    have Vb := Yb
    clear Yb
    have Yx := Lib.hid (Vx.out.on hs)
    clear Vx
    have Vx := Yx
    clear Yx
    have Yy := Lib.hid (Vy.out.on hs)
    clear Vy
    have Vy := Yy
    clear Yy
    have Ys := Lib.hid (Vs.out.on hs)
    clear Vs
    have Vs := Ys
    clear Ys
    have Yt := Lib.hid (Vt.out.on hs)
    clear Vt
    have Vt := Yt
    clear Yt
    have Vu := Lib.hid (HeldI.mk Iu)
    clear Iu
    have HB9 := Lib.hid (below_on HB8.out hs)
    clear hs
    clear HB8
    clear c0a c1a c0b c1b
    have HC10 := Lib.hid (wWrap_ok _ (na * nb) m sg w9 Vu.out.num (Nat.le_trans (len_pro La.out Lb.out) (by decide)) (by have := HMM.out; omega) (by have := HMM.out; omega))
    go_wp2_with fail
    refine HC10.out.mono ?_
    rintro e w10 ⟨⟨sp, pp, lp, cp, rfl, hip⟩, hbx⟩
    obtain ⟨Z10, hZ10⟩ : ∃ Z10, Z10 = (w10.alloc (.cells #[.bool sp, .slice pp lp cp] 25)) := ⟨_, rfl⟩
    have hz : Below w10.heap.size w10 Z10 := by rw [hZ10]; exact below_one w10 _
    have Rp : Z10.heap[w10.heap.size]? = some (.cells #[.bool sp, .slice pp lp cp] 25 (0, 0)) := by rw [hZ10]; exact al_at _ _ (by simp)
    have Ip := hip.below hz
    have hs := hbx.trans (hz.mono hbx.size)
    clear hip hz
    clear hbx HC10
    have Ya := Lib.hid (Va.out.on hs)
    clear Va
    have Va := Ya
    clear Ya
    have Yb := Lib.hid (Vb.out.on hs)
    clear Vb
    have Vb := Yb
    clear Yb
    have Yx := Lib.hid (Vx.out.on hs)
    clear Vx
    have Vx := Yx
    clear Yx
    have Yy := Lib.hid (Vy.out.on hs)
    clear Vy
    have Vy := Yy
    clear Yy
    have Ys := Lib.hid (Vs.out.on hs)
    clear Vs
    have Vs := Ys
    clear Ys
    have Yt := Lib.hid (Vt.out.on hs)
    clear Vt
    have Vt := Yt
    clear Yt
    have Yu := Lib.hid (Vu.out.on hs)
    clear Vu
    have Vu := Yu
    clear Yu
    have Vp := Lib.hid (Kept.mk Rp Ip)
    clear Rp Ip
    have HB10 := Lib.hid (below_on HB9.out hs)
    clear hs
    clear HB9
    clear Vu
    have c0x := Vx.out.c0
    have c1x := Vx.out.c1
    have c0y := Vy.out.c0
    have c1y := Vy.out.c1
    rw [hZ10] at c0x c1x c0y c1y
    have HC11 := Lib.hid (mul_num _ _ (Nl.wrapI na m sg) (Nl.wrapI nb m sg) 63 63 Z10 Vx.out.num Vy.out.num (len_bits (k := 63) (Nl.wrapI_size _ m sg) (by have := HMM.out; omega)) (len_bits (k := 63) (Nl.wrapI_size _ m sg) (by have := HMM.out; omega)) (by decide) (by decide) (by decide))
    go_wp2_with fail
    rw [← hZ10]
    clear hZ10
    refine HC11.out.mono ?_
    rintro e w11 ⟨⟨su, pu, lu, cu, rfl, hiu⟩, hbx⟩
    have Iu := hiu
    clear hiu
    have hs := hbx
    clear hbx HC11
    have Ya := Lib.hid (Va.out.on hs)
    clear Va
    have Va := Ya
    clear Ya
    have Yb := Lib.hid (Vb.out.on hs)
    clear Vb
    have Vb := Yb
    clear Yb
    have Yx := Lib.hid (Vx.out.on hs)
    clear Vx
    have Vx := Yx
    clear Yx
    have Yy := Lib.hid (Vy.out.on hs)
    clear Vy
    have Vy := Yy
    clear Yy
    have Ys := Lib.hid (Vs.out.on hs)
    clear Vs
    have Vs := Ys
    clear Ys
    have Yt := Lib.hid (Vt.out.on hs)
    clear Vt
    have Vt := Yt
    clear Yt
    have Yp := Lib.hid (Vp.out.on hs)
    clear Vp
    have Vp := Yp
    clear Yp
    have Vu := Lib.hid (HeldI.mk Iu)
    clear Iu
    have HB11 := Lib.hid (below_on HB10.out hs)
    clear hs
    clear HB10
    clear c0x c1x c0y c1y
    have HC12 := Lib.hid (wWrap_ok _ ((Nl.wrapI na m sg) * (Nl.wrapI nb m sg)) m sg w11 Vu.out.num (Nat.le_trans (len_pro (len_bits (k := 63) (Nl.wrapI_size _ m sg) (by have := HMM.out; omega)) (len_bits (k := 63) (Nl.wrapI_size _ m sg) (by have := HMM.out; omega))) (by decide)) (by have := HMM.out; omega) (by have := HMM.out; omega))
    go_wp2_with fail
    refine HC12.out.mono ?_
    rintro e w12 ⟨⟨sq, pq, lq, cq, rfl, hiq⟩, hbx⟩
    obtain ⟨Z12, hZ12⟩ : ∃ Z12, Z12 = (w12.alloc (.cells #[.bool sq, .slice pq lq cq] 25)) := ⟨_, rfl⟩
    have hz : Below w12.heap.size w12 Z12 := by rw [hZ12]; exact below_one w12 _
    have Rq : Z12.heap[w12.heap.size]? = some (.cells #[.bool sq, .slice pq lq cq] 25 (0, 0)) := by rw [hZ12]; exact al_at _ _ (by simp)
    have Iq := hiq.below hz
    have hs := hbx.trans (hz.mono hbx.size)
    clear hiq hz
    clear hbx HC12
    have Ya := Lib.hid (Va.out.on hs)
    clear Va
    have Va := Ya
    clear Ya
    have Yb := Lib.hid (Vb.out.on hs)
    clear Vb
    have Vb := Yb
    clear Yb
    have Yx := Lib.hid (Vx.out.on hs)
    clear Vx
    have Vx := Yx
    clear Yx
    have Yy := Lib.hid (Vy.out.on hs)
    clear Vy
    have Vy := Yy
    clear Yy
    have Ys := Lib.hid (Vs.out.on hs)
    clear Vs
    have Vs := Ys
    clear Ys
    have Yt := Lib.hid (Vt.out.on hs)
    clear Vt
    have Vt := Yt
    clear Yt
    have Yp := Lib.hid (Vp.out.on hs)
    clear Vp
    have Vp := Yp
    clear Yp
    have Yu := Lib.hid (Vu.out.on hs)
    clear Vu
    have Vu := Yu
    clear Yu
    have Vq := Lib.hid (Kept.mk Rq Iq)
    clear Rq Iq
    have HB12 := Lib.hid (below_on HB11.out hs)
    clear hs
    clear HB11
    clear Vu
    have c0s := Vs.out.c0
    have c1s := Vs.out.c1
    have c0t := Vt.out.c0
    have c1t := Vt.out.c1
    rw [hZ12] at c0s c1s c0t c1t
    have HC13 := Lib.hid (equal_yes _ _ (Nl.wrapI (na + nb) m sg) (Nl.wrapI ((Nl.wrapI na m sg) + (Nl.wrapI nb m sg)) m sg) 63 63 Z12 ⟨Vs.out.num, (len_bits (k := 63) (Nl.wrapI_size _ m sg) (by have := HMM.out; omega))⟩ ⟨Vt.out.num, (len_bits (k := 63) (Nl.wrapI_size _ m sg) (by have := HMM.out; omega))⟩ (wrap_sum na nb m sg))
    go_wp2_with fail
    rw [← hZ12]
    clear hZ12
    refine HC13.out.mono ?_
    rintro e w13 ⟨rfl, hbx⟩
    have hs := hbx
    clear hbx HC13
    have Ya := Lib.hid (Va.out.on hs)
    clear Va
    have Va := Ya
    clear Ya
    have Yb := Lib.hid (Vb.out.on hs)
    clear Vb
    have Vb := Yb
    clear Yb
    have Yx := Lib.hid (Vx.out.on hs)
    clear Vx
    have Vx := Yx
    clear Yx
    have Yy := Lib.hid (Vy.out.on hs)
    clear Vy
    have Vy := Yy
    clear Yy
    have Ys := Lib.hid (Vs.out.on hs)
    clear Vs
    have Vs := Ys
    clear Ys
    have Yt := Lib.hid (Vt.out.on hs)
    clear Vt
    have Vt := Yt
    clear Yt
    have Yp := Lib.hid (Vp.out.on hs)
    clear Vp
    have Vp := Yp
    clear Yp
    have Yq := Lib.hid (Vq.out.on hs)
    clear Vq
    have Vq := Yq
    clear Yq
    have HB13 := Lib.hid (below_on HB12.out hs)
    clear hs
    clear HB12
    clear c0s c1s c0t c1t
    clear Vs
    clear Vt
    have c0p := Vp.out.c0
    have c1p := Vp.out.c1
    have c0q := Vq.out.c0
    have c1q := Vq.out.c1
    have HC14 := Lib.hid (equal_yes _ _ (Nl.wrapI (na * nb) m sg) (Nl.wrapI ((Nl.wrapI na m sg) * (Nl.wrapI nb m sg)) m sg) 63 63 w13 ⟨Vp.out.num, (len_bits (k := 63) (Nl.wrapI_size _ m sg) (by have := HMM.out; omega))⟩ ⟨Vq.out.num, (len_bits (k := 63) (Nl.wrapI_size _ m sg) (by have := HMM.out; omega))⟩ (wrap_pro na nb m sg))
    go_wp2_with fail
    refine HC14.out.mono ?_
    rintro e w14 ⟨rfl, hbx⟩
    have hs := hbx
    clear hbx HC14
    have Ya := Lib.hid (Va.out.on hs)
    clear Va
    have Va := Ya
    clear Ya
    have Yb := Lib.hid (Vb.out.on hs)
    clear Vb
    have Vb := Yb
    clear Yb
    have Yx := Lib.hid (Vx.out.on hs)
    clear Vx
    have Vx := Yx
    clear Yx
    have Yy := Lib.hid (Vy.out.on hs)
    clear Vy
    have Vy := Yy
    clear Yy
    have Yp := Lib.hid (Vp.out.on hs)
    clear Vp
    have Vp := Yp
    clear Yp
    have Yq := Lib.hid (Vq.out.on hs)
    clear Vq
    have Vq := Yq
    clear Yq
    have HB14 := Lib.hid (below_on HB13.out hs)
    clear hs
    clear HB13
    clear c0p c1p c0q c1q
    clear Vp
    clear Vq
    have HC15 := Lib.hid (fromInt_row 1 w14 (by decide) (by decide))
    go_wp2_with fail
    refine HC15.out.mono ?_
    rintro e w15 ⟨⟨so, po, lo, co, rfl, hio⟩, hbx⟩
    have Io := hio
    clear hio
    have hs := hbx
    clear hbx HC15
    have Ya := Lib.hid (Va.out.on hs)
    clear Va
    have Va := Ya
    clear Ya
    have Yb := Lib.hid (Vb.out.on hs)
    clear Vb
    have Vb := Yb
    clear Yb
    have Yx := Lib.hid (Vx.out.on hs)
    clear Vx
    have Vx := Yx
    clear Yx
    have Yy := Lib.hid (Vy.out.on hs)
    clear Vy
    have Vy := Yy
    clear Yy
    have Vo := Lib.hid (HeldI.mk Io)
    clear Io
    have HB15 := Lib.hid (below_on HB14.out hs)
    clear hs
    clear HB14
    have HC16 := Lib.hid (wShift_ok _ 1 m w15 Vo.out.num (by rw [show Nl.limbs (1 : Int).natAbs = [1] from limbs_one (by decide) (by decide)]; decide) (by have := HMM.out; omega))
    go_wp2_with fail
    refine HC16.out.mono ?_
    rintro e w16 ⟨⟨sz, pz, lz, cz, rfl, hiz⟩, hbx⟩
    obtain ⟨Z16, hZ16⟩ : ∃ Z16, Z16 = (w16.alloc (.cells #[.bool sz, .slice pz lz cz] 25)) := ⟨_, rfl⟩
    have hz : Below w16.heap.size w16 Z16 := by rw [hZ16]; exact below_one w16 _
    have Rz : Z16.heap[w16.heap.size]? = some (.cells #[.bool sz, .slice pz lz cz] 25 (0, 0)) := by rw [hZ16]; exact al_at _ _ (by simp)
    have Iz := hiz.below hz
    have hs := hbx.trans (hz.mono hbx.size)
    clear hiz hz
    clear hbx HC16
    have Ya := Lib.hid (Va.out.on hs)
    clear Va
    have Va := Ya
    clear Ya
    have Yb := Lib.hid (Vb.out.on hs)
    clear Vb
    have Vb := Yb
    clear Yb
    have Yx := Lib.hid (Vx.out.on hs)
    clear Vx
    have Vx := Yx
    clear Yx
    have Yy := Lib.hid (Vy.out.on hs)
    clear Vy
    have Vy := Yy
    clear Yy
    have Yo := Lib.hid (Vo.out.on hs)
    clear Vo
    have Vo := Yo
    clear Yo
    have Vz := Lib.hid (Kept.mk Rz Iz)
    clear Rz Iz
    have HB16 := Lib.hid (below_on HB15.out hs)
    clear hs
    clear HB15
    clear Vo
    clear Vb
    have z0a : ∀ w', Below Z16.heap.size Z16 w' → w'.cell? ⟨w.heap.size, 0, none⟩ = some (.bool sa) := fun w' h => (Va.out.on h).c0
    have z1a : ∀ w', Below Z16.heap.size Z16 w' → w'.cell? ⟨w.heap.size, 1, none⟩ = some (.slice pa la ca) := fun w' h => (Va.out.on h).c1
    have z0x : ∀ w', Below Z16.heap.size Z16 w' → w'.cell? ⟨w3.heap.size, 0, none⟩ = some (.bool sx) := fun w' h => (Vx.out.on h).c0
    have z1x : ∀ w', Below Z16.heap.size Z16 w' → w'.cell? ⟨w3.heap.size, 1, none⟩ = some (.slice px lx cx) := fun w' h => (Vx.out.on h).c1
    have z0z : ∀ w', Below Z16.heap.size Z16 w' → w'.cell? ⟨w16.heap.size, 0, none⟩ = some (.bool sz) := fun w' h => (Vz.out.on h).c0
    have z1z : ∀ w', Below Z16.heap.size Z16 w' → w'.cell? ⟨w16.heap.size, 1, none⟩ = some (.slice pz lz cz) := fun w' h => (Vz.out.on h).c1
    go_wp2_with fail
    rw [← hZ16]
    clear hZ16
    have hrr : Below Z16.heap.size Z16 Z16 := Below.refl _ _
    go_cut [24, 25, 26] from 135 (fun v24 v25 v26 wx => v26 = .int .i64 0 ∧ ∃ g s p l c, v25 = .pointer (some ⟨g, 0, none⟩) ∧ Z16.heap.size ≤ g ∧ Kept wx g s p l c (divR 1 (na - (Nl.wrapI na m sg)) (1 * ((2 ^ m : Nat) : Int))) ∧ Below Z16.heap.size Z16 wx)
    case first =>
      go_region_held3 (fun w' => Below Z16.heap.size Z16 w')
        (first
          | assumption
          | ((try (repeat (first | refine bel_al ?_ _ | refine bel_dr ?_ | refine bel_st ?_ (by first | exact Nat.le_refl _ | exact Nat.le_succ _ | assumption | (dsimp only; omega) | (exact Nat.le_trans (by assumption) (Nat.le_succ _)) | (simp; omega)) _))); (first | assumption | exact Below.refl _ _)))
        (first
          | (go_at_call 64; refine (sub_num _ _ na (Nl.wrapI na m sg) 40 63 _ (Va.out.on (by ((try (repeat (first | refine bel_al ?_ _ | refine bel_dr ?_ | refine bel_st ?_ (by first | exact Nat.le_refl _ | exact Nat.le_succ _ | assumption | (dsimp only; omega) | (exact Nat.le_trans (by assumption) (Nat.le_succ _)) | (simp; omega)) _))); (first | assumption | exact Below.refl _ _)))).num (Vx.out.on (by ((try (repeat (first | refine bel_al ?_ _ | refine bel_dr ?_ | refine bel_st ?_ (by first | exact Nat.le_refl _ | exact Nat.le_succ _ | assumption | (dsimp only; omega) | (exact Nat.le_trans (by assumption) (Nat.le_succ _)) | (simp; omega)) _))); (first | assumption | exact Below.refl _ _)))).num La.out (len_bits (k := 63) (Nl.wrapI_size _ m sg) (by have := HMM.out; omega)) (by decide) (by decide) (by decide)).mono ?_; rintro e wx ⟨⟨su, pu, lu, cu, rfl, hu⟩, hwr⟩; (try (have rA : wx.heap[Z16.heap.size]? = some (.cells #[.bool false, .slice none 0 0] 25 (0, 0)) := blk_via hwr (by first | exact heap_alloc_new _ _ | exact heap_alloc2_old _ _ _))); (try (have rB : wx.heap[Z16.heap.size + 1]? = some (.cells #[.bool false, .slice none 0 0] 25 (0, 0)) := blk_via hwr (by exact heap_alloc2_new _ _ _))); have belR := below_on (D := Z16) (by ((try (repeat (first | refine bel_al ?_ _ | refine bel_dr ?_ | refine bel_st ?_ (by first | exact Nat.le_refl _ | exact Nat.le_succ _ | assumption | (dsimp only; omega) | (exact Nat.le_trans (by assumption) (Nat.le_succ _)) | (simp; omega)) _))); (first | assumption | exact Below.refl _ _))) hwr; have kx := belR.size; clear hwr)
          | (go_at_call 39; refine (wDivL _ _ (na - (Nl.wrapI na m sg)) (1 * ((2 ^ m : Nat) : Int)) 1 1 rfl _ (IsI.below hu (by ((try (repeat (first | refine bel_al ?_ _ | refine bel_dr ?_ | refine bel_st ?_ (by first | exact Nat.le_refl _ | exact Nat.le_succ _ | assumption | (dsimp only; omega) | (exact Nat.le_trans (by assumption) (Nat.le_succ _)) | (simp; omega)) _))); (first | exact Below.refl _ _ | exact Below.refl _ _)))) (Vz.out.on (by ((try (repeat (first | refine bel_al ?_ _ | refine bel_dr ?_ | refine bel_st ?_ (by first | exact Nat.le_refl _ | exact Nat.le_succ _ | assumption | (dsimp only; omega) | (exact Nat.le_trans (by assumption) (Nat.le_succ _)) | (simp; omega)) _))); (first | assumption | exact Below.refl _ _)))).num (Nat.le_trans (len_dif La.out (len_bits (k := 63) (Nl.wrapI_size _ m sg) (by have := HMM.out; omega))) (by decide)) (Nat.le_trans (len_bits (n := m) (k := 63) (by rw [Int.one_mul, Int.natAbs_natCast]; exact Nat.le_refl _) (by have := HMM.out; omega)) (by decide)) (by have := Nat.two_pow_pos m; omega) (by decide) (by decide)).mono ?_; rintro e wd ⟨⟨sd, pd, ld, cd, sr, pr, lr, cr, rfl, hd, hr⟩, hwd⟩; (try (have sA : wd.heap[Z16.heap.size]? = some (.cells #[.bool false, .slice none 0 0] 25 (0, 0)) := blk_via hwd (by first | exact rA | exact al_keep _ _ (lt_of_block rA) rA | exact al_keep _ _ (by have := lt_of_block rA; simp; omega) (al_keep _ _ (lt_of_block rA) rA)); have nA := lt_of_block sA; have mA : ¬ Z16.heap.size = wd.heap.size := Nat.ne_of_lt nA; have lA : ¬ wd.heap.size = Z16.heap.size := Nat.ne_of_gt nA; have fA0 := frozen_of_row _ _ 0 _ _ sA; have fA1 := frozen_of_row _ _ 1 _ _ sA; have gA0 := cell_of_row _ _ 0 _ _ (0, 0) sA; have gA1 := cell_of_row _ _ 1 _ _ (0, 0) sA; simp only [List.getElem?_toArray, List.getElem?_cons_zero, List.getElem?_cons_succ] at gA0 gA1)); (try (have sB : wd.heap[Z16.heap.size + 1]? = some (.cells #[.bool false, .slice none 0 0] 25 (0, 0)) := blk_via hwd (by first | exact rB | exact al_keep _ _ (lt_of_block rB) rB | exact al_keep _ _ (by have := lt_of_block rB; simp; omega) (al_keep _ _ (lt_of_block rB) rB)); have nB := lt_of_block sB; have mB : ¬ Z16.heap.size + 1 = wd.heap.size := Nat.ne_of_lt nB; have lB : ¬ wd.heap.size = Z16.heap.size + 1 := Nat.ne_of_gt nB; have fB0 := frozen_of_row _ _ 0 _ _ sB; have fB1 := frozen_of_row _ _ 1 _ _ sB; have gB0 := cell_of_row _ _ 0 _ _ (0, 0) sB; have gB1 := cell_of_row _ _ 1 _ _ (0, 0) sB; simp only [List.getElem?_toArray, List.getElem?_cons_zero, List.getElem?_cons_succ] at gB0 gB1)); (try (have sC : wd.heap[wx.heap.size]? = some (.cells #[.bool false, .slice none 0 0] 25 (0, 0)) := blk_via hwd (by first | exact heap_alloc_new _ _ | exact heap_alloc2_old _ _ _); have nC := lt_of_block sC; have mC : ¬ wx.heap.size = wd.heap.size := Nat.ne_of_lt nC; have lC : ¬ wd.heap.size = wx.heap.size := Nat.ne_of_gt nC; have fC0 := frozen_of_row _ _ 0 _ _ sC; have fC1 := frozen_of_row _ _ 1 _ _ sC; have gC0 := cell_of_row _ _ 0 _ _ (0, 0) sC; have gC1 := cell_of_row _ _ 1 _ _ (0, 0) sC; simp only [List.getElem?_toArray, List.getElem?_cons_zero, List.getElem?_cons_succ] at gC0 gC1)); (try (have sD : wd.heap[wx.heap.size + 1]? = some (.cells #[.bool false, .slice none 0 0] 25 (0, 0)) := blk_via hwd (by exact heap_alloc2_new _ _ _); have nD := lt_of_block sD; have mD : ¬ wx.heap.size + 1 = wd.heap.size := Nat.ne_of_lt nD; have lD : ¬ wd.heap.size = wx.heap.size + 1 := Nat.ne_of_gt nD; have fD0 := frozen_of_row _ _ 0 _ _ sD; have fD1 := frozen_of_row _ _ 1 _ _ sD; have gD0 := cell_of_row _ _ 0 _ _ (0, 0) sD; have gD1 := cell_of_row _ _ 1 _ _ (0, 0) sD; simp only [List.getElem?_toArray, List.getElem?_cons_zero, List.getElem?_cons_succ] at gD0 gD1)); (try (have n1 : ¬ Z16.heap.size = wx.heap.size := Nat.ne_of_lt (lt_of_block rA); have n2 : ¬ wx.heap.size = Z16.heap.size := Nat.ne_of_gt (lt_of_block rA))); have n3 : ¬ Z16.heap.size = Z16.heap.size + 1 := (by omega); have n4 : ¬ Z16.heap.size + 1 = Z16.heap.size := (by omega); have n5 : ¬ wx.heap.size = wx.heap.size + 1 := (by omega); have n6 : ¬ wx.heap.size + 1 = wx.heap.size := (by omega); have belD := below_on (D := Z16) (by ((try (repeat (first | refine bel_al ?_ _ | refine bel_dr ?_ | refine bel_st ?_ (by first | exact Nat.le_refl _ | exact Nat.le_succ _ | assumption | (dsimp only; omega) | (exact Nat.le_trans (by assumption) (Nat.le_succ _)) | (simp; omega)) _))); (first | assumption | exact Below.refl _ _))) hwd; have kd := belD.size; clear hwd))
      all_goals (go_wp2_with fail; go_meet; case rel => refine ⟨rfl, _, _, _, _, _, rfl, (by first | exact Nat.le_refl _ | exact Nat.le_succ _ | assumption | exact Nat.le_succ_of_le (by assumption)), (by first | exact kept_f1 _ hr | exact kept_f2 _ hr | exact kept_f3 _ _ hr (by assumption) | exact kept_f4 _ _ hr (by assumption) (by assumption) (by assumption) | exact kept_f5 _ hr (by assumption)), (by ((try (repeat (first | refine bel_al ?_ _ | refine bel_dr ?_ | refine bel_st ?_ (by first | exact Nat.le_refl _ | exact Nat.le_succ _ | assumption | (dsimp only; omega) | (exact Nat.le_trans (by assumption) (Nat.le_succ _)) | (simp; omega)) _))); (first | assumption | exact Below.refl _ _)))⟩)
    case rest =>
      obtain ⟨rfl, gr, sr, pr, lr, cr, rfl, hgr, kr, hs⟩ := hcut
      clear hgr z0a z1a z0x z1x z0z z1z hrr
      have Ya := Lib.hid (Va.out.on hs)
      clear Va
      have Va := Ya
      clear Ya
      have Yx := Lib.hid (Vx.out.on hs)
      clear Vx
      have Vx := Yx
      clear Yx
      have Yy := Lib.hid (Vy.out.on hs)
      clear Vy
      have Vy := Yy
      clear Yy
      have Yz := Lib.hid (Vz.out.on hs)
      clear Vz
      have Vz := Yz
      clear Yz
      have Vr := Lib.hid kr
      have HBr := Lib.hid (below_on HB16.out hs)
      clear hs kr HB16
      clear Va
      have hlr : lr = 0 := by
        have h1 := (isI_sign Vr.out.num).2
        rw [h1, wrap_rest na m sg]; exact (by rw [Nl.limbs_zero]; rfl)
      have er : ((lr : Int) == 0) = true := by rw [beq_iff_eq]; omega
      clear hlr
      obtain ⟨m1, hm1⟩ : ∃ m1, m1 = m - 1 := ⟨_, rfl⟩
      have i1 : (m : Int) - 1 = (m1 : Int) := by have := HMM.out; omega
      have HM1 := Lib.hid (show m = m1 + 1 by have := HMM.out; omega)
      have hmb : m1 ≤ 2000 := by have := HMM.out; omega
      have hmb2 : m ≤ 2000 := HMM.out.2
      clear hm1
      have HC17 := Lib.hid (fromInt_row 1 wc (by decide) (by decide))
      go_wp2_with fail
      refine HC17.out.mono ?_
      rintro e w17 ⟨⟨so, po, lo, co, rfl, hio⟩, hbx⟩
      have Io := hio
      clear hio
      have hs := hbx
      clear hbx HC17
      have Yx := Lib.hid (Vx.out.on hs)
      clear Vx
      have Vx := Yx
      clear Yx
      have Yy := Lib.hid (Vy.out.on hs)
      clear Vy
      have Vy := Yy
      clear Yy
      have Yz := Lib.hid (Vz.out.on hs)
      clear Vz
      have Vz := Yz
      clear Yz
      have Yr := Lib.hid (Vr.out.on hs)
      clear Vr
      have Vr := Yr
      clear Yr
      have Vo := Lib.hid (HeldI.mk Io)
      clear Io
      have HB17 := Lib.hid (below_on HBr.out hs)
      clear hs
      have HC18 := Lib.hid (wShift_ok _ 1 m1 w17 Vo.out.num (by rw [show Nl.limbs (1 : Int).natAbs = [1] from limbs_one (by decide) (by decide)]; decide) (by have := HMM.out; have := HM1.out; omega))
      go_wp2_with fail
      refine HC18.out.mono ?_
      rintro e w18 ⟨⟨sh, ph, lh, ch, rfl, hih⟩, hbx⟩
      obtain ⟨Z18, hZ18⟩ : ∃ Z18, Z18 = (w18.alloc (.cells #[.bool sh, .slice ph lh ch] 25)) := ⟨_, rfl⟩
      have hz : Below w18.heap.size w18 Z18 := by rw [hZ18]; exact below_one w18 _
      have Rh : Z18.heap[w18.heap.size]? = some (.cells #[.bool sh, .slice ph lh ch] 25 (0, 0)) := by rw [hZ18]; exact al_at _ _ (by simp)
      have Ih := hih.below hz
      have hs := hbx.trans (hz.mono hbx.size)
      clear hih hz
      clear hbx HC18
      have Yx := Lib.hid (Vx.out.on hs)
      clear Vx
      have Vx := Yx
      clear Yx
      have Yy := Lib.hid (Vy.out.on hs)
      clear Vy
      have Vy := Yy
      clear Yy
      have Yz := Lib.hid (Vz.out.on hs)
      clear Vz
      have Vz := Yz
      clear Yz
      have Yr := Lib.hid (Vr.out.on hs)
      clear Vr
      have Vr := Yr
      clear Yr
      have Yo := Lib.hid (Vo.out.on hs)
      clear Vo
      have Vo := Yo
      clear Yo
      have Vh := Lib.hid (Kept.mk Rh Ih)
      clear Rh Ih
      have HB18 := Lib.hid (below_on HB17.out hs)
      clear hs
      clear Vo
      clear i1
      have HSX := Lib.hid (isI_sign Vx.out.num).1
      cases sg with
      | false =>
        have hsx : sx = false := by rw [HSX.out, negB]; exact decide_eq_false (by have := ((Nl.wrapI_bounds na m false).1 rfl).1; omega)
        subst hsx
        clear HSX
        have c0x := Vx.out.c0
        have c1x := Vx.out.c1
        have c0z := Vz.out.c0
        have c1z := Vz.out.c1
        rw [hZ18] at c0x c1x c0z c1z
        have HC19 := Lib.hid (cmp_is _ _ (Nl.wrapI na m false) (1 * ((2 ^ m : Nat) : Int)) (-1) 63 63 Z18 ⟨Vx.out.num, (len_bits (k := 63) (Nl.wrapI_size _ m false) (by have := HMM.out; omega))⟩ ⟨Vz.out.num, (len_bits (n := m) (k := 63) (by rw [Int.one_mul, Int.natAbs_natCast]; exact Nat.le_refl _) (by have := HMM.out; omega))⟩ (by decide) (by decide) (cmpI_m1 (by have h1 := ((Nl.wrapI_bounds na m false).1 rfl).2; omega)))
        go_wp2_with fail
        rw [← hZ18]
        clear hZ18
        refine HC19.out.mono ?_
        rintro e w19 ⟨rfl, hbx⟩
        have hs := hbx
        clear hbx HC19
        have Yx := Lib.hid (Vx.out.on hs)
        clear Vx
        have Vx := Yx
        clear Yx
        have Yy := Lib.hid (Vy.out.on hs)
        clear Vy
        have Vy := Yy
        clear Yy
        have Yz := Lib.hid (Vz.out.on hs)
        clear Vz
        have Vz := Yz
        clear Yz
        have Yr := Lib.hid (Vr.out.on hs)
        clear Vr
        have Vr := Yr
        clear Yr
        have Yh := Lib.hid (Vh.out.on hs)
        clear Vh
        have Vh := Yh
        clear Yh
        have HB19 := Lib.hid (below_on HB18.out hs)
        clear hs
        clear HB18
        clear c0x c1x c0z c1z
        have c0r := Vr.out.c0
        have c1r := Vr.out.c1
        go_wp2_with fail
        go_ret
        exact ⟨rfl, HB19.out⟩
      | true =>
        cases sx with
        | false =>
          clear HSX
          have c0x := Vx.out.c0
          have c1x := Vx.out.c1
          have c0z := Vz.out.c0
          have c1z := Vz.out.c1
          rw [hZ18] at c0x c1x c0z c1z
          have HC19 := Lib.hid (cmp_is _ _ (Nl.wrapI na m true) (1 * ((2 ^ m : Nat) : Int)) (-1) 63 63 Z18 ⟨Vx.out.num, (len_bits (k := 63) (Nl.wrapI_size _ m true) (by have := HMM.out; omega))⟩ ⟨Vz.out.num, (len_bits (n := m) (k := 63) (by rw [Int.one_mul, Int.natAbs_natCast]; exact Nat.le_refl _) (by have := HMM.out; omega))⟩ (by decide) (by decide) (cmpI_m1 (by have h1 := ((Nl.wrapI_bounds na m true).2 rfl); have h2 := Nat.two_pow_pos m; omega)))
          go_wp2_with fail
          rw [← hZ18]
          clear hZ18
          refine HC19.out.mono ?_
          rintro e w19 ⟨rfl, hbx⟩
          have hs := hbx
          clear hbx HC19
          have Yx := Lib.hid (Vx.out.on hs)
          clear Vx
          have Vx := Yx
          clear Yx
          have Yy := Lib.hid (Vy.out.on hs)
          clear Vy
          have Vy := Yy
          clear Yy
          have Yz := Lib.hid (Vz.out.on hs)
          clear Vz
          have Vz := Yz
          clear Yz
          have Yr := Lib.hid (Vr.out.on hs)
          clear Vr
          have Vr := Yr
          clear Yr
          have Yh := Lib.hid (Vh.out.on hs)
          clear Vh
          have Vh := Yh
          clear Yh
          have HB19 := Lib.hid (below_on HB18.out hs)
          clear hs
          clear HB18
          clear c0x c1x c0z c1z
          have c0x := Vx.out.c0
          have c1x := Vx.out.c1
          have c0h := Vh.out.c0
          have c1h := Vh.out.c1
          have HC20 := Lib.hid (cmp_is _ _ (Nl.wrapI na m true) (1 * ((2 ^ m1 : Nat) : Int)) (-1) 63 63 w19 ⟨Vx.out.num, (len_bits (k := 63) (Nl.wrapI_size _ m true) (by have := HMM.out; omega))⟩ ⟨Vh.out.num, (len_bits (n := m1) (k := 63) (by rw [Int.one_mul, Int.natAbs_natCast]; exact Nat.le_refl _) (by have := HMM.out; have := HM1.out; omega))⟩ (by decide) (by decide) (cmpI_m1 (by have h1 := ((Nl.wrapI_bounds na m true).2 rfl); have h2 := HM1.out; subst h2; rw [Nat.pow_succ] at h1; omega)))
          go_wp2_with fail
          refine HC20.out.mono ?_
          rintro e w20 ⟨rfl, hbx⟩
          have hs := hbx
          clear hbx HC20
          have Yx := Lib.hid (Vx.out.on hs)
          clear Vx
          have Vx := Yx
          clear Yx
          have Yy := Lib.hid (Vy.out.on hs)
          clear Vy
          have Vy := Yy
          clear Yy
          have Yz := Lib.hid (Vz.out.on hs)
          clear Vz
          have Vz := Yz
          clear Yz
          have Yr := Lib.hid (Vr.out.on hs)
          clear Vr
          have Vr := Yr
          clear Yr
          have Yh := Lib.hid (Vh.out.on hs)
          clear Vh
          have Vh := Yh
          clear Yh
          have HB20 := Lib.hid (below_on HB19.out hs)
          clear hs
          clear HB19
          clear c0x c1x c0h c1h
          have c0x := Vx.out.c0
          have c1x := Vx.out.c1
          have c0h := Vh.out.c0
          have c1h := Vh.out.c1
          have HC21 := Lib.hid (add_num _ _ (Nl.wrapI na m true) (1 * ((2 ^ m1 : Nat) : Int)) 63 63 w20 Vx.out.num Vh.out.num (len_bits (k := 63) (Nl.wrapI_size _ m true) (by have := HMM.out; omega)) (len_bits (n := m1) (k := 63) (by rw [Int.one_mul, Int.natAbs_natCast]; exact Nat.le_refl _) (by have := HMM.out; have := HM1.out; omega)) (by decide) (by decide) (by decide))
          go_wp2_with fail
          refine HC21.out.mono ?_
          rintro e w21 ⟨⟨su, pu, lu, cu, rfl, hiu⟩, hbx⟩
          have Iu := hiu
          clear hiu
          have hs := hbx
          clear hbx HC21
          have Yx := Lib.hid (Vx.out.on hs)
          clear Vx
          have Vx := Yx
          clear Yx
          have Yy := Lib.hid (Vy.out.on hs)
          clear Vy
          have Vy := Yy
          clear Yy
          have Yz := Lib.hid (Vz.out.on hs)
          clear Vz
          have Vz := Yz
          clear Yz
          have Yr := Lib.hid (Vr.out.on hs)
          clear Vr
          have Vr := Yr
          clear Yr
          have Yh := Lib.hid (Vh.out.on hs)
          clear Vh
          have Vh := Yh
          clear Yh
          have Vu := Lib.hid (HeldI.mk Iu)
          clear Iu
          have HB21 := Lib.hid (below_on HB20.out hs)
          clear hs
          clear HB20
          clear c0x c1x c0h c1h
          have HC22 := Lib.hid (fromInt_row 0 w21 (by decide) (by decide))
          go_wp2_with fail
          refine HC22.out.mono ?_
          rintro e w22 ⟨⟨so, po, lo, co, rfl, hio⟩, hbx⟩
          have Io := hio
          clear hio
          have hs := hbx
          clear hbx HC22
          have Yx := Lib.hid (Vx.out.on hs)
          clear Vx
          have Vx := Yx
          clear Yx
          have Yy := Lib.hid (Vy.out.on hs)
          clear Vy
          have Vy := Yy
          clear Yy
          have Yz := Lib.hid (Vz.out.on hs)
          clear Vz
          have Vz := Yz
          clear Yz
          have Yr := Lib.hid (Vr.out.on hs)
          clear Vr
          have Vr := Yr
          clear Yr
          have Yh := Lib.hid (Vh.out.on hs)
          clear Vh
          have Vh := Yh
          clear Yh
          have Yu := Lib.hid (Vu.out.on hs)
          clear Vu
          have Vu := Yu
          clear Yu
          have Vo := Lib.hid (HeldI.mk Io)
          clear Io
          have HB22 := Lib.hid (below_on HB21.out hs)
          clear hs
          clear HB21
          obtain ⟨K3, hK3⟩ : ∃ K3, K3 = cmpI ((Nl.wrapI na m true) + (1 * ((2 ^ m1 : Nat) : Int))) 0 := ⟨_, rfl⟩
          have d3 : decide (K3 ≥ 0) = true := decide_eq_true (by
            have h1 := ((Nl.wrapI_bounds na m true).2 rfl)
            have h2 := HM1.out
            subst h2
            rw [Nat.pow_succ] at h1
            rw [hK3, cmpI]; split <;> (try split) <;> omega)
          have d3' : decide (0 ≤ K3) = true := d3
          have HK3 := Lib.hid hK3
          clear hK3
          have HC23 := Lib.hid (cmp_is _ _ ((Nl.wrapI na m true) + (1 * ((2 ^ m1 : Nat) : Int))) 0 K3 64 1 w22 ⟨Vu.out.num, len_sum (len_bits (k := 63) (Nl.wrapI_size _ m true) (by have := HMM.out; omega)) (len_bits (n := m1) (k := 63) (by rw [Int.one_mul, Int.natAbs_natCast]; exact Nat.le_refl _) (by have := HMM.out; have := HM1.out; omega))⟩ ⟨Vo.out.num, by rw [show Nl.limbs (0 : Int).natAbs = [] from Nl.limbs_zero]; decide⟩ (by decide) (by decide) HK3.out.symm)
          go_wp2_with fail
          refine HC23.out.mono ?_
          rintro e w23 ⟨rfl, hbx⟩
          have hs := hbx
          clear hbx HC23
          have Yx := Lib.hid (Vx.out.on hs)
          clear Vx
          have Vx := Yx
          clear Yx
          have Yy := Lib.hid (Vy.out.on hs)
          clear Vy
          have Vy := Yy
          clear Yy
          have Yz := Lib.hid (Vz.out.on hs)
          clear Vz
          have Vz := Yz
          clear Yz
          have Yr := Lib.hid (Vr.out.on hs)
          clear Vr
          have Vr := Yr
          clear Yr
          have Yh := Lib.hid (Vh.out.on hs)
          clear Vh
          have Vh := Yh
          clear Yh
          have Yu := Lib.hid (Vu.out.on hs)
          clear Vu
          have Vu := Yu
          clear Yu
          have Yo := Lib.hid (Vo.out.on hs)
          clear Vo
          have Vo := Yo
          clear Yo
          have HB23 := Lib.hid (below_on HB22.out hs)
          clear hs
          clear HB22
          have c0r := Vr.out.c0
          have c1r := Vr.out.c1
          go_wp2_with fail
          go_ret
          exact ⟨rfl, HB23.out⟩
        | true =>
          clear HSX
          have c0x := Vx.out.c0
          have c1x := Vx.out.c1
          have c0h := Vh.out.c0
          have c1h := Vh.out.c1
          rw [hZ18] at c0x c1x c0h c1h
          have HC19 := Lib.hid (cmp_is _ _ (Nl.wrapI na m true) (1 * ((2 ^ m1 : Nat) : Int)) (-1) 63 63 Z18 ⟨Vx.out.num, (len_bits (k := 63) (Nl.wrapI_size _ m true) (by have := HMM.out; omega))⟩ ⟨Vh.out.num, (len_bits (n := m1) (k := 63) (by rw [Int.one_mul, Int.natAbs_natCast]; exact Nat.le_refl _) (by have := HMM.out; have := HM1.out; omega))⟩ (by decide) (by decide) (cmpI_m1 (by have h1 := ((Nl.wrapI_bounds na m true).2 rfl); have h2 := HM1.out; subst h2; rw [Nat.pow_succ] at h1; omega)))
          go_wp2_with fail
          rw [← hZ18]
          clear hZ18
          refine HC19.out.mono ?_
          rintro e w19 ⟨rfl, hbx⟩
          have hs := hbx
          clear hbx HC19
          have Yx := Lib.hid (Vx.out.on hs)
          clear Vx
          have Vx := Yx
          clear Yx
          have Yy := Lib.hid (Vy.out.on hs)
          clear Vy
          have Vy := Yy
          clear Yy
          have Yz := Lib.hid (Vz.out.on hs)
          clear Vz
          have Vz := Yz
          clear Yz
          have Yr := Lib.hid (Vr.out.on hs)
          clear Vr
          have Vr := Yr
          clear Yr
          have Yh := Lib.hid (Vh.out.on hs)
          clear Vh
          have Vh := Yh
          clear Yh
          have HB19 := Lib.hid (below_on HB18.out hs)
          clear hs
          clear HB18
          clear c0x c1x c0h c1h
          have c0x := Vx.out.c0
          have c1x := Vx.out.c1
          have c0h := Vh.out.c0
          have c1h := Vh.out.c1
          have HC20 := Lib.hid (add_num _ _ (Nl.wrapI na m true) (1 * ((2 ^ m1 : Nat) : Int)) 63 63 w19 Vx.out.num Vh.out.num (len_bits (k := 63) (Nl.wrapI_size _ m true) (by have := HMM.out; omega)) (len_bits (n := m1) (k := 63) (by rw [Int.one_mul, Int.natAbs_natCast]; exact Nat.le_refl _) (by have := HMM.out; have := HM1.out; omega)) (by decide) (by decide) (by decide))
          go_wp2_with fail
          refine HC20.out.mono ?_
          rintro e w20 ⟨⟨su, pu, lu, cu, rfl, hiu⟩, hbx⟩
          have Iu := hiu
          clear hiu
          have hs := hbx
          clear hbx HC20
          have Yx := Lib.hid (Vx.out.on hs)
          clear Vx
          have Vx := Yx
          clear Yx
          have Yy := Lib.hid (Vy.out.on hs)
          clear Vy
          have Vy := Yy
          clear Yy
          have Yz := Lib.hid (Vz.out.on hs)
          clear Vz
          have Vz := Yz
          clear Yz
          have Yr := Lib.hid (Vr.out.on hs)
          clear Vr
          have Vr := Yr
          clear Yr
          have Yh := Lib.hid (Vh.out.on hs)
          clear Vh
          have Vh := Yh
          clear Yh
          have Vu := Lib.hid (HeldI.mk Iu)
          clear Iu
          have HB20 := Lib.hid (below_on HB19.out hs)
          clear hs
          clear HB19
          clear c0x c1x c0h c1h
          have HC21 := Lib.hid (fromInt_row 0 w20 (by decide) (by decide))
          go_wp2_with fail
          refine HC21.out.mono ?_
          rintro e w21 ⟨⟨so, po, lo, co, rfl, hio⟩, hbx⟩
          have Io := hio
          clear hio
          have hs := hbx
          clear hbx HC21
          have Yx := Lib.hid (Vx.out.on hs)
          clear Vx
          have Vx := Yx
          clear Yx
          have Yy := Lib.hid (Vy.out.on hs)
          clear Vy
          have Vy := Yy
          clear Yy
          have Yz := Lib.hid (Vz.out.on hs)
          clear Vz
          have Vz := Yz
          clear Yz
          have Yr := Lib.hid (Vr.out.on hs)
          clear Vr
          have Vr := Yr
          clear Yr
          have Yh := Lib.hid (Vh.out.on hs)
          clear Vh
          have Vh := Yh
          clear Yh
          have Yu := Lib.hid (Vu.out.on hs)
          clear Vu
          have Vu := Yu
          clear Yu
          have Vo := Lib.hid (HeldI.mk Io)
          clear Io
          have HB21 := Lib.hid (below_on HB20.out hs)
          clear hs
          clear HB20
          obtain ⟨K3, hK3⟩ : ∃ K3, K3 = cmpI ((Nl.wrapI na m true) + (1 * ((2 ^ m1 : Nat) : Int))) 0 := ⟨_, rfl⟩
          have d3 : decide (K3 ≥ 0) = true := decide_eq_true (by
            have h1 := ((Nl.wrapI_bounds na m true).2 rfl)
            have h2 := HM1.out
            subst h2
            rw [Nat.pow_succ] at h1
            rw [hK3, cmpI]; split <;> (try split) <;> omega)
          have d3' : decide (0 ≤ K3) = true := d3
          have HK3 := Lib.hid hK3
          clear hK3
          have HC22 := Lib.hid (cmp_is _ _ ((Nl.wrapI na m true) + (1 * ((2 ^ m1 : Nat) : Int))) 0 K3 64 1 w21 ⟨Vu.out.num, len_sum (len_bits (k := 63) (Nl.wrapI_size _ m true) (by have := HMM.out; omega)) (len_bits (n := m1) (k := 63) (by rw [Int.one_mul, Int.natAbs_natCast]; exact Nat.le_refl _) (by have := HMM.out; have := HM1.out; omega))⟩ ⟨Vo.out.num, by rw [show Nl.limbs (0 : Int).natAbs = [] from Nl.limbs_zero]; decide⟩ (by decide) (by decide) HK3.out.symm)
          go_wp2_with fail
          refine HC22.out.mono ?_
          rintro e w22 ⟨rfl, hbx⟩
          have hs := hbx
          clear hbx HC22
          have Yx := Lib.hid (Vx.out.on hs)
          clear Vx
          have Vx := Yx
          clear Yx
          have Yy := Lib.hid (Vy.out.on hs)
          clear Vy
          have Vy := Yy
          clear Yy
          have Yz := Lib.hid (Vz.out.on hs)
          clear Vz
          have Vz := Yz
          clear Yz
          have Yr := Lib.hid (Vr.out.on hs)
          clear Vr
          have Vr := Yr
          clear Yr
          have Yh := Lib.hid (Vh.out.on hs)
          clear Vh
          have Vh := Yh
          clear Yh
          have Yu := Lib.hid (Vu.out.on hs)
          clear Vu
          have Vu := Yu
          clear Yu
          have Yo := Lib.hid (Vo.out.on hs)
          clear Vo
          have Vo := Yo
          clear Yo
          have HB22 := Lib.hid (below_on HB21.out hs)
          clear hs
          clear HB21
          have c0r := Vr.out.c0
          have c1r := Vr.out.c1
          go_wp2_with fail
          go_ret
          exact ⟨rfl, HB22.out⟩
end Go.Proofs.YtipjbnbmackidaaGreat
