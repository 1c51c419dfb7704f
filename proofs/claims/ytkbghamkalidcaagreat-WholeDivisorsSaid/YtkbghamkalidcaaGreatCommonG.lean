/-
  What commonDivisor of package whole does, where the second number is not 0. Written by wip/tool/gencd.py. Conditions: those that each theorem names.
-/
import Derived.Test.YtkbghamkalidcaaGreatEuclidG
namespace Go.Proofs.YtkbghamkalidcaaGreat
open Go.RowKit

def cdNeg (t s : Bool) (R : ERow) : Bool := (t != s) && decide (0 < R.2.1)
def cdX (t s0 : Bool) (R S : ERow) : Int := if cdNeg t s0 R = true then sgn (t != s0) R.2.1 + (S.2.1 : Int) else sgn (t != s0) R.2.1
def cdY (t s0 s1 : Bool) (R S : ERow) : Int := if cdNeg t s0 R = true then sgn (t == s1) R.2.2 - sgn (s0 != s1) S.2.2 else sgn (t == s1) R.2.2
theorem signed_is (c : Bool) (v : Value) (m : Nat) (w : World) (h : At w v (Nl.limbs m)) : Calls Tryz.prog 124 #[.bool c, v] w fun e w' => e = .returned (.agg #[.bool (negB (sgn c m)), v]) ∧ Below w.heap.size w w' := by
  refine (signed_num c v m w h).mono ?_
  rintro e w' ⟨⟨t, rfl, ht⟩, hb⟩
  exact ⟨by rw [ht], hb⟩
theorem signed_as (c x : Bool) (v : Value) (m : Nat) (w : World) (h : At w v (Nl.limbs m)) (hx : x = negB (sgn c m)) : Calls Tryz.prog 124 #[.bool c, v] w fun e w' => e = .returned (.agg #[.bool x, v]) ∧ Below w.heap.size w w' := by
  rw [hx]; exact signed_is c v m w h
theorem isI_sgn {w : World} {v : Value} {m : Nat} (c : Bool) (h : At w v (Nl.limbs m)) : IsI w (.agg #[.bool (negB (sgn c m)), v]) (sgn c m) := isI_mk h rfl rfl
theorem box_other {w : World} {g j : Nat} (a b : Value) (h : j ≠ g) : ((w.setCell ⟨g, 0, none⟩ a).setCell ⟨g, 1, none⟩ b).heap[j]? = w.heap[j]? := by
  rw [Below.heap_setCell _ ⟨g, 1, none⟩ _ _ h, Below.heap_setCell _ ⟨g, 0, none⟩ _ _ h]
theorem plus_ok (va vb : Value) (x y : Int) (w : World) (ha : IsI w va x) (hb : IsI w vb y) (la : fitI x) (lb : fitI y) (hf : fitI (x + y)) :
    Calls Tryz.prog 109 #[va, vb] w fun e w' => (∃ s p l c, e = .returned (.agg #[.bool s, .slice p l c]) ∧ IsI w' (.agg #[.bool s, .slice p l c]) (x + y)) ∧ Below w.heap.size w w' := by
  refine (plus_yes va vb x y w ha hb la lb hf).mono ?_
  rintro e w' ⟨h, v, rfl, hv⟩
  obtain ⟨p, c, rfl, -⟩ := AtI.form hv
  exact ⟨⟨_, _, _, _, rfl, hv⟩, h⟩
theorem minus_ok (va vb : Value) (x y : Int) (w : World) (ha : IsI w va x) (hb : IsI w vb y) (la : fitI x) (lb : fitI y) (hf : fitI (x - y)) :
    Calls Tryz.prog 113 #[va, vb] w fun e w' => (∃ s p l c, e = .returned (.agg #[.bool s, .slice p l c]) ∧ IsI w' (.agg #[.bool s, .slice p l c]) (x - y)) ∧ Below w.heap.size w w' := by
  refine (minus_yes va vb x y w ha hb la lb hf).mono ?_
  rintro e w' ⟨h, v, rfl, hv⟩
  obtain ⟨p, c, rfl, -⟩ := AtI.form hv
  exact ⟨⟨_, _, _, _, rfl, hv⟩, h⟩
theorem neg_cd (t s : Bool) (R : ERow) : negB (sgn (t != s) R.2.1) = cdNeg t s R := by rw [sgn_neg, cdNeg]
theorem fit_sgn {c : Bool} {m : Nat} (h : (Nl.limbs m).length ≤ 100) : fitI (sgn c m) := by
  unfold fitI
  rw [sgn_abs]
  exact Nat.le_trans h (by decide)
theorem fit_nat {m : Nat} (h : (Nl.limbs m).length ≤ 100) : fitI (m : Int) := by
  unfold fitI
  rw [Int.natAbs_natCast]
  exact Nat.le_trans h (by decide)
theorem abs_le_add (x y : Int) (m n : Nat) (hx : x.natAbs ≤ m) (hy : y.natAbs ≤ n) (hm : (Nl.limbs m).length ≤ 100) (hn : (Nl.limbs n).length ≤ 100) : fitI (x + y) ∧ fitI (x - y) := by
  have h := Nl.len_add m n
  constructor
  · exact Nat.le_trans (Nl.limbs_mono (show (x + y).natAbs ≤ m + n by omega)) (by omega)
  · exact Nat.le_trans (Nl.limbs_mono (show (x - y).natAbs ≤ m + n by omega)) (by omega)

set_option maxRecDepth 10000 in
set_option maxHeartbeats 16000000 in
theorem common_gen (p0 p1 : Option Addr) (l0 c0 l1 c1 : Nat) (s0 s1 t : Bool) (R S : ERow) (w : World) (hl : 0 < l1) (hR : wee R) (hS : wee S)
    (heu : ∀ w', Below w.heap.size w w' → Calls Tryz.prog 137 #[.slice p0 l0 c0, .slice p1 l1 c1] w' fun e w'' => EucOut w' w'' e R S t) :
    Calls Tryz.prog 77 #[.agg #[.bool s0, .slice p0 l0 c0], .agg #[.bool s1, .slice p1 l1 c1]] w fun e w' =>
      (∃ u v y, e = .returned (.tuple #[u, v, y]) ∧ IsI w' u (R.1 : Int) ∧ IsI w' v (cdX t s0 R S) ∧ IsI w' y (cdY t s0 s1 R S)) ∧ Below w.heap.size w w' := by
  obtain ⟨K, hK⟩ : ∃ K, K = w.heap.size := ⟨_, rfl⟩
  obtain ⟨W, hW⟩ : ∃ W, W = ((((w.alloc (.cells #[.bool s0, .slice p0 l0 c0] 78)).alloc (.cells #[.bool s1, .slice p1 l1 c1] 78)).alloc (.cells #[.bool false, .slice none 0 0] 78)).alloc (.cells #[.bool false, .slice none 0 0] 78)).alloc (.cells #[.bool false, .slice none 0 0] 78) := ⟨_, rfl⟩
  have hb : Below w.heap.size w W := by rw [hW]; exact ((three_new w _ _ _).alloc (by simp <;> omega) _).alloc (by simp <;> omega) _
  have B0 : W.heap[K]? = some (.cells #[.bool s0, .slice p0 l0 c0] 78 (0, 0)) := by rw [hW, hK]; exact al_keep _ _ (by simp <;> omega) (al_keep _ _ (by simp <;> omega) (al_keep _ _ (by simp <;> omega) (al_keep _ _ (by simp <;> omega) (al_at _ _ (by simp)))))
  have B1 : W.heap[K + 1]? = some (.cells #[.bool s1, .slice p1 l1 c1] 78 (0, 0)) := by rw [hW, hK]; exact al_keep _ _ (by simp <;> omega) (al_keep _ _ (by simp <;> omega) (al_keep _ _ (by simp <;> omega) (al_at _ _ (by simp))))
  have B2 : W.heap[K + 1 + 1]? = some (.cells #[.bool false, .slice none 0 0] 78 (0, 0)) := by rw [hW, hK]; exact al_keep _ _ (by simp <;> omega) (al_keep _ _ (by simp <;> omega) (al_at _ _ (by simp)))
  have B3 : W.heap[K + 1 + 1 + 1]? = some (.cells #[.bool false, .slice none 0 0] 78 (0, 0)) := by rw [hW, hK]; exact al_keep _ _ (by simp <;> omega) (al_at _ _ (by simp))
  have B4 : W.heap[K + 1 + 1 + 1 + 1]? = some (.cells #[.bool false, .slice none 0 0] 78 (0, 0)) := by rw [hW, hK]; exact al_at _ _ (by simp)
  have HE := Lib.hid (heu W hb)
  have ka0 := cell_of_row _ _ 0 _ _ (0, 0) B0
  have ka1 := cell_of_row _ _ 1 _ _ (0, 0) B0
  simp only [List.getElem?_toArray, List.getElem?_cons_zero, List.getElem?_cons_succ] at ka0 ka1
  have kb0 := cell_of_row _ _ 0 _ _ (0, 0) B1
  have kb1 := cell_of_row _ _ 1 _ _ (0, 0) B1
  simp only [List.getElem?_toArray, List.getElem?_cons_zero, List.getElem?_cons_succ] at kb0 kb1
  have e0 : ((l1 : Int) == 0) = false := by rw [beq_eq_false_iff_ne]; omega
  have HB := Lib.hid (And.intro hb (And.intro B0 (And.intro B1 (And.intro B2 (And.intro B3 B4)))))
  have HRS := Lib.hid (And.intro hR hS)
  clear heu hb hR hS hl B0 B1 B2 B3 B4
  go_enter Tryz.func77, Tryz.ntmps77
  go_upto_region 1 with fail
  rw [← hW, ← hK]
  have HK := Lib.hid hK
  clear hW hK
  go_wp2_with fail
  refine HE.out.mono ?_
  rintro e w1 ⟨⟨r0, r1, r2, n0, f0, n1, f1, n2, f2, q0, q1, q2, m0, d0, m1, d1, m2, d2, rfl, a0, a1, a2, b0, b1, b2⟩, hb1⟩
  have HA := Lib.hid (And.intro a0 (And.intro a1 (And.intro a2 (And.intro b1 b2))))
  have HB1 := Lib.hid (And.intro (HB.out.1.trans (hb1.mono HB.out.1.size)) hb1)
  clear a0 a1 a2 b0 b1 b2 hb1 HE ka0 ka1 kb0 kb1
  go_wp2_with fail
  obtain ⟨T, hT⟩ : ∃ T, T = w1.heap.size := ⟨_, rfl⟩
  obtain ⟨w2, hw2⟩ : ∃ w2, w2 = (w1.alloc (.cells #[.slice r0 n0 f0, .slice r1 n1 f1, .slice r2 n2 f2] 143)).alloc (.cells #[.slice q0 m0 d0, .slice q1 m1 d1, .slice q2 m2 d2] 143) := ⟨_, rfl⟩
  rw [← hw2, ← hT]
  have hb12 : Below w1.heap.size w1 w2 := by rw [hw2]; exact two_new w1 _ _
  have T0 : w2.heap[T]? = some (.cells #[.slice r0 n0 f0, .slice r1 n1 f1, .slice r2 n2 f2] 143 (0, 0)) := by rw [hw2, hT]; exact heap_alloc2_old w1 _ _
  have T1 : w2.heap[T + 1]? = some (.cells #[.slice q0 m0 d0, .slice q1 m1 d1, .slice q2 m2 d2] 143 (0, 0)) := by rw [hw2, hT]; exact heap_alloc2_new w1 _ _
  have X0 := (hb12.block _ (Nat.lt_of_lt_of_le (lt_of_block HB.out.2.1) HB1.out.2.size)).trans ((HB1.out.2.block _ (lt_of_block HB.out.2.1)).trans HB.out.2.1)
  have X1 := (hb12.block _ (Nat.lt_of_lt_of_le (lt_of_block HB.out.2.2.1) HB1.out.2.size)).trans ((HB1.out.2.block _ (lt_of_block HB.out.2.2.1)).trans HB.out.2.2.1)
  have X2 := (hb12.block _ (Nat.lt_of_lt_of_le (lt_of_block HB.out.2.2.2.1) HB1.out.2.size)).trans ((HB1.out.2.block _ (lt_of_block HB.out.2.2.2.1)).trans HB.out.2.2.2.1)
  have X3 := (hb12.block _ (Nat.lt_of_lt_of_le (lt_of_block HB.out.2.2.2.2.1) HB1.out.2.size)).trans ((HB1.out.2.block _ (lt_of_block HB.out.2.2.2.2.1)).trans HB.out.2.2.2.2.1)
  have X4 := (hb12.block _ (Nat.lt_of_lt_of_le (lt_of_block HB.out.2.2.2.2.2) HB1.out.2.size)).trans ((HB1.out.2.block _ (lt_of_block HB.out.2.2.2.2.2)).trans HB.out.2.2.2.2.2)
  have hKT : K + 4 < T := by rw [hT]; exact Nat.lt_of_lt_of_le (lt_of_block HB.out.2.2.2.2.2) HB1.out.2.size
  have B2 := HB1.out.1.trans (hb12.mono HB1.out.1.size)
  have HW2 := Lib.hid (And.intro B2 hb12)
  clear hb12 B2 hw2 hT HB
  have ne0 : ¬ K = K + 1 := by omega
  have ne1 : ¬ K = K + 1 + 1 := by omega
  have ne2 : ¬ K = K + 1 + 1 + 1 := by omega
  have ne3 : ¬ K = K + 1 + 1 + 1 + 1 := by omega
  have ne4 : ¬ K + 1 = K := by omega
  have ne5 : ¬ K + 1 + 1 = K := by omega
  have ne6 : ¬ K + 1 + 1 + 1 = K := by omega
  have ne7 : ¬ K + 1 + 1 + 1 + 1 = K := by omega
  have ne8 : ¬ K + 1 + 1 = K + 1 := by omega
  have ne9 : ¬ K + 1 + 1 + 1 = K + 1 := by omega
  have ne10 : ¬ K + 1 + 1 + 1 + 1 = K + 1 := by omega
  have ne11 : ¬ K + 1 = K + 1 + 1 := by omega
  have ne12 : ¬ K + 1 = K + 1 + 1 + 1 := by omega
  have ne13 : ¬ K + 1 = K + 1 + 1 + 1 + 1 := by omega
  have ne14 : ¬ T = K + 1 + 1 := by omega
  have ne15 : ¬ T = K + 1 + 1 + 1 := by omega
  have ne16 : ¬ T = K + 1 + 1 + 1 + 1 := by omega
  have ne17 : ¬ K + 1 + 1 = T := by omega
  have ne18 : ¬ K + 1 + 1 + 1 = T := by omega
  have ne19 : ¬ K + 1 + 1 + 1 + 1 = T := by omega
  have bd : Below w1.heap.size w1 w2.drew := HW2.out.2.trans (below_drewN w2 1 w1.heap.size)
  obtain ⟨cx, hcx⟩ : ∃ cx, cx = negB (sgn (t != s0) R.2.1) := ⟨_, rfl⟩
  obtain ⟨cy, hcy⟩ : ∃ cy, cy = negB (sgn (t == s1) R.2.2) := ⟨_, rfl⟩
  have HCX := Lib.hid (And.intro hcx hcy)
  have HS1 := Lib.hid (fun (c x : Bool) (hx : x = negB (sgn c R.2.1)) => signed_as c x (.slice r1 n1 f1) R.2.1 w2.drew (HA.out.2.1.below bd) hx)
  have HS2 := Lib.hid (fun (c x : Bool) (hx : x = negB (sgn c R.2.2)) (w3 : World) (h : Below w2.drew.heap.size w2.drew w3) => signed_as c x (.slice r2 n2 f2) R.2.2 w3 ((HA.out.2.2.1.below bd).below h) hx)
  clear bd hcx hcy
  refine wp_region_until [(15, K, .cells #[.bool s0, .slice p0 l0 c0] 78 (0, 0)), (15, K + 1, .cells #[.bool s1, .slice p1 l1 c1] 78 (0, 0)), (15, T, .cells #[.slice r0 n0 f0, .slice r1 n1 f1, .slice r2 n2 f2] 143 (0, 0))] (by kernel_rfl) (until_cons (fun _ => X0) (until_cons (fun _ => X1) (until_cons (fun _ => T0) until_nil))) (fun hU => ?_)
  refine wpU_take (i := 0) (v := ?_) [] rfl (by kernel_rfl) (by kernel_rfl) (by kernel_rfl) (by kernel_rfl) (by kernel_rfl) (fun _ _ _ h => h) (Or.inl ⟨by rfl, ?_⟩) hU (fun hU0 => ?_)
  rotate_left
  · intro w hSw
    go_simp
    try (with_reducible rfl)
  clear hU
  try simp only [Act.put, List.setIfInBounds_toArray]
  refine wpU_take (i := 1) (v := ?_) [] rfl (by kernel_rfl) (by kernel_rfl) (by kernel_rfl) (by kernel_rfl) (by kernel_rfl) (fun _ _ _ h => h) (Or.inl ⟨by rfl, ?_⟩) hU0 (fun hU1 => ?_)
  rotate_left
  · intro w hSw
    go_simp
    try (with_reducible rfl)
  clear hU0
  try simp only [Act.put]
  refine wpU_take (i := 2) (v := ?_) [15] rfl (by kernel_rfl) (by kernel_rfl) (by kernel_rfl) (by kernel_rfl) (by kernel_rfl) (fun _ _ _ h => h) (Or.inl ⟨by rfl, ?_⟩) hU1 (fun hU2 => ?_)
  rotate_left
  · intro w hSw
    have e := hSw.fst (by decide)
    have e0 := cell_of_row _ _ 0 _ _ (0, 0) e
    have e1 := cell_of_row _ _ 1 _ _ (0, 0) e
    simp only [List.getElem?_toArray, List.getElem?_cons_zero, List.getElem?_cons_succ] at e0 e1
    go_simp
    try (with_reducible rfl)
  clear hU1
  try simp only [Act.put]
  refine wpU_take (i := 3) (v := ?_) [] rfl (by kernel_rfl) (by kernel_rfl) (by kernel_rfl) (by kernel_rfl) (by kernel_rfl) (fun _ _ _ h => h) (Or.inl ⟨by rfl, ?_⟩) hU2 (fun hU3 => ?_)
  rotate_left
  · intro w hSw
    go_simp
    try (with_reducible rfl)
  clear hU2
  try simp only [Act.put]
  refine wpU_take (i := 4) (v := ?_) [] rfl (by kernel_rfl) (by kernel_rfl) (by kernel_rfl) (by kernel_rfl) (by kernel_rfl) (fun _ _ _ h => h) (Or.inl ⟨by rfl, ?_⟩) hU3 (fun hU4 => ?_)
  rotate_left
  · intro w hSw
    go_simp
    try (with_reducible rfl)
  clear hU3
  try simp only [Act.put]
  refine wpU_take (i := 5) (v := ?_) [15] rfl (by kernel_rfl) (by kernel_rfl) (by kernel_rfl) (by kernel_rfl) (by kernel_rfl) (fun _ _ _ h => h) (Or.inl ⟨by rfl, ?_⟩) hU4 (fun hU5 => ?_)
  rotate_left
  · intro w hSw
    have e := hSw.trd (by decide)
    have e0 := cell_of_row _ _ 0 _ _ (0, 0) e
    have e1 := cell_of_row _ _ 1 _ _ (0, 0) e
    have e2 := cell_of_row _ _ 2 _ _ (0, 0) e
    simp only [List.getElem?_toArray, List.getElem?_cons_zero, List.getElem?_cons_succ] at e0 e1 e2
    go_simp
    try (with_reducible rfl)
  clear hU4
  try simp only [Act.put]
  refine wpU_take (i := 7) (v := ?_) [] rfl (by kernel_rfl) (by kernel_rfl) (by kernel_rfl) (by kernel_rfl) (by kernel_rfl) (fun _ _ _ h => h) (Or.inl ⟨by rfl, ?_⟩) hU5 (fun hU7 => ?_)
  rotate_left
  · intro w hSw
    go_simp
    try (with_reducible rfl)
  clear hU5
  try simp only [Act.put]
  refine wpU_take (i := 8) (v := ?_) [] rfl (by kernel_rfl) (by kernel_rfl) (by kernel_rfl) (by kernel_rfl) (by kernel_rfl) (fun _ _ _ h => h) (Or.inl ⟨by rfl, ?_⟩) hU7 (fun hU8 => ?_)
  rotate_left
  · intro w hSw
    go_simp
    try (with_reducible rfl)
  clear hU7
  try simp only [Act.put]
  refine wpU_take (i := 9) (v := ?_) [15] rfl (by kernel_rfl) (by kernel_rfl) (by kernel_rfl) (by kernel_rfl) (by kernel_rfl) (fun _ _ _ h => h) (Or.inl ⟨by rfl, ?_⟩) hU8 (fun hU9 => ?_)
  rotate_left
  · intro w hSw
    have e := hSw.snd (by decide)
    have e0 := cell_of_row _ _ 0 _ _ (0, 0) e
    have e1 := cell_of_row _ _ 1 _ _ (0, 0) e
    simp only [List.getElem?_toArray, List.getElem?_cons_zero, List.getElem?_cons_succ] at e0 e1
    go_simp
    try (with_reducible rfl)
  clear hU8
  try simp only [Act.put]
  refine wpU_take (i := 10) (v := ?_) [] rfl (by kernel_rfl) (by kernel_rfl) (by kernel_rfl) (by kernel_rfl) (by kernel_rfl) (fun _ _ _ h => h) (Or.inl ⟨by rfl, ?_⟩) hU9 (fun hU10 => ?_)
  rotate_left
  · intro w hSw
    go_simp
    try (with_reducible rfl)
  clear hU9
  try simp only [Act.put]
  refine wpU_take (i := 11) (v := ?_) [] rfl (by kernel_rfl) (by kernel_rfl) (by kernel_rfl) (by kernel_rfl) (by kernel_rfl) (fun _ _ _ h => h) (Or.inl ⟨by rfl, ?_⟩) hU10 (fun hU11 => ?_)
  rotate_left
  · intro w hSw
    go_simp
    try (with_reducible rfl)
  clear hU10
  try simp only [Act.put]
  refine wpU_take (i := 12) (v := ?_) [15] rfl (by kernel_rfl) (by kernel_rfl) (by kernel_rfl) (by kernel_rfl) (by kernel_rfl) (fun _ _ _ h => h) (Or.inl ⟨by rfl, ?_⟩) hU11 (fun hU12 => ?_)
  rotate_left
  · intro w hSw
    have e := hSw.trd (by decide)
    have e0 := cell_of_row _ _ 0 _ _ (0, 0) e
    have e1 := cell_of_row _ _ 1 _ _ (0, 0) e
    have e2 := cell_of_row _ _ 2 _ _ (0, 0) e
    simp only [List.getElem?_toArray, List.getElem?_cons_zero, List.getElem?_cons_succ] at e0 e1 e2
    go_simp
    try (with_reducible rfl)
  clear hU11
  try simp only [Act.put]
  refine wpU_next (i := 6) (by kernel_rfl) rfl (fun N hN => ?_)
  go_simp
  go_at_call 124
  refine (HS1.out _ cx HCX.out.1).mono ?_
  rintro e w3 ⟨rfl, hb3⟩
  have YX0 := (hb3.block _ (lt_of_block X0)).trans X0
  have YX1 := (hb3.block _ (lt_of_block X1)).trans X1
  have YT0 := (hb3.block _ (lt_of_block T0)).trans T0
  have YX3 := (hb3.block _ (lt_of_block X3)).trans X3
  have YX4 := (hb3.block _ (lt_of_block X4)).trans X4
  have YT1 := (hb3.block _ (lt_of_block T1)).trans T1
  have YX2 := (hb3.block _ (lt_of_block X2)).trans X2
  refine hN.out _ _ (until_cons (fun _ => YX0) (until_cons (fun _ => YX1) (until_cons (fun _ => YT0) until_nil))) (fun hU6 => ?_)
  clear hN N hU12
  try simp only [Act.put, List.setIfInBounds_toArray, List.set_cons_zero, List.set_cons_succ]
  refine wpU_next (i := 13) (by kernel_rfl) rfl (fun N hN => ?_)
  go_simp
  go_at_call 124
  refine (HS2.out _ cy HCX.out.2 w3 hb3).mono ?_
  rintro e w4 ⟨rfl, hb4⟩
  have ZX0 := (hb4.block _ (lt_of_block YX0)).trans YX0
  have ZX1 := (hb4.block _ (lt_of_block YX1)).trans YX1
  have ZT0 := (hb4.block _ (lt_of_block YT0)).trans YT0
  have ZX3 := (hb4.block _ (lt_of_block YX3)).trans YX3
  have ZX4 := (hb4.block _ (lt_of_block YX4)).trans YX4
  have ZT1 := (hb4.block _ (lt_of_block YT1)).trans YT1
  have ZX2 := (hb4.block _ (lt_of_block YX2)).trans YX2
  refine hN.out _ _ (until_cons (fun _ => ZX0) (until_cons (fun _ => ZX1) (until_cons (fun _ => ZT0) until_nil))) (fun hU13 => ?_)
  clear hN N hU6
  try simp only [Act.put, List.setIfInBounds_toArray, List.set_cons_zero, List.set_cons_succ]
  have ZX4' := ZX4
  have hb24 : Below w2.heap.size w2 w4 := (below_drewN w2 1 _).trans ((hb3.trans (hb4.mono hb3.size)).mono (Nat.le_refl _))
  have HZ := Lib.hid hb24
  clear hb3 hb4 hb24 hU13 HS1 HS2 ZX4' YX0 YX1 YT0 YX3 YX4 YT1 YX2 X0 X1 X2 X3 X4 T0 T1
  have HTT := Lib.hid hKT
  have kx0 := cell_of_row _ _ 0 _ _ (0, 0) ZX3
  have kx1 := cell_of_row _ _ 1 _ _ (0, 0) ZX3
  simp only [List.getElem?_toArray, List.getElem?_cons_zero, List.getElem?_cons_succ] at kx0 kx1
  have fkx0 := frozen_of_row _ _ 0 _ _ ZX3
  have fkx1 := frozen_of_row _ _ 1 _ _ ZX3
  refine wpU_next (i := 14) (by kernel_rfl) rfl (fun N hN => ?_)
  go_simp
  refine hN.out _ _ (until_cons (fun _ => (box_other _ _ (by omega)).trans ZX0) (until_cons (fun _ => (box_other _ _ (by omega)).trans ZX1) (until_cons (fun _ => (box_other _ _ (by omega)).trans ZT0) until_nil))) (fun hU14 => ?_)
  clear hN N hU14 kx0 kx1 fkx0 fkx1
  try simp only [Act.put, List.setIfInBounds_toArray, List.set_cons_zero, List.set_cons_succ]
  obtain ⟨V1, hV1⟩ : ∃ V1, V1 = (w4.setCell ⟨K + 1 + 1 + 1, 0, none⟩ (.bool cx)).setCell ⟨K + 1 + 1 + 1, 1, none⟩ (.slice r1 n1 f1) := ⟨_, rfl⟩
  rw [← hV1]
  have A4 : V1.heap[K + 1 + 1 + 1 + 1]? = some (.cells #[.bool false, .slice none 0 0] 78 (0, 0)) := by rw [hV1]; exact (box_other _ _ (by omega)).trans ZX4
  have HV1 := Lib.hid hV1
  clear hV1
  have ky0 := cell_of_row _ _ 0 _ _ (0, 0) A4
  have ky1 := cell_of_row _ _ 1 _ _ (0, 0) A4
  simp only [List.getElem?_toArray, List.getElem?_cons_zero, List.getElem?_cons_succ] at ky0 ky1
  have fky0 := frozen_of_row _ _ 0 _ _ A4
  have fky1 := frozen_of_row _ _ 1 _ _ A4
  refine wpU_next (i := 15) (by kernel_rfl) rfl (fun N hN => ?_)
  go_simp
  refine hN.out _ _ (until_cons (until_past (by kernel_rfl)) (until_cons (until_past (by kernel_rfl)) (until_cons (until_past (by kernel_rfl)) until_nil))) (fun hU15 => ?_)
  clear hN N hU15 ky0 ky1 fky0 fky1 A4
  try simp only [Act.put, List.setIfInBounds_toArray, List.set_cons_zero, List.set_cons_succ]
  refine wpU_done (by kernel_rfl) ?_ _
  obtain ⟨V, hV⟩ : ∃ V, V = (V1.setCell ⟨K + 1 + 1 + 1 + 1, 0, none⟩ (.bool cy)).setCell ⟨K + 1 + 1 + 1 + 1, 1, none⟩ (.slice r2 n2 f2) := ⟨_, rfl⟩
  rw [← hV]
  rw [HV1.out] at hV
  clear HV1
  obtain ⟨V3, V4, Vo, Vat, Vb⟩ := ibox2 (g := K + 1 + 1 + 1) (k := K + 1 + 1 + 1 + 1) (by omega) ZX3 ZX4 cx cy r1 r2 n1 f1 n2 f2 V hV
  have hb14 : Below w1.heap.size w1 w4 := HW2.out.2.trans (HZ.out.mono HW2.out.2.size)
  have VA := (Vo K (by omega) (by omega)).trans ZX0
  have VB := (Vo (K + 1) (by omega) (by omega)).trans ZX1
  have VG := (Vo (K + 1 + 1) (by omega) (by omega)).trans ZX2
  have VT := (Vo T (by omega) (by omega)).trans ZT0
  have VT1 := (Vo (T + 1) (by omega) (by omega)).trans ZT1
  have VBW := Vb w.heap.size w (by rw [← HK.out]; omega) (by rw [← HK.out]; omega) (HW2.out.1.trans (HZ.out.mono HW2.out.1.size))
  have xI : IsI V (.agg #[.bool cx, .slice r1 n1 f1]) (sgn (t != s0) R.2.1) := by rw [HCX.out.1]; exact isI_sgn _ (Vat (HA.out.2.1.below hb14))
  have yI : IsI V (.agg #[.bool cy, .slice r2 n2 f2]) (sgn (t == s1) R.2.2) := by rw [HCX.out.2]; exact isI_sgn _ (Vat (HA.out.2.2.1.below hb14))
  have rA : At V (.slice r0 n0 f0) (Nl.limbs R.1) := Vat (HA.out.1.below hb14)
  have qI : IsI V (.agg #[.bool false, .slice q1 m1 d1]) (S.2.1 : Int) := isI_pos (Vat (HA.out.2.2.2.1.below hb14))
  have qA : At V (.slice q2 m2 d2) (Nl.limbs S.2.2) := Vat (HA.out.2.2.2.2.below hb14)
  have HV := Lib.hid (And.intro VA (And.intro VB (And.intro VG (And.intro VT (And.intro VT1 (And.intro V3 (And.intro V4 VBW)))))))
  have HI := Lib.hid (And.intro xI (And.intro yI (And.intro rA (And.intro qI qA))))
  have kn := cell_of_row _ _ 0 _ _ (0, 0) V3
  simp only [List.getElem?_toArray, List.getElem?_cons_zero] at kn
  clear hV V3 V4 Vo Vat Vb VA VB VG VT VT1 VBW xI yI rA qI qA hb14 HZ HA HB1 HW2 ZX0 ZX1 ZX2 ZX3 ZX4 ZT0 ZT1 hKT
  cases cx with
  | false =>
    have hng : ¬ cdNeg t s0 R = true := by rw [← neg_cd, ← HCX.out.1]; decide
    have ex : sgn (t != s0) R.2.1 = cdX t s0 R S := by rw [cdX, if_neg hng]
    have ey : sgn (t == s1) R.2.2 = cdY t s0 s1 R S := by rw [cdY, if_neg hng]
    have HEX := Lib.hid (And.intro ex ey)
    clear hng ex ey
    obtain ⟨VA, VB, G2, GT, VT1, G3, G4, GB⟩ := HV.out
    obtain ⟨GX, GY, GA, qI, qA⟩ := HI.out
    clear VA VB VT1 qI qA HV HI HRS HCX
    have kg0 := cell_of_row _ _ 0 _ _ (0, 0) G2
    have kg1 := cell_of_row _ _ 1 _ _ (0, 0) G2
    simp only [List.getElem?_toArray, List.getElem?_cons_zero, List.getElem?_cons_succ] at kg0 kg1
    have fkg0 := frozen_of_row _ _ 0 _ _ G2
    have fkg1 := frozen_of_row _ _ 1 _ _ G2
    have kx0 := cell_of_row _ _ 0 _ _ (0, 0) G3
    have kx1 := cell_of_row _ _ 1 _ _ (0, 0) G3
    simp only [List.getElem?_toArray, List.getElem?_cons_zero, List.getElem?_cons_succ] at kx0 kx1
    have fkx0 := frozen_of_row _ _ 0 _ _ G3
    have fkx1 := frozen_of_row _ _ 1 _ _ G3
    have ky0 := cell_of_row _ _ 0 _ _ (0, 0) G4
    have ky1 := cell_of_row _ _ 1 _ _ (0, 0) G4
    simp only [List.getElem?_toArray, List.getElem?_cons_zero, List.getElem?_cons_succ] at ky0 ky1
    have fky0 := frozen_of_row _ _ 0 _ _ G4
    have fky1 := frozen_of_row _ _ 1 _ _ G4
    have kt0 := cell_of_row _ _ 0 _ _ (0, 0) GT
    simp only [List.getElem?_toArray, List.getElem?_cons_zero] at kt0
    have HG := Lib.hid (And.intro G2 (And.intro G3 (And.intro G4 (And.intro GB (And.intro GA (And.intro GX GY))))))
    clear G2 G3 G4 GT GB GA GX GY
    go_wp2_with fail
    go_region
    go_wp2_with fail
    obtain ⟨h1, h2, h3, h4, h5, h6, h7⟩ := HG.out
    have hKT := HTT.out
    obtain ⟨A, hA⟩ : ∃ A, A = (V.setCell ⟨K + 1 + 1, 0, none⟩ (.bool false)).setCell ⟨K + 1 + 1, 1, none⟩ (.slice r0 n0 f0) := ⟨_, rfl⟩
    rw [← hA]
    obtain ⟨D, hD⟩ : ∃ D, D = (((A.setCell ⟨K + 1 + 1 + 1, 0, none⟩ (.bool false)).setCell ⟨K + 1 + 1 + 1, 1, none⟩ (.slice r1 n1 f1)).setCell ⟨K + 1 + 1 + 1 + 1, 0, none⟩ (.bool cy)).setCell ⟨K + 1 + 1 + 1 + 1, 1, none⟩ (.slice r2 n2 f2) := ⟨_, rfl⟩
    rw [← hD]
    have A2 : A.heap[K + 1 + 1]? = some (.cells #[.bool false, .slice r0 n0 f0] 78 (0, 0)) := by rw [hA]; exact ibox_set (g := K + 1 + 1) _ _ h1
    have Ao : ∀ j, j ≠ K + 1 + 1 → A.heap[j]? = V.heap[j]? := fun j hj => by rw [hA]; exact box_other _ _ hj
    have Aat : ∀ {v : Value} {xs : List Nat}, At V v xs → At A v xs := fun h => by rw [hA]; exact at_ibox (g := K + 1 + 1) _ _ h h1
    have AB : Below w.heap.size w A := by rw [hA]; exact below_ibox (g := K + 1 + 1) h4 (by rw [← HK.out]; omega) _ _
    obtain ⟨D3, D4, Do, Dat, Db⟩ := ibox2 (g := K + 1 + 1 + 1) (k := K + 1 + 1 + 1 + 1) (by omega) ((Ao _ (by omega)).trans h2) ((Ao _ (by omega)).trans h3) false cy r1 r2 n1 f1 n2 f2 D hD
    have D2 := (Do (K + 1 + 1) (by omega) (by omega)).trans A2
    refine bodyPost_ret (v := .tuple #[.agg #[.bool false, .slice r0 n0 f0], .agg #[.bool false, .slice r1 n1 f1], .agg #[.bool cy, .slice r2 n2 f2]]) (results_int3 Tryz.results77 _ _ (K + 1 + 1) (K + 1 + 1 + 1) (K + 1 + 1 + 1 + 1) _ _ _ rfl rfl rfl (load_whole (w := World.drew _) D2) (load_whole (w := World.drew _) D3) (load_whole (w := World.drew _) D4)) rfl ?_
    have bd := below_drewN D 1 D.heap.size
    have mv : ∀ {v : Value} {n : Int}, IsI V v n → IsI D.drew v n := fun h => by obtain ⟨u, e, hu⟩ := h; exact ⟨u, e, (Dat (Aat hu)).below bd⟩
    exact ⟨⟨_, _, _, rfl, (isI_pos (Dat (Aat h5))).below bd, HEX.out.1 ▸ mv h6, HEX.out.2 ▸ mv h7⟩, (Db w.heap.size w (by rw [← HK.out]; omega) (by rw [← HK.out]; omega) AB).trans (below_drewN D 1 _)⟩
  | true =>
    have hng : cdNeg t s0 R = true := by rw [← neg_cd, ← HCX.out.1]
    have ex : sgn (t != s0) R.2.1 + (S.2.1 : Int) = cdX t s0 R S := by rw [cdX, if_pos hng]
    have ey : sgn (t == s1) R.2.2 - sgn (s0 != s1) S.2.2 = cdY t s0 s1 R S := by rw [cdY, if_pos hng]
    have HEX := Lib.hid (And.intro ex ey)
    clear hng ex ey
    obtain ⟨VA, VB, VG, VT, VT1, V3, V4, VBW⟩ := HV.out
    have HP := Lib.hid (plus_ok _ _ _ _ V HI.out.1 HI.out.2.2.2.1 (fit_sgn HRS.out.1.2.1) (fit_nat HRS.out.2.2.1) (abs_le_add _ _ R.2.1 S.2.1 (by rw [sgn_abs]; exact Nat.le_refl _) (by omega) HRS.out.1.2.1 HRS.out.2.2.1).1)
    have kx1 := cell_of_row _ _ 1 _ _ (0, 0) V3
    have kt1 := cell_of_row _ _ 1 _ _ (0, 0) VT1
    simp only [List.getElem?_toArray, List.getElem?_cons_zero, List.getElem?_cons_succ] at kx1 kt1
    go_wp2_with fail
    refine HP.out.mono ?_
    rintro e w5 ⟨⟨sx, px, lx, cxx, rfl, hx5⟩, hb5⟩
    replace VA := (hb5.block _ (lt_of_block VA)).trans VA
    replace VB := (hb5.block _ (lt_of_block VB)).trans VB
    replace VG := (hb5.block _ (lt_of_block VG)).trans VG
    replace VT := (hb5.block _ (lt_of_block VT)).trans VT
    replace VT1 := (hb5.block _ (lt_of_block VT1)).trans VT1
    replace V3 := (hb5.block _ (lt_of_block V3)).trans V3
    replace V4 := (hb5.block _ (lt_of_block V4)).trans V4
    have hI5 := Lib.hid (And.intro (HI.out.2.1.below hb5) (And.intro (HI.out.2.2.1.below hb5) (And.intro (HI.out.2.2.2.2.below hb5) (VBW.trans (hb5.mono VBW.size)))))
    clear kx1 kt1 kn HP HI HV VBW hb5
    have kx0 := cell_of_row _ _ 0 _ _ (0, 0) V3
    have kx1 := cell_of_row _ _ 1 _ _ (0, 0) V3
    simp only [List.getElem?_toArray, List.getElem?_cons_zero, List.getElem?_cons_succ] at kx0 kx1
    have fkx0 := frozen_of_row _ _ 0 _ _ V3
    have fkx1 := frozen_of_row _ _ 1 _ _ V3
    go_upto_region 7 with fail
    obtain ⟨V6, hV6⟩ : ∃ V6, V6 = (w5.setCell ⟨K + 1 + 1 + 1, 0, none⟩ (.bool sx)).setCell ⟨K + 1 + 1 + 1, 1, none⟩ (.slice px lx cxx) := ⟨_, rfl⟩
    rw [← hV6]
    have W3 : V6.heap[K + 1 + 1 + 1]? = some (.cells #[.bool sx, .slice px lx cxx] 78 (0, 0)) := by rw [hV6]; exact ibox_set (g := K + 1 + 1 + 1) _ _ V3
    replace VA := (show V6.heap[K]? = _ by rw [hV6]; exact box_other _ _ (by have := HTT.out; omega)).trans VA
    replace VB := (show V6.heap[K + 1]? = _ by rw [hV6]; exact box_other _ _ (by have := HTT.out; omega)).trans VB
    replace VG := (show V6.heap[K + 1 + 1]? = _ by rw [hV6]; exact box_other _ _ (by have := HTT.out; omega)).trans VG
    replace VT := (show V6.heap[T]? = _ by rw [hV6]; exact box_other _ _ (by have := HTT.out; omega)).trans VT
    replace VT1 := (show V6.heap[T + 1]? = _ by rw [hV6]; exact box_other _ _ (by have := HTT.out; omega)).trans VT1
    replace V4 := (show V6.heap[K + 1 + 1 + 1 + 1]? = _ by rw [hV6]; exact box_other _ _ (by have := HTT.out; omega)).trans V4
    have mv6 : ∀ {v : Value} {xs : List Nat}, At w5 v xs → At V6 v xs := fun h => by rw [hV6]; exact at_ibox (g := K + 1 + 1 + 1) _ _ h V3
    have xI : IsI V6 (.agg #[.bool sx, .slice px lx cxx]) (sgn (t != s0) R.2.1 + (S.2.1 : Int)) := by obtain ⟨u, e, hu⟩ := hx5; exact ⟨u, e, mv6 hu⟩
    have yI : IsI V6 (.agg #[.bool cy, .slice r2 n2 f2]) (sgn (t == s1) R.2.2) := by obtain ⟨u, e, hu⟩ := hI5.out.1; exact ⟨u, e, mv6 hu⟩
    have rA := mv6 hI5.out.2.1
    have qA := mv6 hI5.out.2.2.1
    have WB : Below w.heap.size w V6 := by rw [hV6]; exact below_ibox (g := K + 1 + 1 + 1) hI5.out.2.2.2 (by rw [← HK.out]; omega) _ _
    have H6 := Lib.hid (And.intro xI (And.intro yI (And.intro rA (And.intro qA WB))))
    clear hV6 V3 mv6 xI yI rA qA WB hx5 hI5 kx0 kx1 fkx0 fkx1
    obtain ⟨cz, hcz⟩ : ∃ cz, cz = negB (sgn (s0 != s1) S.2.2) := ⟨_, rfl⟩
    have HCZ := Lib.hid hcz
    clear hcz
    have bd := below_drewN V6 1 V6.heap.size
    have HS3 := Lib.hid (fun (c x : Bool) (hx : x = negB (sgn c S.2.2)) => signed_as c x (.slice q2 m2 d2) S.2.2 V6.drew (H6.out.2.2.2.1.below bd) hx)
    have HM := Lib.hid (fun (w7 : World) (h : Below V6.drew.heap.size V6.drew w7) => minus_ok (.agg #[.bool cy, .slice r2 n2 f2]) (.agg #[.bool cz, .slice q2 m2 d2]) (sgn (t == s1) R.2.2) (sgn (s0 != s1) S.2.2) w7 ((H6.out.2.1.below bd).below h) (by rw [HCZ.out]; exact isI_sgn _ ((H6.out.2.2.2.1.below bd).below h)) (fit_sgn HRS.out.1.2.2) (fit_sgn HRS.out.2.2.2) (abs_le_add _ _ R.2.2 S.2.2 (by rw [sgn_abs]; exact Nat.le_refl _) (by rw [sgn_abs]; exact Nat.le_refl _) HRS.out.1.2.2 HRS.out.2.2.2).2)
    clear bd
    refine wp_region_until [(10, K + 1 + 1 + 1 + 1, .cells #[.bool cy, .slice r2 n2 f2] 78 (0, 0)), (10, K, .cells #[.bool s0, .slice p0 l0 c0] 78 (0, 0)), (10, K + 1, .cells #[.bool s1, .slice p1 l1 c1] 78 (0, 0)), (10, T + 1, .cells #[.slice q0 m0 d0, .slice q1 m1 d1, .slice q2 m2 d2] 143 (0, 0))] (by kernel_rfl) (until_cons (fun _ => V4) (until_cons (fun _ => VA) (until_cons (fun _ => VB) (until_cons (fun _ => VT1) until_nil)))) (fun hU => ?_)
    refine wpU_take (i := 0) (v := ?_) [10] rfl (by kernel_rfl) (by kernel_rfl) (by kernel_rfl) (by kernel_rfl) (by kernel_rfl) (fun _ _ _ h => h) (Or.inl ⟨by rfl, ?_⟩) hU (fun hU0 => ?_)
    rotate_left
    · intro w hSw
      have e := hSw.fst (by decide)
      have e0 := cell_of_row _ _ 0 _ _ (0, 0) e
      have e1 := cell_of_row _ _ 1 _ _ (0, 0) e
      simp only [List.getElem?_toArray, List.getElem?_cons_zero, List.getElem?_cons_succ] at e0 e1
      go_simp
      try (with_reducible rfl)
    clear hU
    try simp only [Act.put, List.setIfInBounds_toArray]
    refine wpU_take (i := 1) (v := ?_) [] rfl (by kernel_rfl) (by kernel_rfl) (by kernel_rfl) (by kernel_rfl) (by kernel_rfl) (fun _ _ _ h => h) (Or.inl ⟨by rfl, ?_⟩) hU0 (fun hU1 => ?_)
    rotate_left
    · intro w hSw
      go_simp
      try (with_reducible rfl)
    clear hU0
    try simp only [Act.put]
    refine wpU_take (i := 2) (v := ?_) [10] rfl (by kernel_rfl) (by kernel_rfl) (by kernel_rfl) (by kernel_rfl) (by kernel_rfl) (fun _ _ _ h => h) (Or.inl ⟨by rfl, ?_⟩) hU1 (fun hU2 => ?_)
    rotate_left
    · intro w hSw
      have e := hSw.snd (by decide)
      have e0 := cell_of_row _ _ 0 _ _ (0, 0) e
      have e1 := cell_of_row _ _ 1 _ _ (0, 0) e
      simp only [List.getElem?_toArray, List.getElem?_cons_zero, List.getElem?_cons_succ] at e0 e1
      go_simp
      try (with_reducible rfl)
    clear hU1
    try simp only [Act.put]
    refine wpU_take (i := 3) (v := ?_) [] rfl (by kernel_rfl) (by kernel_rfl) (by kernel_rfl) (by kernel_rfl) (by kernel_rfl) (fun _ _ _ h => h) (Or.inl ⟨by rfl, ?_⟩) hU2 (fun hU3 => ?_)
    rotate_left
    · intro w hSw
      go_simp
      try (with_reducible rfl)
    clear hU2
    try simp only [Act.put]
    refine wpU_take (i := 4) (v := ?_) [10] rfl (by kernel_rfl) (by kernel_rfl) (by kernel_rfl) (by kernel_rfl) (by kernel_rfl) (fun _ _ _ h => h) (Or.inl ⟨by rfl, ?_⟩) hU3 (fun hU4 => ?_)
    rotate_left
    · intro w hSw
      have e := hSw.trd (by decide)
      have e0 := cell_of_row _ _ 0 _ _ (0, 0) e
      have e1 := cell_of_row _ _ 1 _ _ (0, 0) e
      simp only [List.getElem?_toArray, List.getElem?_cons_zero, List.getElem?_cons_succ] at e0 e1
      go_simp
      try (with_reducible rfl)
    clear hU3
    try simp only [Act.put]
    refine wpU_take (i := 5) (v := ?_) [] rfl (by kernel_rfl) (by kernel_rfl) (by kernel_rfl) (by kernel_rfl) (by kernel_rfl) (fun _ _ _ h => h) (Or.inl ⟨by rfl, ?_⟩) hU4 (fun hU5 => ?_)
    rotate_left
    · intro w hSw
      go_simp
      try (with_reducible rfl)
    clear hU4
    try simp only [Act.put]
    refine wpU_take (i := 6) (v := ?_) [] rfl (by kernel_rfl) (by kernel_rfl) (by kernel_rfl) (by kernel_rfl) (by kernel_rfl) (fun _ _ _ h => h) (Or.inl ⟨by rfl, ?_⟩) hU5 (fun hU6 => ?_)
    rotate_left
    · intro w hSw
      go_simp
      try (with_reducible rfl)
    clear hU5
    try simp only [Act.put]
    refine wpU_take (i := 7) (v := ?_) [10] rfl (by kernel_rfl) (by kernel_rfl) (by kernel_rfl) (by kernel_rfl) (by kernel_rfl) (fun _ _ _ h => h) (Or.inl ⟨by rfl, ?_⟩) hU6 (fun hU7 => ?_)
    rotate_left
    · intro w hSw
      have e := hSw.fth (by decide)
      have e0 := cell_of_row _ _ 0 _ _ (0, 0) e
      have e1 := cell_of_row _ _ 1 _ _ (0, 0) e
      have e2 := cell_of_row _ _ 2 _ _ (0, 0) e
      simp only [List.getElem?_toArray, List.getElem?_cons_zero, List.getElem?_cons_succ] at e0 e1 e2
      go_simp
      try (with_reducible rfl)
    clear hU6
    try simp only [Act.put]
    refine wpU_next (i := 8) (by kernel_rfl) rfl (fun N hN => ?_)
    go_simp
    go_at_call 124
    refine (HS3.out _ cz HCZ.out).mono ?_
    rintro e w7 ⟨rfl, hb7⟩
    replace VA := (hb7.block _ (lt_of_block VA)).trans VA
    replace VB := (hb7.block _ (lt_of_block VB)).trans VB
    replace VG := (hb7.block _ (lt_of_block VG)).trans VG
    replace VT := (hb7.block _ (lt_of_block VT)).trans VT
    replace VT1 := (hb7.block _ (lt_of_block VT1)).trans VT1
    replace W3 := (hb7.block _ (lt_of_block W3)).trans W3
    replace V4 := (hb7.block _ (lt_of_block V4)).trans V4
    refine hN.out _ _ (until_cons (fun _ => V4) (until_cons (fun _ => VA) (until_cons (fun _ => VB) (until_cons (fun _ => VT1) until_nil)))) (fun hU8 => ?_)
    clear hN N hU7
    try simp only [Act.put, List.setIfInBounds_toArray, List.set_cons_zero, List.set_cons_succ]
    refine wpU_next (i := 9) (by kernel_rfl) rfl (fun N hN => ?_)
    go_simp
    go_at_call 113
    refine (HM.out w7 hb7).mono ?_
    rintro e w8 ⟨⟨sy, py, ly, cyy, rfl, hy8⟩, hb8⟩
    replace VA := (hb8.block _ (lt_of_block VA)).trans VA
    replace VB := (hb8.block _ (lt_of_block VB)).trans VB
    replace VG := (hb8.block _ (lt_of_block VG)).trans VG
    replace VT := (hb8.block _ (lt_of_block VT)).trans VT
    replace VT1 := (hb8.block _ (lt_of_block VT1)).trans VT1
    replace W3 := (hb8.block _ (lt_of_block W3)).trans W3
    replace V4 := (hb8.block _ (lt_of_block V4)).trans V4
    refine hN.out _ _ (until_cons (fun _ => V4) (until_cons (fun _ => VA) (until_cons (fun _ => VB) (until_cons (fun _ => VT1) until_nil)))) (fun hU9 => ?_)
    clear hN N hU8
    try simp only [Act.put, List.setIfInBounds_toArray, List.set_cons_zero, List.set_cons_succ]
    have hb68 : Below V6.heap.size V6 w8 := (below_drewN V6 1 _).trans ((hb7.trans (hb8.mono hb7.size)).mono (Nat.le_refl _))
    have H8 := Lib.hid (And.intro (H6.out.1.below hb68) (And.intro hy8 (And.intro (H6.out.2.2.1.below hb68) (H6.out.2.2.2.2.trans (hb68.mono H6.out.2.2.2.2.size)))))
    clear hb68 hb7 hb8 hy8 H6 HS3 HM hU9
    have ky0 := cell_of_row _ _ 0 _ _ (0, 0) V4
    have ky1 := cell_of_row _ _ 1 _ _ (0, 0) V4
    simp only [List.getElem?_toArray, List.getElem?_cons_zero, List.getElem?_cons_succ] at ky0 ky1
    have fky0 := frozen_of_row _ _ 0 _ _ V4
    have fky1 := frozen_of_row _ _ 1 _ _ V4
    refine wpU_next (i := 10) (by kernel_rfl) rfl (fun N hN => ?_)
    go_simp
    refine hN.out _ _ (until_cons (until_past (by kernel_rfl)) (until_cons (until_past (by kernel_rfl)) (until_cons (until_past (by kernel_rfl)) (until_cons (until_past (by kernel_rfl)) until_nil)))) (fun hU10 => ?_)
    clear hN N hU10 ky0 ky1 fky0 fky1
    try simp only [Act.put, List.setIfInBounds_toArray, List.set_cons_zero, List.set_cons_succ]
    refine wpU_done (by kernel_rfl) ?_ _
    obtain ⟨V9, hV9⟩ : ∃ V9, V9 = (w8.setCell ⟨K + 1 + 1 + 1 + 1, 0, none⟩ (.bool sy)).setCell ⟨K + 1 + 1 + 1 + 1, 1, none⟩ (.slice py ly cyy) := ⟨_, rfl⟩
    rw [← hV9]
    have G4 : V9.heap[K + 1 + 1 + 1 + 1]? = some (.cells #[.bool sy, .slice py ly cyy] 78 (0, 0)) := by rw [hV9]; exact ibox_set (g := K + 1 + 1 + 1 + 1) _ _ V4
    have G2 := (show V9.heap[K + 1 + 1]? = _ by rw [hV9]; exact box_other _ _ (by have := HTT.out; omega)).trans VG
    have G3 := (show V9.heap[K + 1 + 1 + 1]? = _ by rw [hV9]; exact box_other _ _ (by have := HTT.out; omega)).trans W3
    have GT := (show V9.heap[T]? = _ by rw [hV9]; exact box_other _ _ (by have := HTT.out; omega)).trans VT
    have mv9 : ∀ {v : Value} {xs : List Nat}, At w8 v xs → At V9 v xs := fun h => by rw [hV9]; exact at_ibox (g := K + 1 + 1 + 1 + 1) _ _ h V4
    have GX : IsI V9 (.agg #[.bool sx, .slice px lx cxx]) (sgn (t != s0) R.2.1 + (S.2.1 : Int)) := by obtain ⟨u, e, hu⟩ := H8.out.1; exact ⟨u, e, mv9 hu⟩
    have GY : IsI V9 (.agg #[.bool sy, .slice py ly cyy]) (sgn (t == s1) R.2.2 - sgn (s0 != s1) S.2.2) := by obtain ⟨u, e, hu⟩ := H8.out.2.1; exact ⟨u, e, mv9 hu⟩
    have GA := mv9 H8.out.2.2.1
    have GB : Below w.heap.size w V9 := by rw [hV9]; exact below_ibox (g := K + 1 + 1 + 1 + 1) H8.out.2.2.2 (by rw [← HK.out]; omega) _ _
    clear hV9 mv9 H8 VA VB VG VT VT1 W3 V4 HRS HCX
    have kg0 := cell_of_row _ _ 0 _ _ (0, 0) G2
    have kg1 := cell_of_row _ _ 1 _ _ (0, 0) G2
    simp only [List.getElem?_toArray, List.getElem?_cons_zero, List.getElem?_cons_succ] at kg0 kg1
    have fkg0 := frozen_of_row _ _ 0 _ _ G2
    have fkg1 := frozen_of_row _ _ 1 _ _ G2
    have kx0 := cell_of_row _ _ 0 _ _ (0, 0) G3
    have kx1 := cell_of_row _ _ 1 _ _ (0, 0) G3
    simp only [List.getElem?_toArray, List.getElem?_cons_zero, List.getElem?_cons_succ] at kx0 kx1
    have fkx0 := frozen_of_row _ _ 0 _ _ G3
    have fkx1 := frozen_of_row _ _ 1 _ _ G3
    have ky0 := cell_of_row _ _ 0 _ _ (0, 0) G4
    have ky1 := cell_of_row _ _ 1 _ _ (0, 0) G4
    simp only [List.getElem?_toArray, List.getElem?_cons_zero, List.getElem?_cons_succ] at ky0 ky1
    have fky0 := frozen_of_row _ _ 0 _ _ G4
    have fky1 := frozen_of_row _ _ 1 _ _ G4
    have kt0 := cell_of_row _ _ 0 _ _ (0, 0) GT
    simp only [List.getElem?_toArray, List.getElem?_cons_zero] at kt0
    have HG := Lib.hid (And.intro G2 (And.intro G3 (And.intro G4 (And.intro GB (And.intro GA (And.intro GX GY))))))
    clear G2 G3 G4 GT GB GA GX GY
    go_wp2_with fail
    go_region
    go_wp2_with fail
    obtain ⟨h1, h2, h3, h4, h5, h6, h7⟩ := HG.out
    have hKT := HTT.out
    obtain ⟨A, hA⟩ : ∃ A, A = (V9.setCell ⟨K + 1 + 1, 0, none⟩ (.bool false)).setCell ⟨K + 1 + 1, 1, none⟩ (.slice r0 n0 f0) := ⟨_, rfl⟩
    rw [← hA]
    obtain ⟨D, hD⟩ : ∃ D, D = (((A.setCell ⟨K + 1 + 1 + 1, 0, none⟩ (.bool sx)).setCell ⟨K + 1 + 1 + 1, 1, none⟩ (.slice px lx cxx)).setCell ⟨K + 1 + 1 + 1 + 1, 0, none⟩ (.bool sy)).setCell ⟨K + 1 + 1 + 1 + 1, 1, none⟩ (.slice py ly cyy) := ⟨_, rfl⟩
    rw [← hD]
    have A2 : A.heap[K + 1 + 1]? = some (.cells #[.bool false, .slice r0 n0 f0] 78 (0, 0)) := by rw [hA]; exact ibox_set (g := K + 1 + 1) _ _ h1
    have Ao : ∀ j, j ≠ K + 1 + 1 → A.heap[j]? = V9.heap[j]? := fun j hj => by rw [hA]; exact box_other _ _ hj
    have Aat : ∀ {v : Value} {xs : List Nat}, At V9 v xs → At A v xs := fun h => by rw [hA]; exact at_ibox (g := K + 1 + 1) _ _ h h1
    have AB : Below w.heap.size w A := by rw [hA]; exact below_ibox (g := K + 1 + 1) h4 (by rw [← HK.out]; omega) _ _
    obtain ⟨D3, D4, Do, Dat, Db⟩ := ibox2 (g := K + 1 + 1 + 1) (k := K + 1 + 1 + 1 + 1) (by omega) ((Ao _ (by omega)).trans h2) ((Ao _ (by omega)).trans h3) sx sy px py lx cxx ly cyy D hD
    have D2 := (Do (K + 1 + 1) (by omega) (by omega)).trans A2
    refine bodyPost_ret (v := .tuple #[.agg #[.bool false, .slice r0 n0 f0], .agg #[.bool sx, .slice px lx cxx], .agg #[.bool sy, .slice py ly cyy]]) (results_int3 Tryz.results77 _ _ (K + 1 + 1) (K + 1 + 1 + 1) (K + 1 + 1 + 1 + 1) _ _ _ rfl rfl rfl (load_whole (w := World.drew _) D2) (load_whole (w := World.drew _) D3) (load_whole (w := World.drew _) D4)) rfl ?_
    have bd := below_drewN D 1 D.heap.size
    have mv : ∀ {v : Value} {n : Int}, IsI V9 v n → IsI D.drew v n := fun h => by obtain ⟨u, e, hu⟩ := h; exact ⟨u, e, (Dat (Aat hu)).below bd⟩
    exact ⟨⟨_, _, _, rfl, (isI_pos (Dat (Aat h5))).below bd, HEX.out.1 ▸ mv h6, HEX.out.2 ▸ mv h7⟩, (Db w.heap.size w (by rw [← HK.out]; omega) (by rw [← HK.out]; omega) AB).trans (below_drewN D 1 _)⟩
end Go.Proofs.YtkbghamkalidcaaGreat
