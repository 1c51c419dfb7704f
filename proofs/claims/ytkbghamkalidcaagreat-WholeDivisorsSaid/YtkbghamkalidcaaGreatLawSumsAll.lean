/-
  What the reference of integers does: Of, Same, Valid, Opposite, Sgn; and the law's small. Conditions: those that each theorem names.
  What the reference of integers does: Same, Opposite, Sgn. Conditions: those that each theorem names.
  What the reference's Mul does. Conditions: those that each theorem names.
  What the reference's Plus, Minus and Times of integers do. Written by wip/tool/genref2.py. Conditions: those that each theorem names.
  What the reference's limited, Neg, Add, Sub, Mul, Sign and Cmp of integers do, and the law's got. Conditions: those that each theorem names.
  What the reference's Neg, Add, Sub, Mul, Sign and Cmp of integers do. Written by wip/tool/genref2e.py. Conditions: those that each theorem names.
  WholeSums returns true for any two integers, if its self-test does. Written by wip/tool/genlaw2.py. Conditions: those that each theorem names.
-/
import Derived.Test.YtkbghamkalidcaaGreatCdNAll
import Derived.Test.YtkbghamkalidcaaGreatRefTrim
import Derived.Test.YtkbghamkalidcaaGreatEucMAll
namespace Go.Proofs.YtkbghamkalidcaaGreat
open Go.RowKit

theorem refTrim_any (v : Value) (m : Nat) (w : World) (h : At w v (Nl.limbs m)) (hl : (Nl.limbs m).length ≤ 1000000) :
    Calls Tryz.prog 130 #[v] w fun e w' => (∃ p n c, e = .returned (.slice p n c) ∧ At w' (.slice p n c) (Nl.limbs m)) ∧ Below w.heap.size w w' := by
  have ht : Nl.trim (Nl.limbs m) = Nl.limbs m := by rw [Nl.trim_eq (Nl.limbs_small m), Nl.val_limbs]
  have hgen : ∀ (e : Ending) (w' : World), (∃ v, e = .returned v ∧ AtP (w.heap.size ≤ ·) w' v (Nl.limbs m)) ∧ Below w.heap.size w w' → (∃ p n c, e = .returned (.slice p n c) ∧ At w' (.slice p n c) (Nl.limbs m)) ∧ Below w.heap.size w w' := by
    rintro e w' ⟨⟨v, rfl, hv⟩, hb⟩
    obtain ⟨p, c, rfl, -⟩ := hv.form
    exact ⟨⟨p, _, c, rfl, hv.at⟩, hb⟩
  rcases h with ⟨rfl, h⟩ | ⟨b, off, cap, rfl, -, hc, hm, hb, hx⟩
  · refine (refTrim_nil w).mono fun e w' h' => hgen e w' ?_
    rw [h]; exact h'
  · have := refTrim_cells b off cap (Nl.limbs m) w hx hc hm hb hl
    rw [ht] at this
    exact this.mono hgen

set_option maxHeartbeats 1000000 in
theorem ref2Of_any (s : Bool) (v : Value) (m : Nat) (w : World) (h : At w v (Nl.limbs m)) (hl : (Nl.limbs m).length ≤ 1000000) :
    Calls Tryz.prog 66 #[.bool s, v] w fun e w' => (∃ t p n c, e = .returned (.agg #[.bool t, .slice p n c]) ∧ IsI w' (.agg #[.bool t, .slice p n c]) (sgn s m)) ∧ Below w.heap.size w w' := by
  obtain ⟨W, hW⟩ : ∃ W, W = w.alloc (.cells #[.bool false, .slice none 0 0] 25) := ⟨_, rfl⟩
  have hb : Below w.heap.size w W := by rw [hW]; exact below_one w _
  have hQ : W.heap[w.heap.size]? = some (.cells #[.bool false, .slice none 0 0] 25 (0, 0)) := by rw [hW]; exact heap_alloc_new _ _
  have HT := Lib.hid (refTrim_any v m W (h.below hb) hl)
  have HB := Lib.hid (And.intro hb hQ)
  obtain ⟨a, c, rfl, -⟩ := h.form
  obtain ⟨l, hl'⟩ : ∃ l, l = (Nl.limbs m).length := ⟨_, rfl⟩
  have hsg : negB (sgn s m) = (s && decide (0 < l)) := by
    rw [sgn_neg]
    by_cases h0 : 0 < m
    · rw [decide_eq_true h0, decide_eq_true (by rw [hl']; exact Nl.len_pos (by omega))]
    · rw [decide_eq_false h0, decide_eq_false (fun h => h0 (Nat.pos_of_ne_zero fun h1 => by rw [hl', h1, Nl.limbs_zero] at h; exact absurd h (by decide)))]
  have HSG := Lib.hid hsg
  rw [← hl'] at HT ⊢
  clear h hl hb hQ hl' hsg
  obtain ⟨t, ht⟩ : ∃ t, t = (s && decide (0 < l)) := ⟨_, rfl⟩
  have hcase : (s = false ∧ t = false) ∨ (s = true ∧ decide (0 < l) = true ∧ t = true) ∨ (s = true ∧ decide (0 < l) = false ∧ t = false) := by
    rw [ht]
    cases s
    · exact .inl ⟨rfl, rfl⟩
    · cases hd : decide (0 < l)
      · exact .inr (.inr ⟨rfl, rfl, rfl⟩)
      · exact .inr (.inl ⟨rfl, rfl, rfl⟩)
  have HTE := Lib.hid ht
  clear ht
  rcases hcase with ⟨rfl, rfl⟩ | ⟨rfl, e0, rfl⟩ | ⟨rfl, e0, rfl⟩
  · go_enter Tryz.func66, Tryz.ntmps66
    go_upto_region 1 with fail
    rw [← hW]
    clear hW
    go_wp2_with fail
    refine HT.out.mono ?_
    rintro e w1 ⟨⟨p, n, c1, rfl, hat⟩, hb1⟩
    have BQ := (hb1.block _ (lt_of_block HB.out.2)).trans HB.out.2
    have f0 := frozen_of_row _ _ 0 _ _ BQ
    have f1 := frozen_of_row _ _ 1 _ _ BQ
    have g0 := cell_of_row _ _ 0 _ _ (0, 0) BQ
    have g1 := cell_of_row _ _ 1 _ _ (0, 0) BQ
    have HZ := Lib.hid (And.intro hat (And.intro hb1 BQ))
    clear hat hb1 BQ HT
    go_wp2_with fail
    refine bodyPost_ret (v := .agg #[.bool false, .slice p n c1]) (results_cell_row Tryz.results66 _ _ w.heap.size 25 _ (0, 0) _ rfl (ibox_set _ _ HZ.out.2.2) Tryz.underlying25 rfl (by kernel_rfl)) rfl ?_
    exact ⟨⟨_, _, _, _, rfl, isI_mk (at_ibox _ _ HZ.out.1 HZ.out.2.2) (by rw [HSG.out, ← HTE.out]) rfl⟩, below_ibox (HB.out.1.trans (HZ.out.2.1.mono HB.out.1.size)) (Nat.le_refl _) _ _⟩
  · go_enter Tryz.func66, Tryz.ntmps66
    go_upto_region 1 with fail
    rw [← hW]
    clear hW
    go_wp2_with fail
    refine HT.out.mono ?_
    rintro e w1 ⟨⟨p, n, c1, rfl, hat⟩, hb1⟩
    have BQ := (hb1.block _ (lt_of_block HB.out.2)).trans HB.out.2
    have f0 := frozen_of_row _ _ 0 _ _ BQ
    have f1 := frozen_of_row _ _ 1 _ _ BQ
    have g0 := cell_of_row _ _ 0 _ _ (0, 0) BQ
    have g1 := cell_of_row _ _ 1 _ _ (0, 0) BQ
    have HZ := Lib.hid (And.intro hat (And.intro hb1 BQ))
    clear hat hb1 BQ HT
    go_wp2_with fail
    refine bodyPost_ret (v := .agg #[.bool true, .slice p n c1]) (results_cell_row Tryz.results66 _ _ w.heap.size 25 _ (0, 0) _ rfl (ibox_set _ _ HZ.out.2.2) Tryz.underlying25 rfl (by kernel_rfl)) rfl ?_
    exact ⟨⟨_, _, _, _, rfl, isI_mk (at_ibox _ _ HZ.out.1 HZ.out.2.2) (by rw [HSG.out, ← HTE.out]) rfl⟩, below_ibox (HB.out.1.trans (HZ.out.2.1.mono HB.out.1.size)) (Nat.le_refl _) _ _⟩
  · go_enter Tryz.func66, Tryz.ntmps66
    go_upto_region 1 with fail
    rw [← hW]
    clear hW
    go_wp2_with fail
    refine HT.out.mono ?_
    rintro e w1 ⟨⟨p, n, c1, rfl, hat⟩, hb1⟩
    have BQ := (hb1.block _ (lt_of_block HB.out.2)).trans HB.out.2
    have f0 := frozen_of_row _ _ 0 _ _ BQ
    have f1 := frozen_of_row _ _ 1 _ _ BQ
    have g0 := cell_of_row _ _ 0 _ _ (0, 0) BQ
    have g1 := cell_of_row _ _ 1 _ _ (0, 0) BQ
    have HZ := Lib.hid (And.intro hat (And.intro hb1 BQ))
    clear hat hb1 BQ HT
    go_wp2_with fail
    refine bodyPost_ret (v := .agg #[.bool false, .slice p n c1]) (results_cell_row Tryz.results66 _ _ w.heap.size 25 _ (0, 0) _ rfl (ibox_set _ _ HZ.out.2.2) Tryz.underlying25 rfl (by kernel_rfl)) rfl ?_
    exact ⟨⟨_, _, _, _, rfl, isI_mk (at_ibox _ _ HZ.out.1 HZ.out.2.2) (by rw [HSG.out, ← HTE.out]) rfl⟩, below_ibox (HB.out.1.trans (HZ.out.2.1.mono HB.out.1.size)) (Nat.le_refl _) _ _⟩

theorem small_law (v : Value) (s : Bool) (xs : List Nat) (k : Nat) (w : World) (h : AtI w v s xs) :
    Calls Tryz.prog 20 #[v, .int .i64 k] w fun e w' => e = .returned (.bool (decide (xs.length ≤ k))) ∧ Below w.heap.size w w' := by
  obtain ⟨a, c, rfl, -⟩ := h.form
  obtain ⟨l, hl⟩ : ∃ l, l = xs.length := ⟨_, rfl⟩
  rw [← hl]
  clear h hl
  obtain ⟨b, hb⟩ : ∃ b, b = decide (l ≤ k) := ⟨_, rfl⟩
  rw [← hb]
  have e2 : decide (l ≤ k) = b := hb.symm
  clear hb
  go_enter Tryz.func20, Tryz.ntmps20
  go_wp2_with fail
  go_ret
  exact ⟨rfl, below_one w _⟩

set_option maxHeartbeats 1000000 in
theorem ref2Valid_any (v : Value) (s : Bool) (xs : List Nat) (w : World) (h : AtI w v s xs) :
    Calls Tryz.prog 61 #[v] w fun e w' => e = .returned (.bool (validI s xs)) ∧ Below w.heap.size w w' := by
  obtain ⟨a, c, rfl, hu⟩ := h.form
  obtain ⟨W, hW⟩ : ∃ W, W = w.alloc (.cells #[.bool s, .slice a xs.length c] 25) := ⟨_, rfl⟩
  have hb : Below w.heap.size w W := by rw [hW]; exact below_one w _
  have hP : W.heap[w.heap.size]? = some (.cells #[.bool s, .slice a xs.length c] 25 (0, 0)) := by rw [hW]; exact heap_alloc_new _ _
  have c0 := cell_of_row _ _ 0 _ _ (0, 0) hP
  have c1 := cell_of_row _ _ 1 _ _ (0, 0) hP
  simp only [List.getElem?_toArray, List.getElem?_cons_zero, List.getElem?_cons_succ] at c0 c1
  have HV := Lib.hid (refValid_any _ xs W (hu.below hb))
  have HB := Lib.hid hb
  obtain ⟨l, hl⟩ : ∃ l, l = xs.length := ⟨_, rfl⟩
  have hvi : validI s xs = (validB xs && (!s || decide (0 < l))) := by
    rw [validI, hl]
    cases s
    · rfl
    · by_cases h0 : xs.length = 0
      · rw [decide_eq_true h0, decide_eq_false (by omega)]; rfl
      · rw [decide_eq_false h0, decide_eq_true (by omega)]; rfl
  rw [hvi]
  rw [← hl] at hW c1 HV ⊢
  obtain ⟨vb, hvb⟩ : ∃ vb, vb = validB xs := ⟨_, rfl⟩
  rw [← hvb] at HV ⊢
  obtain ⟨d, hd⟩ : ∃ d, d = decide (0 < l) := ⟨_, rfl⟩
  rw [← hd]
  have e0 : decide (0 < l) = d := hd.symm
  clear h hu hb hP hvi hvb hd hl
  cases vb with
  | false =>
    go_enter Tryz.func61, Tryz.ntmps61
    go_upto_region 1 with fail
    rw [← hW]
    clear hW
    go_wp2_with (go_at_call 128; refine HV.out.mono ?_; rintro e w' ⟨rfl, rfl⟩)
    go_ret
    exact ⟨rfl, HB.out⟩
  | true =>
    cases s with
    | false =>
      go_enter Tryz.func61, Tryz.ntmps61
      go_upto_region 1 with fail
      rw [← hW]
      clear hW
      go_wp2_with (go_at_call 128; refine HV.out.mono ?_; rintro e w' ⟨rfl, rfl⟩)
      go_ret
      exact ⟨rfl, HB.out⟩
    | true =>
      go_enter Tryz.func61, Tryz.ntmps61
      go_upto_region 1 with fail
      rw [← hW]
      clear hW
      go_wp2_with (go_at_call 128; refine HV.out.mono ?_; rintro e w' ⟨rfl, rfl⟩)
      go_ret
      exact ⟨rfl, HB.out⟩
end Go.Proofs.YtkbghamkalidcaaGreat

namespace Go.Proofs.YtkbghamkalidcaaGreat
open Go.RowKit

set_option maxHeartbeats 1000000 in
theorem ref2Same_any (va vb : Value) (s t : Bool) (xs ys : List Nat) (w : World) (ha : AtI w va s xs) (hb : AtI w vb t ys) :
    Calls Tryz.prog 34 #[va, vb] w fun e w' => e = .returned (.bool ((s == t) && sameB xs ys)) ∧ Below w.heap.size w w' := by
  obtain ⟨p0, c0, rfl, hu⟩ := ha.form
  obtain ⟨p1, c1, rfl, hv⟩ := hb.form
  obtain ⟨W, hW⟩ : ∃ W, W = (w.alloc (.cells #[.bool s, .slice p0 xs.length c0] 25)).alloc (.cells #[.bool t, .slice p1 ys.length c1] 25) := ⟨_, rfl⟩
  have hbW : Below w.heap.size w W := by rw [hW]; exact two_new w _ _
  have B0 : W.heap[w.heap.size]? = some (.cells #[.bool s, .slice p0 xs.length c0] 25 (0, 0)) := by rw [hW]; exact heap_alloc2_old w _ _
  have B1 : W.heap[w.heap.size + 1]? = some (.cells #[.bool t, .slice p1 ys.length c1] 25 (0, 0)) := by rw [hW]; exact heap_alloc2_new w _ _
  have k00 := cell_of_row _ _ 0 _ _ (0, 0) B0
  have k01 := cell_of_row _ _ 1 _ _ (0, 0) B0
  have k10 := cell_of_row _ _ 0 _ _ (0, 0) B1
  have k11 := cell_of_row _ _ 1 _ _ (0, 0) B1
  simp only [List.getElem?_toArray, List.getElem?_cons_zero, List.getElem?_cons_succ] at k00 k01 k10 k11
  have HS := Lib.hid (same_any _ _ xs ys W (hu.below hbW) (hv.below hbW))
  have HB := Lib.hid hbW
  obtain ⟨b, hbb⟩ : ∃ b, b = sameB xs ys := ⟨_, rfl⟩
  rw [← hbb] at HS ⊢
  clear ha hb hu hv hbW B0 B1 hbb
  by_cases hst : s = t
  · subst hst
    rw [show (s == s) = true by simp, Bool.true_and]
    cases s
    all_goals
      go_enter Tryz.func34, Tryz.ntmps34
      go_upto_region 1 with fail
      rw [← hW]
      clear hW
      go_wp2_with (go_at_call 87; refine HS.out.mono ?_; rintro e w' ⟨rfl, j, rfl⟩)
      go_ret
      exact ⟨rfl, HB.out.trans (below_drewN W j _)⟩
  · have hne : (s == t) = false := by simpa using hst
    rw [hne, Bool.false_and]
    cases s <;> cases t
    · exact absurd rfl hst
    · clear hst hne
      go_enter Tryz.func34, Tryz.ntmps34
      go_upto_region 1 with fail
      rw [← hW]
      clear hW
      go_wp2_with (go_at_call 87; refine HS.out.mono ?_; rintro e w' ⟨rfl, j, rfl⟩)
      go_ret
      exact ⟨rfl, HB.out⟩
    · clear hst hne
      go_enter Tryz.func34, Tryz.ntmps34
      go_upto_region 1 with fail
      rw [← hW]
      clear hW
      go_wp2_with (go_at_call 87; refine HS.out.mono ?_; rintro e w' ⟨rfl, j, rfl⟩)
      go_ret
      exact ⟨rfl, HB.out⟩
    · exact absurd rfl hst

theorem sgn_not (n : Int) : sgn (!negB n) n.natAbs = -n := by
  rw [sgn, negB]
  by_cases h : n < 0
  · rw [decide_eq_true h, if_neg (by decide)]; omega
  · rw [decide_eq_false h, if_pos (by decide)]; omega
set_option maxHeartbeats 1000000 in
theorem ref2Opposite_any (v : Value) (n : Int) (w : World) (h : IsI w v n) (hl : (Nl.limbs n.natAbs).length ≤ 1000000) :
    Calls Tryz.prog 68 #[v] w fun e w' => (∃ u, e = .returned u ∧ IsI w' u (-n)) ∧ Below w.heap.size w w' := by
  obtain ⟨a, c, rfl, hu⟩ := h.form
  obtain ⟨W, hW⟩ : ∃ W, W = (w.alloc (.cells #[.bool (negB n), .slice a (Nl.limbs n.natAbs).length c] 25)).alloc (.cells #[.bool false, .slice none 0 0] 25) := ⟨_, rfl⟩
  have hb : Below w.heap.size w W := by rw [hW]; exact two_new w _ _
  have hQ : W.heap[w.heap.size + 1]? = some (.cells #[.bool false, .slice none 0 0] 25 (0, 0)) := by rw [hW]; exact heap_alloc2_new w _ _
  have HS := Lib.hid (ref2Of_any (!negB n) _ _ W (hu.below hb) hl)
  have HW := Lib.hid (And.intro hb hQ)
  clear h hu hb hQ hl
  go_enter Tryz.func68, Tryz.ntmps68
  go_wp2_with fail
  rw [← hW]
  clear hW
  refine HS.out.mono ?_
  rintro e w1 ⟨⟨t, p, l, c1, rfl, hi⟩, hb1⟩
  rw [sgn_not] at hi
  have BQ := (hb1.block _ (lt_of_block HW.out.2)).trans HW.out.2
  have f0 := frozen_of_row _ _ 0 _ _ BQ
  have f1 := frozen_of_row _ _ 1 _ _ BQ
  have g0 := cell_of_row _ _ 0 _ _ (0, 0) BQ
  have g1 := cell_of_row _ _ 1 _ _ (0, 0) BQ
  have HZ := Lib.hid (And.intro hi (And.intro hb1 BQ))
  clear hi hb1 BQ HS
  go_wp2_with fail
  refine bodyPost_ret (v := .agg #[.bool t, .slice p l c1]) (results_cell_row Tryz.results68 _ _ (w.heap.size + 1) 25 _ (0, 0) _ rfl (ibox_set _ _ HZ.out.2.2) Tryz.underlying25 rfl (by kernel_rfl)) rfl ?_
  refine ⟨⟨_, rfl, ?_⟩, below_ibox (HW.out.1.trans (HZ.out.2.1.mono HW.out.1.size)) (Nat.le_succ _) _ _⟩
  obtain ⟨u, hu1, hu2⟩ := HZ.out.1
  simp only [Value.agg.injEq, Array.mk.injEq, List.cons.injEq, Value.bool.injEq, and_true] at hu1
  obtain ⟨rfl, rfl⟩ := hu1
  exact AtI.mk (at_ibox _ _ hu2 HZ.out.2.2)

theorem ref2Sgn_any (v : Value) (n : Int) (w : World) (h : IsI w v n) (hl : (Nl.limbs n.natAbs).length ≤ 1000000) :
    Calls Tryz.prog 83 #[v] w fun e w' => e = .returned (.int .i64 (sgnI n)) ∧ Below w.heap.size w w' := by
  obtain ⟨a, c, rfl, hu⟩ := h.form
  obtain ⟨l, hl'⟩ : ∃ l, l = (Nl.limbs n.natAbs).length := ⟨_, rfl⟩
  have hl0 : l = 0 ↔ n = 0 := by rw [hl', limbs_nil]; omega
  rw [← hl'] at hl ⊢
  clear h hu hl'
  by_cases h1 : n < 0
  · rw [show negB n = true from decide_eq_true h1, sgnI, if_pos h1]
    clear h1 hl0
    go_enter Tryz.func83, Tryz.ntmps83
    go_wp2_with fail
    go_ret
    exact ⟨rfl, below_one w _⟩
  · rw [show negB n = false from decide_eq_false h1, sgnI, if_neg h1]
    have hmin : (if n = 0 then (0 : Int) else 1) = min (l : Int) 1 := by
      by_cases h2 : n = 0
      · rw [if_pos h2, hl0.2 h2]; rfl
      · have : l ≠ 0 := fun h => h2 (hl0.1 h)
        rw [if_neg h2]; omega
    rw [hmin]
    clear h1 hl0 hmin
    go_enter Tryz.func83, Tryz.ntmps83
    go_wp2_with fail
    go_ret
    exact ⟨rfl, below_one w _⟩
end Go.Proofs.YtkbghamkalidcaaGreat

namespace Go.Proofs.YtkbghamkalidcaaGreat
open Go.RowKit

theorem getD_append_right' {A Y : List Nat} {k j : Nat} (hA : A.length = k) : (A ++ Y).getD (k + j) 0 = Y.getD j 0 := by
  subst hA
  rw [List.getD_eq_getElem?_getD, List.getD_eq_getElem?_getD, List.getElem?_append_right (by omega)]
  congr 2; omega
theorem set_append_right' {A Y : List Nat} {k j y : Nat} (hA : A.length = k) : (A ++ Y).set (k + j) y = A ++ Y.set j y := by
  subst hA
  rw [List.set_append_right _ _ (by omega)]
  congr 2; omega

set_option maxHeartbeats 4000000 in
theorem refMul_any (va vb : Value) (xs ys : List Nat) (w : World) (ha : At w va xs) (hb : At w vb ys) (hsx : Nl.Small xs) (hsy : Nl.Small ys) (hla : xs.length ≤ 300000) (hlb : ys.length ≤ 300000) :
    Calls Tryz.prog 145 #[va, vb] w fun e w' => (∃ v, e = .returned v ∧ IsN w' v (Nl.val xs * Nl.val ys)) ∧ Below w.heap.size w w' := by
  obtain ⟨a, ca, rfl, fa⟩ := ha.form
  obtain ⟨b, cb, rfl, fb⟩ := hb.form
  have FA := Lib.hid fa
  have FB := Lib.hid fb
  clear ha hb fa fb
  have hmk := make_words 23 Tryz.underlying23 w ((xs.length : Int) + ys.length) (xs.length + ys.length) (by omega) (by omega)
  go_enter Tryz.func145, Tryz.ntmps145
  go_wp2_with fail
  clear hmk
  have hrow := row_new w (Nl.zeros (xs.length + ys.length))
  have hb0 : Below w.heap.size w (w.alloc (.cells (vals (Nl.zeros (xs.length + ys.length))).toArray 80)) := (Below.refl _ _).alloc (Nat.le_refl _) _
  have HR := Lib.hid hrow
  have HBL := Lib.hid hb0
  clear hrow hb0
  go_loopw [6] (fun i wr => ∃ (k : Nat) (Z : List Nat), k ≤ xs.length ∧ i = .int .i64 k ∧ Hid (Row wr w.heap.size Z) ∧ Hid (Below w.heap.size w wr) ∧ Hid (Z.length = xs.length + ys.length) ∧ Hid (Nl.Small Z) ∧
      Hid (Z.drop (k + ys.length) = Nl.zeros (Z.length - (k + ys.length))) ∧ Hid (Nl.val Z = Nl.val (xs.take k) * Nl.val ys)) (fun i _ => (xs.length - (intOf i).toNat))
  case atStart => exact ⟨0, _, by omega, rfl, HR, HBL, Nl.zeros_length _, Nl.small_replicate _, by rw [Hid, zeros_drop', Nl.zeros_length], by simp [Hid, Nl.val_replicate]⟩
  case round =>
    obtain ⟨k, Z, hk, rfl, hrow, hbel, hlen, hsm, hdz, hv⟩ := hrel
    by_cases hlt : k < xs.length
    · rcases FA.out with fa | ⟨ba, oa, rfl, -, hca, -, hba, hcx⟩
      · rw [fa] at hlt; simp at hlt
      obtain ⟨x, hx⟩ : ∃ x, x = xs.getD k 0 := ⟨_, rfl⟩
      have hx2 : x < 4294967296 := by rw [hx]; exact hsx.getD k
      have hcx' := hcx k hlt
      rw [← hx] at hcx'
      have Hx := Lib.hid hx
      have HCX := Lib.hid hcx'
      clear hx hcx hcx'
      have hlA : (Z.take k).length = k := by rw [List.length_take, hlen.out]; omega
      have HLA := Lib.hid hlA
      clear hlA
      go_wp2_with fail
      go_loopw [7, 8] (fun c j wr2 => ∃ (l : Nat) (d : Nat) (Y : List Nat), l ≤ ys.length ∧ j = .int .i64 l ∧ c = .int .u64 (d : Int) ∧ d < 4294967296 ∧ Hid (Row wr2 w.heap.size (Z.take k ++ Y)) ∧ Hid (Below w.heap.size w wr2) ∧ Hid (Y.length = (Z.drop k).length) ∧ Hid (Nl.Small Y) ∧
          Hid (Y.drop l = (Z.drop k).drop l) ∧ Hid (Nl.val (Y.take l) + 4294967296 ^ l * d = Nl.val ((Z.drop k).take l) + x * Nl.val (ys.take l))) (fun _ j _ => (ys.length - (intOf j).toNat))
      case atStart => exact ⟨0, 0, Z.drop k, by omega, rfl, rfl, by omega, by rw [Hid, List.take_append_drop]; exact hrow.out, hbel.out, rfl, hsm.out.drop k, rfl, by simp [Hid]⟩
      case round =>
        obtain ⟨l, d, Y, hl, rfl, rfl, hd, hrow2, hbel2, hlen2, hsm2, hdr2, hv2⟩ := hrel
        by_cases hlt2 : l < ys.length
        · rcases FB.out with fb | ⟨bb, ob, rfl, -, hcb, -, hbb, hcy⟩
          · rw [fb] at hlt2; simp at hlt2
          obtain ⟨y, hy⟩ : ∃ y, y = ys.getD l 0 := ⟨_, rfl⟩
          obtain ⟨z, hz⟩ : ∃ z, z = Y.getD l 0 := ⟨_, rfl⟩
          have hz2 : z < 4294967296 := by rw [hz]; exact hsm2.out.getD l
          have hy2 : y < 4294967296 := by rw [hy]; exact hsy.getD l
          have hlY : (Z.take k ++ Y).length = xs.length + ys.length := by rw [List.length_append, HLA.out, hlen2.out, List.length_drop, hlen.out]; omega
          have cz := hrow2.out.cell (i := k + l) (by rw [hlY]; omega)
          rw [getD_append_right' HLA.out, ← hz] at cz
          have fz := hrow2.out.free (k + l)
          have cy : wr.cell? ⟨bb, ob + l, none⟩ = some (.int .u32 (y : Int)) := by rw [hy]; exact (hbel2.out.cell (p := ⟨bb, ob + l, none⟩) hbb).trans (hcy l hlt2)
          have cx : wr.cell? ⟨ba, oa + k, none⟩ = some (.int .u32 (x : Int)) := (hbel2.out.cell (p := ⟨ba, oa + k, none⟩) hba).trans HCX.out
          have hp : x * y ≤ 4294967295 * 4294967295 := Nat.mul_le_mul (by omega) (by omega)
          have hpi : (x : Int) * (y : Int) = ((x * y : Nat) : Int) := by rw [Int.natCast_mul]
          obtain ⟨p, hpp⟩ : ∃ p, p = x * y := ⟨_, rfl⟩
          rw [← hpp] at hp hpi
          have Hz := Lib.hid hz
          have Hy := Lib.hid hy
          have Hp := Lib.hid hpp
          have HLY := Lib.hid hlY
          clear hz hy hcy hpp hlY
          go_wp2
          go_quiet (fail)
          go_wp2
          go_roundw
          case rel =>
            have hs : p + z + d = x * y + Y.getD l 0 + d := by rw [← Hz.out, Hp.out]
            refine ⟨l + 1, (p + z + d) / 4294967296, Y.set l ((p + z + d) % 4294967296), by omega, by go_num, by go_num, by omega, ?_, ?_, ?_, ?_, ?_, ?_⟩
            · have := Row.set (w := wr.drewN nq) hrow2.out (k + l) ((p + z + d) % 4294967296)
              rw [set_append_right' HLA.out] at this
              exact this
            · exact (hbel2.out.trans (below_drewN wr nq _)).setCell (Nat.le_refl _) _
            · rw [Hid, List.length_set]; exact hlen2.out
            · exact hsm2.out.set _ (by omega)
            · rw [Hid, Nl.drop_set_succ]; exact Nl.drop_succ_of hdr2.out
            · exact mul_step hlen2.out (by rw [List.length_drop, hlen.out]; omega) hlt2 hdr2.out Hy.out hv2.out hs
          case measure => simp [intOf] <;> omega
        · have hl' : l = ys.length := by omega
          subst hl'
          have hlY : (Z.take k ++ Y).length = xs.length + ys.length := by rw [List.length_append, HLA.out, hlen2.out, List.length_drop, hlen.out]; omega
          obtain ⟨z, hz⟩ : ∃ z, z = (Z.take k ++ Y).getD (k + ys.length) 0 := ⟨_, rfl⟩
          have cz := hrow2.out.cell (i := k + ys.length) (by rw [hlY]; omega)
          rw [← hz] at cz
          have fz := hrow2.out.free (k + ys.length)
          have HLY := Lib.hid hlY
          clear hz hlY
          go_wp2_with fail
          go_roundw
          case rel =>
            have hst := pair_step (Z := Z) (Z' := Y) (xs := xs) (k := k) (l := ys.length) (c := d) (x := x) (n := Nl.val ys) hlt Hx.out (by rw [hlen.out]; omega) hdz.out hlen2.out hdr2.out (by have := hv2.out; rw [List.take_of_length_le (Nat.le_refl ys.length)] at this; exact this) hv.out
            refine ⟨k + 1, _, by omega, by go_num, hrow2.out.set _ _, hbel2.out.setCell (Nat.le_refl _) _, ?_, ?_, ?_, ?_⟩
            · rw [Hid, List.length_set]; exact HLY.out
            · exact (Nl.small_append.2 ⟨hsm.out.take k, hsm2.out⟩).set _ hd
            · rw [Hid, hst.2, List.length_set, HLY.out, hlen.out]
            · exact hst.1
          case measure => simp [intOf] <;> omega
    · have hkk : k = xs.length := by omega
      have htr := refTrim_cells w.heap.size 0 (xs.length + ys.length) Z wr (hrow.out.cells (fun i hi => by rw [Nat.zero_add]; exact ⟨hi, rfl⟩)) (by rw [hlen.out]; omega) (by omega) hrow.out.lt (by rw [hlen.out]; omega)
      rw [hlen.out] at htr
      have HT := Lib.hid htr
      have HV := Lib.hid (show Nl.trim Z = Nl.limbs (Nl.val xs * Nl.val ys) by
        rw [Nl.trim_eq hsm.out, hv.out, List.take_of_length_le (by omega)])
      clear htr hkk
      go_wp2_with fail
      refine HT.out.mono ?_
      rintro e w2 ⟨⟨u, rfl, hu⟩, hb2⟩
      rw [HV.out] at hu
      have HU := Lib.hid hu
      have HB2 := Lib.hid (hbel.out.trans (hb2.mono hbel.out.size))
      clear hu hb2
      go_wp2_with fail
      go_ret
      exact ⟨⟨u, rfl, HU.out.at⟩, HB2.out⟩
end Go.Proofs.YtkbghamkalidcaaGreat

namespace Go.Proofs.YtkbghamkalidcaaGreat
open Go.RowKit

/-- what the reference may be given: numbers of any size that it can hold -/
def lowI (n : Int) : Prop := (Nl.limbs n.natAbs).length ≤ 200000
theorem isI_box {w : World} {g : Nat} {T : TypeId} {s t : Bool} {p q : Option Addr} {l c m d : Nat} {n : Int} (h : IsI w (.agg #[.bool t, .slice q m d]) n) (hbx : w.heap[g]? = some (.cells #[.bool s, .slice p l c] T (0, 0))) :
    IsI ((w.setCell ⟨g, 0, none⟩ (.bool t)).setCell ⟨g, 1, none⟩ (.slice q m d)) (.agg #[.bool t, .slice q m d]) n := by
  obtain ⟨u, hu1, hu2⟩ := h
  simp only [Value.agg.injEq, Array.mk.injEq, List.cons.injEq, Value.bool.injEq, and_true] at hu1
  obtain ⟨rfl, rfl⟩ := hu1
  exact AtI.mk (at_ibox _ _ hu2 hbx)
def GiveR (w w' : World) (e : Ending) (m : Nat) : Prop := (∃ p n c, e = .returned (.slice p n c) ∧ At w' (.slice p n c) (Nl.limbs m)) ∧ Below w.heap.size w w'
theorem giveR_of {w w' : World} {e : Ending} {m : Nat} (h : (∃ v, e = .returned v ∧ IsN w' v m) ∧ Below w.heap.size w w') : GiveR w w' e m := by
  obtain ⟨⟨v, rfl, hv⟩, hb⟩ := h
  obtain ⟨p, c, rfl, -⟩ := AtP.form hv
  exact ⟨⟨p, _, c, rfl, hv⟩, hb⟩
theorem addR (va vb : Value) (m n : Nat) (w : World) (ha : At w va (Nl.limbs m)) (hb : At w vb (Nl.limbs n)) (hm : (Nl.limbs m).length ≤ 200000) (hn : (Nl.limbs n).length ≤ 200000) : Calls Tryz.prog 105 #[va, vb] w fun e w' => GiveR w w' e (m + n) := by
  have h := refAdd_any va vb _ _ w ha hb (Nl.limbs_small m) (Nl.limbs_small n) (Nat.le_trans hm (by decide)) (Nat.le_trans hn (by decide))
  rw [Nl.val_limbs, Nl.val_limbs] at h
  exact h.mono fun _ _ => giveR_of
theorem subR (va vb : Value) (m n : Nat) (w : World) (ha : At w va (Nl.limbs m)) (hb : At w vb (Nl.limbs n)) (hm : (Nl.limbs m).length ≤ 200000) (hle : n ≤ m) : Calls Tryz.prog 176 #[va, vb] w fun e w' => GiveR w w' e (m - n) := by
  have h := refSub_any va vb _ _ w ha hb (Nl.limbs_small m) (Nl.limbs_small n) (Nat.le_trans hm (by decide)) (Nl.limbs_mono hle) (by rw [Nl.val_limbs, Nl.val_limbs]; exact hle)
  rw [Nl.val_limbs, Nl.val_limbs] at h
  exact h.mono fun _ _ => giveR_of
theorem mulR (va vb : Value) (m n : Nat) (w : World) (ha : At w va (Nl.limbs m)) (hb : At w vb (Nl.limbs n)) (hm : (Nl.limbs m).length ≤ 200000) (hn : (Nl.limbs n).length ≤ 200000) : Calls Tryz.prog 145 #[va, vb] w fun e w' => GiveR w w' e (m * n) := by
  have h := refMul_any va vb _ _ w ha hb (Nl.limbs_small m) (Nl.limbs_small n) (Nat.le_trans hm (by decide)) (Nat.le_trans hn (by decide))
  rw [Nl.val_limbs, Nl.val_limbs] at h
  exact h.mono fun _ _ => giveR_of

set_option maxHeartbeats 2000000 in
/-- both have the same sign -/
theorem rplus_same (va vb : Value) (a b : Int) (w : World) (ha : IsI w va a) (hb : IsI w vb b) (la : lowI a) (lb : lowI b) (hs : negB a = negB b) :
    Calls Tryz.prog 131 #[va, vb] w fun e w' => Below w.heap.size w w' ∧ ∃ v, e = .returned v ∧ IsI w' v (a + b) := by
  obtain ⟨p0, c0, rfl, hu⟩ := ha.form
  obtain ⟨p1, c1, rfl, hv⟩ := hb.form
  obtain ⟨l0, hl0⟩ : ∃ l0, l0 = (Nl.limbs a.natAbs).length := ⟨_, rfl⟩
  obtain ⟨l1, hl1⟩ : ∃ l1, l1 = (Nl.limbs b.natAbs).length := ⟨_, rfl⟩
  rw [← hl0] at hu ⊢
  rw [← hl1] at hv ⊢
  obtain ⟨s0, hs0⟩ : ∃ s0, s0 = negB a := ⟨_, rfl⟩
  obtain ⟨s1, hs1⟩ : ∃ s1, s1 = negB b := ⟨_, rfl⟩
  rw [← hs0, ← hs1]
  have hss : s0 = s1 := by rw [hs0, hs1, hs]
  subst hss
  obtain ⟨hab, hsg⟩ := sum_same hs
  rw [← hs0] at hsg
  have HSG := Lib.hid hsg
  have HLM := Lib.hid (show (Nl.limbs (a.natAbs + b.natAbs)).length ≤ 1000000 from Nat.le_trans (Nl.len_add _ _) (by have h1 := la; have h2 := lb; unfold lowI at h1 h2; omega))
  obtain ⟨W, hW⟩ : ∃ W, W = ((w.alloc (.cells #[.bool s0, .slice p0 l0 c0] 25)).alloc (.cells #[.bool s0, .slice p1 l1 c1] 25)).alloc (.cells #[.bool false, .slice none 0 0] 25) := ⟨_, rfl⟩
  have h3 := three_mk w W _ _ _ _ _ _ hW
  have bW := h3.below.trans (below_drewN W 1 w.heap.size)
  have HOP := Lib.hid (addR _ _ _ _ W.drew (hu.below bW) (hv.below bW) la lb)
  have k00 := cell_of_row _ _ 0 _ _ (0, 0) h3.a
  have k01 := cell_of_row _ _ 1 _ _ (0, 0) h3.a
  have k10 := cell_of_row _ _ 0 _ _ (0, 0) h3.b
  have k11 := cell_of_row _ _ 1 _ _ (0, 0) h3.b
  simp only [List.getElem?_toArray, List.getElem?_cons_zero, List.getElem?_cons_succ] at k00 k01 k10 k11
  have hK0 : w.heap.size < W.heap.size := lt_of_block h3.a
  have hK1 : w.heap.size + 1 < W.heap.size := lt_of_block h3.b
  have hK2 : w.heap.size + 2 < W.heap.size := lt_of_block h3.r
  have n1 : ¬ w.heap.size = w.heap.size + 1 + 1 := by omega
  have n2 : ¬ w.heap.size + 1 + 1 = w.heap.size := by omega
  have H3 := Lib.hid h3
  clear ha hb hu hv h3 la lb bW hl0 hl1 hs hab hsg hs0 hs1
  cases s0 with
  | true =>
    go_enter Tryz.func131, Tryz.ntmps131
    go_upto_region 1 with fail
    rw [← hW]
    clear hW
    go_wp2_with fail
    go_region_held3 (fun w' => w'.cell? ⟨w.heap.size, 0, none⟩ = some (.bool true) ∧ w'.cell? ⟨w.heap.size, 1, none⟩ = some (.slice p0 l0 c0) ∧ w'.cell? ⟨w.heap.size + 1, 1, none⟩ = some (.slice p1 l1 c1))
      (first
        | go_keep
        | assumption)
      (first
        | (go_at_call 105; refine HOP.out.mono ?_; rintro e w2 ⟨⟨p2, n2, c2, rfl, hat2⟩, hb2⟩; have d00 := (hb2.cell (p := ⟨w.heap.size, 0, none⟩) hK0).trans k00; have d01 := (hb2.cell (p := ⟨w.heap.size, 1, none⟩) hK0).trans k01; have d11 := (hb2.cell (p := ⟨w.heap.size + 1, 1, none⟩) hK1).trans k11)
        | (go_at_call 66; refine (ref2Of_any _ _ _ _ hat2 HLM.out).mono ?_; rintro e w4 ⟨⟨t, p4, n4, c4, rfl, hi4⟩, hb4⟩; have e00 := (hb4.cell (p := ⟨w.heap.size, 0, none⟩) (Nat.lt_of_lt_of_le hK0 hb2.size)).trans d00; have e01 := (hb4.cell (p := ⟨w.heap.size, 1, none⟩) (Nat.lt_of_lt_of_le hK0 hb2.size)).trans d01; have e11 := (hb4.cell (p := ⟨w.heap.size + 1, 1, none⟩) (Nat.lt_of_lt_of_le hK1 hb2.size)).trans d11; have BQ := (hb4.block (w.heap.size + 2) (Nat.lt_of_lt_of_le hK2 hb2.size)).trans ((hb2.block (w.heap.size + 2) hK2).trans H3.out.r); have f0 := frozen_of_row _ _ 0 _ _ BQ; have f1 := frozen_of_row _ _ 1 _ _ BQ; have g0 := cell_of_row _ _ 0 _ _ (0, 0) BQ; have g1 := cell_of_row _ _ 1 _ _ (0, 0) BQ; have HQ := Lib.hid (And.intro BQ (And.intro hi4 (And.intro hb2 hb4))); clear BQ))
    clear hb2 hb4 hat2 hi4
    go_wp2_with fail
    refine bodyPost_ret (v := .agg #[.bool t, .slice p4 n4 c4]) (results_cell_row Tryz.results131 _ _ (w.heap.size + 2) 25 _ (0, 0) _ rfl (ibox_set (g := w.heap.size + 2) _ _ HQ.out.1) Tryz.underlying25 rfl (by kernel_rfl)) rfl ?_
    refine ⟨below_ibox (below_three2 H3.out HQ.out.2.2.1 HQ.out.2.2.2) (g := w.heap.size + 2) (by omega) _ _, _, rfl, ?_⟩
    have hi := HQ.out.2.1
    have hsgo := HSG.out
    try rw [Bool.not_true] at hsgo
    try rw [Bool.not_false] at hsgo
    rw [hsgo] at hi
    exact isI_box (g := w.heap.size + 2) hi HQ.out.1
  | false =>
    go_enter Tryz.func131, Tryz.ntmps131
    go_upto_region 1 with fail
    rw [← hW]
    clear hW
    go_wp2_with fail
    go_region_held3 (fun w' => w'.cell? ⟨w.heap.size, 0, none⟩ = some (.bool false) ∧ w'.cell? ⟨w.heap.size, 1, none⟩ = some (.slice p0 l0 c0) ∧ w'.cell? ⟨w.heap.size + 1, 1, none⟩ = some (.slice p1 l1 c1))
      (first
        | go_keep
        | assumption)
      (first
        | (go_at_call 105; refine HOP.out.mono ?_; rintro e w2 ⟨⟨p2, n2, c2, rfl, hat2⟩, hb2⟩; have d00 := (hb2.cell (p := ⟨w.heap.size, 0, none⟩) hK0).trans k00; have d01 := (hb2.cell (p := ⟨w.heap.size, 1, none⟩) hK0).trans k01; have d11 := (hb2.cell (p := ⟨w.heap.size + 1, 1, none⟩) hK1).trans k11)
        | (go_at_call 66; refine (ref2Of_any _ _ _ _ hat2 HLM.out).mono ?_; rintro e w4 ⟨⟨t, p4, n4, c4, rfl, hi4⟩, hb4⟩; have e00 := (hb4.cell (p := ⟨w.heap.size, 0, none⟩) (Nat.lt_of_lt_of_le hK0 hb2.size)).trans d00; have e01 := (hb4.cell (p := ⟨w.heap.size, 1, none⟩) (Nat.lt_of_lt_of_le hK0 hb2.size)).trans d01; have e11 := (hb4.cell (p := ⟨w.heap.size + 1, 1, none⟩) (Nat.lt_of_lt_of_le hK1 hb2.size)).trans d11; have BQ := (hb4.block (w.heap.size + 2) (Nat.lt_of_lt_of_le hK2 hb2.size)).trans ((hb2.block (w.heap.size + 2) hK2).trans H3.out.r); have f0 := frozen_of_row _ _ 0 _ _ BQ; have f1 := frozen_of_row _ _ 1 _ _ BQ; have g0 := cell_of_row _ _ 0 _ _ (0, 0) BQ; have g1 := cell_of_row _ _ 1 _ _ (0, 0) BQ; have HQ := Lib.hid (And.intro BQ (And.intro hi4 (And.intro hb2 hb4))); clear BQ))
    clear hb2 hb4 hat2 hi4
    go_wp2_with fail
    refine bodyPost_ret (v := .agg #[.bool t, .slice p4 n4 c4]) (results_cell_row Tryz.results131 _ _ (w.heap.size + 2) 25 _ (0, 0) _ rfl (ibox_set (g := w.heap.size + 2) _ _ HQ.out.1) Tryz.underlying25 rfl (by kernel_rfl)) rfl ?_
    refine ⟨below_ibox (below_three2 H3.out HQ.out.2.2.1 HQ.out.2.2.2) (g := w.heap.size + 2) (by omega) _ _, _, rfl, ?_⟩
    have hi := HQ.out.2.1
    have hsgo := HSG.out
    try rw [Bool.not_true] at hsgo
    try rw [Bool.not_false] at hsgo
    rw [hsgo] at hi
    exact isI_box (g := w.heap.size + 2) hi HQ.out.1
set_option maxHeartbeats 2000000 in
/-- different signs -/
theorem rplus_less (va vb : Value) (a b : Int) (w : World) (ha : IsI w va a) (hb : IsI w vb b) (la : lowI a) (lb : lowI b) (hs : negB a ≠ negB b) (hl : a.natAbs < b.natAbs) :
    Calls Tryz.prog 131 #[va, vb] w fun e w' => Below w.heap.size w w' ∧ ∃ v, e = .returned v ∧ IsI w' v (a + b) := by
  obtain ⟨p0, c0, rfl, hu⟩ := ha.form
  obtain ⟨p1, c1, rfl, hv⟩ := hb.form
  obtain ⟨l0, hl0⟩ : ∃ l0, l0 = (Nl.limbs a.natAbs).length := ⟨_, rfl⟩
  obtain ⟨l1, hl1⟩ : ∃ l1, l1 = (Nl.limbs b.natAbs).length := ⟨_, rfl⟩
  rw [← hl0] at hu ⊢
  rw [← hl1] at hv ⊢
  obtain ⟨s0, hs0⟩ : ∃ s0, s0 = negB a := ⟨_, rfl⟩
  obtain ⟨s1, hs1⟩ : ∃ s1, s1 = negB b := ⟨_, rfl⟩
  rw [← hs0, ← hs1]
  have hne : s0 = !s1 := by
    rw [← hs0, ← hs1] at hs
    cases s0 <;> cases s1 <;> first | rfl | exact absurd rfl hs
  have hsg := sum_less (by rw [← hs0, ← hs1]; rw [← hs0, ← hs1] at hs; exact hs) hl
  rw [← hs1] at hsg
  have HSG := Lib.hid hsg
  have HLM := Lib.hid (show (Nl.limbs (b.natAbs - a.natAbs)).length ≤ 1000000 from Nat.le_trans (Nl.len_sub _ _) (Nat.le_trans lb (by decide)))
  subst hne
  obtain ⟨W, hW⟩ : ∃ W, W = ((w.alloc (.cells #[.bool (!s1), .slice p0 l0 c0] 25)).alloc (.cells #[.bool s1, .slice p1 l1 c1] 25)).alloc (.cells #[.bool false, .slice none 0 0] 25) := ⟨_, rfl⟩
  have h3 := three_mk w W _ _ _ _ _ _ hW
  have bW := h3.below.trans (below_drewN W 1 w.heap.size)
  have hcmp := refCmp_any _ _ _ _ W (hu.below h3.below) (hv.below h3.below) (Nl.limbs_small _) (Nl.limbs_small _) (Nat.le_trans la (by decide)) (Nat.le_trans lb (by decide))
  rw [Nl.val_limbs, Nl.val_limbs] at hcmp
  have HOP := Lib.hid (subR _ _ b.natAbs a.natAbs W.drew (hv.below bW) (hu.below bW) lb (Nat.le_of_lt hl))
  have hci : cmpI a.natAbs b.natAbs < 0 := by rw [cmpI_lt (by omega)]; omega
  obtain ⟨ci, hcie⟩ : ∃ ci, ci = cmpI a.natAbs b.natAbs := ⟨_, rfl⟩
  rw [← hcie] at hci hcmp
  have e0 : decide (ci ≥ 0) = false := by first | exact decide_eq_true hci | exact decide_eq_false (by omega)
  have e1 : decide (0 ≤ ci) = false := by first | exact decide_eq_true hci | exact decide_eq_false (by omega)
  have HC := Lib.hid hcmp
  clear hcmp
  have k00 := cell_of_row _ _ 0 _ _ (0, 0) h3.a
  have k01 := cell_of_row _ _ 1 _ _ (0, 0) h3.a
  have k10 := cell_of_row _ _ 0 _ _ (0, 0) h3.b
  have k11 := cell_of_row _ _ 1 _ _ (0, 0) h3.b
  simp only [List.getElem?_toArray, List.getElem?_cons_zero, List.getElem?_cons_succ] at k00 k01 k10 k11
  have hK0 : w.heap.size < W.heap.size := lt_of_block h3.a
  have hK1 : w.heap.size + 1 < W.heap.size := lt_of_block h3.b
  have hK2 : w.heap.size + 2 < W.heap.size := lt_of_block h3.r
  have n1 : ¬ w.heap.size = w.heap.size + 1 + 1 := by omega
  have n2 : ¬ w.heap.size + 1 + 1 = w.heap.size := by omega
  have H3 := Lib.hid h3
  clear ha hb hu hv h3 la lb bW hl0 hl1 hl hs hsg hs0 hs1 hcie hci
  cases s1 with
  | true =>
    rw [Bool.not_true] at hW k00
    try rw [Bool.not_true]
    go_enter Tryz.func131, Tryz.ntmps131
    go_upto_region 1 with fail
    rw [← hW]
    clear hW
    go_wp2_with fail
    refine HC.out.mono ?_
    rintro e w1 ⟨rfl, rfl⟩
    go_wp2_with fail
    go_region_held3 (fun w' => w'.cell? ⟨w.heap.size, 1, none⟩ = some (.slice p0 l0 c0) ∧ w'.cell? ⟨w.heap.size + 1, 0, none⟩ = some (.bool true) ∧ w'.cell? ⟨w.heap.size + 1, 1, none⟩ = some (.slice p1 l1 c1))
      (first
        | go_keep
        | assumption)
      (first
        | (go_at_call 176; refine HOP.out.mono ?_; rintro e w2 ⟨⟨p2, n2, c2, rfl, hat2⟩, hb2⟩; have d01 := (hb2.cell (p := ⟨w.heap.size, 1, none⟩) hK0).trans k01; have d10 := (hb2.cell (p := ⟨w.heap.size + 1, 0, none⟩) hK1).trans k10; have d11 := (hb2.cell (p := ⟨w.heap.size + 1, 1, none⟩) hK1).trans k11)
        | (go_at_call 66; refine (ref2Of_any _ _ _ _ hat2 HLM.out).mono ?_; rintro e w4 ⟨⟨t, p4, n4, c4, rfl, hi4⟩, hb4⟩; have e01 := (hb4.cell (p := ⟨w.heap.size, 1, none⟩) (Nat.lt_of_lt_of_le hK0 hb2.size)).trans d01; have e10 := (hb4.cell (p := ⟨w.heap.size + 1, 0, none⟩) (Nat.lt_of_lt_of_le hK1 hb2.size)).trans d10; have e11 := (hb4.cell (p := ⟨w.heap.size + 1, 1, none⟩) (Nat.lt_of_lt_of_le hK1 hb2.size)).trans d11; have BQ := (hb4.block (w.heap.size + 2) (Nat.lt_of_lt_of_le hK2 hb2.size)).trans ((hb2.block (w.heap.size + 2) hK2).trans H3.out.r); have f0 := frozen_of_row _ _ 0 _ _ BQ; have f1 := frozen_of_row _ _ 1 _ _ BQ; have g0 := cell_of_row _ _ 0 _ _ (0, 0) BQ; have g1 := cell_of_row _ _ 1 _ _ (0, 0) BQ; have HQ := Lib.hid (And.intro BQ (And.intro hi4 (And.intro hb2 hb4))); clear BQ))
    clear hb2 hb4 hat2 hi4
    go_wp2_with fail
    refine bodyPost_ret (v := .agg #[.bool t, .slice p4 n4 c4]) (results_cell_row Tryz.results131 _ _ (w.heap.size + 2) 25 _ (0, 0) _ rfl (ibox_set (g := w.heap.size + 2) _ _ HQ.out.1) Tryz.underlying25 rfl (by kernel_rfl)) rfl ?_
    refine ⟨below_ibox (below_three2 H3.out HQ.out.2.2.1 HQ.out.2.2.2) (g := w.heap.size + 2) (by omega) _ _, _, rfl, ?_⟩
    have hi := HQ.out.2.1
    have hsgo := HSG.out
    try rw [Bool.not_true] at hsgo
    try rw [Bool.not_false] at hsgo
    rw [hsgo] at hi
    exact isI_box (g := w.heap.size + 2) hi HQ.out.1
  | false =>
    rw [Bool.not_false] at hW k00
    try rw [Bool.not_false]
    go_enter Tryz.func131, Tryz.ntmps131
    go_upto_region 1 with fail
    rw [← hW]
    clear hW
    go_wp2_with fail
    refine HC.out.mono ?_
    rintro e w1 ⟨rfl, rfl⟩
    go_wp2_with fail
    go_region_held3 (fun w' => w'.cell? ⟨w.heap.size, 1, none⟩ = some (.slice p0 l0 c0) ∧ w'.cell? ⟨w.heap.size + 1, 0, none⟩ = some (.bool false) ∧ w'.cell? ⟨w.heap.size + 1, 1, none⟩ = some (.slice p1 l1 c1))
      (first
        | go_keep
        | assumption)
      (first
        | (go_at_call 176; refine HOP.out.mono ?_; rintro e w2 ⟨⟨p2, n2, c2, rfl, hat2⟩, hb2⟩; have d01 := (hb2.cell (p := ⟨w.heap.size, 1, none⟩) hK0).trans k01; have d10 := (hb2.cell (p := ⟨w.heap.size + 1, 0, none⟩) hK1).trans k10; have d11 := (hb2.cell (p := ⟨w.heap.size + 1, 1, none⟩) hK1).trans k11)
        | (go_at_call 66; refine (ref2Of_any _ _ _ _ hat2 HLM.out).mono ?_; rintro e w4 ⟨⟨t, p4, n4, c4, rfl, hi4⟩, hb4⟩; have e01 := (hb4.cell (p := ⟨w.heap.size, 1, none⟩) (Nat.lt_of_lt_of_le hK0 hb2.size)).trans d01; have e10 := (hb4.cell (p := ⟨w.heap.size + 1, 0, none⟩) (Nat.lt_of_lt_of_le hK1 hb2.size)).trans d10; have e11 := (hb4.cell (p := ⟨w.heap.size + 1, 1, none⟩) (Nat.lt_of_lt_of_le hK1 hb2.size)).trans d11; have BQ := (hb4.block (w.heap.size + 2) (Nat.lt_of_lt_of_le hK2 hb2.size)).trans ((hb2.block (w.heap.size + 2) hK2).trans H3.out.r); have f0 := frozen_of_row _ _ 0 _ _ BQ; have f1 := frozen_of_row _ _ 1 _ _ BQ; have g0 := cell_of_row _ _ 0 _ _ (0, 0) BQ; have g1 := cell_of_row _ _ 1 _ _ (0, 0) BQ; have HQ := Lib.hid (And.intro BQ (And.intro hi4 (And.intro hb2 hb4))); clear BQ))
    clear hb2 hb4 hat2 hi4
    go_wp2_with fail
    refine bodyPost_ret (v := .agg #[.bool t, .slice p4 n4 c4]) (results_cell_row Tryz.results131 _ _ (w.heap.size + 2) 25 _ (0, 0) _ rfl (ibox_set (g := w.heap.size + 2) _ _ HQ.out.1) Tryz.underlying25 rfl (by kernel_rfl)) rfl ?_
    refine ⟨below_ibox (below_three2 H3.out HQ.out.2.2.1 HQ.out.2.2.2) (g := w.heap.size + 2) (by omega) _ _, _, rfl, ?_⟩
    have hi := HQ.out.2.1
    have hsgo := HSG.out
    try rw [Bool.not_true] at hsgo
    try rw [Bool.not_false] at hsgo
    rw [hsgo] at hi
    exact isI_box (g := w.heap.size + 2) hi HQ.out.1
set_option maxHeartbeats 2000000 in
/-- different signs -/
theorem rplus_more (va vb : Value) (a b : Int) (w : World) (ha : IsI w va a) (hb : IsI w vb b) (la : lowI a) (lb : lowI b) (hs : negB a ≠ negB b) (hl : b.natAbs ≤ a.natAbs) :
    Calls Tryz.prog 131 #[va, vb] w fun e w' => Below w.heap.size w w' ∧ ∃ v, e = .returned v ∧ IsI w' v (a + b) := by
  obtain ⟨p0, c0, rfl, hu⟩ := ha.form
  obtain ⟨p1, c1, rfl, hv⟩ := hb.form
  obtain ⟨l0, hl0⟩ : ∃ l0, l0 = (Nl.limbs a.natAbs).length := ⟨_, rfl⟩
  obtain ⟨l1, hl1⟩ : ∃ l1, l1 = (Nl.limbs b.natAbs).length := ⟨_, rfl⟩
  rw [← hl0] at hu ⊢
  rw [← hl1] at hv ⊢
  obtain ⟨s0, hs0⟩ : ∃ s0, s0 = negB a := ⟨_, rfl⟩
  obtain ⟨s1, hs1⟩ : ∃ s1, s1 = negB b := ⟨_, rfl⟩
  rw [← hs0, ← hs1]
  have hne : s0 = !s1 := by
    rw [← hs0, ← hs1] at hs
    cases s0 <;> cases s1 <;> first | rfl | exact absurd rfl hs
  have hsg := sum_more (by rw [← hs0, ← hs1]; rw [← hs0, ← hs1] at hs; exact hs) hl
  rw [← hs0] at hsg
  have HSG := Lib.hid hsg
  have HLM := Lib.hid (show (Nl.limbs (a.natAbs - b.natAbs)).length ≤ 1000000 from Nat.le_trans (Nl.len_sub _ _) (Nat.le_trans la (by decide)))
  subst hne
  obtain ⟨W, hW⟩ : ∃ W, W = ((w.alloc (.cells #[.bool (!s1), .slice p0 l0 c0] 25)).alloc (.cells #[.bool s1, .slice p1 l1 c1] 25)).alloc (.cells #[.bool false, .slice none 0 0] 25) := ⟨_, rfl⟩
  have h3 := three_mk w W _ _ _ _ _ _ hW
  have bW := h3.below.trans (below_drewN W 1 w.heap.size)
  have hcmp := refCmp_any _ _ _ _ W (hu.below h3.below) (hv.below h3.below) (Nl.limbs_small _) (Nl.limbs_small _) (Nat.le_trans la (by decide)) (Nat.le_trans lb (by decide))
  rw [Nl.val_limbs, Nl.val_limbs] at hcmp
  have HOP := Lib.hid (subR _ _ a.natAbs b.natAbs W.drew (hu.below bW) (hv.below bW) la hl)
  have hci : cmpI a.natAbs b.natAbs ≥ 0 := by rw [cmpI]; split <;> (try split) <;> omega
  obtain ⟨ci, hcie⟩ : ∃ ci, ci = cmpI a.natAbs b.natAbs := ⟨_, rfl⟩
  rw [← hcie] at hci hcmp
  have e0 : decide (ci ≥ 0) = true := by first | exact decide_eq_true hci | exact decide_eq_false (by omega)
  have e1 : decide (0 ≤ ci) = true := by first | exact decide_eq_true hci | exact decide_eq_false (by omega)
  have HC := Lib.hid hcmp
  clear hcmp
  have k00 := cell_of_row _ _ 0 _ _ (0, 0) h3.a
  have k01 := cell_of_row _ _ 1 _ _ (0, 0) h3.a
  have k10 := cell_of_row _ _ 0 _ _ (0, 0) h3.b
  have k11 := cell_of_row _ _ 1 _ _ (0, 0) h3.b
  simp only [List.getElem?_toArray, List.getElem?_cons_zero, List.getElem?_cons_succ] at k00 k01 k10 k11
  have hK0 : w.heap.size < W.heap.size := lt_of_block h3.a
  have hK1 : w.heap.size + 1 < W.heap.size := lt_of_block h3.b
  have hK2 : w.heap.size + 2 < W.heap.size := lt_of_block h3.r
  have n1 : ¬ w.heap.size = w.heap.size + 1 + 1 := by omega
  have n2 : ¬ w.heap.size + 1 + 1 = w.heap.size := by omega
  have H3 := Lib.hid h3
  clear ha hb hu hv h3 la lb bW hl0 hl1 hl hs hsg hs0 hs1 hcie hci
  cases s1 with
  | true =>
    rw [Bool.not_true] at hW k00
    try rw [Bool.not_true]
    go_enter Tryz.func131, Tryz.ntmps131
    go_upto_region 1 with fail
    rw [← hW]
    clear hW
    go_wp2_with fail
    refine HC.out.mono ?_
    rintro e w1 ⟨rfl, rfl⟩
    go_wp2_with fail
    go_region_held3 (fun w' => w'.cell? ⟨w.heap.size, 0, none⟩ = some (.bool false) ∧ w'.cell? ⟨w.heap.size, 1, none⟩ = some (.slice p0 l0 c0) ∧ w'.cell? ⟨w.heap.size + 1, 1, none⟩ = some (.slice p1 l1 c1))
      (first
        | go_keep
        | assumption)
      (first
        | (go_at_call 176; refine HOP.out.mono ?_; rintro e w2 ⟨⟨p2, n2, c2, rfl, hat2⟩, hb2⟩; have d00 := (hb2.cell (p := ⟨w.heap.size, 0, none⟩) hK0).trans k00; have d01 := (hb2.cell (p := ⟨w.heap.size, 1, none⟩) hK0).trans k01; have d11 := (hb2.cell (p := ⟨w.heap.size + 1, 1, none⟩) hK1).trans k11)
        | (go_at_call 66; refine (ref2Of_any _ _ _ _ hat2 HLM.out).mono ?_; rintro e w4 ⟨⟨t, p4, n4, c4, rfl, hi4⟩, hb4⟩; have e00 := (hb4.cell (p := ⟨w.heap.size, 0, none⟩) (Nat.lt_of_lt_of_le hK0 hb2.size)).trans d00; have e01 := (hb4.cell (p := ⟨w.heap.size, 1, none⟩) (Nat.lt_of_lt_of_le hK0 hb2.size)).trans d01; have e11 := (hb4.cell (p := ⟨w.heap.size + 1, 1, none⟩) (Nat.lt_of_lt_of_le hK1 hb2.size)).trans d11; have BQ := (hb4.block (w.heap.size + 2) (Nat.lt_of_lt_of_le hK2 hb2.size)).trans ((hb2.block (w.heap.size + 2) hK2).trans H3.out.r); have f0 := frozen_of_row _ _ 0 _ _ BQ; have f1 := frozen_of_row _ _ 1 _ _ BQ; have g0 := cell_of_row _ _ 0 _ _ (0, 0) BQ; have g1 := cell_of_row _ _ 1 _ _ (0, 0) BQ; have HQ := Lib.hid (And.intro BQ (And.intro hi4 (And.intro hb2 hb4))); clear BQ))
    clear hb2 hb4 hat2 hi4
    go_wp2_with fail
    refine bodyPost_ret (v := .agg #[.bool t, .slice p4 n4 c4]) (results_cell_row Tryz.results131 _ _ (w.heap.size + 2) 25 _ (0, 0) _ rfl (ibox_set (g := w.heap.size + 2) _ _ HQ.out.1) Tryz.underlying25 rfl (by kernel_rfl)) rfl ?_
    refine ⟨below_ibox (below_three2 H3.out HQ.out.2.2.1 HQ.out.2.2.2) (g := w.heap.size + 2) (by omega) _ _, _, rfl, ?_⟩
    have hi := HQ.out.2.1
    have hsgo := HSG.out
    try rw [Bool.not_true] at hsgo
    try rw [Bool.not_false] at hsgo
    rw [hsgo] at hi
    exact isI_box (g := w.heap.size + 2) hi HQ.out.1
  | false =>
    rw [Bool.not_false] at hW k00
    try rw [Bool.not_false]
    go_enter Tryz.func131, Tryz.ntmps131
    go_upto_region 1 with fail
    rw [← hW]
    clear hW
    go_wp2_with fail
    refine HC.out.mono ?_
    rintro e w1 ⟨rfl, rfl⟩
    go_wp2_with fail
    go_region_held3 (fun w' => w'.cell? ⟨w.heap.size, 0, none⟩ = some (.bool true) ∧ w'.cell? ⟨w.heap.size, 1, none⟩ = some (.slice p0 l0 c0) ∧ w'.cell? ⟨w.heap.size + 1, 1, none⟩ = some (.slice p1 l1 c1))
      (first
        | go_keep
        | assumption)
      (first
        | (go_at_call 176; refine HOP.out.mono ?_; rintro e w2 ⟨⟨p2, n2, c2, rfl, hat2⟩, hb2⟩; have d00 := (hb2.cell (p := ⟨w.heap.size, 0, none⟩) hK0).trans k00; have d01 := (hb2.cell (p := ⟨w.heap.size, 1, none⟩) hK0).trans k01; have d11 := (hb2.cell (p := ⟨w.heap.size + 1, 1, none⟩) hK1).trans k11)
        | (go_at_call 66; refine (ref2Of_any _ _ _ _ hat2 HLM.out).mono ?_; rintro e w4 ⟨⟨t, p4, n4, c4, rfl, hi4⟩, hb4⟩; have e00 := (hb4.cell (p := ⟨w.heap.size, 0, none⟩) (Nat.lt_of_lt_of_le hK0 hb2.size)).trans d00; have e01 := (hb4.cell (p := ⟨w.heap.size, 1, none⟩) (Nat.lt_of_lt_of_le hK0 hb2.size)).trans d01; have e11 := (hb4.cell (p := ⟨w.heap.size + 1, 1, none⟩) (Nat.lt_of_lt_of_le hK1 hb2.size)).trans d11; have BQ := (hb4.block (w.heap.size + 2) (Nat.lt_of_lt_of_le hK2 hb2.size)).trans ((hb2.block (w.heap.size + 2) hK2).trans H3.out.r); have f0 := frozen_of_row _ _ 0 _ _ BQ; have f1 := frozen_of_row _ _ 1 _ _ BQ; have g0 := cell_of_row _ _ 0 _ _ (0, 0) BQ; have g1 := cell_of_row _ _ 1 _ _ (0, 0) BQ; have HQ := Lib.hid (And.intro BQ (And.intro hi4 (And.intro hb2 hb4))); clear BQ))
    clear hb2 hb4 hat2 hi4
    go_wp2_with fail
    refine bodyPost_ret (v := .agg #[.bool t, .slice p4 n4 c4]) (results_cell_row Tryz.results131 _ _ (w.heap.size + 2) 25 _ (0, 0) _ rfl (ibox_set (g := w.heap.size + 2) _ _ HQ.out.1) Tryz.underlying25 rfl (by kernel_rfl)) rfl ?_
    refine ⟨below_ibox (below_three2 H3.out HQ.out.2.2.1 HQ.out.2.2.2) (g := w.heap.size + 2) (by omega) _ _, _, rfl, ?_⟩
    have hi := HQ.out.2.1
    have hsgo := HSG.out
    try rw [Bool.not_true] at hsgo
    try rw [Bool.not_false] at hsgo
    rw [hsgo] at hi
    exact isI_box (g := w.heap.size + 2) hi HQ.out.1
set_option maxHeartbeats 2000000 in
/-- a product -/
theorem rtimes_any (va vb : Value) (a b : Int) (w : World) (ha : IsI w va a) (hb : IsI w vb b) (la : lowI a) (lb : lowI b) :
    Calls Tryz.prog 86 #[va, vb] w fun e w' => Below w.heap.size w w' ∧ ∃ v, e = .returned v ∧ IsI w' v (a * b) := by
  obtain ⟨p0, c0, rfl, hu⟩ := ha.form
  obtain ⟨p1, c1, rfl, hv⟩ := hb.form
  obtain ⟨l0, hl0⟩ : ∃ l0, l0 = (Nl.limbs a.natAbs).length := ⟨_, rfl⟩
  obtain ⟨l1, hl1⟩ : ∃ l1, l1 = (Nl.limbs b.natAbs).length := ⟨_, rfl⟩
  rw [← hl0] at hu ⊢
  rw [← hl1] at hv ⊢
  obtain ⟨s0, hs0⟩ : ∃ s0, s0 = negB a := ⟨_, rfl⟩
  obtain ⟨s1, hs1⟩ : ∃ s1, s1 = negB b := ⟨_, rfl⟩
  rw [← hs0, ← hs1]
  obtain ⟨hab, hsg⟩ := prod_sgn a b
  rw [← hs0, ← hs1] at hsg
  have HSG := Lib.hid (show sgn (!(s0 == s1)) (a.natAbs * b.natAbs) = a * b from hsg)
  have HLM := Lib.hid (show (Nl.limbs (a.natAbs * b.natAbs)).length ≤ 1000000 from Nat.le_trans (Nl.len_mul _ _) (by have h1 := la; have h2 := lb; unfold lowI at h1 h2; omega))
  obtain ⟨W, hW⟩ : ∃ W, W = ((w.alloc (.cells #[.bool s0, .slice p0 l0 c0] 25)).alloc (.cells #[.bool s1, .slice p1 l1 c1] 25)).alloc (.cells #[.bool false, .slice none 0 0] 25) := ⟨_, rfl⟩
  have h3 := three_mk w W _ _ _ _ _ _ hW
  have bW := h3.below.trans (below_drewN W 1 w.heap.size)
  have HOP := Lib.hid (mulR _ _ _ _ W.drew (hu.below bW) (hv.below bW) la lb)
  have k00 := cell_of_row _ _ 0 _ _ (0, 0) h3.a
  have k01 := cell_of_row _ _ 1 _ _ (0, 0) h3.a
  have k10 := cell_of_row _ _ 0 _ _ (0, 0) h3.b
  have k11 := cell_of_row _ _ 1 _ _ (0, 0) h3.b
  simp only [List.getElem?_toArray, List.getElem?_cons_zero, List.getElem?_cons_succ] at k00 k01 k10 k11
  have hK0 : w.heap.size < W.heap.size := lt_of_block h3.a
  have hK1 : w.heap.size + 1 < W.heap.size := lt_of_block h3.b
  have hK2 : w.heap.size + 2 < W.heap.size := lt_of_block h3.r
  have n1 : ¬ w.heap.size = w.heap.size + 1 + 1 := by omega
  have n2 : ¬ w.heap.size + 1 + 1 = w.heap.size := by omega
  have H3 := Lib.hid h3
  clear ha hb hu hv h3 la lb bW hl0 hl1 hab hsg hs0 hs1
  go_enter Tryz.func86, Tryz.ntmps86
  go_upto_region 1 with fail
  rw [← hW]
  clear hW
  go_wp2_with fail
  go_region_held3 (fun w' => w'.cell? ⟨w.heap.size, 0, none⟩ = some (.bool s0) ∧ w'.cell? ⟨w.heap.size, 1, none⟩ = some (.slice p0 l0 c0) ∧ w'.cell? ⟨w.heap.size + 1, 0, none⟩ = some (.bool s1) ∧ w'.cell? ⟨w.heap.size + 1, 1, none⟩ = some (.slice p1 l1 c1))
    (first
      | go_keep
      | assumption)
    (first
      | (go_at_call 145; refine HOP.out.mono ?_; rintro e w2 ⟨⟨p2, n2, c2, rfl, hat2⟩, hb2⟩; have d00 := (hb2.cell (p := ⟨w.heap.size, 0, none⟩) hK0).trans k00; have d01 := (hb2.cell (p := ⟨w.heap.size, 1, none⟩) hK0).trans k01; have d10 := (hb2.cell (p := ⟨w.heap.size + 1, 0, none⟩) hK1).trans k10; have d11 := (hb2.cell (p := ⟨w.heap.size + 1, 1, none⟩) hK1).trans k11)
      | (go_at_call 66; refine (ref2Of_any _ _ _ _ hat2 HLM.out).mono ?_; rintro e w4 ⟨⟨t, p4, n4, c4, rfl, hi4⟩, hb4⟩; have e00 := (hb4.cell (p := ⟨w.heap.size, 0, none⟩) (Nat.lt_of_lt_of_le hK0 hb2.size)).trans d00; have e01 := (hb4.cell (p := ⟨w.heap.size, 1, none⟩) (Nat.lt_of_lt_of_le hK0 hb2.size)).trans d01; have e10 := (hb4.cell (p := ⟨w.heap.size + 1, 0, none⟩) (Nat.lt_of_lt_of_le hK1 hb2.size)).trans d10; have e11 := (hb4.cell (p := ⟨w.heap.size + 1, 1, none⟩) (Nat.lt_of_lt_of_le hK1 hb2.size)).trans d11; have BQ := (hb4.block (w.heap.size + 2) (Nat.lt_of_lt_of_le hK2 hb2.size)).trans ((hb2.block (w.heap.size + 2) hK2).trans H3.out.r); have f0 := frozen_of_row _ _ 0 _ _ BQ; have f1 := frozen_of_row _ _ 1 _ _ BQ; have g0 := cell_of_row _ _ 0 _ _ (0, 0) BQ; have g1 := cell_of_row _ _ 1 _ _ (0, 0) BQ; have HQ := Lib.hid (And.intro BQ (And.intro hi4 (And.intro hb2 hb4))); clear BQ))
  clear hb2 hb4 hat2 hi4
  go_wp2_with fail
  refine bodyPost_ret (v := .agg #[.bool t, .slice p4 n4 c4]) (results_cell_row Tryz.results86 _ _ (w.heap.size + 2) 25 _ (0, 0) _ rfl (ibox_set (g := w.heap.size + 2) _ _ HQ.out.1) Tryz.underlying25 rfl (by kernel_rfl)) rfl ?_
  refine ⟨below_ibox (below_three2 H3.out HQ.out.2.2.1 HQ.out.2.2.2) (g := w.heap.size + 2) (by omega) _ _, _, rfl, ?_⟩
  have hi := HQ.out.2.1
  have hsgo := HSG.out
  try rw [Bool.not_true] at hsgo
  try rw [Bool.not_false] at hsgo
  rw [hsgo] at hi
  exact isI_box (g := w.heap.size + 2) hi HQ.out.1
theorem rplus_any (va vb : Value) (a b : Int) (w : World) (ha : IsI w va a) (hb : IsI w vb b) (la : lowI a) (lb : lowI b) :
    Calls Tryz.prog 131 #[va, vb] w fun e w' => Below w.heap.size w w' ∧ ∃ v, e = .returned v ∧ IsI w' v (a + b) := by
  by_cases hs : negB a = negB b
  · exact rplus_same va vb a b w ha hb la lb hs
  · by_cases hl : a.natAbs < b.natAbs
    · exact rplus_less va vb a b w ha hb la lb hs hl
    · exact rplus_more va vb a b w ha hb la lb hs (by omega)
set_option maxHeartbeats 2000000 in
/-- a difference -/
theorem rminus_any (va vb : Value) (a b : Int) (w : World) (ha : IsI w va a) (hb : IsI w vb b) (la : lowI a) (lb : lowI b) :
    Calls Tryz.prog 67 #[va, vb] w fun e w' => Below w.heap.size w w' ∧ ∃ v, e = .returned v ∧ IsI w' v (a - b) := by
  obtain ⟨p0, c0, rfl, hu⟩ := ha.form
  obtain ⟨p1, c1, rfl, hv⟩ := hb.form
  obtain ⟨l0, hl0⟩ : ∃ l0, l0 = (Nl.limbs a.natAbs).length := ⟨_, rfl⟩
  obtain ⟨l1, hl1⟩ : ∃ l1, l1 = (Nl.limbs b.natAbs).length := ⟨_, rfl⟩
  rw [← hl0] at hu ha ⊢
  rw [← hl1] at hv hb ⊢
  obtain ⟨s0, hs0⟩ : ∃ s0, s0 = negB a := ⟨_, rfl⟩
  obtain ⟨s1, hs1⟩ : ∃ s1, s1 = negB b := ⟨_, rfl⟩
  rw [← hs0] at ha ⊢
  rw [← hs1] at hb ⊢
  obtain ⟨W, hW⟩ : ∃ W, W = ((w.alloc (.cells #[.bool s0, .slice p0 l0 c0] 25)).alloc (.cells #[.bool s1, .slice p1 l1 c1] 25)).alloc (.cells #[.bool false, .slice none 0 0] 25) := ⟨_, rfl⟩
  have h3 := three_mk w W _ _ _ _ _ _ hW
  have bW := h3.below.trans (below_drewN W 1 w.heap.size)
  have HA := Lib.hid (ha.below bW)
  have HOP := Lib.hid (ref2Opposite_any _ b W.drew (hb.below bW) (Nat.le_trans lb (by decide)))
  have HF := Lib.hid (And.intro la (show lowI (-b) by rw [lowI, show (-b).natAbs = b.natAbs by omega]; exact lb))
  have k00 := cell_of_row _ _ 0 _ _ (0, 0) h3.a
  have k01 := cell_of_row _ _ 1 _ _ (0, 0) h3.a
  have k10 := cell_of_row _ _ 0 _ _ (0, 0) h3.b
  have k11 := cell_of_row _ _ 1 _ _ (0, 0) h3.b
  simp only [List.getElem?_toArray, List.getElem?_cons_zero, List.getElem?_cons_succ] at k00 k01 k10 k11
  have hK0 : w.heap.size < W.heap.size := lt_of_block h3.a
  have hK1 : w.heap.size + 1 < W.heap.size := lt_of_block h3.b
  have hK2 : w.heap.size + 2 < W.heap.size := lt_of_block h3.r
  have n1 : ¬ w.heap.size = w.heap.size + 1 + 1 := by omega
  have n2 : ¬ w.heap.size + 1 + 1 = w.heap.size := by omega
  have H3 := Lib.hid h3
  clear ha hb hu hv h3 la lb bW hl0 hl1 hs0 hs1
  have HP := Lib.hid (fun (w2 : World) (u : Value) (h : Below W.drew.heap.size W.drew w2) (hu : IsI w2 u (-b)) => rplus_any _ u a (-b) w2 (HA.out.below h) hu HF.out.1 HF.out.2)
  show Calls Tryz.prog 67 _ w fun e w' => Below w.heap.size w w' ∧ ∃ v, e = .returned v ∧ IsI w' v (a + -b)
  obtain ⟨nn, hnn⟩ : ∃ nn : Int, nn = a + -b := ⟨_, rfl⟩
  rw [← hnn] at HP ⊢
  clear hnn
  go_enter Tryz.func67, Tryz.ntmps67
  go_upto_region 1 with fail
  rw [← hW]
  clear hW
  go_region_held3 (fun w' => w'.cell? ⟨w.heap.size, 0, none⟩ = some (.bool s0) ∧ w'.cell? ⟨w.heap.size, 1, none⟩ = some (.slice p0 l0 c0) ∧ w'.cell? ⟨w.heap.size + 1, 0, none⟩ = some (.bool s1) ∧ w'.cell? ⟨w.heap.size + 1, 1, none⟩ = some (.slice p1 l1 c1))
    (first
      | go_keep
      | assumption)
    (first
      | (go_at_call 68; refine HOP.out.mono ?_; rintro e w2 ⟨⟨u2, rfl, hu2⟩, hb2⟩; have d00 := (hb2.cell (p := ⟨w.heap.size, 0, none⟩) hK0).trans k00; have d01 := (hb2.cell (p := ⟨w.heap.size, 1, none⟩) hK0).trans k01; have d10 := (hb2.cell (p := ⟨w.heap.size + 1, 0, none⟩) hK1).trans k10; have d11 := (hb2.cell (p := ⟨w.heap.size + 1, 1, none⟩) hK1).trans k11)
      | (go_at_call 131; refine (HP.out w2 u2 hb2 hu2).mono ?_; rintro e w4 ⟨hb4, v4, rfl, hv4⟩; obtain ⟨p2, c2, rfl, hat2⟩ := AtI.form hv4; have e00 := (hb4.cell (p := ⟨w.heap.size, 0, none⟩) (Nat.lt_of_lt_of_le hK0 hb2.size)).trans d00; have e01 := (hb4.cell (p := ⟨w.heap.size, 1, none⟩) (Nat.lt_of_lt_of_le hK0 hb2.size)).trans d01; have e10 := (hb4.cell (p := ⟨w.heap.size + 1, 0, none⟩) (Nat.lt_of_lt_of_le hK1 hb2.size)).trans d10; have e11 := (hb4.cell (p := ⟨w.heap.size + 1, 1, none⟩) (Nat.lt_of_lt_of_le hK1 hb2.size)).trans d11; have BQ := (hb4.block (w.heap.size + 2) (Nat.lt_of_lt_of_le hK2 hb2.size)).trans ((hb2.block (w.heap.size + 2) hK2).trans H3.out.r); have f0 := frozen_of_row _ _ 0 _ _ BQ; have f1 := frozen_of_row _ _ 1 _ _ BQ; have g0 := cell_of_row _ _ 0 _ _ (0, 0) BQ; have g1 := cell_of_row _ _ 1 _ _ (0, 0) BQ; have HQ := Lib.hid (And.intro BQ (And.intro hat2 (And.intro hb2 hb4))); clear BQ))
  clear hb2 hb4 hat2 hu2 hv4
  go_wp2_with fail
  refine bodyPost_ret (v := .agg #[.bool (negB nn), .slice p2 (Nl.limbs nn.natAbs).length c2]) (results_cell_row Tryz.results67 _ _ (w.heap.size + 2) 25 _ (0, 0) _ rfl (ibox_set (g := w.heap.size + 2) _ _ HQ.out.1) Tryz.underlying25 rfl (by kernel_rfl)) rfl ?_
  exact ⟨below_ibox (below_three2 H3.out HQ.out.2.2.1 HQ.out.2.2.2) (g := w.heap.size + 2) (by omega) _ _, _, rfl, AtI.mk (at_ibox (g := w.heap.size + 2) _ _ HQ.out.2.1 HQ.out.1)⟩
end Go.Proofs.YtkbghamkalidcaaGreat

namespace Go.Proofs.YtkbghamkalidcaaGreat
open Go.RowKit

theorem sameB_refl (xs : List Nat) : sameB xs xs = true := decide_eq_true rfl
/-- what the reference gives: an integer, or an error -/
instance (n : Int) : Decidable (fitI n) := inferInstanceAs (Decidable (_ ≤ _))
def GotV (w : World) (k : Int) (n : Int) (s : Bool) (p : Option Addr) (l c : Nat) : Prop := (k = 0 → IsI w (.agg #[.bool s, .slice p l c]) n) ∧ (k ≠ 0 → s = false ∧ p = none ∧ l = 0 ∧ c = 0)
def GotI (w w' : World) (e : Ending) (k : Int) (n : Int) : Prop := Below w.heap.size w w' ∧ ∃ s p l c, e = .returned (.agg #[.bool s, .slice p l c, .int .i64 k]) ∧ GotV w' k n s p l c
theorem got_set {w : World} {g : Nat} {T : TypeId} {a b c : Value} (a' b' c' : Value) (h : w.heap[g]? = some (.cells #[a, b, c] T (0, 0))) : (((w.setCell ⟨g, 0, none⟩ a').setCell ⟨g, 1, none⟩ b').setCell ⟨g, 2, none⟩ c').heap[g]? = some (.cells #[a', b', c'] T (0, 0)) := row_set a' b' c' h
theorem at_set32 {q : Nat → Prop} {w : World} {g j : Nat} {T : TypeId} {cs : Array Value} {v : Value} {xs : List Nat} (u : Value) (h : AtP q w v xs) (hbx : w.heap[g]? = some (.cells cs T (0, 0))) (hcs : ∀ (i : Nat) (x : Int), cs[i]? ≠ some (.int .u32 x)) : AtP q (w.setCell ⟨g, j, none⟩ u) v xs := by
  rcases h with h | ⟨b, off, cap, h1, h2, h3, h4, h5, h6⟩
  · exact .inl h
  · refine .inr ⟨b, off, cap, h1, h2, h3, h4, by simpa [World.setCell] using h5, fun i hi => ?_⟩
    have hc := h6 i hi
    by_cases hb : b = g
    · subst hb
      rw [cell_of_row w b (off + i) _ _ _ hbx] at hc
      exact absurd hc (hcs _ _)
    · exact (Only.setCell g j u w).cell hc (by simpa using hb)
theorem isI_three {w : World} {g : Nat} {T : TypeId} {s t : Bool} {p q : Option Addr} {l c m d : Nat} {j k : Int} {n : Int} (h : IsI w (.agg #[.bool t, .slice q m d]) n) (hbx : w.heap[g]? = some (.cells #[.bool s, .slice p l c, .int .i64 j] T (0, 0))) :
    IsI (((w.setCell ⟨g, 0, none⟩ (.bool t)).setCell ⟨g, 1, none⟩ (.slice q m d)).setCell ⟨g, 2, none⟩ (.int .i64 k)) (.agg #[.bool t, .slice q m d]) n := by
  obtain ⟨u, hu1, hu2⟩ := h
  simp only [Value.agg.injEq, Array.mk.injEq, List.cons.injEq, Value.bool.injEq, and_true] at hu1
  obtain ⟨rfl, rfl⟩ := hu1
  have n1 : ∀ (s : Bool) (p : Option Addr) (l c : Nat) (j : Int) (i : Nat) (x : Int), (#[Value.bool s, Value.slice p l c, Value.int .i64 j] : Array Value)[i]? ≠ some (.int .u32 x) := fun s p l c j i x => by
    match i with
    | 0 => simp
    | 1 => simp
    | 2 => simp
    | j + 3 => simp
  have h1 := heap_setCell_same w g 0 _ _ (.bool (negB n)) hbx
  have h2 := heap_setCell_same _ g 1 _ _ (.slice q m d) h1
  exact AtI.mk (at_set32 _ (at_set32 _ (at_set32 _ hu2 hbx (n1 _ _ _ _ _)) h1 (n1 _ _ _ _ _)) h2 (n1 _ _ _ _ _))

set_option maxHeartbeats 1000000 in
/-- two results that are the same -/
theorem got_yes (s t : Bool) (p q : Option Addr) (l c m d : Nat) (k : Int) (n : Int) (w : World) (h1 : GotV w k n s p l c) (h2 : GotV w k n t q m d) :
    Calls Tryz.prog 24 #[.agg #[.bool s, .slice p l c], .int .i64 k, .agg #[.bool t, .slice q m d, .int .i64 k]] w fun e w' => e = .returned (.bool true) ∧ Below w.heap.size w w' := by
  obtain ⟨W, hW⟩ : ∃ W, W = (w.alloc (.cells #[.bool s, .slice p l c] 25)).alloc (.cells #[.bool t, .slice q m d, .int .i64 k] 45) := ⟨_, rfl⟩
  have hb : Below w.heap.size w W := by rw [hW]; exact two_new w _ _
  have hP : W.heap[w.heap.size]? = some (.cells #[.bool s, .slice p l c] 25 (0, 0)) := by rw [hW]; exact heap_alloc2_old w _ _
  have hQ : W.heap[w.heap.size + 1]? = some (.cells #[.bool t, .slice q m d, .int .i64 k] 45 (0, 0)) := by rw [hW]; exact heap_alloc2_new w _ _
  have hsame : Calls Tryz.prog 34 #[.agg #[.bool s, .slice p l c], .agg #[.bool t, .slice q m d]] W fun e w' => e = .returned (.bool true) ∧ Below W.heap.size W w' := by
    by_cases h0 : k = 0
    · have a1 := (h1.1 h0).below hb
      have a2 := (h2.1 h0).below hb
      have e1 := a1
      obtain ⟨u1, x1, y1⟩ := a1
      obtain ⟨u2, x2, y2⟩ := a2
      simp only [Value.agg.injEq, Array.mk.injEq, List.cons.injEq, Value.bool.injEq, and_true] at x1 x2
      obtain ⟨rfl, rfl⟩ := x1
      obtain ⟨rfl, rfl⟩ := x2
      have := ref2Same_any _ _ (negB n) (negB n) _ _ W (AtI.mk y1) (AtI.mk y2)
      rwa [sameB_refl, show (negB n == negB n) = true by simp] at this
    · obtain ⟨rfl, rfl, rfl, rfl⟩ := h1.2 h0
      obtain ⟨rfl, rfl, rfl, rfl⟩ := h2.2 h0
      exact ref2Same_any _ _ false false [] [] W (AtI.mk (.inl ⟨rfl, rfl⟩)) (AtI.mk (.inl ⟨rfl, rfl⟩))
  have HS := Lib.hid hsame
  have k0 := cell_of_row _ _ 0 _ _ (0, 0) hP
  have k1 := cell_of_row _ _ 1 _ _ (0, 0) hP
  have g0 := cell_of_row _ _ 0 _ _ (0, 0) hQ
  have g1 := cell_of_row _ _ 1 _ _ (0, 0) hQ
  have g2 := cell_of_row _ _ 2 _ _ (0, 0) hQ
  simp only [List.getElem?_toArray, List.getElem?_cons_zero, List.getElem?_cons_succ] at k0 k1 g0 g1 g2
  have HB := Lib.hid hb
  clear h1 h2 hb hP hQ hsame
  go_enter Tryz.func24, Tryz.ntmps24
  go_upto_region 1 with fail
  rw [← hW]
  clear hW
  go_wp2_with fail
  refine HS.out.mono ?_
  rintro e w1 ⟨rfl, hb1⟩
  have HB1 := Lib.hid (HB.out.trans (hb1.mono HB.out.size))
  clear hb1 HS
  go_wp2_with fail
  go_ret
  exact ⟨rfl, HB1.out⟩
end Go.Proofs.YtkbghamkalidcaaGreat

namespace Go.Proofs.YtkbghamkalidcaaGreat
open Go.RowKit

theorem at_of {w : World} {s : Bool} {p : Option Addr} {l c : Nat} {xs : List Nat} (h : AtI w (.agg #[.bool s, .slice p l c]) s xs) : At w (.slice p l c) xs := by
  obtain ⟨u, hu1, hu2⟩ := h
  simp only [Value.agg.injEq, Array.mk.injEq, List.cons.injEq, and_true, true_and] at hu1
  rw [hu1]; exact hu2
end Go.Proofs.YtkbghamkalidcaaGreat

namespace Go.Proofs.YtkbghamkalidcaaGreat
open Go.RowKit

theorem GotV.below {w w' : World} {k n : Int} {s : Bool} {p : Option Addr} {l c : Nat} (h : GotV w k n s p l c) (hb : Below w.heap.size w w') : GotV w' k n s p l c := ⟨fun h0 => (h.1 h0).below hb, h.2⟩
theorem below_drew0 (D : World) : Below D.heap.size D D.drew := below_drewN D 1 _
theorem below_drew1 {D w : World} (h : Below D.heap.size D w) : Below D.heap.size D w.drew := h.trans (below_drewN w 1 _)
theorem below_on {D w w' : World} (h : Below D.heap.size D w) (h' : Below w.heap.size w w') : Below D.heap.size D w' := h.trans (h'.mono h.size)
/-- what the self-test does -/
def Awake : Prop := ∀ w : World, Calls Tryz.prog 11 #[] w fun e w' => e = .returned (.bool true) ∧ Below w.heap.size w w'

end Go.Proofs.YtkbghamkalidcaaGreat
