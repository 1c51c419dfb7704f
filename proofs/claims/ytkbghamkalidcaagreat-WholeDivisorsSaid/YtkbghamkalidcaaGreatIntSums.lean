/-
  What plus and times of integers of package whole do. Written by wip/tool/genints.py. Conditions: those that each theorem names.
-/
import Derived.Test.YtkbghamkalidcaaGreatCountAll
namespace Go.Proofs.YtkbghamkalidcaaGreat
open Go.RowKit

theorem below_three2 {w W w2 w4 : World} {x y : Value × Value} {t u : TypeId} (h : Three w W x y t u) (h2 : Below W.drew.heap.size W.drew w2) (h4 : Below w2.heap.size w2 w4) : Below w.heap.size w w4 := by
  have hs := h.below.size
  have h5 : Below w.heap.size W w4 := (below_drewN W 1 _).trans ((h2.trans (h4.mono h2.size)).mono (show w.heap.size ≤ W.drew.heap.size from hs))
  exact h.below.trans h5
theorem sum_same {a b : Int} (hs : negB a = negB b) : (a + b).natAbs = a.natAbs + b.natAbs ∧ sgn (negB a) (a.natAbs + b.natAbs) = a + b := by
  simp only [negB, decide_eq_decide] at hs
  refine ⟨by omega, ?_⟩
  rw [sgn, negB]
  split
  · next h => rw [decide_eq_true_eq] at h; omega
  · next h => rw [decide_eq_true_eq] at h; omega
theorem sum_less {a b : Int} (hs : negB a ≠ negB b) (hl : a.natAbs < b.natAbs) : sgn (negB b) (b.natAbs - a.natAbs) = a + b := by
  simp only [negB, ne_eq, decide_eq_decide] at hs
  rw [sgn, negB]
  split
  · next h => rw [decide_eq_true_eq] at h; omega
  · next h => rw [decide_eq_true_eq] at h; omega
theorem sum_more {a b : Int} (hs : negB a ≠ negB b) (hl : b.natAbs ≤ a.natAbs) : sgn (negB a) (a.natAbs - b.natAbs) = a + b := by
  simp only [negB, ne_eq, decide_eq_decide] at hs
  rw [sgn, negB]
  split
  · next h => rw [decide_eq_true_eq] at h; omega
  · next h => rw [decide_eq_true_eq] at h; omega
theorem sum_fits {a b : Int} (hs : negB a ≠ negB b) (la : fitI a) (lb : fitI b) : fitI (a + b) := by
  simp only [negB, ne_eq, decide_eq_decide] at hs
  by_cases h : a.natAbs < b.natAbs
  · exact Nat.le_trans (Nl.limbs_mono (show (a + b).natAbs ≤ b.natAbs by omega)) lb
  · exact Nat.le_trans (Nl.limbs_mono (show (a + b).natAbs ≤ a.natAbs by omega)) la
theorem prod_sgn (a b : Int) : (a * b).natAbs = a.natAbs * b.natAbs ∧ sgn (negB a != negB b) (a.natAbs * b.natAbs) = a * b := by
  refine ⟨Int.natAbs_mul a b, ?_⟩
  rw [sgn, negB, negB]
  by_cases h1 : a < 0
  · by_cases h2 : b < 0
    · rw [decide_eq_true h1, decide_eq_true h2, if_neg (by decide), Int.natCast_mul, show ((a.natAbs : Nat) : Int) = -a by omega, show ((b.natAbs : Nat) : Int) = -b by omega, Int.neg_mul_neg]
    · rw [decide_eq_true h1, decide_eq_false h2, if_pos (by decide), Int.natCast_mul, show ((a.natAbs : Nat) : Int) = -a by omega, show ((b.natAbs : Nat) : Int) = b by omega, Int.neg_mul, Int.neg_neg]
  · by_cases h2 : b < 0
    · rw [decide_eq_false h1, decide_eq_true h2, if_pos (by decide), Int.natCast_mul, show ((a.natAbs : Nat) : Int) = a by omega, show ((b.natAbs : Nat) : Int) = -b by omega, Int.mul_neg, Int.neg_neg]
    · rw [decide_eq_false h1, decide_eq_false h2, if_neg (by decide), Int.natCast_mul, show ((a.natAbs : Nat) : Int) = a by omega, show ((b.natAbs : Nat) : Int) = b by omega]

theorem three_drew {w W : World} {x y : Value × Value} {t u : TypeId} (h : Three w W x y t u) (j : Nat) : Three w (W.drewN j) x y t u := ⟨h.below.trans (below_drewN W j _), h.size, h.a, h.b, h.r⟩

set_option maxHeartbeats 2000000 in
/-- both have the same sign -/
theorem plus_same (va vb : Value) (a b : Int) (w : World) (ha : IsI w va a) (hb : IsI w vb b) (la : fitI a) (lb : fitI b) (hs : negB a = negB b) (hf : fitI (a + b)) :
    Calls Tryz.prog 109 #[va, vb] w fun e w' => Below w.heap.size w w' ∧ ∃ v, e = .returned v ∧ IsI w' v (a + b) := by
  obtain ⟨p0, c0, rfl, hu⟩ := ha.form
  obtain ⟨p1, c1, rfl, hv⟩ := hb.form
  obtain ⟨l0, hl0⟩ : ∃ l0, l0 = (Nl.limbs a.natAbs).length := ⟨_, rfl⟩
  obtain ⟨l1, hl1⟩ : ∃ l1, l1 = (Nl.limbs b.natAbs).length := ⟨_, rfl⟩
  rw [← hl0] at hu ⊢
  rw [← hl1] at hv ⊢
  obtain ⟨s0, hs0⟩ : ∃ s0, s0 = negB a := ⟨_, rfl⟩
  obtain ⟨s1, hs1⟩ : ∃ s1, s1 = negB b := ⟨_, rfl⟩
  rw [← hs0, ← hs1]
  have hss : s0 = s1 := by rw [hs0, hs1, hs]
  subst hss
  obtain ⟨hab, hsg⟩ := sum_same hs
  rw [← hs0] at hsg
  have HSG := Lib.hid hsg
  obtain ⟨W, hW⟩ : ∃ W, W = ((w.alloc (.cells #[.bool s0, .slice p0 l0 c0] 78)).alloc (.cells #[.bool s0, .slice p1 l1 c1] 78)).alloc (.cells #[.bool false, .slice none 0 0] 78) := ⟨_, rfl⟩
  have h3 := three_mk w W _ _ _ _ _ _ hW
  have bW := h3.below.trans (below_drewN W 1 w.heap.size)
  have HOP := Lib.hid (add_yes _ _ _ _ W.drew (hu.below bW) (hv.below bW) la lb (by rw [← hab]; exact hf))
  have k00 := cell_of_row _ _ 0 _ _ (0, 0) h3.a
  have k01 := cell_of_row _ _ 1 _ _ (0, 0) h3.a
  have k10 := cell_of_row _ _ 0 _ _ (0, 0) h3.b
  have k11 := cell_of_row _ _ 1 _ _ (0, 0) h3.b
  simp only [List.getElem?_toArray, List.getElem?_cons_zero, List.getElem?_cons_succ] at k00 k01 k10 k11
  have hK0 : w.heap.size < W.heap.size := lt_of_block h3.a
  have hK1 : w.heap.size + 1 < W.heap.size := lt_of_block h3.b
  have hK2 : w.heap.size + 2 < W.heap.size := lt_of_block h3.r
  have n1 : ¬ w.heap.size = w.heap.size + 1 + 1 := by omega
  have n2 : ¬ w.heap.size + 1 + 1 = w.heap.size := by omega
  have H3 := Lib.hid h3
  clear ha hb hu hv h3 la lb bW hl0 hl1 hf hs hab hsg hs0 hs1
  cases s0 with
  | true =>
    go_enter Tryz.func109, Tryz.ntmps109
    go_upto_region 1 with fail
    rw [← hW]
    clear hW
    go_wp2_with fail
    go_region_held3 (fun w' => w'.cell? ⟨w.heap.size, 0, none⟩ = some (.bool true) ∧ w'.cell? ⟨w.heap.size, 1, none⟩ = some (.slice p0 l0 c0) ∧ w'.cell? ⟨w.heap.size + 1, 1, none⟩ = some (.slice p1 l1 c1))
      (first
        | go_keep
        | assumption)
      (first
        | (go_at_call 142; refine HOP.out.mono ?_; rintro e w2 ⟨⟨p2, n2, c2, rfl, hat2⟩, hb2⟩; have d00 := (hb2.cell (p := ⟨w.heap.size, 0, none⟩) hK0).trans k00; have d01 := (hb2.cell (p := ⟨w.heap.size, 1, none⟩) hK0).trans k01; have d11 := (hb2.cell (p := ⟨w.heap.size + 1, 1, none⟩) hK1).trans k11)
        | (go_at_call 125; refine (found_yes _ _ _ _).mono ?_; rintro e w3 ⟨rfl, rfl⟩)
        | (go_at_call 124; refine (signed_num _ _ _ _ hat2).mono ?_; rintro e w4 ⟨⟨t, rfl, ht⟩, hb4⟩; have e00 := (hb4.cell (p := ⟨w.heap.size, 0, none⟩) (Nat.lt_of_lt_of_le hK0 hb2.size)).trans d00; have e01 := (hb4.cell (p := ⟨w.heap.size, 1, none⟩) (Nat.lt_of_lt_of_le hK0 hb2.size)).trans d01; have e11 := (hb4.cell (p := ⟨w.heap.size + 1, 1, none⟩) (Nat.lt_of_lt_of_le hK1 hb2.size)).trans d11; have BQ := (hb4.block (w.heap.size + 2) (Nat.lt_of_lt_of_le hK2 hb2.size)).trans ((hb2.block (w.heap.size + 2) hK2).trans H3.out.r); have f0 := frozen_of_row _ _ 0 _ _ BQ; have f1 := frozen_of_row _ _ 1 _ _ BQ; have g0 := cell_of_row _ _ 0 _ _ (0, 0) BQ; have g1 := cell_of_row _ _ 1 _ _ (0, 0) BQ; have HQ := Lib.hid (And.intro BQ (And.intro ht (And.intro hat2 (And.intro hb2 hb4)))); clear BQ ht))
    clear hb2 hb4 hat2
    go_wp2_with fail
    refine bodyPost_ret (v := .agg #[.bool t, .slice p2 n2 c2]) (results_cell_row Tryz.results109 _ _ (w.heap.size + 2) 78 _ (0, 0) _ rfl (ibox_set (g := w.heap.size + 2) _ _ HQ.out.1) Tryz.underlying78 rfl (by kernel_rfl)) rfl ?_
    exact ⟨below_ibox (below_three2 H3.out HQ.out.2.2.2.1 HQ.out.2.2.2.2) (g := w.heap.size + 2) (by omega) _ _, _, rfl, isI_mk (at_ibox (g := w.heap.size + 2) _ _ (HQ.out.2.2.1.below HQ.out.2.2.2.2) HQ.out.1) HQ.out.2.1 HSG.out⟩
  | false =>
    go_enter Tryz.func109, Tryz.ntmps109
    go_upto_region 1 with fail
    rw [← hW]
    clear hW
    go_wp2_with fail
    go_region_held3 (fun w' => w'.cell? ⟨w.heap.size, 0, none⟩ = some (.bool false) ∧ w'.cell? ⟨w.heap.size, 1, none⟩ = some (.slice p0 l0 c0) ∧ w'.cell? ⟨w.heap.size + 1, 1, none⟩ = some (.slice p1 l1 c1))
      (first
        | go_keep
        | assumption)
      (first
        | (go_at_call 142; refine HOP.out.mono ?_; rintro e w2 ⟨⟨p2, n2, c2, rfl, hat2⟩, hb2⟩; have d00 := (hb2.cell (p := ⟨w.heap.size, 0, none⟩) hK0).trans k00; have d01 := (hb2.cell (p := ⟨w.heap.size, 1, none⟩) hK0).trans k01; have d11 := (hb2.cell (p := ⟨w.heap.size + 1, 1, none⟩) hK1).trans k11)
        | (go_at_call 125; refine (found_yes _ _ _ _).mono ?_; rintro e w3 ⟨rfl, rfl⟩)
        | (go_at_call 124; refine (signed_num _ _ _ _ hat2).mono ?_; rintro e w4 ⟨⟨t, rfl, ht⟩, hb4⟩; have e00 := (hb4.cell (p := ⟨w.heap.size, 0, none⟩) (Nat.lt_of_lt_of_le hK0 hb2.size)).trans d00; have e01 := (hb4.cell (p := ⟨w.heap.size, 1, none⟩) (Nat.lt_of_lt_of_le hK0 hb2.size)).trans d01; have e11 := (hb4.cell (p := ⟨w.heap.size + 1, 1, none⟩) (Nat.lt_of_lt_of_le hK1 hb2.size)).trans d11; have BQ := (hb4.block (w.heap.size + 2) (Nat.lt_of_lt_of_le hK2 hb2.size)).trans ((hb2.block (w.heap.size + 2) hK2).trans H3.out.r); have f0 := frozen_of_row _ _ 0 _ _ BQ; have f1 := frozen_of_row _ _ 1 _ _ BQ; have g0 := cell_of_row _ _ 0 _ _ (0, 0) BQ; have g1 := cell_of_row _ _ 1 _ _ (0, 0) BQ; have HQ := Lib.hid (And.intro BQ (And.intro ht (And.intro hat2 (And.intro hb2 hb4)))); clear BQ ht))
    clear hb2 hb4 hat2
    go_wp2_with fail
    refine bodyPost_ret (v := .agg #[.bool t, .slice p2 n2 c2]) (results_cell_row Tryz.results109 _ _ (w.heap.size + 2) 78 _ (0, 0) _ rfl (ibox_set (g := w.heap.size + 2) _ _ HQ.out.1) Tryz.underlying78 rfl (by kernel_rfl)) rfl ?_
    exact ⟨below_ibox (below_three2 H3.out HQ.out.2.2.2.1 HQ.out.2.2.2.2) (g := w.heap.size + 2) (by omega) _ _, _, rfl, isI_mk (at_ibox (g := w.heap.size + 2) _ _ (HQ.out.2.2.1.below HQ.out.2.2.2.2) HQ.out.1) HQ.out.2.1 HSG.out⟩
set_option maxHeartbeats 2000000 in
/-- both have the same sign -/
theorem plus_same_no (va vb : Value) (a b : Int) (w : World) (ha : IsI w va a) (hb : IsI w vb b) (la : fitI a) (lb : fitI b) (hs : negB a = negB b) (hf : ¬ fitI (a + b)) :
    Calls Tryz.prog 109 #[va, vb] w fun e w' => Below w.heap.size w w' ∧ e = fault 2 := by
  obtain ⟨p0, c0, rfl, hu⟩ := ha.form
  obtain ⟨p1, c1, rfl, hv⟩ := hb.form
  obtain ⟨l0, hl0⟩ : ∃ l0, l0 = (Nl.limbs a.natAbs).length := ⟨_, rfl⟩
  obtain ⟨l1, hl1⟩ : ∃ l1, l1 = (Nl.limbs b.natAbs).length := ⟨_, rfl⟩
  rw [← hl0] at hu ⊢
  rw [← hl1] at hv ⊢
  obtain ⟨s0, hs0⟩ : ∃ s0, s0 = negB a := ⟨_, rfl⟩
  obtain ⟨s1, hs1⟩ : ∃ s1, s1 = negB b := ⟨_, rfl⟩
  rw [← hs0, ← hs1]
  have hss : s0 = s1 := by rw [hs0, hs1, hs]
  subst hss
  obtain ⟨hab, hsg⟩ := sum_same hs
  rw [← hs0] at hsg
  have HSG := Lib.hid hsg
  obtain ⟨W, hW⟩ : ∃ W, W = ((w.alloc (.cells #[.bool s0, .slice p0 l0 c0] 78)).alloc (.cells #[.bool s0, .slice p1 l1 c1] 78)).alloc (.cells #[.bool false, .slice none 0 0] 78) := ⟨_, rfl⟩
  have h3 := three_mk w W _ _ _ _ _ _ hW
  have bW := h3.below.trans (below_drewN W 1 w.heap.size)
  have HOP := Lib.hid (add_no _ _ _ _ W.drew (hu.below bW) (hv.below bW) la lb (by rw [← hab]; exact hf))
  have k00 := cell_of_row _ _ 0 _ _ (0, 0) h3.a
  have k01 := cell_of_row _ _ 1 _ _ (0, 0) h3.a
  have k10 := cell_of_row _ _ 0 _ _ (0, 0) h3.b
  have k11 := cell_of_row _ _ 1 _ _ (0, 0) h3.b
  simp only [List.getElem?_toArray, List.getElem?_cons_zero, List.getElem?_cons_succ] at k00 k01 k10 k11
  have hK0 : w.heap.size < W.heap.size := lt_of_block h3.a
  have hK1 : w.heap.size + 1 < W.heap.size := lt_of_block h3.b
  have hK2 : w.heap.size + 2 < W.heap.size := lt_of_block h3.r
  have n1 : ¬ w.heap.size = w.heap.size + 1 + 1 := by omega
  have n2 : ¬ w.heap.size + 1 + 1 = w.heap.size := by omega
  have H3 := Lib.hid h3
  clear ha hb hu hv h3 la lb bW hl0 hl1 hf hs hab hsg hs0 hs1
  cases s0 with
  | true =>
    go_enter Tryz.func109, Tryz.ntmps109
    go_upto_region 1 with fail
    rw [← hW]
    clear hW
    go_wp2_with fail
    refine wp_region_held_drew (S := fun w' => w'.cell? ⟨w.heap.size, 0, none⟩ = some (.bool true) ∧ w'.cell? ⟨w.heap.size, 1, none⟩ = some (.slice p0 l0 c0) ∧ w'.cell? ⟨w.heap.size + 1, 1, none⟩ = some (.slice p1 l1 c1)) (by kernel_rfl) ⟨k00, k01, k11⟩ (fun hHeld => ?_)
    refine wpAnyH_take (i := 0) (v := ?_) rfl (by kernel_rfl) (by kernel_rfl) (by kernel_rfl) (fun _ _ _ h => h) (Or.inl ⟨by rfl, ?_⟩) (by assumption) ?_
    rotate_left
    · intro w hSw; (try dsimp only at hSw); go_simp; (try (with_reducible rfl))
    try simp only [Act.put, List.setIfInBounds_toArray]
    refine wpAnyH_take (i := 1) (v := ?_) rfl (by kernel_rfl) (by kernel_rfl) (by kernel_rfl) (fun _ _ _ h => h) (Or.inl ⟨by rfl, ?_⟩) (by assumption) ?_
    rotate_left
    · intro w hSw; (try dsimp only at hSw); go_simp; (try (with_reducible rfl))
    try simp only [Act.put]
    refine wpAnyH_take (i := 2) (v := ?_) rfl (by kernel_rfl) (by kernel_rfl) (by kernel_rfl) (fun _ _ _ h => h) (Or.inl ⟨by rfl, ?_⟩) (by assumption) ?_
    rotate_left
    · intro w hSw; (try dsimp only at hSw); go_simp; (try (with_reducible rfl))
    try simp only [Act.put]
    refine wpAnyH_take (i := 3) (v := ?_) rfl (by kernel_rfl) (by kernel_rfl) (by kernel_rfl) (fun _ _ _ h => h) (Or.inl ⟨by rfl, ?_⟩) (by assumption) ?_
    rotate_left
    · intro w hSw; (try dsimp only at hSw); go_simp; (try (with_reducible rfl))
    try simp only [Act.put]
    refine wpAnyH_take (i := 4) (v := ?_) rfl (by kernel_rfl) (by kernel_rfl) (by kernel_rfl) (fun _ _ _ h => h) (Or.inl ⟨by rfl, ?_⟩) (by assumption) ?_
    rotate_left
    · intro w hSw; (try dsimp only at hSw); go_simp; (try (with_reducible rfl))
    try simp only [Act.put]
    refine wpAnyH_take (i := 5) (v := ?_) rfl (by kernel_rfl) (by kernel_rfl) (by kernel_rfl) (fun _ _ _ h => h) (Or.inl ⟨by rfl, ?_⟩) (by assumption) ?_
    rotate_left
    · intro w hSw; (try dsimp only at hSw); go_simp; (try (with_reducible rfl))
    try simp only [Act.put]
    refine wpAnyH_ready (rs := [6]) (by kernel_rfl) (by simp) ?_
    refine AllReadyH.cons rfl (fun K hK => ?_) AllReadyH.nil
    go_simp
    go_at_call 142
    refine HOP.out.mono ?_
    rintro e w2 ⟨rfl, hb2⟩
    have d00 := (hb2.cell (p := ⟨w.heap.size, 0, none⟩) hK0).trans k00
    have d01 := (hb2.cell (p := ⟨w.heap.size, 1, none⟩) hK0).trans k01
    have d11 := (hb2.cell (p := ⟨w.heap.size + 1, 1, none⟩) hK1).trans k11
    refine hK.out _ _ ⟨d00, d01, d11⟩ (fun hHeld2 => ?_)
    clear hK K hHeld
    try simp only [Act.put, List.setIfInBounds_toArray, List.set_cons_zero, List.set_cons_succ]
    refine wpAnyH_take (i := 7) (v := ?_) rfl (by kernel_rfl) (by kernel_rfl) (by kernel_rfl) (fun _ _ _ h => h) (Or.inl ⟨by rfl, ?_⟩) (by assumption) ?_
    rotate_left
    · intro w hSw; (try dsimp only at hSw); go_simp; (try (with_reducible rfl))
    try simp only [Act.put, List.setIfInBounds_toArray]
    refine wpAnyH_take (i := 8) (v := ?_) rfl (by kernel_rfl) (by kernel_rfl) (by kernel_rfl) (fun _ _ _ h => h) (Or.inl ⟨by rfl, ?_⟩) (by assumption) ?_
    rotate_left
    · intro w hSw; (try dsimp only at hSw); go_simp; (try (with_reducible rfl))
    try simp only [Act.put]
    refine wpAnyH_ready (rs := [9]) (by kernel_rfl) (by simp) ?_
    refine AllReadyH.cons rfl (fun K hK => ?_) AllReadyH.nil
    go_simp
    go_at_call 125
    refine (found_no _ _ _ 2 (by decide) _).mono ?_
    rintro e w3 ⟨rfl, rfl⟩
    exact ⟨rfl, below_three2 H3.out hb2 (Below.refl _ _), rfl⟩
  | false =>
    go_enter Tryz.func109, Tryz.ntmps109
    go_upto_region 1 with fail
    rw [← hW]
    clear hW
    go_wp2_with fail
    refine wp_region_held_drew (S := fun w' => w'.cell? ⟨w.heap.size, 0, none⟩ = some (.bool false) ∧ w'.cell? ⟨w.heap.size, 1, none⟩ = some (.slice p0 l0 c0) ∧ w'.cell? ⟨w.heap.size + 1, 1, none⟩ = some (.slice p1 l1 c1)) (by kernel_rfl) ⟨k00, k01, k11⟩ (fun hHeld => ?_)
    refine wpAnyH_take (i := 0) (v := ?_) rfl (by kernel_rfl) (by kernel_rfl) (by kernel_rfl) (fun _ _ _ h => h) (Or.inl ⟨by rfl, ?_⟩) (by assumption) ?_
    rotate_left
    · intro w hSw; (try dsimp only at hSw); go_simp; (try (with_reducible rfl))
    try simp only [Act.put, List.setIfInBounds_toArray]
    refine wpAnyH_take (i := 1) (v := ?_) rfl (by kernel_rfl) (by kernel_rfl) (by kernel_rfl) (fun _ _ _ h => h) (Or.inl ⟨by rfl, ?_⟩) (by assumption) ?_
    rotate_left
    · intro w hSw; (try dsimp only at hSw); go_simp; (try (with_reducible rfl))
    try simp only [Act.put]
    refine wpAnyH_take (i := 2) (v := ?_) rfl (by kernel_rfl) (by kernel_rfl) (by kernel_rfl) (fun _ _ _ h => h) (Or.inl ⟨by rfl, ?_⟩) (by assumption) ?_
    rotate_left
    · intro w hSw; (try dsimp only at hSw); go_simp; (try (with_reducible rfl))
    try simp only [Act.put]
    refine wpAnyH_take (i := 3) (v := ?_) rfl (by kernel_rfl) (by kernel_rfl) (by kernel_rfl) (fun _ _ _ h => h) (Or.inl ⟨by rfl, ?_⟩) (by assumption) ?_
    rotate_left
    · intro w hSw; (try dsimp only at hSw); go_simp; (try (with_reducible rfl))
    try simp only [Act.put]
    refine wpAnyH_take (i := 4) (v := ?_) rfl (by kernel_rfl) (by kernel_rfl) (by kernel_rfl) (fun _ _ _ h => h) (Or.inl ⟨by rfl, ?_⟩) (by assumption) ?_
    rotate_left
    · intro w hSw; (try dsimp only at hSw); go_simp; (try (with_reducible rfl))
    try simp only [Act.put]
    refine wpAnyH_take (i := 5) (v := ?_) rfl (by kernel_rfl) (by kernel_rfl) (by kernel_rfl) (fun _ _ _ h => h) (Or.inl ⟨by rfl, ?_⟩) (by assumption) ?_
    rotate_left
    · intro w hSw; (try dsimp only at hSw); go_simp; (try (with_reducible rfl))
    try simp only [Act.put]
    refine wpAnyH_ready (rs := [6]) (by kernel_rfl) (by simp) ?_
    refine AllReadyH.cons rfl (fun K hK => ?_) AllReadyH.nil
    go_simp
    go_at_call 142
    refine HOP.out.mono ?_
    rintro e w2 ⟨rfl, hb2⟩
    have d00 := (hb2.cell (p := ⟨w.heap.size, 0, none⟩) hK0).trans k00
    have d01 := (hb2.cell (p := ⟨w.heap.size, 1, none⟩) hK0).trans k01
    have d11 := (hb2.cell (p := ⟨w.heap.size + 1, 1, none⟩) hK1).trans k11
    refine hK.out _ _ ⟨d00, d01, d11⟩ (fun hHeld2 => ?_)
    clear hK K hHeld
    try simp only [Act.put, List.setIfInBounds_toArray, List.set_cons_zero, List.set_cons_succ]
    refine wpAnyH_take (i := 7) (v := ?_) rfl (by kernel_rfl) (by kernel_rfl) (by kernel_rfl) (fun _ _ _ h => h) (Or.inl ⟨by rfl, ?_⟩) (by assumption) ?_
    rotate_left
    · intro w hSw; (try dsimp only at hSw); go_simp; (try (with_reducible rfl))
    try simp only [Act.put, List.setIfInBounds_toArray]
    refine wpAnyH_take (i := 8) (v := ?_) rfl (by kernel_rfl) (by kernel_rfl) (by kernel_rfl) (fun _ _ _ h => h) (Or.inl ⟨by rfl, ?_⟩) (by assumption) ?_
    rotate_left
    · intro w hSw; (try dsimp only at hSw); go_simp; (try (with_reducible rfl))
    try simp only [Act.put]
    refine wpAnyH_ready (rs := [9]) (by kernel_rfl) (by simp) ?_
    refine AllReadyH.cons rfl (fun K hK => ?_) AllReadyH.nil
    go_simp
    go_at_call 125
    refine (found_no _ _ _ 2 (by decide) _).mono ?_
    rintro e w3 ⟨rfl, rfl⟩
    exact ⟨rfl, below_three2 H3.out hb2 (Below.refl _ _), rfl⟩
set_option maxHeartbeats 2000000 in
/-- different signs -/
theorem plus_less (va vb : Value) (a b : Int) (w : World) (ha : IsI w va a) (hb : IsI w vb b) (la : fitI a) (lb : fitI b) (hs : negB a ≠ negB b) (hl : a.natAbs < b.natAbs) :
    Calls Tryz.prog 109 #[va, vb] w fun e w' => Below w.heap.size w w' ∧ ∃ v, e = .returned v ∧ IsI w' v (a + b) := by
  obtain ⟨p0, c0, rfl, hu⟩ := ha.form
  obtain ⟨p1, c1, rfl, hv⟩ := hb.form
  obtain ⟨l0, hl0⟩ : ∃ l0, l0 = (Nl.limbs a.natAbs).length := ⟨_, rfl⟩
  obtain ⟨l1, hl1⟩ : ∃ l1, l1 = (Nl.limbs b.natAbs).length := ⟨_, rfl⟩
  rw [← hl0] at hu ⊢
  rw [← hl1] at hv ⊢
  obtain ⟨s0, hs0⟩ : ∃ s0, s0 = negB a := ⟨_, rfl⟩
  obtain ⟨s1, hs1⟩ : ∃ s1, s1 = negB b := ⟨_, rfl⟩
  rw [← hs0, ← hs1]
  have hne : s0 = !s1 := by
    rw [← hs0, ← hs1] at hs
    cases s0 <;> cases s1 <;> first | rfl | exact absurd rfl hs
  have hsg := sum_less (by rw [← hs0, ← hs1]; rw [← hs0, ← hs1] at hs; exact hs) hl
  rw [← hs1] at hsg
  have HSG := Lib.hid hsg
  subst hne
  obtain ⟨W, hW⟩ : ∃ W, W = ((w.alloc (.cells #[.bool (!s1), .slice p0 l0 c0] 78)).alloc (.cells #[.bool s1, .slice p1 l1 c1] 78)).alloc (.cells #[.bool false, .slice none 0 0] 78) := ⟨_, rfl⟩
  have h3 := three_mk w W _ _ _ _ _ _ hW
  have bW := h3.below.trans (below_drewN W 1 w.heap.size)
  have HC := Lib.hid (compareNats_any _ _ _ _ W (hu.below (by exact h3.below)) (hv.below h3.below) la lb)
  have HOP := Lib.hid (fun j => sub_yes _ _ _ _ (W.drewN j).drew (hv.below ((h3.below.trans (below_drewN W j w.heap.size)).trans (below_drewN (W.drewN j) 1 w.heap.size))) (hu.below ((h3.below.trans (below_drewN W j w.heap.size)).trans (below_drewN (W.drewN j) 1 w.heap.size))) lb (Nat.le_of_lt hl))
  have hci : cmpI a.natAbs b.natAbs < 0 := by rw [cmpI_lt (by omega)]; omega
  obtain ⟨ci, hcie⟩ : ∃ ci, ci = cmpI a.natAbs b.natAbs := ⟨_, rfl⟩
  rw [← hcie] at hci HC
  have e0 : decide (ci < 0) = true := by first | exact decide_eq_true hci | exact decide_eq_false (by omega)
  have k00 := cell_of_row _ _ 0 _ _ (0, 0) h3.a
  have k01 := cell_of_row _ _ 1 _ _ (0, 0) h3.a
  have k10 := cell_of_row _ _ 0 _ _ (0, 0) h3.b
  have k11 := cell_of_row _ _ 1 _ _ (0, 0) h3.b
  simp only [List.getElem?_toArray, List.getElem?_cons_zero, List.getElem?_cons_succ] at k00 k01 k10 k11
  have hK0 : w.heap.size < W.heap.size := lt_of_block h3.a
  have hK1 : w.heap.size + 1 < W.heap.size := lt_of_block h3.b
  have hK2 : w.heap.size + 2 < W.heap.size := lt_of_block h3.r
  have n1 : ¬ w.heap.size = w.heap.size + 1 + 1 := by omega
  have n2 : ¬ w.heap.size + 1 + 1 = w.heap.size := by omega
  have H3 := Lib.hid h3
  clear ha hb hu hv h3 la lb bW hl0 hl1 hl hs hsg hs0 hs1 hcie
  cases s1 with
  | true =>
    rw [Bool.not_true] at hW k00
    try rw [Bool.not_true]
    go_enter Tryz.func109, Tryz.ntmps109
    go_upto_region 1 with fail
    rw [← hW]
    clear hW
    go_upto_region 3 with fail
    go_wp2_with fail
    refine HC.out.mono ?_
    rintro e w1 ⟨rfl, j, rfl⟩
    have H3 := Lib.hid (three_drew H3.out j)
    go_upto_region 4 with fail
    go_region_held3 (fun w' => w'.cell? ⟨w.heap.size, 1, none⟩ = some (.slice p0 l0 c0) ∧ w'.cell? ⟨w.heap.size + 1, 0, none⟩ = some (.bool true) ∧ w'.cell? ⟨w.heap.size + 1, 1, none⟩ = some (.slice p1 l1 c1))
      (first
        | go_keep
        | assumption)
      (first
        | (go_at_call 143; refine (HOP.out j).mono ?_; rintro e w2 ⟨⟨p2, n2, c2, rfl, hat2⟩, hb2⟩; have d01 := (hb2.cell (p := ⟨w.heap.size, 1, none⟩) hK0).trans k01; have d10 := (hb2.cell (p := ⟨w.heap.size + 1, 0, none⟩) hK1).trans k10; have d11 := (hb2.cell (p := ⟨w.heap.size + 1, 1, none⟩) hK1).trans k11)
        | (go_at_call 125; refine (found_yes _ _ _ _).mono ?_; rintro e w3 ⟨rfl, rfl⟩)
        | (go_at_call 124; refine (signed_num _ _ _ _ hat2).mono ?_; rintro e w4 ⟨⟨t, rfl, ht⟩, hb4⟩; have e01 := (hb4.cell (p := ⟨w.heap.size, 1, none⟩) (Nat.lt_of_lt_of_le hK0 hb2.size)).trans d01; have e10 := (hb4.cell (p := ⟨w.heap.size + 1, 0, none⟩) (Nat.lt_of_lt_of_le hK1 hb2.size)).trans d10; have e11 := (hb4.cell (p := ⟨w.heap.size + 1, 1, none⟩) (Nat.lt_of_lt_of_le hK1 hb2.size)).trans d11; have BQ := (hb4.block (w.heap.size + 2) (Nat.lt_of_lt_of_le hK2 hb2.size)).trans ((hb2.block (w.heap.size + 2) hK2).trans H3.out.r); have f0 := frozen_of_row _ _ 0 _ _ BQ; have f1 := frozen_of_row _ _ 1 _ _ BQ; have g0 := cell_of_row _ _ 0 _ _ (0, 0) BQ; have g1 := cell_of_row _ _ 1 _ _ (0, 0) BQ; have HQ := Lib.hid (And.intro BQ (And.intro ht (And.intro hat2 (And.intro hb2 hb4)))); clear BQ ht))
    clear hb2 hb4 hat2
    go_wp2_with fail
    refine bodyPost_ret (v := .agg #[.bool t, .slice p2 n2 c2]) (results_cell_row Tryz.results109 _ _ (w.heap.size + 2) 78 _ (0, 0) _ rfl (ibox_set (g := w.heap.size + 2) _ _ HQ.out.1) Tryz.underlying78 rfl (by kernel_rfl)) rfl ?_
    exact ⟨below_ibox (below_three2 H3.out HQ.out.2.2.2.1 HQ.out.2.2.2.2) (g := w.heap.size + 2) (by omega) _ _, _, rfl, isI_mk (at_ibox (g := w.heap.size + 2) _ _ (HQ.out.2.2.1.below HQ.out.2.2.2.2) HQ.out.1) HQ.out.2.1 HSG.out⟩
  | false =>
    rw [Bool.not_false] at hW k00
    try rw [Bool.not_false]
    go_enter Tryz.func109, Tryz.ntmps109
    go_upto_region 1 with fail
    rw [← hW]
    clear hW
    go_upto_region 3 with fail
    go_wp2_with fail
    refine HC.out.mono ?_
    rintro e w1 ⟨rfl, j, rfl⟩
    have H3 := Lib.hid (three_drew H3.out j)
    go_upto_region 4 with fail
    go_region_held3 (fun w' => w'.cell? ⟨w.heap.size, 1, none⟩ = some (.slice p0 l0 c0) ∧ w'.cell? ⟨w.heap.size + 1, 0, none⟩ = some (.bool false) ∧ w'.cell? ⟨w.heap.size + 1, 1, none⟩ = some (.slice p1 l1 c1))
      (first
        | go_keep
        | assumption)
      (first
        | (go_at_call 143; refine (HOP.out j).mono ?_; rintro e w2 ⟨⟨p2, n2, c2, rfl, hat2⟩, hb2⟩; have d01 := (hb2.cell (p := ⟨w.heap.size, 1, none⟩) hK0).trans k01; have d10 := (hb2.cell (p := ⟨w.heap.size + 1, 0, none⟩) hK1).trans k10; have d11 := (hb2.cell (p := ⟨w.heap.size + 1, 1, none⟩) hK1).trans k11)
        | (go_at_call 125; refine (found_yes _ _ _ _).mono ?_; rintro e w3 ⟨rfl, rfl⟩)
        | (go_at_call 124; refine (signed_num _ _ _ _ hat2).mono ?_; rintro e w4 ⟨⟨t, rfl, ht⟩, hb4⟩; have e01 := (hb4.cell (p := ⟨w.heap.size, 1, none⟩) (Nat.lt_of_lt_of_le hK0 hb2.size)).trans d01; have e10 := (hb4.cell (p := ⟨w.heap.size + 1, 0, none⟩) (Nat.lt_of_lt_of_le hK1 hb2.size)).trans d10; have e11 := (hb4.cell (p := ⟨w.heap.size + 1, 1, none⟩) (Nat.lt_of_lt_of_le hK1 hb2.size)).trans d11; have BQ := (hb4.block (w.heap.size + 2) (Nat.lt_of_lt_of_le hK2 hb2.size)).trans ((hb2.block (w.heap.size + 2) hK2).trans H3.out.r); have f0 := frozen_of_row _ _ 0 _ _ BQ; have f1 := frozen_of_row _ _ 1 _ _ BQ; have g0 := cell_of_row _ _ 0 _ _ (0, 0) BQ; have g1 := cell_of_row _ _ 1 _ _ (0, 0) BQ; have HQ := Lib.hid (And.intro BQ (And.intro ht (And.intro hat2 (And.intro hb2 hb4)))); clear BQ ht))
    clear hb2 hb4 hat2
    go_wp2_with fail
    refine bodyPost_ret (v := .agg #[.bool t, .slice p2 n2 c2]) (results_cell_row Tryz.results109 _ _ (w.heap.size + 2) 78 _ (0, 0) _ rfl (ibox_set (g := w.heap.size + 2) _ _ HQ.out.1) Tryz.underlying78 rfl (by kernel_rfl)) rfl ?_
    exact ⟨below_ibox (below_three2 H3.out HQ.out.2.2.2.1 HQ.out.2.2.2.2) (g := w.heap.size + 2) (by omega) _ _, _, rfl, isI_mk (at_ibox (g := w.heap.size + 2) _ _ (HQ.out.2.2.1.below HQ.out.2.2.2.2) HQ.out.1) HQ.out.2.1 HSG.out⟩
set_option maxHeartbeats 2000000 in
/-- different signs -/
theorem plus_more (va vb : Value) (a b : Int) (w : World) (ha : IsI w va a) (hb : IsI w vb b) (la : fitI a) (lb : fitI b) (hs : negB a ≠ negB b) (hl : b.natAbs ≤ a.natAbs) :
    Calls Tryz.prog 109 #[va, vb] w fun e w' => Below w.heap.size w w' ∧ ∃ v, e = .returned v ∧ IsI w' v (a + b) := by
  obtain ⟨p0, c0, rfl, hu⟩ := ha.form
  obtain ⟨p1, c1, rfl, hv⟩ := hb.form
  obtain ⟨l0, hl0⟩ : ∃ l0, l0 = (Nl.limbs a.natAbs).length := ⟨_, rfl⟩
  obtain ⟨l1, hl1⟩ : ∃ l1, l1 = (Nl.limbs b.natAbs).length := ⟨_, rfl⟩
  rw [← hl0] at hu ⊢
  rw [← hl1] at hv ⊢
  obtain ⟨s0, hs0⟩ : ∃ s0, s0 = negB a := ⟨_, rfl⟩
  obtain ⟨s1, hs1⟩ : ∃ s1, s1 = negB b := ⟨_, rfl⟩
  rw [← hs0, ← hs1]
  have hne : s0 = !s1 := by
    rw [← hs0, ← hs1] at hs
    cases s0 <;> cases s1 <;> first | rfl | exact absurd rfl hs
  have hsg := sum_more (by rw [← hs0, ← hs1]; rw [← hs0, ← hs1] at hs; exact hs) hl
  rw [← hs0] at hsg
  have HSG := Lib.hid hsg
  subst hne
  obtain ⟨W, hW⟩ : ∃ W, W = ((w.alloc (.cells #[.bool (!s1), .slice p0 l0 c0] 78)).alloc (.cells #[.bool s1, .slice p1 l1 c1] 78)).alloc (.cells #[.bool false, .slice none 0 0] 78) := ⟨_, rfl⟩
  have h3 := three_mk w W _ _ _ _ _ _ hW
  have bW := h3.below.trans (below_drewN W 1 w.heap.size)
  have HC := Lib.hid (compareNats_any _ _ _ _ W (hu.below (by exact h3.below)) (hv.below h3.below) la lb)
  have HOP := Lib.hid (fun j => sub_yes _ _ _ _ (W.drewN j).drew (hu.below ((h3.below.trans (below_drewN W j w.heap.size)).trans (below_drewN (W.drewN j) 1 w.heap.size))) (hv.below ((h3.below.trans (below_drewN W j w.heap.size)).trans (below_drewN (W.drewN j) 1 w.heap.size))) la hl)
  have hci : cmpI a.natAbs b.natAbs ≥ 0 := by rw [cmpI]; split <;> (try split) <;> omega
  obtain ⟨ci, hcie⟩ : ∃ ci, ci = cmpI a.natAbs b.natAbs := ⟨_, rfl⟩
  rw [← hcie] at hci HC
  have e0 : decide (ci < 0) = false := by first | exact decide_eq_true hci | exact decide_eq_false (by omega)
  have k00 := cell_of_row _ _ 0 _ _ (0, 0) h3.a
  have k01 := cell_of_row _ _ 1 _ _ (0, 0) h3.a
  have k10 := cell_of_row _ _ 0 _ _ (0, 0) h3.b
  have k11 := cell_of_row _ _ 1 _ _ (0, 0) h3.b
  simp only [List.getElem?_toArray, List.getElem?_cons_zero, List.getElem?_cons_succ] at k00 k01 k10 k11
  have hK0 : w.heap.size < W.heap.size := lt_of_block h3.a
  have hK1 : w.heap.size + 1 < W.heap.size := lt_of_block h3.b
  have hK2 : w.heap.size + 2 < W.heap.size := lt_of_block h3.r
  have n1 : ¬ w.heap.size = w.heap.size + 1 + 1 := by omega
  have n2 : ¬ w.heap.size + 1 + 1 = w.heap.size := by omega
  have H3 := Lib.hid h3
  clear ha hb hu hv h3 la lb bW hl0 hl1 hl hs hsg hs0 hs1 hcie
  cases s1 with
  | true =>
    rw [Bool.not_true] at hW k00
    try rw [Bool.not_true]
    go_enter Tryz.func109, Tryz.ntmps109
    go_upto_region 1 with fail
    rw [← hW]
    clear hW
    go_upto_region 3 with fail
    go_wp2_with fail
    refine HC.out.mono ?_
    rintro e w1 ⟨rfl, j, rfl⟩
    have H3 := Lib.hid (three_drew H3.out j)
    go_upto_region 5 with fail
    go_region_held3 (fun w' => w'.cell? ⟨w.heap.size, 0, none⟩ = some (.bool false) ∧ w'.cell? ⟨w.heap.size, 1, none⟩ = some (.slice p0 l0 c0) ∧ w'.cell? ⟨w.heap.size + 1, 1, none⟩ = some (.slice p1 l1 c1))
      (first
        | go_keep
        | assumption)
      (first
        | (go_at_call 143; refine (HOP.out j).mono ?_; rintro e w2 ⟨⟨p2, n2, c2, rfl, hat2⟩, hb2⟩; have d00 := (hb2.cell (p := ⟨w.heap.size, 0, none⟩) hK0).trans k00; have d01 := (hb2.cell (p := ⟨w.heap.size, 1, none⟩) hK0).trans k01; have d11 := (hb2.cell (p := ⟨w.heap.size + 1, 1, none⟩) hK1).trans k11)
        | (go_at_call 125; refine (found_yes _ _ _ _).mono ?_; rintro e w3 ⟨rfl, rfl⟩)
        | (go_at_call 124; refine (signed_num _ _ _ _ hat2).mono ?_; rintro e w4 ⟨⟨t, rfl, ht⟩, hb4⟩; have e00 := (hb4.cell (p := ⟨w.heap.size, 0, none⟩) (Nat.lt_of_lt_of_le hK0 hb2.size)).trans d00; have e01 := (hb4.cell (p := ⟨w.heap.size, 1, none⟩) (Nat.lt_of_lt_of_le hK0 hb2.size)).trans d01; have e11 := (hb4.cell (p := ⟨w.heap.size + 1, 1, none⟩) (Nat.lt_of_lt_of_le hK1 hb2.size)).trans d11; have BQ := (hb4.block (w.heap.size + 2) (Nat.lt_of_lt_of_le hK2 hb2.size)).trans ((hb2.block (w.heap.size + 2) hK2).trans H3.out.r); have f0 := frozen_of_row _ _ 0 _ _ BQ; have f1 := frozen_of_row _ _ 1 _ _ BQ; have g0 := cell_of_row _ _ 0 _ _ (0, 0) BQ; have g1 := cell_of_row _ _ 1 _ _ (0, 0) BQ; have HQ := Lib.hid (And.intro BQ (And.intro ht (And.intro hat2 (And.intro hb2 hb4)))); clear BQ ht))
    clear hb2 hb4 hat2
    go_wp2_with fail
    refine bodyPost_ret (v := .agg #[.bool t, .slice p2 n2 c2]) (results_cell_row Tryz.results109 _ _ (w.heap.size + 2) 78 _ (0, 0) _ rfl (ibox_set (g := w.heap.size + 2) _ _ HQ.out.1) Tryz.underlying78 rfl (by kernel_rfl)) rfl ?_
    exact ⟨below_ibox (below_three2 H3.out HQ.out.2.2.2.1 HQ.out.2.2.2.2) (g := w.heap.size + 2) (by omega) _ _, _, rfl, isI_mk (at_ibox (g := w.heap.size + 2) _ _ (HQ.out.2.2.1.below HQ.out.2.2.2.2) HQ.out.1) HQ.out.2.1 HSG.out⟩
  | false =>
    rw [Bool.not_false] at hW k00
    try rw [Bool.not_false]
    go_enter Tryz.func109, Tryz.ntmps109
    go_upto_region 1 with fail
    rw [← hW]
    clear hW
    go_upto_region 3 with fail
    go_wp2_with fail
    refine HC.out.mono ?_
    rintro e w1 ⟨rfl, j, rfl⟩
    have H3 := Lib.hid (three_drew H3.out j)
    go_upto_region 5 with fail
    go_region_held3 (fun w' => w'.cell? ⟨w.heap.size, 0, none⟩ = some (.bool true) ∧ w'.cell? ⟨w.heap.size, 1, none⟩ = some (.slice p0 l0 c0) ∧ w'.cell? ⟨w.heap.size + 1, 1, none⟩ = some (.slice p1 l1 c1))
      (first
        | go_keep
        | assumption)
      (first
        | (go_at_call 143; refine (HOP.out j).mono ?_; rintro e w2 ⟨⟨p2, n2, c2, rfl, hat2⟩, hb2⟩; have d00 := (hb2.cell (p := ⟨w.heap.size, 0, none⟩) hK0).trans k00; have d01 := (hb2.cell (p := ⟨w.heap.size, 1, none⟩) hK0).trans k01; have d11 := (hb2.cell (p := ⟨w.heap.size + 1, 1, none⟩) hK1).trans k11)
        | (go_at_call 125; refine (found_yes _ _ _ _).mono ?_; rintro e w3 ⟨rfl, rfl⟩)
        | (go_at_call 124; refine (signed_num _ _ _ _ hat2).mono ?_; rintro e w4 ⟨⟨t, rfl, ht⟩, hb4⟩; have e00 := (hb4.cell (p := ⟨w.heap.size, 0, none⟩) (Nat.lt_of_lt_of_le hK0 hb2.size)).trans d00; have e01 := (hb4.cell (p := ⟨w.heap.size, 1, none⟩) (Nat.lt_of_lt_of_le hK0 hb2.size)).trans d01; have e11 := (hb4.cell (p := ⟨w.heap.size + 1, 1, none⟩) (Nat.lt_of_lt_of_le hK1 hb2.size)).trans d11; have BQ := (hb4.block (w.heap.size + 2) (Nat.lt_of_lt_of_le hK2 hb2.size)).trans ((hb2.block (w.heap.size + 2) hK2).trans H3.out.r); have f0 := frozen_of_row _ _ 0 _ _ BQ; have f1 := frozen_of_row _ _ 1 _ _ BQ; have g0 := cell_of_row _ _ 0 _ _ (0, 0) BQ; have g1 := cell_of_row _ _ 1 _ _ (0, 0) BQ; have HQ := Lib.hid (And.intro BQ (And.intro ht (And.intro hat2 (And.intro hb2 hb4)))); clear BQ ht))
    clear hb2 hb4 hat2
    go_wp2_with fail
    refine bodyPost_ret (v := .agg #[.bool t, .slice p2 n2 c2]) (results_cell_row Tryz.results109 _ _ (w.heap.size + 2) 78 _ (0, 0) _ rfl (ibox_set (g := w.heap.size + 2) _ _ HQ.out.1) Tryz.underlying78 rfl (by kernel_rfl)) rfl ?_
    exact ⟨below_ibox (below_three2 H3.out HQ.out.2.2.2.1 HQ.out.2.2.2.2) (g := w.heap.size + 2) (by omega) _ _, _, rfl, isI_mk (at_ibox (g := w.heap.size + 2) _ _ (HQ.out.2.2.1.below HQ.out.2.2.2.2) HQ.out.1) HQ.out.2.1 HSG.out⟩
set_option maxHeartbeats 2000000 in
/-- a product -/
theorem times_yes (va vb : Value) (a b : Int) (w : World) (ha : IsI w va a) (hb : IsI w vb b) (la : fitI a) (lb : fitI b) (hf : fitI (a * b)) :
    Calls Tryz.prog 135 #[va, vb] w fun e w' => Below w.heap.size w w' ∧ ∃ v, e = .returned v ∧ IsI w' v (a * b) := by
  obtain ⟨p0, c0, rfl, hu⟩ := ha.form
  obtain ⟨p1, c1, rfl, hv⟩ := hb.form
  obtain ⟨l0, hl0⟩ : ∃ l0, l0 = (Nl.limbs a.natAbs).length := ⟨_, rfl⟩
  obtain ⟨l1, hl1⟩ : ∃ l1, l1 = (Nl.limbs b.natAbs).length := ⟨_, rfl⟩
  rw [← hl0] at hu ⊢
  rw [← hl1] at hv ⊢
  obtain ⟨s0, hs0⟩ : ∃ s0, s0 = negB a := ⟨_, rfl⟩
  obtain ⟨s1, hs1⟩ : ∃ s1, s1 = negB b := ⟨_, rfl⟩
  rw [← hs0, ← hs1]
  obtain ⟨hab, hsg⟩ := prod_sgn a b
  rw [← hs0, ← hs1] at hsg
  have HSG := Lib.hid hsg
  obtain ⟨W, hW⟩ : ∃ W, W = ((w.alloc (.cells #[.bool s0, .slice p0 l0 c0] 78)).alloc (.cells #[.bool s1, .slice p1 l1 c1] 78)).alloc (.cells #[.bool false, .slice none 0 0] 78) := ⟨_, rfl⟩
  have h3 := three_mk w W _ _ _ _ _ _ hW
  have bW := h3.below.trans (below_drewN W 1 w.heap.size)
  have HOP := Lib.hid (mul_yes _ _ _ _ W.drew (hu.below bW) (hv.below bW) la lb (by rw [← hab]; exact hf))
  have k00 := cell_of_row _ _ 0 _ _ (0, 0) h3.a
  have k01 := cell_of_row _ _ 1 _ _ (0, 0) h3.a
  have k10 := cell_of_row _ _ 0 _ _ (0, 0) h3.b
  have k11 := cell_of_row _ _ 1 _ _ (0, 0) h3.b
  simp only [List.getElem?_toArray, List.getElem?_cons_zero, List.getElem?_cons_succ] at k00 k01 k10 k11
  have hK0 : w.heap.size < W.heap.size := lt_of_block h3.a
  have hK1 : w.heap.size + 1 < W.heap.size := lt_of_block h3.b
  have hK2 : w.heap.size + 2 < W.heap.size := lt_of_block h3.r
  have n1 : ¬ w.heap.size = w.heap.size + 1 + 1 := by omega
  have n2 : ¬ w.heap.size + 1 + 1 = w.heap.size := by omega
  have H3 := Lib.hid h3
  clear ha hb hu hv h3 la lb bW hl0 hl1 hf hab hsg hs0 hs1
  go_enter Tryz.func135, Tryz.ntmps135
  go_upto_region 1 with fail
  rw [← hW]
  clear hW
  go_wp2_with fail
  go_region_held3 (fun w' => w'.cell? ⟨w.heap.size, 0, none⟩ = some (.bool s0) ∧ w'.cell? ⟨w.heap.size, 1, none⟩ = some (.slice p0 l0 c0) ∧ w'.cell? ⟨w.heap.size + 1, 0, none⟩ = some (.bool s1) ∧ w'.cell? ⟨w.heap.size + 1, 1, none⟩ = some (.slice p1 l1 c1))
    (first
      | go_keep
      | assumption)
    (first
      | (go_at_call 179; refine HOP.out.mono ?_; rintro e w2 ⟨⟨p2, n2, c2, rfl, hat2⟩, hb2⟩; have d00 := (hb2.cell (p := ⟨w.heap.size, 0, none⟩) hK0).trans k00; have d01 := (hb2.cell (p := ⟨w.heap.size, 1, none⟩) hK0).trans k01; have d10 := (hb2.cell (p := ⟨w.heap.size + 1, 0, none⟩) hK1).trans k10; have d11 := (hb2.cell (p := ⟨w.heap.size + 1, 1, none⟩) hK1).trans k11)
      | (go_at_call 125; refine (found_yes _ _ _ _).mono ?_; rintro e w3 ⟨rfl, rfl⟩)
      | (go_at_call 124; refine (signed_num _ _ _ _ hat2).mono ?_; rintro e w4 ⟨⟨t, rfl, ht⟩, hb4⟩; have e00 := (hb4.cell (p := ⟨w.heap.size, 0, none⟩) (Nat.lt_of_lt_of_le hK0 hb2.size)).trans d00; have e01 := (hb4.cell (p := ⟨w.heap.size, 1, none⟩) (Nat.lt_of_lt_of_le hK0 hb2.size)).trans d01; have e10 := (hb4.cell (p := ⟨w.heap.size + 1, 0, none⟩) (Nat.lt_of_lt_of_le hK1 hb2.size)).trans d10; have e11 := (hb4.cell (p := ⟨w.heap.size + 1, 1, none⟩) (Nat.lt_of_lt_of_le hK1 hb2.size)).trans d11; have BQ := (hb4.block (w.heap.size + 2) (Nat.lt_of_lt_of_le hK2 hb2.size)).trans ((hb2.block (w.heap.size + 2) hK2).trans H3.out.r); have f0 := frozen_of_row _ _ 0 _ _ BQ; have f1 := frozen_of_row _ _ 1 _ _ BQ; have g0 := cell_of_row _ _ 0 _ _ (0, 0) BQ; have g1 := cell_of_row _ _ 1 _ _ (0, 0) BQ; have HQ := Lib.hid (And.intro BQ (And.intro ht (And.intro hat2 (And.intro hb2 hb4)))); clear BQ ht))
  clear hb2 hb4 hat2
  go_wp2_with fail
  refine bodyPost_ret (v := .agg #[.bool t, .slice p2 n2 c2]) (results_cell_row Tryz.results135 _ _ (w.heap.size + 2) 78 _ (0, 0) _ rfl (ibox_set (g := w.heap.size + 2) _ _ HQ.out.1) Tryz.underlying78 rfl (by kernel_rfl)) rfl ?_
  exact ⟨below_ibox (below_three2 H3.out HQ.out.2.2.2.1 HQ.out.2.2.2.2) (g := w.heap.size + 2) (by omega) _ _, _, rfl, isI_mk (at_ibox (g := w.heap.size + 2) _ _ (HQ.out.2.2.1.below HQ.out.2.2.2.2) HQ.out.1) HQ.out.2.1 HSG.out⟩
set_option maxHeartbeats 2000000 in
/-- a product -/
theorem times_no (va vb : Value) (a b : Int) (w : World) (ha : IsI w va a) (hb : IsI w vb b) (la : fitI a) (lb : fitI b) (hf : ¬ fitI (a * b)) :
    Calls Tryz.prog 135 #[va, vb] w fun e w' => Below w.heap.size w w' ∧ e = fault 2 := by
  obtain ⟨p0, c0, rfl, hu⟩ := ha.form
  obtain ⟨p1, c1, rfl, hv⟩ := hb.form
  obtain ⟨l0, hl0⟩ : ∃ l0, l0 = (Nl.limbs a.natAbs).length := ⟨_, rfl⟩
  obtain ⟨l1, hl1⟩ : ∃ l1, l1 = (Nl.limbs b.natAbs).length := ⟨_, rfl⟩
  rw [← hl0] at hu ⊢
  rw [← hl1] at hv ⊢
  obtain ⟨s0, hs0⟩ : ∃ s0, s0 = negB a := ⟨_, rfl⟩
  obtain ⟨s1, hs1⟩ : ∃ s1, s1 = negB b := ⟨_, rfl⟩
  rw [← hs0, ← hs1]
  obtain ⟨hab, hsg⟩ := prod_sgn a b
  rw [← hs0, ← hs1] at hsg
  have HSG := Lib.hid hsg
  obtain ⟨W, hW⟩ : ∃ W, W = ((w.alloc (.cells #[.bool s0, .slice p0 l0 c0] 78)).alloc (.cells #[.bool s1, .slice p1 l1 c1] 78)).alloc (.cells #[.bool false, .slice none 0 0] 78) := ⟨_, rfl⟩
  have h3 := three_mk w W _ _ _ _ _ _ hW
  have bW := h3.below.trans (below_drewN W 1 w.heap.size)
  have HOP := Lib.hid (mul_no _ _ _ _ W.drew (hu.below bW) (hv.below bW) la lb (by rw [← hab]; exact hf))
  have k00 := cell_of_row _ _ 0 _ _ (0, 0) h3.a
  have k01 := cell_of_row _ _ 1 _ _ (0, 0) h3.a
  have k10 := cell_of_row _ _ 0 _ _ (0, 0) h3.b
  have k11 := cell_of_row _ _ 1 _ _ (0, 0) h3.b
  simp only [List.getElem?_toArray, List.getElem?_cons_zero, List.getElem?_cons_succ] at k00 k01 k10 k11
  have hK0 : w.heap.size < W.heap.size := lt_of_block h3.a
  have hK1 : w.heap.size + 1 < W.heap.size := lt_of_block h3.b
  have hK2 : w.heap.size + 2 < W.heap.size := lt_of_block h3.r
  have n1 : ¬ w.heap.size = w.heap.size + 1 + 1 := by omega
  have n2 : ¬ w.heap.size + 1 + 1 = w.heap.size := by omega
  have H3 := Lib.hid h3
  clear ha hb hu hv h3 la lb bW hl0 hl1 hf hab hsg hs0 hs1
  go_enter Tryz.func135, Tryz.ntmps135
  go_upto_region 1 with fail
  rw [← hW]
  clear hW
  go_wp2_with fail
  refine wp_region_held_drew (S := fun w' => w'.cell? ⟨w.heap.size, 0, none⟩ = some (.bool s0) ∧ w'.cell? ⟨w.heap.size, 1, none⟩ = some (.slice p0 l0 c0) ∧ w'.cell? ⟨w.heap.size + 1, 0, none⟩ = some (.bool s1) ∧ w'.cell? ⟨w.heap.size + 1, 1, none⟩ = some (.slice p1 l1 c1)) (by kernel_rfl) ⟨k00, k01, k10, k11⟩ (fun hHeld => ?_)
  refine wpAnyH_take (i := 0) (v := ?_) rfl (by kernel_rfl) (by kernel_rfl) (by kernel_rfl) (fun _ _ _ h => h) (Or.inl ⟨by rfl, ?_⟩) (by assumption) ?_
  rotate_left
  · intro w hSw; (try dsimp only at hSw); go_simp; (try (with_reducible rfl))
  try simp only [Act.put, List.setIfInBounds_toArray]
  refine wpAnyH_take (i := 1) (v := ?_) rfl (by kernel_rfl) (by kernel_rfl) (by kernel_rfl) (fun _ _ _ h => h) (Or.inl ⟨by rfl, ?_⟩) (by assumption) ?_
  rotate_left
  · intro w hSw; (try dsimp only at hSw); go_simp; (try (with_reducible rfl))
  try simp only [Act.put]
  refine wpAnyH_take (i := 2) (v := ?_) rfl (by kernel_rfl) (by kernel_rfl) (by kernel_rfl) (fun _ _ _ h => h) (Or.inl ⟨by rfl, ?_⟩) (by assumption) ?_
  rotate_left
  · intro w hSw; (try dsimp only at hSw); go_simp; (try (with_reducible rfl))
  try simp only [Act.put]
  refine wpAnyH_take (i := 3) (v := ?_) rfl (by kernel_rfl) (by kernel_rfl) (by kernel_rfl) (fun _ _ _ h => h) (Or.inl ⟨by rfl, ?_⟩) (by assumption) ?_
  rotate_left
  · intro w hSw; (try dsimp only at hSw); go_simp; (try (with_reducible rfl))
  try simp only [Act.put]
  refine wpAnyH_take (i := 4) (v := ?_) rfl (by kernel_rfl) (by kernel_rfl) (by kernel_rfl) (fun _ _ _ h => h) (Or.inl ⟨by rfl, ?_⟩) (by assumption) ?_
  rotate_left
  · intro w hSw; (try dsimp only at hSw); go_simp; (try (with_reducible rfl))
  try simp only [Act.put]
  refine wpAnyH_take (i := 5) (v := ?_) rfl (by kernel_rfl) (by kernel_rfl) (by kernel_rfl) (fun _ _ _ h => h) (Or.inl ⟨by rfl, ?_⟩) (by assumption) ?_
  rotate_left
  · intro w hSw; (try dsimp only at hSw); go_simp; (try (with_reducible rfl))
  try simp only [Act.put]
  refine wpAnyH_take (i := 6) (v := ?_) rfl (by kernel_rfl) (by kernel_rfl) (by kernel_rfl) (fun _ _ _ h => h) (Or.inl ⟨by rfl, ?_⟩) (by assumption) ?_
  rotate_left
  · intro w hSw; (try dsimp only at hSw); go_simp; (try (with_reducible rfl))
  try simp only [Act.put]
  refine wpAnyH_take (i := 7) (v := ?_) rfl (by kernel_rfl) (by kernel_rfl) (by kernel_rfl) (fun _ _ _ h => h) (Or.inl ⟨by rfl, ?_⟩) (by assumption) ?_
  rotate_left
  · intro w hSw; (try dsimp only at hSw); go_simp; (try (with_reducible rfl))
  try simp only [Act.put]
  refine wpAnyH_take (i := 8) (v := ?_) rfl (by kernel_rfl) (by kernel_rfl) (by kernel_rfl) (fun _ _ _ h => h) (Or.inl ⟨by rfl, ?_⟩) (by assumption) ?_
  rotate_left
  · intro w hSw; (try dsimp only at hSw); go_simp; (try (with_reducible rfl))
  try simp only [Act.put]
  refine wpAnyH_ready (rs := [9]) (by kernel_rfl) (by simp) ?_
  refine AllReadyH.cons rfl (fun K hK => ?_) AllReadyH.nil
  go_simp
  go_at_call 179
  refine HOP.out.mono ?_
  rintro e w2 ⟨rfl, hb2⟩
  have d00 := (hb2.cell (p := ⟨w.heap.size, 0, none⟩) hK0).trans k00
  have d01 := (hb2.cell (p := ⟨w.heap.size, 1, none⟩) hK0).trans k01
  have d10 := (hb2.cell (p := ⟨w.heap.size + 1, 0, none⟩) hK1).trans k10
  have d11 := (hb2.cell (p := ⟨w.heap.size + 1, 1, none⟩) hK1).trans k11
  refine hK.out _ _ ⟨d00, d01, d10, d11⟩ (fun hHeld2 => ?_)
  clear hK K hHeld
  try simp only [Act.put, List.setIfInBounds_toArray, List.set_cons_zero, List.set_cons_succ]
  refine wpAnyH_take (i := 10) (v := ?_) rfl (by kernel_rfl) (by kernel_rfl) (by kernel_rfl) (fun _ _ _ h => h) (Or.inl ⟨by rfl, ?_⟩) (by assumption) ?_
  rotate_left
  · intro w hSw; (try dsimp only at hSw); go_simp; (try (with_reducible rfl))
  try simp only [Act.put, List.setIfInBounds_toArray]
  refine wpAnyH_take (i := 11) (v := ?_) rfl (by kernel_rfl) (by kernel_rfl) (by kernel_rfl) (fun _ _ _ h => h) (Or.inl ⟨by rfl, ?_⟩) (by assumption) ?_
  rotate_left
  · intro w hSw; (try dsimp only at hSw); go_simp; (try (with_reducible rfl))
  try simp only [Act.put]
  refine wpAnyH_ready (rs := [12]) (by kernel_rfl) (by simp) ?_
  refine AllReadyH.cons rfl (fun K hK => ?_) AllReadyH.nil
  go_simp
  go_at_call 125
  refine (found_no _ _ _ 2 (by decide) _).mono ?_
  rintro e w3 ⟨rfl, rfl⟩
  exact ⟨rfl, below_three2 H3.out hb2 (Below.refl _ _), rfl⟩
end Go.Proofs.YtkbghamkalidcaaGreat
