/-
  What the reference's Plus, Minus and Times of integers do. Written by wip/tool/genref2.py. Conditions: those that each theorem names.
-/
import Derived.Test.YtodjncohhgknlaaGreatRefMulAll
namespace Go.Proofs.YtodjncohhgknlaaGreat
open Go.RowKit

/-- what the reference may be given: numbers of any size that it can hold -/
def lowI (n : Int) : Prop := (Nl.limbs n.natAbs).length ≤ 200000
theorem isI_box {w : World} {g : Nat} {T : TypeId} {s t : Bool} {p q : Option Addr} {l c m d : Nat} {n : Int} (h : IsI w (.agg #[.bool t, .slice q m d]) n) (hbx : w.heap[g]? = some (.cells #[.bool s, .slice p l c] T (0, 0))) :
    IsI ((w.setCell ⟨g, 0, none⟩ (.bool t)).setCell ⟨g, 1, none⟩ (.slice q m d)) (.agg #[.bool t, .slice q m d]) n := by
  obtain ⟨u, hu1, hu2⟩ := h
  simp only [Value.agg.injEq, Array.mk.injEq, List.cons.injEq, Value.bool.injEq, and_true] at hu1
  obtain ⟨rfl, rfl⟩ := hu1
  exact AtI.mk (at_ibox _ _ hu2 hbx)
def GiveR (w w' : World) (e : Ending) (m : Nat) : Prop := (∃ p n c, e = .returned (.slice p n c) ∧ At w' (.slice p n c) (Nl.limbs m)) ∧ Below w.heap.size w w'
theorem giveR_of {w w' : World} {e : Ending} {m : Nat} (h : (∃ v, e = .returned v ∧ IsN w' v m) ∧ Below w.heap.size w w') : GiveR w w' e m := by
  obtain ⟨⟨v, rfl, hv⟩, hb⟩ := h
  obtain ⟨p, c, rfl, -⟩ := AtP.form hv
  exact ⟨⟨p, _, c, rfl, hv⟩, hb⟩
theorem addR (va vb : Value) (m n : Nat) (w : World) (ha : At w va (Nl.limbs m)) (hb : At w vb (Nl.limbs n)) (hm : (Nl.limbs m).length ≤ 200000) (hn : (Nl.limbs n).length ≤ 200000) : Calls Tryz.prog 85 #[va, vb] w fun e w' => GiveR w w' e (m + n) := by
  have h := refAdd_any va vb _ _ w ha hb (Nl.limbs_small m) (Nl.limbs_small n) (Nat.le_trans hm (by decide)) (Nat.le_trans hn (by decide))
  rw [Nl.val_limbs, Nl.val_limbs] at h
  exact h.mono fun _ _ => giveR_of
theorem subR (va vb : Value) (m n : Nat) (w : World) (ha : At w va (Nl.limbs m)) (hb : At w vb (Nl.limbs n)) (hm : (Nl.limbs m).length ≤ 200000) (hle : n ≤ m) : Calls Tryz.prog 157 #[va, vb] w fun e w' => GiveR w w' e (m - n) := by
  have h := refSub_any va vb _ _ w ha hb (Nl.limbs_small m) (Nl.limbs_small n) (Nat.le_trans hm (by decide)) (Nl.limbs_mono hle) (by rw [Nl.val_limbs, Nl.val_limbs]; exact hle)
  rw [Nl.val_limbs, Nl.val_limbs] at h
  exact h.mono fun _ _ => giveR_of
theorem mulR (va vb : Value) (m n : Nat) (w : World) (ha : At w va (Nl.limbs m)) (hb : At w vb (Nl.limbs n)) (hm : (Nl.limbs m).length ≤ 200000) (hn : (Nl.limbs n).length ≤ 200000) : Calls Tryz.prog 158 #[va, vb] w fun e w' => GiveR w w' e (m * n) := by
  have h := refMul_any va vb _ _ w ha hb (Nl.limbs_small m) (Nl.limbs_small n) (Nat.le_trans hm (by decide)) (Nat.le_trans hn (by decide))
  rw [Nl.val_limbs, Nl.val_limbs] at h
  exact h.mono fun _ _ => giveR_of

set_option maxHeartbeats 2000000 in
/-- both have the same sign -/
theorem rplus_same (va vb : Value) (a b : Int) (w : World) (ha : IsI w va a) (hb : IsI w vb b) (la : lowI a) (lb : lowI b) (hs : negB a = negB b) :
    Calls Tryz.prog 98 #[va, vb] w fun e w' => Below w.heap.size w w' ∧ ∃ v, e = .returned v ∧ IsI w' v (a + b) := by
  obtain ⟨p0, c0, rfl, hu⟩ := ha.form
  obtain ⟨p1, c1, rfl, hv⟩ := hb.form
  obtain ⟨l0, hl0⟩ : ∃ l0, l0 = (Nl.limbs a.natAbs).length := ⟨_, rfl⟩
  obtain ⟨l1, hl1⟩ : ∃ l1, l1 = (Nl.limbs b.natAbs).length := ⟨_, rfl⟩
  rw [← hl0] at hu ⊢
  rw [← hl1] at hv ⊢
  obtain ⟨s0, hs0⟩ : ∃ s0, s0 = negB a := ⟨_, rfl⟩
  obtain ⟨s1, hs1⟩ : ∃ s1, s1 = negB b := ⟨_, rfl⟩
  rw [← hs0, ← hs1]
  have hss : s0 = s1 := by rw [hs0, hs1, hs]
  subst hss
  obtain ⟨hab, hsg⟩ := sum_same hs
  rw [← hs0] at hsg
  have HSG := Lib.hid hsg
  have HLM := Lib.hid (show (Nl.limbs (a.natAbs + b.natAbs)).length ≤ 1000000 from Nat.le_trans (Nl.len_add _ _) (by have h1 := la; have h2 := lb; unfold lowI at h1 h2; omega))
  obtain ⟨W, hW⟩ : ∃ W, W = ((w.alloc (.cells #[.bool s0, .slice p0 l0 c0] 25)).alloc (.cells #[.bool s0, .slice p1 l1 c1] 25)).alloc (.cells #[.bool false, .slice none 0 0] 25) := ⟨_, rfl⟩
  have h3 := three_mk w W _ _ _ _ _ _ hW
  have bW := h3.below.trans (below_drewN W 1 w.heap.size)
  have HOP := Lib.hid (addR _ _ _ _ W.drew (hu.below bW) (hv.below bW) la lb)
  have k00 := cell_of_row _ _ 0 _ _ (0, 0) h3.a
  have k01 := cell_of_row _ _ 1 _ _ (0, 0) h3.a
  have k10 := cell_of_row _ _ 0 _ _ (0, 0) h3.b
  have k11 := cell_of_row _ _ 1 _ _ (0, 0) h3.b
  simp only [List.getElem?_toArray, List.getElem?_cons_zero, List.getElem?_cons_succ] at k00 k01 k10 k11
  have hK0 : w.heap.size < W.heap.size := lt_of_block h3.a
  have hK1 : w.heap.size + 1 < W.heap.size := lt_of_block h3.b
  have hK2 : w.heap.size + 2 < W.heap.size := lt_of_block h3.r
  have n1 : ¬ w.heap.size = w.heap.size + 1 + 1 := by omega
  have n2 : ¬ w.heap.size + 1 + 1 = w.heap.size := by omega
  have H3 := Lib.hid h3
  clear ha hb hu hv h3 la lb bW hl0 hl1 hs hab hsg hs0 hs1
  cases s0 with
  | true =>
    go_enter Tryz.func98, Tryz.ntmps98
    go_upto_region 1 with fail
    rw [← hW]
    clear hW
    go_wp2_with fail
    go_region_held3 (fun w' => w'.cell? ⟨w.heap.size, 0, none⟩ = some (.bool true) ∧ w'.cell? ⟨w.heap.size, 1, none⟩ = some (.slice p0 l0 c0) ∧ w'.cell? ⟨w.heap.size + 1, 1, none⟩ = some (.slice p1 l1 c1))
      (first
        | go_keep
        | assumption)
      (first
        | (go_at_call 85; refine HOP.out.mono ?_; rintro e w2 ⟨⟨p2, n2, c2, rfl, hat2⟩, hb2⟩; have d00 := (hb2.cell (p := ⟨w.heap.size, 0, none⟩) hK0).trans k00; have d01 := (hb2.cell (p := ⟨w.heap.size, 1, none⟩) hK0).trans k01; have d11 := (hb2.cell (p := ⟨w.heap.size + 1, 1, none⟩) hK1).trans k11)
        | (go_at_call 84; refine (ref2Of_any _ _ _ _ hat2 HLM.out).mono ?_; rintro e w4 ⟨⟨t, p4, n4, c4, rfl, hi4⟩, hb4⟩; have e00 := (hb4.cell (p := ⟨w.heap.size, 0, none⟩) (Nat.lt_of_lt_of_le hK0 hb2.size)).trans d00; have e01 := (hb4.cell (p := ⟨w.heap.size, 1, none⟩) (Nat.lt_of_lt_of_le hK0 hb2.size)).trans d01; have e11 := (hb4.cell (p := ⟨w.heap.size + 1, 1, none⟩) (Nat.lt_of_lt_of_le hK1 hb2.size)).trans d11; have BQ := (hb4.block (w.heap.size + 2) (Nat.lt_of_lt_of_le hK2 hb2.size)).trans ((hb2.block (w.heap.size + 2) hK2).trans H3.out.r); have f0 := frozen_of_row _ _ 0 _ _ BQ; have f1 := frozen_of_row _ _ 1 _ _ BQ; have g0 := cell_of_row _ _ 0 _ _ (0, 0) BQ; have g1 := cell_of_row _ _ 1 _ _ (0, 0) BQ; have HQ := Lib.hid (And.intro BQ (And.intro hi4 (And.intro hb2 hb4))); clear BQ))
    clear hb2 hb4 hat2 hi4
    go_wp2_with fail
    refine bodyPost_ret (v := .agg #[.bool t, .slice p4 n4 c4]) (results_cell_row Tryz.results98 _ _ (w.heap.size + 2) 25 _ (0, 0) _ rfl (ibox_set (g := w.heap.size + 2) _ _ HQ.out.1) Tryz.underlying25 rfl (by kernel_rfl)) rfl ?_
    refine ⟨below_ibox (below_three2 H3.out HQ.out.2.2.1 HQ.out.2.2.2) (g := w.heap.size + 2) (by omega) _ _, _, rfl, ?_⟩
    have hi := HQ.out.2.1
    have hsgo := HSG.out
    try rw [Bool.not_true] at hsgo
    try rw [Bool.not_false] at hsgo
    rw [hsgo] at hi
    exact isI_box (g := w.heap.size + 2) hi HQ.out.1
  | false =>
    go_enter Tryz.func98, Tryz.ntmps98
    go_upto_region 1 with fail
    rw [← hW]
    clear hW
    go_wp2_with fail
    go_region_held3 (fun w' => w'.cell? ⟨w.heap.size, 0, none⟩ = some (.bool false) ∧ w'.cell? ⟨w.heap.size, 1, none⟩ = some (.slice p0 l0 c0) ∧ w'.cell? ⟨w.heap.size + 1, 1, none⟩ = some (.slice p1 l1 c1))
      (first
        | go_keep
        | assumption)
      (first
        | (go_at_call 85; refine HOP.out.mono ?_; rintro e w2 ⟨⟨p2, n2, c2, rfl, hat2⟩, hb2⟩; have d00 := (hb2.cell (p := ⟨w.heap.size, 0, none⟩) hK0).trans k00; have d01 := (hb2.cell (p := ⟨w.heap.size, 1, none⟩) hK0).trans k01; have d11 := (hb2.cell (p := ⟨w.heap.size + 1, 1, none⟩) hK1).trans k11)
        | (go_at_call 84; refine (ref2Of_any _ _ _ _ hat2 HLM.out).mono ?_; rintro e w4 ⟨⟨t, p4, n4, c4, rfl, hi4⟩, hb4⟩; have e00 := (hb4.cell (p := ⟨w.heap.size, 0, none⟩) (Nat.lt_of_lt_of_le hK0 hb2.size)).trans d00; have e01 := (hb4.cell (p := ⟨w.heap.size, 1, none⟩) (Nat.lt_of_lt_of_le hK0 hb2.size)).trans d01; have e11 := (hb4.cell (p := ⟨w.heap.size + 1, 1, none⟩) (Nat.lt_of_lt_of_le hK1 hb2.size)).trans d11; have BQ := (hb4.block (w.heap.size + 2) (Nat.lt_of_lt_of_le hK2 hb2.size)).trans ((hb2.block (w.heap.size + 2) hK2).trans H3.out.r); have f0 := frozen_of_row _ _ 0 _ _ BQ; have f1 := frozen_of_row _ _ 1 _ _ BQ; have g0 := cell_of_row _ _ 0 _ _ (0, 0) BQ; have g1 := cell_of_row _ _ 1 _ _ (0, 0) BQ; have HQ := Lib.hid (And.intro BQ (And.intro hi4 (And.intro hb2 hb4))); clear BQ))
    clear hb2 hb4 hat2 hi4
    go_wp2_with fail
    refine bodyPost_ret (v := .agg #[.bool t, .slice p4 n4 c4]) (results_cell_row Tryz.results98 _ _ (w.heap.size + 2) 25 _ (0, 0) _ rfl (ibox_set (g := w.heap.size + 2) _ _ HQ.out.1) Tryz.underlying25 rfl (by kernel_rfl)) rfl ?_
    refine ⟨below_ibox (below_three2 H3.out HQ.out.2.2.1 HQ.out.2.2.2) (g := w.heap.size + 2) (by omega) _ _, _, rfl, ?_⟩
    have hi := HQ.out.2.1
    have hsgo := HSG.out
    try rw [Bool.not_true] at hsgo
    try rw [Bool.not_false] at hsgo
    rw [hsgo] at hi
    exact isI_box (g := w.heap.size + 2) hi HQ.out.1
set_option maxHeartbeats 2000000 in
/-- different signs -/
theorem rplus_less (va vb : Value) (a b : Int) (w : World) (ha : IsI w va a) (hb : IsI w vb b) (la : lowI a) (lb : lowI b) (hs : negB a ≠ negB b) (hl : a.natAbs < b.natAbs) :
    Calls Tryz.prog 98 #[va, vb] w fun e w' => Below w.heap.size w w' ∧ ∃ v, e = .returned v ∧ IsI w' v (a + b) := by
  obtain ⟨p0, c0, rfl, hu⟩ := ha.form
  obtain ⟨p1, c1, rfl, hv⟩ := hb.form
  obtain ⟨l0, hl0⟩ : ∃ l0, l0 = (Nl.limbs a.natAbs).length := ⟨_, rfl⟩
  obtain ⟨l1, hl1⟩ : ∃ l1, l1 = (Nl.limbs b.natAbs).length := ⟨_, rfl⟩
  rw [← hl0] at hu ⊢
  rw [← hl1] at hv ⊢
  obtain ⟨s0, hs0⟩ : ∃ s0, s0 = negB a := ⟨_, rfl⟩
  obtain ⟨s1, hs1⟩ : ∃ s1, s1 = negB b := ⟨_, rfl⟩
  rw [← hs0, ← hs1]
  have hne : s0 = !s1 := by
    rw [← hs0, ← hs1] at hs
    cases s0 <;> cases s1 <;> first | rfl | exact absurd rfl hs
  have hsg := sum_less (by rw [← hs0, ← hs1]; rw [← hs0, ← hs1] at hs; exact hs) hl
  rw [← hs1] at hsg
  have HSG := Lib.hid hsg
  have HLM := Lib.hid (show (Nl.limbs (b.natAbs - a.natAbs)).length ≤ 1000000 from Nat.le_trans (Nl.len_sub _ _) (Nat.le_trans lb (by decide)))
  subst hne
  obtain ⟨W, hW⟩ : ∃ W, W = ((w.alloc (.cells #[.bool (!s1), .slice p0 l0 c0] 25)).alloc (.cells #[.bool s1, .slice p1 l1 c1] 25)).alloc (.cells #[.bool false, .slice none 0 0] 25) := ⟨_, rfl⟩
  have h3 := three_mk w W _ _ _ _ _ _ hW
  have bW := h3.below.trans (below_drewN W 1 w.heap.size)
  have hcmp := refCmp_any _ _ _ _ W (hu.below h3.below) (hv.below h3.below) (Nl.limbs_small _) (Nl.limbs_small _) (Nat.le_trans la (by decide)) (Nat.le_trans lb (by decide))
  rw [Nl.val_limbs, Nl.val_limbs] at hcmp
  have HOP := Lib.hid (subR _ _ b.natAbs a.natAbs W.drew (hv.below bW) (hu.below bW) lb (Nat.le_of_lt hl))
  have hci : cmpI a.natAbs b.natAbs < 0 := by rw [cmpI_lt (by omega)]; omega
  obtain ⟨ci, hcie⟩ : ∃ ci, ci = cmpI a.natAbs b.natAbs := ⟨_, rfl⟩
  rw [← hcie] at hci hcmp
  have e0 : decide (ci ≥ 0) = false := by first | exact decide_eq_true hci | exact decide_eq_false (by omega)
  have e1 : decide (0 ≤ ci) = false := by first | exact decide_eq_true hci | exact decide_eq_false (by omega)
  have HC := Lib.hid hcmp
  clear hcmp
  have k00 := cell_of_row _ _ 0 _ _ (0, 0) h3.a
  have k01 := cell_of_row _ _ 1 _ _ (0, 0) h3.a
  have k10 := cell_of_row _ _ 0 _ _ (0, 0) h3.b
  have k11 := cell_of_row _ _ 1 _ _ (0, 0) h3.b
  simp only [List.getElem?_toArray, List.getElem?_cons_zero, List.getElem?_cons_succ] at k00 k01 k10 k11
  have hK0 : w.heap.size < W.heap.size := lt_of_block h3.a
  have hK1 : w.heap.size + 1 < W.heap.size := lt_of_block h3.b
  have hK2 : w.heap.size + 2 < W.heap.size := lt_of_block h3.r
  have n1 : ¬ w.heap.size = w.heap.size + 1 + 1 := by omega
  have n2 : ¬ w.heap.size + 1 + 1 = w.heap.size := by omega
  have H3 := Lib.hid h3
  clear ha hb hu hv h3 la lb bW hl0 hl1 hl hs hsg hs0 hs1 hcie hci
  cases s1 with
  | true =>
    rw [Bool.not_true] at hW k00
    try rw [Bool.not_true]
    go_enter Tryz.func98, Tryz.ntmps98
    go_upto_region 1 with fail
    rw [← hW]
    clear hW
    go_wp2_with fail
    refine HC.out.mono ?_
    rintro e w1 ⟨rfl, rfl⟩
    go_wp2_with fail
    go_region_held3 (fun w' => w'.cell? ⟨w.heap.size, 1, none⟩ = some (.slice p0 l0 c0) ∧ w'.cell? ⟨w.heap.size + 1, 0, none⟩ = some (.bool true) ∧ w'.cell? ⟨w.heap.size + 1, 1, none⟩ = some (.slice p1 l1 c1))
      (first
        | go_keep
        | assumption)
      (first
        | (go_at_call 157; refine HOP.out.mono ?_; rintro e w2 ⟨⟨p2, n2, c2, rfl, hat2⟩, hb2⟩; have d01 := (hb2.cell (p := ⟨w.heap.size, 1, none⟩) hK0).trans k01; have d10 := (hb2.cell (p := ⟨w.heap.size + 1, 0, none⟩) hK1).trans k10; have d11 := (hb2.cell (p := ⟨w.heap.size + 1, 1, none⟩) hK1).trans k11)
        | (go_at_call 84; refine (ref2Of_any _ _ _ _ hat2 HLM.out).mono ?_; rintro e w4 ⟨⟨t, p4, n4, c4, rfl, hi4⟩, hb4⟩; have e01 := (hb4.cell (p := ⟨w.heap.size, 1, none⟩) (Nat.lt_of_lt_of_le hK0 hb2.size)).trans d01; have e10 := (hb4.cell (p := ⟨w.heap.size + 1, 0, none⟩) (Nat.lt_of_lt_of_le hK1 hb2.size)).trans d10; have e11 := (hb4.cell (p := ⟨w.heap.size + 1, 1, none⟩) (Nat.lt_of_lt_of_le hK1 hb2.size)).trans d11; have BQ := (hb4.block (w.heap.size + 2) (Nat.lt_of_lt_of_le hK2 hb2.size)).trans ((hb2.block (w.heap.size + 2) hK2).trans H3.out.r); have f0 := frozen_of_row _ _ 0 _ _ BQ; have f1 := frozen_of_row _ _ 1 _ _ BQ; have g0 := cell_of_row _ _ 0 _ _ (0, 0) BQ; have g1 := cell_of_row _ _ 1 _ _ (0, 0) BQ; have HQ := Lib.hid (And.intro BQ (And.intro hi4 (And.intro hb2 hb4))); clear BQ))
    clear hb2 hb4 hat2 hi4
    go_wp2_with fail
    refine bodyPost_ret (v := .agg #[.bool t, .slice p4 n4 c4]) (results_cell_row Tryz.results98 _ _ (w.heap.size + 2) 25 _ (0, 0) _ rfl (ibox_set (g := w.heap.size + 2) _ _ HQ.out.1) Tryz.underlying25 rfl (by kernel_rfl)) rfl ?_
    refine ⟨below_ibox (below_three2 H3.out HQ.out.2.2.1 HQ.out.2.2.2) (g := w.heap.size + 2) (by omega) _ _, _, rfl, ?_⟩
    have hi := HQ.out.2.1
    have hsgo := HSG.out
    try rw [Bool.not_true] at hsgo
    try rw [Bool.not_false] at hsgo
    rw [hsgo] at hi
    exact isI_box (g := w.heap.size + 2) hi HQ.out.1
  | false =>
    rw [Bool.not_false] at hW k00
    try rw [Bool.not_false]
    go_enter Tryz.func98, Tryz.ntmps98
    go_upto_region 1 with fail
    rw [← hW]
    clear hW
    go_wp2_with fail
    refine HC.out.mono ?_
    rintro e w1 ⟨rfl, rfl⟩
    go_wp2_with fail
    go_region_held3 (fun w' => w'.cell? ⟨w.heap.size, 1, none⟩ = some (.slice p0 l0 c0) ∧ w'.cell? ⟨w.heap.size + 1, 0, none⟩ = some (.bool false) ∧ w'.cell? ⟨w.heap.size + 1, 1, none⟩ = some (.slice p1 l1 c1))
      (first
        | go_keep
        | assumption)
      (first
        | (go_at_call 157; refine HOP.out.mono ?_; rintro e w2 ⟨⟨p2, n2, c2, rfl, hat2⟩, hb2⟩; have d01 := (hb2.cell (p := ⟨w.heap.size, 1, none⟩) hK0).trans k01; have d10 := (hb2.cell (p := ⟨w.heap.size + 1, 0, none⟩) hK1).trans k10; have d11 := (hb2.cell (p := ⟨w.heap.size + 1, 1, none⟩) hK1).trans k11)
        | (go_at_call 84; refine (ref2Of_any _ _ _ _ hat2 HLM.out).mono ?_; rintro e w4 ⟨⟨t, p4, n4, c4, rfl, hi4⟩, hb4⟩; have e01 := (hb4.cell (p := ⟨w.heap.size, 1, none⟩) (Nat.lt_of_lt_of_le hK0 hb2.size)).trans d01; have e10 := (hb4.cell (p := ⟨w.heap.size + 1, 0, none⟩) (Nat.lt_of_lt_of_le hK1 hb2.size)).trans d10; have e11 := (hb4.cell (p := ⟨w.heap.size + 1, 1, none⟩) (Nat.lt_of_lt_of_le hK1 hb2.size)).trans d11; have BQ := (hb4.block (w.heap.size + 2) (Nat.lt_of_lt_of_le hK2 hb2.size)).trans ((hb2.block (w.heap.size + 2) hK2).trans H3.out.r); have f0 := frozen_of_row _ _ 0 _ _ BQ; have f1 := frozen_of_row _ _ 1 _ _ BQ; have g0 := cell_of_row _ _ 0 _ _ (0, 0) BQ; have g1 := cell_of_row _ _ 1 _ _ (0, 0) BQ; have HQ := Lib.hid (And.intro BQ (And.intro hi4 (And.intro hb2 hb4))); clear BQ))
    clear hb2 hb4 hat2 hi4
    go_wp2_with fail
    refine bodyPost_ret (v := .agg #[.bool t, .slice p4 n4 c4]) (results_cell_row Tryz.results98 _ _ (w.heap.size + 2) 25 _ (0, 0) _ rfl (ibox_set (g := w.heap.size + 2) _ _ HQ.out.1) Tryz.underlying25 rfl (by kernel_rfl)) rfl ?_
    refine ⟨below_ibox (below_three2 H3.out HQ.out.2.2.1 HQ.out.2.2.2) (g := w.heap.size + 2) (by omega) _ _, _, rfl, ?_⟩
    have hi := HQ.out.2.1
    have hsgo := HSG.out
    try rw [Bool.not_true] at hsgo
    try rw [Bool.not_false] at hsgo
    rw [hsgo] at hi
    exact isI_box (g := w.heap.size + 2) hi HQ.out.1
set_option maxHeartbeats 2000000 in
/-- different signs -/
theorem rplus_more (va vb : Value) (a b : Int) (w : World) (ha : IsI w va a) (hb : IsI w vb b) (la : lowI a) (lb : lowI b) (hs : negB a ≠ negB b) (hl : b.natAbs ≤ a.natAbs) :
    Calls Tryz.prog 98 #[va, vb] w fun e w' => Below w.heap.size w w' ∧ ∃ v, e = .returned v ∧ IsI w' v (a + b) := by
  obtain ⟨p0, c0, rfl, hu⟩ := ha.form
  obtain ⟨p1, c1, rfl, hv⟩ := hb.form
  obtain ⟨l0, hl0⟩ : ∃ l0, l0 = (Nl.limbs a.natAbs).length := ⟨_, rfl⟩
  obtain ⟨l1, hl1⟩ : ∃ l1, l1 = (Nl.limbs b.natAbs).length := ⟨_, rfl⟩
  rw [← hl0] at hu ⊢
  rw [← hl1] at hv ⊢
  obtain ⟨s0, hs0⟩ : ∃ s0, s0 = negB a := ⟨_, rfl⟩
  obtain ⟨s1, hs1⟩ : ∃ s1, s1 = negB b := ⟨_, rfl⟩
  rw [← hs0, ← hs1]
  have hne : s0 = !s1 := by
    rw [← hs0, ← hs1] at hs
    cases s0 <;> cases s1 <;> first | rfl | exact absurd rfl hs
  have hsg := sum_more (by rw [← hs0, ← hs1]; rw [← hs0, ← hs1] at hs; exact hs) hl
  rw [← hs0] at hsg
  have HSG := Lib.hid hsg
  have HLM := Lib.hid (show (Nl.limbs (a.natAbs - b.natAbs)).length ≤ 1000000 from Nat.le_trans (Nl.len_sub _ _) (Nat.le_trans la (by decide)))
  subst hne
  obtain ⟨W, hW⟩ : ∃ W, W = ((w.alloc (.cells #[.bool (!s1), .slice p0 l0 c0] 25)).alloc (.cells #[.bool s1, .slice p1 l1 c1] 25)).alloc (.cells #[.bool false, .slice none 0 0] 25) := ⟨_, rfl⟩
  have h3 := three_mk w W _ _ _ _ _ _ hW
  have bW := h3.below.trans (below_drewN W 1 w.heap.size)
  have hcmp := refCmp_any _ _ _ _ W (hu.below h3.below) (hv.below h3.below) (Nl.limbs_small _) (Nl.limbs_small _) (Nat.le_trans la (by decide)) (Nat.le_trans lb (by decide))
  rw [Nl.val_limbs, Nl.val_limbs] at hcmp
  have HOP := Lib.hid (subR _ _ a.natAbs b.natAbs W.drew (hu.below bW) (hv.below bW) la hl)
  have hci : cmpI a.natAbs b.natAbs ≥ 0 := by rw [cmpI]; split <;> (try split) <;> omega
  obtain ⟨ci, hcie⟩ : ∃ ci, ci = cmpI a.natAbs b.natAbs := ⟨_, rfl⟩
  rw [← hcie] at hci hcmp
  have e0 : decide (ci ≥ 0) = true := by first | exact decide_eq_true hci | exact decide_eq_false (by omega)
  have e1 : decide (0 ≤ ci) = true := by first | exact decide_eq_true hci | exact decide_eq_false (by omega)
  have HC := Lib.hid hcmp
  clear hcmp
  have k00 := cell_of_row _ _ 0 _ _ (0, 0) h3.a
  have k01 := cell_of_row _ _ 1 _ _ (0, 0) h3.a
  have k10 := cell_of_row _ _ 0 _ _ (0, 0) h3.b
  have k11 := cell_of_row _ _ 1 _ _ (0, 0) h3.b
  simp only [List.getElem?_toArray, List.getElem?_cons_zero, List.getElem?_cons_succ] at k00 k01 k10 k11
  have hK0 : w.heap.size < W.heap.size := lt_of_block h3.a
  have hK1 : w.heap.size + 1 < W.heap.size := lt_of_block h3.b
  have hK2 : w.heap.size + 2 < W.heap.size := lt_of_block h3.r
  have n1 : ¬ w.heap.size = w.heap.size + 1 + 1 := by omega
  have n2 : ¬ w.heap.size + 1 + 1 = w.heap.size := by omega
  have H3 := Lib.hid h3
  clear ha hb hu hv h3 la lb bW hl0 hl1 hl hs hsg hs0 hs1 hcie hci
  cases s1 with
  | true =>
    rw [Bool.not_true] at hW k00
    try rw [Bool.not_true]
    go_enter Tryz.func98, Tryz.ntmps98
    go_upto_region 1 with fail
    rw [← hW]
    clear hW
    go_wp2_with fail
    refine HC.out.mono ?_
    rintro e w1 ⟨rfl, rfl⟩
    go_wp2_with fail
    go_region_held3 (fun w' => w'.cell? ⟨w.heap.size, 0, none⟩ = some (.bool false) ∧ w'.cell? ⟨w.heap.size, 1, none⟩ = some (.slice p0 l0 c0) ∧ w'.cell? ⟨w.heap.size + 1, 1, none⟩ = some (.slice p1 l1 c1))
      (first
        | go_keep
        | assumption)
      (first
        | (go_at_call 157; refine HOP.out.mono ?_; rintro e w2 ⟨⟨p2, n2, c2, rfl, hat2⟩, hb2⟩; have d00 := (hb2.cell (p := ⟨w.heap.size, 0, none⟩) hK0).trans k00; have d01 := (hb2.cell (p := ⟨w.heap.size, 1, none⟩) hK0).trans k01; have d11 := (hb2.cell (p := ⟨w.heap.size + 1, 1, none⟩) hK1).trans k11)
        | (go_at_call 84; refine (ref2Of_any _ _ _ _ hat2 HLM.out).mono ?_; rintro e w4 ⟨⟨t, p4, n4, c4, rfl, hi4⟩, hb4⟩; have e00 := (hb4.cell (p := ⟨w.heap.size, 0, none⟩) (Nat.lt_of_lt_of_le hK0 hb2.size)).trans d00; have e01 := (hb4.cell (p := ⟨w.heap.size, 1, none⟩) (Nat.lt_of_lt_of_le hK0 hb2.size)).trans d01; have e11 := (hb4.cell (p := ⟨w.heap.size + 1, 1, none⟩) (Nat.lt_of_lt_of_le hK1 hb2.size)).trans d11; have BQ := (hb4.block (w.heap.size + 2) (Nat.lt_of_lt_of_le hK2 hb2.size)).trans ((hb2.block (w.heap.size + 2) hK2).trans H3.out.r); have f0 := frozen_of_row _ _ 0 _ _ BQ; have f1 := frozen_of_row _ _ 1 _ _ BQ; have g0 := cell_of_row _ _ 0 _ _ (0, 0) BQ; have g1 := cell_of_row _ _ 1 _ _ (0, 0) BQ; have HQ := Lib.hid (And.intro BQ (And.intro hi4 (And.intro hb2 hb4))); clear BQ))
    clear hb2 hb4 hat2 hi4
    go_wp2_with fail
    refine bodyPost_ret (v := .agg #[.bool t, .slice p4 n4 c4]) (results_cell_row Tryz.results98 _ _ (w.heap.size + 2) 25 _ (0, 0) _ rfl (ibox_set (g := w.heap.size + 2) _ _ HQ.out.1) Tryz.underlying25 rfl (by kernel_rfl)) rfl ?_
    refine ⟨below_ibox (below_three2 H3.out HQ.out.2.2.1 HQ.out.2.2.2) (g := w.heap.size + 2) (by omega) _ _, _, rfl, ?_⟩
    have hi := HQ.out.2.1
    have hsgo := HSG.out
    try rw [Bool.not_true] at hsgo
    try rw [Bool.not_false] at hsgo
    rw [hsgo] at hi
    exact isI_box (g := w.heap.size + 2) hi HQ.out.1
  | false =>
    rw [Bool.not_false] at hW k00
    try rw [Bool.not_false]
    go_enter Tryz.func98, Tryz.ntmps98
    go_upto_region 1 with fail
    rw [← hW]
    clear hW
    go_wp2_with fail
    refine HC.out.mono ?_
    rintro e w1 ⟨rfl, rfl⟩
    go_wp2_with fail
    go_region_held3 (fun w' => w'.cell? ⟨w.heap.size, 0, none⟩ = some (.bool true) ∧ w'.cell? ⟨w.heap.size, 1, none⟩ = some (.slice p0 l0 c0) ∧ w'.cell? ⟨w.heap.size + 1, 1, none⟩ = some (.slice p1 l1 c1))
      (first
        | go_keep
        | assumption)
      (first
        | (go_at_call 157; refine HOP.out.mono ?_; rintro e w2 ⟨⟨p2, n2, c2, rfl, hat2⟩, hb2⟩; have d00 := (hb2.cell (p := ⟨w.heap.size, 0, none⟩) hK0).trans k00; have d01 := (hb2.cell (p := ⟨w.heap.size, 1, none⟩) hK0).trans k01; have d11 := (hb2.cell (p := ⟨w.heap.size + 1, 1, none⟩) hK1).trans k11)
        | (go_at_call 84; refine (ref2Of_any _ _ _ _ hat2 HLM.out).mono ?_; rintro e w4 ⟨⟨t, p4, n4, c4, rfl, hi4⟩, hb4⟩; have e00 := (hb4.cell (p := ⟨w.heap.size, 0, none⟩) (Nat.lt_of_lt_of_le hK0 hb2.size)).trans d00; have e01 := (hb4.cell (p := ⟨w.heap.size, 1, none⟩) (Nat.lt_of_lt_of_le hK0 hb2.size)).trans d01; have e11 := (hb4.cell (p := ⟨w.heap.size + 1, 1, none⟩) (Nat.lt_of_lt_of_le hK1 hb2.size)).trans d11; have BQ := (hb4.block (w.heap.size + 2) (Nat.lt_of_lt_of_le hK2 hb2.size)).trans ((hb2.block (w.heap.size + 2) hK2).trans H3.out.r); have f0 := frozen_of_row _ _ 0 _ _ BQ; have f1 := frozen_of_row _ _ 1 _ _ BQ; have g0 := cell_of_row _ _ 0 _ _ (0, 0) BQ; have g1 := cell_of_row _ _ 1 _ _ (0, 0) BQ; have HQ := Lib.hid (And.intro BQ (And.intro hi4 (And.intro hb2 hb4))); clear BQ))
    clear hb2 hb4 hat2 hi4
    go_wp2_with fail
    refine bodyPost_ret (v := .agg #[.bool t, .slice p4 n4 c4]) (results_cell_row Tryz.results98 _ _ (w.heap.size + 2) 25 _ (0, 0) _ rfl (ibox_set (g := w.heap.size + 2) _ _ HQ.out.1) Tryz.underlying25 rfl (by kernel_rfl)) rfl ?_
    refine ⟨below_ibox (below_three2 H3.out HQ.out.2.2.1 HQ.out.2.2.2) (g := w.heap.size + 2) (by omega) _ _, _, rfl, ?_⟩
    have hi := HQ.out.2.1
    have hsgo := HSG.out
    try rw [Bool.not_true] at hsgo
    try rw [Bool.not_false] at hsgo
    rw [hsgo] at hi
    exact isI_box (g := w.heap.size + 2) hi HQ.out.1
set_option maxHeartbeats 2000000 in
/-- a product -/
theorem rtimes_any (va vb : Value) (a b : Int) (w : World) (ha : IsI w va a) (hb : IsI w vb b) (la : lowI a) (lb : lowI b) :
    Calls Tryz.prog 99 #[va, vb] w fun e w' => Below w.heap.size w w' ∧ ∃ v, e = .returned v ∧ IsI w' v (a * b) := by
  obtain ⟨p0, c0, rfl, hu⟩ := ha.form
  obtain ⟨p1, c1, rfl, hv⟩ := hb.form
  obtain ⟨l0, hl0⟩ : ∃ l0, l0 = (Nl.limbs a.natAbs).length := ⟨_, rfl⟩
  obtain ⟨l1, hl1⟩ : ∃ l1, l1 = (Nl.limbs b.natAbs).length := ⟨_, rfl⟩
  rw [← hl0] at hu ⊢
  rw [← hl1] at hv ⊢
  obtain ⟨s0, hs0⟩ : ∃ s0, s0 = negB a := ⟨_, rfl⟩
  obtain ⟨s1, hs1⟩ : ∃ s1, s1 = negB b := ⟨_, rfl⟩
  rw [← hs0, ← hs1]
  obtain ⟨hab, hsg⟩ := prod_sgn a b
  rw [← hs0, ← hs1] at hsg
  have HSG := Lib.hid (show sgn (!(s0 == s1)) (a.natAbs * b.natAbs) = a * b from hsg)
  have HLM := Lib.hid (show (Nl.limbs (a.natAbs * b.natAbs)).length ≤ 1000000 from Nat.le_trans (Nl.len_mul _ _) (by have h1 := la; have h2 := lb; unfold lowI at h1 h2; omega))
  obtain ⟨W, hW⟩ : ∃ W, W = ((w.alloc (.cells #[.bool s0, .slice p0 l0 c0] 25)).alloc (.cells #[.bool s1, .slice p1 l1 c1] 25)).alloc (.cells #[.bool false, .slice none 0 0] 25) := ⟨_, rfl⟩
  have h3 := three_mk w W _ _ _ _ _ _ hW
  have bW := h3.below.trans (below_drewN W 1 w.heap.size)
  have HOP := Lib.hid (mulR _ _ _ _ W.drew (hu.below bW) (hv.below bW) la lb)
  have k00 := cell_of_row _ _ 0 _ _ (0, 0) h3.a
  have k01 := cell_of_row _ _ 1 _ _ (0, 0) h3.a
  have k10 := cell_of_row _ _ 0 _ _ (0, 0) h3.b
  have k11 := cell_of_row _ _ 1 _ _ (0, 0) h3.b
  simp only [List.getElem?_toArray, List.getElem?_cons_zero, List.getElem?_cons_succ] at k00 k01 k10 k11
  have hK0 : w.heap.size < W.heap.size := lt_of_block h3.a
  have hK1 : w.heap.size + 1 < W.heap.size := lt_of_block h3.b
  have hK2 : w.heap.size + 2 < W.heap.size := lt_of_block h3.r
  have n1 : ¬ w.heap.size = w.heap.size + 1 + 1 := by omega
  have n2 : ¬ w.heap.size + 1 + 1 = w.heap.size := by omega
  have H3 := Lib.hid h3
  clear ha hb hu hv h3 la lb bW hl0 hl1 hab hsg hs0 hs1
  go_enter Tryz.func99, Tryz.ntmps99
  go_upto_region 1 with fail
  rw [← hW]
  clear hW
  go_wp2_with fail
  go_region_held3 (fun w' => w'.cell? ⟨w.heap.size, 0, none⟩ = some (.bool s0) ∧ w'.cell? ⟨w.heap.size, 1, none⟩ = some (.slice p0 l0 c0) ∧ w'.cell? ⟨w.heap.size + 1, 0, none⟩ = some (.bool s1) ∧ w'.cell? ⟨w.heap.size + 1, 1, none⟩ = some (.slice p1 l1 c1))
    (first
      | go_keep
      | assumption)
    (first
      | (go_at_call 158; refine HOP.out.mono ?_; rintro e w2 ⟨⟨p2, n2, c2, rfl, hat2⟩, hb2⟩; have d00 := (hb2.cell (p := ⟨w.heap.size, 0, none⟩) hK0).trans k00; have d01 := (hb2.cell (p := ⟨w.heap.size, 1, none⟩) hK0).trans k01; have d10 := (hb2.cell (p := ⟨w.heap.size + 1, 0, none⟩) hK1).trans k10; have d11 := (hb2.cell (p := ⟨w.heap.size + 1, 1, none⟩) hK1).trans k11)
      | (go_at_call 84; refine (ref2Of_any _ _ _ _ hat2 HLM.out).mono ?_; rintro e w4 ⟨⟨t, p4, n4, c4, rfl, hi4⟩, hb4⟩; have e00 := (hb4.cell (p := ⟨w.heap.size, 0, none⟩) (Nat.lt_of_lt_of_le hK0 hb2.size)).trans d00; have e01 := (hb4.cell (p := ⟨w.heap.size, 1, none⟩) (Nat.lt_of_lt_of_le hK0 hb2.size)).trans d01; have e10 := (hb4.cell (p := ⟨w.heap.size + 1, 0, none⟩) (Nat.lt_of_lt_of_le hK1 hb2.size)).trans d10; have e11 := (hb4.cell (p := ⟨w.heap.size + 1, 1, none⟩) (Nat.lt_of_lt_of_le hK1 hb2.size)).trans d11; have BQ := (hb4.block (w.heap.size + 2) (Nat.lt_of_lt_of_le hK2 hb2.size)).trans ((hb2.block (w.heap.size + 2) hK2).trans H3.out.r); have f0 := frozen_of_row _ _ 0 _ _ BQ; have f1 := frozen_of_row _ _ 1 _ _ BQ; have g0 := cell_of_row _ _ 0 _ _ (0, 0) BQ; have g1 := cell_of_row _ _ 1 _ _ (0, 0) BQ; have HQ := Lib.hid (And.intro BQ (And.intro hi4 (And.intro hb2 hb4))); clear BQ))
  clear hb2 hb4 hat2 hi4
  go_wp2_with fail
  refine bodyPost_ret (v := .agg #[.bool t, .slice p4 n4 c4]) (results_cell_row Tryz.results99 _ _ (w.heap.size + 2) 25 _ (0, 0) _ rfl (ibox_set (g := w.heap.size + 2) _ _ HQ.out.1) Tryz.underlying25 rfl (by kernel_rfl)) rfl ?_
  refine ⟨below_ibox (below_three2 H3.out HQ.out.2.2.1 HQ.out.2.2.2) (g := w.heap.size + 2) (by omega) _ _, _, rfl, ?_⟩
  have hi := HQ.out.2.1
  have hsgo := HSG.out
  try rw [Bool.not_true] at hsgo
  try rw [Bool.not_false] at hsgo
  rw [hsgo] at hi
  exact isI_box (g := w.heap.size + 2) hi HQ.out.1
theorem rplus_any (va vb : Value) (a b : Int) (w : World) (ha : IsI w va a) (hb : IsI w vb b) (la : lowI a) (lb : lowI b) :
    Calls Tryz.prog 98 #[va, vb] w fun e w' => Below w.heap.size w w' ∧ ∃ v, e = .returned v ∧ IsI w' v (a + b) := by
  by_cases hs : negB a = negB b
  · exact rplus_same va vb a b w ha hb la lb hs
  · by_cases hl : a.natAbs < b.natAbs
    · exact rplus_less va vb a b w ha hb la lb hs hl
    · exact rplus_more va vb a b w ha hb la lb hs (by omega)
set_option maxHeartbeats 2000000 in
/-- a difference -/
theorem rminus_any (va vb : Value) (a b : Int) (w : World) (ha : IsI w va a) (hb : IsI w vb b) (la : lowI a) (lb : lowI b) :
    Calls Tryz.prog 79 #[va, vb] w fun e w' => Below w.heap.size w w' ∧ ∃ v, e = .returned v ∧ IsI w' v (a - b) := by
  obtain ⟨p0, c0, rfl, hu⟩ := ha.form
  obtain ⟨p1, c1, rfl, hv⟩ := hb.form
  obtain ⟨l0, hl0⟩ : ∃ l0, l0 = (Nl.limbs a.natAbs).length := ⟨_, rfl⟩
  obtain ⟨l1, hl1⟩ : ∃ l1, l1 = (Nl.limbs b.natAbs).length := ⟨_, rfl⟩
  rw [← hl0] at hu ha ⊢
  rw [← hl1] at hv hb ⊢
  obtain ⟨s0, hs0⟩ : ∃ s0, s0 = negB a := ⟨_, rfl⟩
  obtain ⟨s1, hs1⟩ : ∃ s1, s1 = negB b := ⟨_, rfl⟩
  rw [← hs0] at ha ⊢
  rw [← hs1] at hb ⊢
  obtain ⟨W, hW⟩ : ∃ W, W = ((w.alloc (.cells #[.bool s0, .slice p0 l0 c0] 25)).alloc (.cells #[.bool s1, .slice p1 l1 c1] 25)).alloc (.cells #[.bool false, .slice none 0 0] 25) := ⟨_, rfl⟩
  have h3 := three_mk w W _ _ _ _ _ _ hW
  have bW := h3.below.trans (below_drewN W 1 w.heap.size)
  have HA := Lib.hid (ha.below bW)
  have HOP := Lib.hid (ref2Opposite_any _ b W.drew (hb.below bW) (Nat.le_trans lb (by decide)))
  have HF := Lib.hid (And.intro la (show lowI (-b) by rw [lowI, show (-b).natAbs = b.natAbs by omega]; exact lb))
  have k00 := cell_of_row _ _ 0 _ _ (0, 0) h3.a
  have k01 := cell_of_row _ _ 1 _ _ (0, 0) h3.a
  have k10 := cell_of_row _ _ 0 _ _ (0, 0) h3.b
  have k11 := cell_of_row _ _ 1 _ _ (0, 0) h3.b
  simp only [List.getElem?_toArray, List.getElem?_cons_zero, List.getElem?_cons_succ] at k00 k01 k10 k11
  have hK0 : w.heap.size < W.heap.size := lt_of_block h3.a
  have hK1 : w.heap.size + 1 < W.heap.size := lt_of_block h3.b
  have hK2 : w.heap.size + 2 < W.heap.size := lt_of_block h3.r
  have n1 : ¬ w.heap.size = w.heap.size + 1 + 1 := by omega
  have n2 : ¬ w.heap.size + 1 + 1 = w.heap.size := by omega
  have H3 := Lib.hid h3
  clear ha hb hu hv h3 la lb bW hl0 hl1 hs0 hs1
  have HP := Lib.hid (fun (w2 : World) (u : Value) (h : Below W.drew.heap.size W.drew w2) (hu : IsI w2 u (-b)) => rplus_any _ u a (-b) w2 (HA.out.below h) hu HF.out.1 HF.out.2)
  show Calls Tryz.prog 79 _ w fun e w' => Below w.heap.size w w' ∧ ∃ v, e = .returned v ∧ IsI w' v (a + -b)
  obtain ⟨nn, hnn⟩ : ∃ nn : Int, nn = a + -b := ⟨_, rfl⟩
  rw [← hnn] at HP ⊢
  clear hnn
  go_enter Tryz.func79, Tryz.ntmps79
  go_upto_region 1 with fail
  rw [← hW]
  clear hW
  go_region_held3 (fun w' => w'.cell? ⟨w.heap.size, 0, none⟩ = some (.bool s0) ∧ w'.cell? ⟨w.heap.size, 1, none⟩ = some (.slice p0 l0 c0) ∧ w'.cell? ⟨w.heap.size + 1, 0, none⟩ = some (.bool s1) ∧ w'.cell? ⟨w.heap.size + 1, 1, none⟩ = some (.slice p1 l1 c1))
    (first
      | go_keep
      | assumption)
    (first
      | (go_at_call 96; refine HOP.out.mono ?_; rintro e w2 ⟨⟨u2, rfl, hu2⟩, hb2⟩; have d00 := (hb2.cell (p := ⟨w.heap.size, 0, none⟩) hK0).trans k00; have d01 := (hb2.cell (p := ⟨w.heap.size, 1, none⟩) hK0).trans k01; have d10 := (hb2.cell (p := ⟨w.heap.size + 1, 0, none⟩) hK1).trans k10; have d11 := (hb2.cell (p := ⟨w.heap.size + 1, 1, none⟩) hK1).trans k11)
      | (go_at_call 98; refine (HP.out w2 u2 hb2 hu2).mono ?_; rintro e w4 ⟨hb4, v4, rfl, hv4⟩; obtain ⟨p2, c2, rfl, hat2⟩ := AtI.form hv4; have e00 := (hb4.cell (p := ⟨w.heap.size, 0, none⟩) (Nat.lt_of_lt_of_le hK0 hb2.size)).trans d00; have e01 := (hb4.cell (p := ⟨w.heap.size, 1, none⟩) (Nat.lt_of_lt_of_le hK0 hb2.size)).trans d01; have e10 := (hb4.cell (p := ⟨w.heap.size + 1, 0, none⟩) (Nat.lt_of_lt_of_le hK1 hb2.size)).trans d10; have e11 := (hb4.cell (p := ⟨w.heap.size + 1, 1, none⟩) (Nat.lt_of_lt_of_le hK1 hb2.size)).trans d11; have BQ := (hb4.block (w.heap.size + 2) (Nat.lt_of_lt_of_le hK2 hb2.size)).trans ((hb2.block (w.heap.size + 2) hK2).trans H3.out.r); have f0 := frozen_of_row _ _ 0 _ _ BQ; have f1 := frozen_of_row _ _ 1 _ _ BQ; have g0 := cell_of_row _ _ 0 _ _ (0, 0) BQ; have g1 := cell_of_row _ _ 1 _ _ (0, 0) BQ; have HQ := Lib.hid (And.intro BQ (And.intro hat2 (And.intro hb2 hb4))); clear BQ))
  clear hb2 hb4 hat2 hu2 hv4
  go_wp2_with fail
  refine bodyPost_ret (v := .agg #[.bool (negB nn), .slice p2 (Nl.limbs nn.natAbs).length c2]) (results_cell_row Tryz.results79 _ _ (w.heap.size + 2) 25 _ (0, 0) _ rfl (ibox_set (g := w.heap.size + 2) _ _ HQ.out.1) Tryz.underlying25 rfl (by kernel_rfl)) rfl ?_
  exact ⟨below_ibox (below_three2 H3.out HQ.out.2.2.1 HQ.out.2.2.2) (g := w.heap.size + 2) (by omega) _ _, _, rfl, AtI.mk (at_ibox (g := w.heap.size + 2) _ _ HQ.out.2.1 HQ.out.1)⟩
end Go.Proofs.YtodjncohhgknlaaGreat
