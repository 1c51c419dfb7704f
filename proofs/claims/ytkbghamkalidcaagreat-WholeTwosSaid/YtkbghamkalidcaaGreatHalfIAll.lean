/-
  What ToInt, Sign and Cmp of package whole do. Written by wip/tool/gencnt.py. Conditions: those that each theorem names.
  What the reference of integers does: Of, Same, Valid, Opposite, Sgn; and the law's small. Conditions: those that each theorem names.
  What the reference of integers does: Same, Opposite, Sgn. Conditions: those that each theorem names.
  What the reference's Mul does. Conditions: those that each theorem names.
  What the reference's Plus, Minus and Times of integers do. Written by wip/tool/genref2.py. Conditions: those that each theorem names.
  What overHalf of package whole does, and FoundTwo and divisions. Conditions: those that each theorem names.
-/
import Derived.Test.YtkbghamkalidcaaGreatWholeOps
import Derived.Test.YtkbghamkalidcaaGreatRefTrim
import Derived.Test.YtkbghamkalidcaaGreatRefAll
namespace Go.Proofs.YtkbghamkalidcaaGreat
open Go.RowKit

/-- what a call gives: a number, or an error -/
def ResC (w w' : World) (e : Ending) (ok : Bool) (k x : Int) : Prop := ∃ c, c = (if ok = true then k else 1) ∧ CntOut w w' e c x
end Go.Proofs.YtkbghamkalidcaaGreat

namespace Go.Proofs.YtkbghamkalidcaaGreat
open Go.RowKit

theorem refTrim_any (v : Value) (m : Nat) (w : World) (h : At w v (Nl.limbs m)) (hl : (Nl.limbs m).length ≤ 1000000) :
    Calls Tryz.prog 130 #[v] w fun e w' => (∃ p n c, e = .returned (.slice p n c) ∧ At w' (.slice p n c) (Nl.limbs m)) ∧ Below w.heap.size w w' := by
  have ht : Nl.trim (Nl.limbs m) = Nl.limbs m := by rw [Nl.trim_eq (Nl.limbs_small m), Nl.val_limbs]
  have hgen : ∀ (e : Ending) (w' : World), (∃ v, e = .returned v ∧ AtP (w.heap.size ≤ ·) w' v (Nl.limbs m)) ∧ Below w.heap.size w w' → (∃ p n c, e = .returned (.slice p n c) ∧ At w' (.slice p n c) (Nl.limbs m)) ∧ Below w.heap.size w w' := by
    rintro e w' ⟨⟨v, rfl, hv⟩, hb⟩
    obtain ⟨p, c, rfl, -⟩ := hv.form
    exact ⟨⟨p, _, c, rfl, hv.at⟩, hb⟩
  rcases h with ⟨rfl, h⟩ | ⟨b, off, cap, rfl, -, hc, hm, hb, hx⟩
  · refine (refTrim_nil w).mono fun e w' h' => hgen e w' ?_
    rw [h]; exact h'
  · have := refTrim_cells b off cap (Nl.limbs m) w hx hc hm hb hl
    rw [ht] at this
    exact this.mono hgen

set_option maxHeartbeats 1000000 in
theorem ref2Of_any (s : Bool) (v : Value) (m : Nat) (w : World) (h : At w v (Nl.limbs m)) (hl : (Nl.limbs m).length ≤ 1000000) :
    Calls Tryz.prog 66 #[.bool s, v] w fun e w' => (∃ t p n c, e = .returned (.agg #[.bool t, .slice p n c]) ∧ IsI w' (.agg #[.bool t, .slice p n c]) (sgn s m)) ∧ Below w.heap.size w w' := by
  obtain ⟨W, hW⟩ : ∃ W, W = w.alloc (.cells #[.bool false, .slice none 0 0] 25) := ⟨_, rfl⟩
  have hb : Below w.heap.size w W := by rw [hW]; exact below_one w _
  have hQ : W.heap[w.heap.size]? = some (.cells #[.bool false, .slice none 0 0] 25 (0, 0)) := by rw [hW]; exact heap_alloc_new _ _
  have HT := Lib.hid (refTrim_any v m W (h.below hb) hl)
  have HB := Lib.hid (And.intro hb hQ)
  obtain ⟨a, c, rfl, -⟩ := h.form
  obtain ⟨l, hl'⟩ : ∃ l, l = (Nl.limbs m).length := ⟨_, rfl⟩
  have hsg : negB (sgn s m) = (s && decide (0 < l)) := by
    rw [sgn_neg]
    by_cases h0 : 0 < m
    · rw [decide_eq_true h0, decide_eq_true (by rw [hl']; exact Nl.len_pos (by omega))]
    · rw [decide_eq_false h0, decide_eq_false (fun h => h0 (Nat.pos_of_ne_zero fun h1 => by rw [hl', h1, Nl.limbs_zero] at h; exact absurd h (by decide)))]
  have HSG := Lib.hid hsg
  rw [← hl'] at HT ⊢
  clear h hl hb hQ hl' hsg
  obtain ⟨t, ht⟩ : ∃ t, t = (s && decide (0 < l)) := ⟨_, rfl⟩
  have hcase : (s = false ∧ t = false) ∨ (s = true ∧ decide (0 < l) = true ∧ t = true) ∨ (s = true ∧ decide (0 < l) = false ∧ t = false) := by
    rw [ht]
    cases s
    · exact .inl ⟨rfl, rfl⟩
    · cases hd : decide (0 < l)
      · exact .inr (.inr ⟨rfl, rfl, rfl⟩)
      · exact .inr (.inl ⟨rfl, rfl, rfl⟩)
  have HTE := Lib.hid ht
  clear ht
  rcases hcase with ⟨rfl, rfl⟩ | ⟨rfl, e0, rfl⟩ | ⟨rfl, e0, rfl⟩
  · go_enter Tryz.func66, Tryz.ntmps66
    go_upto_region 1 with fail
    rw [← hW]
    clear hW
    go_wp2_with fail
    refine HT.out.mono ?_
    rintro e w1 ⟨⟨p, n, c1, rfl, hat⟩, hb1⟩
    have BQ := (hb1.block _ (lt_of_block HB.out.2)).trans HB.out.2
    have f0 := frozen_of_row _ _ 0 _ _ BQ
    have f1 := frozen_of_row _ _ 1 _ _ BQ
    have g0 := cell_of_row _ _ 0 _ _ (0, 0) BQ
    have g1 := cell_of_row _ _ 1 _ _ (0, 0) BQ
    have HZ := Lib.hid (And.intro hat (And.intro hb1 BQ))
    clear hat hb1 BQ HT
    go_wp2_with fail
    refine bodyPost_ret (v := .agg #[.bool false, .slice p n c1]) (results_cell_row Tryz.results66 _ _ w.heap.size 25 _ (0, 0) _ rfl (ibox_set _ _ HZ.out.2.2) Tryz.underlying25 rfl (by kernel_rfl)) rfl ?_
    exact ⟨⟨_, _, _, _, rfl, isI_mk (at_ibox _ _ HZ.out.1 HZ.out.2.2) (by rw [HSG.out, ← HTE.out]) rfl⟩, below_ibox (HB.out.1.trans (HZ.out.2.1.mono HB.out.1.size)) (Nat.le_refl _) _ _⟩
  · go_enter Tryz.func66, Tryz.ntmps66
    go_upto_region 1 with fail
    rw [← hW]
    clear hW
    go_wp2_with fail
    refine HT.out.mono ?_
    rintro e w1 ⟨⟨p, n, c1, rfl, hat⟩, hb1⟩
    have BQ := (hb1.block _ (lt_of_block HB.out.2)).trans HB.out.2
    have f0 := frozen_of_row _ _ 0 _ _ BQ
    have f1 := frozen_of_row _ _ 1 _ _ BQ
    have g0 := cell_of_row _ _ 0 _ _ (0, 0) BQ
    have g1 := cell_of_row _ _ 1 _ _ (0, 0) BQ
    have HZ := Lib.hid (And.intro hat (And.intro hb1 BQ))
    clear hat hb1 BQ HT
    go_wp2_with fail
    refine bodyPost_ret (v := .agg #[.bool true, .slice p n c1]) (results_cell_row Tryz.results66 _ _ w.heap.size 25 _ (0, 0) _ rfl (ibox_set _ _ HZ.out.2.2) Tryz.underlying25 rfl (by kernel_rfl)) rfl ?_
    exact ⟨⟨_, _, _, _, rfl, isI_mk (at_ibox _ _ HZ.out.1 HZ.out.2.2) (by rw [HSG.out, ← HTE.out]) rfl⟩, below_ibox (HB.out.1.trans (HZ.out.2.1.mono HB.out.1.size)) (Nat.le_refl _) _ _⟩
  · go_enter Tryz.func66, Tryz.ntmps66
    go_upto_region 1 with fail
    rw [← hW]
    clear hW
    go_wp2_with fail
    refine HT.out.mono ?_
    rintro e w1 ⟨⟨p, n, c1, rfl, hat⟩, hb1⟩
    have BQ := (hb1.block _ (lt_of_block HB.out.2)).trans HB.out.2
    have f0 := frozen_of_row _ _ 0 _ _ BQ
    have f1 := frozen_of_row _ _ 1 _ _ BQ
    have g0 := cell_of_row _ _ 0 _ _ (0, 0) BQ
    have g1 := cell_of_row _ _ 1 _ _ (0, 0) BQ
    have HZ := Lib.hid (And.intro hat (And.intro hb1 BQ))
    clear hat hb1 BQ HT
    go_wp2_with fail
    refine bodyPost_ret (v := .agg #[.bool false, .slice p n c1]) (results_cell_row Tryz.results66 _ _ w.heap.size 25 _ (0, 0) _ rfl (ibox_set _ _ HZ.out.2.2) Tryz.underlying25 rfl (by kernel_rfl)) rfl ?_
    exact ⟨⟨_, _, _, _, rfl, isI_mk (at_ibox _ _ HZ.out.1 HZ.out.2.2) (by rw [HSG.out, ← HTE.out]) rfl⟩, below_ibox (HB.out.1.trans (HZ.out.2.1.mono HB.out.1.size)) (Nat.le_refl _) _ _⟩

end Go.Proofs.YtkbghamkalidcaaGreat

namespace Go.Proofs.YtkbghamkalidcaaGreat
open Go.RowKit

set_option maxHeartbeats 1000000 in
theorem ref2Same_any (va vb : Value) (s t : Bool) (xs ys : List Nat) (w : World) (ha : AtI w va s xs) (hb : AtI w vb t ys) :
    Calls Tryz.prog 34 #[va, vb] w fun e w' => e = .returned (.bool ((s == t) && sameB xs ys)) ∧ Below w.heap.size w w' := by
  obtain ⟨p0, c0, rfl, hu⟩ := ha.form
  obtain ⟨p1, c1, rfl, hv⟩ := hb.form
  obtain ⟨W, hW⟩ : ∃ W, W = (w.alloc (.cells #[.bool s, .slice p0 xs.length c0] 25)).alloc (.cells #[.bool t, .slice p1 ys.length c1] 25) := ⟨_, rfl⟩
  have hbW : Below w.heap.size w W := by rw [hW]; exact two_new w _ _
  have B0 : W.heap[w.heap.size]? = some (.cells #[.bool s, .slice p0 xs.length c0] 25 (0, 0)) := by rw [hW]; exact heap_alloc2_old w _ _
  have B1 : W.heap[w.heap.size + 1]? = some (.cells #[.bool t, .slice p1 ys.length c1] 25 (0, 0)) := by rw [hW]; exact heap_alloc2_new w _ _
  have k00 := cell_of_row _ _ 0 _ _ (0, 0) B0
  have k01 := cell_of_row _ _ 1 _ _ (0, 0) B0
  have k10 := cell_of_row _ _ 0 _ _ (0, 0) B1
  have k11 := cell_of_row _ _ 1 _ _ (0, 0) B1
  simp only [List.getElem?_toArray, List.getElem?_cons_zero, List.getElem?_cons_succ] at k00 k01 k10 k11
  have HS := Lib.hid (same_any _ _ xs ys W (hu.below hbW) (hv.below hbW))
  have HB := Lib.hid hbW
  obtain ⟨b, hbb⟩ : ∃ b, b = sameB xs ys := ⟨_, rfl⟩
  rw [← hbb] at HS ⊢
  clear ha hb hu hv hbW B0 B1 hbb
  by_cases hst : s = t
  · subst hst
    rw [show (s == s) = true by simp, Bool.true_and]
    cases s
    all_goals
      go_enter Tryz.func34, Tryz.ntmps34
      go_upto_region 1 with fail
      rw [← hW]
      clear hW
      go_wp2_with (go_at_call 87; refine HS.out.mono ?_; rintro e w' ⟨rfl, j, rfl⟩)
      go_ret
      exact ⟨rfl, HB.out.trans (below_drewN W j _)⟩
  · have hne : (s == t) = false := by simpa using hst
    rw [hne, Bool.false_and]
    cases s <;> cases t
    · exact absurd rfl hst
    · clear hst hne
      go_enter Tryz.func34, Tryz.ntmps34
      go_upto_region 1 with fail
      rw [← hW]
      clear hW
      go_wp2_with (go_at_call 87; refine HS.out.mono ?_; rintro e w' ⟨rfl, j, rfl⟩)
      go_ret
      exact ⟨rfl, HB.out⟩
    · clear hst hne
      go_enter Tryz.func34, Tryz.ntmps34
      go_upto_region 1 with fail
      rw [← hW]
      clear hW
      go_wp2_with (go_at_call 87; refine HS.out.mono ?_; rintro e w' ⟨rfl, j, rfl⟩)
      go_ret
      exact ⟨rfl, HB.out⟩
    · exact absurd rfl hst

end Go.Proofs.YtkbghamkalidcaaGreat

namespace Go.Proofs.YtkbghamkalidcaaGreat
open Go.RowKit

theorem getD_append_right' {A Y : List Nat} {k j : Nat} (hA : A.length = k) : (A ++ Y).getD (k + j) 0 = Y.getD j 0 := by
  subst hA
  rw [List.getD_eq_getElem?_getD, List.getD_eq_getElem?_getD, List.getElem?_append_right (by omega)]
  congr 2; omega
theorem set_append_right' {A Y : List Nat} {k j y : Nat} (hA : A.length = k) : (A ++ Y).set (k + j) y = A ++ Y.set j y := by
  subst hA
  rw [List.set_append_right _ _ (by omega)]
  congr 2; omega

end Go.Proofs.YtkbghamkalidcaaGreat

namespace Go.Proofs.YtkbghamkalidcaaGreat
open Go.RowKit

theorem isI_box {w : World} {g : Nat} {T : TypeId} {s t : Bool} {p q : Option Addr} {l c m d : Nat} {n : Int} (h : IsI w (.agg #[.bool t, .slice q m d]) n) (hbx : w.heap[g]? = some (.cells #[.bool s, .slice p l c] T (0, 0))) :
    IsI ((w.setCell ⟨g, 0, none⟩ (.bool t)).setCell ⟨g, 1, none⟩ (.slice q m d)) (.agg #[.bool t, .slice q m d]) n := by
  obtain ⟨u, hu1, hu2⟩ := h
  simp only [Value.agg.injEq, Array.mk.injEq, List.cons.injEq, Value.bool.injEq, and_true] at hu1
  obtain ⟨rfl, rfl⟩ := hu1
  exact AtI.mk (at_ibox _ _ hu2 hbx)
end Go.Proofs.YtkbghamkalidcaaGreat

namespace Go.Proofs.YtkbghamkalidcaaGreat
open Go.RowKit

theorem foundTwo_yes (a b : Option Addr) (n c m d : Nat) (w : World) : Calls Tryz.prog 139 #[.slice a n c, .slice b m d, .int .i64 0] w fun e w' => e = .returned (.tuple #[.slice a n c, .slice b m d]) ∧ w = w' := by
  go_enter Tryz.func139, Tryz.ntmps139
  go_wp2_with (go_at_call 55; refine (must_yes _ _).mono ?_; rintro e w' ⟨rfl, rfl⟩)
  go_ret2
  exact ⟨rfl, rfl⟩

theorem divisions_any (w : World) : Calls Tryz.prog 141 #[] w fun e w' => e = .returned (.agg #[.nilFunc, .func (.func 187) #[] #[], .func (.func 188) #[] #[], .func (.func 189) #[] #[], .func (.func 190) #[] #[]]) ∧ Below w.heap.size w w' := by
  go_enter Tryz.func141, Tryz.ntmps141
  go_wp2_with fail
  refine bodyPost_ret (v := .agg #[.nilFunc, .func (.func 187) #[] #[], .func (.func 188) #[] #[], .func (.func 189) #[] #[], .func (.func 190) #[] #[]]) (results_cell_row Tryz.results141 _ _ w.heap.size 155 _ (0, 0) (.array 5 154) rfl (heap_alloc_new _ _) (by kernel_rfl) rfl (by kernel_rfl)) rfl ?_
  exact ⟨rfl, below_one w _⟩

/-- is the quotient one more? -/
def halfB (q r d : Nat) : Bool := decide (d < 2 * r) || (decide (2 * r = d) && decide (q % 2 = 1))
set_option maxHeartbeats 2000000 in
theorem half_any (x y : Bool) (vq vr vd : Value) (q r d : Nat) (w : World) (hq : At w vq (Nl.limbs q)) (hr : At w vr (Nl.limbs r)) (hd : At w vd (Nl.limbs d)) (fd : (Nl.limbs d).length ≤ 1024) (hrd : r ≤ d) (fq : (Nl.limbs q).length ≤ 1024) :
    Calls Tryz.prog 190 #[.agg #[.bool x, .bool y, vq, vr, vd]] w fun e w' => e = .returned (.bool (halfB q r d)) ∧ Below w.heap.size w w' := by
  obtain ⟨pq, cq, rfl, fq'⟩ := hq.form
  obtain ⟨pr, cr, rfl, -⟩ := hr.form
  obtain ⟨pd, cd, rfl, -⟩ := hd.form
  obtain ⟨lq, hlq⟩ : ∃ lq, lq = (Nl.limbs q).length := ⟨_, rfl⟩
  obtain ⟨lr, hlr⟩ : ∃ lr, lr = (Nl.limbs r).length := ⟨_, rfl⟩
  obtain ⟨ld, hld⟩ : ∃ ld, ld = (Nl.limbs d).length := ⟨_, rfl⟩
  rw [← hlq] at hq ⊢
  rw [← hlr] at hr ⊢
  rw [← hld] at hd ⊢
  have fr : (Nl.limbs r).length ≤ 1024 := Nat.le_trans (Nl.limbs_mono hrd) fd
  have fs : (Nl.limbs (d - r)).length ≤ 1024 := Nat.le_trans (Nl.len_sub d r) fd
  obtain ⟨W, hW⟩ : ∃ W, W = w.alloc (.cells #[.bool x, .bool y, .slice pq lq cq, .slice pr lr cr, .slice pd ld cd] 151) := ⟨_, rfl⟩
  have hb : Below w.heap.size w W := by rw [hW]; exact below_one w _
  have hP : W.heap[w.heap.size]? = some (.cells #[.bool x, .bool y, .slice pq lq cq, .slice pr lr cr, .slice pd ld cd] 151 (0, 0)) := by rw [hW]; exact heap_alloc_new _ _
  have hK : w.heap.size < W.heap.size := lt_of_block hP
  have k2 := cell_of_row _ _ 2 _ _ (0, 0) hP
  have k3 := cell_of_row _ _ 3 _ _ (0, 0) hP
  have k4 := cell_of_row _ _ 4 _ _ (0, 0) hP
  simp only [List.getElem?_toArray, List.getElem?_cons_zero, List.getElem?_cons_succ] at k2 k3 k4
  have bW := hb.trans (below_drewN W 1 w.heap.size)
  have HS := Lib.hid (sub_yes _ _ _ _ W.drew (hd.below bW) (hr.below bW) fd hrd)
  have HC := Lib.hid (fun (w2 : World) (h : Below W.drew.heap.size W.drew w2) (v : Value) (hv : At w2 v (Nl.limbs (d - r))) => compareNats_any _ _ _ _ w2 ((hr.below bW).below h) hv fr fs)
  have HQ := Lib.hid (show ∀ w', Below W.drew.heap.size W.drew w' → 0 < lq → ∃ b off, pq = some ⟨b, off, none⟩ ∧ w'.cell? ⟨b, off, none⟩ = some (.int .u32 ((q % 4294967296 : Nat) : Int)) from by
    intro w' hw' h0
    rcases (hq.below bW).below hw' with ⟨h1, h2⟩ | ⟨b, off, cap, h1, -, -, -, -, h6⟩
    · simp only [Value.slice.injEq] at h1; omega
    · simp only [Value.slice.injEq] at h1
      refine ⟨b, off, h1.1, ?_⟩
      have h7 := h6 0 (by omega)
      rw [Nat.add_zero] at h7
      rw [h7]
      have hq0 : q ≠ 0 := fun h => by rw [hlq, h, Nl.limbs_zero] at h0; exact absurd h0 (by decide)
      rw [Nl.limbs_pos hq0]; rfl)
  have HL := Lib.hid (show lq = 0 ↔ q = 0 by rw [hlq]; exact limbs_nil)
  have HB := Lib.hid hb
  clear hq hr hd fd fq fr fs hP hb bW hlq hlr hld fq'
  have hlow : (q % 4294967296) % 2 = q % 2 := by omega
  obtain ⟨z, hz⟩ : ∃ z, z = q % 4294967296 := ⟨_, rfl⟩
  rw [← hz] at HQ hlow
  have HZ := Lib.hid (And.intro hz hlow)
  clear hz hlow
  obtain ⟨ci, hci⟩ : ∃ ci, ci = cmpI (r : Int) ((d - r : Nat) : Int) := ⟨_, rfl⟩
  rw [← hci] at HC
  have HCI := Lib.hid (And.intro hci hrd)
  clear hci hrd
  have hthree : ci = 1 ∧ d < 2 * r ∨ ci = 0 ∧ 2 * r = d ∨ ci = -1 ∧ 2 * r < d := by
    rw [HCI.out.1, cmpI]
    have := HCI.out.2
    split
    · right; right; exact ⟨rfl, by omega⟩
    · split
      · left; exact ⟨rfl, by omega⟩
      · right; left; exact ⟨rfl, by omega⟩
  have HT := Lib.hid hthree
  clear hthree
  obtain ⟨bb, hbb⟩ : ∃ bb, bb = halfB q r d := ⟨_, rfl⟩
  rw [← hbb]
  have HBB := Lib.hid hbb
  clear hbb
  go_enter Tryz.func190, Tryz.ntmps190
  go_upto_region 1 with fail
  rw [← hW]
  clear hW
  go_region_held3 (fun w' => w'.cell? ⟨w.heap.size, 2, none⟩ = some (.slice pq lq cq) ∧ w'.cell? ⟨w.heap.size, 3, none⟩ = some (.slice pr lr cr) ∧ w'.cell? ⟨w.heap.size, 4, none⟩ = some (.slice pd ld cd))
    (first
      | go_keep
      | assumption)
    (first
      | (go_at_call 143; refine HS.out.mono ?_; rintro e w2 ⟨⟨p2, n2, c2, rfl, hat2⟩, hb2⟩; have d2 := (hb2.cell (p := ⟨w.heap.size, 2, none⟩) hK).trans k2; have d3 := (hb2.cell (p := ⟨w.heap.size, 3, none⟩) hK).trans k3; have d4 := (hb2.cell (p := ⟨w.heap.size, 4, none⟩) hK).trans k4)
      | (go_at_call 125; refine (found_yes _ _ _ _).mono ?_; rintro e w3 ⟨rfl, rfl⟩)
      | (go_at_call 144; refine (HC.out w2 hb2 _ hat2).mono ?_; rintro e w4 ⟨rfl, j, rfl⟩))
  have HH := Lib.hid (And.intro hat2 hb2)
  have hB2 := HB.out.trans ((below_drewN W 1 w.heap.size).trans ((hb2.mono (show w.heap.size ≤ W.drew.heap.size from HB.out.size)).trans (below_drewN w2 j w.heap.size)))
  have HB2 := Lib.hid hB2
  clear hat2 hb2 hB2
  rcases HT.out with ⟨rfl, h2⟩ | ⟨rfl, h2⟩ | ⟨rfl, h2⟩
  · have hh : halfB q r d = true := by rw [halfB, decide_eq_true h2]; rfl
    have HH2 := Lib.hid (HBB.out.trans hh)
    clear hh h2
    go_wp2_with fail
    go_ret
    exact ⟨ret_bool HH2.out.symm, HB2.out⟩
  · have hh : halfB q r d = decide (q % 2 = 1) := by rw [halfB, decide_eq_false (by omega), decide_eq_true h2, Bool.false_or, Bool.true_and]
    have HH2 := Lib.hid (HBB.out.trans hh)
    clear hh h2
    by_cases h0 : lq = 0
    · have e0 : decide (0 < lq) = false := decide_eq_false (by omega)
      have e1 : decide (q % 2 = 1) = false := decide_eq_false (by rw [HL.out.1 h0]; decide)
      have HH3 := Lib.hid (HH2.out.trans e1)
      clear e1
      go_wp2_with fail
      go_ret
      exact ⟨ret_bool HH3.out.symm, HB2.out⟩
    · have e0 : decide (0 < lq) = true := decide_eq_true (by omega)
      have h0' : 0 < lq := by omega
      obtain ⟨b, off, rfl, hc⟩ := HQ.out w2 HH.out.2 h0'
      have hzz := HZ.out.2
      by_cases hodd : q % 2 = 1
      · have e1 : (((z : Int) % 2) == 1) = true := by rw [beq_iff_eq]; omega
        have HH3 := Lib.hid (HH2.out.trans (decide_eq_true hodd))
        clear hodd hzz h0
        go_wp2_with fail
        go_ret
        exact ⟨ret_bool HH3.out.symm, HB2.out⟩
      · have e1 : (((z : Int) % 2) == 1) = false := by rw [beq_eq_false_iff_ne]; omega
        have HH3 := Lib.hid (HH2.out.trans (decide_eq_false hodd))
        clear hodd hzz h0
        go_wp2_with fail
        go_ret
        exact ⟨ret_bool HH3.out.symm, HB2.out⟩
  · have hh : halfB q r d = false := by rw [halfB, decide_eq_false (by omega), decide_eq_false (by omega)]; rfl
    have HH2 := Lib.hid (HBB.out.trans hh)
    clear hh h2
    go_wp2_with fail
    go_ret
    exact ⟨ret_bool HH2.out.symm, HB2.out⟩
end Go.Proofs.YtkbghamkalidcaaGreat
