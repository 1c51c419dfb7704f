/-
  What overHalf of package whole does, and FoundTwo and divisions. Conditions: those that each theorem names.
-/
import Derived.Test.YtipjbnbmackidaaGreatWholeOps
import Derived.Test.YtipjbnbmackidaaGreatRefAll
namespace Go.Proofs.YtipjbnbmackidaaGreat
open Go.RowKit

theorem foundTwo_yes (a b : Option Addr) (n c m d : Nat) (w : World) : Calls Tryz.prog 160 #[.slice a n c, .slice b m d, .int .i64 0] w fun e w' => e = .returned (.tuple #[.slice a n c, .slice b m d]) ∧ w = w' := by
  go_enter Tryz.func160, Tryz.ntmps160
  go_wp2_with (go_at_call 103; refine (must_yes _ _).mono ?_; rintro e w' ⟨rfl, rfl⟩)
  go_ret2
  exact ⟨rfl, rfl⟩

theorem divisions_any (w : World) : Calls Tryz.prog 162 #[] w fun e w' => e = .returned (.agg #[.nilFunc, .func (.func 204) #[] #[], .func (.func 205) #[] #[], .func (.func 206) #[] #[], .func (.func 207) #[] #[]]) ∧ Below w.heap.size w w' := by
  go_enter Tryz.func162, Tryz.ntmps162
  go_wp2_with fail
  refine bodyPost_ret (v := .agg #[.nilFunc, .func (.func 204) #[] #[], .func (.func 205) #[] #[], .func (.func 206) #[] #[], .func (.func 207) #[] #[]]) (results_cell_row Tryz.results162 _ _ w.heap.size 147 _ (0, 0) (.array 5 146) rfl (heap_alloc_new _ _) (by kernel_rfl) rfl (by kernel_rfl)) rfl ?_
  exact ⟨rfl, below_one w _⟩

/-- is the quotient one more? -/
def halfB (q r d : Nat) : Bool := decide (d < 2 * r) || (decide (2 * r = d) && decide (q % 2 = 1))
set_option maxHeartbeats 2000000 in
theorem half_any (x y : Bool) (vq vr vd : Value) (q r d : Nat) (w : World) (hq : At w vq (Nl.limbs q)) (hr : At w vr (Nl.limbs r)) (hd : At w vd (Nl.limbs d)) (fd : (Nl.limbs d).length ≤ 1024) (hrd : r ≤ d) (fq : (Nl.limbs q).length ≤ 1024) :
    Calls Tryz.prog 207 #[.agg #[.bool x, .bool y, vq, vr, vd]] w fun e w' => e = .returned (.bool (halfB q r d)) ∧ Below w.heap.size w w' := by
  obtain ⟨pq, cq, rfl, fq'⟩ := hq.form
  obtain ⟨pr, cr, rfl, -⟩ := hr.form
  obtain ⟨pd, cd, rfl, -⟩ := hd.form
  obtain ⟨lq, hlq⟩ : ∃ lq, lq = (Nl.limbs q).length := ⟨_, rfl⟩
  obtain ⟨lr, hlr⟩ : ∃ lr, lr = (Nl.limbs r).length := ⟨_, rfl⟩
  obtain ⟨ld, hld⟩ : ∃ ld, ld = (Nl.limbs d).length := ⟨_, rfl⟩
  rw [← hlq] at hq ⊢
  rw [← hlr] at hr ⊢
  rw [← hld] at hd ⊢
  have fr : (Nl.limbs r).length ≤ 1024 := Nat.le_trans (Nl.limbs_mono hrd) fd
  have fs : (Nl.limbs (d - r)).length ≤ 1024 := Nat.le_trans (Nl.len_sub d r) fd
  obtain ⟨W, hW⟩ : ∃ W, W = w.alloc (.cells #[.bool x, .bool y, .slice pq lq cq, .slice pr lr cr, .slice pd ld cd] 143) := ⟨_, rfl⟩
  have hb : Below w.heap.size w W := by rw [hW]; exact below_one w _
  have hP : W.heap[w.heap.size]? = some (.cells #[.bool x, .bool y, .slice pq lq cq, .slice pr lr cr, .slice pd ld cd] 143 (0, 0)) := by rw [hW]; exact heap_alloc_new _ _
  have hK : w.heap.size < W.heap.size := lt_of_block hP
  have k2 := cell_of_row _ _ 2 _ _ (0, 0) hP
  have k3 := cell_of_row _ _ 3 _ _ (0, 0) hP
  have k4 := cell_of_row _ _ 4 _ _ (0, 0) hP
  simp only [List.getElem?_toArray, List.getElem?_cons_zero, List.getElem?_cons_succ] at k2 k3 k4
  have bW := hb.trans (below_drewN W 1 w.heap.size)
  have HS := Lib.hid (sub_yes _ _ _ _ W.drew (hd.below bW) (hr.below bW) fd hrd)
  have HC := Lib.hid (fun (w2 : World) (h : Below W.drew.heap.size W.drew w2) (v : Value) (hv : At w2 v (Nl.limbs (d - r))) => compareNats_any _ _ _ _ w2 ((hr.below bW).below h) hv fr fs)
  have HQ := Lib.hid (show ∀ w', Below W.drew.heap.size W.drew w' → 0 < lq → ∃ b off, pq = some ⟨b, off, none⟩ ∧ w'.cell? ⟨b, off, none⟩ = some (.int .u32 ((q % 4294967296 : Nat) : Int)) from by
    intro w' hw' h0
    rcases (hq.below bW).below hw' with ⟨h1, h2⟩ | ⟨b, off, cap, h1, -, -, -, -, h6⟩
    · simp only [Value.slice.injEq] at h1; omega
    · simp only [Value.slice.injEq] at h1
      refine ⟨b, off, h1.1, ?_⟩
      have h7 := h6 0 (by omega)
      rw [Nat.add_zero] at h7
      rw [h7]
      have hq0 : q ≠ 0 := fun h => by rw [hlq, h, Nl.limbs_zero] at h0; exact absurd h0 (by decide)
      rw [Nl.limbs_pos hq0]; rfl)
  have HL := Lib.hid (show lq = 0 ↔ q = 0 by rw [hlq]; exact limbs_nil)
  have HB := Lib.hid hb
  clear hq hr hd fd fq fr fs hP hb bW hlq hlr hld fq'
  have hlow : (q % 4294967296) % 2 = q % 2 := by omega
  obtain ⟨z, hz⟩ : ∃ z, z = q % 4294967296 := ⟨_, rfl⟩
  rw [← hz] at HQ hlow
  have HZ := Lib.hid (And.intro hz hlow)
  clear hz hlow
  obtain ⟨ci, hci⟩ : ∃ ci, ci = cmpI (r : Int) ((d - r : Nat) : Int) := ⟨_, rfl⟩
  rw [← hci] at HC
  have HCI := Lib.hid (And.intro hci hrd)
  clear hci hrd
  have hthree : ci = 1 ∧ d < 2 * r ∨ ci = 0 ∧ 2 * r = d ∨ ci = -1 ∧ 2 * r < d := by
    rw [HCI.out.1, cmpI]
    have := HCI.out.2
    split
    · right; right; exact ⟨rfl, by omega⟩
    · split
      · left; exact ⟨rfl, by omega⟩
      · right; left; exact ⟨rfl, by omega⟩
  have HT := Lib.hid hthree
  clear hthree
  obtain ⟨bb, hbb⟩ : ∃ bb, bb = halfB q r d := ⟨_, rfl⟩
  rw [← hbb]
  have HBB := Lib.hid hbb
  clear hbb
  go_enter Tryz.func207, Tryz.ntmps207
  go_upto_region 1 with fail
  rw [← hW]
  clear hW
  go_region_held3 (fun w' => w'.cell? ⟨w.heap.size, 2, none⟩ = some (.slice pq lq cq) ∧ w'.cell? ⟨w.heap.size, 3, none⟩ = some (.slice pr lr cr) ∧ w'.cell? ⟨w.heap.size, 4, none⟩ = some (.slice pd ld cd))
    (first
      | go_keep
      | assumption)
    (first
      | (go_at_call 153; refine HS.out.mono ?_; rintro e w2 ⟨⟨p2, n2, c2, rfl, hat2⟩, hb2⟩; have d2 := (hb2.cell (p := ⟨w.heap.size, 2, none⟩) hK).trans k2; have d3 := (hb2.cell (p := ⟨w.heap.size, 3, none⟩) hK).trans k3; have d4 := (hb2.cell (p := ⟨w.heap.size, 4, none⟩) hK).trans k4)
      | (go_at_call 151; refine (found_yes _ _ _ _).mono ?_; rintro e w3 ⟨rfl, rfl⟩)
      | (go_at_call 145; refine (HC.out w2 hb2 _ hat2).mono ?_; rintro e w4 ⟨rfl, j, rfl⟩))
  have HH := Lib.hid (And.intro hat2 hb2)
  have hB2 := HB.out.trans ((below_drewN W 1 w.heap.size).trans ((hb2.mono (show w.heap.size ≤ W.drew.heap.size from HB.out.size)).trans (below_drewN w2 j w.heap.size)))
  have HB2 := Lib.hid hB2
  clear hat2 hb2 hB2
  rcases HT.out with ⟨rfl, h2⟩ | ⟨rfl, h2⟩ | ⟨rfl, h2⟩
  · have hh : halfB q r d = true := by rw [halfB, decide_eq_true h2]; rfl
    have HH2 := Lib.hid (HBB.out.trans hh)
    clear hh h2
    go_wp2_with fail
    go_ret
    exact ⟨ret_bool HH2.out.symm, HB2.out⟩
  · have hh : halfB q r d = decide (q % 2 = 1) := by rw [halfB, decide_eq_false (by omega), decide_eq_true h2, Bool.false_or, Bool.true_and]
    have HH2 := Lib.hid (HBB.out.trans hh)
    clear hh h2
    by_cases h0 : lq = 0
    · have e0 : decide (0 < lq) = false := decide_eq_false (by omega)
      have e1 : decide (q % 2 = 1) = false := decide_eq_false (by rw [HL.out.1 h0]; decide)
      have HH3 := Lib.hid (HH2.out.trans e1)
      clear e1
      go_wp2_with fail
      go_ret
      exact ⟨ret_bool HH3.out.symm, HB2.out⟩
    · have e0 : decide (0 < lq) = true := decide_eq_true (by omega)
      have h0' : 0 < lq := by omega
      obtain ⟨b, off, rfl, hc⟩ := HQ.out w2 HH.out.2 h0'
      have hzz := HZ.out.2
      by_cases hodd : q % 2 = 1
      · have e1 : (((z : Int) % 2) == 1) = true := by rw [beq_iff_eq]; omega
        have HH3 := Lib.hid (HH2.out.trans (decide_eq_true hodd))
        clear hodd hzz h0
        go_wp2_with fail
        go_ret
        exact ⟨ret_bool HH3.out.symm, HB2.out⟩
      · have e1 : (((z : Int) % 2) == 1) = false := by rw [beq_eq_false_iff_ne]; omega
        have HH3 := Lib.hid (HH2.out.trans (decide_eq_false hodd))
        clear hodd hzz h0
        go_wp2_with fail
        go_ret
        exact ⟨ret_bool HH3.out.symm, HB2.out⟩
  · have hh : halfB q r d = false := by rw [halfB, decide_eq_false (by omega), decide_eq_false (by omega)]; rfl
    have HH2 := Lib.hid (HBB.out.trans hh)
    clear hh h2
    go_wp2_with fail
    go_ret
    exact ⟨ret_bool HH2.out.symm, HB2.out⟩
end Go.Proofs.YtipjbnbmackidaaGreat
