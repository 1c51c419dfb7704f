/-
  What overHalf of package whole does, and FoundTwo and divisions. Conditions: those that each theorem names.
  What over of integers of package whole does where the quotient is rounded away from 0, to the nearest. Conditions: those that each theorem names.
-/
import Derived.Test.YtkbghamkalidcaaGreatWholeOps
import Derived.Test.YtkbghamkalidcaaGreatRefAll
namespace Go.Proofs.YtkbghamkalidcaaGreat
open Go.RowKit

theorem foundTwo_yes (a b : Option Addr) (n c m d : Nat) (w : World) : Calls Tryz.prog 139 #[.slice a n c, .slice b m d, .int .i64 0] w fun e w' => e = .returned (.tuple #[.slice a n c, .slice b m d]) ∧ w = w' := by
  go_enter Tryz.func139, Tryz.ntmps139
  go_wp2_with (go_at_call 55; refine (must_yes _ _).mono ?_; rintro e w' ⟨rfl, rfl⟩)
  go_ret2
  exact ⟨rfl, rfl⟩

theorem divisions_any (w : World) : Calls Tryz.prog 141 #[] w fun e w' => e = .returned (.agg #[.nilFunc, .func (.func 187) #[] #[], .func (.func 188) #[] #[], .func (.func 189) #[] #[], .func (.func 190) #[] #[]]) ∧ Below w.heap.size w w' := by
  go_enter Tryz.func141, Tryz.ntmps141
  go_wp2_with fail
  refine bodyPost_ret (v := .agg #[.nilFunc, .func (.func 187) #[] #[], .func (.func 188) #[] #[], .func (.func 189) #[] #[], .func (.func 190) #[] #[]]) (results_cell_row Tryz.results141 _ _ w.heap.size 155 _ (0, 0) (.array 5 154) rfl (heap_alloc_new _ _) (by kernel_rfl) rfl (by kernel_rfl)) rfl ?_
  exact ⟨rfl, below_one w _⟩

/-- is the quotient one more? -/
def halfB (q r d : Nat) : Bool := decide (d < 2 * r) || (decide (2 * r = d) && decide (q % 2 = 1))
set_option maxHeartbeats 2000000 in
theorem half_any (x y : Bool) (vq vr vd : Value) (q r d : Nat) (w : World) (hq : At w vq (Nl.limbs q)) (hr : At w vr (Nl.limbs r)) (hd : At w vd (Nl.limbs d)) (fd : (Nl.limbs d).length ≤ 1024) (hrd : r ≤ d) (fq : (Nl.limbs q).length ≤ 1024) :
    Calls Tryz.prog 190 #[.agg #[.bool x, .bool y, vq, vr, vd]] w fun e w' => e = .returned (.bool (halfB q r d)) ∧ Below w.heap.size w w' := by
  obtain ⟨pq, cq, rfl, fq'⟩ := hq.form
  obtain ⟨pr, cr, rfl, -⟩ := hr.form
  obtain ⟨pd, cd, rfl, -⟩ := hd.form
  obtain ⟨lq, hlq⟩ : ∃ lq, lq = (Nl.limbs q).length := ⟨_, rfl⟩
  obtain ⟨lr, hlr⟩ : ∃ lr, lr = (Nl.limbs r).length := ⟨_, rfl⟩
  obtain ⟨ld, hld⟩ : ∃ ld, ld = (Nl.limbs d).length := ⟨_, rfl⟩
  rw [← hlq] at hq ⊢
  rw [← hlr] at hr ⊢
  rw [← hld] at hd ⊢
  have fr : (Nl.limbs r).length ≤ 1024 := Nat.le_trans (Nl.limbs_mono hrd) fd
  have fs : (Nl.limbs (d - r)).length ≤ 1024 := Nat.le_trans (Nl.len_sub d r) fd
  obtain ⟨W, hW⟩ : ∃ W, W = w.alloc (.cells #[.bool x, .bool y, .slice pq lq cq, .slice pr lr cr, .slice pd ld cd] 151) := ⟨_, rfl⟩
  have hb : Below w.heap.size w W := by rw [hW]; exact below_one w _
  have hP : W.heap[w.heap.size]? = some (.cells #[.bool x, .bool y, .slice pq lq cq, .slice pr lr cr, .slice pd ld cd] 151 (0, 0)) := by rw [hW]; exact heap_alloc_new _ _
  have hK : w.heap.size < W.heap.size := lt_of_block hP
  have k2 := cell_of_row _ _ 2 _ _ (0, 0) hP
  have k3 := cell_of_row _ _ 3 _ _ (0, 0) hP
  have k4 := cell_of_row _ _ 4 _ _ (0, 0) hP
  simp only [List.getElem?_toArray, List.getElem?_cons_zero, List.getElem?_cons_succ] at k2 k3 k4
  have bW := hb.trans (below_drewN W 1 w.heap.size)
  have HS := Lib.hid (sub_yes _ _ _ _ W.drew (hd.below bW) (hr.below bW) fd hrd)
  have HC := Lib.hid (fun (w2 : World) (h : Below W.drew.heap.size W.drew w2) (v : Value) (hv : At w2 v (Nl.limbs (d - r))) => compareNats_any _ _ _ _ w2 ((hr.below bW).below h) hv fr fs)
  have HQ := Lib.hid (show ∀ w', Below W.drew.heap.size W.drew w' → 0 < lq → ∃ b off, pq = some ⟨b, off, none⟩ ∧ w'.cell? ⟨b, off, none⟩ = some (.int .u32 ((q % 4294967296 : Nat) : Int)) from by
    intro w' hw' h0
    rcases (hq.below bW).below hw' with ⟨h1, h2⟩ | ⟨b, off, cap, h1, -, -, -, -, h6⟩
    · simp only [Value.slice.injEq] at h1; omega
    · simp only [Value.slice.injEq] at h1
      refine ⟨b, off, h1.1, ?_⟩
      have h7 := h6 0 (by omega)
      rw [Nat.add_zero] at h7
      rw [h7]
      have hq0 : q ≠ 0 := fun h => by rw [hlq, h, Nl.limbs_zero] at h0; exact absurd h0 (by decide)
      rw [Nl.limbs_pos hq0]; rfl)
  have HL := Lib.hid (show lq = 0 ↔ q = 0 by rw [hlq]; exact limbs_nil)
  have HB := Lib.hid hb
  clear hq hr hd fd fq fr fs hP hb bW hlq hlr hld fq'
  have hlow : (q % 4294967296) % 2 = q % 2 := by omega
  obtain ⟨z, hz⟩ : ∃ z, z = q % 4294967296 := ⟨_, rfl⟩
  rw [← hz] at HQ hlow
  have HZ := Lib.hid (And.intro hz hlow)
  clear hz hlow
  obtain ⟨ci, hci⟩ : ∃ ci, ci = cmpI (r : Int) ((d - r : Nat) : Int) := ⟨_, rfl⟩
  rw [← hci] at HC
  have HCI := Lib.hid (And.intro hci hrd)
  clear hci hrd
  have hthree : ci = 1 ∧ d < 2 * r ∨ ci = 0 ∧ 2 * r = d ∨ ci = -1 ∧ 2 * r < d := by
    rw [HCI.out.1, cmpI]
    have := HCI.out.2
    split
    · right; right; exact ⟨rfl, by omega⟩
    · split
      · left; exact ⟨rfl, by omega⟩
      · right; left; exact ⟨rfl, by omega⟩
  have HT := Lib.hid hthree
  clear hthree
  obtain ⟨bb, hbb⟩ : ∃ bb, bb = halfB q r d := ⟨_, rfl⟩
  rw [← hbb]
  have HBB := Lib.hid hbb
  clear hbb
  go_enter Tryz.func190, Tryz.ntmps190
  go_upto_region 1 with fail
  rw [← hW]
  clear hW
  go_region_held3 (fun w' => w'.cell? ⟨w.heap.size, 2, none⟩ = some (.slice pq lq cq) ∧ w'.cell? ⟨w.heap.size, 3, none⟩ = some (.slice pr lr cr) ∧ w'.cell? ⟨w.heap.size, 4, none⟩ = some (.slice pd ld cd))
    (first
      | go_keep
      | assumption)
    (first
      | (go_at_call 143; refine HS.out.mono ?_; rintro e w2 ⟨⟨p2, n2, c2, rfl, hat2⟩, hb2⟩; have d2 := (hb2.cell (p := ⟨w.heap.size, 2, none⟩) hK).trans k2; have d3 := (hb2.cell (p := ⟨w.heap.size, 3, none⟩) hK).trans k3; have d4 := (hb2.cell (p := ⟨w.heap.size, 4, none⟩) hK).trans k4)
      | (go_at_call 125; refine (found_yes _ _ _ _).mono ?_; rintro e w3 ⟨rfl, rfl⟩)
      | (go_at_call 144; refine (HC.out w2 hb2 _ hat2).mono ?_; rintro e w4 ⟨rfl, j, rfl⟩))
  have HH := Lib.hid (And.intro hat2 hb2)
  have hB2 := HB.out.trans ((below_drewN W 1 w.heap.size).trans ((hb2.mono (show w.heap.size ≤ W.drew.heap.size from HB.out.size)).trans (below_drewN w2 j w.heap.size)))
  have HB2 := Lib.hid hB2
  clear hat2 hb2 hB2
  rcases HT.out with ⟨rfl, h2⟩ | ⟨rfl, h2⟩ | ⟨rfl, h2⟩
  · have hh : halfB q r d = true := by rw [halfB, decide_eq_true h2]; rfl
    have HH2 := Lib.hid (HBB.out.trans hh)
    clear hh h2
    go_wp2_with fail
    go_ret
    exact ⟨ret_bool HH2.out.symm, HB2.out⟩
  · have hh : halfB q r d = decide (q % 2 = 1) := by rw [halfB, decide_eq_false (by omega), decide_eq_true h2, Bool.false_or, Bool.true_and]
    have HH2 := Lib.hid (HBB.out.trans hh)
    clear hh h2
    by_cases h0 : lq = 0
    · have e0 : decide (0 < lq) = false := decide_eq_false (by omega)
      have e1 : decide (q % 2 = 1) = false := decide_eq_false (by rw [HL.out.1 h0]; decide)
      have HH3 := Lib.hid (HH2.out.trans e1)
      clear e1
      go_wp2_with fail
      go_ret
      exact ⟨ret_bool HH3.out.symm, HB2.out⟩
    · have e0 : decide (0 < lq) = true := decide_eq_true (by omega)
      have h0' : 0 < lq := by omega
      obtain ⟨b, off, rfl, hc⟩ := HQ.out w2 HH.out.2 h0'
      have hzz := HZ.out.2
      by_cases hodd : q % 2 = 1
      · have e1 : (((z : Int) % 2) == 1) = true := by rw [beq_iff_eq]; omega
        have HH3 := Lib.hid (HH2.out.trans (decide_eq_true hodd))
        clear hodd hzz h0
        go_wp2_with fail
        go_ret
        exact ⟨ret_bool HH3.out.symm, HB2.out⟩
      · have e1 : (((z : Int) % 2) == 1) = false := by rw [beq_eq_false_iff_ne]; omega
        have HH3 := Lib.hid (HH2.out.trans (decide_eq_false hodd))
        clear hodd hzz h0
        go_wp2_with fail
        go_ret
        exact ⟨ret_bool HH3.out.symm, HB2.out⟩
  · have hh : halfB q r d = false := by rw [halfB, decide_eq_false (by omega), decide_eq_false (by omega)]; rfl
    have HH2 := Lib.hid (HBB.out.trans hh)
    clear hh h2
    go_wp2_with fail
    go_ret
    exact ⟨ret_bool HH2.out.symm, HB2.out⟩
end Go.Proofs.YtkbghamkalidcaaGreat

namespace Go.Proofs.YtkbghamkalidcaaGreat
open Go.RowKit

theorem load_whole {w : World} {g : Nat} {t : TypeId} {a b : Value} (hg : w.heap[g]? = some (.cells #[a, b] t (0, 0))) : (loadVar 78 ⟨g, 0, none⟩).run Tryz.prog w = .ok (.agg #[a, b]) w :=
  run_loadVar_row w g t 78 #[a, b] (0, 0) _ hg Tryz.underlying78 rfl (by kernel_rfl)
theorem results_int2 {fn : Func} {p q : Tmp} {ty tz : TypeId} (h : fn.results = #[.cell p ty, .cell q tz]) (tmps : Array Value) (w : World) (g k : Nat) (x u : Value)
    (hp : tmps.getD p undef = .pointer (some ⟨g, 0, none⟩)) (hq : tmps.getD q undef = .pointer (some ⟨k, 0, none⟩)) (hl : (loadVar ty ⟨g, 0, none⟩).run Tryz.prog w = .ok x w) (hm : (loadVar tz ⟨k, 0, none⟩).run Tryz.prog w = .ok u w) :
    (results fn tmps).run Tryz.prog w = .ok (.tuple #[x, u]) w := by
  have hp' : tmps[p]?.getD undef = .pointer (some ⟨g, 0, none⟩) := by simpa using hp
  have hq' : tmps[q]?.getD undef = .pointer (some ⟨k, 0, none⟩) := by simpa using hq
  simp [results, h, hp', hq', asAddr, hl, hm]

/-- four blocks: two integers, and two results -/
structure Four (w W : World) (x y : Value × Value) (t u : TypeId) : Prop where
  below : Below w.heap.size w W
  size : W.heap.size = w.heap.size + 4
  a : W.heap[w.heap.size]? = some (.cells #[x.1, x.2] t (0, 0))
  b : W.heap[w.heap.size + 1]? = some (.cells #[y.1, y.2] t (0, 0))
  r : W.heap[w.heap.size + 2]? = some (.cells #[.bool false, .slice none 0 0] u (0, 0))
  s : W.heap[w.heap.size + 3]? = some (.cells #[.bool false, .slice none 0 0] u (0, 0))
theorem four_mk (w W : World) (x1 x2 y1 y2 : Value) (t u : TypeId) (hW : W = (((w.alloc (.cells #[x1, x2] t)).alloc (.cells #[y1, y2] t)).alloc (.cells #[.bool false, .slice none 0 0] u)).alloc (.cells #[.bool false, .slice none 0 0] u)) : Four w W (x1, x2) (y1, y2) t u := by
  refine ⟨?_, by rw [hW]; simp, ?_, ?_, ?_, ?_⟩
  · rw [hW]; exact (three_new w _ _ _).alloc (by simp <;> omega) _
  · rw [hW]; exact al_keep _ _ (by simp <;> omega) (al_keep _ _ (by simp <;> omega) (al_keep _ _ (by simp <;> omega) (al_at _ _ (by simp))))
  · rw [hW]; exact al_keep _ _ (by simp <;> omega) (al_keep _ _ (by simp <;> omega) (al_at _ _ (by simp)))
  · rw [hW]; exact al_keep _ _ (by simp <;> omega) (al_at _ _ (by simp))
  · rw [hW]; exact al_at _ _ (by simp)
theorem Four.move {w W W' : World} {x y : Value × Value} {t u : TypeId} (h : Four w W x y t u) (hb : Below W.heap.size W W') : Below w.heap.size w W' ∧ W'.heap[w.heap.size]? = some (.cells #[x.1, x.2] t (0, 0)) ∧ W'.heap[w.heap.size + 1]? = some (.cells #[y.1, y.2] t (0, 0)) ∧
    W'.heap[w.heap.size + 2]? = some (.cells #[.bool false, .slice none 0 0] u (0, 0)) ∧ W'.heap[w.heap.size + 3]? = some (.cells #[.bool false, .slice none 0 0] u (0, 0)) :=
  ⟨h.below.trans (hb.mono h.below.size), (hb.block _ (lt_of_block h.a)).trans h.a, (hb.block _ (lt_of_block h.b)).trans h.b, (hb.block _ (lt_of_block h.r)).trans h.r, (hb.block _ (lt_of_block h.s)).trans h.s⟩

/-- what a division of natural numbers gives -/
def DivN (w w' : World) (e : Ending) (q r : Nat) : Prop := (∃ a n c b m d, e = .returned (.tuple #[.slice a n c, .slice b m d, .int .i64 0]) ∧ At w' (.slice a n c) (Nl.limbs q) ∧ At w' (.slice b m d) (Nl.limbs r)) ∧ Below w.heap.size w w'

set_option maxHeartbeats 4000000 in
theorem over4_far (p0 p1 : Option Addr) (l0 c0 l1 c1 : Nat) (a b : Int) (q r : Nat) (w : World) (_hu : At w (.slice p0 l0 c0) (Nl.limbs a.natAbs)) (hv : At w (.slice p1 l1 c1) (Nl.limbs b.natAbs)) (lb : fitI b)
    (hdiv : ∀ w', Below w.heap.size w w' → Calls Tryz.prog 140 #[.slice p0 l0 c0, .slice p1 l1 c1] w' fun e w'' => DivN w' w'' e q r)
    (hr0 : r ≠ 0) (hrb : r ≤ b.natAbs) (fq : (Nl.limbs q).length ≤ 1023) (hh : halfB q r b.natAbs = true) :
    Calls Tryz.prog 80 #[.agg #[.bool (negB a), .slice p0 l0 c0], .agg #[.bool (negB b), .slice p1 l1 c1], .int .i64 4] w fun e w' =>
      (∃ x y, e = .returned (.tuple #[x, y]) ∧ IsI w' x (sgn (negB a != negB b) (q + 1)) ∧ IsI w' y (sgn (!negB a) (b.natAbs - r))) ∧ Below w.heap.size w w' := by
  obtain ⟨s0, hs0⟩ : ∃ s0, s0 = negB a := ⟨_, rfl⟩
  obtain ⟨s1, hs1⟩ : ∃ s1, s1 = negB b := ⟨_, rfl⟩
  rw [← hs0, ← hs1]
  obtain ⟨W, hW⟩ : ∃ W, W = (((w.alloc (.cells #[.bool s0, .slice p0 l0 c0] 78)).alloc (.cells #[.bool s1, .slice p1 l1 c1] 78)).alloc (.cells #[.bool false, .slice none 0 0] 78)).alloc (.cells #[.bool false, .slice none 0 0] 78) := ⟨_, rfl⟩
  have h4 := four_mk w W _ _ _ _ _ _ hW
  have HD := Lib.hid (hdiv W h4.below)
  have HV := Lib.hid hv
  have H4 := Lib.hid h4
  have HX := Lib.hid (And.intro hr0 (And.intro hrb (And.intro fq (And.intro hh lb))))
  have k00 := cell_of_row _ _ 0 _ _ (0, 0) h4.a
  have k01 := cell_of_row _ _ 1 _ _ (0, 0) h4.a
  have k10 := cell_of_row _ _ 0 _ _ (0, 0) h4.b
  have k11 := cell_of_row _ _ 1 _ _ (0, 0) h4.b
  simp only [List.getElem?_toArray, List.getElem?_cons_zero, List.getElem?_cons_succ] at k00 k01 k10 k11
  clear _hu hv lb hdiv hs0 hs1 h4 hr0 hrb fq hh
  go_enter Tryz.func80, Tryz.ntmps80
  go_upto_region 1 with fail
  rw [← hW]
  clear hW
  go_wp2_with fail
  refine HD.out.mono ?_
  rintro e w1 ⟨⟨pq, lq, cq, pr, lr, cr, rfl, hq, hr⟩, hb1⟩
  obtain ⟨B1, e0, e1, e2, e3⟩ := H4.out.move hb1
  have j00 := cell_of_row _ _ 0 _ _ (0, 0) e0
  have j01 := cell_of_row _ _ 1 _ _ (0, 0) e0
  have j10 := cell_of_row _ _ 0 _ _ (0, 0) e1
  have j11 := cell_of_row _ _ 1 _ _ (0, 0) e1
  simp only [List.getElem?_toArray, List.getElem?_cons_zero, List.getElem?_cons_succ] at j00 j01 j10 j11
  have HQR := Lib.hid (And.intro hq (And.intro hr (And.intro B1 (And.intro e0 (And.intro e1 (And.intro e2 e3))))))
  have HLR := Lib.hid (show lr ≠ 0 from fun h => by
    obtain ⟨aa, cc, hf, -⟩ := hr.form
    simp only [Value.slice.injEq] at hf
    have h0 := hf.2.1.symm.trans h
    exact HX.out.1 (limbs_nil.1 h0))
  clear hb1 hq hr B1 e0 e1 e2 e3 HD k00 k01 k10 k11
  go_wp2_with (go_at_call 139; refine (foundTwo_yes _ _ _ _ _ _ _).mono ?_; rintro e w' ⟨rfl, rfl⟩)
  obtain ⟨T, hT⟩ : ∃ T, T = w1.heap.size := ⟨_, rfl⟩
  obtain ⟨w2, hw2⟩ : ∃ w2, w2 = w1.alloc (.cells #[.bool s0, .bool s1, .slice pq lq cq, .slice pr lr cr, .slice p1 l1 c1] 151) := ⟨_, rfl⟩
  rw [← hw2, ← hT]
  have hb2 : Below w1.heap.size w1 w2 := by rw [hw2]; exact below_one w1 _
  have hTb : w2.heap[T]? = some (.cells #[.bool s0, .bool s1, .slice pq lq cq, .slice pr lr cr, .slice p1 l1 c1] 151 (0, 0)) := by rw [hw2, hT]; exact heap_alloc_new _ _
  have hTl : T < w2.heap.size := lt_of_block hTb
  have t0 := cell_of_row _ _ 0 _ _ (0, 0) hTb
  have t1 := cell_of_row _ _ 1 _ _ (0, 0) hTb
  have t2 := cell_of_row _ _ 2 _ _ (0, 0) hTb
  have t3 := cell_of_row _ _ 3 _ _ (0, 0) hTb
  have t4 := cell_of_row _ _ 4 _ _ (0, 0) hTb
  simp only [List.getElem?_toArray, List.getElem?_cons_zero, List.getElem?_cons_succ] at t0 t1 t2 t3 t4
  have HB2 := Lib.hid hb2
  have HH := Lib.hid (fun (w' : World) (h : Below w2.drew.heap.size w2.drew w') => (half_any s0 s1 (.slice pq lq cq) (.slice pr lr cr) (.slice p1 l1 c1) q r b.natAbs w'
    (((HQR.out.1.below hb2).below (below_drewN w2 1 _)).below h) (((HQR.out.2.1.below hb2).below (below_drewN w2 1 _)).below h) (((((HV.out.below HQR.out.2.2.1).below hb2).below (below_drewN w2 1 _))).below h)
    HX.out.2.2.2.2 HX.out.2.1 (Nat.le_trans HX.out.2.2.1 (by decide))))
  have HT := Lib.hid (And.intro hT hTb)
  have e5 : ((lr : Int) == 0) = false := by rw [beq_eq_false_iff_ne]; have := HLR.out; omega
  have hix : ∀ w, (Instr.index 155 (.agg #[.nilFunc, .func (.func 187) #[] #[], .func (.func 188) #[] #[], .func (.func 189) #[] #[], .func (.func 190) #[] #[]]) (.int .i64 4)).run Tryz.prog w = .ok (.agg #[.func (.func 190) #[] #[]]) w := fun _ => by kernel_rfl
  have hfi : ∀ w, (Instr.field 154 (.agg #[.func (.func 190) #[] #[]]) 0).run Tryz.prog w = .ok (.func (.func 190) #[] #[]) w := fun _ => by kernel_rfl
  have HHB := Lib.hid HX.out.2.2.2.1
  clear hb2 hTb hT hw2 j00 j01 j10 j11
  go_region_held3 (fun w' => w'.cell? ⟨T, 0, none⟩ = some (.bool s0) ∧ w'.cell? ⟨T, 1, none⟩ = some (.bool s1) ∧ w'.cell? ⟨T, 2, none⟩ = some (.slice pq lq cq) ∧ w'.cell? ⟨T, 3, none⟩ = some (.slice pr lr cr) ∧ w'.cell? ⟨T, 4, none⟩ = some (.slice p1 l1 c1))
    (first
      | go_keep
      | assumption)
    (first
      | (go_at_call 141; refine (divisions_any _).mono ?_; rintro e w3 ⟨rfl, hb3⟩; have u0 := (hb3.cell (p := ⟨T, 0, none⟩) hTl).trans t0; have u1 := (hb3.cell (p := ⟨T, 1, none⟩) hTl).trans t1; have u2 := (hb3.cell (p := ⟨T, 2, none⟩) hTl).trans t2; have u3 := (hb3.cell (p := ⟨T, 3, none⟩) hTl).trans t3; have u4 := (hb3.cell (p := ⟨T, 4, none⟩) hTl).trans t4)
      | (go_at_call 190; refine (HH.out w3 hb3).mono ?_; rintro e w4 ⟨rfl, hb4⟩; rw [HHB.out]; have v0 := (hb4.cell (p := ⟨T, 0, none⟩) (Nat.lt_of_lt_of_le hTl hb3.size)).trans u0; have v1 := (hb4.cell (p := ⟨T, 1, none⟩) (Nat.lt_of_lt_of_le hTl hb3.size)).trans u1; have v2 := (hb4.cell (p := ⟨T, 2, none⟩) (Nat.lt_of_lt_of_le hTl hb3.size)).trans u2; have v3 := (hb4.cell (p := ⟨T, 3, none⟩) (Nat.lt_of_lt_of_le hTl hb3.size)).trans u3; have v4 := (hb4.cell (p := ⟨T, 4, none⟩) (Nat.lt_of_lt_of_le hTl hb3.size)).trans u4))
  have hb24 : Below w2.heap.size w2 w4 := (below_drewN w2 1 _).trans ((hb3.trans (hb4.mono hb3.size)).mono (Nat.le_refl _))
  have hb14 : Below w1.heap.size w1 w4 := HB2.out.trans (hb24.mono HB2.out.size)
  have HQR4 := Lib.hid (And.intro (HQR.out.1.below hb14) (HQR.out.2.1.below hb14))
  have hB4 : Below w.heap.size w w4 := HQR.out.2.2.1.trans (hb14.mono HQR.out.2.2.1.size)
  have E0 := (hb14.block _ (lt_of_block HQR.out.2.2.2.1)).trans HQR.out.2.2.2.1
  have E1 := (hb14.block _ (lt_of_block HQR.out.2.2.2.2.1)).trans HQR.out.2.2.2.2.1
  have E2 := (hb14.block _ (lt_of_block HQR.out.2.2.2.2.2.1)).trans HQR.out.2.2.2.2.2.1
  have E3 := (hb14.block _ (lt_of_block HQR.out.2.2.2.2.2.2)).trans HQR.out.2.2.2.2.2.2
  have HE := Lib.hid (And.intro hB4 (And.intro E0 (And.intro E1 (And.intro E2 E3))))
  clear hb3 hb4 hb24 hb14 hB4 E0 E1 E2 E3 t0 t1 t2 t3 t4 u0 u1 u2 u3 u4 v0 v1 v2 v3 v4 HH HB2 HQR HT hTl hix hfi
  obtain ⟨x, hx⟩ : ∃ x, x = (!(s0 == s1)) := ⟨_, rfl⟩
  rw [← hx]
  have HXX := Lib.hid hx
  clear hx
  go_wp2_with fail
  have hb5 := below_one w4 (.cells #[.int .u32 1] 80)
  have a1 : At (w4.alloc (.cells #[.int .u32 1] 80)) (.slice (some ⟨w4.heap.size, 0, none⟩) 1 1) (Nl.limbs 1) := by
    rw [limbs_one (by decide) (by decide)]
    have hr := row_new w4 [1]
    exact .inr ⟨w4.heap.size, 0, 1, rfl, trivial, Nat.le_refl _, by omega, hr.lt, fun i hi => by rw [Nat.zero_add]; exact hr.cell hi⟩
  have l1 : (Nl.limbs 1).length ≤ 1 := by rw [limbs_one (by decide) (by decide)]; exact Nat.le_refl _
  have hadd := add_yes _ _ q 1 _ (HQR4.out.1.below hb5) a1 (Nat.le_trans HX.out.2.2.1 (by decide)) (Nat.le_trans l1 (by decide)) (by have h1 := Nl.len_add q 1; have h2 := HX.out.2.2.1; omega)
  refine hadd.mono ?_
  rintro e w6 ⟨⟨p6, n6, c6, rfl, h6⟩, hb6⟩
  have hb46 : Below w4.heap.size w4 w6 := hb5.trans (hb6.mono hb5.size)
  have H6 := Lib.hid (And.intro h6 (HQR4.out.2.below hb46))
  have B6 := Lib.hid (HE.out.1.trans (hb46.mono HE.out.1.size))
  have E0 := (hb46.block _ (lt_of_block HE.out.2.1)).trans HE.out.2.1
  have E1 := (hb46.block _ (lt_of_block HE.out.2.2.1)).trans HE.out.2.2.1
  have E2 := (hb46.block _ (lt_of_block HE.out.2.2.2.1)).trans HE.out.2.2.2.1
  have E3 := (hb46.block _ (lt_of_block HE.out.2.2.2.2)).trans HE.out.2.2.2.2
  have HE6 := Lib.hid (And.intro E2 E3)
  have hK0 : w.heap.size < w6.heap.size := lt_of_block E0
  have hK1 : w.heap.size + 1 < w6.heap.size := lt_of_block E1
  have hK2 : w.heap.size + 2 < w6.heap.size := lt_of_block E2
  have hK3 : w.heap.size + 3 < w6.heap.size := lt_of_block E3
  have k00 := cell_of_row _ _ 0 _ _ (0, 0) E0
  have k11 := cell_of_row _ _ 1 _ _ (0, 0) E1
  simp only [List.getElem?_toArray, List.getElem?_cons_zero, List.getElem?_cons_succ] at k00 k11
  clear h6 hb6 hb5 hb46 a1 l1 hadd E0 E1 E2 E3 HE HQR4
  go_wp2_with (go_at_call 125; refine (found_yes _ _ _ _).mono ?_; rintro e w' ⟨rfl, rfl⟩)
  have ne1 : ¬ w.heap.size = w.heap.size + 1 + 1 := by omega
  have ne2 : ¬ w.heap.size + 1 + 1 = w.heap.size := by omega
  have ne3 : ¬ w.heap.size = w.heap.size + 1 + 1 + 1 := by omega
  have ne4 : ¬ w.heap.size + 1 + 1 + 1 = w.heap.size := by omega
  have ne5 : ¬ w.heap.size + 1 = w.heap.size + 1 + 1 + 1 := by omega
  have ne6 : ¬ w.heap.size + 1 + 1 + 1 = w.heap.size + 1 := by omega
  have HSG := Lib.hid (signed_num x _ (q + 1) w6.drew (H6.out.1.below (below_drewN w6 1 _)))
  have HSB := Lib.hid (fun (w7 : World) (h : Below w6.drew.heap.size w6.drew w7) => sub_yes _ _ b.natAbs r w7 (((HV.out.below B6.out).below (below_drewN w6 1 _)).below h) ((H6.out.2.below (below_drewN w6 1 _)).below h) HX.out.2.2.2.2 HX.out.2.1)
  go_region_held3 (fun w' => w'.cell? ⟨w.heap.size, 0, none⟩ = some (.bool s0) ∧ w'.cell? ⟨w.heap.size + 1, 1, none⟩ = some (.slice p1 l1 c1))
    (first
      | go_keep
      | assumption)
    (first
      | (go_at_call_of 124 (Value.bool x); refine HSG.out.mono ?_; rintro e w7 ⟨⟨t7, rfl, ht7⟩, hb7⟩; have d00 := (hb7.cell (p := ⟨w.heap.size, 0, none⟩) hK0).trans k00; have d11 := (hb7.cell (p := ⟨w.heap.size + 1, 1, none⟩) hK1).trans k11)
      | (go_at_call 143; refine (HSB.out w7 hb7).mono ?_; rintro e w8 ⟨⟨p8, n8, c8, rfl, h8⟩, hb8⟩; have e00 := (hb8.cell (p := ⟨w.heap.size, 0, none⟩) (Nat.lt_of_lt_of_le hK0 hb7.size)).trans d00; have e11 := (hb8.cell (p := ⟨w.heap.size + 1, 1, none⟩) (Nat.lt_of_lt_of_le hK1 hb7.size)).trans d11)
      | (go_at_call 125; refine (found_yes _ _ _ _).mono ?_; rintro e w9 ⟨rfl, rfl⟩)
      | (go_at_call 124; refine (signed_num _ _ _ _ h8).mono ?_; rintro e w10 ⟨⟨t10, rfl, ht10⟩, hb10⟩; have hb78 := hb7.trans (hb8.mono hb7.size); have hb710 := hb78.trans (hb10.mono hb78.size); have f00 := (hb710.cell (p := ⟨w.heap.size, 0, none⟩) hK0).trans k00; have f11 := (hb710.cell (p := ⟨w.heap.size + 1, 1, none⟩) hK1).trans k11; have E2 := (hb710.block (w.heap.size + 2) hK2).trans HE6.out.1; have E3 := (hb710.block (w.heap.size + 3) hK3).trans HE6.out.2; have x0 := frozen_of_row _ _ 0 _ _ E2; have x1 := frozen_of_row _ _ 1 _ _ E2; have y0 := cell_of_row _ _ 0 _ _ (0, 0) E2; have y1 := cell_of_row _ _ 1 _ _ (0, 0) E2; have x2 := frozen_of_row _ _ 0 _ _ E3; have x3 := frozen_of_row _ _ 1 _ _ E3; have y2 := cell_of_row _ _ 0 _ _ (0, 0) E3; have y3 := cell_of_row _ _ 1 _ _ (0, 0) E3; have HZ := Lib.hid (And.intro E2 (And.intro E3 (And.intro ht7 (And.intro ht10 (And.intro h8 (And.intro hb710 hb10)))))); clear E2 E3 ht7 ht10))
  have HF := Lib.hid (And.intro d00 hb8)
  clear hb7 hb8 hb10 hb78 hb710 h8 d00 d11 e00 e11 f00 f11 k00 k11 HSG HSB ne1 ne2 ne3 ne4 ne5 ne6 hK0 hK1 HF
  go_wp2_with fail
  obtain ⟨w11, hw11⟩ : ∃ w11, w11 = (w10.setCell ⟨w.heap.size + 1 + 1, 0, none⟩ (.bool (negB (sgn x (q + 1))))).setCell ⟨w.heap.size + 1 + 1, 1, none⟩ (.slice p6 n6 c6) := ⟨_, rfl⟩
  rw [← hw11]
  have G2 : w11.heap[w.heap.size + 2]? = some (.cells #[.bool (negB (sgn x (q + 1))), .slice p6 n6 c6] 78 (0, 0)) := by rw [hw11]; exact ibox_set (g := w.heap.size + 2) _ _ HZ.out.1
  have G3 : w11.heap[w.heap.size + 3]? = some (.cells #[.bool false, .slice none 0 0] 78 (0, 0)) := by
    rw [hw11, Below.heap_setCell _ ⟨w.heap.size + 1 + 1, 1, none⟩ _ _ (by simp), Below.heap_setCell _ ⟨w.heap.size + 1 + 1, 0, none⟩ _ _ (by simp)]
    exact HZ.out.2.1
  have R3 := ibox_set (g := w.heap.size + 3) (.bool t10) (.slice p8 n8 c8) G3
  have R2 : ((w11.setCell ⟨w.heap.size + 3, 0, none⟩ (.bool t10)).setCell ⟨w.heap.size + 3, 1, none⟩ (.slice p8 n8 c8)).heap[w.heap.size + 2]? = some (.cells #[.bool (negB (sgn x (q + 1))), .slice p6 n6 c6] 78 (0, 0)) := by
    rw [Below.heap_setCell _ ⟨w.heap.size + 3, 1, none⟩ _ _ (by simp), Below.heap_setCell _ ⟨w.heap.size + 3, 0, none⟩ _ _ (by simp)]
    exact G2
  refine bodyPost_ret (v := .tuple #[.agg #[.bool (negB (sgn x (q + 1))), .slice p6 n6 c6], .agg #[.bool t10, .slice p8 n8 c8]]) (results_int2 Tryz.results80 _ _ (w.heap.size + 2) (w.heap.size + 3) _ _ rfl rfl (load_whole R2) (load_whole R3)) rfl ?_
  have hb610 : Below w6.heap.size w6 w10 := (below_drewN w6 1 _).trans (HZ.out.2.2.2.2.2.1.mono (Nat.le_refl _))
  have A6 := at_ibox (g := w.heap.size + 3) (.bool t10) (.slice p8 n8 c8) (show At w11 (.slice p6 n6 c6) (Nl.limbs (q + 1)) by rw [hw11]; exact at_ibox (g := w.heap.size + 2) _ _ (H6.out.1.below hb610) HZ.out.1) G3
  have A8 := at_ibox (g := w.heap.size + 3) (.bool t10) (.slice p8 n8 c8) (show At w11 (.slice p8 n8 c8) (Nl.limbs (b.natAbs - r)) by rw [hw11]; exact at_ibox (g := w.heap.size + 2) _ _ (HZ.out.2.2.2.2.1.below HZ.out.2.2.2.2.2.2) HZ.out.1) G3
  have hb11 : Below w.heap.size w w11 := by rw [hw11]; exact below_ibox (g := w.heap.size + 2) (B6.out.trans (hb610.mono B6.out.size)) (by omega) _ _
  refine ⟨⟨_, _, rfl, isI_mk A6 rfl (by rw [HXX.out]; rfl), isI_mk A8 HZ.out.2.2.2.1 ?_⟩, below_ibox (g := w.heap.size + 3) hb11 (by omega) _ _⟩
  first
    | rfl
    | rw [show ((b.natAbs - r : Nat) : Int) = (b.natAbs : Int) - (r : Int) by have := HX.out.2.1; omega]
end Go.Proofs.YtkbghamkalidcaaGreat
