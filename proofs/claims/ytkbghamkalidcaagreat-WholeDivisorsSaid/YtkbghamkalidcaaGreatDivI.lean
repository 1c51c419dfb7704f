/-
  What Div of package whole does where there is no error. Conditions: those that each theorem names.
-/
import Derived.Test.YtkbghamkalidcaaGreatOverIAll
namespace Go.Proofs.YtkbghamkalidcaaGreat
open Go.RowKit

theorem results_int21 {fn : Func} {p q z : Tmp} {ty tz : TypeId} (h : fn.results = #[.cell p ty, .cell q tz, .tmp z]) (tmps : Array Value) (w : World) (g k : Nat) (x u v : Value)
    (hp : tmps.getD p undef = .pointer (some ⟨g, 0, none⟩)) (hq : tmps.getD q undef = .pointer (some ⟨k, 0, none⟩)) (hz : tmps.getD z undef = v) (hl : (loadVar ty ⟨g, 0, none⟩).run Tryz.prog w = .ok x w) (hm : (loadVar tz ⟨k, 0, none⟩).run Tryz.prog w = .ok u w) :
    (results fn tmps).run Tryz.prog w = .ok (.tuple #[x, u, v]) w := by
  have hp' : tmps[p]?.getD undef = .pointer (some ⟨g, 0, none⟩) := by simpa using hp
  have hq' : tmps[q]?.getD undef = .pointer (some ⟨k, 0, none⟩) := by simpa using hq
  have hz' : tmps[z]?.getD undef = v := by simpa using hz
  simp [results, h, hp', hq', hz', asAddr, hl, hm]

/-- the work of Div: what its variables hold -/
structure DivBox (w : World) (K : Nat) (s0 s1 : Bool) (p0 p1 : Option Addr) (l0 c0 l1 c1 : Nat) (how : Int) : Prop where
  a : w.heap[K]? = some (.cells #[.bool s0, .slice p0 l0 c0] 25 (0, 0))
  b : w.heap[K + 1]? = some (.cells #[.bool s1, .slice p1 l1 c1] 25 (0, 0))
  h : w.heap[K + 2]? = some (.cells #[.int .i64 how] 3 (0, 0))
  q : w.heap[K + 3]? = some (.cells #[.bool false, .slice none 0 0] 25 (0, 0))
  r : w.heap[K + 4]? = some (.cells #[.bool false, .slice none 0 0] 25 (0, 0))
theorem DivBox.move {w w' : World} {K : Nat} {s0 s1 : Bool} {p0 p1 : Option Addr} {l0 c0 l1 c1 : Nat} {how : Int} (h : DivBox w K s0 s1 p0 p1 l0 c0 l1 c1 how) (hb : Below w.heap.size w w') : DivBox w' K s0 s1 p0 p1 l0 c0 l1 c1 how :=
  ⟨(hb.block _ (lt_of_block h.a)).trans h.a, (hb.block _ (lt_of_block h.b)).trans h.b, (hb.block _ (lt_of_block h.h)).trans h.h, (hb.block _ (lt_of_block h.q)).trans h.q, (hb.block _ (lt_of_block h.r)).trans h.r⟩
/-- behind the work -/
def DivDone (w w' : World) (K : Nat) (x y : Int) : Prop := (w.heap.size ≤ w'.heap.size ∧ w'.os = w.os ∧ w'.tape = w.tape ∧ w'.output = w.output ∧ ∀ j, j < w.heap.size → j ≠ K + 3 → j ≠ K + 4 → w'.heap[j]? = w.heap[j]?) ∧
  ∃ p l c p' l' c', w'.heap[K + 3]? = some (.cells #[.bool (negB x), .slice p l c] 25 (0, 0)) ∧ w'.heap[K + 4]? = some (.cells #[.bool (negB y), .slice p' l' c'] 25 (0, 0)) ∧
    AtP (w.heap.size ≤ ·) w' (.slice p l c) (Nl.limbs x.natAbs) ∧ AtP (w.heap.size ≤ ·) w' (.slice p' l' c') (Nl.limbs y.natAbs)

set_option maxHeartbeats 4000000 in
theorem div1_ok (K : Nat) (s0 s1 : Bool) (p0 p1 : Option Addr) (l0 c0 l1 c1 : Nat) (how : Int) (xs ys : List Nat) (x y : Int) (w : World) (hbox : DivBox w K s0 s1 p0 p1 l0 c0 l1 c1 how)
    (hu : At w (.slice p0 l0 c0) xs) (hv : At w (.slice p1 l1 c1) ys) (v0 : validI s0 xs = true) (v1 : validI s1 ys = true) (h1 : 1 ≤ how) (h2 : how ≤ 4) (hl : 0 < l1) (fx : fitI x) (fy : fitI y)
    (hov : ∀ w', Below w.heap.size w w' → Calls Tryz.prog 80 #[.agg #[.bool s0, .slice p0 l0 c0], .agg #[.bool s1, .slice p1 l1 c1], .int .i64 how] w' fun e w'' => (∃ u v, e = .returned (.tuple #[u, v]) ∧ IsI w'' u x ∧ IsI w'' v y) ∧ Below w'.heap.size w' w'') :
    Calls Tryz.prog 79 #[.pointer (some ⟨K, 0, none⟩), .pointer (some ⟨K + 1, 0, none⟩), .pointer (some ⟨K + 2, 0, none⟩), .pointer (some ⟨K + 3, 0, none⟩), .pointer (some ⟨K + 4, 0, none⟩)] w fun e w' =>
      e = .returned (.tuple #[]) ∧ DivDone w w' K x y := by
  obtain ⟨W, hW⟩ : ∃ W, W = w.alloc (.cells #[.bool s0, .slice p0 l0 c0, .bool s1, .slice p1 l1 c1] 25) := ⟨_, rfl⟩
  have hb : Below w.heap.size w W := by rw [hW]; exact below_one w _
  have hrow : W.heap[w.heap.size]? = some (.cells #[.bool s0, .slice p0 l0 c0, .bool s1, .slice p1 l1 c1] 25 (0, 0)) := by rw [hW]; exact heap_alloc_new _ _
  have HM := Lib.hid (mustBeValid_any w.heap.size [(s0, .slice p0 l0 c0, xs), (s1, .slice p1 l1 c1, ys)] W (givenI_two w.heap.size hrow (hu.below hb) (hv.below hb)) (lt_of_block hrow) (by simp))
  have HVV := Lib.hid (show ∀ p ∈ [(s0, Value.slice p0 l0 c0, xs), (s1, Value.slice p1 l1 c1, ys)], okI p = true from fun p hp => by
    simp only [List.mem_cons, List.not_mem_nil, or_false] at hp
    rcases hp with rfl | rfl
    · exact v0
    · exact v1)
  have HB := Lib.hid hb
  have HBX := Lib.hid hbox
  have HOV := Lib.hid hov
  have HFI := Lib.hid (And.intro fx fy)
  have k00 := cell_of_row _ _ 0 _ _ (0, 0) hbox.a
  have k01 := cell_of_row _ _ 1 _ _ (0, 0) hbox.a
  have k10 := cell_of_row _ _ 0 _ _ (0, 0) hbox.b
  have k11 := cell_of_row _ _ 1 _ _ (0, 0) hbox.b
  simp only [List.getElem?_toArray, List.getElem?_cons_zero, List.getElem?_cons_succ] at k00 k01 k10 k11
  have t1 : decide (1 ≤ how) = true := decide_eq_true h1
  have t2 : decide (how ≤ 4) = true := decide_eq_true h2
  have t3 : decide (0 < l1) = true := decide_eq_true hl
  clear hu hv v0 v1 h1 h2 hl fx fy hov hb hrow hbox
  go_enter Tryz.func79, Tryz.ntmps79
  go_wp2_with fail
  rw [← hW]
  clear hW
  refine HM.out.mono ?_
  rintro e w1 ⟨hb1, ⟨-, rfl⟩ | ⟨⟨p, hp, hp2⟩, -⟩⟩
  case inr => exact Bool.noConfusion (hp2.symm.trans (HVV.out p hp))
  have B1 := Lib.hid (HB.out.trans (hb1.mono HB.out.size))
  have X1 := Lib.hid (HBX.out.move B1.out)
  have i00 := cell_of_row _ _ 0 _ _ (0, 0) X1.out.a
  have i01 := cell_of_row _ _ 1 _ _ (0, 0) X1.out.a
  have i10 := cell_of_row _ _ 0 _ _ (0, 0) X1.out.b
  have i11 := cell_of_row _ _ 1 _ _ (0, 0) X1.out.b
  have i20 := cell_of_one X1.out.h
  simp only [List.getElem?_toArray, List.getElem?_cons_zero, List.getElem?_cons_succ] at i00 i01 i10 i11
  clear hb1 HM HVV HB k00 k01 k10 k11
  go_wp2_with (go_at_call 55; refine (must_yes _ _).mono ?_; rintro e w' ⟨rfl, rfl⟩)
  refine (HOV.out w1 B1.out).mono ?_
  rintro e w2 ⟨⟨u, v, rfl, hx, hy⟩, hb2⟩
  obtain ⟨pu, cu, rfl, hu2⟩ := AtI.form hx
  obtain ⟨pv, cv, rfl, hv2⟩ := AtI.form hy
  obtain ⟨lu, hlu⟩ : ∃ lu, lu = (Nl.limbs x.natAbs).length := ⟨_, rfl⟩
  obtain ⟨lv, hlv⟩ : ∃ lv, lv = (Nl.limbs y.natAbs).length := ⟨_, rfl⟩
  rw [← hlu] at hu2 ⊢
  rw [← hlv] at hv2 ⊢
  obtain ⟨sx, hsx⟩ : ∃ sx, sx = negB x := ⟨_, rfl⟩
  obtain ⟨sy, hsy⟩ : ∃ sy, sy = negB y := ⟨_, rfl⟩
  rw [← hsx, ← hsy]
  have B2 := Lib.hid (B1.out.trans (hb2.mono B1.out.size))
  have X2 := Lib.hid (X1.out.move hb2)
  have H2 := Lib.hid (And.intro hu2 (And.intro hv2 (And.intro hsx (And.intro hsy (And.intro hlu hlv)))))
  clear hb2 hu2 hv2 hsx hsy hlu hlv hx hy HOV t1 t2 t3 i00 i01 i10 i11 i20 X1
  go_wp2_with fail
  obtain ⟨w3, hw3⟩ : ∃ w3, w3 = (w2.alloc (.cells #[.bool sx, .slice pu lu cu] 78)).alloc (.cells #[.bool sy, .slice pv lv cv] 78) := ⟨_, rfl⟩
  rw [← hw3]
  have hb3 : Below w2.heap.size w2 w3 := by rw [hw3]; exact two_new w2 _ _
  have T0 : w3.heap[w2.heap.size]? = some (.cells #[.bool sx, .slice pu lu cu] 78 (0, 0)) := by rw [hw3]; exact heap_alloc2_old w2 _ _
  have T1 : w3.heap[w2.heap.size + 1]? = some (.cells #[.bool sy, .slice pv lv cv] 78 (0, 0)) := by rw [hw3]; exact heap_alloc2_new w2 _ _
  obtain ⟨T, hT⟩ : ∃ T, T = w2.heap.size := ⟨_, rfl⟩
  rw [← hT] at T0 T1 ⊢
  have hT0 : T < w3.heap.size := lt_of_block T0
  have hT1 : T + 1 < w3.heap.size := lt_of_block T1
  have k00 := cell_of_row _ _ 0 _ _ (0, 0) T0
  have k01 := cell_of_row _ _ 1 _ _ (0, 0) T0
  have k10 := cell_of_row _ _ 0 _ _ (0, 0) T1
  have k11 := cell_of_row _ _ 1 _ _ (0, 0) T1
  simp only [List.getElem?_toArray, List.getElem?_cons_zero, List.getElem?_cons_succ] at k00 k01 k10 k11
  have X3 := X2.out.move hb3
  have hKT : K + 4 < T := by rw [hT]; exact lt_of_block X2.out.r
  have ne1 : ¬ T = K + 3 := by omega
  have ne2 : ¬ T = K + 4 := by omega
  have ne3 : ¬ T + 1 = K + 3 := by omega
  have ne4 : ¬ T + 1 = K + 4 := by omega
  have ne5 : ¬ K + 3 = T := by omega
  have ne6 : ¬ K + 4 = T := by omega
  have ne7 : ¬ K + 3 = T + 1 := by omega
  have ne8 : ¬ K + 4 = T + 1 := by omega
  have hlq : K + 3 < w3.heap.size := lt_of_block X3.q
  have hlr : K + 4 < w3.heap.size := lt_of_block X3.r
  have bd := below_drewN w3 1 w3.heap.size
  have hk1 := ikept_yes (.agg #[.bool sx, .slice pu lu cu]) sx (Nl.limbs x.natAbs) w3.drew (AtI.mk ((H2.out.1.below hb3).below bd)) HFI.out.1
  have HK1 := Lib.hid hk1
  have HK2 := Lib.hid (fun (w4 : World) (h : Below w3.drew.heap.size w3.drew w4) => ikept_yes (.agg #[.bool sy, .slice pv lv cv]) sy (Nl.limbs y.natAbs) w4 (AtI.mk (((H2.out.2.1.below hb3).below bd).below h)) HFI.out.2)
  have HX3 := Lib.hid (And.intro X3 (B2.out.trans (hb3.mono B2.out.size)))
  clear hb3 T0 T1 X3 X2 B2 bd hk1 hw3 hT B1 hKT
  go_region_held3 (fun w' => w'.cell? ⟨T, 0, none⟩ = some (.bool sx) ∧ w'.cell? ⟨T, 1, none⟩ = some (.slice pu lu cu) ∧ w'.cell? ⟨T + 1, 0, none⟩ = some (.bool sy) ∧ w'.cell? ⟨T + 1, 1, none⟩ = some (.slice pv lv cv))
    (first
      | go_keep
      | assumption)
    (first
      | (go_at_call_of 78 (Value.slice pu lu cu); refine HK1.out.mono ?_; rintro e w4 ⟨⟨u4, rfl, hu4⟩, hb4⟩; obtain ⟨p4, c4, rfl, -⟩ := hu4.form; have d00 := (hb4.cell (p := ⟨T, 0, none⟩) hT0).trans k00; have d01 := (hb4.cell (p := ⟨T, 1, none⟩) hT0).trans k01; have d10 := (hb4.cell (p := ⟨T + 1, 0, none⟩) hT1).trans k10; have d11 := (hb4.cell (p := ⟨T + 1, 1, none⟩) hT1).trans k11)
      | (go_at_call_of 78 (Value.slice pv lv cv); refine (HK2.out w4 hb4).mono ?_; rintro e w5 ⟨⟨u5, rfl, hu5⟩, hb5⟩; obtain ⟨p5, c5, rfl, -⟩ := hu5.form; have hb45 := hb4.trans (hb5.mono hb4.size); have e00 := (hb45.cell (p := ⟨T, 0, none⟩) hT0).trans k00; have e01 := (hb45.cell (p := ⟨T, 1, none⟩) hT0).trans k01; have e10 := (hb45.cell (p := ⟨T + 1, 0, none⟩) hT1).trans k10; have e11 := (hb45.cell (p := ⟨T + 1, 1, none⟩) hT1).trans k11; have BQ := (hb45.block (K + 3) hlq).trans HX3.out.1.q; have BR := (hb45.block (K + 4) hlr).trans HX3.out.1.r; have f0 := frozen_of_row _ _ 0 _ _ BQ; have f1 := frozen_of_row _ _ 1 _ _ BQ; have g0 := cell_of_row _ _ 0 _ _ (0, 0) BQ; have g1 := cell_of_row _ _ 1 _ _ (0, 0) BQ; have f2 := frozen_of_row _ _ 0 _ _ BR; have f3 := frozen_of_row _ _ 1 _ _ BR; have g2 := cell_of_row _ _ 0 _ _ (0, 0) BR; have g3 := cell_of_row _ _ 1 _ _ (0, 0) BR; have HZ := Lib.hid (And.intro BQ (And.intro BR (And.intro hu4 (And.intro hu5 (And.intro hb4 (And.intro hb5 hb45)))))); clear BQ BR))
  clear hb4 hb5 hb45 hu4 hu5 d00 d01 d10 d11 e00 e01 e10 e11 k00 k01 k10 k11 HK1 HK2 hT0 hT1 ne1 ne2 ne3 ne4 ne5 ne6 ne7 ne8
  go_wp2_with fail
  go_end0
  obtain ⟨V, hV⟩ : ∃ V, V = (w5.setCell ⟨K + 3, 0, none⟩ (.bool sx)).setCell ⟨K + 3, 1, none⟩ (.slice p4 (Nl.limbs x.natAbs).length c4) := ⟨_, rfl⟩
  have G1 : V.heap[K + 3]? = some (.cells #[.bool sx, .slice p4 (Nl.limbs x.natAbs).length c4] 25 (0, 0)) := by rw [hV]; exact ibox_set _ _ HZ.out.1
  have G2 : V.heap[K + 4]? = some (.cells #[.bool false, .slice none 0 0] 25 (0, 0)) := by
    rw [hV, Below.heap_setCell _ ⟨K + 3, 1, none⟩ _ _ (by simp), Below.heap_setCell _ ⟨K + 3, 0, none⟩ _ _ (by simp)]
    exact HZ.out.2.1
  have R2 := ibox_set (g := K + 4) (.bool sy) (.slice p5 (Nl.limbs y.natAbs).length c5) G2
  have R1 : ((V.setCell ⟨K + 4, 0, none⟩ (.bool sy)).setCell ⟨K + 4, 1, none⟩ (.slice p5 (Nl.limbs y.natAbs).length c5)).heap[K + 3]? = some (.cells #[.bool sx, .slice p4 (Nl.limbs x.natAbs).length c4] 25 (0, 0)) := by
    rw [Below.heap_setCell _ ⟨K + 4, 1, none⟩ _ _ (by simp), Below.heap_setCell _ ⟨K + 4, 0, none⟩ _ _ (by simp)]
    exact G1
  have hws : w.heap.size ≤ w3.heap.size := HX3.out.2.size
  have hb35 : Below w3.heap.size w3 w5 := (below_drewN w3 1 _).trans (HZ.out.2.2.2.2.2.2.mono (Nat.le_refl _))
  have hbw5 : Below w.heap.size w w5 := HX3.out.2.trans (hb35.mono hws)
  have A4 : AtP (w.heap.size ≤ ·) w5 (.slice p4 (Nl.limbs x.natAbs).length c4) (Nl.limbs x.natAbs) := (HZ.out.2.2.1.mono fun _ _ h => Nat.le_trans hws h).below HZ.out.2.2.2.2.2.1
  have A5 : AtP (w.heap.size ≤ ·) w5 (.slice p5 (Nl.limbs y.natAbs).length c5) (Nl.limbs y.natAbs) := HZ.out.2.2.2.1.mono fun _ _ h => Nat.le_trans (Nat.le_trans hws (show w3.heap.size ≤ w4.heap.size from HZ.out.2.2.2.2.1.size)) h
  have A4' : AtP (w.heap.size ≤ ·) V (.slice p4 (Nl.limbs x.natAbs).length c4) (Nl.limbs x.natAbs) := by rw [hV]; exact at_ibox _ _ A4 HZ.out.1
  have A5' : AtP (w.heap.size ≤ ·) V (.slice p5 (Nl.limbs y.natAbs).length c5) (Nl.limbs y.natAbs) := by rw [hV]; exact at_ibox _ _ A5 HZ.out.1
  rw [← hV]
  refine ⟨rfl, ⟨?_, ?_, ?_, ?_, ?_⟩, p4, _, c4, p5, _, c5, by rw [← H2.out.2.2.1]; exact R1, by rw [← H2.out.2.2.2.1]; exact R2, at_ibox _ _ A4' G2, at_ibox _ _ A5' G2⟩
  · rw [hV]; have := hbw5.size; simpa [World.setCell] using this
  · rw [hV]; exact hbw5.os
  · rw [hV]; exact hbw5.tape
  · rw [hV]; exact hbw5.output
  · intro j hj n3 n4
    rw [Below.heap_setCell _ ⟨K + 4, 1, none⟩ _ _ n4, Below.heap_setCell _ ⟨K + 4, 0, none⟩ _ _ n4, hV, Below.heap_setCell _ ⟨K + 3, 1, none⟩ _ _ n3, Below.heap_setCell _ ⟨K + 3, 0, none⟩ _ _ n3]
    exact hbw5.block j hj

/-- what a call gives that gives two integers -/
def TwoI (w w' : World) (e : Ending) (x y : Int) : Prop := (∃ u v, e = .returned (.tuple #[u, v, .int .i64 0]) ∧ IsI w' u x ∧ IsI w' v y) ∧ Below w.heap.size w w'
def DivR (w w1 : World) (x y : Int) (Z : Nat) : Prop := Below w.heap.size w w1 ∧ Z ≤ w1.heap.size ∧ ∃ p l c p' l' c', w1.heap[w.heap.size + 3]? = some (.cells #[.bool (negB x), .slice p l c] 25 (0, 0)) ∧ w1.heap[w.heap.size + 4]? = some (.cells #[.bool (negB y), .slice p' l' c'] 25 (0, 0)) ∧
    AtP (Z ≤ ·) w1 (.slice p l c) (Nl.limbs x.natAbs) ∧ AtP (Z ≤ ·) w1 (.slice p' l' c') (Nl.limbs y.natAbs)

set_option maxHeartbeats 4000000 in
theorem wholeDiv_ok (v0 v1 : Value) (s0 s1 : Bool) (how : Int) (xs ys : List Nat) (x y : Int) (w : World) (h0 : AtI w v0 s0 xs) (h1 : AtI w v1 s1 ys) (k0 : validI s0 xs = true) (k1 : validI s1 ys = true) (hh1 : 1 ≤ how) (hh2 : how ≤ 4) (hl : 0 < ys.length) (fx : fitI x) (fy : fitI y)
    (hov : ∀ w', Below w.heap.size w w' → Calls Tryz.prog 80 #[v0, v1, .int .i64 how] w' fun e w'' => (∃ u v, e = .returned (.tuple #[u, v]) ∧ IsI w'' u x ∧ IsI w'' v y) ∧ Below w'.heap.size w' w'') :
    Calls Tryz.prog 31 #[v0, v1, .int .i64 how] w fun e w' => TwoI w w' e x y := by
  have hmf : ∀ (fn : Fn) (first cap : Array Value) (w : World), (Instr.makeFunc fn first cap).run Tryz.prog w = .ok (.func fn first cap) w := fun _ _ _ _ => rfl
  obtain ⟨p0, c0, rfl, u0⟩ := h0.form
  obtain ⟨p1, c1, rfl, u1⟩ := h1.form
  obtain ⟨W, hW⟩ : ∃ W, W = ((((w.alloc (.cells #[.bool s0, .slice p0 xs.length c0] 25)).alloc (.cells #[.bool s1, .slice p1 ys.length c1] 25)).alloc (.cells #[.int .i64 how] 3)).alloc (.cells #[.bool false, .slice none 0 0] 25)).alloc (.cells #[.bool false, .slice none 0 0] 25) := ⟨_, rfl⟩
  have hb : Below w.heap.size w W := by rw [hW]; exact ((three_new w _ _ _).alloc (by simp <;> omega) _).alloc (by simp <;> omega) _
  have hs : W.heap.size = w.heap.size + 5 := by rw [hW]; simp
  have hbox : DivBox W w.heap.size s0 s1 p0 p1 xs.length c0 ys.length c1 how := by
    refine ⟨?_, ?_, ?_, ?_, ?_⟩
    · rw [hW]; exact al_keep _ _ (by simp <;> omega) (al_keep _ _ (by simp <;> omega) (al_keep _ _ (by simp <;> omega) (al_keep _ _ (by simp <;> omega) (al_at _ _ (by simp)))))
    · rw [hW]; exact al_keep _ _ (by simp <;> omega) (al_keep _ _ (by simp <;> omega) (al_keep _ _ (by simp <;> omega) (al_at _ _ (by simp))))
    · rw [hW]; exact al_keep _ _ (by simp <;> omega) (al_keep _ _ (by simp <;> omega) (al_at _ _ (by simp)))
    · rw [hW]; exact al_keep _ _ (by simp <;> omega) (al_at _ _ (by simp))
    · rw [hW]; exact al_at _ _ (by simp)
  have HCALL := Lib.hid (call_any 79 #[.pointer (some ⟨w.heap.size, 0, none⟩), .pointer (some ⟨w.heap.size + 1, 0, none⟩), .pointer (some ⟨w.heap.size + 2, 0, none⟩), .pointer (some ⟨w.heap.size + 3, 0, none⟩), .pointer (some ⟨w.heap.size + 4, 0, none⟩)] W (fun c a w1 => a = 0 ∧ c = 0 ∧ DivR w w1 x y (W.heap.size + 2)) (fun V hV hsV => by
    have hwV := hb.trans (hV.mono hb.size)
    refine (div1_ok w.heap.size s0 s1 p0 p1 xs.length c0 ys.length c1 how xs ys x y V (hbox.move hV) (u0.below hwV) (u1.below hwV) k0 k1 hh1 hh2 hl fx fy (fun w' h => hov w' (hwV.trans (h.mono hwV.size)))).mono ?_
    rintro e w1 ⟨rfl, ⟨z1, z2, z3, z4, z5⟩, p, l, c, p', l', c', g1, g2, a1, a2⟩
    refine ⟨fun j j1 j2 => z5 j j2 (by omega) (by omega), .inl ⟨rfl, rfl, rfl, ?_, by omega, p, l, c, p', l', c', g1, g2, ?_, ?_⟩⟩
    · exact hwV.trans ⟨z2, z3, z4, z1, fun j hj => z5 j (Nat.lt_of_lt_of_le hj hwV.size) (by omega) (by omega)⟩
    · rw [hsV] at a1; exact a1
    · rw [hsV] at a2; exact a2) (fun _ _ => by kernel_rfl))
  have HS := Lib.hid hs
  clear h0 h1 k0 k1 hh1 hh2 hl fx fy hov hb hs hbox u0 u1
  go_enter Tryz.func31, Tryz.ntmps31
  go_wp2_with fail
  rw [← hW]
  clear hW
  refine HCALL.out.mono ?_
  rintro e w3 ⟨c, a', w1, rfl, ⟨rfl, rfl, hbw, hsz, p, l, cp, p', l', cp', g1, g2, a1, a2⟩, hcau⟩
  have s0 := HS.out
  have hb3 : Below w.heap.size w w3 := below_caught hbw hcau (by omega) (by omega) (by omega)
  have G1 : w3.heap[w.heap.size + 3]? = _ := (hcau.same _ (by omega) (by omega) (by omega)).trans g1
  have G2 : w3.heap[w.heap.size + 4]? = _ := (hcau.same _ (by omega) (by omega) (by omega)).trans g2
  have A1 := a1.caught hcau (fun b hb => by omega)
  have A2 := a2.caught hcau (fun b hb => by omega)
  obtain ⟨sx, hsx⟩ : ∃ sx, sx = negB x := ⟨_, rfl⟩
  obtain ⟨sy, hsy⟩ : ∃ sy, sy = negB y := ⟨_, rfl⟩
  rw [← hsx] at G1
  rw [← hsy] at G2
  have k00 := cell_of_row _ _ 0 _ _ (0, 0) G1
  have k01 := cell_of_row _ _ 1 _ _ (0, 0) G1
  have k10 := cell_of_row _ _ 0 _ _ (0, 0) G2
  have k11 := cell_of_row _ _ 1 _ _ (0, 0) G2
  simp only [List.getElem?_toArray, List.getElem?_cons_zero, List.getElem?_cons_succ] at k00 k01 k10 k11
  have f0 := frozen_of_row _ _ 0 _ _ G1
  have f1 := frozen_of_row _ _ 1 _ _ G1
  have f2 := frozen_of_row _ _ 0 _ _ G2
  have f3 := frozen_of_row _ _ 1 _ _ G2
  have HZ := Lib.hid (And.intro hb3 (And.intro G1 (And.intro G2 (And.intro A1 (And.intro A2 (And.intro hsx hsy))))))
  clear hbw hsz g1 g2 a1 a2 hcau hb3 G1 G2 A1 A2 hsx hsy HCALL s0
  go_wp2_with fail
  go_region
  go_wp2_with fail
  obtain ⟨V, hV⟩ : ∃ V, V = (w3.setCell ⟨w.heap.size + 3, 0, none⟩ (.bool sx)).setCell ⟨w.heap.size + 3, 1, none⟩ (.slice p l cp) := ⟨_, rfl⟩
  have G1 : V.heap[w.heap.size + 3]? = some (.cells #[.bool sx, .slice p l cp] 25 (0, 0)) := by rw [hV]; exact ibox_set _ _ HZ.out.2.1
  have G2 : V.heap[w.heap.size + 4]? = some (.cells #[.bool sy, .slice p' l' cp'] 25 (0, 0)) := by
    rw [hV, Below.heap_setCell _ ⟨w.heap.size + 3, 1, none⟩ _ _ (by simp), Below.heap_setCell _ ⟨w.heap.size + 3, 0, none⟩ _ _ (by simp)]
    exact HZ.out.2.2.1
  have R2 := ibox_set (g := w.heap.size + 4) (.bool sy) (.slice p' l' cp') G2
  have R1 : ((V.setCell ⟨w.heap.size + 4, 0, none⟩ (.bool sy)).setCell ⟨w.heap.size + 4, 1, none⟩ (.slice p' l' cp')).heap[w.heap.size + 3]? = some (.cells #[.bool sx, .slice p l cp] 25 (0, 0)) := by
    rw [Below.heap_setCell _ ⟨w.heap.size + 4, 1, none⟩ _ _ (by simp), Below.heap_setCell _ ⟨w.heap.size + 4, 0, none⟩ _ _ (by simp)]
    exact G1
  have A1 := at_ibox (g := w.heap.size + 4) (.bool sy) (.slice p' l' cp') (show AtP _ V (.slice p l cp) (Nl.limbs x.natAbs) by rw [hV]; exact at_ibox _ _ HZ.out.2.2.2.1 HZ.out.2.1) G2
  have A2 := at_ibox (g := w.heap.size + 4) (.bool sy) (.slice p' l' cp') (show AtP _ V (.slice p' l' cp') (Nl.limbs y.natAbs) by rw [hV]; exact at_ibox _ _ HZ.out.2.2.2.2.1 HZ.out.2.1) G2
  have hbV : Below w.heap.size w V := by rw [hV]; exact below_ibox HZ.out.1 (by omega) _ _
  show bodyPost _ _ _ _ _ ((((w3.setCell ⟨w.heap.size + 3, 0, none⟩ (.bool sx)).setCell ⟨w.heap.size + 3, 1, none⟩ (.slice p l cp)).setCell ⟨w.heap.size + 4, 0, none⟩ (.bool sy)).setCell ⟨w.heap.size + 4, 1, none⟩ (.slice p' l' cp')).drew
  rw [← hV]
  refine bodyPost_ret (v := .tuple #[.agg #[.bool sx, .slice p l cp], .agg #[.bool sy, .slice p' l' cp'], .int .i64 0]) (results_int21 Tryz.results31 _ _ (w.heap.size + 3) (w.heap.size + 4) _ _ _ rfl rfl rfl (load_int (w := World.drew _) R1) (load_int (w := World.drew _) R2)) rfl ?_
  refine ⟨⟨_, _, rfl, ?_, ?_⟩, (below_ibox hbV (g := w.heap.size + 4) (by omega) _ _).trans (below_drewN _ 1 _)⟩
  · rw [IsI, ← HZ.out.2.2.2.2.2.1]; exact AtI.mk A1.at
  · rw [IsI, ← HZ.out.2.2.2.2.2.2]; exact AtI.mk A2.at
end Go.Proofs.YtkbghamkalidcaaGreat
