/-
  What commonDivisor of package whole does with small positive numbers where its first factor is to be turned. Conditions: those that each theorem names.
-/
import Derived.Test.YtkbghamkalidcaaGreatEuclidI
namespace Go.Proofs.YtkbghamkalidcaaGreat
open Go.RowKit

/-- the five variables of commonDivisor -/
structure CdBox (w : World) (K : Nat) (s0 s1 : Bool) (p0 p1 : Option Addr) (l0 c0 l1 c1 : Nat) (x y : Value × Value) : Prop where
  a : w.heap[K]? = some (.cells #[.bool s0, .slice p0 l0 c0] 78 (0, 0))
  b : w.heap[K + 1]? = some (.cells #[.bool s1, .slice p1 l1 c1] 78 (0, 0))
  g : w.heap[K + 2]? = some (.cells #[.bool false, .slice none 0 0] 78 (0, 0))
  x : w.heap[K + 3]? = some (.cells #[x.1, x.2] 78 (0, 0))
  y : w.heap[K + 4]? = some (.cells #[y.1, y.2] 78 (0, 0))
theorem CdBox.move {w w' : World} {K : Nat} {s0 s1 : Bool} {p0 p1 : Option Addr} {l0 c0 l1 c1 : Nat} {x y : Value × Value} (h : CdBox w K s0 s1 p0 p1 l0 c0 l1 c1 x y) (hb : Below w.heap.size w w') : CdBox w' K s0 s1 p0 p1 l0 c0 l1 c1 x y :=
  ⟨(hb.block _ (lt_of_block h.a)).trans h.a, (hb.block _ (lt_of_block h.b)).trans h.b, (hb.block _ (lt_of_block h.g)).trans h.g, (hb.block _ (lt_of_block h.x)).trans h.x, (hb.block _ (lt_of_block h.y)).trans h.y⟩

theorem ibox2 {w : World} {g k : Nat} {T U : TypeId} {s s' : Bool} {p p' : Option Addr} {l c l' c' : Nat} (hgk : g ≠ k) (hg : w.heap[g]? = some (.cells #[.bool s, .slice p l c] T (0, 0))) (hk : w.heap[k]? = some (.cells #[.bool s', .slice p' l' c'] U (0, 0)))
    (x y : Bool) (px py : Option Addr) (lx cx ly cy : Nat) (V : World) (hV : V = (((w.setCell ⟨g, 0, none⟩ (.bool x)).setCell ⟨g, 1, none⟩ (.slice px lx cx)).setCell ⟨k, 0, none⟩ (.bool y)).setCell ⟨k, 1, none⟩ (.slice py ly cy)) :
    V.heap[g]? = some (.cells #[.bool x, .slice px lx cx] T (0, 0)) ∧ V.heap[k]? = some (.cells #[.bool y, .slice py ly cy] U (0, 0)) ∧ (∀ j, j ≠ g → j ≠ k → V.heap[j]? = w.heap[j]?) ∧
    (∀ {q : Nat → Prop} {v : Value} {xs : List Nat}, AtP q w v xs → AtP q V v xs) ∧ (∀ B w0, B ≤ g → B ≤ k → Below B w0 w → Below B w0 V) := by
  obtain ⟨U1, hU⟩ : ∃ U1, U1 = (w.setCell ⟨g, 0, none⟩ (.bool x)).setCell ⟨g, 1, none⟩ (.slice px lx cx) := ⟨_, rfl⟩
  rw [← hU] at hV
  have G1 : U1.heap[g]? = some (.cells #[.bool x, .slice px lx cx] T (0, 0)) := by rw [hU]; exact ibox_set _ _ hg
  have G2 : U1.heap[k]? = some (.cells #[.bool s', .slice p' l' c'] U (0, 0)) := by
    rw [hU, Below.heap_setCell _ ⟨g, 1, none⟩ _ _ hgk.symm, Below.heap_setCell _ ⟨g, 0, none⟩ _ _ hgk.symm]
    exact hk
  refine ⟨?_, ?_, fun j j1 j2 => ?_, fun h => ?_, fun B w0 b1 b2 h => ?_⟩
  · rw [hV, Below.heap_setCell _ ⟨k, 1, none⟩ _ _ hgk, Below.heap_setCell _ ⟨k, 0, none⟩ _ _ hgk]; exact G1
  · rw [hV]; exact ibox_set _ _ G2
  · rw [hV, Below.heap_setCell _ ⟨k, 1, none⟩ _ _ j2, Below.heap_setCell _ ⟨k, 0, none⟩ _ _ j2, hU, Below.heap_setCell _ ⟨g, 1, none⟩ _ _ j1, Below.heap_setCell _ ⟨g, 0, none⟩ _ _ j1]
  · rw [hV]; exact at_ibox _ _ (by rw [hU]; exact at_ibox _ _ h hg) G2
  · rw [hV]; exact below_ibox (by rw [hU]; exact below_ibox h b1 _ _) b2 _ _
theorem results_int3 {fn : Func} {p q z : Tmp} {ty tz tu : TypeId} (h : fn.results = #[.cell p ty, .cell q tz, .cell z tu]) (tmps : Array Value) (w : World) (g k j : Nat) (x u v : Value)
    (hp : tmps.getD p undef = .pointer (some ⟨g, 0, none⟩)) (hq : tmps.getD q undef = .pointer (some ⟨k, 0, none⟩)) (hz : tmps.getD z undef = .pointer (some ⟨j, 0, none⟩)) (hl : (loadVar ty ⟨g, 0, none⟩).run Tryz.prog w = .ok x w) (hm : (loadVar tz ⟨k, 0, none⟩).run Tryz.prog w = .ok u w) (hn : (loadVar tu ⟨j, 0, none⟩).run Tryz.prog w = .ok v w) :
    (results fn tmps).run Tryz.prog w = .ok (.tuple #[x, u, v]) w := by
  have hp' : tmps[p]?.getD undef = .pointer (some ⟨g, 0, none⟩) := by simpa using hp
  have hq' : tmps[q]?.getD undef = .pointer (some ⟨k, 0, none⟩) := by simpa using hq
  have hz' : tmps[z]?.getD undef = .pointer (some ⟨j, 0, none⟩) := by simpa using hz
  simp [results, h, hp', hq', hz', asAddr, hl, hm, hn]
theorem signed_minus (v : Value) (m : Nat) (w : World) (h : At w v (Nl.limbs m)) (hm : 0 < m) : Calls Tryz.prog 124 #[.bool true, v] w fun e w' => e = .returned (.agg #[.bool true, v]) ∧ Below w.heap.size w w' := by
  refine (signed_num true v m w h).mono ?_
  rintro e w' ⟨⟨t, rfl, ht⟩, hb⟩
  rw [sgn_neg, decide_eq_true hm] at ht
  subst ht
  exact ⟨rfl, hb⟩
theorem signed_plus (v : Value) (m : Nat) (w : World) (h : At w v (Nl.limbs m)) : Calls Tryz.prog 124 #[.bool false, v] w fun e w' => e = .returned (.agg #[.bool false, v]) ∧ Below w.heap.size w w' := by
  refine (signed_num false v m w h).mono ?_
  rintro e w' ⟨⟨t, rfl, ht⟩, hb⟩
  rw [sgn_neg] at ht
  subst ht
  exact ⟨rfl, hb⟩
theorem isI_pos {w : World} {v : Value} {m : Nat} (h : At w v (Nl.limbs m)) : IsI w (.agg #[.bool false, v]) (m : Int) := isI_mk (s := false) h (by rw [sgn_neg]; rfl) rfl
theorem isI_neg {w : World} {v : Value} {m : Nat} (h : At w v (Nl.limbs m)) (hm : 0 < m) : IsI w (.agg #[.bool true, v]) (-(m : Int)) := isI_mk (s := true) h (by rw [sgn_neg, decide_eq_true hm]; rfl) rfl
theorem fit_small {n : Int} (h : n.natAbs < 4294967296 ^ 3) : fitI n := Nat.le_trans (Nl.limbs_lt h) (by decide)
theorem minus_yes (va vb : Value) (a b : Int) (w : World) (ha : IsI w va a) (hb : IsI w vb b) (la : fitI a) (lb : fitI b) (hf : fitI (a - b)) :
    Calls Tryz.prog 113 #[va, vb] w fun e w' => Below w.heap.size w w' ∧ ∃ v, e = .returned v ∧ IsI w' v (a - b) :=
  (minus_does va vb a b w ha hb la lb).mono fun _ _ h => ⟨h.1, h.2.elim (fun h => h.2) (fun h => absurd hf h.1)⟩

set_option maxRecDepth 10000 in
set_option maxHeartbeats 8000000 in
theorem common_small (p0 p1 : Option Addr) (l0 c0 l1 c1 : Nat) (R S : ERow) (w : World) (hl : 0 < l1) (hR : tiny R) (hS : tiny S) (hx : 0 < R.2.1)
    (heu : ∀ w', Below w.heap.size w w' → Calls Tryz.prog 137 #[.slice p0 l0 c0, .slice p1 l1 c1] w' fun e w'' => EucOut w' w'' e R S true) :
    Calls Tryz.prog 77 #[.agg #[.bool false, .slice p0 l0 c0], .agg #[.bool false, .slice p1 l1 c1]] w fun e w' =>
      (∃ u v t, e = .returned (.tuple #[u, v, t]) ∧ IsI w' u (R.1 : Int) ∧ IsI w' v (-(R.2.1 : Int) + S.2.1) ∧ IsI w' t ((R.2.2 : Int) - S.2.2)) ∧ Below w.heap.size w w' := by
  obtain ⟨W, hW⟩ : ∃ W, W = ((((w.alloc (.cells #[.bool false, .slice p0 l0 c0] 78)).alloc (.cells #[.bool false, .slice p1 l1 c1] 78)).alloc (.cells #[.bool false, .slice none 0 0] 78)).alloc (.cells #[.bool false, .slice none 0 0] 78)).alloc (.cells #[.bool false, .slice none 0 0] 78) := ⟨_, rfl⟩
  have hb : Below w.heap.size w W := by rw [hW]; exact ((three_new w _ _ _).alloc (by simp <;> omega) _).alloc (by simp <;> omega) _
  have hbox : CdBox W w.heap.size false false p0 p1 l0 c0 l1 c1 (.bool false, .slice none 0 0) (.bool false, .slice none 0 0) := by
    refine ⟨?_, ?_, ?_, ?_, ?_⟩
    · rw [hW]; exact al_keep _ _ (by simp <;> omega) (al_keep _ _ (by simp <;> omega) (al_keep _ _ (by simp <;> omega) (al_keep _ _ (by simp <;> omega) (al_at _ _ (by simp)))))
    · rw [hW]; exact al_keep _ _ (by simp <;> omega) (al_keep _ _ (by simp <;> omega) (al_keep _ _ (by simp <;> omega) (al_at _ _ (by simp))))
    · rw [hW]; exact al_keep _ _ (by simp <;> omega) (al_keep _ _ (by simp <;> omega) (al_at _ _ (by simp)))
    · rw [hW]; exact al_keep _ _ (by simp <;> omega) (al_at _ _ (by simp))
    · rw [hW]; exact al_at _ _ (by simp)
  have HE := Lib.hid (heu W hb)
  have k00 := cell_of_row _ _ 0 _ _ (0, 0) hbox.a
  have k01 := cell_of_row _ _ 1 _ _ (0, 0) hbox.a
  have k10 := cell_of_row _ _ 0 _ _ (0, 0) hbox.b
  have k11 := cell_of_row _ _ 1 _ _ (0, 0) hbox.b
  simp only [List.getElem?_toArray, List.getElem?_cons_zero, List.getElem?_cons_succ] at k00 k01 k10 k11
  have e0 : ((l1 : Int) == 0) = false := by rw [beq_eq_false_iff_ne]; omega
  have HB := Lib.hid (And.intro hb hbox)
  have HRS := Lib.hid (And.intro hR (And.intro hS hx))
  clear heu hb hbox hR hS hx hl
  go_enter Tryz.func77, Tryz.ntmps77
  go_upto_region 1 with fail
  rw [← hW]
  clear hW
  go_wp2_with fail
  refine HE.out.mono ?_
  rintro e w1 ⟨⟨r0, r1, r2, n0, f0, n1, f1, n2, f2, q0, q1, q2, m0, d0, m1, d1, m2, d2, rfl, a0, a1, a2, b0, b1, b2⟩, hb1⟩
  have HA := Lib.hid (And.intro a0 (And.intro a1 (And.intro a2 (And.intro b1 b2))))
  have HB1 := Lib.hid (And.intro (HB.out.1.trans (hb1.mono HB.out.1.size)) (HB.out.2.move hb1))
  clear a0 a1 a2 b0 b1 b2 hb1 HE k00 k01 k10 k11 HB
  go_wp2_with fail
  obtain ⟨T, hT⟩ : ∃ T, T = w1.heap.size := ⟨_, rfl⟩
  obtain ⟨w2, hw2⟩ : ∃ w2, w2 = (w1.alloc (.cells #[.slice r0 n0 f0, .slice r1 n1 f1, .slice r2 n2 f2] 143)).alloc (.cells #[.slice q0 m0 d0, .slice q1 m1 d1, .slice q2 m2 d2] 143) := ⟨_, rfl⟩
  rw [← hw2, ← hT]
  have hb12 : Below w1.heap.size w1 w2 := by rw [hw2]; exact two_new w1 _ _
  have T0 : w2.heap[T]? = some (.cells #[.slice r0 n0 f0, .slice r1 n1 f1, .slice r2 n2 f2] 143 (0, 0)) := by rw [hw2, hT]; exact heap_alloc2_old w1 _ _
  have T1 : w2.heap[T + 1]? = some (.cells #[.slice q0 m0 d0, .slice q1 m1 d1, .slice q2 m2 d2] 143 (0, 0)) := by rw [hw2, hT]; exact heap_alloc2_new w1 _ _
  have X2 := HB1.out.2.move hb12
  have hKT : w.heap.size + 4 < T := by rw [hT]; exact lt_of_block HB1.out.2.y
  have B2 := HB1.out.1.trans (hb12.mono HB1.out.1.size)
  have H2 := Lib.hid (And.intro T0 (And.intro T1 (And.intro X2 (And.intro B2 hb12))))
  have c00 := cell_of_row _ _ 0 _ _ (0, 0) X2.a
  have c10 := cell_of_row _ _ 0 _ _ (0, 0) X2.b
  have u1 := cell_of_row _ _ 1 _ _ (0, 0) T0
  have u2 := cell_of_row _ _ 2 _ _ (0, 0) T0
  simp only [List.getElem?_toArray, List.getElem?_cons_zero, List.getElem?_cons_succ] at c00 c10 u1 u2
  have ne1 : ¬ w.heap.size = w.heap.size + 1 + 1 + 1 := by omega
  have nf1 : ¬ w.heap.size = w.heap.size + 1 + 1 := by omega
  have nf2 : ¬ w.heap.size + 1 + 1 = w.heap.size := by omega
  have ne2 : ¬ w.heap.size = w.heap.size + 1 + 1 + 1 + 1 := by omega
  have ne3 : ¬ w.heap.size + 1 = w.heap.size + 1 + 1 + 1 := by omega
  have ne4 : ¬ w.heap.size + 1 = w.heap.size + 1 + 1 + 1 + 1 := by omega
  have ne5 : ¬ T = w.heap.size + 1 + 1 + 1 := by omega
  have ne6 : ¬ T = w.heap.size + 1 + 1 + 1 + 1 := by omega
  have ne7 : ¬ w.heap.size + 1 + 1 + 1 = w.heap.size := by omega
  have ne8 : ¬ w.heap.size + 1 + 1 + 1 + 1 = w.heap.size := by omega
  have ne9 : ¬ w.heap.size + 1 + 1 + 1 = w.heap.size + 1 := by omega
  have nea : ¬ w.heap.size + 1 + 1 + 1 + 1 = w.heap.size + 1 := by omega
  have neb : ¬ w.heap.size + 1 + 1 + 1 = T := by omega
  have nec : ¬ w.heap.size + 1 + 1 + 1 + 1 = T := by omega
  have hlt0 : w.heap.size < w2.heap.size := lt_of_block X2.a
  have hlt1 : w.heap.size + 1 < w2.heap.size := lt_of_block X2.b
  have hlt3 : w.heap.size + 3 < w2.heap.size := lt_of_block X2.x
  have hlt4 : w.heap.size + 4 < w2.heap.size := lt_of_block X2.y
  have hltT : T < w2.heap.size := lt_of_block T0
  have bd := hb12.trans (below_drewN w2 1 w1.heap.size)
  have HS1 := Lib.hid (signed_minus _ R.2.1 w2.drew (HA.out.2.1.below bd) HRS.out.2.2)
  have HS2 := Lib.hid (fun (w3 : World) (h : Below w2.drew.heap.size w2.drew w3) => signed_plus _ R.2.2 w3 ((HA.out.2.2.1.below bd).below h))
  have HTT := Lib.hid (And.intro hT hKT)
  clear hb12 T0 T1 X2 B2 bd hw2 hT hKT
  go_region_held3 (fun w' => w'.cell? ⟨w.heap.size, 0, none⟩ = some (.bool false) ∧ w'.cell? ⟨w.heap.size + 1, 0, none⟩ = some (.bool false) ∧ w'.cell? ⟨T, 1, none⟩ = some (.slice r1 n1 f1) ∧ w'.cell? ⟨T, 2, none⟩ = some (.slice r2 n2 f2))
    (first
      | go_keep
      | assumption)
    (first
      | (go_at_call_of 124 (Value.slice r1 n1 f1); refine HS1.out.mono ?_; rintro e w3 ⟨rfl, hb3⟩; have d00 := (hb3.cell (p := ⟨w.heap.size, 0, none⟩) hlt0).trans c00; have d10 := (hb3.cell (p := ⟨w.heap.size + 1, 0, none⟩) hlt1).trans c10; have v1 := (hb3.cell (p := ⟨T, 1, none⟩) hltT).trans u1; have v2 := (hb3.cell (p := ⟨T, 2, none⟩) hltT).trans u2)
      | (go_at_call_of 124 (Value.slice r2 n2 f2); refine (HS2.out w3 hb3).mono ?_; rintro e w4 ⟨rfl, hb4⟩; have hb34 := hb3.trans (hb4.mono hb3.size); have e00 := (hb34.cell (p := ⟨w.heap.size, 0, none⟩) hlt0).trans c00; have e10 := (hb34.cell (p := ⟨w.heap.size + 1, 0, none⟩) hlt1).trans c10; have x1 := (hb34.cell (p := ⟨T, 1, none⟩) hltT).trans u1; have x2 := (hb34.cell (p := ⟨T, 2, none⟩) hltT).trans u2; have BX := (hb34.block (w.heap.size + 3) hlt3).trans H2.out.2.2.1.x; have BY := (hb34.block (w.heap.size + 4) hlt4).trans H2.out.2.2.1.y; have fa := frozen_of_row _ _ 0 _ _ BX; have fb := frozen_of_row _ _ 1 _ _ BX; have fc := frozen_of_row _ _ 0 _ _ BY; have fd := frozen_of_row _ _ 1 _ _ BY; have ga := cell_of_row _ _ 0 _ _ (0, 0) BX; have gb := cell_of_row _ _ 1 _ _ (0, 0) BX; have gc := cell_of_row _ _ 0 _ _ (0, 0) BY; have gd := cell_of_row _ _ 1 _ _ (0, 0) BY; have HZ := Lib.hid (And.intro BX (And.intro BY hb34)); clear BX BY))
  have hb24 : Below w2.heap.size w2 w4 := (below_drewN w2 1 _).trans (HZ.out.2.2.mono (Nat.le_refl _))
  obtain ⟨V, hV⟩ : ∃ V, V = (((w4.setCell ⟨w.heap.size + 1 + 1 + 1, 0, none⟩ (.bool true)).setCell ⟨w.heap.size + 1 + 1 + 1, 1, none⟩ (.slice r1 n1 f1)).setCell ⟨w.heap.size + 1 + 1 + 1 + 1, 0, none⟩ (.bool false)).setCell ⟨w.heap.size + 1 + 1 + 1 + 1, 1, none⟩ (.slice r2 n2 f2) := ⟨_, rfl⟩
  rw [← hV]
  have hKT := HTT.out.2
  obtain ⟨V3, V4, Vo, Vat, Vb⟩ := ibox2 (g := w.heap.size + 3) (k := w.heap.size + 4) (by omega) HZ.out.1 HZ.out.2.1 true false r1 r2 n1 f1 n2 f2 V hV
  have W0 := (Vo T (by omega) (by omega)).trans ((hb24.block _ hltT).trans H2.out.1)
  have W1 := (Vo (T + 1) (by omega) (by omega)).trans ((hb24.block _ (lt_of_block H2.out.2.1)).trans H2.out.2.1)
  have Va := (Vo w.heap.size (by omega) (by omega)).trans ((hb24.block _ hlt0).trans H2.out.2.2.1.a)
  have Vbb := (Vo (w.heap.size + 1) (by omega) (by omega)).trans ((hb24.block _ hlt1).trans H2.out.2.2.1.b)
  have Vg := (Vo (w.heap.size + 2) (by omega) (by omega)).trans ((hb24.block _ (lt_of_block H2.out.2.2.1.g)).trans H2.out.2.2.1.g)
  have hb14 : Below w1.heap.size w1 w4 := H2.out.2.2.2.2.trans (hb24.mono H2.out.2.2.2.2.size)
  have BV := Vb w.heap.size w (by omega) (by omega) (H2.out.2.2.2.1.trans (hb24.mono H2.out.2.2.2.1.size))
  have HV := Lib.hid (And.intro W0 (And.intro W1 (And.intro Va (And.intro Vbb (And.intro Vg (And.intro V3 (And.intro V4 BV)))))))
  have HVA := Lib.hid (And.intro (Vat (HA.out.1.below hb14)) (And.intro (Vat (HA.out.2.1.below hb14)) (And.intro (Vat (HA.out.2.2.1.below hb14)) (And.intro (Vat (HA.out.2.2.2.1.below hb14)) (Vat (HA.out.2.2.2.2.below hb14))))))
  clear HS1 HS2 H2 HZ hb24 hb14 hV V3 V4 Vo Vat Vb W0 W1 Va Vbb Vg BV c00 c10 u1 u2 hlt0 hlt1 hlt3 hlt4 hltT d00 d10 v1 v2 e00 e10 x1 x2 fa fb fc fd ga gb gc gd hb3 hb4 hb34 HA HB1
  have k30 := cell_of_row _ _ 0 _ _ (0, 0) HV.out.2.2.2.2.2.1
  have k31 := cell_of_row _ _ 1 _ _ (0, 0) HV.out.2.2.2.2.2.1
  have kt1 := cell_of_row _ _ 1 _ _ (0, 0) HV.out.2.1
  simp only [List.getElem?_toArray, List.getElem?_cons_zero, List.getElem?_cons_succ] at k30 k31 kt1
  have hlt1 : R.2.1 < 4294967296 := HRS.out.1.2.1
  have hlt2 : R.2.2 < 4294967296 := HRS.out.1.2.2
  have hlt3 : S.2.1 < 4294967296 := HRS.out.2.1.2.1
  have hlt4 : S.2.2 < 4294967296 := HRS.out.2.1.2.2
  have hbig : (4294967296 : Nat) ^ 3 = 79228162514264337593543950336 := by decide
  have HP := Lib.hid (plus_yes _ _ (-(R.2.1 : Int)) (S.2.1 : Int) V (isI_neg HVA.out.2.1 HRS.out.2.2) (isI_pos HVA.out.2.2.2.1) (fit_small (by rw [hbig]; omega)) (fit_small (by rw [hbig]; omega)) (fit_small (by rw [hbig]; omega)))
  have HFI := Lib.hid (And.intro (fit_small (n := (R.2.2 : Int)) (by rw [hbig]; omega)) (And.intro (fit_small (n := (S.2.2 : Int)) (by rw [hbig]; omega)) (fit_small (n := (R.2.2 : Int) - (S.2.2 : Int)) (by rw [hbig]; omega))))
  clear hlt1 hlt2 hlt3 hlt4 hbig hKT
  go_wp2_with fail
  refine HP.out.mono ?_
  rintro e w5 ⟨hb5, x5, rfl, hx5⟩
  obtain ⟨px, cx, rfl, hxa⟩ := AtI.form hx5
  obtain ⟨nx, hnx⟩ : ∃ nx : Int, nx = -(R.2.1 : Int) + (S.2.1 : Int) := ⟨_, rfl⟩
  rw [← hnx] at hxa ⊢
  obtain ⟨lx, hlx⟩ : ∃ lx, lx = (Nl.limbs nx.natAbs).length := ⟨_, rfl⟩
  rw [← hlx] at hxa ⊢
  obtain ⟨sx, hsx⟩ : ∃ sx, sx = negB nx := ⟨_, rfl⟩
  rw [← hsx]
  have Y3 := (hb5.block _ (lt_of_block HV.out.2.2.2.2.2.1)).trans HV.out.2.2.2.2.2.1
  have Y4 := (hb5.block _ (lt_of_block HV.out.2.2.2.2.2.2.1)).trans HV.out.2.2.2.2.2.2.1
  have YT := (hb5.block _ (lt_of_block HV.out.1)).trans HV.out.1
  have YT1 := (hb5.block _ (lt_of_block HV.out.2.1)).trans HV.out.2.1
  have Ya := (hb5.block _ (lt_of_block HV.out.2.2.1)).trans HV.out.2.2.1
  have Yb := (hb5.block _ (lt_of_block HV.out.2.2.2.1)).trans HV.out.2.2.2.1
  have Yg := (hb5.block _ (lt_of_block HV.out.2.2.2.2.1)).trans HV.out.2.2.2.2.1
  have fa := frozen_of_row _ _ 0 _ _ Y3
  have fb := frozen_of_row _ _ 1 _ _ Y3
  have ga := cell_of_row _ _ 0 _ _ (0, 0) Y3
  have gb := cell_of_row _ _ 1 _ _ (0, 0) Y3
  have HY := Lib.hid (And.intro Y3 (And.intro Y4 (And.intro YT (And.intro YT1 (And.intro Ya (And.intro Yb (And.intro Yg (HV.out.2.2.2.2.2.2.2.trans (hb5.mono HV.out.2.2.2.2.2.2.2.size)))))))))
  have HYA := Lib.hid (And.intro (HVA.out.1.below hb5) (And.intro (HVA.out.2.2.1.below hb5) (And.intro (HVA.out.2.2.2.2.below hb5) (And.intro hxa (And.intro hnx (And.intro hlx hsx))))))
  clear hx5 hxa hnx hlx hsx hb5 Y3 Y4 YT YT1 Ya Yb Yg HP HV HVA k30 k31 kt1
  go_upto_region 7 with fail
  obtain ⟨V6, hV6⟩ : ∃ V6, V6 = (w5.setCell ⟨w.heap.size + 1 + 1 + 1, 0, none⟩ (.bool sx)).setCell ⟨w.heap.size + 1 + 1 + 1, 1, none⟩ (.slice px lx cx) := ⟨_, rfl⟩
  rw [← hV6]
  have Z3 : V6.heap[w.heap.size + 3]? = some (.cells #[.bool sx, .slice px lx cx] 78 (0, 0)) := by rw [hV6]; exact ibox_set (g := w.heap.size + 3) _ _ HY.out.1
  have Zo : ∀ j, j ≠ w.heap.size + 3 → V6.heap[j]? = w5.heap[j]? := fun j hj => by rw [hV6, Below.heap_setCell _ ⟨w.heap.size + 1 + 1 + 1, 1, none⟩ _ _ hj, Below.heap_setCell _ ⟨w.heap.size + 1 + 1 + 1, 0, none⟩ _ _ hj]
  have Zat : ∀ {v : Value} {xs : List Nat}, At w5 v xs → At V6 v xs := fun h => by rw [hV6]; exact at_ibox (g := w.heap.size + 3) _ _ h HY.out.1
  have ZB : Below w.heap.size w V6 := by rw [hV6]; exact below_ibox (g := w.heap.size + 3) HY.out.2.2.2.2.2.2.2 (by omega) _ _
  have hKT := HTT.out.2
  have Z4 := (Zo (w.heap.size + 4) (by omega)).trans HY.out.2.1
  have ZT := (Zo T (by omega)).trans HY.out.2.2.1
  have ZT1 := (Zo (T + 1) (by omega)).trans HY.out.2.2.2.1
  have Za := (Zo w.heap.size (by omega)).trans HY.out.2.2.2.2.1
  have Zb := (Zo (w.heap.size + 1) (by omega)).trans HY.out.2.2.2.2.2.1
  have Zg := (Zo (w.heap.size + 2) (by omega)).trans HY.out.2.2.2.2.2.2.1
  have c00 := cell_of_row _ _ 0 _ _ (0, 0) Za
  have c10 := cell_of_row _ _ 0 _ _ (0, 0) Zb
  have c40 := cell_of_row _ _ 0 _ _ (0, 0) Z4
  have c41 := cell_of_row _ _ 1 _ _ (0, 0) Z4
  have ct2 := cell_of_row _ _ 2 _ _ (0, 0) ZT1
  simp only [List.getElem?_toArray, List.getElem?_cons_zero, List.getElem?_cons_succ] at c00 c10 c40 c41 ct2
  have hlt0 : w.heap.size < V6.heap.size := lt_of_block Za
  have hlt1 : w.heap.size + 1 < V6.heap.size := lt_of_block Zb
  have hlt4 : w.heap.size + 4 < V6.heap.size := lt_of_block Z4
  have hltT : T + 1 < V6.heap.size := lt_of_block ZT1
  have ned : ¬ T + 1 = w.heap.size + 1 + 1 + 1 + 1 := by omega
  have nee : ¬ w.heap.size + 1 + 1 + 1 + 1 = T + 1 := by omega
  have nef : ¬ w.heap.size + 1 + 1 + 1 = T := by omega
  have neg : ¬ T = w.heap.size + 1 + 1 + 1 := by omega
  have bd := below_drewN V6 1 V6.heap.size
  have HS1 := Lib.hid (signed_plus _ S.2.2 V6.drew ((Zat HYA.out.2.2.1).below bd))
  have HMI := Lib.hid (fun (w7 : World) (h : Below V6.drew.heap.size V6.drew w7) => minus_yes (.agg #[.bool false, .slice r2 n2 f2]) (.agg #[.bool false, .slice q2 m2 d2]) (R.2.2 : Int) (S.2.2 : Int) w7 (isI_pos (((Zat HYA.out.2.1).below bd).below h)) (isI_pos (((Zat HYA.out.2.2.1).below bd).below h)) HFI.out.1 HFI.out.2.1 HFI.out.2.2)
  have HZ := Lib.hid (And.intro Z3 (And.intro Z4 (And.intro ZT (And.intro Zg (And.intro ZB (And.intro (Zat HYA.out.1) (Zat HYA.out.2.2.2.1)))))))
  clear Z3 Zo Zat ZB hKT Z4 ZT ZT1 Za Zb Zg bd hV6 fa fb ga gb
  refine wp_region_held_drew (S := (fun w' => w'.cell? ⟨w.heap.size, 0, none⟩ = some (.bool false) ∧ w'.cell? ⟨w.heap.size + 1, 0, none⟩ = some (.bool false) ∧ w'.cell? ⟨T + 1, 2, none⟩ = some (.slice q2 m2 d2))) (by kernel_rfl) ⟨c00, c10, ct2⟩ (fun hHeld => ?_)
  refine wpAnyH_take (i := 1) (v := ?_) rfl (by kernel_rfl) (by kernel_rfl) (by kernel_rfl) (fun _ _ _ h => h) (Or.inl ⟨by rfl, ?_⟩) (by assumption) ?_
  rotate_left
  · intro w hSw; (try dsimp only at hSw); go_simp; (try (with_reducible rfl))
  try simp only [Act.put, List.setIfInBounds_toArray]
  refine wpAnyH_take (i := 2) (v := ?_) rfl (by kernel_rfl) (by kernel_rfl) (by kernel_rfl) (fun _ _ _ h => h) (Or.inl ⟨by rfl, ?_⟩) (by assumption) ?_
  rotate_left
  · intro w hSw; (try dsimp only at hSw); go_simp; (try (with_reducible rfl))
  try simp only [Act.put]
  refine wpAnyH_take (i := 3) (v := ?_) rfl (by kernel_rfl) (by kernel_rfl) (by kernel_rfl) (fun _ _ _ h => h) (Or.inl ⟨by rfl, ?_⟩) (by assumption) ?_
  rotate_left
  · intro w hSw; (try dsimp only at hSw); go_simp; (try (with_reducible rfl))
  try simp only [Act.put]
  refine wpAnyH_take (i := 4) (v := ?_) rfl (by kernel_rfl) (by kernel_rfl) (by kernel_rfl) (fun _ _ _ h => h) (Or.inl ⟨by rfl, ?_⟩) (by assumption) ?_
  rotate_left
  · intro w hSw; (try dsimp only at hSw); go_simp; (try (with_reducible rfl))
  try simp only [Act.put]
  refine wpAnyH_take (i := 5) (v := ?_) rfl (by kernel_rfl) (by kernel_rfl) (by kernel_rfl) (fun _ _ _ h => h) (Or.inl ⟨by rfl, ?_⟩) (by assumption) ?_
  rotate_left
  · intro w hSw; (try dsimp only at hSw); go_simp; (try (with_reducible rfl))
  try simp only [Act.put]
  refine wpAnyH_take (i := 6) (v := ?_) rfl (by kernel_rfl) (by kernel_rfl) (by kernel_rfl) (fun _ _ _ h => h) (Or.inl ⟨by rfl, ?_⟩) (by assumption) ?_
  rotate_left
  · intro w hSw; (try dsimp only at hSw); go_simp; (try (with_reducible rfl))
  try simp only [Act.put]
  refine wpAnyH_take (i := 7) (v := ?_) rfl (by kernel_rfl) (by kernel_rfl) (by kernel_rfl) (fun _ _ _ h => h) (Or.inl ⟨by rfl, ?_⟩) (by assumption) ?_
  rotate_left
  · intro w hSw; (try dsimp only at hSw); go_simp; (try (with_reducible rfl))
  try simp only [Act.put]
  refine wpAnyH_ready (rs := [0, 8]) (by kernel_rfl) (by simp) ?_
  refine AllReadyH.cons rfl (fun K hK => ?_) (AllReadyH.cons rfl (fun K hK => ?_) AllReadyH.nil)
  · go_simp
    refine hK.out _ _ ⟨c00, c10, ct2⟩ (fun hHeld => ?_)
    clear hK K
    try simp only [Act.put, List.setIfInBounds_toArray, List.set_cons_zero, List.set_cons_succ]
    refine wpAnyH_ready (rs := [8]) (by kernel_rfl) (by simp) ?_
    refine AllReadyH.cons rfl (fun K hK => ?_) AllReadyH.nil
    go_simp
    go_at_call 124
    refine HS1.out.mono ?_
    rintro e w7 ⟨rfl, hb7⟩
    have d00 := (hb7.cell (p := ⟨w.heap.size, 0, none⟩) hlt0).trans c00
    have d10 := (hb7.cell (p := ⟨w.heap.size + 1, 0, none⟩) hlt1).trans c10
    have dt2 := (hb7.cell (p := ⟨T + 1, 2, none⟩) hltT).trans ct2
    have d40 := (hb7.cell (p := ⟨w.heap.size + 4, 0, none⟩) hlt4).trans c40
    have d41 := (hb7.cell (p := ⟨w.heap.size + 4, 1, none⟩) hlt4).trans c41
    refine hK.out _ _ ⟨d00, d10, dt2⟩ (fun hHeld => ?_)
    clear hK K
    try simp only [Act.put, List.setIfInBounds_toArray, List.set_cons_zero, List.set_cons_succ]
    refine wpAnyH_ready (rs := [9]) (by kernel_rfl) (by simp) ?_
    refine AllReadyH.cons rfl (fun K hK => ?_) AllReadyH.nil
    go_simp
    go_at_call 113
    refine (HMI.out w7 hb7).mono ?_
    rintro e w8 ⟨hb8, y8, rfl, hy8⟩
    obtain ⟨py, cy, rfl, hya⟩ := AtI.form hy8
    have hb78 := hb7.trans (hb8.mono hb7.size)
    have e00 := (hb78.cell (p := ⟨w.heap.size, 0, none⟩) hlt0).trans c00
    have e10 := (hb78.cell (p := ⟨w.heap.size + 1, 0, none⟩) hlt1).trans c10
    have et2 := (hb78.cell (p := ⟨T + 1, 2, none⟩) hltT).trans ct2
    have BY := (hb78.block (w.heap.size + 4) hlt4).trans HZ.out.2.1
    have fc := frozen_of_row _ _ 0 _ _ BY
    have fd := frozen_of_row _ _ 1 _ _ BY
    have gc := cell_of_row _ _ 0 _ _ (0, 0) BY
    have gd := cell_of_row _ _ 1 _ _ (0, 0) BY
    have H8 := Lib.hid (And.intro BY (And.intro hb78 hya))
    clear BY
    refine hK.out _ _ ⟨e00, e10, et2⟩ (fun hHeld => ?_)
    clear hK K
    try simp only [Act.put, List.setIfInBounds_toArray, List.set_cons_zero, List.set_cons_succ]
    refine wpAnyH_ready (rs := [10]) (by kernel_rfl) (by simp) ?_
    refine AllReadyH.cons rfl (fun K hK => ?_) AllReadyH.nil
    go_simp
    refine hK.out _ _ (by (try dsimp only); go_keep) (fun hHeld => ?_)
    clear hK K
    try simp only [Act.put, List.setIfInBounds_toArray, List.set_cons_zero, List.set_cons_succ]
    refine wpAnyH_done (by kernel_rfl) ?_ _
    clear hb7 hb8 hb78 hy8 hya d00 d10 dt2 d40 d41 e00 e10 et2 c00 c10 c40 c41 ct2 hlt0 hlt1 hlt4 hltT ned nee nef neg HS1 HMI gc gd fc fd
    obtain ⟨ny, hny⟩ : ∃ ny : Int, ny = (R.2.2 : Int) - (S.2.2 : Int) := ⟨_, rfl⟩
    rw [← hny] at H8 ⊢
    obtain ⟨ly, hly⟩ : ∃ ly, ly = (Nl.limbs ny.natAbs).length := ⟨_, rfl⟩
    rw [← hly] at H8 ⊢
    obtain ⟨sy, hsy⟩ : ∃ sy, sy = negB ny := ⟨_, rfl⟩
    rw [← hsy]
    obtain ⟨V9, hV9⟩ : ∃ V9, V9 = (w8.setCell ⟨w.heap.size + 1 + 1 + 1 + 1, 0, none⟩ (.bool sy)).setCell ⟨w.heap.size + 1 + 1 + 1 + 1, 1, none⟩ (.slice py ly cy) := ⟨_, rfl⟩
    rw [← hV9]
    have hKT := HTT.out.2
    have hb68 : Below V6.heap.size V6 w8 := (below_drewN V6 1 _).trans (H8.out.2.1.mono (Nat.le_refl _))
    have Q4 : V9.heap[w.heap.size + 4]? = some (.cells #[.bool sy, .slice py ly cy] 78 (0, 0)) := by rw [hV9]; exact ibox_set (g := w.heap.size + 4) _ _ H8.out.1
    have Qo : ∀ j, j ≠ w.heap.size + 4 → V9.heap[j]? = w8.heap[j]? := fun j hj => by rw [hV9, Below.heap_setCell _ ⟨w.heap.size + 1 + 1 + 1 + 1, 1, none⟩ _ _ hj, Below.heap_setCell _ ⟨w.heap.size + 1 + 1 + 1 + 1, 0, none⟩ _ _ hj]
    have Qat : ∀ {v : Value} {xs : List Nat}, At w8 v xs → At V9 v xs := fun h => by rw [hV9]; exact at_ibox (g := w.heap.size + 4) _ _ h H8.out.1
    have QB : Below w.heap.size w V9 := by rw [hV9]; exact below_ibox (g := w.heap.size + 4) (HZ.out.2.2.2.2.1.trans (hb68.mono HZ.out.2.2.2.2.1.size)) (by omega) _ _
    have Q3 := (Qo (w.heap.size + 3) (by omega)).trans ((hb68.block _ (lt_of_block HZ.out.1)).trans HZ.out.1)
    have QT := (Qo T (by omega)).trans ((hb68.block _ (lt_of_block HZ.out.2.2.1)).trans HZ.out.2.2.1)
    have Q2 := (Qo (w.heap.size + 2) (by omega)).trans ((hb68.block _ (lt_of_block HZ.out.2.2.2.1)).trans HZ.out.2.2.2.1)
    have c20 := cell_of_row _ _ 0 _ _ (0, 0) Q2
    have c21 := cell_of_row _ _ 1 _ _ (0, 0) Q2
    have c30 := cell_of_row _ _ 0 _ _ (0, 0) Q3
    have c31 := cell_of_row _ _ 1 _ _ (0, 0) Q3
    have c40 := cell_of_row _ _ 0 _ _ (0, 0) Q4
    have c41 := cell_of_row _ _ 1 _ _ (0, 0) Q4
    have ct0 := cell_of_row _ _ 0 _ _ (0, 0) QT
    simp only [List.getElem?_toArray, List.getElem?_cons_zero, List.getElem?_cons_succ] at c20 c21 c30 c31 c40 c41 ct0
    have fr0 := frozen_of_row _ _ 0 _ _ Q2
    have fr1 := frozen_of_row _ _ 1 _ _ Q2
    have fr2 := frozen_of_row _ _ 0 _ _ Q3
    have fr3 := frozen_of_row _ _ 1 _ _ Q3
    have fr4 := frozen_of_row _ _ 0 _ _ Q4
    have fr5 := frozen_of_row _ _ 1 _ _ Q4
    have HQ := Lib.hid (And.intro Q2 (And.intro Q3 (And.intro Q4 (And.intro QB (And.intro (Qat (HZ.out.2.2.2.2.2.1.below hb68)) (And.intro (Qat (HZ.out.2.2.2.2.2.2.below hb68)) (And.intro (Qat H8.out.2.2) (And.intro hny (And.intro hly hsy)))))))))
    clear Q2 Q3 Q4 QT Qo Qat QB hb68 hKT hV9 hny hly hsy H8 HZ
    go_wp2_with fail
    go_region
    go_wp2_with fail
    obtain ⟨h1, h2, h3, h4, h5, h6, h7, h8, h9, h10⟩ := HQ.out
    obtain ⟨A, hA⟩ : ∃ A, A = (V9.setCell ⟨w.heap.size + 1 + 1, 0, none⟩ (.bool false)).setCell ⟨w.heap.size + 1 + 1, 1, none⟩ (.slice r0 n0 f0) := ⟨_, rfl⟩
    rw [← hA]
    obtain ⟨D, hD⟩ : ∃ D, D = (((A.setCell ⟨w.heap.size + 1 + 1 + 1, 0, none⟩ (.bool sx)).setCell ⟨w.heap.size + 1 + 1 + 1, 1, none⟩ (.slice px lx cx)).setCell ⟨w.heap.size + 1 + 1 + 1 + 1, 0, none⟩ (.bool sy)).setCell ⟨w.heap.size + 1 + 1 + 1 + 1, 1, none⟩ (.slice py ly cy) := ⟨_, rfl⟩
    rw [← hD]
    have A2 : A.heap[w.heap.size + 2]? = some (.cells #[.bool false, .slice r0 n0 f0] 78 (0, 0)) := by rw [hA]; exact ibox_set (g := w.heap.size + 2) _ _ h1
    have Ao : ∀ j, j ≠ w.heap.size + 2 → A.heap[j]? = V9.heap[j]? := fun j hj => by rw [hA, Below.heap_setCell _ ⟨w.heap.size + 1 + 1, 1, none⟩ _ _ hj, Below.heap_setCell _ ⟨w.heap.size + 1 + 1, 0, none⟩ _ _ hj]
    have Aat : ∀ {v : Value} {xs : List Nat}, At V9 v xs → At A v xs := fun h => by rw [hA]; exact at_ibox (g := w.heap.size + 2) _ _ h h1
    have AB : Below w.heap.size w A := by rw [hA]; exact below_ibox (g := w.heap.size + 2) h4 (by omega) _ _
    obtain ⟨D3, D4, Do, Dat, Db⟩ := ibox2 (g := w.heap.size + 3) (k := w.heap.size + 4) (by omega) ((Ao _ (by omega)).trans h2) ((Ao _ (by omega)).trans h3) sx sy px py lx cx ly cy D hD
    have D2 := (Do (w.heap.size + 2) (by omega) (by omega)).trans A2
    refine bodyPost_ret (v := .tuple #[.agg #[.bool false, .slice r0 n0 f0], .agg #[.bool sx, .slice px lx cx], .agg #[.bool sy, .slice py ly cy]]) (results_int3 Tryz.results77 _ _ (w.heap.size + 2) (w.heap.size + 3) (w.heap.size + 4) _ _ _ rfl rfl rfl (load_whole (w := World.drew _) D2) (load_whole (w := World.drew _) D3) (load_whole (w := World.drew _) D4)) rfl ?_
    have bd := below_drewN D 1 D.heap.size
    refine ⟨⟨_, _, _, rfl, (isI_pos (Dat (Aat h5))).below bd, ?_, ?_⟩, (Db w.heap.size w (by omega) (by omega) AB).trans (below_drewN D 1 _)⟩
    · rw [← HYA.out.2.2.2.2.1, IsI, ← HYA.out.2.2.2.2.2.2]
      exact AtI.mk ((Dat (Aat h6)).below bd)
    · rw [← h8, IsI, ← h10]
      exact AtI.mk ((Dat (Aat h7)).below bd)
  · go_simp
    go_at_call 124
    refine HS1.out.mono ?_
    rintro e w7 ⟨rfl, hb7⟩
    have d00 := (hb7.cell (p := ⟨w.heap.size, 0, none⟩) hlt0).trans c00
    have d10 := (hb7.cell (p := ⟨w.heap.size + 1, 0, none⟩) hlt1).trans c10
    have dt2 := (hb7.cell (p := ⟨T + 1, 2, none⟩) hltT).trans ct2
    have d40 := (hb7.cell (p := ⟨w.heap.size + 4, 0, none⟩) hlt4).trans c40
    have d41 := (hb7.cell (p := ⟨w.heap.size + 4, 1, none⟩) hlt4).trans c41
    refine hK.out _ _ ⟨d00, d10, dt2⟩ (fun hHeld => ?_)
    clear hK K
    try simp only [Act.put, List.setIfInBounds_toArray, List.set_cons_zero, List.set_cons_succ]
    refine wpAnyH_ready (rs := [0]) (by kernel_rfl) (by simp) ?_
    refine AllReadyH.cons rfl (fun K hK => ?_) AllReadyH.nil
    go_simp
    refine hK.out _ _ ⟨d00, d10, dt2⟩ (fun hHeld => ?_)
    clear hK K
    try simp only [Act.put, List.setIfInBounds_toArray, List.set_cons_zero, List.set_cons_succ]
    refine wpAnyH_ready (rs := [9]) (by kernel_rfl) (by simp) ?_
    refine AllReadyH.cons rfl (fun K hK => ?_) AllReadyH.nil
    go_simp
    go_at_call 113
    refine (HMI.out w7 hb7).mono ?_
    rintro e w8 ⟨hb8, y8, rfl, hy8⟩
    obtain ⟨py, cy, rfl, hya⟩ := AtI.form hy8
    have hb78 := hb7.trans (hb8.mono hb7.size)
    have e00 := (hb78.cell (p := ⟨w.heap.size, 0, none⟩) hlt0).trans c00
    have e10 := (hb78.cell (p := ⟨w.heap.size + 1, 0, none⟩) hlt1).trans c10
    have et2 := (hb78.cell (p := ⟨T + 1, 2, none⟩) hltT).trans ct2
    have BY := (hb78.block (w.heap.size + 4) hlt4).trans HZ.out.2.1
    have fc := frozen_of_row _ _ 0 _ _ BY
    have fd := frozen_of_row _ _ 1 _ _ BY
    have gc := cell_of_row _ _ 0 _ _ (0, 0) BY
    have gd := cell_of_row _ _ 1 _ _ (0, 0) BY
    have H8 := Lib.hid (And.intro BY (And.intro hb78 hya))
    clear BY
    refine hK.out _ _ ⟨e00, e10, et2⟩ (fun hHeld => ?_)
    clear hK K
    try simp only [Act.put, List.setIfInBounds_toArray, List.set_cons_zero, List.set_cons_succ]
    refine wpAnyH_ready (rs := [10]) (by kernel_rfl) (by simp) ?_
    refine AllReadyH.cons rfl (fun K hK => ?_) AllReadyH.nil
    go_simp
    refine hK.out _ _ (by (try dsimp only); go_keep) (fun hHeld => ?_)
    clear hK K
    try simp only [Act.put, List.setIfInBounds_toArray, List.set_cons_zero, List.set_cons_succ]
    refine wpAnyH_done (by kernel_rfl) ?_ _
    clear hb7 hb8 hb78 hy8 hya d00 d10 dt2 d40 d41 e00 e10 et2 c00 c10 c40 c41 ct2 hlt0 hlt1 hlt4 hltT ned nee nef neg HS1 HMI gc gd fc fd
    obtain ⟨ny, hny⟩ : ∃ ny : Int, ny = (R.2.2 : Int) - (S.2.2 : Int) := ⟨_, rfl⟩
    rw [← hny] at H8 ⊢
    obtain ⟨ly, hly⟩ : ∃ ly, ly = (Nl.limbs ny.natAbs).length := ⟨_, rfl⟩
    rw [← hly] at H8 ⊢
    obtain ⟨sy, hsy⟩ : ∃ sy, sy = negB ny := ⟨_, rfl⟩
    rw [← hsy]
    obtain ⟨V9, hV9⟩ : ∃ V9, V9 = (w8.setCell ⟨w.heap.size + 1 + 1 + 1 + 1, 0, none⟩ (.bool sy)).setCell ⟨w.heap.size + 1 + 1 + 1 + 1, 1, none⟩ (.slice py ly cy) := ⟨_, rfl⟩
    rw [← hV9]
    have hKT := HTT.out.2
    have hb68 : Below V6.heap.size V6 w8 := (below_drewN V6 1 _).trans (H8.out.2.1.mono (Nat.le_refl _))
    have Q4 : V9.heap[w.heap.size + 4]? = some (.cells #[.bool sy, .slice py ly cy] 78 (0, 0)) := by rw [hV9]; exact ibox_set (g := w.heap.size + 4) _ _ H8.out.1
    have Qo : ∀ j, j ≠ w.heap.size + 4 → V9.heap[j]? = w8.heap[j]? := fun j hj => by rw [hV9, Below.heap_setCell _ ⟨w.heap.size + 1 + 1 + 1 + 1, 1, none⟩ _ _ hj, Below.heap_setCell _ ⟨w.heap.size + 1 + 1 + 1 + 1, 0, none⟩ _ _ hj]
    have Qat : ∀ {v : Value} {xs : List Nat}, At w8 v xs → At V9 v xs := fun h => by rw [hV9]; exact at_ibox (g := w.heap.size + 4) _ _ h H8.out.1
    have QB : Below w.heap.size w V9 := by rw [hV9]; exact below_ibox (g := w.heap.size + 4) (HZ.out.2.2.2.2.1.trans (hb68.mono HZ.out.2.2.2.2.1.size)) (by omega) _ _
    have Q3 := (Qo (w.heap.size + 3) (by omega)).trans ((hb68.block _ (lt_of_block HZ.out.1)).trans HZ.out.1)
    have QT := (Qo T (by omega)).trans ((hb68.block _ (lt_of_block HZ.out.2.2.1)).trans HZ.out.2.2.1)
    have Q2 := (Qo (w.heap.size + 2) (by omega)).trans ((hb68.block _ (lt_of_block HZ.out.2.2.2.1)).trans HZ.out.2.2.2.1)
    have c20 := cell_of_row _ _ 0 _ _ (0, 0) Q2
    have c21 := cell_of_row _ _ 1 _ _ (0, 0) Q2
    have c30 := cell_of_row _ _ 0 _ _ (0, 0) Q3
    have c31 := cell_of_row _ _ 1 _ _ (0, 0) Q3
    have c40 := cell_of_row _ _ 0 _ _ (0, 0) Q4
    have c41 := cell_of_row _ _ 1 _ _ (0, 0) Q4
    have ct0 := cell_of_row _ _ 0 _ _ (0, 0) QT
    simp only [List.getElem?_toArray, List.getElem?_cons_zero, List.getElem?_cons_succ] at c20 c21 c30 c31 c40 c41 ct0
    have fr0 := frozen_of_row _ _ 0 _ _ Q2
    have fr1 := frozen_of_row _ _ 1 _ _ Q2
    have fr2 := frozen_of_row _ _ 0 _ _ Q3
    have fr3 := frozen_of_row _ _ 1 _ _ Q3
    have fr4 := frozen_of_row _ _ 0 _ _ Q4
    have fr5 := frozen_of_row _ _ 1 _ _ Q4
    have HQ := Lib.hid (And.intro Q2 (And.intro Q3 (And.intro Q4 (And.intro QB (And.intro (Qat (HZ.out.2.2.2.2.2.1.below hb68)) (And.intro (Qat (HZ.out.2.2.2.2.2.2.below hb68)) (And.intro (Qat H8.out.2.2) (And.intro hny (And.intro hly hsy)))))))))
    clear Q2 Q3 Q4 QT Qo Qat QB hb68 hKT hV9 hny hly hsy H8 HZ
    go_wp2_with fail
    go_region
    go_wp2_with fail
    obtain ⟨h1, h2, h3, h4, h5, h6, h7, h8, h9, h10⟩ := HQ.out
    obtain ⟨A, hA⟩ : ∃ A, A = (V9.setCell ⟨w.heap.size + 1 + 1, 0, none⟩ (.bool false)).setCell ⟨w.heap.size + 1 + 1, 1, none⟩ (.slice r0 n0 f0) := ⟨_, rfl⟩
    rw [← hA]
    obtain ⟨D, hD⟩ : ∃ D, D = (((A.setCell ⟨w.heap.size + 1 + 1 + 1, 0, none⟩ (.bool sx)).setCell ⟨w.heap.size + 1 + 1 + 1, 1, none⟩ (.slice px lx cx)).setCell ⟨w.heap.size + 1 + 1 + 1 + 1, 0, none⟩ (.bool sy)).setCell ⟨w.heap.size + 1 + 1 + 1 + 1, 1, none⟩ (.slice py ly cy) := ⟨_, rfl⟩
    rw [← hD]
    have A2 : A.heap[w.heap.size + 2]? = some (.cells #[.bool false, .slice r0 n0 f0] 78 (0, 0)) := by rw [hA]; exact ibox_set (g := w.heap.size + 2) _ _ h1
    have Ao : ∀ j, j ≠ w.heap.size + 2 → A.heap[j]? = V9.heap[j]? := fun j hj => by rw [hA, Below.heap_setCell _ ⟨w.heap.size + 1 + 1, 1, none⟩ _ _ hj, Below.heap_setCell _ ⟨w.heap.size + 1 + 1, 0, none⟩ _ _ hj]
    have Aat : ∀ {v : Value} {xs : List Nat}, At V9 v xs → At A v xs := fun h => by rw [hA]; exact at_ibox (g := w.heap.size + 2) _ _ h h1
    have AB : Below w.heap.size w A := by rw [hA]; exact below_ibox (g := w.heap.size + 2) h4 (by omega) _ _
    obtain ⟨D3, D4, Do, Dat, Db⟩ := ibox2 (g := w.heap.size + 3) (k := w.heap.size + 4) (by omega) ((Ao _ (by omega)).trans h2) ((Ao _ (by omega)).trans h3) sx sy px py lx cx ly cy D hD
    have D2 := (Do (w.heap.size + 2) (by omega) (by omega)).trans A2
    refine bodyPost_ret (v := .tuple #[.agg #[.bool false, .slice r0 n0 f0], .agg #[.bool sx, .slice px lx cx], .agg #[.bool sy, .slice py ly cy]]) (results_int3 Tryz.results77 _ _ (w.heap.size + 2) (w.heap.size + 3) (w.heap.size + 4) _ _ _ rfl rfl rfl (load_whole (w := World.drew _) D2) (load_whole (w := World.drew _) D3) (load_whole (w := World.drew _) D4)) rfl ?_
    have bd := below_drewN D 1 D.heap.size
    refine ⟨⟨_, _, _, rfl, (isI_pos (Dat (Aat h5))).below bd, ?_, ?_⟩, (Db w.heap.size w (by omega) (by omega) AB).trans (below_drewN D 1 _)⟩
    · rw [← HYA.out.2.2.2.2.1, IsI, ← HYA.out.2.2.2.2.2.2]
      exact AtI.mk ((Dat (Aat h6)).below bd)
    · rw [← h8, IsI, ← h10]
      exact AtI.mk ((Dat (Aat h7)).below bd)
end Go.Proofs.YtkbghamkalidcaaGreat
