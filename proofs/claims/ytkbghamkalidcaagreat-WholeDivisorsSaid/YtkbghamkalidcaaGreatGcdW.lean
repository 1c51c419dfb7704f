/-
  What Gcd of package whole gives of 12 and 18. Conditions: those that each theorem names.
-/
import Derived.Test.YtkbghamkalidcaaGreatCommonI
namespace Go.Proofs.YtkbghamkalidcaaGreat
open Go.RowKit

theorem results_int31 {fn : Func} {p q z s : Tmp} {ty tz tu : TypeId} (h : fn.results = #[.cell p ty, .cell q tz, .cell z tu, .tmp s]) (tmps : Array Value) (w : World) (g k j : Nat) (x u v r : Value)
    (hp : tmps.getD p undef = .pointer (some ⟨g, 0, none⟩)) (hq : tmps.getD q undef = .pointer (some ⟨k, 0, none⟩)) (hz : tmps.getD z undef = .pointer (some ⟨j, 0, none⟩)) (hs : tmps.getD s undef = r) (hl : (loadVar ty ⟨g, 0, none⟩).run Tryz.prog w = .ok x w) (hm : (loadVar tz ⟨k, 0, none⟩).run Tryz.prog w = .ok u w) (hn : (loadVar tu ⟨j, 0, none⟩).run Tryz.prog w = .ok v w) :
    (results fn tmps).run Tryz.prog w = .ok (.tuple #[x, u, v, r]) w := by
  have hp' : tmps[p]?.getD undef = .pointer (some ⟨g, 0, none⟩) := by simpa using hp
  have hq' : tmps[q]?.getD undef = .pointer (some ⟨k, 0, none⟩) := by simpa using hq
  have hz' : tmps[z]?.getD undef = .pointer (some ⟨j, 0, none⟩) := by simpa using hz
  have hs' : tmps[s]?.getD undef = r := by simpa using hs
  simp [results, h, hp', hq', hz', hs', asAddr, hl, hm, hn]

/-- the work of Gcd: what its variables hold -/
structure GcdBox (w : World) (K : Nat) (s0 s1 : Bool) (p0 p1 : Option Addr) (l0 c0 l1 c1 : Nat) : Prop where
  a : w.heap[K]? = some (.cells #[.bool s0, .slice p0 l0 c0] 25 (0, 0))
  b : w.heap[K + 1]? = some (.cells #[.bool s1, .slice p1 l1 c1] 25 (0, 0))
  g : w.heap[K + 2]? = some (.cells #[.bool false, .slice none 0 0] 25 (0, 0))
  x : w.heap[K + 3]? = some (.cells #[.bool false, .slice none 0 0] 25 (0, 0))
  y : w.heap[K + 4]? = some (.cells #[.bool false, .slice none 0 0] 25 (0, 0))
theorem GcdBox.move {w w' : World} {K : Nat} {s0 s1 : Bool} {p0 p1 : Option Addr} {l0 c0 l1 c1 : Nat} (h : GcdBox w K s0 s1 p0 p1 l0 c0 l1 c1) (hb : Below w.heap.size w w') : GcdBox w' K s0 s1 p0 p1 l0 c0 l1 c1 :=
  ⟨(hb.block _ (lt_of_block h.a)).trans h.a, (hb.block _ (lt_of_block h.b)).trans h.b, (hb.block _ (lt_of_block h.g)).trans h.g, (hb.block _ (lt_of_block h.x)).trans h.x, (hb.block _ (lt_of_block h.y)).trans h.y⟩
/-- behind the work -/
def GcdDone (w w' : World) (K : Nat) (g x y : Int) : Prop := (w.heap.size ≤ w'.heap.size ∧ w'.os = w.os ∧ w'.tape = w.tape ∧ w'.output = w.output ∧ ∀ j, j < w.heap.size → j ≠ K + 2 → j ≠ K + 3 → j ≠ K + 4 → w'.heap[j]? = w.heap[j]?) ∧
  ∃ p l c p' l' c' p'' l'' c'', w'.heap[K + 2]? = some (.cells #[.bool (negB g), .slice p l c] 25 (0, 0)) ∧ w'.heap[K + 3]? = some (.cells #[.bool (negB x), .slice p' l' c'] 25 (0, 0)) ∧ w'.heap[K + 4]? = some (.cells #[.bool (negB y), .slice p'' l'' c''] 25 (0, 0)) ∧
    AtP (w.heap.size ≤ ·) w' (.slice p l c) (Nl.limbs g.natAbs) ∧ AtP (w.heap.size ≤ ·) w' (.slice p' l' c') (Nl.limbs x.natAbs) ∧ AtP (w.heap.size ≤ ·) w' (.slice p'' l'' c'') (Nl.limbs y.natAbs)
set_option maxHeartbeats 8000000 in
theorem gcd1_ok (K : Nat) (s0 s1 : Bool) (p0 p1 : Option Addr) (l0 c0 l1 c1 : Nat) (xs ys : List Nat) (g x y : Int) (w : World) (hbox : GcdBox w K s0 s1 p0 p1 l0 c0 l1 c1)
    (hu : At w (.slice p0 l0 c0) xs) (hv : At w (.slice p1 l1 c1) ys) (v0 : validI s0 xs = true) (v1 : validI s1 ys = true) (fg : fitI g) (fx : fitI x) (fy : fitI y)
    (hcd : ∀ w', Below w.heap.size w w' → Calls Tryz.prog 77 #[.agg #[.bool s0, .slice p0 l0 c0], .agg #[.bool s1, .slice p1 l1 c1]] w' fun e w'' => (∃ u v t, e = .returned (.tuple #[u, v, t]) ∧ IsI w'' u g ∧ IsI w'' v x ∧ IsI w'' t y) ∧ Below w'.heap.size w' w'') :
    Calls Tryz.prog 75 #[.pointer (some ⟨K, 0, none⟩), .pointer (some ⟨K + 1, 0, none⟩), .pointer (some ⟨K + 2, 0, none⟩), .pointer (some ⟨K + 3, 0, none⟩), .pointer (some ⟨K + 4, 0, none⟩)] w fun e w' =>
      e = .returned (.tuple #[]) ∧ GcdDone w w' K g x y := by
  obtain ⟨W, hW⟩ : ∃ W, W = w.alloc (.cells #[.bool s0, .slice p0 l0 c0, .bool s1, .slice p1 l1 c1] 25) := ⟨_, rfl⟩
  have hb : Below w.heap.size w W := by rw [hW]; exact below_one w _
  have hrow : W.heap[w.heap.size]? = some (.cells #[.bool s0, .slice p0 l0 c0, .bool s1, .slice p1 l1 c1] 25 (0, 0)) := by rw [hW]; exact heap_alloc_new _ _
  have HM := Lib.hid (mustBeValid_any w.heap.size [(s0, .slice p0 l0 c0, xs), (s1, .slice p1 l1 c1, ys)] W (givenI_two w.heap.size hrow (hu.below hb) (hv.below hb)) (lt_of_block hrow) (by simp))
  have HVV := Lib.hid (show ∀ p ∈ [(s0, Value.slice p0 l0 c0, xs), (s1, Value.slice p1 l1 c1, ys)], okI p = true from fun p hp => by
    simp only [List.mem_cons, List.not_mem_nil, or_false] at hp
    rcases hp with rfl | rfl
    · exact v0
    · exact v1)
  have HB := Lib.hid hb
  have HBX := Lib.hid hbox
  have HOV := Lib.hid hcd
  have HFI := Lib.hid (And.intro fg (And.intro fx fy))
  have k00 := cell_of_row _ _ 0 _ _ (0, 0) hbox.a
  have k01 := cell_of_row _ _ 1 _ _ (0, 0) hbox.a
  have k10 := cell_of_row _ _ 0 _ _ (0, 0) hbox.b
  have k11 := cell_of_row _ _ 1 _ _ (0, 0) hbox.b
  simp only [List.getElem?_toArray, List.getElem?_cons_zero, List.getElem?_cons_succ] at k00 k01 k10 k11
  clear hu hv v0 v1 fg fx fy hcd hb hrow hbox
  go_enter Tryz.func75, Tryz.ntmps75
  go_wp2_with fail
  rw [← hW]
  clear hW
  refine HM.out.mono ?_
  rintro e w1 ⟨hb1, ⟨-, rfl⟩ | ⟨⟨p, hp, hp2⟩, -⟩⟩
  case inr => exact Bool.noConfusion (hp2.symm.trans (HVV.out p hp))
  have B1 := Lib.hid (HB.out.trans (hb1.mono HB.out.size))
  have X1 := Lib.hid (HBX.out.move B1.out)
  have i00 := cell_of_row _ _ 0 _ _ (0, 0) X1.out.a
  have i01 := cell_of_row _ _ 1 _ _ (0, 0) X1.out.a
  have i10 := cell_of_row _ _ 0 _ _ (0, 0) X1.out.b
  have i11 := cell_of_row _ _ 1 _ _ (0, 0) X1.out.b
  simp only [List.getElem?_toArray, List.getElem?_cons_zero, List.getElem?_cons_succ] at i00 i01 i10 i11
  clear hb1 HM HVV HB k00 k01 k10 k11
  go_wp2_with fail
  refine (HOV.out w1 B1.out).mono ?_
  rintro e w2 ⟨⟨u0, u1, u2, rfl, hg, hx, hy⟩, hb2⟩
  obtain ⟨pt0, ct0, rfl, a0⟩ := AtI.form hg
  obtain ⟨pt1, ct1, rfl, a1⟩ := AtI.form hx
  obtain ⟨pt2, ct2, rfl, a2⟩ := AtI.form hy
  obtain ⟨lt0, hlt0⟩ : ∃ lt0, lt0 = (Nl.limbs g.natAbs).length := ⟨_, rfl⟩
  rw [← hlt0] at a0 ⊢
  obtain ⟨t0, ht0⟩ : ∃ t0, t0 = negB g := ⟨_, rfl⟩
  rw [← ht0]
  obtain ⟨lt1, hlt1⟩ : ∃ lt1, lt1 = (Nl.limbs x.natAbs).length := ⟨_, rfl⟩
  rw [← hlt1] at a1 ⊢
  obtain ⟨t1, ht1⟩ : ∃ t1, t1 = negB x := ⟨_, rfl⟩
  rw [← ht1]
  obtain ⟨lt2, hlt2⟩ : ∃ lt2, lt2 = (Nl.limbs y.natAbs).length := ⟨_, rfl⟩
  rw [← hlt2] at a2 ⊢
  obtain ⟨t2, ht2⟩ : ∃ t2, t2 = negB y := ⟨_, rfl⟩
  rw [← ht2]
  have B2 := Lib.hid (B1.out.trans (hb2.mono B1.out.size))
  have X2 := Lib.hid (X1.out.move hb2)
  have H2 := Lib.hid (And.intro a0 (And.intro a1 (And.intro a2 (And.intro ht0 (And.intro ht1 ht2)))))
  clear hb2 a0 a1 a2 ht0 ht1 ht2 hlt0 hlt1 hlt2 hg hx hy HOV i00 i01 i10 i11 X1
  go_wp2_with fail
  obtain ⟨w3, hw3⟩ : ∃ w3, w3 = ((w2.alloc (.cells #[.bool t0, .slice pt0 lt0 ct0] 78)).alloc (.cells #[.bool t1, .slice pt1 lt1 ct1] 78)).alloc (.cells #[.bool t2, .slice pt2 lt2 ct2] 78) := ⟨_, rfl⟩
  rw [← hw3]
  have hb3 : Below w2.heap.size w2 w3 := by rw [hw3]; exact three_new w2 _ _ _
  have T0 : w3.heap[w2.heap.size]? = some (.cells #[.bool t0, .slice pt0 lt0 ct0] 78 (0, 0)) := by rw [hw3]; exact al_keep _ _ (by simp <;> omega) (al_keep _ _ (by simp <;> omega) (al_at _ _ (by simp)))
  have T1 : w3.heap[w2.heap.size + 1]? = some (.cells #[.bool t1, .slice pt1 lt1 ct1] 78 (0, 0)) := by rw [hw3]; exact al_keep _ _ (by simp <;> omega) (al_at _ _ (by simp))
  have T2 : w3.heap[w2.heap.size + 2]? = some (.cells #[.bool t2, .slice pt2 lt2 ct2] 78 (0, 0)) := by rw [hw3]; exact al_at _ _ (by simp)
  obtain ⟨T, hT⟩ : ∃ T, T = w2.heap.size := ⟨_, rfl⟩
  rw [← hT] at T0 T1 T2 ⊢
  have hl0 : T < w3.heap.size := lt_of_block T0
  have k00 := cell_of_row _ _ 0 _ _ (0, 0) T0
  have k01 := cell_of_row _ _ 1 _ _ (0, 0) T0
  have hl1 : T + 1 < w3.heap.size := lt_of_block T1
  have k10 := cell_of_row _ _ 0 _ _ (0, 0) T1
  have k11 := cell_of_row _ _ 1 _ _ (0, 0) T1
  have hl2 : T + 2 < w3.heap.size := lt_of_block T2
  have k20 := cell_of_row _ _ 0 _ _ (0, 0) T2
  have k21 := cell_of_row _ _ 1 _ _ (0, 0) T2
  simp only [List.getElem?_toArray, List.getElem?_cons_zero, List.getElem?_cons_succ] at k00 k01 k10 k11 k20 k21
  have X3 := X2.out.move hb3
  have hKT : K + 4 < T := by rw [hT]; exact lt_of_block X2.out.y
  have ne2 : ¬ T = K := by omega
  have ne3 : ¬ K = T := by omega
  have ne4 : ¬ T = K + 1 := by omega
  have ne5 : ¬ K + 1 = T := by omega
  have ne6 : ¬ T = K + 2 := by omega
  have ne7 : ¬ K + 2 = T := by omega
  have ne8 : ¬ T = K + 3 := by omega
  have ne9 : ¬ K + 3 = T := by omega
  have ne10 : ¬ T = K + 4 := by omega
  have ne11 : ¬ K + 4 = T := by omega
  have ne12 : ¬ T + 1 = K + 2 := by omega
  have ne13 : ¬ K + 2 = T + 1 := by omega
  have ne14 : ¬ T + 1 = K + 3 := by omega
  have ne15 : ¬ K + 3 = T + 1 := by omega
  have ne16 : ¬ T + 1 = K + 4 := by omega
  have ne17 : ¬ K + 4 = T + 1 := by omega
  have ne18 : ¬ T + 2 = K + 2 := by omega
  have ne19 : ¬ K + 2 = T + 2 := by omega
  have ne20 : ¬ T + 2 = K + 3 := by omega
  have ne21 : ¬ K + 3 = T + 2 := by omega
  have ne22 : ¬ T + 2 = K + 4 := by omega
  have ne23 : ¬ K + 4 = T + 2 := by omega
  have hlg : K + 2 < w3.heap.size := lt_of_block X3.g
  have hlx : K + 3 < w3.heap.size := lt_of_block X3.x
  have hly : K + 4 < w3.heap.size := lt_of_block X3.y
  have bd := below_drewN w3 1 w3.heap.size
  have hk1 := ikept_yes (.agg #[.bool t0, .slice pt0 lt0 ct0]) t0 (Nl.limbs g.natAbs) w3.drew (AtI.mk ((H2.out.1.below hb3).below bd)) HFI.out.1
  have HK0 := Lib.hid hk1
  have HK1 := Lib.hid (fun (w4 : World) (h : Below w3.drew.heap.size w3.drew w4) => ikept_yes (.agg #[.bool t1, .slice pt1 lt1 ct1]) t1 (Nl.limbs x.natAbs) w4 (AtI.mk (((H2.out.2.1.below hb3).below bd).below h)) HFI.out.2.1)
  have HK2 := Lib.hid (fun (w4 : World) (h : Below w3.drew.heap.size w3.drew w4) => ikept_yes (.agg #[.bool t2, .slice pt2 lt2 ct2]) t2 (Nl.limbs y.natAbs) w4 (AtI.mk (((H2.out.2.2.1.below hb3).below bd).below h)) HFI.out.2.2)
  have HX3 := Lib.hid (And.intro X3 (B2.out.trans (hb3.mono B2.out.size)))
  clear hb3 T0 T1 T2 X3 X2 B2 bd hk1 hw3 hT B1 hKT
  go_region_held3 (fun w' => w'.cell? ⟨T, 0, none⟩ = some (.bool t0) ∧ w'.cell? ⟨T, 1, none⟩ = some (.slice pt0 lt0 ct0) ∧ w'.cell? ⟨T + 1, 0, none⟩ = some (.bool t1) ∧ w'.cell? ⟨T + 1, 1, none⟩ = some (.slice pt1 lt1 ct1) ∧ w'.cell? ⟨T + 2, 0, none⟩ = some (.bool t2) ∧ w'.cell? ⟨T + 2, 1, none⟩ = some (.slice pt2 lt2 ct2))
    (first
      | go_keep
      | assumption)
    (first
      | (go_at_call_of 78 (Value.slice pt0 lt0 ct0); refine HK0.out.mono ?_; rintro e w4 ⟨⟨u4, rfl, hu4⟩, hb4⟩; obtain ⟨p4, c4, rfl, -⟩ := hu4.form; have d00 := (hb4.cell (p := ⟨T, 0, none⟩) hl0).trans k00; have d01 := (hb4.cell (p := ⟨T, 1, none⟩) hl0).trans k01; have d10 := (hb4.cell (p := ⟨T + 1, 0, none⟩) hl1).trans k10; have d11 := (hb4.cell (p := ⟨T + 1, 1, none⟩) hl1).trans k11; have d20 := (hb4.cell (p := ⟨T + 2, 0, none⟩) hl2).trans k20; have d21 := (hb4.cell (p := ⟨T + 2, 1, none⟩) hl2).trans k21)
      | (go_at_call_of 78 (Value.slice pt1 lt1 ct1); refine (HK1.out w4 hb4).mono ?_; rintro e w5 ⟨⟨u5, rfl, hu5⟩, hb5⟩; obtain ⟨p5, c5, rfl, -⟩ := hu5.form; have hb45 := hb4.trans (hb5.mono hb4.size); have e00 := (hb45.cell (p := ⟨T, 0, none⟩) hl0).trans k00; have e01 := (hb45.cell (p := ⟨T, 1, none⟩) hl0).trans k01; have e10 := (hb45.cell (p := ⟨T + 1, 0, none⟩) hl1).trans k10; have e11 := (hb45.cell (p := ⟨T + 1, 1, none⟩) hl1).trans k11; have e20 := (hb45.cell (p := ⟨T + 2, 0, none⟩) hl2).trans k20; have e21 := (hb45.cell (p := ⟨T + 2, 1, none⟩) hl2).trans k21)
      | (go_at_call_of 78 (Value.slice pt2 lt2 ct2); refine (HK2.out w5 hb45).mono ?_; rintro e w6 ⟨⟨u6, rfl, hu6⟩, hb6⟩; obtain ⟨p6, c6, rfl, -⟩ := hu6.form; have hb46 := hb45.trans (hb6.mono hb45.size); have f00 := (hb46.cell (p := ⟨T, 0, none⟩) hl0).trans k00; have f01 := (hb46.cell (p := ⟨T, 1, none⟩) hl0).trans k01; have f10 := (hb46.cell (p := ⟨T + 1, 0, none⟩) hl1).trans k10; have f11 := (hb46.cell (p := ⟨T + 1, 1, none⟩) hl1).trans k11; have f20 := (hb46.cell (p := ⟨T + 2, 0, none⟩) hl2).trans k20; have f21 := (hb46.cell (p := ⟨T + 2, 1, none⟩) hl2).trans k21; have B0 := (hb46.block (K + 2) hlg).trans HX3.out.1.g; have B1 := (hb46.block (K + 3) hlx).trans HX3.out.1.x; have B2 := (hb46.block (K + 4) hly).trans HX3.out.1.y; have fr00 := frozen_of_row _ _ 0 _ _ B0; have gr00 := cell_of_row _ _ 0 _ _ (0, 0) B0; have fr01 := frozen_of_row _ _ 1 _ _ B0; have gr01 := cell_of_row _ _ 1 _ _ (0, 0) B0; have fr10 := frozen_of_row _ _ 0 _ _ B1; have gr10 := cell_of_row _ _ 0 _ _ (0, 0) B1; have fr11 := frozen_of_row _ _ 1 _ _ B1; have gr11 := cell_of_row _ _ 1 _ _ (0, 0) B1; have fr20 := frozen_of_row _ _ 0 _ _ B2; have gr20 := cell_of_row _ _ 0 _ _ (0, 0) B2; have fr21 := frozen_of_row _ _ 1 _ _ B2; have gr21 := cell_of_row _ _ 1 _ _ (0, 0) B2; have HZ := Lib.hid (And.intro B0 (And.intro B1 (And.intro B2 (And.intro hu4 (And.intro hu5 (And.intro hu6 (And.intro hb4 (And.intro hb45 (And.intro hb6 (And.intro hb5 hb46)))))))))); clear B0 B1 B2))
  clear hb4 hb5 hb6 hb45 hb46 hu4 hu5 hu6 k00 k01 k10 k11 k20 k21 d00 d01 d10 d11 d20 d21 e00 e01 e10 e11 e20 e21 f00 f01 f10 f11 f20 f21 HK0 HK1 HK2 hl0 hl1 hl2 ne2 ne3 ne4 ne5 ne6 ne7 ne8 ne9 ne10 ne11 ne12 ne13 ne14 ne15 ne16 ne17 ne18 ne19 ne20 ne21 ne22 ne23
  go_wp2_with fail
  go_end0
  obtain ⟨A, hA⟩ : ∃ A, A = (w6.setCell ⟨K + 2, 0, none⟩ (.bool t0)).setCell ⟨K + 2, 1, none⟩ (.slice p4 (Nl.limbs g.natAbs).length c4) := ⟨_, rfl⟩
  rw [← hA]
  obtain ⟨D, hD⟩ : ∃ D, D = (((A.setCell ⟨K + 3, 0, none⟩ (.bool t1)).setCell ⟨K + 3, 1, none⟩ (.slice p5 (Nl.limbs x.natAbs).length c5)).setCell ⟨K + 4, 0, none⟩ (.bool t2)).setCell ⟨K + 4, 1, none⟩ (.slice p6 (Nl.limbs y.natAbs).length c6) := ⟨_, rfl⟩
  rw [← hD]
  have A2 : A.heap[K + 2]? = some (.cells #[.bool t0, .slice p4 (Nl.limbs g.natAbs).length c4] 25 (0, 0)) := by rw [hA]; exact ibox_set _ _ HZ.out.1
  have Ao : ∀ j, j ≠ K + 2 → A.heap[j]? = w6.heap[j]? := fun j hj => by rw [hA, Below.heap_setCell _ ⟨K + 2, 1, none⟩ _ _ hj, Below.heap_setCell _ ⟨K + 2, 0, none⟩ _ _ hj]
  have Aat : ∀ {q : Nat → Prop} {v : Value} {xs : List Nat}, AtP q w6 v xs → AtP q A v xs := fun h => by rw [hA]; exact at_ibox _ _ h HZ.out.1
  obtain ⟨D3, D4, Do, Dat, Db⟩ := ibox2 (g := K + 3) (k := K + 4) (by omega) ((Ao _ (by omega)).trans HZ.out.2.1) ((Ao _ (by omega)).trans HZ.out.2.2.1) t1 t2 p5 p6 (Nl.limbs x.natAbs).length c5 (Nl.limbs y.natAbs).length c6 D hD
  have D2 := (Do (K + 2) (by omega) (by omega)).trans A2
  have hws : w.heap.size ≤ w3.heap.size := HX3.out.2.size
  have hb36 : Below w3.heap.size w3 w6 := (below_drewN w3 1 _).trans (HZ.out.2.2.2.2.2.2.2.2.2.2.mono (Nat.le_refl _))
  have hbw6 : Below w.heap.size w w6 := HX3.out.2.trans (hb36.mono hws)
  have h4s : w3.heap.size ≤ w4.heap.size := HZ.out.2.2.2.2.2.2.1.size
  have h5s : w4.heap.size ≤ w5.heap.size := HZ.out.2.2.2.2.2.2.2.2.2.1.size
  have E4 : AtP (w.heap.size ≤ ·) w6 (.slice p4 (Nl.limbs g.natAbs).length c4) (Nl.limbs g.natAbs) := ((HZ.out.2.2.2.1.mono fun _ _ h => Nat.le_trans hws h).below HZ.out.2.2.2.2.2.2.2.2.2.1).below HZ.out.2.2.2.2.2.2.2.2.1
  have E5 : AtP (w.heap.size ≤ ·) w6 (.slice p5 (Nl.limbs x.natAbs).length c5) (Nl.limbs x.natAbs) := (HZ.out.2.2.2.2.1.mono fun _ _ h => Nat.le_trans (Nat.le_trans hws h4s) h).below HZ.out.2.2.2.2.2.2.2.2.1
  have E6 : AtP (w.heap.size ≤ ·) w6 (.slice p6 (Nl.limbs y.natAbs).length c6) (Nl.limbs y.natAbs) := HZ.out.2.2.2.2.2.1.mono fun _ _ h => Nat.le_trans (Nat.le_trans (Nat.le_trans hws h4s) h5s) h
  have AB0 : Below 0 w A := by rw [hA]; exact below_ibox (hbw6.mono (Nat.zero_le _)) (Nat.zero_le _) _ _
  have DB0 : Below 0 w D := Db 0 w (Nat.zero_le _) (Nat.zero_le _) AB0
  have F2 : D.heap[K + 2]? = some (.cells #[.bool (negB g), .slice p4 (Nl.limbs g.natAbs).length c4] 25 (0, 0)) := by rw [← H2.out.2.2.2.1]; exact D2
  have F3 : D.heap[K + 3]? = some (.cells #[.bool (negB x), .slice p5 (Nl.limbs x.natAbs).length c5] 25 (0, 0)) := by rw [← H2.out.2.2.2.2.1]; exact D3
  have F4 : D.heap[K + 4]? = some (.cells #[.bool (negB y), .slice p6 (Nl.limbs y.natAbs).length c6] 25 (0, 0)) := by rw [← H2.out.2.2.2.2.2]; exact D4
  have K4 := Dat (Aat E4)
  have K5 := Dat (Aat E5)
  have K6 := Dat (Aat E6)
  have hsame : ∀ j, j < w.heap.size → j ≠ K + 2 → j ≠ K + 3 → j ≠ K + 4 → D.heap[j]? = w.heap[j]? := fun j hj n2 n3 n4 => (Do j n3 n4).trans ((Ao j n2).trans (hbw6.block j hj))
  clear hA hD Do Dat Db Ao Aat HZ
  exact ⟨rfl, ⟨DB0.size, DB0.os, DB0.tape, DB0.output, hsame⟩, p4, _, c4, p5, _, c5, p6, _, c6, F2, F3, F4, K4, K5, K6⟩

/-- what a call gives that gives three integers -/
def ThreeI (w w' : World) (e : Ending) (g x y : Int) : Prop := (∃ u v t, e = .returned (.tuple #[u, v, t, .int .i64 0]) ∧ IsI w' u g ∧ IsI w' v x ∧ IsI w' t y) ∧ Below w.heap.size w w'
def GcdR (w w1 : World) (g x y : Int) (Z : Nat) : Prop := Below w.heap.size w w1 ∧ Z ≤ w1.heap.size ∧ ∃ p l c p' l' c' p'' l'' c'', w1.heap[w.heap.size + 2]? = some (.cells #[.bool (negB g), .slice p l c] 25 (0, 0)) ∧ w1.heap[w.heap.size + 3]? = some (.cells #[.bool (negB x), .slice p' l' c'] 25 (0, 0)) ∧ w1.heap[w.heap.size + 4]? = some (.cells #[.bool (negB y), .slice p'' l'' c''] 25 (0, 0)) ∧
    AtP (Z ≤ ·) w1 (.slice p l c) (Nl.limbs g.natAbs) ∧ AtP (Z ≤ ·) w1 (.slice p' l' c') (Nl.limbs x.natAbs) ∧ AtP (Z ≤ ·) w1 (.slice p'' l'' c'') (Nl.limbs y.natAbs)

set_option maxHeartbeats 8000000 in
theorem wholeGcd_ok (v0 v1 : Value) (s0 s1 : Bool) (xs ys : List Nat) (g x y : Int) (w : World) (h0 : AtI w v0 s0 xs) (h1 : AtI w v1 s1 ys) (k0 : validI s0 xs = true) (k1 : validI s1 ys = true) (fg : fitI g) (fx : fitI x) (fy : fitI y)
    (hcd : ∀ w', Below w.heap.size w w' → Calls Tryz.prog 77 #[v0, v1] w' fun e w'' => (∃ u v t, e = .returned (.tuple #[u, v, t]) ∧ IsI w'' u g ∧ IsI w'' v x ∧ IsI w'' t y) ∧ Below w'.heap.size w' w'') :
    Calls Tryz.prog 30 #[v0, v1] w fun e w' => ThreeI w w' e g x y := by
  have hmf : ∀ (fn : Fn) (first cap : Array Value) (w : World), (Instr.makeFunc fn first cap).run Tryz.prog w = .ok (.func fn first cap) w := fun _ _ _ _ => rfl
  obtain ⟨p0, c0, rfl, u0⟩ := h0.form
  obtain ⟨p1, c1, rfl, u1⟩ := h1.form
  obtain ⟨W, hW⟩ : ∃ W, W = ((((w.alloc (.cells #[.bool s0, .slice p0 xs.length c0] 25)).alloc (.cells #[.bool s1, .slice p1 ys.length c1] 25)).alloc (.cells #[.bool false, .slice none 0 0] 25)).alloc (.cells #[.bool false, .slice none 0 0] 25)).alloc (.cells #[.bool false, .slice none 0 0] 25) := ⟨_, rfl⟩
  have hb : Below w.heap.size w W := by rw [hW]; exact ((three_new w _ _ _).alloc (by simp <;> omega) _).alloc (by simp <;> omega) _
  have hs : W.heap.size = w.heap.size + 5 := by rw [hW]; simp
  have hbox : GcdBox W w.heap.size s0 s1 p0 p1 xs.length c0 ys.length c1 := by
    refine ⟨?_, ?_, ?_, ?_, ?_⟩
    · rw [hW]; exact al_keep _ _ (by simp <;> omega) (al_keep _ _ (by simp <;> omega) (al_keep _ _ (by simp <;> omega) (al_keep _ _ (by simp <;> omega) (al_at _ _ (by simp)))))
    · rw [hW]; exact al_keep _ _ (by simp <;> omega) (al_keep _ _ (by simp <;> omega) (al_keep _ _ (by simp <;> omega) (al_at _ _ (by simp))))
    · rw [hW]; exact al_keep _ _ (by simp <;> omega) (al_keep _ _ (by simp <;> omega) (al_at _ _ (by simp)))
    · rw [hW]; exact al_keep _ _ (by simp <;> omega) (al_at _ _ (by simp))
    · rw [hW]; exact al_at _ _ (by simp)
  have HCALL := Lib.hid (call_any 75 #[.pointer (some ⟨w.heap.size, 0, none⟩), .pointer (some ⟨w.heap.size + 1, 0, none⟩), .pointer (some ⟨w.heap.size + 2, 0, none⟩), .pointer (some ⟨w.heap.size + 3, 0, none⟩), .pointer (some ⟨w.heap.size + 4, 0, none⟩)] W (fun c a w1 => a = 0 ∧ c = 0 ∧ GcdR w w1 g x y (W.heap.size + 2)) (fun V hV hsV => by
    have hwV := hb.trans (hV.mono hb.size)
    refine (gcd1_ok w.heap.size s0 s1 p0 p1 xs.length c0 ys.length c1 xs ys g x y V (hbox.move hV) (u0.below hwV) (u1.below hwV) k0 k1 fg fx fy (fun w' h => hcd w' (hwV.trans (h.mono hwV.size)))).mono ?_
    rintro e w1 ⟨rfl, ⟨z1, z2, z3, z4, z5⟩, p, l, c, p', l', c', p'', l'', c'', g1, g2, g3, a1, a2, a3⟩
    refine ⟨fun j j1 j2 => z5 j j2 (by omega) (by omega) (by omega), .inl ⟨rfl, rfl, rfl, ?_, by omega, p, l, c, p', l', c', p'', l'', c'', g1, g2, g3, ?_, ?_, ?_⟩⟩
    · exact hwV.trans ⟨z2, z3, z4, z1, fun j hj => z5 j (Nat.lt_of_lt_of_le hj hwV.size) (by omega) (by omega) (by omega)⟩
    · rw [hsV] at a1; exact a1
    · rw [hsV] at a2; exact a2
    · rw [hsV] at a3; exact a3) (fun _ _ => by kernel_rfl))
  have HS := Lib.hid hs
  clear h0 h1 k0 k1 fg fx fy hcd hb hs hbox u0 u1
  go_enter Tryz.func30, Tryz.ntmps30
  go_wp2_with fail
  rw [← hW]
  clear hW
  refine HCALL.out.mono ?_
  rintro e w3 ⟨c, a', w1, rfl, ⟨rfl, rfl, hbw, hsz, p, l, cp, p', l', cp', p'', l'', cp'', g1, g2, g3, a1, a2, a3⟩, hcau⟩
  have s0 := HS.out
  have hb3 : Below w.heap.size w w3 := below_caught hbw hcau (by omega) (by omega) (by omega)
  have G1 : w3.heap[w.heap.size + 2]? = _ := (hcau.same _ (by omega) (by omega) (by omega)).trans g1
  have G2 : w3.heap[w.heap.size + 3]? = _ := (hcau.same _ (by omega) (by omega) (by omega)).trans g2
  have G3 : w3.heap[w.heap.size + 4]? = _ := (hcau.same _ (by omega) (by omega) (by omega)).trans g3
  have A1 := a1.caught hcau (fun b hb => by omega)
  have A2 := a2.caught hcau (fun b hb => by omega)
  have A3 := a3.caught hcau (fun b hb => by omega)
  obtain ⟨sg, hsg⟩ : ∃ sg, sg = negB g := ⟨_, rfl⟩
  obtain ⟨sx, hsx⟩ : ∃ sx, sx = negB x := ⟨_, rfl⟩
  obtain ⟨sy, hsy⟩ : ∃ sy, sy = negB y := ⟨_, rfl⟩
  rw [← hsg] at G1
  rw [← hsx] at G2
  rw [← hsy] at G3
  have k00 := cell_of_row _ _ 0 _ _ (0, 0) G1
  have k01 := cell_of_row _ _ 1 _ _ (0, 0) G1
  have k10 := cell_of_row _ _ 0 _ _ (0, 0) G2
  have k11 := cell_of_row _ _ 1 _ _ (0, 0) G2
  have k20 := cell_of_row _ _ 0 _ _ (0, 0) G3
  have k21 := cell_of_row _ _ 1 _ _ (0, 0) G3
  simp only [List.getElem?_toArray, List.getElem?_cons_zero, List.getElem?_cons_succ] at k00 k01 k10 k11 k20 k21
  have f0 := frozen_of_row _ _ 0 _ _ G1
  have f1 := frozen_of_row _ _ 1 _ _ G1
  have f2 := frozen_of_row _ _ 0 _ _ G2
  have f3 := frozen_of_row _ _ 1 _ _ G2
  have f4 := frozen_of_row _ _ 0 _ _ G3
  have f5 := frozen_of_row _ _ 1 _ _ G3
  have HZ := Lib.hid (And.intro hb3 (And.intro G1 (And.intro G2 (And.intro G3 (And.intro A1 (And.intro A2 (And.intro A3 (And.intro hsg (And.intro hsx hsy)))))))))
  clear hbw hsz g1 g2 g3 a1 a2 a3 hcau hb3 G1 G2 G3 A1 A2 A3 hsg hsx hsy HCALL s0
  go_wp2_with fail
  go_region
  go_wp2_with fail
  obtain ⟨h1, h2, h3, h4, h5, h6, h7, h8, h9, h10⟩ := HZ.out
  obtain ⟨A, hA⟩ : ∃ A, A = (w3.setCell ⟨w.heap.size + 1 + 1, 0, none⟩ (.bool sg)).setCell ⟨w.heap.size + 1 + 1, 1, none⟩ (.slice p l cp) := ⟨_, rfl⟩
  rw [← hA]
  obtain ⟨D, hD⟩ : ∃ D, D = (((A.setCell ⟨w.heap.size + 1 + 1 + 1, 0, none⟩ (.bool sx)).setCell ⟨w.heap.size + 1 + 1 + 1, 1, none⟩ (.slice p' l' cp')).setCell ⟨w.heap.size + 1 + 1 + 1 + 1, 0, none⟩ (.bool sy)).setCell ⟨w.heap.size + 1 + 1 + 1 + 1, 1, none⟩ (.slice p'' l'' cp'') := ⟨_, rfl⟩
  rw [← hD]
  have A2 : A.heap[w.heap.size + 2]? = some (.cells #[.bool sg, .slice p l cp] 25 (0, 0)) := by rw [hA]; exact ibox_set (g := w.heap.size + 2) _ _ h2
  have Ao : ∀ j, j ≠ w.heap.size + 2 → A.heap[j]? = w3.heap[j]? := fun j hj => by rw [hA, Below.heap_setCell _ ⟨w.heap.size + 1 + 1, 1, none⟩ _ _ hj, Below.heap_setCell _ ⟨w.heap.size + 1 + 1, 0, none⟩ _ _ hj]
  have Aat : ∀ {q : Nat → Prop} {v : Value} {xs : List Nat}, AtP q w3 v xs → AtP q A v xs := fun h => by rw [hA]; exact at_ibox (g := w.heap.size + 2) _ _ h h2
  have AB : Below w.heap.size w A := by rw [hA]; exact below_ibox (g := w.heap.size + 2) h1 (by omega) _ _
  obtain ⟨D3, D4, Do, Dat, Db⟩ := ibox2 (g := w.heap.size + 3) (k := w.heap.size + 4) (by omega) ((Ao _ (by omega)).trans h3) ((Ao _ (by omega)).trans h4) sx sy p' p'' l' cp' l'' cp'' D hD
  have D2 := (Do (w.heap.size + 2) (by omega) (by omega)).trans A2
  refine bodyPost_ret (v := .tuple #[.agg #[.bool sg, .slice p l cp], .agg #[.bool sx, .slice p' l' cp'], .agg #[.bool sy, .slice p'' l'' cp''], .int .i64 0]) (results_int31 Tryz.results30 _ _ (w.heap.size + 2) (w.heap.size + 3) (w.heap.size + 4) _ _ _ _ rfl rfl rfl rfl (load_int (w := World.drew _) D2) (load_int (w := World.drew _) D3) (load_int (w := World.drew _) D4)) rfl ?_
  have bd := below_drewN D 1 D.heap.size
  refine ⟨⟨_, _, _, rfl, ?_, ?_, ?_⟩, (Db w.heap.size w (by omega) (by omega) AB).trans (below_drewN D 1 _)⟩
  · rw [IsI, ← h8]; exact AtI.mk ((Dat (Aat h5)).at.below bd)
  · rw [IsI, ← h9]; exact AtI.mk ((Dat (Aat h6)).at.below bd)
  · rw [IsI, ← h10]; exact AtI.mk ((Dat (Aat h7)).at.below bd)

end Go.Proofs.YtkbghamkalidcaaGreat
