/-
  What Gcd of package whole gives where an argument is not valid. Written by wip/tool/gengcdbad.py. Conditions: those that each theorem names.
  WholeDivisors returns true for any two integers. Written by wip/tool/genlawdv.py. Conditions: those that each theorem names.
  How an argument of the type of integers is opened. Conditions: those that each theorem names.
  The closed facts of the row of WholeDivisors. Conditions: none.
-/
import Derived.Test.YtkbghamkalidcaaGreatGcdW
import Derived.Test.YtkbghamkalidcaaGreatDivEAll
import Derived.Test.YtkbghamkalidcaaGreatComR
import Derived.Test.YtkbghamkalidcaaGreatAwake
import Derived.Test.YtkbghamkalidcaaGreatInts
import Derived.Test.YtkbghamkalidcaaGreatRows
import Derived.ProofKit
import Derived.SizedLaws
import Derived.OpenShut
import Derived.Lib.SmallJoins
namespace Go.Proofs.YtkbghamkalidcaaGreat
open Go.RowKit

set_option maxHeartbeats 4000000 in
theorem gcd1_bad (K : Nat) (s0 s1 : Bool) (p0 p1 : Option Addr) (l0 c0 l1 c1 : Nat) (xs ys : List Nat) (w : World) (hbox : GcdBox w K s0 s1 p0 p1 l0 c0 l1 c1)
    (hu : At w (.slice p0 l0 c0) xs) (hv : At w (.slice p1 l1 c1) ys) (hk : (validI s0 xs && validI s1 ys) = false) :
    Calls Tryz.prog 75 #[.pointer (some ⟨K, 0, none⟩), .pointer (some ⟨K + 1, 0, none⟩), .pointer (some ⟨K + 2, 0, none⟩), .pointer (some ⟨K + 3, 0, none⟩), .pointer (some ⟨K + 4, 0, none⟩)] w fun e w' =>
      Below w.heap.size w w' ∧ e = fault 1 := by
  obtain ⟨W, hW⟩ : ∃ W, W = w.alloc (.cells #[.bool s0, .slice p0 l0 c0, .bool s1, .slice p1 l1 c1] 25) := ⟨_, rfl⟩
  have hb : Below w.heap.size w W := by rw [hW]; exact below_one w _
  have hrow : W.heap[w.heap.size]? = some (.cells #[.bool s0, .slice p0 l0 c0, .bool s1, .slice p1 l1 c1] 25 (0, 0)) := by rw [hW]; exact heap_alloc_new _ _
  have HM := Lib.hid (mustBeValid_any w.heap.size [(s0, .slice p0 l0 c0, xs), (s1, .slice p1 l1 c1, ys)] W (givenI_two w.heap.size hrow (hu.below hb) (hv.below hb)) (lt_of_block hrow) (by simp))
  have HB := Lib.hid hb
  have HBX := Lib.hid hbox
  have k00 := cell_of_row _ _ 0 _ _ (0, 0) hbox.a
  have k01 := cell_of_row _ _ 1 _ _ (0, 0) hbox.a
  have k10 := cell_of_row _ _ 0 _ _ (0, 0) hbox.b
  have k11 := cell_of_row _ _ 1 _ _ (0, 0) hbox.b
  simp only [List.getElem?_toArray, List.getElem?_cons_zero, List.getElem?_cons_succ] at k00 k01 k10 k11
  clear hu hv hb hrow hbox
  go_enter Tryz.func75, Tryz.ntmps75
  go_wp2_with fail
  rw [← hW]
  clear hW
  refine HM.out.mono ?_
  rintro e w1 ⟨hb1, ⟨hall, rfl⟩ | ⟨⟨p, hp, hp2⟩, rfl⟩⟩
  · have hv0 : validI s0 xs = true := hall (s0, .slice p0 l0 c0, xs) (by simp)
    have hv1 : validI s1 ys = true := hall (s1, .slice p1 l1 c1, ys) (by simp)
    rw [hv0, hv1] at hk
    exact absurd hk (by decide)
  · have B1 := HB.out.trans (hb1.mono HB.out.size)
    first
      | exact ⟨rfl, B1, rfl⟩
      | exact ⟨B1, rfl⟩

set_option maxHeartbeats 8000000 in
theorem wholeGcd_bad (v0 v1 : Value) (s0 s1 : Bool) (xs ys : List Nat) (w : World) (h0 : AtI w v0 s0 xs) (h1 : AtI w v1 s1 ys) (hk : (validI s0 xs && validI s1 ys) = false) :
    Calls Tryz.prog 30 #[v0, v1] w fun e w' => e = .returned (.tuple #[.agg #[.bool false, .slice none 0 0], .agg #[.bool false, .slice none 0 0], .agg #[.bool false, .slice none 0 0], .int .i64 1]) ∧ Below w.heap.size w w' := by
  have hmf : ∀ (fn : Fn) (first cap : Array Value) (w : World), (Instr.makeFunc fn first cap).run Tryz.prog w = .ok (.func fn first cap) w := fun _ _ _ _ => rfl
  obtain ⟨p0, c0, rfl, u0⟩ := h0.form
  obtain ⟨p1, c1, rfl, u1⟩ := h1.form
  obtain ⟨W, hW⟩ : ∃ W, W = ((((w.alloc (.cells #[.bool s0, .slice p0 xs.length c0] 25)).alloc (.cells #[.bool s1, .slice p1 ys.length c1] 25)).alloc (.cells #[.bool false, .slice none 0 0] 25)).alloc (.cells #[.bool false, .slice none 0 0] 25)).alloc (.cells #[.bool false, .slice none 0 0] 25) := ⟨_, rfl⟩
  have hb : Below w.heap.size w W := by rw [hW]; exact ((three_new w _ _ _).alloc (by simp <;> omega) _).alloc (by simp <;> omega) _
  have hs : W.heap.size = w.heap.size + 5 := by rw [hW]; simp
  have hbox : GcdBox W w.heap.size s0 s1 p0 p1 xs.length c0 ys.length c1 := by
    refine ⟨?_, ?_, ?_, ?_, ?_⟩
    · rw [hW]; exact al_keep _ _ (by simp <;> omega) (al_keep _ _ (by simp <;> omega) (al_keep _ _ (by simp <;> omega) (al_keep _ _ (by simp <;> omega) (al_at _ _ (by simp)))))
    · rw [hW]; exact al_keep _ _ (by simp <;> omega) (al_keep _ _ (by simp <;> omega) (al_keep _ _ (by simp <;> omega) (al_at _ _ (by simp))))
    · rw [hW]; exact al_keep _ _ (by simp <;> omega) (al_keep _ _ (by simp <;> omega) (al_at _ _ (by simp)))
    · rw [hW]; exact al_keep _ _ (by simp <;> omega) (al_at _ _ (by simp))
    · rw [hW]; exact al_at _ _ (by simp)
  have HCALL := Lib.hid (call_any 75 #[.pointer (some ⟨w.heap.size, 0, none⟩), .pointer (some ⟨w.heap.size + 1, 0, none⟩), .pointer (some ⟨w.heap.size + 2, 0, none⟩), .pointer (some ⟨w.heap.size + 3, 0, none⟩), .pointer (some ⟨w.heap.size + 4, 0, none⟩)] W (fun c a w1 => a = 0 ∧ c = 1 ∧ Below w.heap.size w w1 ∧ W.heap.size + 2 ≤ w1.heap.size ∧ w1.heap[w.heap.size + 2]? = some (.cells #[.bool false, .slice none 0 0] 25 (0, 0)) ∧ w1.heap[w.heap.size + 3]? = some (.cells #[.bool false, .slice none 0 0] 25 (0, 0)) ∧ w1.heap[w.heap.size + 4]? = some (.cells #[.bool false, .slice none 0 0] 25 (0, 0))) (fun V hV hsV => by
    have hwV := hb.trans (hV.mono hb.size)
    have hbV := hbox.move hV
    refine (gcd1_bad w.heap.size s0 s1 p0 p1 xs.length c0 ys.length c1 xs ys V hbV (u0.below hwV) (u1.below hwV) hk).mono ?_
    rintro e w1 ⟨hb1, rfl⟩
    refine ⟨fun j j1 j2 => hb1.block j j2, .inr ⟨1, 0, rfl, rfl, rfl, hwV.trans (hb1.mono hwV.size), by have := hb1.size; omega, (hb1.block _ (lt_of_block hbV.g)).trans hbV.g, (hb1.block _ (lt_of_block hbV.x)).trans hbV.x, (hb1.block _ (lt_of_block hbV.y)).trans hbV.y⟩⟩) (fun _ _ => by kernel_rfl))
  have HS := Lib.hid hs
  clear h0 h1 hk hb hs hbox u0 u1
  go_enter Tryz.func30, Tryz.ntmps30
  go_wp2_with fail
  rw [← hW]
  clear hW
  refine HCALL.out.mono ?_
  rintro e w3 ⟨c, a', w1, rfl, ⟨rfl, rfl, hbw, hsz, g1, g2, g3⟩, hcau⟩
  have s0 := HS.out
  have hb3 : Below w.heap.size w w3 := below_caught hbw hcau (by omega) (by omega) (by omega)
  have G1 : w3.heap[w.heap.size + 2]? = _ := (hcau.same _ (by omega) (by omega) (by omega)).trans g1
  have G2 : w3.heap[w.heap.size + 3]? = _ := (hcau.same _ (by omega) (by omega) (by omega)).trans g2
  have G3 : w3.heap[w.heap.size + 4]? = _ := (hcau.same _ (by omega) (by omega) (by omega)).trans g3
  have k00 := cell_of_row _ _ 0 _ _ (0, 0) G1
  have k01 := cell_of_row _ _ 1 _ _ (0, 0) G1
  have k10 := cell_of_row _ _ 0 _ _ (0, 0) G2
  have k11 := cell_of_row _ _ 1 _ _ (0, 0) G2
  have k20 := cell_of_row _ _ 0 _ _ (0, 0) G3
  have k21 := cell_of_row _ _ 1 _ _ (0, 0) G3
  simp only [List.getElem?_toArray, List.getElem?_cons_zero, List.getElem?_cons_succ] at k00 k01 k10 k11 k20 k21
  have f0 := frozen_of_row _ _ 0 _ _ G1
  have f1 := frozen_of_row _ _ 1 _ _ G1
  have f2 := frozen_of_row _ _ 0 _ _ G2
  have f3 := frozen_of_row _ _ 1 _ _ G2
  have f4 := frozen_of_row _ _ 0 _ _ G3
  have f5 := frozen_of_row _ _ 1 _ _ G3
  have HZ := Lib.hid (And.intro hb3 (And.intro G1 (And.intro G2 G3)))
  clear hbw hsz g1 g2 g3 hcau hb3 G1 G2 G3 HCALL s0
  go_wp2_with fail
  go_region
  go_wp2_with fail
  obtain ⟨h1, h2, h3, h4⟩ := HZ.out
  obtain ⟨A, hA⟩ : ∃ A, A = (w3.setCell ⟨w.heap.size + 1 + 1, 0, none⟩ (.bool false)).setCell ⟨w.heap.size + 1 + 1, 1, none⟩ (.slice none 0 0) := ⟨_, rfl⟩
  rw [← hA]
  obtain ⟨D, hD⟩ : ∃ D, D = (((A.setCell ⟨w.heap.size + 1 + 1 + 1, 0, none⟩ (.bool false)).setCell ⟨w.heap.size + 1 + 1 + 1, 1, none⟩ (.slice none 0 0)).setCell ⟨w.heap.size + 1 + 1 + 1 + 1, 0, none⟩ (.bool false)).setCell ⟨w.heap.size + 1 + 1 + 1 + 1, 1, none⟩ (.slice none 0 0) := ⟨_, rfl⟩
  rw [← hD]
  have A2 : A.heap[w.heap.size + 2]? = some (.cells #[.bool false, .slice none 0 0] 25 (0, 0)) := by rw [hA]; exact ibox_set (g := w.heap.size + 2) _ _ h2
  have Ao : ∀ j, j ≠ w.heap.size + 2 → A.heap[j]? = w3.heap[j]? := fun j hj => by rw [hA, Below.heap_setCell _ ⟨w.heap.size + 1 + 1, 1, none⟩ _ _ hj, Below.heap_setCell _ ⟨w.heap.size + 1 + 1, 0, none⟩ _ _ hj]
  have AB : Below w.heap.size w A := by rw [hA]; exact below_ibox (g := w.heap.size + 2) h1 (by omega) _ _
  obtain ⟨D3, D4, Do, -, Db⟩ := ibox2 (g := w.heap.size + 3) (k := w.heap.size + 4) (by omega) ((Ao _ (by omega)).trans h3) ((Ao _ (by omega)).trans h4) false false none none 0 0 0 0 D hD
  have D2 := (Do (w.heap.size + 2) (by omega) (by omega)).trans A2
  refine bodyPost_ret (v := .tuple #[.agg #[.bool false, .slice none 0 0], .agg #[.bool false, .slice none 0 0], .agg #[.bool false, .slice none 0 0], .int .i64 1]) (results_int31 Tryz.results30 _ _ (w.heap.size + 2) (w.heap.size + 3) (w.heap.size + 4) _ _ _ _ rfl rfl rfl rfl (load_int (w := World.drew _) D2) (load_int (w := World.drew _) D3) (load_int (w := World.drew _) D4)) rfl ?_
  exact ⟨rfl, (Db w.heap.size w (by omega) (by omega) AB).trans (below_drewN D 1 _)⟩
end Go.Proofs.YtkbghamkalidcaaGreat

namespace Go.Proofs.YtkbghamkalidcaaGreat
open Go.RowKit

theorem len_val {s : Bool} {xs : List Nat} (m : Nl.Small xs) {k : Nat} (h : xs.length ≤ k) : (Nl.limbs (sgn s (Nl.val xs)).natAbs).length ≤ k := by
  rw [sgn_abs]
  exact Nat.le_trans (Nl.limbs_lt (Nl.val_lt m)) h
theorem codeI_inv {a b : Int} (lb : (Nl.limbs b.natAbs).length ≤ 50) : codeI (invK a b) (cX a b) = invK a b := by
  by_cases h : invK a b = 0
  · rw [h]; exact codeI_fit (Nat.le_trans (len_cX (by decide) lb) (by decide))
  · rw [codeI, if_pos h]
theorem wInv_all (v0 : Value) (s0 : Bool) (xs : List Nat) (v1 : Value) (s1 : Bool) (ys : List Nat) (w : World) (h0 : AtI w v0 s0 xs) (m0 : Nl.Small xs) (h1 : AtI w v1 s1 ys) (m1 : Nl.Small ys) (k0 : xs.length ≤ 50) (k1 : ys.length ≤ 50) :
    Calls Tryz.prog 32 #[v0, v1] w fun e w' => Below w.heap.size w w' ∧ ∃ s p l c, e = .returned (.tuple #[.agg #[.bool s, .slice p l c], .int .i64 (if (validI s0 xs && validI s1 ys) = true then invK (sgn s0 (Nl.val xs)) (sgn s1 (Nl.val ys)) else 1)]) ∧ GotV w' (if (validI s0 xs && validI s1 ys) = true then invK (sgn s0 (Nl.val xs)) (sgn s1 (Nl.val ys)) else 1) (cX (sgn s0 (Nl.val xs)) (sgn s1 (Nl.val ys))) s p l c := by
  refine (wholeInverse_any v0 s0 xs v1 s1 ys w h0 m0 h1 m1 (len_val m0 k0) (len_val m1 k1)).mono ?_
  rintro e w' ⟨c, hc, ⟨v, rfl, h3, h4⟩, hb⟩
  have hcK : c = (if (validI s0 xs && validI s1 ys) = true then invK (sgn s0 (Nl.val xs)) (sgn s1 (Nl.val ys)) else 1) := by
    rw [hc]
    by_cases hok : (validI s0 xs && validI s1 ys) = true
    · rw [if_pos hok, if_pos hok]; exact codeI_inv (len_val m1 k1)
    · rw [if_neg hok, if_neg hok]
  rw [← hcK]
  by_cases hz : c = 0
  · obtain ⟨p, cp, rfl, hu⟩ := (h3 hz).form
    exact ⟨hb, _, _, _, _, rfl, fun _ => h3 hz, fun h => absurd hz h⟩
  · rw [h4 hz]; exact ⟨hb, _, _, _, _, rfl, fun h => absurd h hz, fun _ => ⟨rfl, rfl, rfl, rfl⟩⟩
/-- what Gcd returns -/
def ComT (w w' : World) (e : Ending) (k x y z : Int) : Prop := Below w.heap.size w w' ∧ ∃ t0 q0 m0 d0 t1 q1 m1 d1 t2 q2 m2 d2, e = .returned (.tuple #[.agg #[.bool t0, .slice q0 m0 d0], .agg #[.bool t1, .slice q1 m1 d1], .agg #[.bool t2, .slice q2 m2 d2], .int .i64 k]) ∧ IsI w' (.agg #[.bool t0, .slice q0 m0 d0]) x ∧ IsI w' (.agg #[.bool t1, .slice q1 m1 d1]) y ∧ IsI w' (.agg #[.bool t2, .slice q2 m2 d2]) z
theorem wGcd_all (v0 : Value) (s0 : Bool) (xs : List Nat) (v1 : Value) (s1 : Bool) (ys : List Nat) (w : World) (h0 : AtI w v0 s0 xs) (m0 : Nl.Small xs) (h1 : AtI w v1 s1 ys) (m1 : Nl.Small ys) (k0 : xs.length ≤ 50) (k1 : ys.length ≤ 50) :
    Calls Tryz.prog 30 #[v0, v1] w fun e w' => ComT w w' e (if (validI s0 xs && validI s1 ys) = true then 0 else 1) (if (validI s0 xs && validI s1 ys) = true then cG (sgn s0 (Nl.val xs)) (sgn s1 (Nl.val ys)) else 0) (if (validI s0 xs && validI s1 ys) = true then cX (sgn s0 (Nl.val xs)) (sgn s1 (Nl.val ys)) else 0) (if (validI s0 xs && validI s1 ys) = true then cY (sgn s0 (Nl.val xs)) (sgn s1 (Nl.val ys)) else 0) := by
  by_cases hok : (validI s0 xs && validI s1 ys) = true
  · obtain ⟨p0, c0, rfl, -⟩ := h0.form
    obtain ⟨p1, c1, rfl, -⟩ := h1.form
    have h01 := (Bool.and_eq_true _ _).mp hok
    rw [if_pos hok, if_pos hok, if_pos hok, if_pos hok]
    refine (wGcdL _ _ (sgn s0 (Nl.val xs)) (sgn s1 (Nl.val ys)) w (isI_of_ok (at_of h0) m0 h01.1).1 (isI_of_ok (at_of h1) m1 h01.2).1 (len_val m0 k0) (len_val m1 k1)).mono ?_
    rintro e w' ⟨⟨-, p, l, c, s', p', l', c', s'', p'', l'', c'', rfl, a, b, d⟩, hb⟩
    exact ⟨hb, _, _, _, _, _, _, _, _, _, _, _, _, rfl, a, b, d⟩
  · rw [if_neg hok, if_neg hok, if_neg hok, if_neg hok]
    refine (wholeGcd_bad v0 v1 s0 s1 xs ys w h0 h1 ((Bool.not_eq_true _).mp hok)).mono ?_
    rintro e w' ⟨rfl, hb⟩
    exact ⟨hb, _, _, _, _, _, _, _, _, _, _, _, _, rfl, isI_nilI _, isI_nilI _, isI_nilI _⟩

set_option maxRecDepth 10000 in
set_option maxHeartbeats 16000000 in
theorem wholeDivisors_any (va vb : Value) (s0 s1 : Bool) (xs ys : List Nat) (w : World) (h0 : AtI w va s0 xs) (h1 : AtI w vb s1 ys) (m0 : Nl.Small xs) (m1 : Nl.Small ys) :
    Calls Tryz.prog 6 #[va, vb] w fun e w' => e = .returned (.bool true) ∧ Below w.heap.size w w' := by
  obtain ⟨p0, c0, rfl, u0⟩ := h0.form
  obtain ⟨p1, c1, rfl, u1⟩ := h1.form
  have HA := Lib.hid awake_any
  obtain ⟨l0, hl0⟩ : ∃ l0, l0 = xs.length := ⟨_, rfl⟩
  obtain ⟨l1, hl1⟩ : ∃ l1, l1 = ys.length := ⟨_, rfl⟩
  rw [← hl0] at u0 h0 ⊢
  rw [← hl1] at u1 h1 ⊢
  obtain ⟨W, hW⟩ : ∃ W, W = (w.alloc (.cells #[.bool s0, .slice p0 l0 c0] 25)).alloc (.cells #[.bool s1, .slice p1 l1 c1] 25) := ⟨_, rfl⟩
  have hb : Below w.heap.size w W := by rw [hW]; exact two_new w _ _
  have B0 : W.heap[w.heap.size]? = some (.cells #[.bool s0, .slice p0 l0 c0] 25 (0, 0)) := by rw [hW]; exact heap_alloc2_old w _ _
  have B1 : W.heap[w.heap.size + 1]? = some (.cells #[.bool s1, .slice p1 l1 c1] 25 (0, 0)) := by rw [hW]; exact heap_alloc2_new w _ _
  have b00 := cell_of_row _ _ 0 _ _ (0, 0) B0
  have b01 := cell_of_row _ _ 1 _ _ (0, 0) B0
  have b10 := cell_of_row _ _ 0 _ _ (0, 0) B1
  have b11 := cell_of_row _ _ 1 _ _ (0, 0) B1
  simp only [List.getElem?_toArray, List.getElem?_cons_zero, List.getElem?_cons_succ] at b00 b01 b10 b11
  have hlt0 := lt_of_block B0
  have hlt1 := lt_of_block B1
  have k00 : ∀ w', Below W.heap.size W w' → w'.cell? ⟨w.heap.size, 0, none⟩ = some (.bool s0) := fun w' h => (h.cell hlt0).trans b00
  have k01 : ∀ w', Below W.heap.size W w' → w'.cell? ⟨w.heap.size, 1, none⟩ = some (.slice p0 l0 c0) := fun w' h => (h.cell hlt0).trans b01
  have k10 : ∀ w', Below W.heap.size W w' → w'.cell? ⟨w.heap.size + 1, 0, none⟩ = some (.bool s1) := fun w' h => (h.cell hlt1).trans b10
  have k11 : ∀ w', Below W.heap.size W w' → w'.cell? ⟨w.heap.size + 1, 1, none⟩ = some (.slice p1 l1 c1) := fun w' h => (h.cell hlt1).trans b11
  have HW := Lib.hid hb
  have H0 := Lib.hid (And.intro (h0.below hb) m0)
  have H1 := Lib.hid (And.intro (h1.below hb) m1)
  have HK := Lib.hid (And.intro k00 (And.intro k01 (And.intro k10 k11)))
  have HS0 := Lib.hid (fun (w' : World) (h : Below W.heap.size W w') => small_law (.agg #[.bool s0, .slice p0 l0 c0]) s0 xs 8 w' (H0.out.1.below h))
  have HS1 := Lib.hid (fun (w' : World) (h : Below W.heap.size W w') => small_law (.agg #[.bool s1, .slice p1 l1 c1]) s1 ys 8 w' (H1.out.1.below h))
  rw [← hl0] at HS0
  rw [← hl1] at HS1
  have HLL := Lib.hid (And.intro hl0 hl1)
  clear u0 u1 h0 h1 m0 m1 hl0 hl1 hb B0 B1 hlt0 hlt1 k00 k01 k10 k11
  by_cases hx : l0 ≤ 8
  · by_cases hy : l1 ≤ 8
    · have q0 := decide_eq_true hx
      have q1 := decide_eq_true hy
      rw [q0] at HS0
      rw [q1] at HS1
      have HXY := Lib.hid (show xs.length ≤ 50 ∧ ys.length ≤ 50 from ⟨by rw [← HLL.out.1]; omega, by rw [← HLL.out.2]; omega⟩)
      clear hx hy q0 q1
      go_enter Tryz.func6, Tryz.ntmps6
      go_wp2_with fail
      rw [← hW]
      clear hW
      refine (HS0.out W (Below.refl _ _)).mono ?_
      rintro e w1 ⟨rfl, hbw1⟩
      have HB1 := Lib.hid hbw1
      clear hbw1 b00 b01 b10 b11
      have b00 := HK.out.1 w1 HB1.out
      have b01 := HK.out.2.1 w1 HB1.out
      have b10 := HK.out.2.2.1 w1 HB1.out
      have b11 := HK.out.2.2.2 w1 HB1.out
      go_wp2_with fail
      refine (HS1.out w1 HB1.out).mono ?_
      rintro e w2 ⟨rfl, hbw2⟩
      have HB2 := Lib.hid (HB1.out.trans (hbw2.mono HB1.out.size))
      clear hbw2 b00 b01 b10 b11
      obtain ⟨KK, hKK⟩ : ∃ k : Int, k = (if (validI s0 xs && validI s1 ys) = true then (0 : Int) else 1) := ⟨_, rfl⟩
      obtain ⟨GG, hGG⟩ : ∃ k : Int, k = (if (validI s0 xs && validI s1 ys) = true then cG (sgn s0 (Nl.val xs)) (sgn s1 (Nl.val ys)) else 0) := ⟨_, rfl⟩
      obtain ⟨XX, hXX⟩ : ∃ k : Int, k = (if (validI s0 xs && validI s1 ys) = true then cX (sgn s0 (Nl.val xs)) (sgn s1 (Nl.val ys)) else 0) := ⟨_, rfl⟩
      obtain ⟨YY, hYY⟩ : ∃ k : Int, k = (if (validI s0 xs && validI s1 ys) = true then cY (sgn s0 (Nl.val xs)) (sgn s1 (Nl.val ys)) else 0) := ⟨_, rfl⟩
      obtain ⟨KI, hKI⟩ : ∃ k : Int, k = (if (validI s0 xs && validI s1 ys) = true then invK (sgn s0 (Nl.val xs)) (sgn s1 (Nl.val ys)) else 1) := ⟨_, rfl⟩
      obtain ⟨NX, hNX⟩ : ∃ k : Int, k = (cX (sgn s0 (Nl.val xs)) (sgn s1 (Nl.val ys))) := ⟨_, rfl⟩
      have HG := Lib.hid (show Calls Tryz.prog 30 #[.agg #[.bool s0, .slice p0 l0 c0], .agg #[.bool s1, .slice p1 l1 c1]] w2 fun e w' => ComT w2 w' e KK GG XX YY by rw [hKK, hGG, hXX, hYY]; exact wGcd_all _ s0 xs _ s1 ys w2 (H0.out.1.below HB2.out) H0.out.2 (H1.out.1.below HB2.out) H1.out.2 HXY.out.1 HXY.out.2)
      have HR := Lib.hid (fun (w' : World) (h : Below W.heap.size W w') => (show Calls Tryz.prog 33 #[.agg #[.bool s0, .slice p0 l0 c0], .agg #[.bool s1, .slice p1 l1 c1]] w' fun e w'' => ComI w' w'' e KK GG XX YY by rw [hKK, hGG, hXX, hYY]; exact rGcd_any _ s0 xs _ s1 ys w' (H0.out.1.below h) H0.out.2 (H1.out.1.below h) H1.out.2 HXY.out.1 HXY.out.2))
      have HI := Lib.hid (fun (w' : World) (h : Below W.heap.size W w') => (show Calls Tryz.prog 32 #[.agg #[.bool s0, .slice p0 l0 c0], .agg #[.bool s1, .slice p1 l1 c1]] w' fun e w'' => Below w'.heap.size w' w'' ∧ ∃ s p l c, e = .returned (.tuple #[.agg #[.bool s, .slice p l c], .int .i64 KI]) ∧ GotV w'' KI NX s p l c by rw [hKI, hNX]; exact wInv_all _ s0 xs _ s1 ys w' (H0.out.1.below h) H0.out.2 (H1.out.1.below h) H1.out.2 HXY.out.1 HXY.out.2))
      have HRI := Lib.hid (fun (w' : World) (h : Below W.heap.size W w') => (show Calls Tryz.prog 35 #[.agg #[.bool s0, .slice p0 l0 c0], .agg #[.bool s1, .slice p1 l1 c1]] w' fun e w'' => GotI w' w'' e KI NX by rw [hKI, hNX]; exact rInverse_any _ s0 xs _ s1 ys w' (H0.out.1.below h) H0.out.2 (H1.out.1.below h) H1.out.2 HXY.out.1 HXY.out.2))
      clear hKK hGG hXX hYY hKI hNX
      have b00 := HK.out.1 w2 HB2.out
      have b01 := HK.out.2.1 w2 HB2.out
      have b10 := HK.out.2.2.1 w2 HB2.out
      have b11 := HK.out.2.2.2 w2 HB2.out
      go_wp2_with fail
      refine HG.out.mono ?_
      rintro e u3 ⟨hb3, tg, qg, mg, dg, tx, qx, mx, dx, ty, qy, my, dy, rfl, ig, ix, iy⟩
      obtain ⟨Z1, hZ1⟩ : ∃ Z1, Z1 = ((u3.alloc (.cells #[.bool tg, .slice qg mg dg] 25)).alloc (.cells #[.bool tx, .slice qx mx dx] 25)).alloc (.cells #[.bool ty, .slice qy my dy] 25) := ⟨_, rfl⟩
      have hz : Below u3.heap.size u3 Z1 := by rw [hZ1]; exact three_new _ _ _ _
      have rg : Z1.heap[u3.heap.size]? = some (.cells #[.bool tg, .slice qg mg dg] 25 (0, 0)) := by rw [hZ1]; exact al_keep _ _ (by simp <;> omega) (al_keep _ _ (by simp <;> omega) (al_at _ _ rfl))
      have rx : Z1.heap[u3.heap.size + 1]? = some (.cells #[.bool tx, .slice qx mx dx] 25 (0, 0)) := by rw [hZ1]; exact al_keep _ _ (by simp <;> omega) (al_at _ _ (by simp))
      have ry : Z1.heap[u3.heap.size + 1 + 1]? = some (.cells #[.bool ty, .slice qy my dy] 25 (0, 0)) := by rw [hZ1]; exact al_at _ _ (by simp)
      have HG1 := Lib.hid (And.intro (show Kept Z1 u3.heap.size tg qg mg dg GG from ⟨rg, ig.below hz⟩) (And.intro (show Kept Z1 (u3.heap.size + 1) tx qx mx dx XX from ⟨rx, ix.below hz⟩) (show Kept Z1 (u3.heap.size + 1 + 1) ty qy my dy YY from ⟨ry, iy.below hz⟩)))
      have HB3 := Lib.hid (HB2.out.trans ((hb3.trans (hz.mono hb3.size)).mono HB2.out.size))
      clear hb3 hz rg rx ry ig ix iy HG b00 b01 b10 b11
      have b00 := HK.out.1 Z1 HB3.out
      have b01 := HK.out.2.1 Z1 HB3.out
      have b10 := HK.out.2.2.1 Z1 HB3.out
      have b11 := HK.out.2.2.2 Z1 HB3.out
      rw [hZ1] at b00 b01 b10 b11
      have HC := Lib.hid (HR.out Z1 HB3.out)
      clear HR
      go_wp2_with fail
      rw [← hZ1]
      clear hZ1
      refine HC.out.mono ?_
      rintro e u4 ⟨hb4, t0, q0, m0, d0, t1, q1, m1, d1, t2, q2, m2, d2, rfl, ig, ix, iy⟩
      obtain ⟨Z2, hZ2⟩ : ∃ Z2, Z2 = u4.alloc (.cells #[.bool t0, .slice q0 m0 d0, .bool t1, .slice q1 m1 d1, .bool t2, .slice q2 m2 d2, .int .i64 KK] 58) := ⟨_, rfl⟩
      have hz : Below u4.heap.size u4 Z2 := by rw [hZ2]; exact below_one _ _
      have r7 : Z2.heap[u4.heap.size]? = some (.cells #[.bool t0, .slice q0 m0 d0, .bool t1, .slice q1 m1 d1, .bool t2, .slice q2 m2 d2, .int .i64 KK] 58 (0, 0)) := by rw [hZ2]; exact al_at _ _ rfl
      have hs := hb4.trans (hz.mono hb4.size)
      have HG2 := Lib.hid (And.intro (HG1.out.1.on hs) (And.intro (HG1.out.2.1.on hs) (HG1.out.2.2.on hs)))
      have HR2 := Lib.hid (And.intro r7 (And.intro (ig.below hz) (And.intro (ix.below hz) (iy.below hz))))
      have HB4 := Lib.hid (HB3.out.trans (hs.mono HB3.out.size))
      clear hb4 hz hs r7 ig ix iy HC HG1 b00 b01 b10 b11
      have b00 := HK.out.1 Z2 HB4.out
      have b01 := HK.out.2.1 Z2 HB4.out
      have b10 := HK.out.2.2.1 Z2 HB4.out
      have b11 := HK.out.2.2.2 Z2 HB4.out
      rw [hZ2] at b00 b01 b10 b11
      have HC := Lib.hid (HI.out Z2 HB4.out)
      clear HI
      go_wp2_with fail
      rw [← hZ2]
      clear hZ2
      refine HC.out.mono ?_
      rintro e u5 ⟨hb5, si, pi, li, ci, rfl, gi⟩
      obtain ⟨Z3, hZ3⟩ : ∃ Z3, Z3 = u5.alloc (.cells #[.bool si, .slice pi li ci] 25) := ⟨_, rfl⟩
      have hz : Below u5.heap.size u5 Z3 := by rw [hZ3]; exact below_one _ _
      have ri : Z3.heap[u5.heap.size]? = some (.cells #[.bool si, .slice pi li ci] 25 (0, 0)) := by rw [hZ3]; exact al_at _ _ rfl
      have hs := hb5.trans (hz.mono hb5.size)
      have HG3 := Lib.hid (And.intro (HG2.out.1.on hs) (And.intro (HG2.out.2.1.on hs) (HG2.out.2.2.on hs)))
      have HR3 := Lib.hid (And.intro ((hs.block _ (lt_of_block HR2.out.1)).trans HR2.out.1) (And.intro (HR2.out.2.1.below hs) (And.intro (HR2.out.2.2.1.below hs) (HR2.out.2.2.2.below hs))))
      have HV3 := Lib.hid (And.intro ri (gi.below hz))
      have HB5 := Lib.hid (HB4.out.trans (hs.mono HB4.out.size))
      clear hb5 hz hs ri gi HC HG2 HR2 b00 b01 b10 b11
      go_wp2_with fail
      rw [← hZ3]
      clear hZ3
      have zg0 : ∀ w', Below Z3.heap.size Z3 w' → w'.cell? ⟨u3.heap.size, 0, none⟩ = some (.bool tg) := fun w' h => (HG3.out.1.on h).c0
      have zg1 : ∀ w', Below Z3.heap.size Z3 w' → w'.cell? ⟨u3.heap.size, 1, none⟩ = some (.slice qg mg dg) := fun w' h => (HG3.out.1.on h).c1
      have zx0 : ∀ w', Below Z3.heap.size Z3 w' → w'.cell? ⟨u3.heap.size + 1, 0, none⟩ = some (.bool tx) := fun w' h => (HG3.out.2.1.on h).c0
      have zx1 : ∀ w', Below Z3.heap.size Z3 w' → w'.cell? ⟨u3.heap.size + 1, 1, none⟩ = some (.slice qx mx dx) := fun w' h => (HG3.out.2.1.on h).c1
      have zy0 : ∀ w', Below Z3.heap.size Z3 w' → w'.cell? ⟨u3.heap.size + 1 + 1, 0, none⟩ = some (.bool ty) := fun w' h => (HG3.out.2.2.on h).c0
      have zy1 : ∀ w', Below Z3.heap.size Z3 w' → w'.cell? ⟨u3.heap.size + 1 + 1, 1, none⟩ = some (.slice qy my dy) := fun w' h => (HG3.out.2.2.on h).c1
      have zr0 : ∀ w', Below Z3.heap.size Z3 w' → w'.cell? ⟨u4.heap.size, 0, none⟩ = some (.bool t0) := fun w' h => by have := cell_of_row _ _ 0 _ _ (0, 0) ((h.block _ (lt_of_block HR3.out.1)).trans HR3.out.1); simpa using this
      have zr1 : ∀ w', Below Z3.heap.size Z3 w' → w'.cell? ⟨u4.heap.size, 1, none⟩ = some (.slice q0 m0 d0) := fun w' h => by have := cell_of_row _ _ 1 _ _ (0, 0) ((h.block _ (lt_of_block HR3.out.1)).trans HR3.out.1); simpa using this
      have zr2 : ∀ w', Below Z3.heap.size Z3 w' → w'.cell? ⟨u4.heap.size, 2, none⟩ = some (.bool t1) := fun w' h => by have := cell_of_row _ _ 2 _ _ (0, 0) ((h.block _ (lt_of_block HR3.out.1)).trans HR3.out.1); simpa using this
      have zr3 : ∀ w', Below Z3.heap.size Z3 w' → w'.cell? ⟨u4.heap.size, 3, none⟩ = some (.slice q1 m1 d1) := fun w' h => by have := cell_of_row _ _ 3 _ _ (0, 0) ((h.block _ (lt_of_block HR3.out.1)).trans HR3.out.1); simpa using this
      have zr4 : ∀ w', Below Z3.heap.size Z3 w' → w'.cell? ⟨u4.heap.size, 4, none⟩ = some (.bool t2) := fun w' h => by have := cell_of_row _ _ 4 _ _ (0, 0) ((h.block _ (lt_of_block HR3.out.1)).trans HR3.out.1); simpa using this
      have zr5 : ∀ w', Below Z3.heap.size Z3 w' → w'.cell? ⟨u4.heap.size, 5, none⟩ = some (.slice q2 m2 d2) := fun w' h => by have := cell_of_row _ _ 5 _ _ (0, 0) ((h.block _ (lt_of_block HR3.out.1)).trans HR3.out.1); simpa using this
      have zr6 : ∀ w', Below Z3.heap.size Z3 w' → w'.cell? ⟨u4.heap.size, 6, none⟩ = some (.int .i64 KK) := fun w' h => by have := cell_of_row _ _ 6 _ _ (0, 0) ((h.block _ (lt_of_block HR3.out.1)).trans HR3.out.1); simpa using this
      have zi0 : ∀ w', Below Z3.heap.size Z3 w' → w'.cell? ⟨u5.heap.size, 0, none⟩ = some (.bool si) := fun w' h => by have := cell_of_row _ _ 0 _ _ (0, 0) ((h.block _ (lt_of_block HV3.out.1)).trans HV3.out.1); simpa using this
      have zi1 : ∀ w', Below Z3.heap.size Z3 w' → w'.cell? ⟨u5.heap.size, 1, none⟩ = some (.slice pi li ci) := fun w' h => by have := cell_of_row _ _ 1 _ _ (0, 0) ((h.block _ (lt_of_block HV3.out.1)).trans HV3.out.1); simpa using this
      have za0 : ∀ w', Below Z3.heap.size Z3 w' → w'.cell? ⟨w.heap.size, 0, none⟩ = some (.bool s0) := fun w' h => HK.out.1 w' (HB5.out.trans (h.mono HB5.out.size))
      have za1 : ∀ w', Below Z3.heap.size Z3 w' → w'.cell? ⟨w.heap.size, 1, none⟩ = some (.slice p0 l0 c0) := fun w' h => HK.out.2.1 w' (HB5.out.trans (h.mono HB5.out.size))
      have zb0 : ∀ w', Below Z3.heap.size Z3 w' → w'.cell? ⟨w.heap.size + 1, 0, none⟩ = some (.bool s1) := fun w' h => HK.out.2.2.1 w' (HB5.out.trans (h.mono HB5.out.size))
      have zb1 : ∀ w', Below Z3.heap.size Z3 w' → w'.cell? ⟨w.heap.size + 1, 1, none⟩ = some (.slice p1 l1 c1) := fun w' h => HK.out.2.2.2 w' (HB5.out.trans (h.mono HB5.out.size))
      have ekk : (KK == KK) = true := by simp
      have hrr : Below Z3.heap.size Z3 Z3 := Below.refl _ _
      have HZ := Lib.hid (HW.out.trans (HB5.out.mono HW.out.size))
      go_region_held3 (fun w' => Below Z3.heap.size Z3 w')
        (first
          | assumption
          | exact below_drew0 _
          | exact below_drew1 (by assumption)
          | ((try (repeat (first | refine of_al ?_ _ | refine of_dr ?_))); (first | assumption | exact Below.refl _ _)))
        (first
          | (go_at_call 11; refine (HA.out _).mono ?_; rintro e wa ⟨rfl, hwa⟩; have sba := of_on (D := Z3) (by ((try (repeat (first | refine of_al ?_ _ | refine of_dr ?_))); (first | assumption | exact Below.refl _ _))) hwa; clear hwa)
          | (go_at_call_of 34 (Value.agg #[.bool tg, .slice qg mg dg]); refine (sameI_yes _ _ GG _ (HG3.out.1.num.below (by ((try (repeat (first | refine of_al ?_ _ | refine of_dr ?_))); (first | assumption | exact Below.refl _ _)))) (HR3.out.2.1.below (by ((try (repeat (first | refine of_al ?_ _ | refine of_dr ?_))); (first | assumption | exact Below.refl _ _))))).mono ?_; rintro e wsg ⟨rfl, hws⟩; have sbg := of_on (D := Z3) (by ((try (repeat (first | refine of_al ?_ _ | refine of_dr ?_))); (first | assumption | exact Below.refl _ _))) hws; clear hws)
          | (go_at_call_of 34 (Value.agg #[.bool tx, .slice qx mx dx]); refine (sameI_yes _ _ XX _ (HG3.out.2.1.num.below (by ((try (repeat (first | refine of_al ?_ _ | refine of_dr ?_))); (first | assumption | exact Below.refl _ _)))) (HR3.out.2.2.1.below (by ((try (repeat (first | refine of_al ?_ _ | refine of_dr ?_))); (first | assumption | exact Below.refl _ _))))).mono ?_; rintro e wsx ⟨rfl, hws⟩; have sbx := of_on (D := Z3) (by ((try (repeat (first | refine of_al ?_ _ | refine of_dr ?_))); (first | assumption | exact Below.refl _ _))) hws; clear hws)
          | (go_at_call_of 34 (Value.agg #[.bool ty, .slice qy my dy]); refine (sameI_yes _ _ YY _ (HG3.out.2.2.num.below (by ((try (repeat (first | refine of_al ?_ _ | refine of_dr ?_))); (first | assumption | exact Below.refl _ _)))) (HR3.out.2.2.2.below (by ((try (repeat (first | refine of_al ?_ _ | refine of_dr ?_))); (first | assumption | exact Below.refl _ _))))).mono ?_; rintro e wsy ⟨rfl, hws⟩; have sby := of_on (D := Z3) (by ((try (repeat (first | refine of_al ?_ _ | refine of_dr ?_))); (first | assumption | exact Below.refl _ _))) hws; clear hws)
          | (go_at_call 35; refine (HRI.out _ (HB5.out.trans (Below.mono (show Below Z3.heap.size Z3 _ from (by ((try (repeat (first | refine of_al ?_ _ | refine of_dr ?_))); (first | assumption | exact Below.refl _ _)))) HB5.out.size))).mono ?_; rintro e wr ⟨hwr, st, pt, lt, ct, rfl, hgt⟩; have sbr := of_on (D := Z3) (by ((try (repeat (first | refine of_al ?_ _ | refine of_dr ?_))); (first | assumption | exact Below.refl _ _))) hwr; clear hwr)
          | (go_at_call 24; refine (got_yes _ _ _ _ _ _ _ _ _ _ _ (HV3.out.2.below (by ((try (repeat (first | refine of_al ?_ _ | refine of_dr ?_))); (first | assumption | exact Below.refl _ _)))) (hgt.below (by (try (repeat (first | refine of_al ?_ _ | refine of_dr ?_))); first | assumption | exact Below.refl _ _))).mono ?_; rintro e wg ⟨rfl, hwg⟩; have sbq := of_on (D := Z3) (by ((try (repeat (first | refine of_al ?_ _ | refine of_dr ?_))); (first | assumption | exact Below.refl _ _))) hwg; clear hwg))
      all_goals (try (go_wp2_with fail))
      all_goals (try go_ret)
      all_goals (exact ⟨rfl, HZ.out.trans (Below.mono (by assumption) HZ.out.size)⟩)
    · have q0 := decide_eq_true hx
      have q1 := decide_eq_false hy
      rw [q0] at HS0
      rw [q1] at HS1
      clear hx hy q0 q1
      go_enter Tryz.func6, Tryz.ntmps6
      go_wp2_with fail
      rw [← hW]
      clear hW
      refine (HS0.out W (Below.refl _ _)).mono ?_
      rintro e w1 ⟨rfl, hbw1⟩
      have HB1 := Lib.hid hbw1
      clear hbw1 b00 b01 b10 b11
      have b00 := HK.out.1 w1 HB1.out
      have b01 := HK.out.2.1 w1 HB1.out
      have b10 := HK.out.2.2.1 w1 HB1.out
      have b11 := HK.out.2.2.2 w1 HB1.out
      go_wp2_with fail
      refine (HS1.out w1 HB1.out).mono ?_
      rintro e w2 ⟨rfl, hbw2⟩
      have HB2 := Lib.hid (HB1.out.trans (hbw2.mono HB1.out.size))
      clear hbw2 b00 b01 b10 b11
      go_wp2_with fail
      refine (HA.out _).mono ?_
      rintro e wa ⟨rfl, hwa⟩
      go_wp2_with fail
      go_ret
      exact ⟨rfl, (HW.out.trans (HB2.out.mono HW.out.size)).trans (hwa.mono (HW.out.trans (HB2.out.mono HW.out.size)).size)⟩
  · have q0 := decide_eq_false hx
    rw [q0] at HS0
    clear hx q0
    go_enter Tryz.func6, Tryz.ntmps6
    go_wp2_with fail
    rw [← hW]
    clear hW
    refine (HS0.out W (Below.refl _ _)).mono ?_
    rintro e w1 ⟨rfl, hbw1⟩
    have HB1 := Lib.hid hbw1
    clear hbw1
    go_wp2_with fail
    refine (HA.out _).mono ?_
    rintro e wa ⟨rfl, hwa⟩
    go_wp2_with fail
    go_ret
    exact ⟨rfl, (HW.out.trans (HB1.out.mono HW.out.size)).trans (hwa.mono (HW.out.trans (HB1.out.mono HW.out.size)).size)⟩
end Go.Proofs.YtkbghamkalidcaaGreat

namespace Go.Proofs.YtkbghamkalidcaaGreat
open Go.ChangeShapes Go.WideShapes Go.ChangeAt Go.RowKit Go.Joins

theorem ownNo : ownKnob Tryz.prog.godebug = none := by kernel_rfl
theorem laidOutYes : laidOutB Tryz.prog = true := by kernel_rfl
theorem cellsWord : Tryz.prog.cellsOf 80 = 1 := by kernel_rfl

set_option maxRecDepth 100000 in
/-- an argument of the type of numbers: a list of words -/
theorem arg_at {H : Type} {enc : TypeId × Value → H} {W : World} {base fuel : Nat} {a0 : Option Addr} {len cap : Nat} {d : DataW H} {p : List MemPlace} (hv : Value.okWide Tryz.prog W .any base 23 (.slice a0 len cap))
    (hf : DataW.trod enc Tryz.prog W 0 (fun _ => true) true fuel 23 (Value.slice a0 len cap).cells.toList = some (d, p)) : ∃ xs, xs.length = len ∧ At W (.slice a0 len cap) xs ∧ Nl.Small xs := by
  rcases open_ints Tryz.underlying23 Tryz.underlying80 cellsWord hf with ⟨hcs, hx⟩ | ⟨a, len', cap', zs, hcs, _, hl, hm, hz, hx, hcell, hwz⟩
  · simp [Value.cells] at hcs
    obtain ⟨rfl, rfl, rfl⟩ := hcs
    exact ⟨[], rfl, .inl ⟨rfl, rfl⟩, Nl.small_nil⟩
  · simp [Value.cells] at hcs
    obtain ⟨rfl, rfl, rfl⟩ := hcs
    simp only [if_true] at hz
    obtain ⟨b, off, spot⟩ := a
    simp only [Value.okWide, Tryz.underlying23, Cell.okWide, Cell.ok, World.has] at hv
    obtain ⟨_, _, _, hsp, rowT, count, hsh, _⟩ := hv
    have hsp' : spot = none := hsp
    subst hsp'
    have hb : b < W.heap.size := by
      unfold World.shape? at hsh
      cases ho : W.heap[b]? with
      | none => simp [ho] at hsh
      | some o => exact (Array.getElem?_eq_some_iff.1 ho).1
    have hlen : ((zs.take len).map Int.toNat).length = len := by simp; omega
    have hpt : ∀ i, i < len → ∃ n : Int, zs.getD i 0 = n ∧ 0 ≤ n ∧ n < 4294967296 := fun i hi => by
      have hmem : zs.getD i 0 ∈ zs := by
        rw [List.getD_eq_getElem?_getD, List.getElem?_eq_getElem (by omega)]
        exact List.getElem_mem _
      have hw := hwz _ hmem
      have hb2 := bounds_u32 hw
      exact ⟨_, rfl, hb2.1, by omega⟩
    have hget : ∀ i, i < len → (((zs.take len).map Int.toNat).getD i 0 : Int) = zs.getD i 0 := fun i hi => by
      obtain ⟨n, hn, h0, h1⟩ := hpt i hi
      rw [List.getD_eq_getElem?_getD, List.getElem?_eq_getElem (by rw [hlen]; exact hi)]
      rw [List.getD_eq_getElem?_getD, List.getElem?_eq_getElem (by omega)] at hn
      simp only [Option.getD_some] at hn
      rw [List.getD_eq_getElem?_getD, List.getElem?_eq_getElem (by omega)]
      simp [hn]
      omega
    refine ⟨(zs.take len).map Int.toNat, hlen, .inr ⟨b, off, cap, by rw [hlen], trivial, by rw [hlen]; exact hl, by simp only [maxLen] at hm; omega, hb, fun i hi => ?_⟩, fun x hx => ?_⟩
    · rw [hlen] at hi
      have := hcell i (by omega)
      rw [Go.WideShapes.add_plain] at this
      rw [this, hget i hi]
    · obtain ⟨n, hn, rfl⟩ := List.mem_map.1 hx
      obtain ⟨i, hi, rfl⟩ := List.getElem_of_mem hn
      have hi' : i < len := by simp at hi; omega
      obtain ⟨n, hn2, h0, h1⟩ := hpt i hi'
      rw [List.getD_eq_getElem?_getD, List.getElem?_eq_getElem (by omega)] at hn2
      simp only [Option.getD_some] at hn2
      rw [List.getElem_take, hn2]
      omega

theorem cellsInt : Tryz.prog.cellTypes Tryz.prog.depth 25 = some [4, 23 ] := by kernel_rfl

set_option maxRecDepth 100000 in
/-- an argument of the type of integers: a sign and a list of words -/
theorem argI_at {H : Type} {enc : TypeId × Value → H} {W : World} {base : Nat} {v : Value} {d : DataW H} {p : List MemPlace} (hv : Value.okWide Tryz.prog W .any base 25 v)
    (h : DataW.Trod enc Tryz.prog W 0 (fun _ => true) true 25 v d p) : ∃ s xs, AtI W v s xs ∧ Nl.Small xs := by
  obtain ⟨v0, v1, y0, y1, n, rfl, rfl, rfl, h0, h1⟩ := open_agg2 Tryz.underlying25 (by kernel_rfl) (by kernel_rfl) hv h
  simp only [Value.okWide, Tryz.underlying25 ] at hv
  obtain ⟨cs, he, -, ts, hts, -, hcells⟩ := hv
  rw [cellsInt] at hts
  cases hts
  cases he
  obtain ⟨u0, hu0, k0⟩ := hcells 0 v0 rfl
  obtain ⟨u1, hu1, k1⟩ := hcells 1 v1 rfl
  cases hu0
  cases hu1
  have w0 : Value.okWide Tryz.prog W .any base 4 v0 := by simp only [Value.okWide, Tryz.underlying4 ]; exact k0
  have w1 : Value.okWide Tryz.prog W .any base 23 v1 := by simp only [Value.okWide, Tryz.underlying23 ]; exact k1
  obtain ⟨s, rfl⟩ := okWide_bool Tryz.underlying4 w0
  obtain ⟨a, l, c, rfl⟩ := okWide_slice Tryz.underlying23 w1
  obtain ⟨xs, hl, hat, hs⟩ := arg_at (d := y1.1) (p := y1.2) w1 (by simpa [Value.cells] using h1)
  exact ⟨s, xs, AtI.mk hat, hs⟩
end Go.Proofs.YtkbghamkalidcaaGreat

namespace Go.Proofs.YtkbghamkalidcaaGreat
open Go.ChangeShapes Go.WideShapes Go.ChangeAt Go.RowKit

set_option maxRecDepth 100000 in
set_option maxHeartbeats 0 in
theorem closed_wholeDivisors : joinedFacts Tryz.checked.prog 6 Tryz.f6 Rows.wholeDivisorsSpec Rows.wholeDivisorsRow = true := by
  unfold joinedFacts
  simp only [Bool.and_eq_true]
  repeat' (apply And.intro)
  all_goals (as_aux_lemma => kernel_rfl)
end Go.Proofs.YtkbghamkalidcaaGreat
