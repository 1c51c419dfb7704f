/-
  What Gcd of package whole does of small numbers: the steps of Euclid's algorithm. Conditions: those that each theorem names.
  What the reference's limited, Neg, Add, Sub, Mul, Sign and Cmp of integers do, and the law's got. Conditions: those that each theorem names.
  What the reference's Neg, Add, Sub, Mul, Sign and Cmp of integers do. Written by wip/tool/genref2e.py. Conditions: those that each theorem names.
  WholeSums returns true for any two integers, if its self-test does. Written by wip/tool/genlaw2.py. Conditions: those that each theorem names.
-/
import Derived.Test.YtkbghamkalidcaaGreatDivI
import Derived.Test.YtkbghamkalidcaaGreatHalfIAll
namespace Go.Proofs.YtkbghamkalidcaaGreat
open Go.RowKit

/-- a division by a number of one word -/
theorem div_small (va vb : Value) (m n : Nat) (w : World) (ha : At w va (Nl.limbs m)) (hb : At w vb (Nl.limbs n)) (hm : (Nl.limbs m).length ≤ 1024) (hn0 : n ≠ 0) (hn : n < 4294967296) :
    Calls Tryz.prog 140 #[va, vb] w fun e w' => DivN w w' e (m / n) (m % n) := by
  have ln : (Nl.limbs n).length ≤ 1 := Nl.limbs_lt (by omega)
  refine (div_any va vb _ _ w ha hb (Nl.limbs_small m) (Nl.limbs_small n) (fun v1 v2 h0 w' hw' => ?_)).mono ?_
  · rw [Nl.val_limbs, Nl.val_limbs]
    exact over_one _ _ _ _ _ (show IsN w' va m from ha.below hw') (show IsN w' vb n from hb.below hw') (Nat.le_trans hm (by decide)) (Nat.pos_of_ne_zero hn0) hn
  · rintro e w2 ⟨c, hc, ⟨u, v, rfl, h2, h3⟩, hb⟩
    rw [Nl.val_limbs, Nl.val_limbs] at h2
    have hc0 : c = 0 := by
      rcases hc with ⟨_, _, h⟩ | ⟨h, _⟩
      · rw [h, Nl.val_limbs, divK, if_neg (fun h => absurd h.2 (by decide)), if_neg hn0]
      · rw [validB_limbs hm, validB_limbs (by omega)] at h
        rcases h with h | h <;> cases h
    subst hc0
    obtain ⟨o1, o2⟩ := h2 rfl
    obtain ⟨a1, c1, rfl, -⟩ := o1.at.form
    obtain ⟨a2, c2, rfl, -⟩ := o2.at.form
    exact ⟨⟨_, _, _, _, _, _, rfl, o1.at.at, o2.at.at⟩, hb⟩

set_option maxHeartbeats 1000000 in
theorem sumTimes_any (va vb vq : Value) (a b q : Nat) (w : World) (ha : At w va (Nl.limbs a)) (hb : At w vb (Nl.limbs b)) (hq : At w vq (Nl.limbs q)) (la : (Nl.limbs a).length ≤ 500) (lb : (Nl.limbs b).length ≤ 200) (lq : (Nl.limbs q).length ≤ 200) :
    Calls Tryz.prog 215 #[va, vb, vq] w fun e w' => (∃ p n c, e = .returned (.slice p n c) ∧ At w' (.slice p n c) (Nl.limbs (a + b * q))) ∧ Below w.heap.size w w' := by
  have l1 := Nl.len_mul b q
  have l2 := Nl.len_add a (b * q)
  have HM := Lib.hid (mul_yes vb vq b q w hb hq (by omega) (by omega) (by omega))
  have HA := Lib.hid (fun (w2 : World) (h : Below w.heap.size w w2) (v : Value) (hv : At w2 v (Nl.limbs (b * q))) => add_yes va v a (b * q) w2 (ha.below h) hv (by omega) (by omega) (by omega))
  obtain ⟨p0, c0, rfl, -⟩ := ha.form
  obtain ⟨p1, c1, rfl, -⟩ := hb.form
  obtain ⟨p2, c2, rfl, -⟩ := hq.form
  clear ha hb hq la lb lq l1 l2
  go_enter Tryz.func215, Tryz.ntmps215
  go_wp2_with fail
  refine HM.out.mono ?_
  rintro e w1 ⟨⟨p3, n3, c3, rfl, h3⟩, hb1⟩
  have H3 := Lib.hid (And.intro h3 hb1)
  clear h3 hb1
  go_wp2_with (go_at_call 125; refine (found_yes _ _ _ _).mono ?_; rintro e w' ⟨rfl, rfl⟩)
  refine (HA.out w1 H3.out.2 _ H3.out.1).mono ?_
  rintro e w2 ⟨⟨p4, n4, c4, rfl, h4⟩, hb2⟩
  have H4 := Lib.hid (And.intro h4 (H3.out.2.trans (hb2.mono H3.out.2.size)))
  clear h4 hb2
  go_wp2_with (go_at_call 125; refine (found_yes _ _ _ _).mono ?_; rintro e w' ⟨rfl, rfl⟩)
  go_ret
  exact ⟨⟨_, _, _, rfl, H4.out.1⟩, H4.out.2⟩

/-- what is read stays where a block without numbers is written -/
theorem at_set {q : Nat → Prop} {w : World} {g j : Nat} {T : TypeId} {cs : Array Value} {v : Value} {xs : List Nat} (u : Value) (h : AtP q w v xs) (hbx : w.heap[g]? = some (.cells cs T (0, 0))) (hcs : ∀ (i : Nat) (k : IntKind) (x : Int), cs[i]? ≠ some (.int k x)) : AtP q (w.setCell ⟨g, j, none⟩ u) v xs := by
  rcases h with h | ⟨b, off, cap, h1, h2, h3, h4, h5, h6⟩
  · exact .inl h
  · refine .inr ⟨b, off, cap, h1, h2, h3, h4, by simpa [World.setCell] using h5, fun i hi => ?_⟩
    have hc := h6 i hi
    by_cases hb : b = g
    · subst hb
      rw [cell_of_row w b (off + i) _ _ _ hbx] at hc
      exact absurd hc (hcs _ _ _)
    · exact (Only.setCell g j u w).cell hc (by simpa using hb)

theorem row_set {w : World} {g : Nat} {T : TypeId} {a b c : Value} (a' b' c' : Value) (h : w.heap[g]? = some (.cells #[a, b, c] T (0, 0))) : (((w.setCell ⟨g, 0, none⟩ a').setCell ⟨g, 1, none⟩ b').setCell ⟨g, 2, none⟩ c').heap[g]? = some (.cells #[a', b', c'] T (0, 0)) :=
  heap_setCell_same _ g 2 _ _ c' (heap_setCell_same _ g 1 _ _ b' (heap_setCell_same w g 0 _ _ a' h))
theorem no_int3 {p q r : Option Addr} {a b c d e f : Nat} (i : Nat) (k : IntKind) (x : Int) : (#[Value.slice p a b, Value.slice q c d, Value.slice r e f] : Array Value)[i]? ≠ some (.int k x) := by
  match i with
  | 0 => simp
  | 1 => simp
  | 2 => simp
  | j + 3 => simp
theorem at_row {q : Nat → Prop} {w : World} {g : Nat} {T : TypeId} {p1 p2 p3 r1 r2 r3 : Option Addr} {l1 c1 l2 c2 l3 c3 m1 d1 m2 d2 m3 d3 : Nat} {v : Value} {xs : List Nat} (h : AtP q w v xs) (hbx : w.heap[g]? = some (.cells #[.slice p1 l1 c1, .slice p2 l2 c2, .slice p3 l3 c3] T (0, 0))) :
    AtP q (((w.setCell ⟨g, 0, none⟩ (.slice r1 m1 d1)).setCell ⟨g, 1, none⟩ (.slice r2 m2 d2)).setCell ⟨g, 2, none⟩ (.slice r3 m3 d3)) v xs := by
  have h1 := heap_setCell_same w g 0 _ _ (.slice r1 m1 d1) hbx
  have h2 := heap_setCell_same _ g 1 _ _ (.slice r2 m2 d2) h1
  exact at_set _ (at_set _ (at_set _ h hbx no_int3) h1 no_int3) h2 no_int3
theorem below_row {B : Nat} {w w' : World} (h : Below B w w') {g : Nat} (hg : B ≤ g) (a b c : Value) : Below B w (((w'.setCell ⟨g, 0, none⟩ a).setCell ⟨g, 1, none⟩ b).setCell ⟨g, 2, none⟩ c) :=
  (below_ibox h hg a b).setCell (p := ⟨g, 2, none⟩) hg _

/-- a row of Euclid's algorithm -/
abbrev ERow : Type := Nat × Nat × Nat
structure RowAt (w : World) (g : Nat) (R : ERow) (p0 p1 p2 : Option Addr) (l0 c0 l1 c1 l2 c2 : Nat) : Prop where
  blk : w.heap[g]? = some (.cells #[.slice p0 l0 c0, .slice p1 l1 c1, .slice p2 l2 c2] 143 (0, 0))
  rest : At w (.slice p0 l0 c0) (Nl.limbs R.1)
  x : At w (.slice p1 l1 c1) (Nl.limbs R.2.1)
  y : At w (.slice p2 l2 c2) (Nl.limbs R.2.2)
def tiny (R : ERow) : Prop := R.1 < 4294967296 ∧ R.2.1 < 4294967296 ∧ R.2.2 < 4294967296
def nextRow (R S : ERow) : ERow := (R.1 % S.1, R.2.1 + S.2.1 * (R.1 / S.1), R.2.2 + S.2.2 * (R.1 / S.1))

set_option maxHeartbeats 4000000 in
theorem next_any (p0 p1 p2 q0 q1 q2 : Option Addr) (l0 c0 l1 c1 l2 c2 m0 d0 m1 d1 m2 d2 : Nat) (R S : ERow) (w : World) (hR : tiny R) (hS : tiny S) (h0 : S.1 ≠ 0)
    (a0 : At w (.slice p0 l0 c0) (Nl.limbs R.1)) (a1 : At w (.slice p1 l1 c1) (Nl.limbs R.2.1)) (a2 : At w (.slice p2 l2 c2) (Nl.limbs R.2.2))
    (b0 : At w (.slice q0 m0 d0) (Nl.limbs S.1)) (b1 : At w (.slice q1 m1 d1) (Nl.limbs S.2.1)) (b2 : At w (.slice q2 m2 d2) (Nl.limbs S.2.2)) :
    Calls Tryz.prog 182 #[.agg #[.slice p0 l0 c0, .slice p1 l1 c1, .slice p2 l2 c2], .agg #[.slice q0 m0 d0, .slice q1 m1 d1, .slice q2 m2 d2]] w fun e w' =>
      (∃ r0 n0 e0 r1 n1 e1 r2 n2 e2, e = .returned (.agg #[.slice r0 n0 e0, .slice r1 n1 e1, .slice r2 n2 e2]) ∧ At w' (.slice r0 n0 e0) (Nl.limbs (nextRow R S).1) ∧ At w' (.slice r1 n1 e1) (Nl.limbs (nextRow R S).2.1) ∧ At w' (.slice r2 n2 e2) (Nl.limbs (nextRow R S).2.2)) ∧ Below w.heap.size w w' := by
  obtain ⟨W, hW⟩ : ∃ W, W = ((w.alloc (.cells #[.slice p0 l0 c0, .slice p1 l1 c1, .slice p2 l2 c2] 143)).alloc (.cells #[.slice q0 m0 d0, .slice q1 m1 d1, .slice q2 m2 d2] 143)).alloc (.cells #[.slice none 0 0, .slice none 0 0, .slice none 0 0] 143) := ⟨_, rfl⟩
  have hb : Below w.heap.size w W := by rw [hW]; exact three_new w _ _ _
  have B0 : W.heap[w.heap.size]? = some (.cells #[.slice p0 l0 c0, .slice p1 l1 c1, .slice p2 l2 c2] 143 (0, 0)) := by rw [hW]; exact al_keep _ _ (by simp <;> omega) (al_keep _ _ (by simp <;> omega) (al_at _ _ (by simp)))
  have B1 : W.heap[w.heap.size + 1]? = some (.cells #[.slice q0 m0 d0, .slice q1 m1 d1, .slice q2 m2 d2] 143 (0, 0)) := by rw [hW]; exact al_keep _ _ (by simp <;> omega) (al_at _ _ (by simp))
  have B2 : W.heap[w.heap.size + 2]? = some (.cells #[.slice none 0 0, .slice none 0 0, .slice none 0 0] 143 (0, 0)) := by rw [hW]; exact al_at _ _ (by simp)
  have one : ∀ {m : Nat}, m < 4294967296 → (Nl.limbs m).length ≤ 1 := fun h => Nl.limbs_lt (by omega)
  have lq : (Nl.limbs (R.1 / S.1)).length ≤ 1 := one (Nat.lt_of_le_of_lt (Nat.div_le_self _ _) hR.1)
  have HD := Lib.hid (div_small _ _ R.1 S.1 W (a0.below hb) (b0.below hb) (Nat.le_trans (one hR.1) (by decide)) h0 hS.1)
  have HX := Lib.hid (fun (w2 : World) (h : Below W.heap.size W w2) (v : Value) (hv : At w2 v (Nl.limbs (R.1 / S.1))) => sumTimes_any _ _ v R.2.1 S.2.1 (R.1 / S.1) w2 ((a1.below hb).below h) ((b1.below hb).below h) hv (Nat.le_trans (one hR.2.1) (by decide)) (Nat.le_trans (one hS.2.1) (by decide)) (Nat.le_trans lq (by decide)))
  have HY := Lib.hid (fun (w2 : World) (h : Below W.heap.size W w2) (v : Value) (hv : At w2 v (Nl.limbs (R.1 / S.1))) => sumTimes_any _ _ v R.2.2 S.2.2 (R.1 / S.1) w2 ((a2.below hb).below h) ((b2.below hb).below h) hv (Nat.le_trans (one hR.2.2) (by decide)) (Nat.le_trans (one hS.2.2) (by decide)) (Nat.le_trans lq (by decide)))
  have k0 := cell_of_row _ _ 0 _ _ (0, 0) B0
  have k1 := cell_of_row _ _ 1 _ _ (0, 0) B0
  have k2 := cell_of_row _ _ 2 _ _ (0, 0) B0
  have j0 := cell_of_row _ _ 0 _ _ (0, 0) B1
  have j1 := cell_of_row _ _ 1 _ _ (0, 0) B1
  have j2 := cell_of_row _ _ 2 _ _ (0, 0) B1
  simp only [List.getElem?_toArray, List.getElem?_cons_zero, List.getElem?_cons_succ] at k0 k1 k2 j0 j1 j2
  have HB := Lib.hid (And.intro hb (And.intro B0 (And.intro B1 B2)))
  clear a0 a1 a2 b0 b1 b2 hR hS h0 hb B0 B1 B2 lq one
  go_enter Tryz.func182, Tryz.ntmps182
  go_upto_region 1 with fail
  rw [← hW]
  clear hW
  go_wp2_with fail
  refine HD.out.mono ?_
  rintro e w1 ⟨⟨pq, lq, cq, pr, lr, cr, rfl, hq, hr⟩, hb1⟩
  have H1 := Lib.hid (And.intro hq (And.intro hr hb1))
  have E0 := (hb1.block _ (lt_of_block HB.out.2.1)).trans HB.out.2.1
  have E1 := (hb1.block _ (lt_of_block HB.out.2.2.1)).trans HB.out.2.2.1
  have E2 := (hb1.block _ (lt_of_block HB.out.2.2.2)).trans HB.out.2.2.2
  have i1 := cell_of_row _ _ 1 _ _ (0, 0) E0
  have i2 := cell_of_row _ _ 2 _ _ (0, 0) E0
  have o1 := cell_of_row _ _ 1 _ _ (0, 0) E1
  have o2 := cell_of_row _ _ 2 _ _ (0, 0) E1
  simp only [List.getElem?_toArray, List.getElem?_cons_zero, List.getElem?_cons_succ] at i1 i2 o1 o2
  have hK0 : w.heap.size < w1.heap.size := lt_of_block E0
  have hK1 : w.heap.size + 1 < w1.heap.size := lt_of_block E1
  have hK2 : w.heap.size + 2 < w1.heap.size := lt_of_block E2
  have HE2 := Lib.hid E2
  clear hq hr hb1 HD k0 k1 k2 j0 j1 j2 E0 E1 E2
  go_wp2_with (go_at_call 139; refine (foundTwo_yes _ _ _ _ _ _ _).mono ?_; rintro e w' ⟨rfl, rfl⟩)
  have ne1 : ¬ w.heap.size = w.heap.size + 1 + 1 := by omega
  have ne2 : ¬ w.heap.size + 1 + 1 = w.heap.size := by omega
  have bd := below_drewN w1 1 w1.heap.size
  have HX1 := Lib.hid (HX.out w1.drew (H1.out.2.2.trans (bd.mono H1.out.2.2.size)) _ (H1.out.1.below bd))
  have HY1 := Lib.hid (fun (w2 : World) (h : Below w1.drew.heap.size w1.drew w2) => HY.out w2 ((H1.out.2.2.trans (bd.mono H1.out.2.2.size)).trans (h.mono (show W.heap.size ≤ w1.drew.heap.size from H1.out.2.2.size))) _ ((H1.out.1.below bd).below h))
  clear bd HX HY
  go_region_held3 (fun w' => w'.cell? ⟨w.heap.size, 1, none⟩ = some (.slice p1 l1 c1) ∧ w'.cell? ⟨w.heap.size, 2, none⟩ = some (.slice p2 l2 c2) ∧ w'.cell? ⟨w.heap.size + 1, 1, none⟩ = some (.slice q1 m1 d1) ∧ w'.cell? ⟨w.heap.size + 1, 2, none⟩ = some (.slice q2 m2 d2))
    (first
      | go_keep
      | assumption)
    (first
      | (go_at_call_of 215 (Value.slice p1 l1 c1); refine HX1.out.mono ?_; rintro e w2 ⟨⟨px, nx, cx, rfl, hx⟩, hb2⟩; have u1 := (hb2.cell (p := ⟨w.heap.size, 1, none⟩) hK0).trans i1; have u2 := (hb2.cell (p := ⟨w.heap.size, 2, none⟩) hK0).trans i2; have v1 := (hb2.cell (p := ⟨w.heap.size + 1, 1, none⟩) hK1).trans o1; have v2 := (hb2.cell (p := ⟨w.heap.size + 1, 2, none⟩) hK1).trans o2)
      | (go_at_call_of 215 (Value.slice p2 l2 c2); refine (HY1.out w2 hb2).mono ?_; rintro e w3 ⟨⟨py, ny, cy, rfl, hy⟩, hb3⟩; have hb23 := hb2.trans (hb3.mono hb2.size); have x1 := (hb23.cell (p := ⟨w.heap.size, 1, none⟩) hK0).trans i1; have x2 := (hb23.cell (p := ⟨w.heap.size, 2, none⟩) hK0).trans i2; have y1 := (hb23.cell (p := ⟨w.heap.size + 1, 1, none⟩) hK1).trans o1; have y2 := (hb23.cell (p := ⟨w.heap.size + 1, 2, none⟩) hK1).trans o2; have BQ := (hb23.block (w.heap.size + 2) hK2).trans HE2.out; have f0 := frozen_of_row _ _ 0 _ _ BQ; have f1 := frozen_of_row _ _ 1 _ _ BQ; have f2 := frozen_of_row _ _ 2 _ _ BQ; have g0 := cell_of_row _ _ 0 _ _ (0, 0) BQ; have g1 := cell_of_row _ _ 1 _ _ (0, 0) BQ; have g2 := cell_of_row _ _ 2 _ _ (0, 0) BQ; have HZ := Lib.hid (And.intro BQ (And.intro hx (And.intro hy (And.intro hb3 hb23)))); clear BQ))
  clear hb2 hb3 hb23 hx hy u1 u2 v1 v2 x1 x2 y1 y2 i1 i2 o1 o2 HX1 HY1 ne1 ne2 hK0 hK1 hK2
  go_wp2_with fail
  refine bodyPost_ret (v := .agg #[.slice pr lr cr, .slice px nx cx, .slice py ny cy]) (results_cell_row Tryz.results182 _ _ (w.heap.size + 2) 143 _ (0, 0) _ rfl (row_set (g := w.heap.size + 2) _ _ _ HZ.out.1) Tryz.underlying143 rfl (by kernel_rfl)) rfl ?_
  have hb13 : Below w1.heap.size w1 w3 := (below_drewN w1 1 _).trans (HZ.out.2.2.2.2.mono (Nat.le_refl _))
  have hbw3 : Below w.heap.size w w3 := HB.out.1.trans ((H1.out.2.2.trans (hb13.mono H1.out.2.2.size)).mono HB.out.1.size)
  exact ⟨⟨_, _, _, _, _, _, _, _, _, rfl, at_row (g := w.heap.size + 2) (H1.out.2.1.below hb13) HZ.out.1, at_row (g := w.heap.size + 2) (HZ.out.2.1.below HZ.out.2.2.2.1) HZ.out.1, at_row (g := w.heap.size + 2) HZ.out.2.2.1 HZ.out.1⟩, below_row hbw3 (g := w.heap.size + 2) (by omega) _ _ _⟩
end Go.Proofs.YtkbghamkalidcaaGreat

namespace Go.Proofs.YtkbghamkalidcaaGreat
open Go.RowKit

theorem sameB_refl (xs : List Nat) : sameB xs xs = true := decide_eq_true rfl
/-- what the reference gives: an integer, or an error -/
instance (n : Int) : Decidable (fitI n) := inferInstanceAs (Decidable (_ ≤ _))
def GotV (w : World) (k : Int) (n : Int) (s : Bool) (p : Option Addr) (l c : Nat) : Prop := (k = 0 → IsI w (.agg #[.bool s, .slice p l c]) n) ∧ (k ≠ 0 → s = false ∧ p = none ∧ l = 0 ∧ c = 0)
end Go.Proofs.YtkbghamkalidcaaGreat

namespace Go.Proofs.YtkbghamkalidcaaGreat
open Go.RowKit

theorem at_of {w : World} {s : Bool} {p : Option Addr} {l c : Nat} {xs : List Nat} (h : AtI w (.agg #[.bool s, .slice p l c]) s xs) : At w (.slice p l c) xs := by
  obtain ⟨u, hu1, hu2⟩ := h
  simp only [Value.agg.injEq, Array.mk.injEq, List.cons.injEq, and_true, true_and] at hu1
  rw [hu1]; exact hu2
end Go.Proofs.YtkbghamkalidcaaGreat

namespace Go.Proofs.YtkbghamkalidcaaGreat
open Go.RowKit

/-- the error of a call -/
def kOf (ok : Bool) (n : Int) : Int := if ok = true then codeI 0 n else 1
theorem GotV.below {w w' : World} {k n : Int} {s : Bool} {p : Option Addr} {l c : Nat} (h : GotV w k n s p l c) (hb : Below w.heap.size w w') : GotV w' k n s p l c := ⟨fun h0 => (h.1 h0).below hb, h.2⟩
theorem res_got {w w' : World} {e : Ending} {ok : Bool} {n : Int} (h : ResI w w' e ok n) : (∃ s p l c, e = .returned (.tuple #[.agg #[.bool s, .slice p l c], .int .i64 (kOf ok n)]) ∧ GotV w' (kOf ok n) n s p l c) ∧ Below w.heap.size w w' := by
  obtain ⟨k, hk, ⟨v, rfl, h1, h2⟩, hb⟩ := h
  have hk' : k = kOf ok n := hk
  subst hk'
  refine ⟨?_, hb⟩
  by_cases h0 : kOf ok n = 0
  · obtain ⟨a, c, rfl, -⟩ := AtI.form (h1 h0)
    exact ⟨_, _, _, _, rfl, fun _ => h1 h0, fun h => absurd h0 h⟩
  · rw [h2 h0]
    exact ⟨_, _, _, _, rfl, fun h => absurd h h0, fun _ => ⟨rfl, rfl, rfl, rfl⟩⟩
theorem below_drew0 (D : World) : Below D.heap.size D D.drew := below_drewN D 1 _
theorem below_drew1 {D w : World} (h : Below D.heap.size D w) : Below D.heap.size D w.drew := h.trans (below_drewN w 1 _)
theorem below_on {D w w' : World} (h : Below D.heap.size D w) (h' : Below w.heap.size w w') : Below D.heap.size D w' := h.trans (h'.mono h.size)
/-- what the self-test does -/
def Awake : Prop := ∀ w : World, Calls Tryz.prog 11 #[] w fun e w' => e = .returned (.bool true) ∧ Below w.heap.size w w'

end Go.Proofs.YtkbghamkalidcaaGreat
