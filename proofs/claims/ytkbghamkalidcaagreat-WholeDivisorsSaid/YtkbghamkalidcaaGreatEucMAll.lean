/-
  What Gcd of package whole does of small numbers: the steps of Euclid's algorithm. Conditions: those that each theorem names.
  Rows of Euclid's algorithm, and which of them the first bits of two numbers tell (Collins). Conditions: those that each theorem names.
-/
import Derived.Test.YtkbghamkalidcaaGreatDivI
namespace Go.Proofs.YtkbghamkalidcaaGreat
open Go.RowKit

/-- a division by a number of one word -/
theorem div_small (va vb : Value) (m n : Nat) (w : World) (ha : At w va (Nl.limbs m)) (hb : At w vb (Nl.limbs n)) (hm : (Nl.limbs m).length ≤ 1024) (hn0 : n ≠ 0) (hn : n < 4294967296) :
    Calls Tryz.prog 140 #[va, vb] w fun e w' => DivN w w' e (m / n) (m % n) := by
  have ln : (Nl.limbs n).length ≤ 1 := Nl.limbs_lt (by omega)
  refine (div_any va vb _ _ w ha hb (Nl.limbs_small m) (Nl.limbs_small n) (fun v1 v2 h0 w' hw' => ?_)).mono ?_
  · rw [Nl.val_limbs, Nl.val_limbs]
    exact over_one _ _ _ _ _ (show IsN w' va m from ha.below hw') (show IsN w' vb n from hb.below hw') (Nat.le_trans hm (by decide)) (Nat.pos_of_ne_zero hn0) hn
  · rintro e w2 ⟨c, hc, ⟨u, v, rfl, h2, h3⟩, hb⟩
    rw [Nl.val_limbs, Nl.val_limbs] at h2
    have hc0 : c = 0 := by
      rcases hc with ⟨_, _, h⟩ | ⟨h, _⟩
      · rw [h, Nl.val_limbs, divK, if_neg (fun h => absurd h.2 (by decide)), if_neg hn0]
      · rw [validB_limbs hm, validB_limbs (by omega)] at h
        rcases h with h | h <;> cases h
    subst hc0
    obtain ⟨o1, o2⟩ := h2 rfl
    obtain ⟨a1, c1, rfl, -⟩ := o1.at.form
    obtain ⟨a2, c2, rfl, -⟩ := o2.at.form
    exact ⟨⟨_, _, _, _, _, _, rfl, o1.at.at, o2.at.at⟩, hb⟩

set_option maxHeartbeats 1000000 in
theorem sumTimes_any (va vb vq : Value) (a b q : Nat) (w : World) (ha : At w va (Nl.limbs a)) (hb : At w vb (Nl.limbs b)) (hq : At w vq (Nl.limbs q)) (la : (Nl.limbs a).length ≤ 500) (lb : (Nl.limbs b).length ≤ 200) (lq : (Nl.limbs q).length ≤ 200) :
    Calls Tryz.prog 215 #[va, vb, vq] w fun e w' => (∃ p n c, e = .returned (.slice p n c) ∧ At w' (.slice p n c) (Nl.limbs (a + b * q))) ∧ Below w.heap.size w w' := by
  have l1 := Nl.len_mul b q
  have l2 := Nl.len_add a (b * q)
  have HM := Lib.hid (mul_yes vb vq b q w hb hq (by omega) (by omega) (by omega))
  have HA := Lib.hid (fun (w2 : World) (h : Below w.heap.size w w2) (v : Value) (hv : At w2 v (Nl.limbs (b * q))) => add_yes va v a (b * q) w2 (ha.below h) hv (by omega) (by omega) (by omega))
  obtain ⟨p0, c0, rfl, -⟩ := ha.form
  obtain ⟨p1, c1, rfl, -⟩ := hb.form
  obtain ⟨p2, c2, rfl, -⟩ := hq.form
  clear ha hb hq la lb lq l1 l2
  go_enter Tryz.func215, Tryz.ntmps215
  go_wp2_with fail
  refine HM.out.mono ?_
  rintro e w1 ⟨⟨p3, n3, c3, rfl, h3⟩, hb1⟩
  have H3 := Lib.hid (And.intro h3 hb1)
  clear h3 hb1
  go_wp2_with (go_at_call 125; refine (found_yes _ _ _ _).mono ?_; rintro e w' ⟨rfl, rfl⟩)
  refine (HA.out w1 H3.out.2 _ H3.out.1).mono ?_
  rintro e w2 ⟨⟨p4, n4, c4, rfl, h4⟩, hb2⟩
  have H4 := Lib.hid (And.intro h4 (H3.out.2.trans (hb2.mono H3.out.2.size)))
  clear h4 hb2
  go_wp2_with (go_at_call 125; refine (found_yes _ _ _ _).mono ?_; rintro e w' ⟨rfl, rfl⟩)
  go_ret
  exact ⟨⟨_, _, _, rfl, H4.out.1⟩, H4.out.2⟩

/-- what is read stays where a block without numbers is written -/
theorem at_set {q : Nat → Prop} {w : World} {g j : Nat} {T : TypeId} {cs : Array Value} {v : Value} {xs : List Nat} (u : Value) (h : AtP q w v xs) (hbx : w.heap[g]? = some (.cells cs T (0, 0))) (hcs : ∀ (i : Nat) (k : IntKind) (x : Int), cs[i]? ≠ some (.int k x)) : AtP q (w.setCell ⟨g, j, none⟩ u) v xs := by
  rcases h with h | ⟨b, off, cap, h1, h2, h3, h4, h5, h6⟩
  · exact .inl h
  · refine .inr ⟨b, off, cap, h1, h2, h3, h4, by simpa [World.setCell] using h5, fun i hi => ?_⟩
    have hc := h6 i hi
    by_cases hb : b = g
    · subst hb
      rw [cell_of_row w b (off + i) _ _ _ hbx] at hc
      exact absurd hc (hcs _ _ _)
    · exact (Only.setCell g j u w).cell hc (by simpa using hb)

theorem row_set {w : World} {g : Nat} {T : TypeId} {a b c : Value} (a' b' c' : Value) (h : w.heap[g]? = some (.cells #[a, b, c] T (0, 0))) : (((w.setCell ⟨g, 0, none⟩ a').setCell ⟨g, 1, none⟩ b').setCell ⟨g, 2, none⟩ c').heap[g]? = some (.cells #[a', b', c'] T (0, 0)) :=
  heap_setCell_same _ g 2 _ _ c' (heap_setCell_same _ g 1 _ _ b' (heap_setCell_same w g 0 _ _ a' h))
theorem no_int3 {p q r : Option Addr} {a b c d e f : Nat} (i : Nat) (k : IntKind) (x : Int) : (#[Value.slice p a b, Value.slice q c d, Value.slice r e f] : Array Value)[i]? ≠ some (.int k x) := by
  match i with
  | 0 => simp
  | 1 => simp
  | 2 => simp
  | j + 3 => simp
theorem at_row {q : Nat → Prop} {w : World} {g : Nat} {T : TypeId} {p1 p2 p3 r1 r2 r3 : Option Addr} {l1 c1 l2 c2 l3 c3 m1 d1 m2 d2 m3 d3 : Nat} {v : Value} {xs : List Nat} (h : AtP q w v xs) (hbx : w.heap[g]? = some (.cells #[.slice p1 l1 c1, .slice p2 l2 c2, .slice p3 l3 c3] T (0, 0))) :
    AtP q (((w.setCell ⟨g, 0, none⟩ (.slice r1 m1 d1)).setCell ⟨g, 1, none⟩ (.slice r2 m2 d2)).setCell ⟨g, 2, none⟩ (.slice r3 m3 d3)) v xs := by
  have h1 := heap_setCell_same w g 0 _ _ (.slice r1 m1 d1) hbx
  have h2 := heap_setCell_same _ g 1 _ _ (.slice r2 m2 d2) h1
  exact at_set _ (at_set _ (at_set _ h hbx no_int3) h1 no_int3) h2 no_int3
theorem below_row {B : Nat} {w w' : World} (h : Below B w w') {g : Nat} (hg : B ≤ g) (a b c : Value) : Below B w (((w'.setCell ⟨g, 0, none⟩ a).setCell ⟨g, 1, none⟩ b).setCell ⟨g, 2, none⟩ c) :=
  (below_ibox h hg a b).setCell (p := ⟨g, 2, none⟩) hg _

/-- a row of Euclid's algorithm -/
abbrev ERow : Type := Nat × Nat × Nat
structure RowAt (w : World) (g : Nat) (R : ERow) (p0 p1 p2 : Option Addr) (l0 c0 l1 c1 l2 c2 : Nat) : Prop where
  blk : w.heap[g]? = some (.cells #[.slice p0 l0 c0, .slice p1 l1 c1, .slice p2 l2 c2] 143 (0, 0))
  rest : At w (.slice p0 l0 c0) (Nl.limbs R.1)
  x : At w (.slice p1 l1 c1) (Nl.limbs R.2.1)
  y : At w (.slice p2 l2 c2) (Nl.limbs R.2.2)
def tiny (R : ERow) : Prop := R.1 < 4294967296 ∧ R.2.1 < 4294967296 ∧ R.2.2 < 4294967296
def nextRow (R S : ERow) : ERow := (R.1 % S.1, R.2.1 + S.2.1 * (R.1 / S.1), R.2.2 + S.2.2 * (R.1 / S.1))

set_option maxHeartbeats 4000000 in
theorem next_any (p0 p1 p2 q0 q1 q2 : Option Addr) (l0 c0 l1 c1 l2 c2 m0 d0 m1 d1 m2 d2 : Nat) (R S : ERow) (w : World) (hR : tiny R) (hS : tiny S) (h0 : S.1 ≠ 0)
    (a0 : At w (.slice p0 l0 c0) (Nl.limbs R.1)) (a1 : At w (.slice p1 l1 c1) (Nl.limbs R.2.1)) (a2 : At w (.slice p2 l2 c2) (Nl.limbs R.2.2))
    (b0 : At w (.slice q0 m0 d0) (Nl.limbs S.1)) (b1 : At w (.slice q1 m1 d1) (Nl.limbs S.2.1)) (b2 : At w (.slice q2 m2 d2) (Nl.limbs S.2.2)) :
    Calls Tryz.prog 182 #[.agg #[.slice p0 l0 c0, .slice p1 l1 c1, .slice p2 l2 c2], .agg #[.slice q0 m0 d0, .slice q1 m1 d1, .slice q2 m2 d2]] w fun e w' =>
      (∃ r0 n0 e0 r1 n1 e1 r2 n2 e2, e = .returned (.agg #[.slice r0 n0 e0, .slice r1 n1 e1, .slice r2 n2 e2]) ∧ At w' (.slice r0 n0 e0) (Nl.limbs (nextRow R S).1) ∧ At w' (.slice r1 n1 e1) (Nl.limbs (nextRow R S).2.1) ∧ At w' (.slice r2 n2 e2) (Nl.limbs (nextRow R S).2.2)) ∧ Below w.heap.size w w' := by
  obtain ⟨W, hW⟩ : ∃ W, W = ((w.alloc (.cells #[.slice p0 l0 c0, .slice p1 l1 c1, .slice p2 l2 c2] 143)).alloc (.cells #[.slice q0 m0 d0, .slice q1 m1 d1, .slice q2 m2 d2] 143)).alloc (.cells #[.slice none 0 0, .slice none 0 0, .slice none 0 0] 143) := ⟨_, rfl⟩
  have hb : Below w.heap.size w W := by rw [hW]; exact three_new w _ _ _
  have B0 : W.heap[w.heap.size]? = some (.cells #[.slice p0 l0 c0, .slice p1 l1 c1, .slice p2 l2 c2] 143 (0, 0)) := by rw [hW]; exact al_keep _ _ (by simp <;> omega) (al_keep _ _ (by simp <;> omega) (al_at _ _ (by simp)))
  have B1 : W.heap[w.heap.size + 1]? = some (.cells #[.slice q0 m0 d0, .slice q1 m1 d1, .slice q2 m2 d2] 143 (0, 0)) := by rw [hW]; exact al_keep _ _ (by simp <;> omega) (al_at _ _ (by simp))
  have B2 : W.heap[w.heap.size + 2]? = some (.cells #[.slice none 0 0, .slice none 0 0, .slice none 0 0] 143 (0, 0)) := by rw [hW]; exact al_at _ _ (by simp)
  have one : ∀ {m : Nat}, m < 4294967296 → (Nl.limbs m).length ≤ 1 := fun h => Nl.limbs_lt (by omega)
  have lq : (Nl.limbs (R.1 / S.1)).length ≤ 1 := one (Nat.lt_of_le_of_lt (Nat.div_le_self _ _) hR.1)
  have HD := Lib.hid (div_small _ _ R.1 S.1 W (a0.below hb) (b0.below hb) (Nat.le_trans (one hR.1) (by decide)) h0 hS.1)
  have HX := Lib.hid (fun (w2 : World) (h : Below W.heap.size W w2) (v : Value) (hv : At w2 v (Nl.limbs (R.1 / S.1))) => sumTimes_any _ _ v R.2.1 S.2.1 (R.1 / S.1) w2 ((a1.below hb).below h) ((b1.below hb).below h) hv (Nat.le_trans (one hR.2.1) (by decide)) (Nat.le_trans (one hS.2.1) (by decide)) (Nat.le_trans lq (by decide)))
  have HY := Lib.hid (fun (w2 : World) (h : Below W.heap.size W w2) (v : Value) (hv : At w2 v (Nl.limbs (R.1 / S.1))) => sumTimes_any _ _ v R.2.2 S.2.2 (R.1 / S.1) w2 ((a2.below hb).below h) ((b2.below hb).below h) hv (Nat.le_trans (one hR.2.2) (by decide)) (Nat.le_trans (one hS.2.2) (by decide)) (Nat.le_trans lq (by decide)))
  have k0 := cell_of_row _ _ 0 _ _ (0, 0) B0
  have k1 := cell_of_row _ _ 1 _ _ (0, 0) B0
  have k2 := cell_of_row _ _ 2 _ _ (0, 0) B0
  have j0 := cell_of_row _ _ 0 _ _ (0, 0) B1
  have j1 := cell_of_row _ _ 1 _ _ (0, 0) B1
  have j2 := cell_of_row _ _ 2 _ _ (0, 0) B1
  simp only [List.getElem?_toArray, List.getElem?_cons_zero, List.getElem?_cons_succ] at k0 k1 k2 j0 j1 j2
  have HB := Lib.hid (And.intro hb (And.intro B0 (And.intro B1 B2)))
  clear a0 a1 a2 b0 b1 b2 hR hS h0 hb B0 B1 B2 lq one
  go_enter Tryz.func182, Tryz.ntmps182
  go_upto_region 1 with fail
  rw [← hW]
  clear hW
  go_wp2_with fail
  refine HD.out.mono ?_
  rintro e w1 ⟨⟨pq, lq, cq, pr, lr, cr, rfl, hq, hr⟩, hb1⟩
  have H1 := Lib.hid (And.intro hq (And.intro hr hb1))
  have E0 := (hb1.block _ (lt_of_block HB.out.2.1)).trans HB.out.2.1
  have E1 := (hb1.block _ (lt_of_block HB.out.2.2.1)).trans HB.out.2.2.1
  have E2 := (hb1.block _ (lt_of_block HB.out.2.2.2)).trans HB.out.2.2.2
  have i1 := cell_of_row _ _ 1 _ _ (0, 0) E0
  have i2 := cell_of_row _ _ 2 _ _ (0, 0) E0
  have o1 := cell_of_row _ _ 1 _ _ (0, 0) E1
  have o2 := cell_of_row _ _ 2 _ _ (0, 0) E1
  simp only [List.getElem?_toArray, List.getElem?_cons_zero, List.getElem?_cons_succ] at i1 i2 o1 o2
  have hK0 : w.heap.size < w1.heap.size := lt_of_block E0
  have hK1 : w.heap.size + 1 < w1.heap.size := lt_of_block E1
  have hK2 : w.heap.size + 2 < w1.heap.size := lt_of_block E2
  have HE2 := Lib.hid E2
  clear hq hr hb1 HD k0 k1 k2 j0 j1 j2 E0 E1 E2
  go_wp2_with (go_at_call 139; refine (foundTwo_yes _ _ _ _ _ _ _).mono ?_; rintro e w' ⟨rfl, rfl⟩)
  have ne1 : ¬ w.heap.size = w.heap.size + 1 + 1 := by omega
  have ne2 : ¬ w.heap.size + 1 + 1 = w.heap.size := by omega
  have bd := below_drewN w1 1 w1.heap.size
  have HX1 := Lib.hid (HX.out w1.drew (H1.out.2.2.trans (bd.mono H1.out.2.2.size)) _ (H1.out.1.below bd))
  have HY1 := Lib.hid (fun (w2 : World) (h : Below w1.drew.heap.size w1.drew w2) => HY.out w2 ((H1.out.2.2.trans (bd.mono H1.out.2.2.size)).trans (h.mono (show W.heap.size ≤ w1.drew.heap.size from H1.out.2.2.size))) _ ((H1.out.1.below bd).below h))
  clear bd HX HY
  go_region_held3 (fun w' => w'.cell? ⟨w.heap.size, 1, none⟩ = some (.slice p1 l1 c1) ∧ w'.cell? ⟨w.heap.size, 2, none⟩ = some (.slice p2 l2 c2) ∧ w'.cell? ⟨w.heap.size + 1, 1, none⟩ = some (.slice q1 m1 d1) ∧ w'.cell? ⟨w.heap.size + 1, 2, none⟩ = some (.slice q2 m2 d2))
    (first
      | go_keep
      | assumption)
    (first
      | (go_at_call_of 215 (Value.slice p1 l1 c1); refine HX1.out.mono ?_; rintro e w2 ⟨⟨px, nx, cx, rfl, hx⟩, hb2⟩; have u1 := (hb2.cell (p := ⟨w.heap.size, 1, none⟩) hK0).trans i1; have u2 := (hb2.cell (p := ⟨w.heap.size, 2, none⟩) hK0).trans i2; have v1 := (hb2.cell (p := ⟨w.heap.size + 1, 1, none⟩) hK1).trans o1; have v2 := (hb2.cell (p := ⟨w.heap.size + 1, 2, none⟩) hK1).trans o2)
      | (go_at_call_of 215 (Value.slice p2 l2 c2); refine (HY1.out w2 hb2).mono ?_; rintro e w3 ⟨⟨py, ny, cy, rfl, hy⟩, hb3⟩; have hb23 := hb2.trans (hb3.mono hb2.size); have x1 := (hb23.cell (p := ⟨w.heap.size, 1, none⟩) hK0).trans i1; have x2 := (hb23.cell (p := ⟨w.heap.size, 2, none⟩) hK0).trans i2; have y1 := (hb23.cell (p := ⟨w.heap.size + 1, 1, none⟩) hK1).trans o1; have y2 := (hb23.cell (p := ⟨w.heap.size + 1, 2, none⟩) hK1).trans o2; have BQ := (hb23.block (w.heap.size + 2) hK2).trans HE2.out; have f0 := frozen_of_row _ _ 0 _ _ BQ; have f1 := frozen_of_row _ _ 1 _ _ BQ; have f2 := frozen_of_row _ _ 2 _ _ BQ; have g0 := cell_of_row _ _ 0 _ _ (0, 0) BQ; have g1 := cell_of_row _ _ 1 _ _ (0, 0) BQ; have g2 := cell_of_row _ _ 2 _ _ (0, 0) BQ; have HZ := Lib.hid (And.intro BQ (And.intro hx (And.intro hy (And.intro hb3 hb23)))); clear BQ))
  clear hb2 hb3 hb23 hx hy u1 u2 v1 v2 x1 x2 y1 y2 i1 i2 o1 o2 HX1 HY1 ne1 ne2 hK0 hK1 hK2
  go_wp2_with fail
  refine bodyPost_ret (v := .agg #[.slice pr lr cr, .slice px nx cx, .slice py ny cy]) (results_cell_row Tryz.results182 _ _ (w.heap.size + 2) 143 _ (0, 0) _ rfl (row_set (g := w.heap.size + 2) _ _ _ HZ.out.1) Tryz.underlying143 rfl (by kernel_rfl)) rfl ?_
  have hb13 : Below w1.heap.size w1 w3 := (below_drewN w1 1 _).trans (HZ.out.2.2.2.2.mono (Nat.le_refl _))
  have hbw3 : Below w.heap.size w w3 := HB.out.1.trans ((H1.out.2.2.trans (hb13.mono H1.out.2.2.size)).mono HB.out.1.size)
  exact ⟨⟨_, _, _, _, _, _, _, _, _, rfl, at_row (g := w.heap.size + 2) (H1.out.2.1.below hb13) HZ.out.1, at_row (g := w.heap.size + 2) (HZ.out.2.1.below HZ.out.2.2.2.1) HZ.out.1, at_row (g := w.heap.size + 2) HZ.out.2.2.1 HZ.out.1⟩, below_row hbw3 (g := w.heap.size + 2) (by omega) _ _ _⟩
end Go.Proofs.YtkbghamkalidcaaGreat

namespace Go.Proofs.YtkbghamkalidcaaGreat
open Go.RowKit

/-- the rows of Euclid's algorithm -/
def eros (A B : Nat) : Nat → ERow
  | 0 => (A, 1, 0)
  | 1 => (B, 0, 1)
  | i + 2 => nextRow (eros A B i) (eros A B (i + 1))
theorem eros_step (A B i : Nat) : eros A B (i + 2) = nextRow (eros A B i) (eros A B (i + 1)) := by rw [eros]
theorem eros_rest (A B i : Nat) : (eros A B (i + 2)).1 = (eros A B i).1 % (eros A B (i + 1)).1 := by rw [eros_step]; rfl
theorem eros_x (A B i : Nat) : (eros A B (i + 2)).2.1 = (eros A B i).2.1 + (eros A B (i + 1)).2.1 * ((eros A B i).1 / (eros A B (i + 1)).1) := by rw [eros_step]; rfl
theorem eros_y (A B i : Nat) : (eros A B (i + 2)).2.2 = (eros A B i).2.2 + (eros A B (i + 1)).2.2 * ((eros A B i).1 / (eros A B (i + 1)).1) := by rw [eros_step]; rfl

/-- each row and the next one make up the two numbers -/
theorem eros_sums (A B : Nat) : ∀ i, A = (eros A B i).1 * (eros A B (i + 1)).2.2 + (eros A B (i + 1)).1 * (eros A B i).2.2 ∧ B = (eros A B i).1 * (eros A B (i + 1)).2.1 + (eros A B (i + 1)).1 * (eros A B i).2.1
  | 0 => by simp [eros]
  | i + 1 => by
    obtain ⟨h1, h2⟩ := eros_sums A B i
    have h3 := eros_rest A B i
    have h4 := eros_x A B i
    have h5 := eros_y A B i
    have h6 := Nat.div_add_mod (eros A B i).1 (eros A B (i + 1)).1
    rw [← h3] at h6
    generalize (eros A B i).1 / (eros A B (i + 1)).1 = q at *
    rw [show i + 1 + 1 = i + 2 from rfl, h4, h5]
    constructor
    · rw [← h6] at h1; grind
    · rw [← h6] at h2; grind

/-- the sign of a row's rest -/
def esg (i : Nat) : Int := if i % 2 = 1 then -1 else 1
theorem esg_next (i : Nat) : esg (i + 1) = - esg i := by unfold esg; split <;> split <;> omega
theorem esg_cases (i : Nat) : esg i = 1 ∨ esg i = -1 := by unfold esg; split <;> simp
theorem eros_signs (A B : Nat) : ∀ i, ((eros A B i).1 : Int) = esg i * ((eros A B i).2.1 * A - (eros A B i).2.2 * B) ∧ ((eros A B (i + 1)).1 : Int) = esg (i + 1) * ((eros A B (i + 1)).2.1 * A - (eros A B (i + 1)).2.2 * B)
  | 0 => by simp [eros, esg]
  | i + 1 => by
    obtain ⟨h1, h2⟩ := eros_signs A B i
    refine ⟨h2, ?_⟩
    have h3 := eros_rest A B i
    have h4 := eros_x A B i
    have h5 := eros_y A B i
    have h6 := Nat.div_add_mod (eros A B i).1 (eros A B (i + 1)).1
    rw [← h3] at h6
    generalize (eros A B i).1 / (eros A B (i + 1)).1 = q at *
    have h7 : ((eros A B (i + 2)).1 : Int) = ((eros A B i).1 : Int) - ((eros A B (i + 1)).1 : Int) * q := by rw [← h6]; push_cast; grind
    rw [show i + 1 + 1 = i + 2 from rfl, h7, h4, h5]
    have e1 := esg_next i
    have e2 := esg_next (i + 1)
    rw [show i + 1 + 1 = i + 2 from rfl] at e2
    push_cast
    rw [e2, e1, Int.neg_neg]
    rw [e1] at h2
    grind

/-- rests fall, factors grow -/
theorem eros_grow (A B : Nat) : ∀ i, (∀ j, j < i + 1 → (eros A B (j + 1)).1 ≠ 0) → (eros A B (i + 2)).1 < (eros A B (i + 1)).1 ∧ (eros A B (i + 1)).2.1 ≤ (eros A B (i + 2)).2.1 ∧ 1 ≤ (eros A B (i + 2)).2.1 ∧ ((eros A B (i + 1)).2.1 = (eros A B (i + 2)).2.1 → (eros A B (i + 2)).1 ≠ 0)
  | 0 => fun h => by
    have h1 := h 0 (by omega)
    have h2 := Nat.mod_lt (eros A B 0).1 (Nat.pos_of_ne_zero h1)
    have h3 := eros_rest A B 0
    have h4 := eros_x A B 0
    simp only [eros, Nat.zero_add] at *
    rw [h3]
    simp only [nextRow, Nat.zero_mul] at *
    omega
  | i + 1 => fun h => by
    obtain ⟨k1, k2, k3, k4⟩ := eros_grow A B i (fun j hj => h j (by omega))
    have h1 := h (i + 1) (by omega)
    have h2 := Nat.mod_lt (eros A B (i + 1)).1 (Nat.pos_of_ne_zero h1)
    have h3 := eros_rest A B (i + 1)
    have h4 := eros_x A B (i + 1)
    have h6 := Nat.div_add_mod (eros A B (i + 1)).1 (eros A B (i + 2)).1
    have h7 : 1 ≤ (eros A B (i + 1)).1 / (eros A B (i + 2)).1 := (Nat.one_le_div_iff (Nat.pos_of_ne_zero h1)).2 (Nat.le_of_lt k1)
    rw [show i + 1 + 1 = i + 2 from rfl, show i + 1 + 2 = i + 3 from rfl] at *
    rw [← h3] at h2 h6
    generalize (eros A B (i + 1)).1 / (eros A B (i + 2)).1 = q at *
    obtain ⟨q, rfl⟩ : ∃ t, q = t + 1 := ⟨q - 1, by omega⟩
    rw [Nat.mul_succ] at h4 h6
    have h8 : 0 ≤ (eros A B (i + 2)).2.1 * q := Nat.zero_le _
    refine ⟨h2, by omega, by omega, fun h9 h10 => ?_⟩
    have h11 : (eros A B (i + 2)).2.1 * q = 0 := by omega
    have h12 : q = 0 := by
      rcases Nat.mul_eq_zero.1 h11 with h | h
      · omega
      · exact h
    rw [h12, Nat.mul_zero] at h6
    omega

/-- rows of rows are rows -/
theorem eros_shift (A B i : Nat) : ∀ j, ((eros A B (i + j)).1 = (eros (eros A B i).1 (eros A B (i + 1)).1 j).1 ∧
      (eros A B (i + j)).2.1 = (eros (eros A B i).1 (eros A B (i + 1)).1 j).2.1 * (eros A B i).2.1 + (eros (eros A B i).1 (eros A B (i + 1)).1 j).2.2 * (eros A B (i + 1)).2.1 ∧
      (eros A B (i + j)).2.2 = (eros (eros A B i).1 (eros A B (i + 1)).1 j).2.1 * (eros A B i).2.2 + (eros (eros A B i).1 (eros A B (i + 1)).1 j).2.2 * (eros A B (i + 1)).2.2) ∧
      ((eros A B (i + (j + 1))).1 = (eros (eros A B i).1 (eros A B (i + 1)).1 (j + 1)).1 ∧
      (eros A B (i + (j + 1))).2.1 = (eros (eros A B i).1 (eros A B (i + 1)).1 (j + 1)).2.1 * (eros A B i).2.1 + (eros (eros A B i).1 (eros A B (i + 1)).1 (j + 1)).2.2 * (eros A B (i + 1)).2.1 ∧
      (eros A B (i + (j + 1))).2.2 = (eros (eros A B i).1 (eros A B (i + 1)).1 (j + 1)).2.1 * (eros A B i).2.2 + (eros (eros A B i).1 (eros A B (i + 1)).1 (j + 1)).2.2 * (eros A B (i + 1)).2.2)
  | 0 => by simp [eros]
  | j + 1 => by
    obtain ⟨⟨a1, a2, a3⟩, b1, b2, b3⟩ := eros_shift A B i j
    refine ⟨⟨b1, b2, b3⟩, ?_⟩
    rw [show i + (j + 1 + 1) = i + j + 2 by omega, show j + 1 + 1 = j + 2 from rfl, eros_rest, eros_x, eros_y, eros_rest, eros_x, eros_y]
    rw [show i + j + 1 = i + (j + 1) by omega, a1, b1, a2, b2, a3, b3]
    refine ⟨rfl, ?_, ?_⟩ <;> grind
/-- the factors of a row of the first bits are small -/
theorem eros_le (a b i : Nat) : (eros a b i).1 * (eros a b (i + 1)).2.2 ≤ a ∧ (eros a b (i + 1)).1 * (eros a b i).2.2 ≤ a ∧ (eros a b i).1 * (eros a b (i + 1)).2.1 ≤ b ∧ (eros a b (i + 1)).1 * (eros a b i).2.1 ≤ b := by
  have h := eros_sums a b i
  omega
/-- what is sure of the rows of the first bits a and b (Collins): i is the number of the row behind the last sure one -/
structure Sure (m n a b i : Nat) : Prop where
  same : ∀ j, j < i → (eros m n j).2 = (eros a b j).2
  pos : ∀ j, 1 ≤ j → j < i → 0 < (eros m n j).1
  xy : (eros a b i).2.1 ≤ (eros a b i).2.2
  xys : (eros a b (i - 1)).2.1 + (eros a b i).2.1 ≤ (eros a b (i - 1)).2.2 + (eros a b i).2.2
  up : (eros a b (i - 1)).2.2 ≤ (eros a b i).2.2
  small : ∀ j, j < i → (eros a b j).2.1 < 4294967296 ∧ (eros a b j).2.2 < 4294967296
  some_ : ∀ j, 1 ≤ j → j < i → 1 ≤ (eros a b j).2.2
  one : 1 ≤ (eros a b i).2.2
  last : 1 < i → 0 < (eros a b (i - 1)).1
theorem sure_one (m n a b : Nat) : Sure m n a b 1 where
  same := fun j hj => by obtain rfl : j = 0 := by omega
                         rfl
  pos := fun j h1 h2 => by omega
  xy := by simp [eros]
  xys := by simp [eros]
  up := by simp [eros]
  small := fun j hj => by obtain rfl : j = 0 := by omega
                          simp [eros]
  some_ := fun j h1 h2 => by omega
  one := by simp [eros]
  last := fun h => by omega
theorem nat_quot {P Q q D : Nat} (h : P = q * Q + D) (hD : D < Q) : P / Q = q ∧ P % Q = D := by
  subst h
  constructor
  · rw [Nat.add_comm, Nat.mul_comm, Nat.add_mul_div_left _ _ (by omega), Nat.div_eq_of_lt hD]; omega
  · rw [Nat.add_comm, Nat.mul_comm, Nat.add_mul_mod_self_left, Nat.mod_eq_of_lt hD]
/-- a row of the first bits that passes Collins' test is one of the whole numbers -/
theorem sure_next {m n a b i M r0 r1 : Nat} (h : Sure m n a b i) (hi : 1 ≤ i) (hm : m = a * M + r0) (hn : n = b * M + r1) (h0 : r0 < M) (h1 : r1 < M) (ha : a < 9223372036854775808)
    (t1 : (eros a b i).2.2 ≤ (eros a b i).1) (t2 : (eros a b i).1 + (eros a b (i - 1)).2.2 + (eros a b i).2.2 ≤ (eros a b (i - 1)).1) : Sure m n a b (i + 1) := by
  obtain ⟨k, rfl⟩ : ∃ k, i = k + 1 := ⟨i - 1, by omega⟩
  rw [show k + 1 - 1 = k from rfl] at *
  have one := h.one
  have xy := h.xy
  have xys := h.xys
  have up := h.up
  rw [show k + 1 - 1 = k from rfl] at xys up
  -- the true rests
  obtain ⟨s0, s1⟩ := eros_signs a b k
  have hP : ∃ D : Nat, (D : Int) = esg (k + 1) * (((eros a b (k + 1)).2.1 : Int) * m - ((eros a b (k + 1)).2.2 : Int) * n) ∧ 0 < D ∧ (D : Int) < esg k * (((eros a b k).2.1 : Int) * m - ((eros a b k).2.2 : Int) * n) := by
    have e := esg_next k
    have v1 : esg (k + 1) * (((eros a b (k + 1)).2.1 : Int) * m - ((eros a b (k + 1)).2.2 : Int) * n) = ((eros a b (k + 1)).1 : Int) * M + esg (k + 1) * (((eros a b (k + 1)).2.1 : Int) * r0 - ((eros a b (k + 1)).2.2 : Int) * r1) := by
      rw [s1, hm, hn]; push_cast; grind
    have v0 : esg k * (((eros a b k).2.1 : Int) * m - ((eros a b k).2.2 : Int) * n) = ((eros a b k).1 : Int) * M + esg k * (((eros a b k).2.1 : Int) * r0 - ((eros a b k).2.2 : Int) * r1) := by
      rw [s0, hm, hn]; push_cast; grind
    generalize esg (k + 1) * (((eros a b (k + 1)).2.1 : Int) * m - ((eros a b (k + 1)).2.2 : Int) * n) = E1 at *
    generalize esg k * (((eros a b k).2.1 : Int) * m - ((eros a b k).2.2 : Int) * n) = E0 at *
    clear s0 s1 h hm hn
    generalize (eros a b (k + 1)).1 = p1 at *
    generalize (eros a b k).1 = p0 at *
    generalize (eros a b (k + 1)).2.1 = x1 at *
    generalize (eros a b k).2.1 = x0 at *
    generalize (eros a b (k + 1)).2.2 = y1 at *
    generalize (eros a b k).2.2 = y0 at *
    have a1 : (y1 : Int) * M ≤ (p1 : Int) * M := Int.mul_le_mul_of_nonneg_right (by omega) (by omega)
    have a2 : (x1 : Int) * M ≤ (y1 : Int) * M := Int.mul_le_mul_of_nonneg_right (by omega) (by omega)
    have a3 : ((p1 + y0 + y1 : Nat) : Int) * M ≤ (p0 : Int) * M := Int.mul_le_mul_of_nonneg_right (by omega) (by omega)
    have a4 : ((x0 + x1 : Nat) : Int) * M ≤ ((y0 + y1 : Nat) : Int) * M := Int.mul_le_mul_of_nonneg_right (by omega) (by omega)
    have b1 : (x1 : Int) * r0 ≤ (x1 : Int) * (M - 1) := Int.mul_le_mul_of_nonneg_left (by omega) (by omega)
    have b2 : (x0 : Int) * r0 ≤ (x0 : Int) * (M - 1) := Int.mul_le_mul_of_nonneg_left (by omega) (by omega)
    have b3 : (y1 : Int) * r1 ≤ (y1 : Int) * (M - 1) := Int.mul_le_mul_of_nonneg_left (by omega) (by omega)
    have b4 : (y0 : Int) * r1 ≤ (y0 : Int) * (M - 1) := Int.mul_le_mul_of_nonneg_left (by omega) (by omega)
    have c1 : 0 ≤ (x1 : Int) * r0 := Int.mul_nonneg (by omega) (by omega)
    have c2 : 0 ≤ (x0 : Int) * r0 := Int.mul_nonneg (by omega) (by omega)
    have c3 : 0 ≤ (y1 : Int) * r1 := Int.mul_nonneg (by omega) (by omega)
    have c4 : 0 ≤ (y0 : Int) * r1 := Int.mul_nonneg (by omega) (by omega)
    have d1 : (1 : Int) * M ≤ (y1 : Int) * M := Int.mul_le_mul_of_nonneg_right (by omega) (by omega)
    push_cast at a3 a4
    rw [Int.add_mul, Int.add_mul] at a3
    rw [Int.add_mul, Int.add_mul] at a4
    rw [Int.mul_sub, Int.mul_one] at b1 b2 b3 b4
    have hx1 : x1 = 0 ∨ 1 ≤ x1 := by omega
    rcases esg_cases k with ek | ek <;> rw [e, ek] at v1 <;> rw [ek] at v0
    · have w1 : E1 = (p1 : Int) * M - ((x1 : Int) * r0 - (y1 : Int) * r1) := by rw [v1]; grind
      have w0 : E0 = (p0 : Int) * M + ((x0 : Int) * r0 - (y0 : Int) * r1) := by rw [v0]; grind
      refine ⟨E1.toNat, ?_, ?_, ?_⟩
      · rcases hx1 with h | h
        · subst h; simp at *; omega
        · omega
      · rcases hx1 with h | h
        · subst h; simp at *; omega
        · omega
      · rcases hx1 with h | h
        · subst h; simp at *; omega
        · omega
    · have w1 : E1 = (p1 : Int) * M + ((x1 : Int) * r0 - (y1 : Int) * r1) := by rw [v1]; grind
      have w0 : E0 = (p0 : Int) * M - ((x0 : Int) * r0 - (y0 : Int) * r1) := by rw [v0]; grind
      refine ⟨E1.toNat, by omega, by omega, ?_⟩
      rcases (show (x0 = 0 ∧ x1 = 0) ∨ 1 ≤ x0 + x1 by omega) with ⟨h, h'⟩ | h
      · subst h; subst h'; simp at *; omega
      · omega
  obtain ⟨D, hD, hD0, hD1⟩ := hP
  have hk : (eros m n k).2 = (eros a b k).2 := h.same k (by omega)
  obtain ⟨z0, -⟩ := eros_signs m n k
  rw [hk] at z0
  rw [← z0] at hD1
  -- the row is the same
  have hrow : (eros m n (k + 1)).2 = (eros a b (k + 1)).2 ∧ (eros m n (k + 1)).1 = D := by
    match k, hk, hD, hD1, z0 with
    | 0, _, hD, _, _ =>
      refine ⟨rfl, ?_⟩
      simp only [eros, esg] at *
      simp at hD
      omega
    | j + 1, hk, hD, hD1, z0 =>
      have hj : (eros m n j).2 = (eros a b j).2 := h.same j (by omega)
      obtain ⟨y0, -⟩ := eros_signs m n j
      rw [hj] at y0
      have e2 := esg_next (j + 1)
      have e1 := esg_next j
      have ex := eros_x a b j
      have ey := eros_y a b j
      generalize hq : (eros a b j).1 / (eros a b (j + 1)).1 = q at *
      have hsum : (eros m n j).1 = q * (eros m n (j + 1)).1 + D := by
        have : ((eros m n j).1 : Int) = q * ((eros m n (j + 1)).1 : Int) + D := by
          rw [hD, z0, y0, show j + 1 + 1 = j + 2 from rfl, ex, ey, e2, e1]
          push_cast
          grind
        omega
      obtain ⟨f1, f2⟩ := nat_quot hsum (by omega)
      refine ⟨?_, by rw [show j + 1 + 1 = j + 2 from rfl, eros_rest]; exact f2⟩
      have g1 := eros_x m n j
      have g2 := eros_y m n j
      rw [f1, hj, hk, ← ex] at g1
      rw [f1, hj, hk, ← ey] at g2
      exact Prod.ext g1 g2
  have hle := eros_le a b k
  have hq1 : 1 ≤ (eros a b k).1 / (eros a b (k + 1)).1 := (Nat.one_le_div_iff (by omega)).2 (by omega)
  have gx := eros_x a b k
  have gy := eros_y a b k
  generalize (eros a b k).1 / (eros a b (k + 1)).1 = q at *
  obtain ⟨q, rfl⟩ : ∃ t, q = t + 1 := ⟨q - 1, by omega⟩
  have u1 : (eros a b (k + 1)).2.1 * q ≤ (eros a b (k + 1)).2.2 * q := Nat.mul_le_mul_right q xy
  rw [Nat.mul_succ] at gx gy
  have hy2 : (eros a b (k + 1)).2.2 < 4294967296 := by
    apply Classical.byContradiction
    intro hc
    have h5 : (eros a b (k + 1)).2.2 * (eros a b (k + 1)).2.2 ≤ (eros a b k).1 * (eros a b (k + 1)).2.2 := Nat.mul_le_mul_right _ (by omega)
    have h6 : 4294967296 * 4294967296 ≤ (eros a b (k + 1)).2.2 * (eros a b (k + 1)).2.2 := Nat.mul_le_mul (by omega) (by omega)
    omega
  refine ⟨fun j hj => ?_, fun j j1 hj => ?_, ?_, ?_, ?_, fun j hj => ?_, fun j j1 hj => ?_, ?_, fun _ => by rw [show k + 1 + 1 - 1 = k + 1 from rfl]; omega⟩
  · by_cases hjk : j = k + 1
    · rw [hjk]; exact hrow.1
    · exact h.same j (by omega)
  · by_cases hjk : j = k + 1
    · rw [hjk, hrow.2]; exact hD0
    · exact h.pos j j1 (by omega)
  · rw [show k + 1 + 1 = k + 2 from rfl]; omega
  · rw [show k + 1 + 1 - 1 = k + 1 from rfl, show k + 1 + 1 = k + 2 from rfl]; omega
  · rw [show k + 1 + 1 - 1 = k + 1 from rfl, show k + 1 + 1 = k + 2 from rfl]; omega
  · by_cases hjk : j = k + 1
    · rw [hjk]; omega
    · exact h.small j (by omega)
  · by_cases hjk : j = k + 1
    · rw [hjk]; omega
    · exact h.some_ j j1 (by omega)
  · rw [show k + 1 + 1 = k + 2 from rfl]; omega
end Go.Proofs.YtkbghamkalidcaaGreat
