/-
  What Gcd of the reference of layer 2 does. Written by wip/tool/gengcdr.py. Conditions: those that each theorem names.
-/
import Derived.Test.YtkbghamkalidcaaGreatInverseRAll
namespace Go.Proofs.YtkbghamkalidcaaGreat
open Go.RowKit

/-- what Gcd of the reference returns -/
def ComI (w w' : World) (e : Ending) (k x y z : Int) : Prop := Below w.heap.size w w' ∧ ∃ t0 q0 m0 d0 t1 q1 m1 d1 t2 q2 m2 d2, e = .returned (.agg #[.bool t0, .slice q0 m0 d0, .bool t1, .slice q1 m1 d1, .bool t2, .slice q2 m2 d2, .int .i64 k]) ∧ IsI w' (.agg #[.bool t0, .slice q0 m0 d0]) x ∧ IsI w' (.agg #[.bool t1, .slice q1 m1 d1]) y ∧ IsI w' (.agg #[.bool t2, .slice q2 m2 d2]) z
theorem com_set {w : World} {g : Nat} {T : TypeId} {s0 s1 s2 t0 t1 t2 : Bool} {p0 p1 p2 q0 q1 q2 : Option Addr} {l0 l1 l2 c0 c1 c2 m0 m1 m2 d0 d1 d2 : Nat} {j k : Int} (h : w.heap[g]? = some (.cells #[.bool s0, .slice p0 l0 c0, .bool s1, .slice p1 l1 c1, .bool s2, .slice p2 l2 c2, .int .i64 j] T (0, 0))) : (((((((w.setCell ⟨g, 0, none⟩ (.bool t0)).setCell ⟨g, 1, none⟩ (.slice q0 m0 d0)).setCell ⟨g, 2, none⟩ (.bool t1)).setCell ⟨g, 3, none⟩ (.slice q1 m1 d1)).setCell ⟨g, 4, none⟩ (.bool t2)).setCell ⟨g, 5, none⟩ (.slice q2 m2 d2)).setCell ⟨g, 6, none⟩ (.int .i64 k)).heap[g]? = some (.cells #[.bool t0, .slice q0 m0 d0, .bool t1, .slice q1 m1 d1, .bool t2, .slice q2 m2 d2, .int .i64 k] T (0, 0)) := by
  have e0 : (w.setCell ⟨g, 0, none⟩ (.bool t0)).heap[g]? = some (.cells #[.bool t0, .slice p0 l0 c0, .bool s1, .slice p1 l1 c1, .bool s2, .slice p2 l2 c2, .int .i64 j] T (0, 0)) := heap_setCell_same _ g 0 _ _ _ h
  have e1 : ((w.setCell ⟨g, 0, none⟩ (.bool t0)).setCell ⟨g, 1, none⟩ (.slice q0 m0 d0)).heap[g]? = some (.cells #[.bool t0, .slice q0 m0 d0, .bool s1, .slice p1 l1 c1, .bool s2, .slice p2 l2 c2, .int .i64 j] T (0, 0)) := heap_setCell_same _ g 1 _ _ _ e0
  have e2 : (((w.setCell ⟨g, 0, none⟩ (.bool t0)).setCell ⟨g, 1, none⟩ (.slice q0 m0 d0)).setCell ⟨g, 2, none⟩ (.bool t1)).heap[g]? = some (.cells #[.bool t0, .slice q0 m0 d0, .bool t1, .slice p1 l1 c1, .bool s2, .slice p2 l2 c2, .int .i64 j] T (0, 0)) := heap_setCell_same _ g 2 _ _ _ e1
  have e3 : ((((w.setCell ⟨g, 0, none⟩ (.bool t0)).setCell ⟨g, 1, none⟩ (.slice q0 m0 d0)).setCell ⟨g, 2, none⟩ (.bool t1)).setCell ⟨g, 3, none⟩ (.slice q1 m1 d1)).heap[g]? = some (.cells #[.bool t0, .slice q0 m0 d0, .bool t1, .slice q1 m1 d1, .bool s2, .slice p2 l2 c2, .int .i64 j] T (0, 0)) := heap_setCell_same _ g 3 _ _ _ e2
  have e4 : (((((w.setCell ⟨g, 0, none⟩ (.bool t0)).setCell ⟨g, 1, none⟩ (.slice q0 m0 d0)).setCell ⟨g, 2, none⟩ (.bool t1)).setCell ⟨g, 3, none⟩ (.slice q1 m1 d1)).setCell ⟨g, 4, none⟩ (.bool t2)).heap[g]? = some (.cells #[.bool t0, .slice q0 m0 d0, .bool t1, .slice q1 m1 d1, .bool t2, .slice p2 l2 c2, .int .i64 j] T (0, 0)) := heap_setCell_same _ g 4 _ _ _ e3
  have e5 : ((((((w.setCell ⟨g, 0, none⟩ (.bool t0)).setCell ⟨g, 1, none⟩ (.slice q0 m0 d0)).setCell ⟨g, 2, none⟩ (.bool t1)).setCell ⟨g, 3, none⟩ (.slice q1 m1 d1)).setCell ⟨g, 4, none⟩ (.bool t2)).setCell ⟨g, 5, none⟩ (.slice q2 m2 d2)).heap[g]? = some (.cells #[.bool t0, .slice q0 m0 d0, .bool t1, .slice q1 m1 d1, .bool t2, .slice q2 m2 d2, .int .i64 j] T (0, 0)) := heap_setCell_same _ g 5 _ _ _ e4
  have e6 : (((((((w.setCell ⟨g, 0, none⟩ (.bool t0)).setCell ⟨g, 1, none⟩ (.slice q0 m0 d0)).setCell ⟨g, 2, none⟩ (.bool t1)).setCell ⟨g, 3, none⟩ (.slice q1 m1 d1)).setCell ⟨g, 4, none⟩ (.bool t2)).setCell ⟨g, 5, none⟩ (.slice q2 m2 d2)).setCell ⟨g, 6, none⟩ (.int .i64 k)).heap[g]? = some (.cells #[.bool t0, .slice q0 m0 d0, .bool t1, .slice q1 m1 d1, .bool t2, .slice q2 m2 d2, .int .i64 k] T (0, 0)) := heap_setCell_same _ g 6 _ _ _ e5
  exact e6
theorem com_off {w : World} {g b i : Nat} {t0 t1 t2 : Bool} {q0 q1 q2 : Option Addr} {m0 m1 m2 d0 d1 d2 : Nat} {k : Int} {o : Value} (hne : ¬ b = g) (h : w.cell? ⟨b, i, none⟩ = some o) : (((((((w.setCell ⟨g, 0, none⟩ (.bool t0)).setCell ⟨g, 1, none⟩ (.slice q0 m0 d0)).setCell ⟨g, 2, none⟩ (.bool t1)).setCell ⟨g, 3, none⟩ (.slice q1 m1 d1)).setCell ⟨g, 4, none⟩ (.bool t2)).setCell ⟨g, 5, none⟩ (.slice q2 m2 d2)).setCell ⟨g, 6, none⟩ (.int .i64 k)).cell? ⟨b, i, none⟩ = some o := by
  have e : (((((((w.setCell ⟨g, 0, none⟩ (.bool t0)).setCell ⟨g, 1, none⟩ (.slice q0 m0 d0)).setCell ⟨g, 2, none⟩ (.bool t1)).setCell ⟨g, 3, none⟩ (.slice q1 m1 d1)).setCell ⟨g, 4, none⟩ (.bool t2)).setCell ⟨g, 5, none⟩ (.slice q2 m2 d2)).setCell ⟨g, 6, none⟩ (.int .i64 k)).heap[b]? = w.heap[b]? := by
    rw [Below.heap_setCell _ ⟨g, 6, none⟩ _ _ hne, Below.heap_setCell _ ⟨g, 5, none⟩ _ _ hne, Below.heap_setCell _ ⟨g, 4, none⟩ _ _ hne, Below.heap_setCell _ ⟨g, 3, none⟩ _ _ hne, Below.heap_setCell _ ⟨g, 2, none⟩ _ _ hne, Below.heap_setCell _ ⟨g, 1, none⟩ _ _ hne, Below.heap_setCell _ ⟨g, 0, none⟩ _ _ hne]
  rw [← h]
  unfold World.cell?
  simp only [e]
theorem no_seven {s0 s1 s2 : Bool} {p0 p1 p2 : Option Addr} {l0 l1 l2 c0 c1 c2 : Nat} {j : Int} (i : Nat) (x : Int) : (#[Value.bool s0, .slice p0 l0 c0, .bool s1, .slice p1 l1 c1, .bool s2, .slice p2 l2 c2, .int .i64 j] : Array Value)[i]? ≠ some (.int .u32 x) := by
  match i with
  | 0 => simp
  | 1 => simp
  | 2 => simp
  | 3 => simp
  | 4 => simp
  | 5 => simp
  | 6 => simp
  | j + 7 => simp
theorem isI_seven {w : World} {g : Nat} {T : TypeId} {s0 s1 s2 : Bool} {p0 p1 p2 : Option Addr} {l0 l1 l2 c0 c1 c2 : Nat} {j : Int} {v : Value} {n : Int} (i : Nat) (u : Value) (h : IsI w v n) (hbx : w.heap[g]? = some (.cells #[.bool s0, .slice p0 l0 c0, .bool s1, .slice p1 l1 c1, .bool s2, .slice p2 l2 c2, .int .i64 j] T (0, 0))) : IsI (w.setCell ⟨g, i, none⟩ u) v n := by
  obtain ⟨x, h1, h2⟩ := h
  exact ⟨x, h1, at_set32 u h2 hbx no_seven⟩
theorem com_isI {w : World} {g : Nat} {T : TypeId} {s0 s1 s2 t0 t1 t2 : Bool} {p0 p1 p2 q0 q1 q2 : Option Addr} {l0 l1 l2 c0 c1 c2 m0 m1 m2 d0 d1 d2 : Nat} {j k : Int} {v : Value} {n : Int} (h : w.heap[g]? = some (.cells #[.bool s0, .slice p0 l0 c0, .bool s1, .slice p1 l1 c1, .bool s2, .slice p2 l2 c2, .int .i64 j] T (0, 0))) (hv : IsI w v n) : IsI (((((((w.setCell ⟨g, 0, none⟩ (.bool t0)).setCell ⟨g, 1, none⟩ (.slice q0 m0 d0)).setCell ⟨g, 2, none⟩ (.bool t1)).setCell ⟨g, 3, none⟩ (.slice q1 m1 d1)).setCell ⟨g, 4, none⟩ (.bool t2)).setCell ⟨g, 5, none⟩ (.slice q2 m2 d2)).setCell ⟨g, 6, none⟩ (.int .i64 k)) v n := by
  have e0 := heap_setCell_same w g 0 _ _ (.bool t0) h
  have e1 := heap_setCell_same _ g 1 _ _ (.slice q0 m0 d0) e0
  have e2 := heap_setCell_same _ g 2 _ _ (.bool t1) e1
  have e3 := heap_setCell_same _ g 3 _ _ (.slice q1 m1 d1) e2
  have e4 := heap_setCell_same _ g 4 _ _ (.bool t2) e3
  have e5 := heap_setCell_same _ g 5 _ _ (.slice q2 m2 d2) e4
  exact isI_seven 6 _ (isI_seven 5 _ (isI_seven 4 _ (isI_seven 3 _ (isI_seven 2 _ (isI_seven 1 _ (isI_seven 0 _ hv h) e0) e1) e2) e3) e4) e5
theorem com_post {w wz : World} {g : Nat} {T : TypeId} {s0 s1 s2 t0 t1 t2 : Bool} {p0 p1 p2 q0 q1 q2 : Option Addr} {l0 l1 l2 c0 c1 c2 m0 m1 m2 d0 d1 d2 : Nat} {j k : Int} {x y z : Int} (h : wz.heap[g]? = some (.cells #[.bool s0, .slice p0 l0 c0, .bool s1, .slice p1 l1 c1, .bool s2, .slice p2 l2 c2, .int .i64 j] T (0, 0))) (hg : w.heap.size ≤ g) (hb : Below w.heap.size w wz) (hx : IsI wz (.agg #[.bool t0, .slice q0 m0 d0]) x) (hy : IsI wz (.agg #[.bool t1, .slice q1 m1 d1]) y) (hz : IsI wz (.agg #[.bool t2, .slice q2 m2 d2]) z) :
    ComI w (((((((wz.setCell ⟨g, 0, none⟩ (.bool t0)).setCell ⟨g, 1, none⟩ (.slice q0 m0 d0)).setCell ⟨g, 2, none⟩ (.bool t1)).setCell ⟨g, 3, none⟩ (.slice q1 m1 d1)).setCell ⟨g, 4, none⟩ (.bool t2)).setCell ⟨g, 5, none⟩ (.slice q2 m2 d2)).setCell ⟨g, 6, none⟩ (.int .i64 k)) (.returned (.agg #[.bool t0, .slice q0 m0 d0, .bool t1, .slice q1 m1 d1, .bool t2, .slice q2 m2 d2, .int .i64 k])) k x y z := by
  refine ⟨?_, _, _, _, _, _, _, _, _, _, _, _, _, rfl, com_isI h hx, com_isI h hy, com_isI h hz⟩
  exact ((((((hb.setCell (p := ⟨g, 0, none⟩) hg _).setCell (p := ⟨g, 1, none⟩) hg _).setCell (p := ⟨g, 2, none⟩) hg _).setCell (p := ⟨g, 3, none⟩) hg _).setCell (p := ⟨g, 4, none⟩) hg _).setCell (p := ⟨g, 5, none⟩) hg _).setCell (p := ⟨g, 6, none⟩) hg _
theorem ref2OfL (v : Value) (m : Nat) (w : World) (h : At w v (Nl.limbs m)) (hl : (Nl.limbs m).length ≤ 1000000) :
    Calls Tryz.prog 66 #[.bool false, v] w fun e w' => GivesI w w' e (m : Int) := ref2Of_any false v m w h hl
theorem at_num_on {w w' : World} {s : Bool} {v : Value} {n : Int} (h : IsI w (.agg #[.bool s, v]) n) (hb : Below w.heap.size w w') : At w' v (Nl.limbs n.natAbs) := num_at (IsI.below h hb)
theorem len_exact {x g : Int} (hg : g ≠ 0) (hd : g ∣ x) : (divQ 1 x g).natAbs ≤ x.natAbs := by
  have h := divQ_exact hg hd
  have h2 : x.natAbs = (divQ 1 x g).natAbs * g.natAbs := by rw [← Int.natAbs_mul, h]
  rw [h2]
  exact Nat.le_mul_of_pos_right _ (by omega)

set_option maxRecDepth 10000 in
set_option maxHeartbeats 16000000 in
theorem rGcd_any (v0 : Value) (s0 : Bool) (xs : List Nat) (v1 : Value) (s1 : Bool) (ys : List Nat) (w : World) (h0 : AtI w v0 s0 xs) (m0 : Nl.Small xs) (h1 : AtI w v1 s1 ys) (m1 : Nl.Small ys) (k0 : xs.length ≤ 50) (k1 : ys.length ≤ 50) :
    Calls Tryz.prog 33 #[v0, v1] w fun e w' => ComI w w' e (if (validI s0 xs && validI s1 ys) = true then 0 else 1) (if (validI s0 xs && validI s1 ys) = true then cG (sgn s0 (Nl.val xs)) (sgn s1 (Nl.val ys)) else 0) (if (validI s0 xs && validI s1 ys) = true then cX (sgn s0 (Nl.val xs)) (sgn s1 (Nl.val ys)) else 0) (if (validI s0 xs && validI s1 ys) = true then cY (sgn s0 (Nl.val xs)) (sgn s1 (Nl.val ys)) else 0) := by
  obtain ⟨p0, c0, rfl, u0⟩ := h0.form
  obtain ⟨p1, c1, rfl, u1⟩ := h1.form
  obtain ⟨KK, hKK⟩ : ∃ k : Int, k = (if (validI s0 xs && validI s1 ys) = true then 0 else 1) := ⟨_, rfl⟩
  rw [← hKK]
  have HKK := Lib.hid hKK
  clear hKK
  obtain ⟨GG, hGG⟩ : ∃ k : Int, k = (if (validI s0 xs && validI s1 ys) = true then cG (sgn s0 (Nl.val xs)) (sgn s1 (Nl.val ys)) else 0) := ⟨_, rfl⟩
  rw [← hGG]
  have HGG := Lib.hid hGG
  clear hGG
  obtain ⟨XX, hXX⟩ : ∃ k : Int, k = (if (validI s0 xs && validI s1 ys) = true then cX (sgn s0 (Nl.val xs)) (sgn s1 (Nl.val ys)) else 0) := ⟨_, rfl⟩
  rw [← hXX]
  have HXX := Lib.hid hXX
  clear hXX
  obtain ⟨YY, hYY⟩ : ∃ k : Int, k = (if (validI s0 xs && validI s1 ys) = true then cY (sgn s0 (Nl.val xs)) (sgn s1 (Nl.val ys)) else 0) := ⟨_, rfl⟩
  rw [← hYY]
  have HYY := Lib.hid hYY
  clear hYY
  obtain ⟨l0, hl0⟩ : ∃ l0, l0 = xs.length := ⟨_, rfl⟩
  obtain ⟨l1, hl1⟩ : ∃ l1, l1 = ys.length := ⟨_, rfl⟩
  rw [← hl0] at h0 k0 ⊢
  rw [← hl1] at h1 k1 ⊢
  obtain ⟨W, hW⟩ : ∃ W, W = ((w.alloc (.cells #[.bool s0, .slice p0 l0 c0] 25)).alloc (.cells #[.bool s1, .slice p1 l1 c1] 25)).alloc (.cells #[.bool false, .slice none 0 0, .bool false, .slice none 0 0, .bool false, .slice none 0 0, .int .i64 0] 58) := ⟨_, rfl⟩
  have hb : Below w.heap.size w W := by rw [hW]; exact three_new w _ _ _
  obtain ⟨K, hK⟩ : ∃ K, K = w.heap.size := ⟨_, rfl⟩
  have B0 : W.heap[K]? = some (.cells #[.bool s0, .slice p0 l0 c0] 25 (0, 0)) := by rw [hW, hK]; exact al_keep _ _ (by simp <;> omega) (al_keep _ _ (by simp <;> omega) (al_at _ _ (by simp)))
  have B1 : W.heap[K + 1]? = some (.cells #[.bool s1, .slice p1 l1 c1] 25 (0, 0)) := by rw [hW, hK]; exact al_keep _ _ (by simp <;> omega) (al_at _ _ (by simp))
  have B2 : W.heap[K + 1 + 1]? = some (.cells #[.bool false, .slice none 0 0, .bool false, .slice none 0 0, .bool false, .slice none 0 0, .int .i64 0] 58 (0, 0)) := by rw [hW, hK]; exact al_at _ _ (by simp)
  have HW := Lib.hid (And.intro B0 (And.intro B1 (And.intro B2 hb)))
  have HU := Lib.hid (And.intro (h0.below hb) (And.intro (h1.below hb) (And.intro m0 m1)))
  have HV0 := Lib.hid (ref2Valid_any _ s0 xs W (h0.below hb))
  have HL := Lib.hid (And.intro k0 (And.intro k1 (And.intro hl0 hl1)))
  have ka0 := cell_of_row _ _ 0 _ _ (0, 0) B0
  have ka1 := cell_of_row _ _ 1 _ _ (0, 0) B0
  simp only [List.getElem?_toArray, List.getElem?_cons_zero, List.getElem?_cons_succ] at ka0 ka1
  have kb0 := cell_of_row _ _ 0 _ _ (0, 0) B1
  have kb1 := cell_of_row _ _ 1 _ _ (0, 0) B1
  simp only [List.getElem?_toArray, List.getElem?_cons_zero, List.getElem?_cons_succ] at kb0 kb1
  have kr0 := cell_of_row _ _ 0 _ _ (0, 0) B2
  have kr1 := cell_of_row _ _ 1 _ _ (0, 0) B2
  have kr2 := cell_of_row _ _ 2 _ _ (0, 0) B2
  have kr3 := cell_of_row _ _ 3 _ _ (0, 0) B2
  have kr4 := cell_of_row _ _ 4 _ _ (0, 0) B2
  have kr5 := cell_of_row _ _ 5 _ _ (0, 0) B2
  have kr6 := cell_of_row _ _ 6 _ _ (0, 0) B2
  simp only [List.getElem?_toArray, List.getElem?_cons_zero, List.getElem?_cons_succ] at kr0 kr1 kr2 kr3 kr4 kr5 kr6
  have fkr0 := frozen_of_row _ _ 0 _ _ B2
  have fkr1 := frozen_of_row _ _ 1 _ _ B2
  have fkr2 := frozen_of_row _ _ 2 _ _ B2
  have fkr3 := frozen_of_row _ _ 3 _ _ B2
  have fkr4 := frozen_of_row _ _ 4 _ _ B2
  have fkr5 := frozen_of_row _ _ 5 _ _ B2
  have fkr6 := frozen_of_row _ _ 6 _ _ B2
  clear h0 u0 m0 h1 u1 m1 hb B0 B1 B2 k0 k1 hl0 hl1
  cases hok0 : validI s0 xs with
  | false =>
    rw [hok0] at HV0
    have HC := Lib.hid (And.intro (show KK = 1 by rw [HKK.out, hok0, Bool.false_and, if_neg (by decide)]) (And.intro (show GG = 0 by rw [HGG.out, hok0, Bool.false_and, if_neg (by decide)]) (And.intro (show XX = 0 by rw [HXX.out, hok0, Bool.false_and, if_neg (by decide)]) (show YY = 0 by rw [HYY.out, hok0, Bool.false_and, if_neg (by decide)]))))
    go_enter Tryz.func33, Tryz.ntmps33
    go_upto_region 1 with fail
    rw [← hW, ← hK]
    have HKW := Lib.hid hK
    clear hW hK hok0
    go_wp2_with fail
    refine HV0.out.mono ?_
    rintro e w1 ⟨rfl, hb1⟩
    have H1 := Lib.hid (And.intro ((hb1.block _ (lt_of_block HW.out.1)).trans HW.out.1) (And.intro ((hb1.block _ (lt_of_block HW.out.2.1)).trans HW.out.2.1) (And.intro ((hb1.block _ (lt_of_block HW.out.2.2.1)).trans HW.out.2.2.1) (HW.out.2.2.2.trans (hb1.mono HW.out.2.2.2.size)))))
    clear hb1 ka0 ka1 kb0 kb1 kr0 kr1 kr2 kr3 kr4 kr5 kr6 fkr0 fkr1 fkr2 fkr3 fkr4 fkr5 fkr6 HW HU HL HV0
    have R := H1.out.2.2.1
    have kr0 := cell_of_row _ _ 0 _ _ (0, 0) R
    have kr1 := cell_of_row _ _ 1 _ _ (0, 0) R
    have kr2 := cell_of_row _ _ 2 _ _ (0, 0) R
    have kr3 := cell_of_row _ _ 3 _ _ (0, 0) R
    have kr4 := cell_of_row _ _ 4 _ _ (0, 0) R
    have kr5 := cell_of_row _ _ 5 _ _ (0, 0) R
    have kr6 := cell_of_row _ _ 6 _ _ (0, 0) R
    simp only [List.getElem?_toArray, List.getElem?_cons_zero, List.getElem?_cons_succ] at kr0 kr1 kr2 kr3 kr4 kr5 kr6
    have fkr0 := frozen_of_row _ _ 0 _ _ R
    have fkr1 := frozen_of_row _ _ 1 _ _ R
    have fkr2 := frozen_of_row _ _ 2 _ _ R
    have fkr3 := frozen_of_row _ _ 3 _ _ R
    have fkr4 := frozen_of_row _ _ 4 _ _ R
    have fkr5 := frozen_of_row _ _ 5 _ _ R
    have fkr6 := frozen_of_row _ _ 6 _ _ R
    clear R
    go_wp2_with fail
    refine bodyPost_ret (v := .agg #[.bool false, .slice none 0 0, .bool false, .slice none 0 0, .bool false, .slice none 0 0, .int .i64 1]) (results_cell_row Tryz.results33 _ _ (K + 1 + 1) 58 _ (0, 0) _ rfl (com_set (g := K + 1 + 1) H1.out.2.2.1) Tryz.underlying58 rfl (by kernel_rfl)) rfl ?_
    show ComI w _ _ KK GG XX YY
    rw [HC.out.1, HC.out.2.1, HC.out.2.2.1, HC.out.2.2.2]
    exact com_post (g := K + 1 + 1) H1.out.2.2.1 (by rw [← HKW.out]; omega) H1.out.2.2.2 (isI_nilI _) (isI_nilI _) (isI_nilI _)
  | true =>
    rw [hok0] at HV0
    have HO0 := Lib.hid hok0
    clear hok0
    go_enter Tryz.func33, Tryz.ntmps33
    go_upto_region 1 with fail
    rw [← hW, ← hK]
    have HKW := Lib.hid hK
    clear hW hK
    go_wp2_with fail
    refine HV0.out.mono ?_
    rintro e w1 ⟨rfl, hb1⟩
    have hv1 := ref2Valid_any _ s1 ys w1 (HU.out.2.1.below hb1)
    have H1 := Lib.hid (And.intro ((hb1.block _ (lt_of_block HW.out.1)).trans HW.out.1) (And.intro ((hb1.block _ (lt_of_block HW.out.2.1)).trans HW.out.2.1) (And.intro ((hb1.block _ (lt_of_block HW.out.2.2.1)).trans HW.out.2.2.1) (HW.out.2.2.2.trans (hb1.mono HW.out.2.2.2.size)))))
    have HV1 := Lib.hid hv1
    have HU1 := Lib.hid (And.intro (HU.out.1.below hb1) (And.intro (HU.out.2.1.below hb1) HU.out.2.2))
    clear hb1 ka0 ka1 kb0 kb1 kr0 kr1 kr2 kr3 kr4 kr5 kr6 fkr0 fkr1 fkr2 fkr3 fkr4 fkr5 fkr6 HW HV0 HU hv1
    have A := H1.out.1
    have B := H1.out.2.1
    have ka0 := cell_of_row _ _ 0 _ _ (0, 0) A
    have ka1 := cell_of_row _ _ 1 _ _ (0, 0) A
    simp only [List.getElem?_toArray, List.getElem?_cons_zero, List.getElem?_cons_succ] at ka0 ka1
    have kb0 := cell_of_row _ _ 0 _ _ (0, 0) B
    have kb1 := cell_of_row _ _ 1 _ _ (0, 0) B
    simp only [List.getElem?_toArray, List.getElem?_cons_zero, List.getElem?_cons_succ] at kb0 kb1
    clear A B
    go_wp2_with fail
    refine HV1.out.mono ?_
    rintro e w2 ⟨rfl, hb2⟩
    have H2 := Lib.hid (And.intro ((hb2.block _ (lt_of_block H1.out.1)).trans H1.out.1) (And.intro ((hb2.block _ (lt_of_block H1.out.2.1)).trans H1.out.2.1) (And.intro ((hb2.block _ (lt_of_block H1.out.2.2.1)).trans H1.out.2.2.1) (H1.out.2.2.2.trans (hb2.mono H1.out.2.2.2.size)))))
    have HU2 := Lib.hid (And.intro (HU1.out.1.below hb2) (And.intro (HU1.out.2.1.below hb2) HU1.out.2.2))
    clear hb2 ka0 ka1 kb0 kb1 H1 HV1 HU1
    have A := H2.out.1
    have B := H2.out.2.1
    have R := H2.out.2.2.1
    have ka0 := cell_of_row _ _ 0 _ _ (0, 0) A
    have ka1 := cell_of_row _ _ 1 _ _ (0, 0) A
    simp only [List.getElem?_toArray, List.getElem?_cons_zero, List.getElem?_cons_succ] at ka0 ka1
    have kb0 := cell_of_row _ _ 0 _ _ (0, 0) B
    have kb1 := cell_of_row _ _ 1 _ _ (0, 0) B
    simp only [List.getElem?_toArray, List.getElem?_cons_zero, List.getElem?_cons_succ] at kb0 kb1
    have kr0 := cell_of_row _ _ 0 _ _ (0, 0) R
    have kr1 := cell_of_row _ _ 1 _ _ (0, 0) R
    have kr2 := cell_of_row _ _ 2 _ _ (0, 0) R
    have kr3 := cell_of_row _ _ 3 _ _ (0, 0) R
    have kr4 := cell_of_row _ _ 4 _ _ (0, 0) R
    have kr5 := cell_of_row _ _ 5 _ _ (0, 0) R
    have kr6 := cell_of_row _ _ 6 _ _ (0, 0) R
    simp only [List.getElem?_toArray, List.getElem?_cons_zero, List.getElem?_cons_succ] at kr0 kr1 kr2 kr3 kr4 kr5 kr6
    have fkr0 := frozen_of_row _ _ 0 _ _ R
    have fkr1 := frozen_of_row _ _ 1 _ _ R
    have fkr2 := frozen_of_row _ _ 2 _ _ R
    have fkr3 := frozen_of_row _ _ 3 _ _ R
    have fkr4 := frozen_of_row _ _ 4 _ _ R
    have fkr5 := frozen_of_row _ _ 5 _ _ R
    have fkr6 := frozen_of_row _ _ 6 _ _ R
    clear A B R
    cases hok1 : validI s1 ys with
    | false =>
      have HC := Lib.hid (And.intro (show KK = 1 by rw [HKK.out, HO0.out, hok1, Bool.true_and, if_neg (by decide)]) (And.intro (show GG = 0 by rw [HGG.out, HO0.out, hok1, Bool.true_and, if_neg (by decide)]) (And.intro (show XX = 0 by rw [HXX.out, HO0.out, hok1, Bool.true_and, if_neg (by decide)]) (show YY = 0 by rw [HYY.out, HO0.out, hok1, Bool.true_and, if_neg (by decide)]))))
      clear hok1 HU2 HL HO0
      go_wp2_with fail
      refine bodyPost_ret (v := .agg #[.bool false, .slice none 0 0, .bool false, .slice none 0 0, .bool false, .slice none 0 0, .int .i64 1]) (results_cell_row Tryz.results33 _ _ (K + 1 + 1) 58 _ (0, 0) _ rfl (com_set (g := K + 1 + 1) H2.out.2.2.1) Tryz.underlying58 rfl (by kernel_rfl)) rfl ?_
      show ComI w _ _ KK GG XX YY
      rw [HC.out.1, HC.out.2.1, HC.out.2.2.1, HC.out.2.2.2]
      exact com_post (g := K + 1 + 1) H2.out.2.2.1 (by rw [← HKW.out]; omega) H2.out.2.2.2 (isI_nilI _) (isI_nilI _) (isI_nilI _)
    | true =>
      have HGO := Lib.hid (And.intro (show KK = 0 by rw [HKK.out, HO0.out, hok1, Bool.true_and, if_pos rfl]) (And.intro (show GG = cG (sgn s0 (Nl.val xs)) (sgn s1 (Nl.val ys)) by rw [HGG.out, HO0.out, hok1, Bool.true_and, if_pos rfl]) (And.intro (show XX = cX (sgn s0 (Nl.val xs)) (sgn s1 (Nl.val ys)) by rw [HXX.out, HO0.out, hok1, Bool.true_and, if_pos rfl]) (show YY = cY (sgn s0 (Nl.val xs)) (sgn s1 (Nl.val ys)) by rw [HYY.out, HO0.out, hok1, Bool.true_and, if_pos rfl]))))
      have f0 := fit50 HU2.out.2.2.1 HO0.out (by rw [← HL.out.2.2.1]; exact HL.out.1)
      have f1 := fit50 HU2.out.2.2.2 hok1 (by rw [← HL.out.2.2.2]; exact HL.out.2.1)
      have i0 := (isI_of_ok (at_of HU2.out.1) HU2.out.2.2.1 HO0.out).1
      have i1 := (isI_of_ok (at_of HU2.out.2.1) HU2.out.2.2.2 hok1).1
      obtain ⟨na, hna⟩ : ∃ n, n = sgn s0 (Nl.val xs) := ⟨_, rfl⟩
      obtain ⟨nb, hnb⟩ : ∃ n, n = sgn s1 (Nl.val ys) := ⟨_, rfl⟩
      rw [← hna] at f0 i0 HGO
      rw [← hnb] at f1 i1 HGO
      have sb := isI_sign i1
      have HI := Lib.hid (And.intro i0 (And.intro i1 (And.intro f0 f1)))
      clear hna hnb hok1 f0 f1 i0 i1 HU2 HL HO0 HKK HGG HXX HYY
      by_cases hz : nb = 0
      · have hl : l1 = 0 := by rw [sb.2, hz]; show (Nl.limbs 0).length = 0; rw [Nl.limbs_zero]; rfl
        have HC := Lib.hid (And.intro HGO.out.1 (And.intro (show GG = ((na.natAbs : Nat) : Int) from HGO.out.2.1.trans (if_pos hz)) (And.intro (show XX = sgnI na from HGO.out.2.2.1.trans (if_pos hz)) (show YY = 0 from HGO.out.2.2.2.trans (if_pos hz)))))
        subst hl
        clear sb hz HGO
        go_upto_region 4 with fail
        clear ka0 ka1 kb0 kb1 kr0 kr1 kr2 kr3 kr4 kr5 kr6 fkr0 fkr1 fkr2 fkr3 fkr4 fkr5 fkr6
        have z0 : ∀ w', Below w2.heap.size w2 w' → w'.cell? ⟨K, 0, none⟩ = some (.bool s0) := fun w' h => by have := cell_of_row _ _ 0 _ _ (0, 0) ((h.block _ (lt_of_block H2.out.1)).trans H2.out.1); simpa using this
        have z1 : ∀ w', Below w2.heap.size w2 w' → w'.cell? ⟨K, 1, none⟩ = some (.slice p0 l0 c0) := fun w' h => by have := cell_of_row _ _ 1 _ _ (0, 0) ((h.block _ (lt_of_block H2.out.1)).trans H2.out.1); simpa using this
        have hrr : Below w2.heap.size w2 w2 := Below.refl _ _
        have qz0 := z0 w2 hrr
        have qz1 := z1 w2 hrr
        have qd0 := z0 w2.drew (below_drew0 w2)
        have qd1 := z1 w2.drew (below_drew0 w2)
        have nK : ¬ K = K + 1 + 1 := by omega
        have nK' : ¬ K + 1 + 1 = K := by omega
        have HT := Lib.hid (fun (w' : World) (h : Below w2.heap.size w2 w') => ref2OfL (.slice p0 l0 c0) na.natAbs w' (num_at (HI.out.1.below h)) (Nat.le_trans HI.out.2.2.1 (by decide)))
        have HS := Lib.hid (fun (w' : World) (h : Below w2.heap.size w2 w') => ref2Sgn_any (.agg #[.bool s0, .slice p0 l0 c0]) na w' (HI.out.1.below h) (Nat.le_trans HI.out.2.2.1 (by decide)))
        have HF := Lib.hid (fun (w' : World) => ref2FromInt_any (sgnI na) w' (sgnI_small na))
        obtain ⟨sg, hsg⟩ : ∃ n, n = sgnI na := ⟨_, rfl⟩
        rw [← hsg] at HS HF HC
        clear hsg
        go_region_held3 (fun w' => w'.cell? ⟨K, 0, none⟩ = some (.bool s0) ∧ w'.cell? ⟨K, 1, none⟩ = some (.slice p0 l0 c0))
          (first
            | (refine ⟨?_, ?_⟩ <;> with_reducible assumption)
            | with_reducible exact ⟨com_off nK fz0, com_off nK fz1⟩
            | fail)
          (first
            | (go_at_call 66; refine (HT.out _ (by ((try (repeat (first | refine of_al ?_ _ | refine of_dr ?_ | refine of_st ?_ (by first | exact Nat.le_refl _ | exact Nat.le_succ _ | assumption | (dsimp only; omega) | (exact Nat.le_trans (by assumption) (Nat.le_succ _)) | (simp; omega)) _))); (first | assumption | exact Below.refl _ _)))).mono ?_; rintro e w4 ⟨⟨s4, p4, l4, c4, rfl, h4⟩, hb4⟩; have bel4 := of_on (D := w2) (by ((try (repeat (first | refine of_al ?_ _ | refine of_dr ?_ | refine of_st ?_ (by first | exact Nat.le_refl _ | exact Nat.le_succ _ | assumption | (dsimp only; omega) | (exact Nat.le_trans (by assumption) (Nat.le_succ _)) | (simp; omega)) _))); (first | assumption | exact Below.refl _ _))) hb4; have dz0 := z0 _ bel4; have dz1 := z1 _ bel4; have hh4 := Lib.hid h4; clear hb4 h4)
            | (go_at_call 83; refine (HS.out _ (by ((try (repeat (first | refine of_al ?_ _ | refine of_dr ?_ | refine of_st ?_ (by first | exact Nat.le_refl _ | exact Nat.le_succ _ | assumption | (dsimp only; omega) | (exact Nat.le_trans (by assumption) (Nat.le_succ _)) | (simp; omega)) _))); (first | assumption | exact Below.refl _ _)))).mono ?_; rintro e w5 ⟨rfl, hb5⟩; have hh5 := Lib.hid (IsI.below hh4.out (by first | exact hb5 | exact (below_drewN w4 1 _).trans hb5)); have bel5 := of_on (D := w2) (by ((try (repeat (first | refine of_al ?_ _ | refine of_dr ?_ | refine of_st ?_ (by first | exact Nat.le_refl _ | exact Nat.le_succ _ | assumption | (dsimp only; omega) | (exact Nat.le_trans (by assumption) (Nat.le_succ _)) | (simp; omega)) _))); (first | assumption | exact Below.refl _ _))) hb5; have ez0 := z0 _ bel5; have ez1 := z1 _ bel5; clear hb5)
            | (go_at_call 45; refine (HF.out _).mono ?_; rintro e w6 ⟨⟨s6, p6, l6, c6, rfl, h6⟩, hb6⟩; have hh6 := Lib.hid (IsI.below hh5.out (by exact hb6)); have bel6 := of_on (D := w2) (by ((try (repeat (first | refine of_al ?_ _ | refine of_dr ?_ | refine of_st ?_ (by first | exact Nat.le_refl _ | exact Nat.le_succ _ | assumption | (dsimp only; omega) | (exact Nat.le_trans (by assumption) (Nat.le_succ _)) | (simp; omega)) _))); (first | assumption | exact Below.refl _ _))) hb6; have fz0 := z0 _ bel6; have fz1 := z1 _ bel6; have R := (bel6.block _ (lt_of_block H2.out.2.2.1)).trans H2.out.2.2.1; have kr0 := cell_of_row _ _ 0 _ _ (0, 0) R; have kr1 := cell_of_row _ _ 1 _ _ (0, 0) R; have kr2 := cell_of_row _ _ 2 _ _ (0, 0) R; have kr3 := cell_of_row _ _ 3 _ _ (0, 0) R; have kr4 := cell_of_row _ _ 4 _ _ (0, 0) R; have kr5 := cell_of_row _ _ 5 _ _ (0, 0) R; have kr6 := cell_of_row _ _ 6 _ _ (0, 0) R; simp only [List.getElem?_toArray, List.getElem?_cons_zero, List.getElem?_cons_succ] at kr0 kr1 kr2 kr3 kr4 kr5 kr6; have fkr0 := frozen_of_row _ _ 0 _ _ R; have fkr1 := frozen_of_row _ _ 1 _ _ R; have fkr2 := frozen_of_row _ _ 2 _ _ R; have fkr3 := frozen_of_row _ _ 3 _ _ R; have fkr4 := frozen_of_row _ _ 4 _ _ R; have fkr5 := frozen_of_row _ _ 5 _ _ R; have fkr6 := frozen_of_row _ _ 6 _ _ R; have HZ := Lib.hid (And.intro R (And.intro h6 bel6)); have hbl : ∀ w, (Instr.build 58 #[(0, .agg #[.bool s4, .slice p4 l4 c4]), (1, .agg #[.bool s6, .slice p6 l6 c6])]).run Tryz.prog w = .ok (.agg #[.bool s4, .slice p4 l4 c4, .bool s6, .slice p6 l6 c6, .bool false, .slice none 0 0, .int .i64 0]) w := (fun _ => by kernel_rfl); clear hb6 h6 R))
        go_wp2_with fail
        refine bodyPost_ret (v := .agg #[.bool s4, .slice p4 l4 c4, .bool s6, .slice p6 l6 c6, .bool false, .slice none 0 0, .int .i64 0]) (results_cell_row Tryz.results33 _ _ (K + 1 + 1) 58 _ (0, 0) _ rfl (com_set (g := K + 1 + 1) HZ.out.1) Tryz.underlying58 rfl (by kernel_rfl)) rfl ?_
        show ComI w _ _ KK GG XX YY
        rw [HC.out.1, HC.out.2.1, HC.out.2.2.1, HC.out.2.2.2]
        exact com_post (g := K + 1 + 1) HZ.out.1 (by rw [← HKW.out]; omega) (H2.out.2.2.2.trans (HZ.out.2.2.mono H2.out.2.2.2.size)) hh6.out HZ.out.2.1 (isI_nilI _)
      · have e1 : ((l1 : Int) == 0) = false := by rw [beq_eq_false_iff_ne]; have := Nl.len_pos (n := nb.natAbs) (by omega); rw [← sb.2] at this; omega
        have HP := Lib.hid hz
        have HG := Lib.hid (refGcd_any (.slice p0 l0 c0) (.slice p1 l1 c1) na.natAbs nb.natAbs w2 (num_at HI.out.1) (num_at HI.out.2.1) (Nat.le_trans HI.out.2.2.1 (by decide)) (Nat.le_trans HI.out.2.2.2 (by decide)))
        clear sb hz
        go_wp2_with fail
        refine HG.out.mono ?_
        rintro e w3 ⟨⟨v3, rfl, hv3⟩, hb3⟩
        obtain ⟨p3, c3, rfl, -⟩ := AtP.form hv3
        have hgg := cG_gcd (a := na) HP.out
        have HO := Lib.hid (ref2OfL (.slice p3 (Nl.limbs (Nat.gcd na.natAbs nb.natAbs)).length c3) (Nat.gcd na.natAbs nb.natAbs) w3 hv3 (Nat.le_trans (Nl.limbs_mono (Nat.gcd_le_right _ (by have := HP.out; omega))) (Nat.le_trans HI.out.2.2.2 (by decide))))
        rw [← hgg] at HO
        obtain ⟨l3, hl3⟩ : ∃ l, l = (Nl.limbs (Nat.gcd na.natAbs nb.natAbs)).length := ⟨_, rfl⟩
        rw [← hl3] at HO ⊢
        have H3 := Lib.hid (And.intro ((hb3.block _ (lt_of_block H2.out.1)).trans H2.out.1) (And.intro ((hb3.block _ (lt_of_block H2.out.2.1)).trans H2.out.2.1) (And.intro ((hb3.block _ (lt_of_block H2.out.2.2.1)).trans H2.out.2.2.1) (H2.out.2.2.2.trans (hb3.mono H2.out.2.2.2.size)))))
        have HI3 := Lib.hid (And.intro (HI.out.1.below hb3) (And.intro (HI.out.2.1.below hb3) HI.out.2.2))
        clear hv3 hb3 hgg hl3 HG HI H2 ka0 ka1 kb0 kb1 kr0 kr1 kr2 kr3 kr4 kr5 kr6 fkr0 fkr1 fkr2 fkr3 fkr4 fkr5 fkr6 e1
        go_wp2_with fail
        refine HO.out.mono ?_
        rintro e w4 ⟨⟨sg, pg, lg, cg, rfl, h4⟩, hb4⟩
        obtain ⟨Z, hZ⟩ : ∃ Z, Z = w4.alloc (.cells #[.bool sg, .slice pg lg cg] 25) := ⟨_, rfl⟩
        have hz : Below w4.heap.size w4 Z := by rw [hZ]; exact below_one _ _
        have RG : Z.heap[w4.heap.size]? = some (.cells #[.bool sg, .slice pg lg cg] 25 (0, 0)) := by rw [hZ]; exact heap_alloc_new _ _
        have hs := hb4.trans (hz.mono hb4.size)
        have RA := (hs.block _ (lt_of_block H3.out.1)).trans H3.out.1
        have RB := (hs.block _ (lt_of_block H3.out.2.1)).trans H3.out.2.1
        have RR := (hs.block _ (lt_of_block H3.out.2.2.1)).trans H3.out.2.2.1
        have hK4 : K + 1 + 1 < w4.heap.size := Nat.lt_of_lt_of_le (lt_of_block H3.out.2.2.1) hb4.size
        obtain ⟨g, hg⟩ : ∃ g, g = w4.heap.size := ⟨_, rfl⟩
        rw [← hg] at RG hK4
        have H4 := Lib.hid (And.intro RR (And.intro (H3.out.2.2.2.trans (hs.mono H3.out.2.2.2.size)) hK4))
        have HI4 := Lib.hid (And.intro (HI3.out.1.below hs) (And.intro (HI3.out.2.1.below hs) (h4.below hz)))
        have HLL := Lib.hid HI3.out.2.2
        go_upto_region 6 with fail
        rw [← hZ, ← hg]
        clear hZ hg
        have za0 : ∀ w', Below Z.heap.size Z w' → w'.cell? ⟨K, 0, none⟩ = some (.bool s0) := fun w' h => by have := cell_of_row _ _ 0 _ _ (0, 0) ((h.block _ (lt_of_block RA)).trans RA); simpa using this
        have za1 : ∀ w', Below Z.heap.size Z w' → w'.cell? ⟨K, 1, none⟩ = some (.slice p0 l0 c0) := fun w' h => by have := cell_of_row _ _ 1 _ _ (0, 0) ((h.block _ (lt_of_block RA)).trans RA); simpa using this
        have zb0 : ∀ w', Below Z.heap.size Z w' → w'.cell? ⟨K + 1, 0, none⟩ = some (.bool s1) := fun w' h => by have := cell_of_row _ _ 0 _ _ (0, 0) ((h.block _ (lt_of_block RB)).trans RB); simpa using this
        have zb1 : ∀ w', Below Z.heap.size Z w' → w'.cell? ⟨K + 1, 1, none⟩ = some (.slice p1 l1 c1) := fun w' h => by have := cell_of_row _ _ 1 _ _ (0, 0) ((h.block _ (lt_of_block RB)).trans RB); simpa using this
        have zg0 : ∀ w', Below Z.heap.size Z w' → w'.cell? ⟨g, 0, none⟩ = some (.bool sg) := fun w' h => by have := cell_of_row _ _ 0 _ _ (0, 0) ((h.block _ (lt_of_block RG)).trans RG); simpa using this
        have zg1 : ∀ w', Below Z.heap.size Z w' → w'.cell? ⟨g, 1, none⟩ = some (.slice pg lg cg) := fun w' h => by have := cell_of_row _ _ 1 _ _ (0, 0) ((h.block _ (lt_of_block RG)).trans RG); simpa using this
        have hgZ := lt_of_block RG
        have HGZ := Lib.hid hgZ
        clear hs hz RA RB RG RR hK4 H3 HI3 h4 hb4 HO hgZ
        obtain ⟨g0, ge1, d1, d2, x01, gz⟩ := g_all na nb
        have hgn : cG na nb ≠ 0 := fun h => HP.out (gz h).2
        obtain ⟨m0, iX, qY⟩ := ref_factors (a := na) HP.out
        obtain ⟨x0, x1⟩ := x01 HP.out
        have lG : (Nl.limbs (cG na nb).natAbs).length ≤ 50 := Nat.le_trans (Nl.limbs_mono (by have h := cG_gcd (a := na) HP.out; have h2 : Nat.gcd na.natAbs nb.natAbs ≤ nb.natAbs := Nat.gcd_le_right _ (by have := HP.out; omega); omega)) HLL.out.2
        have lA : (Nl.limbs (divQ 1 na (cG na nb)).natAbs).length ≤ 50 := Nat.le_trans (Nl.limbs_mono (len_exact hgn d1)) HLL.out.1
        have lM : (Nl.limbs (divQ 1 nb (cG na nb)).natAbs).length ≤ 50 := Nat.le_trans (Nl.limbs_mono (len_exact hgn d2)) HLL.out.2
        have lX : (Nl.limbs (cX na nb).natAbs).length ≤ 50 := Nat.le_trans (Nl.limbs_mono (by have h1 : cX na nb * 1 ≤ cX na nb * cG na nb := Int.mul_le_mul_of_nonneg_left (by omega) x0; omega)) HLL.out.2
        have HLX := Lib.hid (And.intro lX lG)
        have HQ1 := Lib.hid (fun (w' : World) (h : Below Z.heap.size Z w') => rquotL (.agg #[.bool s0, .slice p0 l0 c0]) (.agg #[.bool sg, .slice pg lg cg]) na (cG na nb) 1 1 rfl w' (HI4.out.1.below h) (HI4.out.2.2.below h) (Nat.le_trans HLL.out.1 (by decide)) (Nat.le_trans lG (by decide)) hgn (by decide) (by decide))
        have HQ2 := Lib.hid (fun (w' : World) (h : Below Z.heap.size Z w') => rquotL (.agg #[.bool s1, .slice p1 l1 c1]) (.agg #[.bool sg, .slice pg lg cg]) nb (cG na nb) 1 1 rfl w' (HI4.out.2.1.below h) (HI4.out.2.2.below h) (Nat.le_trans HLL.out.2 (by decide)) (Nat.le_trans lG (by decide)) hgn (by decide) (by decide))
        have HQY := Lib.hid qY
        clear g0 ge1 d1 d2 x01 gz x0 x1 lG lX qY hgn
        obtain ⟨G, hG⟩ : ∃ n, n = cG na nb := ⟨_, rfl⟩
        obtain ⟨X, hX⟩ : ∃ n, n = cX na nb := ⟨_, rfl⟩
        obtain ⟨Y, hY⟩ : ∃ n, n = cY na nb := ⟨_, rfl⟩
        rw [← hG] at HQ1 HQ2 HQY HLX HI4 HGO iX m0 lA lM
        rw [← hX] at HQY HLX HGO iX
        rw [← hY] at HQY HGO
        clear hG hX hY
        obtain ⟨A, hA⟩ : ∃ n, n = divQ 1 na G := ⟨_, rfl⟩
        obtain ⟨M, hM⟩ : ∃ n, n = divQ 1 nb G := ⟨_, rfl⟩
        rw [← hA] at HQ1 iX lA
        rw [← hM] at HQ2 iX m0 lM
        clear hA hM
        have HOF := Lib.hid (fun (v : Value) (w' : World) (h : At w' v (Nl.limbs M.natAbs)) => ref2OfL v M.natAbs w' h (Nat.le_trans lM (by decide)))
        have HIN := Lib.hid (fun (va vm : Value) (w' : World) (ha : IsI w' va A) (hm : IsI w' vm ((M.natAbs : Nat) : Int)) => iX ▸ inverted_any va vm A ((M.natAbs : Nat) : Int) w' ha hm lA (by rw [Int.natAbs_natCast]; exact lM) m0)
        clear iX m0 lA lM
        have hrr : Below Z.heap.size Z Z := Below.refl _ _
        go_cut [6] from 33 (fun v6 wx => ∃ gx s p l c, v6 = .pointer (some ⟨gx, 0, none⟩) ∧ Z.heap.size ≤ gx ∧ Kept wx gx s p l c X ∧ Below Z.heap.size Z wx)
        case first =>
          go_region_held3 (fun w' => Below Z.heap.size Z w')
            (first
              | assumption
              | ((try (repeat (first | refine of_al ?_ _ | refine of_dr ?_ | refine of_st ?_ (by first | exact Nat.le_refl _ | exact Nat.le_succ _ | assumption | (dsimp only; omega) | (exact Nat.le_trans (by assumption) (Nat.le_succ _)) | (simp; omega)) _))); (first | assumption | exact Below.refl _ _)))
            (first
              | (go_at_call 71; have hx := hhq; clear hx; refine (HQ2.out _ (by ((try (repeat (first | refine of_al ?_ _ | refine of_dr ?_ | refine of_st ?_ (by first | exact Nat.le_refl _ | exact Nat.le_succ _ | assumption | (dsimp only; omega) | (exact Nat.le_trans (by assumption) (Nat.le_succ _)) | (simp; omega)) _))); (first | assumption | exact Below.refl _ _)))).mono ?_; rintro e wp ⟨⟨sp, pp, lp, cp, sr', pr', lr', cr', rfl, hp, -⟩, hbp⟩; have hfj : ∀ w, (Instr.field 95 (.agg #[.bool sp, .slice pp lp cp, .bool sr', .slice pr' lr' cr', .int .i64 0]) 0).run Tryz.prog w = .ok (.agg #[.bool sp, .slice pp lp cp]) w := (fun _ => by kernel_rfl); have hfk : ∀ w, (Instr.field 25 (.agg #[.bool sp, .slice pp lp cp]) 1).run Tryz.prog w = .ok (.slice pp lp cp) w := (fun _ => by kernel_rfl); (try (have rB : wp.heap[Z.heap.size]? = some (.cells #[.bool false, .slice none 0 0] 25 (0, 0)) := of_via hbp (by first | exact rA | exact al_keep _ _ (lt_of_block rA) rA))); (try (have rC : wp.heap[wq.heap.size]? = some (.cells #[.bool false, .slice none 0 0] 25 (0, 0)) := of_via hbp (by exact heap_alloc_new _ _))); have hhp := Lib.hid hp; have hhq2 := Lib.hid (IsI.below hhq.out (of_on (D := wq) (by ((try (repeat (first | refine of_al ?_ _ | refine of_dr ?_))); first | assumption | exact Below.refl _ _)) hbp)); have belp := of_on (D := Z) (by ((try (repeat (first | refine of_al ?_ _ | refine of_dr ?_ | refine of_st ?_ (by first | exact Nat.le_refl _ | exact Nat.le_succ _ | assumption | (dsimp only; omega) | (exact Nat.le_trans (by assumption) (Nat.le_succ _)) | (simp; omega)) _))); (first | assumption | exact Below.refl _ _))) hbp; have ksp := belp.size; clear hp hbp)
              | (go_at_call 71; refine (HQ1.out _ (by ((try (repeat (first | refine of_al ?_ _ | refine of_dr ?_ | refine of_st ?_ (by first | exact Nat.le_refl _ | exact Nat.le_succ _ | assumption | (dsimp only; omega) | (exact Nat.le_trans (by assumption) (Nat.le_succ _)) | (simp; omega)) _))); (first | assumption | exact Below.refl _ _)))).mono ?_; rintro e wq ⟨⟨sq, pq, lq, cq, sr, pr, lr, cr, rfl, hq, -⟩, hbq⟩; have hfi : ∀ w, (Instr.field 95 (.agg #[.bool sq, .slice pq lq cq, .bool sr, .slice pr lr cr, .int .i64 0]) 0).run Tryz.prog w = .ok (.agg #[.bool sq, .slice pq lq cq]) w := (fun _ => by kernel_rfl); (try (have rA : wq.heap[Z.heap.size]? = some (.cells #[.bool false, .slice none 0 0] 25 (0, 0)) := of_via hbq (by exact heap_alloc_new _ _))); have belq := of_on (D := Z) (by ((try (repeat (first | refine of_al ?_ _ | refine of_dr ?_ | refine of_st ?_ (by first | exact Nat.le_refl _ | exact Nat.le_succ _ | assumption | (dsimp only; omega) | (exact Nat.le_trans (by assumption) (Nat.le_succ _)) | (simp; omega)) _))); (first | assumption | exact Below.refl _ _))) hbq; have ksq := belq.size; have hhq := Lib.hid hq; clear hq hbq)
              | (go_at_call 85; refine (HIN.out _ _ _ (IsI.below hhq3.out (by ((try (repeat (first | refine of_al ?_ _ | refine of_dr ?_))); first | assumption | exact Below.refl _ _))) (IsI.below hho.out (by ((try (repeat (first | refine of_al ?_ _ | refine of_dr ?_))); first | assumption | exact Below.refl _ _)))).mono ?_; rintro e wi ⟨⟨si, pi, li, ci, rfl, hi⟩, hbi⟩; (try (have rG : wi.heap[Z.heap.size]? = some (.cells #[.bool false, .slice none 0 0] 25 (0, 0)) := of_via hbi (by first | exact rD | exact al_keep _ _ (lt_of_block rD) rD))); (try (have rH : wi.heap[wq.heap.size]? = some (.cells #[.bool false, .slice none 0 0] 25 (0, 0)) := of_via hbi (by first | exact rE | exact al_keep _ _ (lt_of_block rE) rE))); (try (have rI : wi.heap[wp.heap.size]? = some (.cells #[.bool false, .slice none 0 0] 25 (0, 0)) := of_via hbi (by first | exact rF | exact al_keep _ _ (lt_of_block rF) rF))); (try (have rJ : wi.heap[wo.heap.size]? = some (.cells #[.bool false, .slice none 0 0] 25 (0, 0)) := of_via hbi (by exact heap_alloc_new _ _))); (try (have fs0 := frozen_of_row _ _ 0 _ _ rG; have fs1 := frozen_of_row _ _ 1 _ _ rG; have gs0 := cell_of_row _ _ 0 _ _ (0, 0) rG; have gs1 := cell_of_row _ _ 1 _ _ (0, 0) rG; simp only [List.getElem?_toArray, List.getElem?_cons_zero, List.getElem?_cons_succ] at gs0 gs1)); (try (have fs0 := frozen_of_row _ _ 0 _ _ rH; have fs1 := frozen_of_row _ _ 1 _ _ rH; have gs0 := cell_of_row _ _ 0 _ _ (0, 0) rH; have gs1 := cell_of_row _ _ 1 _ _ (0, 0) rH; simp only [List.getElem?_toArray, List.getElem?_cons_zero, List.getElem?_cons_succ] at gs0 gs1)); (try (have fs0 := frozen_of_row _ _ 0 _ _ rI; have fs1 := frozen_of_row _ _ 1 _ _ rI; have gs0 := cell_of_row _ _ 0 _ _ (0, 0) rI; have gs1 := cell_of_row _ _ 1 _ _ (0, 0) rI; simp only [List.getElem?_toArray, List.getElem?_cons_zero, List.getElem?_cons_succ] at gs0 gs1)); (try (have fs0 := frozen_of_row _ _ 0 _ _ rJ; have fs1 := frozen_of_row _ _ 1 _ _ rJ; have gs0 := cell_of_row _ _ 0 _ _ (0, 0) rJ; have gs1 := cell_of_row _ _ 1 _ _ (0, 0) rJ; simp only [List.getElem?_toArray, List.getElem?_cons_zero, List.getElem?_cons_succ] at gs0 gs1)); have beli := of_on (D := Z) (by ((try (repeat (first | refine of_al ?_ _ | refine of_dr ?_ | refine of_st ?_ (by first | exact Nat.le_refl _ | exact Nat.le_succ _ | assumption | (dsimp only; omega) | (exact Nat.le_trans (by assumption) (Nat.le_succ _)) | (simp; omega)) _))); (first | assumption | exact Below.refl _ _))) hbi; have ksi := beli.size; clear hbi)
              | (go_at_call 66; refine (HOF.out _ _ (at_num_on hhp.out (by ((try (repeat (first | refine of_al ?_ _ | refine of_dr ?_))); first | assumption | exact Below.refl _ _)))).mono ?_; rintro e wo ⟨⟨so, po, lo, co, rfl, ho⟩, hbo⟩; have hho := Lib.hid ho; have hhq3 := Lib.hid (IsI.below hhq2.out (of_on (D := wp) (by ((try (repeat (first | refine of_al ?_ _ | refine of_dr ?_))); first | assumption | exact Below.refl _ _)) hbo)); have belo := of_on (D := Z) (by ((try (repeat (first | refine of_al ?_ _ | refine of_dr ?_ | refine of_st ?_ (by first | exact Nat.le_refl _ | exact Nat.le_succ _ | assumption | (dsimp only; omega) | (exact Nat.le_trans (by assumption) (Nat.le_succ _)) | (simp; omega)) _))); (first | assumption | exact Below.refl _ _))) hbo; have kso := belo.size; (try (have rD : wo.heap[Z.heap.size]? = some (.cells #[.bool false, .slice none 0 0] 25 (0, 0)) := of_via hbo (by first | exact rB | exact al_keep _ _ (lt_of_block rB) rB))); (try (have rE : wo.heap[wq.heap.size]? = some (.cells #[.bool false, .slice none 0 0] 25 (0, 0)) := of_via hbo (by first | exact rC | exact al_keep _ _ (lt_of_block rC) rC))); (try (have rF : wo.heap[wp.heap.size]? = some (.cells #[.bool false, .slice none 0 0] 25 (0, 0)) := of_via hbo (by exact heap_alloc_new _ _))); clear ho hbo))
          all_goals (go_wp2_with fail; go_meet; case rel => refine ⟨_, _, _, _, _, rfl, (by first | exact Nat.le_refl _ | exact Below.size (by assumption)), (by first | exact kept_put hi (by assumption) | exact ⟨heap_alloc_new _ _, hi.below (below_one _ _)⟩), (by ((try (repeat (first | refine of_al ?_ _ | refine of_dr ?_ | refine of_st ?_ (by first | exact Nat.le_refl _ | exact Nat.le_succ _ | assumption | (dsimp only; omega) | (exact Nat.le_trans (by assumption) (Nat.le_succ _)) | (simp; omega)) _))); (first | assumption | exact Below.refl _ _)))⟩)
        case rest =>
          obtain ⟨gx, sx, px, lx, cx, rfl, hgx, kx, hs⟩ := hcut
          have hgx2 : g < gx := Nat.lt_of_lt_of_le HGZ.out hgx
          have RR := (hs.block _ (lt_of_block H4.out.1)).trans H4.out.1
          have H5 := Lib.hid (And.intro RR (And.intro (H4.out.2.1.trans (hs.mono H4.out.2.1.size)) (And.intro H4.out.2.2 hgx2)))
          have ya0 := za0 wc hs
          have ya1 := za1 wc hs
          have yb0 := zb0 wc hs
          have yb1 := zb1 wc hs
          have yg0 := zg0 wc hs
          have yg1 := zg1 wc hs
          have yx0 := kx.c0
          have yx1 := kx.c1
          have HI5 := Lib.hid (And.intro (HI4.out.1.below hs) (And.intro (HI4.out.2.1.below hs) (And.intro (HI4.out.2.2.below hs) kx)))
          have z_a0 : ∀ w', Below wc.heap.size wc w' → w'.cell? ⟨K, 0, none⟩ = some (.bool s0) := fun w' h => za0 w' (of_on hs h)
          have z_a1 : ∀ w', Below wc.heap.size wc w' → w'.cell? ⟨K, 1, none⟩ = some (.slice p0 l0 c0) := fun w' h => za1 w' (of_on hs h)
          have z_b0 : ∀ w', Below wc.heap.size wc w' → w'.cell? ⟨K + 1, 0, none⟩ = some (.bool s1) := fun w' h => zb0 w' (of_on hs h)
          have z_b1 : ∀ w', Below wc.heap.size wc w' → w'.cell? ⟨K + 1, 1, none⟩ = some (.slice p1 l1 c1) := fun w' h => zb1 w' (of_on hs h)
          have z_g0 : ∀ w', Below wc.heap.size wc w' → w'.cell? ⟨g, 0, none⟩ = some (.bool sg) := fun w' h => zg0 w' (of_on hs h)
          have z_g1 : ∀ w', Below wc.heap.size wc w' → w'.cell? ⟨g, 1, none⟩ = some (.slice pg lg cg) := fun w' h => zg1 w' (of_on hs h)
          have z_x0 : ∀ w', Below wc.heap.size wc w' → w'.cell? ⟨gx, 0, none⟩ = some (.bool sx) := fun w' h => (HI5.out.2.2.2.on h).c0
          have z_x1 : ∀ w', Below wc.heap.size wc w' → w'.cell? ⟨gx, 1, none⟩ = some (.slice px lx cx) := fun w' h => (HI5.out.2.2.2.on h).c1
          have n1 : ¬ K = K + 1 + 1 := by omega
          have n2 : ¬ K + 1 + 1 = K := by omega
          have n3 : ¬ K + 1 = K + 1 + 1 := by omega
          have n4 : ¬ K + 1 + 1 = K + 1 := by omega
          have n5 : ¬ g = K + 1 + 1 := by have := H4.out.2.2; omega
          have n6 : ¬ K + 1 + 1 = g := by have := H4.out.2.2; omega
          have n7 : ¬ gx = K + 1 + 1 := by have := H4.out.2.2; omega
          have n8 : ¬ K + 1 + 1 = gx := by have := H4.out.2.2; omega
          have HTT := Lib.hid (fun (w' : World) (h : Below wc.heap.size wc w') => rtimesL (.agg #[.bool s0, .slice p0 l0 c0]) (.agg #[.bool sx, .slice px lx cx]) na X w' (HI5.out.1.below h) (HI5.out.2.2.2.num.below h) (Nat.le_trans HLL.out.1 (by decide)) (Nat.le_trans HLX.out.1 (by decide)))
          have lP : (Nl.limbs (na * X).natAbs).length ≤ 100 := len_mul2 HLL.out.1 HLX.out.1
          have lD : (Nl.limbs (G - na * X).natAbs).length ≤ 101 := Nat.le_trans (len_dif HLX.out.2 lP) (by decide)
          have HMM := Lib.hid (fun (v : Value) (w' : World) (h : Below wc.heap.size wc w') (hv : IsI w' v (na * X)) => rminusL (.agg #[.bool sg, .slice pg lg cg]) v G (na * X) w' (HI5.out.2.2.1.below h) hv (Nat.le_trans HLX.out.2 (by decide)) (Nat.le_trans lP (by decide)))
          have HQQ := Lib.hid (fun (v : Value) (w' : World) (h : Below wc.heap.size wc w') (hv : IsI w' v (G - na * X)) => HQY.out ▸ rquotL v (.agg #[.bool s1, .slice p1 l1 c1]) (G - na * X) nb 1 1 rfl w' hv (HI5.out.2.1.below h) (Nat.le_trans lD (by decide)) (Nat.le_trans HLL.out.2 (by decide)) HP.out (by decide) (by decide))
          obtain ⟨P, hP⟩ : ∃ n, n = na * X := ⟨_, rfl⟩
          rw [← hP] at HTT HMM HQQ
          obtain ⟨D, hD⟩ : ∃ n, n = G - P := ⟨_, rfl⟩
          rw [← hD] at HMM HQQ
          clear za0 za1 zb0 zb1 zg0 zg1 hgx hgx2 hs kx RR hrr HQ1 HQ2 HOF HIN lP lD hP hD HQY H4 HI4
          have hrr : Below wc.heap.size wc wc := Below.refl _ _
          have hdr := below_drew0 wc
          have yda0 := z_a0 wc.drew hdr
          have yda1 := z_a1 wc.drew hdr
          have ydb0 := z_b0 wc.drew hdr
          have ydb1 := z_b1 wc.drew hdr
          have ydg0 := z_g0 wc.drew hdr
          have ydg1 := z_g1 wc.drew hdr
          have ydx0 := z_x0 wc.drew hdr
          have ydx1 := z_x1 wc.drew hdr
          go_upto_region 7 with fail
          go_region_held3 (fun w' => w'.cell? ⟨K, 0, none⟩ = some (.bool s0) ∧ w'.cell? ⟨K, 1, none⟩ = some (.slice p0 l0 c0) ∧ w'.cell? ⟨K + 1, 0, none⟩ = some (.bool s1) ∧ w'.cell? ⟨K + 1, 1, none⟩ = some (.slice p1 l1 c1) ∧ w'.cell? ⟨g, 0, none⟩ = some (.bool sg) ∧ w'.cell? ⟨g, 1, none⟩ = some (.slice pg lg cg) ∧ w'.cell? ⟨gx, 0, none⟩ = some (.bool sx) ∧ w'.cell? ⟨gx, 1, none⟩ = some (.slice px lx cx))
            (first
              | (refine ⟨?_, ?_, ?_, ?_, ?_, ?_, ?_, ?_⟩ <;> with_reducible assumption)
              | with_reducible exact ⟨com_off n1 dqa0, com_off n1 dqa1, com_off n3 dqb0, com_off n3 dqb1, com_off n5 dqg0, com_off n5 dqg1, com_off n7 dqx0, com_off n7 dqx1⟩
              | fail)
            (first
              | (go_at_call 86; refine (HTT.out _ (by ((try (repeat (first | refine of_al ?_ _ | refine of_dr ?_ | refine of_st ?_ (by first | exact Nat.le_refl _ | exact Nat.le_succ _ | assumption | (dsimp only; omega) | (exact Nat.le_trans (by assumption) (Nat.le_succ _)) | (simp; omega)) _))); (first | assumption | exact Below.refl _ _)))).mono ?_; rintro e wt ⟨⟨st, pt, lt, ct, rfl, ht⟩, hbt⟩; have hht := Lib.hid ht; have belt := of_on (D := wc) (by ((try (repeat (first | refine of_al ?_ _ | refine of_dr ?_ | refine of_st ?_ (by first | exact Nat.le_refl _ | exact Nat.le_succ _ | assumption | (dsimp only; omega) | (exact Nat.le_trans (by assumption) (Nat.le_succ _)) | (simp; omega)) _))); (first | assumption | exact Below.refl _ _))) hbt; have dta0 := z_a0 _ belt; have dta1 := z_a1 _ belt; have dtb0 := z_b0 _ belt; have dtb1 := z_b1 _ belt; have dtg0 := z_g0 _ belt; have dtg1 := z_g1 _ belt; have dtx0 := z_x0 _ belt; have dtx1 := z_x1 _ belt; clear ht hbt)
              | (go_at_call 67; refine (HMM.out _ _ (by ((try (repeat (first | refine of_al ?_ _ | refine of_dr ?_ | refine of_st ?_ (by first | exact Nat.le_refl _ | exact Nat.le_succ _ | assumption | (dsimp only; omega) | (exact Nat.le_trans (by assumption) (Nat.le_succ _)) | (simp; omega)) _))); (first | assumption | exact Below.refl _ _))) (IsI.below hht.out (by ((try (repeat (first | refine of_al ?_ _ | refine of_dr ?_))); first | assumption | exact Below.refl _ _)))).mono ?_; rintro e wm ⟨⟨sm, pm, lm, cm, rfl, hm⟩, hbm⟩; have hhm := Lib.hid hm; have belm := of_on (D := wc) (by ((try (repeat (first | refine of_al ?_ _ | refine of_dr ?_ | refine of_st ?_ (by first | exact Nat.le_refl _ | exact Nat.le_succ _ | assumption | (dsimp only; omega) | (exact Nat.le_trans (by assumption) (Nat.le_succ _)) | (simp; omega)) _))); (first | assumption | exact Below.refl _ _))) hbm; have dma0 := z_a0 _ belm; have dma1 := z_a1 _ belm; have dmb0 := z_b0 _ belm; have dmb1 := z_b1 _ belm; have dmg0 := z_g0 _ belm; have dmg1 := z_g1 _ belm; have dmx0 := z_x0 _ belm; have dmx1 := z_x1 _ belm; clear hm hbm)
              | (go_at_call 71; refine (HQQ.out _ _ (by ((try (repeat (first | refine of_al ?_ _ | refine of_dr ?_ | refine of_st ?_ (by first | exact Nat.le_refl _ | exact Nat.le_succ _ | assumption | (dsimp only; omega) | (exact Nat.le_trans (by assumption) (Nat.le_succ _)) | (simp; omega)) _))); (first | assumption | exact Below.refl _ _))) (IsI.below hhm.out (by ((try (repeat (first | refine of_al ?_ _ | refine of_dr ?_))); first | assumption | exact Below.refl _ _)))).mono ?_; rintro e wq ⟨⟨sq, pq, lq, cq, sr, pr, lr, cr, rfl, hq, -⟩, hbq⟩; have hfi : ∀ w, (Instr.field 95 (.agg #[.bool sq, .slice pq lq cq, .bool sr, .slice pr lr cr, .int .i64 0]) 0).run Tryz.prog w = .ok (.agg #[.bool sq, .slice pq lq cq]) w := (fun _ => by kernel_rfl); have belq := of_on (D := wc) (by ((try (repeat (first | refine of_al ?_ _ | refine of_dr ?_ | refine of_st ?_ (by first | exact Nat.le_refl _ | exact Nat.le_succ _ | assumption | (dsimp only; omega) | (exact Nat.le_trans (by assumption) (Nat.le_succ _)) | (simp; omega)) _))); (first | assumption | exact Below.refl _ _))) hbq; have dqa0 := z_a0 _ belq; have dqa1 := z_a1 _ belq; have dqb0 := z_b0 _ belq; have dqb1 := z_b1 _ belq; have dqg0 := z_g0 _ belq; have dqg1 := z_g1 _ belq; have dqx0 := z_x0 _ belq; have dqx1 := z_x1 _ belq; have R := (belq.block _ (lt_of_block H5.out.1)).trans H5.out.1; have kr0 := cell_of_row _ _ 0 _ _ (0, 0) R; have kr1 := cell_of_row _ _ 1 _ _ (0, 0) R; have kr2 := cell_of_row _ _ 2 _ _ (0, 0) R; have kr3 := cell_of_row _ _ 3 _ _ (0, 0) R; have kr4 := cell_of_row _ _ 4 _ _ (0, 0) R; have kr5 := cell_of_row _ _ 5 _ _ (0, 0) R; have kr6 := cell_of_row _ _ 6 _ _ (0, 0) R; simp only [List.getElem?_toArray, List.getElem?_cons_zero, List.getElem?_cons_succ] at kr0 kr1 kr2 kr3 kr4 kr5 kr6; have fkr0 := frozen_of_row _ _ 0 _ _ R; have fkr1 := frozen_of_row _ _ 1 _ _ R; have fkr2 := frozen_of_row _ _ 2 _ _ R; have fkr3 := frozen_of_row _ _ 3 _ _ R; have fkr4 := frozen_of_row _ _ 4 _ _ R; have fkr5 := frozen_of_row _ _ 5 _ _ R; have fkr6 := frozen_of_row _ _ 6 _ _ R; have HZ := Lib.hid (And.intro R (And.intro hq belq)); have hbl : ∀ w, (Instr.build 58 #[(0, .agg #[.bool sg, .slice pg lg cg]), (1, .agg #[.bool sx, .slice px lx cx]), (2, .agg #[.bool sq, .slice pq lq cq])]).run Tryz.prog w = .ok (.agg #[.bool sg, .slice pg lg cg, .bool sx, .slice px lx cx, .bool sq, .slice pq lq cq, .int .i64 0]) w := (fun _ => by kernel_rfl); clear hq hbq R))
          go_wp2_with fail
          refine bodyPost_ret (v := .agg #[.bool sg, .slice pg lg cg, .bool sx, .slice px lx cx, .bool sq, .slice pq lq cq, .int .i64 0]) (results_cell_row Tryz.results33 _ _ (K + 1 + 1) 58 _ (0, 0) _ rfl (com_set (g := K + 1 + 1) HZ.out.1) Tryz.underlying58 rfl (by kernel_rfl)) rfl ?_
          show ComI w _ _ KK GG XX YY
          rw [HGO.out.1, HGO.out.2.1, HGO.out.2.2.1, HGO.out.2.2.2]
          exact com_post (g := K + 1 + 1) HZ.out.1 (by rw [← HKW.out]; omega) (H5.out.2.1.trans (HZ.out.2.2.mono H5.out.2.1.size)) (HI5.out.2.2.1.below HZ.out.2.2) (HI5.out.2.2.2.num.below HZ.out.2.2) HZ.out.2.1
end Go.Proofs.YtkbghamkalidcaaGreat
