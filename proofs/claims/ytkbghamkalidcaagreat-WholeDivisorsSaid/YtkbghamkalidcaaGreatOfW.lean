/-
  What shortRow.of of package whole does. Written by wip/tool/genof.py. Conditions: those that each theorem names.
-/
import Derived.Test.YtkbghamkalidcaaGreatLongAll
import Derived.Test.YtkbghamkalidcaaGreatLeadWAll
import Derived.Test.YtkbghamkalidcaaGreatCommonI
import Derived.Test.YtkbghamkalidcaaGreatRefAll
import Derived.Deep.Cut
namespace Go.Proofs.YtkbghamkalidcaaGreat
open Go.RowKit

theorem of_al {D w' : World} (h : Below D.heap.size D w') (o : Obj) : Below D.heap.size D (w'.alloc o) := h.alloc h.size o
theorem of_dr {B : Nat} {D w' : World} (h : Below B D w') : Below B D w'.drew := h.trans (below_drewN w' 1 B)
theorem of_st {D w' : World} {p : Addr} (h : Below D.heap.size D w') (hp : D.heap.size ≤ p.block) (v : Value) : Below D.heap.size D (w'.setCell p v) := h.setCell hp v
theorem of_on {D w w' : World} (h : Below D.heap.size D w) (h' : Below w.heap.size w w') : Below D.heap.size D w' := h.trans (h'.mono h.size)
theorem of_via {W wd : World} (h : Below W.heap.size W wd) {g : Nat} {o : Obj} (r : W.heap[g]? = some o) : wd.heap[g]? = some o := (h.block _ (lt_of_block r)).trans r
/-- a sum of two rows with factors, the one of the rests without its sign -/
def ofRow (F L E : ERow) : ERow := (((F.2.1 * L.1 : Nat) : Int) - ((F.2.2 * E.1 : Nat) : Int)).natAbs |> fun r => (r, L.2.1 * F.2.1 + E.2.1 * F.2.2, L.2.2 * F.2.1 + E.2.2 * F.2.2)
theorem mulN (va vb : Value) (m n : Nat) (w : World) (ha : At w va (Nl.limbs m)) (hb : At w vb (Nl.limbs n)) (hm : (Nl.limbs m).length ≤ 100) (hn : (Nl.limbs n).length ≤ 1) :
    Calls Tryz.prog 179 #[va, vb] w fun e w' => OneN w w' e (m * n) :=
  mul_yes va vb m n w ha hb (Nat.le_trans hm (by decide)) (Nat.le_trans hn (by decide)) (Nat.le_trans (Nl.len_mul m n) (by omega))
theorem fitMul {m n : Nat} (hm : (Nl.limbs m).length ≤ 100) (hn : n < 4294967296) : fitI ((m * n : Nat) : Int) := by
  show (Nl.limbs _).length ≤ 1024
  rw [Int.natAbs_natCast]
  have h1 := Nl.len_mul m n
  have h2 : (Nl.limbs n).length ≤ 1 := Nl.limbs_lt (by omega)
  omega
theorem fitMulSub {m n k j : Nat} (hm : (Nl.limbs m).length ≤ 100) (hn : n < 4294967296) (hk : (Nl.limbs k).length ≤ 100) (hj : j < 4294967296) : fitI (((m * n : Nat) : Int) - ((k * j : Nat) : Int)) := by
  have h1 := fitMul hm hn
  have h2 := fitMul hk hj
  unfold fitI at *
  rw [Int.natAbs_natCast] at h1 h2
  obtain ⟨a, ha⟩ : ∃ a, a = m * n := ⟨_, rfl⟩
  obtain ⟨b, hb⟩ : ∃ b, b = k * j := ⟨_, rfl⟩
  rw [← ha] at h1 ⊢
  rw [← hb] at h2 ⊢
  rcases Nat.le_total a b with h | h
  · exact Nat.le_trans (Nl.limbs_mono (show ((a : Int) - (b : Int)).natAbs ≤ b by omega)) h2
  · exact Nat.le_trans (Nl.limbs_mono (show ((a : Int) - (b : Int)).natAbs ≤ a by omega)) h1
theorem minus_abs (va vb : Value) (m n k j D : Nat) (w : World) (hD : D = (((m * n : Nat) : Int) - ((k * j : Nat) : Int)).natAbs) (ha : At w va (Nl.limbs (m * n))) (hb : At w vb (Nl.limbs (k * j))) (hm : (Nl.limbs m).length ≤ 100) (hn : n < 4294967296) (hk : (Nl.limbs k).length ≤ 100) (hj : j < 4294967296) :
    Calls Tryz.prog 113 #[.agg #[.bool false, va], .agg #[.bool false, vb]] w fun e w' => (∃ t p l c, e = .returned (.agg #[.bool t, .slice p l c]) ∧ At w' (.slice p l c) (Nl.limbs D)) ∧ Below w.heap.size w w' := by
  refine (minus_yes _ _ ((m * n : Nat) : Int) ((k * j : Nat) : Int) w (isI_pos ha) (isI_pos hb) (fitMul hm hn) (fitMul hk hj) (fitMulSub hm hn hk hj)).mono ?_
  rintro e w' ⟨hb, v, rfl, hv⟩
  obtain ⟨p, c, rfl, h⟩ := AtI.form hv
  rw [← hD] at h
  exact ⟨⟨_, _, _, _, rfl, by rw [← hD]; exact h⟩, hb⟩
theorem lenMul {m n : Nat} (hm : (Nl.limbs m).length ≤ 100) (hn : n < 4294967296) : (Nl.limbs (m * n)).length ≤ 500 := by
  have h1 := Nl.len_mul m n
  have h2 : (Nl.limbs n).length ≤ 1 := Nl.limbs_lt (by omega)
  omega
theorem len_word {n : Nat} (h : n < 4294967296) : (Nl.limbs n).length ≤ 1 := Nl.limbs_lt (by omega)

set_option maxRecDepth 10000 in
set_option maxHeartbeats 16000000 in
theorem of_gen (F L E : ERow) (p0 p1 p2 q0 q1 q2 : Option Addr) (l0 c0 l1 c1 l2 c2 m0 d0 m1 d1 m2 d2 : Nat) (w : World) (hF1 : F.2.1 < 4294967296) (hF2 : F.2.2 < 4294967296) (hL : wee L) (hE : wee E)
    (a0 : At w (.slice p0 l0 c0) (Nl.limbs L.1)) (a1 : At w (.slice p1 l1 c1) (Nl.limbs L.2.1)) (a2 : At w (.slice p2 l2 c2) (Nl.limbs L.2.2))
    (b0 : At w (.slice q0 m0 d0) (Nl.limbs E.1)) (b1 : At w (.slice q1 m1 d1) (Nl.limbs E.2.1)) (b2 : At w (.slice q2 m2 d2) (Nl.limbs E.2.2)) :
    Calls Tryz.prog 183 #[.agg (shv F), .agg #[.slice p0 l0 c0, .slice p1 l1 c1, .slice p2 l2 c2], .agg #[.slice q0 m0 d0, .slice q1 m1 d1, .slice q2 m2 d2]] w fun e w' =>
      (∃ r0 n0 e0 r1 n1 e1 r2 n2 e2, e = .returned (.agg #[.slice r0 n0 e0, .slice r1 n1 e1, .slice r2 n2 e2]) ∧ At w' (.slice r0 n0 e0) (Nl.limbs (ofRow F L E).1) ∧ At w' (.slice r1 n1 e1) (Nl.limbs (ofRow F L E).2.1) ∧ At w' (.slice r2 n2 e2) (Nl.limbs (ofRow F L E).2.2)) ∧ Below w.heap.size w w' := by
  obtain ⟨fr, fx, fy⟩ := F
  obtain ⟨R0, X0, Y0⟩ := L
  obtain ⟨R1, X1, Y1⟩ := E
  obtain ⟨K, hK⟩ : ∃ K, K = w.heap.size := ⟨_, rfl⟩
  obtain ⟨Z, hZ⟩ : ∃ Z, Z = (((w.alloc (.cells #[.int .u64 (fr : Nat), .int .u64 (fx : Nat), .int .u64 (fy : Nat)] 191)).alloc (.cells #[.slice p0 l0 c0, .slice p1 l1 c1, .slice p2 l2 c2] 143)).alloc (.cells #[.slice q0 m0 d0, .slice q1 m1 d1, .slice q2 m2 d2] 143)).alloc (.cells #[.slice none 0 0, .slice none 0 0, .slice none 0 0] 143) := ⟨_, rfl⟩
  have hb : Below w.heap.size w Z := by rw [hZ]; exact (three_new w _ _ _).alloc (by simp <;> omega) _
  have B0 : Z.heap[K]? = some (.cells #[.int .u64 (fr : Nat), .int .u64 (fx : Nat), .int .u64 (fy : Nat)] 191 (0, 0)) := by rw [hZ, hK]; exact al_keep _ _ (by simp <;> omega) (al_keep _ _ (by simp <;> omega) (al_keep _ _ (by simp <;> omega) (al_at _ _ (by simp))))
  have B1 : Z.heap[K + 1]? = some (.cells #[.slice p0 l0 c0, .slice p1 l1 c1, .slice p2 l2 c2] 143 (0, 0)) := by rw [hZ, hK]; exact al_keep _ _ (by simp <;> omega) (al_keep _ _ (by simp <;> omega) (al_at _ _ (by simp)))
  have B2 : Z.heap[K + 1 + 1]? = some (.cells #[.slice q0 m0 d0, .slice q1 m1 d1, .slice q2 m2 d2] 143 (0, 0)) := by rw [hZ, hK]; exact al_keep _ _ (by simp <;> omega) (al_at _ _ (by simp))
  have B3 : Z.heap[K + 1 + 1 + 1]? = some (.cells #[.slice none 0 0, .slice none 0 0, .slice none 0 0] 143 (0, 0)) := by rw [hZ, hK]; exact al_at _ _ (by simp)
  have ZB := Lib.hid (And.intro B0 (And.intro B1 (And.intro B2 B3)))
  have HB := Lib.hid hb
  have HA := Lib.hid (And.intro (a0.below hb) (And.intro (a1.below hb) (And.intro (a2.below hb) (And.intro (b0.below hb) (And.intro (b1.below hb) (b2.below hb))))))
  have HW := Lib.hid (And.intro hL (And.intro hE (And.intro hF1 hF2)))
  have cell : ∀ {g : Nat} {cs : Array Value} {T : TypeId} (j : Nat), Z.heap[g]? = some (.cells cs T (0, 0)) → ∀ w', Below Z.heap.size Z w' → w'.cell? ⟨g, j, none⟩ = cs[j]? := fun {g cs T} j hg w' h => cell_of_row _ _ j _ _ (0, 0) ((h.block _ (lt_of_block hg)).trans hg)
  have zs1 := cell 1 B0
  have zs2 := cell 2 B0
  have zl0 := cell 0 B1
  have zl1 := cell 1 B1
  have zl2 := cell 2 B1
  have ze0 := cell 0 B2
  have ze1 := cell 1 B2
  have ze2 := cell 2 B2
  simp only [List.getElem?_toArray, List.getElem?_cons_zero, List.getElem?_cons_succ] at zs1 zs2 zl0 zl1 zl2 ze0 ze1 ze2
  have hrr : Below Z.heap.size Z Z := Below.refl _ _
  clear a0 a1 a2 b0 b1 b2 hL hE hF1 hF2 hb B0 B1 B2 B3 cell
  rw [show (Value.agg (shv (fr, fx, fy))) = .agg #[.int .u64 (fr : Nat), .int .u64 (fx : Nat), .int .u64 (fy : Nat)] from rfl]
  go_enter Tryz.func183, Tryz.ntmps183
  go_upto_region 1 with fail
  rw [← hK, ← hZ]
  have HK := Lib.hid hK
  clear hZ hK
  have HU1 := Lib.hid (fun w' => natFromUint_any fx w' (Nat.lt_trans HW.out.2.2.1 (by decide)))
  have HU2 := Lib.hid (fun w' => natFromUint_any fy w' (Nat.lt_trans HW.out.2.2.2 (by decide)))
  go_region_held3 (fun w' => Below Z.heap.size Z w')
    (first
      | assumption
      | ((try (repeat (first | refine of_al ?_ _ | refine of_dr ?_ | refine of_st ?_ (by first | exact Nat.le_refl _ | exact Nat.le_succ _ | assumption | (dsimp only; omega) | (exact Nat.le_trans (by assumption) (Nat.le_succ _)) | (simp; omega)) _))); (first | assumption | exact Below.refl _ _)))
    (first
      | (go_at_call_of 114 (Value.int IntKind.u64 (fx : Nat)); refine (HU1.out _).mono ?_; rintro e w1 ⟨⟨v, rfl, hx⟩, hb1⟩; obtain ⟨px, cx, rfl, -⟩ := hx.at.at.form; have bel1 := of_on (D := Z) (by ((try (repeat (first | refine of_al ?_ _ | refine of_dr ?_ | refine of_st ?_ (by first | exact Nat.le_refl _ | exact Nat.le_succ _ | assumption | (dsimp only; omega) | (exact Nat.le_trans (by assumption) (Nat.le_succ _)) | (simp; omega)) _))); (first | assumption | exact Below.refl _ _))) hb1)
      | (go_at_call_of 114 (Value.int IntKind.u64 (fy : Nat)); refine (HU2.out _).mono ?_; rintro e w2 ⟨⟨v, rfl, hy⟩, hb2⟩; obtain ⟨py, cy, rfl, -⟩ := hy.at.at.form; have bel2 := of_on (D := Z) (by ((try (repeat (first | refine of_al ?_ _ | refine of_dr ?_ | refine of_st ?_ (by first | exact Nat.le_refl _ | exact Nat.le_succ _ | assumption | (dsimp only; omega) | (exact Nat.le_trans (by assumption) (Nat.le_succ _)) | (simp; omega)) _))); (first | assumption | exact Below.refl _ _))) hb2))
  have HX2 := Lib.hid (And.intro (hx.at.at.below hb2) (And.intro hy.at.at bel2))
  clear hx hy hb1 hb2 bel1 bel2 HU1 HU2 zs1 zs2 hrr
  obtain ⟨lx, hlx⟩ : ∃ n, n = (Nl.limbs fx).length := ⟨_, rfl⟩
  obtain ⟨ly, hly⟩ : ∃ n, n = (Nl.limbs fy).length := ⟨_, rfl⟩
  rw [← hlx, ← hly] at HX2
  rw [← hlx, ← hly]
  clear hlx hly
  have hrr : Below w2.heap.size w2 w2 := Below.refl _ _
  have yl0 : ∀ w', Below w2.heap.size w2 w' → w'.cell? ⟨K + 1, 0, none⟩ = some (.slice p0 l0 c0) := fun w' h => zl0 w' (of_on HX2.out.2.2 h)
  have ye0 : ∀ w', Below w2.heap.size w2 w' → w'.cell? ⟨K + 1 + 1, 0, none⟩ = some (.slice q0 m0 d0) := fun w' h => ze0 w' (of_on HX2.out.2.2 h)
  have HM1 := Lib.hid (fun (w' : World) (h : Below w2.heap.size w2 w') => mulN (.slice p0 l0 c0) (.slice px lx cx) R0 fx w' ((HA.out.1.below HX2.out.2.2).below h) (HX2.out.1.below h) HW.out.1.1 (len_word HW.out.2.2.1))
  have HM2 := Lib.hid (fun (w' : World) (h : Below w2.heap.size w2 w') => mulN (.slice q0 m0 d0) (.slice py ly cy) R1 fy w' ((HA.out.2.2.2.1.below HX2.out.2.2).below h) (HX2.out.2.1.below h) HW.out.2.1.1 (len_word HW.out.2.2.2))
  clear zl0 ze0
  obtain ⟨D, hD⟩ : ∃ D : Nat, D = (((R0 * fx : Nat) : Int) - ((R1 * fy : Nat) : Int)).natAbs := ⟨_, rfl⟩
  have HMI := Lib.hid (fun (va vb : Value) (w' : World) (ha : At w' va (Nl.limbs (R0 * fx))) (hb : At w' vb (Nl.limbs (R1 * fy))) => minus_abs va vb R0 fx R1 fy D w' hD ha hb HW.out.1.1 HW.out.2.2.1 HW.out.2.1.1 HW.out.2.2.2)
  have HD := Lib.hid hD
  clear hD
  go_upto_region 2 with fail
  go_cut [9] from 10 (fun v9 wx => ∃ g t p l c, v9 = .pointer (some ⟨g, 0, none⟩) ∧ w2.heap.size ≤ g ∧ Hid (wx.heap[g]? = some (.cells #[.bool t, .slice p l c] 78 (0, 0))) ∧ Hid (At wx (.slice p l c) (Nl.limbs D)) ∧ Hid (Below w2.heap.size w2 wx))
  case first =>
    clear zl1 zl2 ze1 ze2
    go_region_held3 (fun w' => Below w2.heap.size w2 w')
      (first
        | assumption
        | ((try (repeat (first | refine of_al ?_ _ | refine of_dr ?_ | refine of_st ?_ (by first | exact Nat.le_refl _ | exact Nat.le_succ _ | assumption | (dsimp only; omega) | (exact Nat.le_trans (by assumption) (Nat.le_succ _)) | (simp; omega)) _))); (first | assumption | exact Below.refl _ _)))
      (first
        | (go_at_call_of 179 (Value.slice p0 l0 c0); refine (HM1.out _ (by ((try (repeat (first | refine of_al ?_ _ | refine of_dr ?_ | refine of_st ?_ (by first | exact Nat.le_refl _ | exact Nat.le_succ _ | assumption | (dsimp only; omega) | (exact Nat.le_trans (by assumption) (Nat.le_succ _)) | (simp; omega)) _))); (first | assumption | exact Below.refl _ _)))).mono ?_; rintro e w3 ⟨⟨p3, n3, c3, rfl, h3⟩, hb3⟩; (try (have rA3 : w3.heap[w2.heap.size]? = some (.cells #[.bool false, .slice none 0 0] 78 (0, 0)) := of_via hb3 (by exact heap_alloc_new _ _))); have bel3 := of_on (D := w2) (by ((try (repeat (first | refine of_al ?_ _ | refine of_dr ?_ | refine of_st ?_ (by first | exact Nat.le_refl _ | exact Nat.le_succ _ | assumption | (dsimp only; omega) | (exact Nat.le_trans (by assumption) (Nat.le_succ _)) | (simp; omega)) _))); (first | assumption | exact Below.refl _ _))) hb3; have k3 := bel3.size; clear hb3)
        | (go_at_call_of 179 (Value.slice q0 m0 d0); refine (HM2.out _ (by ((try (repeat (first | refine of_al ?_ _ | refine of_dr ?_ | refine of_st ?_ (by first | exact Nat.le_refl _ | exact Nat.le_succ _ | assumption | (dsimp only; omega) | (exact Nat.le_trans (by assumption) (Nat.le_succ _)) | (simp; omega)) _))); (first | assumption | exact Below.refl _ _)))).mono ?_; rintro e w5 ⟨⟨p5, n5, c5, rfl, h5⟩, hb5⟩; (try (have rA5 : w5.heap[w2.heap.size]? = some (.cells #[.bool false, .slice none 0 0] 78 (0, 0)) := of_via hb5 (by exact rA3))); (try (have rB5 : w5.heap[w3.heap.size]? = some (.cells #[.bool false, .slice none 0 0] 78 (0, 0)) := of_via hb5 (by exact heap_alloc_new _ _))); have h35 := h3.below (of_on (D := w3) (by ((try (repeat (first | refine of_al ?_ _ | refine of_dr ?_ | refine of_st ?_ (by first | exact Nat.le_refl _ | exact Nat.le_succ _ | assumption | (dsimp only; omega) | (exact Nat.le_trans (by assumption) (Nat.le_succ _)) | (simp; omega)) _))); (first | assumption | exact Below.refl _ _))) hb5); have bel5 := of_on (D := w2) (by ((try (repeat (first | refine of_al ?_ _ | refine of_dr ?_ | refine of_st ?_ (by first | exact Nat.le_refl _ | exact Nat.le_succ _ | assumption | (dsimp only; omega) | (exact Nat.le_trans (by assumption) (Nat.le_succ _)) | (simp; omega)) _))); (first | assumption | exact Below.refl _ _))) hb5; have k5 := bel5.size; clear hb5)
        | (go_at_call 125; refine (found_yes _ _ _ _).mono ?_; rintro e wf ⟨rfl, rfl⟩)
        | (go_at_call 113; refine (HMI.out _ _ _ (h35.below (by ((try (repeat (first | refine of_al ?_ _ | refine of_dr ?_ | refine of_st ?_ (by first | exact Nat.le_refl _ | exact Nat.le_succ _ | assumption | (dsimp only; omega) | (exact Nat.le_trans (by assumption) (Nat.le_succ _)) | (simp; omega)) _))); (first | assumption | exact Below.refl _ _)))) (h5.below (by ((try (repeat (first | refine of_al ?_ _ | refine of_dr ?_ | refine of_st ?_ (by first | exact Nat.le_refl _ | exact Nat.le_succ _ | assumption | (dsimp only; omega) | (exact Nat.le_trans (by assumption) (Nat.le_succ _)) | (simp; omega)) _))); (first | assumption | exact Below.refl _ _))))).mono ?_; rintro e w6 ⟨⟨t6, p6, l6, c6, rfl, h6⟩, hb6⟩; (try (have rA6 : w6.heap[w2.heap.size]? = some (.cells #[.bool false, .slice none 0 0] 78 (0, 0)) := of_via hb6 (by exact rA5); have fA0 := frozen_of_row _ _ 0 _ _ rA6; have fA1 := frozen_of_row _ _ 1 _ _ rA6; have gA0 := cell_of_row _ _ 0 _ _ (0, 0) rA6; have gA1 := cell_of_row _ _ 1 _ _ (0, 0) rA6; simp only [List.getElem?_toArray, List.getElem?_cons_zero, List.getElem?_cons_succ] at gA0 gA1)); (try (have rB6 : w6.heap[w3.heap.size]? = some (.cells #[.bool false, .slice none 0 0] 78 (0, 0)) := of_via hb6 (by exact rB5); have fB0 := frozen_of_row _ _ 0 _ _ rB6; have fB1 := frozen_of_row _ _ 1 _ _ rB6; have gB0 := cell_of_row _ _ 0 _ _ (0, 0) rB6; have gB1 := cell_of_row _ _ 1 _ _ (0, 0) rB6; simp only [List.getElem?_toArray, List.getElem?_cons_zero, List.getElem?_cons_succ] at gB0 gB1)); (try (have rC6 : w6.heap[w5.heap.size]? = some (.cells #[.bool false, .slice none 0 0] 78 (0, 0)) := of_via hb6 (by exact heap_alloc_new _ _); have fC0 := frozen_of_row _ _ 0 _ _ rC6; have fC1 := frozen_of_row _ _ 1 _ _ rC6; have gC0 := cell_of_row _ _ 0 _ _ (0, 0) rC6; have gC1 := cell_of_row _ _ 1 _ _ (0, 0) rC6; simp only [List.getElem?_toArray, List.getElem?_cons_zero, List.getElem?_cons_succ] at gC0 gC1)); have bel6 := of_on (D := w2) (by ((try (repeat (first | refine of_al ?_ _ | refine of_dr ?_ | refine of_st ?_ (by first | exact Nat.le_refl _ | exact Nat.le_succ _ | assumption | (dsimp only; omega) | (exact Nat.le_trans (by assumption) (Nat.le_succ _)) | (simp; omega)) _))); (first | assumption | exact Below.refl _ _))) hb6; have k6 := bel6.size; clear hb6))
    all_goals (go_wp2_with fail; go_meet; case rel => first
      | exact ⟨_, _, _, _, _, rfl, (by first | exact Nat.le_refl _ | omega), heap_alloc_new _ _, h6.below (below_one _ _), (by ((try (repeat (first | refine of_al ?_ _ | refine of_dr ?_ | refine of_st ?_ (by first | exact Nat.le_refl _ | exact Nat.le_succ _ | assumption | (dsimp only; omega) | (exact Nat.le_trans (by assumption) (Nat.le_succ _)) | (simp; omega)) _))); (first | assumption | exact Below.refl _ _)))⟩
      | exact ⟨_, _, _, _, _, rfl, (by first | exact Nat.le_refl _ | omega), ibox_set _ _ (by assumption), at_ibox _ _ h6 (by assumption), (by ((try (repeat (first | refine of_al ?_ _ | refine of_dr ?_ | refine of_st ?_ (by first | exact Nat.le_refl _ | exact Nat.le_succ _ | assumption | (dsimp only; omega) | (exact Nat.le_trans (by assumption) (Nat.le_succ _)) | (simp; omega)) _))); (first | assumption | exact Below.refl _ _)))⟩)
  case rest =>
    obtain ⟨g, t, p, l, c, rfl, hg, hrow, hat, hbel⟩ := hcut
    clear yl0 ye0 HM1 HM2 HMI hrr
    have hZw : Below Z.heap.size Z wc := of_on HX2.out.2.2 hbel.out
    have C0 := (hZw.block _ (lt_of_block ZB.out.2.1)).trans ZB.out.2.1
    have C1 := (hZw.block _ (lt_of_block ZB.out.2.2.1)).trans ZB.out.2.2.1
    have C2 := (hZw.block _ (lt_of_block ZB.out.2.2.2)).trans ZB.out.2.2.2
    have ic1 := cell_of_row _ _ 1 _ _ (0, 0) hrow.out
    have il1 := cell_of_row _ _ 1 _ _ (0, 0) C0
    have il2 := cell_of_row _ _ 2 _ _ (0, 0) C0
    have ie1 := cell_of_row _ _ 1 _ _ (0, 0) C1
    have ie2 := cell_of_row _ _ 2 _ _ (0, 0) C1
    simp only [List.getElem?_toArray, List.getElem?_cons_zero, List.getElem?_cons_succ] at ic1 il1 il2 ie1 ie2
    have ng : g < wc.heap.size := lt_of_block hrow.out
    have nl : K + 1 < wc.heap.size := lt_of_block C0
    have ne : K + 1 + 1 < wc.heap.size := lt_of_block C1
    have nr : K + 1 + 1 + 1 < wc.heap.size := lt_of_block C2
    have hgK : K + 1 + 1 + 1 < g := by have := lt_of_block ZB.out.2.2.2; have := HX2.out.2.2.size; omega
    have nq1 : ¬ g = K + 1 + 1 + 1 := by omega
    have nq2 : ¬ K + 1 = K + 1 + 1 + 1 := by omega
    have nq3 : ¬ K + 1 + 1 = K + 1 + 1 + 1 := by omega
    have nq4 : ¬ K + 1 + 1 + 1 = g := by omega
    have nq5 : ¬ K + 1 + 1 + 1 = K + 1 := by omega
    have nq6 : ¬ K + 1 + 1 + 1 = K + 1 + 1 := by omega
    have nq7 : ¬ K + 1 + 1 = K := by omega
    have nq8 : ¬ K = K + 1 + 1 := by omega
    have nq9 : ¬ K + 1 = K := by omega
    have nqa : ¬ K = K + 1 := by omega
    have HQ := Lib.hid (And.intro C2 (And.intro hat.out (And.intro hZw HX2.out.2.2)))
    have hx' := HX2.out.1.below hbel.out
    have hy' := HX2.out.2.1.below hbel.out
    have dr : Below wc.heap.size wc wc.drew := below_drewN wc 1 _
    have HMX := Lib.hid (fun (w' : World) (h : Below wc.drew.heap.size wc.drew w') => mulN (.slice p1 l1 c1) (.slice px lx cx) X0 fx w' (((HA.out.2.1.below hZw).below dr).below h) ((hx'.below dr).below h) HW.out.1.2.1 (len_word HW.out.2.2.1))
    have HMY := Lib.hid (fun (w' : World) (h : Below wc.drew.heap.size wc.drew w') => mulN (.slice p2 l2 c2) (.slice px lx cx) Y0 fx w' (((HA.out.2.2.1.below hZw).below dr).below h) ((hx'.below dr).below h) HW.out.1.2.2 (len_word HW.out.2.2.1))
    have HSX := Lib.hid (fun (v : Value) (w' : World) (h : Below wc.drew.heap.size wc.drew w') (hv : At w' v (Nl.limbs (X0 * fx))) => sumTimes_any v (.slice q1 m1 d1) (.slice py ly cy) (X0 * fx) X1 fy w' hv (((HA.out.2.2.2.2.1.below hZw).below dr).below h) ((hy'.below dr).below h) (lenMul HW.out.1.2.1 HW.out.2.2.1) (Nat.le_trans HW.out.2.1.2.1 (by decide)) (Nat.le_trans (len_word HW.out.2.2.2) (by decide)))
    have HSY := Lib.hid (fun (v : Value) (w' : World) (h : Below wc.drew.heap.size wc.drew w') (hv : At w' v (Nl.limbs (Y0 * fx))) => sumTimes_any v (.slice q2 m2 d2) (.slice py ly cy) (Y0 * fx) Y1 fy w' hv (((HA.out.2.2.2.2.2.below hZw).below dr).below h) ((hy'.below dr).below h) (lenMul HW.out.1.2.2 HW.out.2.2.1) (Nat.le_trans HW.out.2.1.2.2 (by decide)) (Nat.le_trans (len_word HW.out.2.2.2) (by decide)))
    clear zl1 zl2 ze1 ze2 hx' hy' hrow hat hbel hZw C0 C1 C2 hg dr
    go_wp2_with fail
    go_region_held3 (fun w' => w'.cell? ⟨g, 1, none⟩ = some (.slice p l c) ∧ w'.cell? ⟨K + 1, 1, none⟩ = some (.slice p1 l1 c1) ∧ w'.cell? ⟨K + 1, 2, none⟩ = some (.slice p2 l2 c2) ∧ w'.cell? ⟨K + 1 + 1, 1, none⟩ = some (.slice q1 m1 d1) ∧ w'.cell? ⟨K + 1 + 1, 2, none⟩ = some (.slice q2 m2 d2))
      (first
        | go_keep
        | assumption)
      (first
        | (go_at_call 125; refine (found_yes _ _ _ _).mono ?_; rintro e wf ⟨rfl, rfl⟩)
        | (go_at_call_of 179 (Value.slice p1 l1 c1); refine (HMX.out _ (Below.refl _ _)).mono ?_; rintro e z1 ⟨⟨r1, n1, e1, rfl, s1⟩, b1⟩; have o10 := (b1.cell (p := ⟨g, 1, none⟩) ng).trans ic1; have o11 := (b1.cell (p := ⟨K + 1, 1, none⟩) nl).trans il1; have o12 := (b1.cell (p := ⟨K + 1, 2, none⟩) nl).trans il2; have o13 := (b1.cell (p := ⟨K + 1 + 1, 1, none⟩) ne).trans ie1; have o14 := (b1.cell (p := ⟨K + 1 + 1, 2, none⟩) ne).trans ie2)
        | (go_at_call_of 215 (Value.slice q1 m1 d1); refine (HSX.out _ z1 b1 s1).mono ?_; rintro e z2 ⟨⟨r2, n2, e2, rfl, s2⟩, b12⟩; have b2 := b1.trans (b12.mono b1.size); have o20 := (b2.cell (p := ⟨g, 1, none⟩) ng).trans ic1; have o21 := (b2.cell (p := ⟨K + 1, 1, none⟩) nl).trans il1; have o22 := (b2.cell (p := ⟨K + 1, 2, none⟩) nl).trans il2; have o23 := (b2.cell (p := ⟨K + 1 + 1, 1, none⟩) ne).trans ie1; have o24 := (b2.cell (p := ⟨K + 1 + 1, 2, none⟩) ne).trans ie2)
        | (go_at_call_of 179 (Value.slice p2 l2 c2); refine (HMY.out _ b2).mono ?_; rintro e z3 ⟨⟨r3, n3, e3, rfl, s3⟩, b23⟩; have b3 := b2.trans (b23.mono b2.size); have o30 := (b3.cell (p := ⟨g, 1, none⟩) ng).trans ic1; have o31 := (b3.cell (p := ⟨K + 1, 1, none⟩) nl).trans il1; have o32 := (b3.cell (p := ⟨K + 1, 2, none⟩) nl).trans il2; have o33 := (b3.cell (p := ⟨K + 1 + 1, 1, none⟩) ne).trans ie1; have o34 := (b3.cell (p := ⟨K + 1 + 1, 2, none⟩) ne).trans ie2)
        | (go_at_call_of 215 (Value.slice q2 m2 d2); refine (HSY.out _ z3 b3 s3).mono ?_; rintro e z4 ⟨⟨r4, n4, e4, rfl, s4⟩, b34⟩; have b4 := b3.trans (b34.mono b3.size); have o40 := (b4.cell (p := ⟨g, 1, none⟩) ng).trans ic1; have o41 := (b4.cell (p := ⟨K + 1, 1, none⟩) nl).trans il1; have o42 := (b4.cell (p := ⟨K + 1, 2, none⟩) nl).trans il2; have o43 := (b4.cell (p := ⟨K + 1 + 1, 1, none⟩) ne).trans ie1; have o44 := (b4.cell (p := ⟨K + 1 + 1, 2, none⟩) ne).trans ie2; have BQ := (b4.block (K + 1 + 1 + 1) nr).trans HQ.out.1; have f0 := frozen_of_row _ _ 0 _ _ BQ; have f1 := frozen_of_row _ _ 1 _ _ BQ; have f2 := frozen_of_row _ _ 2 _ _ BQ; have g0 := cell_of_row _ _ 0 _ _ (0, 0) BQ; have g1 := cell_of_row _ _ 1 _ _ (0, 0) BQ; have g2 := cell_of_row _ _ 2 _ _ (0, 0) BQ; have HZ := Lib.hid (And.intro BQ (And.intro (s2.below (b23.trans (b34.mono b23.size))) (And.intro s4 b4))); clear BQ))
    go_wp2_with fail
    refine bodyPost_ret (v := .agg #[.slice p l c, .slice r2 n2 e2, .slice r4 n4 e4]) (results_cell_row Tryz.results183 _ _ (K + 1 + 1 + 1) 143 _ (0, 0) _ rfl (row_set (g := K + 1 + 1 + 1) _ _ _ HZ.out.1) Tryz.underlying143 rfl (by kernel_rfl)) rfl ?_
    have hb5 : Below wc.heap.size wc z4 := (below_drewN wc 1 _).trans (HZ.out.2.2.2.mono (Nat.le_refl _))
    have hbZ : Below Z.heap.size Z z4 := HQ.out.2.2.1.trans (hb5.mono HQ.out.2.2.1.size)
    refine ⟨⟨_, _, _, _, _, _, _, _, _, rfl, ?_, ?_, ?_⟩, below_row (HB.out.trans (hbZ.mono HB.out.size)) (g := K + 1 + 1 + 1) (by rw [← HK.out]; omega) _ _ _⟩
    · have h := at_row (g := K + 1 + 1 + 1) (r1 := p) (r2 := r2) (r3 := r4) (m1 := l) (m2 := n2) (m3 := n4) (d1 := c) (d2 := e2) (d3 := e4) (HQ.out.2.1.below hb5) HZ.out.1
      rw [HD.out] at h
      show At _ _ (Nl.limbs (((fx * R0 : Nat) : Int) - ((fy * R1 : Nat) : Int)).natAbs)
      rw [Nat.mul_comm fx R0, Nat.mul_comm fy R1]
      exact HD.out ▸ h
    · exact at_row (g := K + 1 + 1 + 1) HZ.out.2.1 HZ.out.1
    · exact at_row (g := K + 1 + 1 + 1) HZ.out.2.2.1 HZ.out.1
end Go.Proofs.YtkbghamkalidcaaGreat
