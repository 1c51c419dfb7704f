/-
  What euclid of package whole does with small numbers. Conditions: those that each theorem names.
-/
import Derived.Test.YtkbghamkalidcaaGreatEucMAll
namespace Go.Proofs.YtkbghamkalidcaaGreat
open Go.RowKit

theorem bitsOf_any (va : Value) (m : Nat) (w : World) (ha : At w va (Nl.limbs m)) (hm : (Nl.limbs m).length ≤ 1024) :
    Calls Tryz.prog 207 #[va] w fun e w' => e = .returned (.int .i64 (nbits m)) ∧ w = w' := by
  have h := natBits_any va _ w ha (Nl.limbs_small m)
  rw [if_pos (validB_limbs hm), if_pos (validB_limbs hm), Nl.val_limbs] at h
  have H := Lib.hid h
  obtain ⟨a, c, rfl, -⟩ := ha.form
  clear ha h
  go_enter Tryz.func207, Tryz.ntmps207
  go_wp2_with fail
  refine H.out.mono ?_
  rintro e w' ⟨rfl, rfl⟩
  go_wp2_with (go_at_call 55; refine (must_yes _ _).mono ?_; rintro e w' ⟨rfl, rfl⟩)
  go_ret
  exact ⟨rfl, rfl⟩
theorem leading_small (va vb : Value) (m n : Nat) (w : World) (ha : At w va (Nl.limbs m)) (hb : At w vb (Nl.limbs n)) (hm : nbits m ≤ 63) (hl : (Nl.limbs m).length ≤ 1024) :
    Calls Tryz.prog 181 #[va, vb] w fun e w' => e = .returned (.tuple #[.int .u64 0, .int .u64 0]) ∧ w = w' := by
  have H := Lib.hid (bitsOf_any va m w ha hl)
  obtain ⟨a, c, rfl, -⟩ := ha.form
  obtain ⟨b, d, rfl, -⟩ := hb.form
  obtain ⟨k, hk⟩ : ∃ k, k = nbits m := ⟨_, rfl⟩
  rw [← hk] at H hm
  have e0 : decide (k ≤ 63) = true := decide_eq_true hm
  have e1 : decide ((k : Int) ≤ 63) = true := decide_eq_true (by omega)
  clear ha hb hk hl
  go_enter Tryz.func181, Tryz.ntmps181
  go_wp2_with fail
  refine H.out.mono ?_
  rintro e w' ⟨rfl, rfl⟩
  go_wp2_with fail
  go_ret2
  exact ⟨rfl, rfl⟩
set_option maxHeartbeats 1000000 in
theorem sure_zero (w : World) : Calls Tryz.prog 180 #[.int .u64 0, .int .u64 0] w fun e w' => e = .returned (.tuple #[.agg #[.int .u64 0, .int .u64 0, .int .u64 0], .agg #[.int .u64 0, .int .u64 1, .int .u64 0], .bool true]) ∧ Below w.heap.size w w' := by
  go_enter Tryz.func180, Tryz.ntmps180
  go_wp2_with fail
  go_rounds 1
  go_region
  go_wp2_with fail
  obtain ⟨W, hW⟩ : ∃ W, W = ((w.alloc (.cells #[.int .u64 0, .int .u64 0, .int .u64 0] 191)).alloc (.cells #[.int .u64 0, .int .u64 1, .int .u64 0] 191)).alloc (.cells #[.int .u64 0, .int .u64 0, .int .u64 1] 191) := ⟨_, rfl⟩
  rw [← hW]
  have hb : Below w.heap.size w W := by rw [hW]; exact three_new w _ _ _
  have B0 : W.drew.heap[w.heap.size]? = some (.cells #[.int .u64 0, .int .u64 0, .int .u64 0] 191 (0, 0)) := by show W.heap[w.heap.size]? = _; rw [hW]; exact al_keep _ _ (by simp <;> omega) (al_keep _ _ (by simp <;> omega) (al_at _ _ (by simp)))
  have B1 : W.drew.heap[w.heap.size + 1]? = some (.cells #[.int .u64 0, .int .u64 1, .int .u64 0] 191 (0, 0)) := by show W.heap[w.heap.size + 1]? = _; rw [hW]; exact al_keep _ _ (by simp <;> omega) (al_at _ _ (by simp))
  refine bodyPost_ret (v := .tuple #[.agg #[.int .u64 0, .int .u64 0, .int .u64 0], .agg #[.int .u64 0, .int .u64 1, .int .u64 0], .bool true]) (results_int21 Tryz.results180 _ _ w.heap.size (w.heap.size + 1) _ _ _ rfl rfl rfl
    (run_loadVar_row _ _ _ 191 _ (0, 0) _ B0 Tryz.underlying191 rfl (by kernel_rfl)) (run_loadVar_row _ _ _ 191 _ (0, 0) _ B1 Tryz.underlying191 rfl (by kernel_rfl))) rfl ?_
  exact ⟨rfl, hb.trans (below_drewN W 1 _)⟩

/-- a row, and where it lies -/
def Rows (w : World) (g : Nat) (R : ERow) : Prop := ∃ p0 p1 p2 l0 c0 l1 c1 l2 c2, RowAt w g R p0 p1 p2 l0 c0 l1 c1 l2 c2
theorem Rows.move {w w' : World} {g : Nat} {R : ERow} (h : Rows w g R) (hb : Below w.heap.size w w') : Rows w' g R := by
  obtain ⟨p0, p1, p2, l0, c0, l1, c1, l2, c2, h⟩ := h
  exact ⟨p0, p1, p2, l0, c0, l1, c1, l2, c2, (hb.block _ (lt_of_block h.blk)).trans h.blk, h.rest.below hb, h.x.below hb, h.y.below hb⟩
theorem iat_inj {p q : Nat → Prop} {w : World} {v : Value} {xs ys : List Nat} (h : AtP p w v xs) (k : AtP q w v ys) : xs = ys := by
  rcases h with ⟨rfl, rfl⟩ | ⟨b, off, cap, rfl, -, -, -, -, hx⟩
  · rcases k with ⟨-, rfl⟩ | ⟨b, off, cap, h1, -⟩
    · rfl
    · cases h1
  · rcases k with ⟨h1, -⟩ | ⟨b', off', cap', h1, -, -, -, -, hy⟩
    · cases h1
    · injection h1 with h2 h3 h4
      injection h2 with h2
      injection h2 with h5 h6 h7
      subst h5; subst h6
      apply List.ext_getElem h3
      intro i h8 h9
      have e1 := hx i h8
      have e2 := hy i h9
      rw [e1] at e2
      simp [h8, h9] at e2
      omega
/-- the rest of a row -/
noncomputable def restAt (w : World) (g : Nat) : Nat := by
  classical exact if h : ∃ R, Rows w g R then (Classical.choose h).1 else 0
theorem restAt_of {w : World} {g : Nat} {R : ERow} (h : Rows w g R) : restAt w g = R.1 := by
  have hex : ∃ R, Rows w g R := ⟨R, h⟩
  rw [restAt, dif_pos hex]
  obtain ⟨p0, p1, p2, l0, c0, l1, c1, l2, c2, hr⟩ := h
  obtain ⟨q0, q1, q2, m0, d0, m1, d1, m2, d2, hs⟩ := Classical.choose_spec hex
  have hb := hs.blk.symm.trans hr.blk
  simp only [Option.some.injEq, Obj.cells.injEq, Array.mk.injEq, List.cons.injEq] at hb
  have h1 := hs.rest
  rw [hb.1.1] at h1
  exact Nl.limbs_inj (iat_inj h1 hr.rest)
/-- what euclid gives -/
def EucOut (w w' : World) (e : Ending) (R S : ERow) (t : Bool) : Prop :=
  (∃ p0 p1 p2 l0 c0 l1 c1 l2 c2 q0 q1 q2 m0 d0 m1 d1 m2 d2, e = .returned (.tuple #[.agg #[.slice p0 l0 c0, .slice p1 l1 c1, .slice p2 l2 c2], .agg #[.slice q0 m0 d0, .slice q1 m1 d1, .slice q2 m2 d2], .bool t]) ∧
    At w' (.slice p0 l0 c0) (Nl.limbs R.1) ∧ At w' (.slice p1 l1 c1) (Nl.limbs R.2.1) ∧ At w' (.slice p2 l2 c2) (Nl.limbs R.2.2) ∧
    At w' (.slice q0 m0 d0) (Nl.limbs S.1) ∧ At w' (.slice q1 m1 d1) (Nl.limbs S.2.1) ∧ At w' (.slice q2 m2 d2) (Nl.limbs S.2.2)) ∧ Below w.heap.size w w'

theorem rows_step (K : Nat) (R S : ERow) (w3 : World) {p0 p1 p2 q0 q1 q2 r0 r1 r2 : Option Addr} {l0 c0 l1 c1 l2 c2 m0 d0 m1 d1 m2 d2 n0 e0 n1 e1 n2 e2 : Nat}
    (Y0 : w3.heap[K]? = some (.cells #[.slice p0 l0 c0, .slice p1 l1 c1, .slice p2 l2 c2] 143 (0, 0))) (Y1 : w3.heap[K + 1]? = some (.cells #[.slice q0 m0 d0, .slice q1 m1 d1, .slice q2 m2 d2] 143 (0, 0)))
    (h0 : At w3 (.slice q0 m0 d0) (Nl.limbs R.1)) (h1 : At w3 (.slice q1 m1 d1) (Nl.limbs R.2.1)) (h2 : At w3 (.slice q2 m2 d2) (Nl.limbs R.2.2))
    (g0 : At w3 (.slice r0 n0 e0) (Nl.limbs S.1)) (g1 : At w3 (.slice r1 n1 e1) (Nl.limbs S.2.1)) (g2 : At w3 (.slice r2 n2 e2) (Nl.limbs S.2.2)) :
    Rows ((((((w3.setCell ⟨K, 0, none⟩ (.slice q0 m0 d0)).setCell ⟨K, 1, none⟩ (.slice q1 m1 d1)).setCell ⟨K, 2, none⟩ (.slice q2 m2 d2)).setCell ⟨K + 1, 0, none⟩ (.slice r0 n0 e0)).setCell ⟨K + 1, 1, none⟩ (.slice r1 n1 e1)).setCell ⟨K + 1, 2, none⟩ (.slice r2 n2 e2)) K R ∧
    Rows ((((((w3.setCell ⟨K, 0, none⟩ (.slice q0 m0 d0)).setCell ⟨K, 1, none⟩ (.slice q1 m1 d1)).setCell ⟨K, 2, none⟩ (.slice q2 m2 d2)).setCell ⟨K + 1, 0, none⟩ (.slice r0 n0 e0)).setCell ⟨K + 1, 1, none⟩ (.slice r1 n1 e1)).setCell ⟨K + 1, 2, none⟩ (.slice r2 n2 e2)) (K + 1) S ∧
    ∀ B w, B ≤ K → Below B w w3 → Below B w ((((((w3.setCell ⟨K, 0, none⟩ (.slice q0 m0 d0)).setCell ⟨K, 1, none⟩ (.slice q1 m1 d1)).setCell ⟨K, 2, none⟩ (.slice q2 m2 d2)).setCell ⟨K + 1, 0, none⟩ (.slice r0 n0 e0)).setCell ⟨K + 1, 1, none⟩ (.slice r1 n1 e1)).setCell ⟨K + 1, 2, none⟩ (.slice r2 n2 e2)) := by
  obtain ⟨V, hV⟩ : ∃ V, V = ((w3.setCell ⟨K, 0, none⟩ (.slice q0 m0 d0)).setCell ⟨K, 1, none⟩ (.slice q1 m1 d1)).setCell ⟨K, 2, none⟩ (.slice q2 m2 d2) := ⟨_, rfl⟩
  rw [← hV]
  have G0 : V.heap[K]? = some (.cells #[.slice q0 m0 d0, .slice q1 m1 d1, .slice q2 m2 d2] 143 (0, 0)) := by rw [hV]; exact row_set _ _ _ Y0
  have G1 : V.heap[K + 1]? = some (.cells #[.slice q0 m0 d0, .slice q1 m1 d1, .slice q2 m2 d2] 143 (0, 0)) := by
    rw [hV, Below.heap_setCell _ ⟨K, 2, none⟩ _ _ (by simp), Below.heap_setCell _ ⟨K, 1, none⟩ _ _ (by simp), Below.heap_setCell _ ⟨K, 0, none⟩ _ _ (by simp)]
    exact Y1
  have move : ∀ {v : Value} {xs : List Nat}, At w3 v xs → At V v xs := fun h => by rw [hV]; exact at_row h Y0
  have move2 : ∀ {v : Value} {xs : List Nat}, At V v xs → At (((V.setCell ⟨K + 1, 0, none⟩ (.slice r0 n0 e0)).setCell ⟨K + 1, 1, none⟩ (.slice r1 n1 e1)).setCell ⟨K + 1, 2, none⟩ (.slice r2 n2 e2)) v xs := fun h => at_row (g := K + 1) h G1
  refine ⟨⟨_, _, _, _, _, _, _, _, _, ?_, move2 (move h0), move2 (move h1), move2 (move h2)⟩, ⟨_, _, _, _, _, _, _, _, _, row_set (g := K + 1) _ _ _ G1, move2 (move g0), move2 (move g1), move2 (move g2)⟩, fun B w hB hw => ?_⟩
  · rw [Below.heap_setCell _ ⟨K + 1, 2, none⟩ _ _ (by simp), Below.heap_setCell _ ⟨K + 1, 1, none⟩ _ _ (by simp), Below.heap_setCell _ ⟨K + 1, 0, none⟩ _ _ (by simp)]
    exact G0
  · exact below_row (by rw [hV]; exact below_row hw hB _ _ _) (g := K + 1) (by omega) _ _ _
theorem parity_next (i : Nat) : decide ((i + 1) % 2 = 1) = !decide (i % 2 = 1) := by
  by_cases h : i % 2 = 1
  · rw [decide_eq_true h, decide_eq_false (by omega)]; rfl
  · rw [decide_eq_false h, decide_eq_true (by omega)]; rfl

set_option maxRecDepth 10000 in
set_option maxHeartbeats 8000000 in
theorem euclid_small (va vb : Value) (ro : Nat → ERow) (N : Nat) (a b : Nat) (w : World) (ha : At w va (Nl.limbs a)) (hb : At w vb (Nl.limbs b)) (h0 : ro 0 = (a, 1, 0)) (h1 : ro 1 = (b, 0, 1))
    (hstep : ∀ i, i < N → ro (i + 2) = nextRow (ro i) (ro (i + 1))) (hpos : ∀ i, i < N → (ro (i + 1)).1 ≠ 0) (hend : (ro (N + 1)).1 = 0) (ht : ∀ i, i ≤ N + 1 → tiny (ro i)) :
    Calls Tryz.prog 137 #[va, vb] w fun e w' => EucOut w w' e (ro N) (ro (N + 1)) (decide (N % 2 = 1)) := by
  have HA := Lib.hid ha
  have HB := Lib.hid hb
  have HR := Lib.hid (And.intro h0 (And.intro h1 (And.intro hstep (And.intro hpos (And.intro hend ht)))))
  obtain ⟨pa, ca, rfl, -⟩ := ha.form
  obtain ⟨pb, cb, rfl, -⟩ := hb.form
  obtain ⟨la, hla⟩ : ∃ la, la = (Nl.limbs a).length := ⟨_, rfl⟩
  obtain ⟨lb, hlb⟩ : ∃ lb, lb = (Nl.limbs b).length := ⟨_, rfl⟩
  rw [← hla] at HA ⊢
  rw [← hlb] at HB ⊢
  clear ha hb h0 h1 hstep hpos hend ht hla hlb
  go_enter Tryz.func137, Tryz.ntmps137
  go_upto_region 1 with fail
  go_wp2_with fail
  obtain ⟨W, hW⟩ : ∃ W, W = (((w.alloc (.cells #[.slice pa la ca, .slice (some ⟨w.heap.size + 1 + 1, 0, none⟩) 1 1, .slice none 0 0] 143)).alloc (.cells #[.slice pb lb cb, .slice none 0 0, .slice (some ⟨w.heap.size + 1 + 1 + 1, 0, none⟩) 1 1] 143)).alloc (.cells #[.int .u32 1] 80)).alloc (.cells #[.int .u32 1] 80) := ⟨_, rfl⟩
  rw [← hW]
  have hbW : Below w.heap.size w W := by rw [hW]; exact (three_new w _ _ _).alloc (by simp <;> omega) _
  have B0 : W.heap[w.heap.size]? = some (.cells #[.slice pa la ca, .slice (some ⟨w.heap.size + 1 + 1, 0, none⟩) 1 1, .slice none 0 0] 143 (0, 0)) := by rw [hW]; exact al_keep _ _ (by simp <;> omega) (al_keep _ _ (by simp <;> omega) (al_keep _ _ (by simp <;> omega) (al_at _ _ (by simp))))
  have B1 : W.heap[w.heap.size + 1]? = some (.cells #[.slice pb lb cb, .slice none 0 0, .slice (some ⟨w.heap.size + 1 + 1 + 1, 0, none⟩) 1 1] 143 (0, 0)) := by rw [hW]; exact al_keep _ _ (by simp <;> omega) (al_keep _ _ (by simp <;> omega) (al_at _ _ (by simp)))
  have B2 : W.heap[w.heap.size + 2]? = some (.cells #[.int .u32 1] 80 (0, 0)) := by rw [hW]; exact al_keep _ _ (by simp <;> omega) (al_at _ _ (by simp))
  have B3 : W.heap[w.heap.size + 3]? = some (.cells #[.int .u32 1] 80 (0, 0)) := by rw [hW]; exact al_at _ _ (by simp)
  have at1 : ∀ g, W.heap[g]? = some (.cells #[.int .u32 1] 80 (0, 0)) → At W (.slice (some ⟨g, 0, none⟩) 1 1) (Nl.limbs 1) := fun g hg => by
    rw [limbs_one (by decide) (by decide)]
    exact .inr ⟨g, 0, 1, rfl, trivial, Nat.le_refl _, by omega, lt_of_block hg, fun i hi => by
      have : i = 0 := by simp at hi; omega
      subst this
      exact cell_of_row _ _ 0 _ _ (0, 0) hg⟩
  have R0 : Rows W w.heap.size (ro 0) := by
    rw [HR.out.1]
    exact ⟨_, _, _, _, _, _, _, _, _, B0, HA.out.below hbW, at1 _ B2, .inl ⟨rfl, Nl.limbs_zero⟩⟩
  have R1 : Rows W (w.heap.size + 1) (ro (0 + 1)) := by
    rw [show 0 + 1 = 1 from rfl, HR.out.2.1]
    exact ⟨_, _, _, _, _, _, _, _, _, B1, HB.out.below hbW, .inl ⟨rfl, Nl.limbs_zero⟩, at1 _ B3⟩
  have H0 := Lib.hid (And.intro R0 (And.intro R1 hbW))
  clear hW hbW B0 B1 B2 B3 at1 R0 R1
  go_loopw [6] (fun tv wr => ∃ i : Nat, i ≤ N ∧ tv = .bool (decide (i % 2 = 1)) ∧ Hid (Rows wr w.heap.size (ro i)) ∧ Hid (Rows wr (w.heap.size + 1) (ro (i + 1))) ∧ Hid (Below w.heap.size w wr)) (fun _ wr => restAt wr (w.heap.size + 1))
  case atStart => exact ⟨0, Nat.zero_le _, rfl, H0.out.1, H0.out.2.1, H0.out.2.2⟩
  case round =>
    obtain ⟨i, hi, rfl, hrow0, hrow1, hbel⟩ := hrel
    have HM := Lib.hid (restAt_of hrow1.out)
    obtain ⟨p0, p1, p2, l0, c0, l1, c1, l2, c2, hr⟩ := hrow0.out
    obtain ⟨q0, q1, q2, m0, d0, m1, d1, m2, d2, hs⟩ := hrow1.out
    have k0 := cell_of_row _ _ 0 _ _ (0, 0) hr.blk
    have k1 := cell_of_row _ _ 1 _ _ (0, 0) hr.blk
    have k2 := cell_of_row _ _ 2 _ _ (0, 0) hr.blk
    have j0 := cell_of_row _ _ 0 _ _ (0, 0) hs.blk
    have j1 := cell_of_row _ _ 1 _ _ (0, 0) hs.blk
    have j2 := cell_of_row _ _ 2 _ _ (0, 0) hs.blk
    simp only [List.getElem?_toArray, List.getElem?_cons_zero, List.getElem?_cons_succ] at k0 k1 k2 j0 j1 j2
    have f0 := frozen_of_row _ _ 0 _ _ hr.blk
    have f1 := frozen_of_row _ _ 1 _ _ hr.blk
    have f2 := frozen_of_row _ _ 2 _ _ hr.blk
    have f3 := frozen_of_row _ _ 0 _ _ hs.blk
    have f4 := frozen_of_row _ _ 1 _ _ hs.blk
    have f5 := frozen_of_row _ _ 2 _ _ hs.blk
    have HRS := Lib.hid (And.intro hr hs)
    have hm0 : m0 = (Nl.limbs (ro (i + 1)).1).length := by
      obtain ⟨aa, cc, hf, -⟩ := hs.rest.form
      simp only [Value.slice.injEq] at hf
      exact hf.2.1
    clear hr hs hrow0 hrow1
    by_cases hz : (ro (i + 1)).1 = 0
    · have e0 : decide (0 < m0) = false := decide_eq_false (by rw [hm0, hz, Nl.limbs_zero]; decide)
      have hiN : i = N := Classical.byContradiction fun hne => HR.out.2.2.2.1 i (by omega) hz
      subst hiN
      clear hm0 hz
      go_wp2_with fail
      obtain ⟨V, hV⟩ : ∃ V, V = ((wr.setCell ⟨w.heap.size, 0, none⟩ (.slice p0 l0 c0)).setCell ⟨w.heap.size, 1, none⟩ (.slice p1 l1 c1)).setCell ⟨w.heap.size, 2, none⟩ (.slice p2 l2 c2) := ⟨_, rfl⟩
      have G0 : V.heap[w.heap.size]? = some (.cells #[.slice p0 l0 c0, .slice p1 l1 c1, .slice p2 l2 c2] 143 (0, 0)) := by rw [hV]; exact row_set _ _ _ HRS.out.1.blk
      have G1 : V.heap[w.heap.size + 1]? = some (.cells #[.slice q0 m0 d0, .slice q1 m1 d1, .slice q2 m2 d2] 143 (0, 0)) := by
        rw [hV, Below.heap_setCell _ ⟨w.heap.size, 2, none⟩ _ _ (by simp), Below.heap_setCell _ ⟨w.heap.size, 1, none⟩ _ _ (by simp), Below.heap_setCell _ ⟨w.heap.size, 0, none⟩ _ _ (by simp)]
        exact HRS.out.2.blk
      have move : ∀ {v : Value} {xs : List Nat}, At wr v xs → At V v xs := fun h => by rw [hV]; exact at_row h HRS.out.1.blk
      have hbV : Below w.heap.size w V := by rw [hV]; exact below_row hbel.out (Nat.le_refl _) _ _ _
      have HV := Lib.hid (And.intro G0 (And.intro G1 hbV))
      have HMV := Lib.hid (And.intro (move HRS.out.1.rest) (And.intro (move HRS.out.1.x) (And.intro (move HRS.out.1.y) (And.intro (move HRS.out.2.rest) (And.intro (move HRS.out.2.x) (move HRS.out.2.y))))))
      clear G0 G1 hbV move
      go_region
      go_wp2_with fail
      have R1 := row_set (g := w.heap.size + 1) (.slice q0 m0 d0) (.slice q1 m1 d1) (.slice q2 m2 d2) HV.out.2.1
      have R0 : (((V.setCell ⟨w.heap.size + 1, 0, none⟩ (.slice q0 m0 d0)).setCell ⟨w.heap.size + 1, 1, none⟩ (.slice q1 m1 d1)).setCell ⟨w.heap.size + 1, 2, none⟩ (.slice q2 m2 d2)).heap[w.heap.size]? = some (.cells #[.slice p0 l0 c0, .slice p1 l1 c1, .slice p2 l2 c2] 143 (0, 0)) := by
        rw [Below.heap_setCell _ ⟨w.heap.size + 1, 2, none⟩ _ _ (by simp), Below.heap_setCell _ ⟨w.heap.size + 1, 1, none⟩ _ _ (by simp), Below.heap_setCell _ ⟨w.heap.size + 1, 0, none⟩ _ _ (by simp)]
        exact HV.out.1
      have move : ∀ {v : Value} {xs : List Nat}, At V v xs → At ((((V.setCell ⟨w.heap.size + 1, 0, none⟩ (.slice q0 m0 d0)).setCell ⟨w.heap.size + 1, 1, none⟩ (.slice q1 m1 d1)).setCell ⟨w.heap.size + 1, 2, none⟩ (.slice q2 m2 d2)).drew) v xs := fun h => at_row (g := w.heap.size + 1) h HV.out.2.1
      rw [← hV]
      refine bodyPost_ret (v := .tuple #[.agg #[.slice p0 l0 c0, .slice p1 l1 c1, .slice p2 l2 c2], .agg #[.slice q0 m0 d0, .slice q1 m1 d1, .slice q2 m2 d2], .bool (decide (i % 2 = 1))]) (results_int21 Tryz.results137 _ _ w.heap.size (w.heap.size + 1) _ _ _ rfl rfl rfl
        (run_loadVar_row (World.drew _) _ _ 143 _ (0, 0) _ R0 Tryz.underlying143 rfl (by kernel_rfl)) (run_loadVar_row (World.drew _) _ _ 143 _ (0, 0) _ R1 Tryz.underlying143 rfl (by kernel_rfl))) rfl ?_
      exact ⟨⟨_, _, _, _, _, _, _, _, _, _, _, _, _, _, _, _, _, _, rfl, move HMV.out.1, move HMV.out.2.1, move HMV.out.2.2.1, move HMV.out.2.2.2.1, move HMV.out.2.2.2.2.1, move HMV.out.2.2.2.2.2⟩, (below_row HV.out.2.2 (g := w.heap.size + 1) (by omega) _ _ _).trans (below_drewN _ 1 _)⟩
    · have e0 : decide (0 < m0) = true := decide_eq_true (by rw [hm0]; exact Nl.len_pos hz)
      have hiN : i < N := Classical.byContradiction fun hne => hz (by rw [show i = N by omega]; exact HR.out.2.2.2.2.1)
      have HIN := Lib.hid (And.intro hiN hz)
      have ht0 := (HR.out.2.2.2.2.2 i (by omega)).1
      have HL := Lib.hid (leading_small _ _ _ _ wr HRS.out.1.rest HRS.out.2.rest (nbits_lt (Nat.lt_trans ht0 (by decide))) (Nat.le_trans (Nl.limbs_lt (show (ro i).1 < 4294967296 ^ 1 by omega)) (by decide)))
      clear hm0 hz ht0 hiN
      go_wp2_with (go_at_call 181; refine HL.out.mono ?_; rintro e w' ⟨rfl, rfl⟩)
      refine (sure_zero wr).mono ?_
      rintro e w1 ⟨rfl, hb1⟩
      have X0 := (hb1.block _ (lt_of_block HRS.out.1.blk)).trans HRS.out.1.blk
      have X1 := (hb1.block _ (lt_of_block HRS.out.2.blk)).trans HRS.out.2.blk
      have HB1 := Lib.hid (And.intro hb1 (And.intro X0 X1))
      have HK := Lib.hid (lt_of_block X1)
      clear hb1 X0 X1 k0 k1 k2 j0 j1 j2 f0 f1 f2 f3 f4 f5 HL
      go_wp2_with fail
      obtain ⟨w2, hw2⟩ : ∃ w2, w2 = (w1.alloc (.cells #[.int .u64 0, .int .u64 0, .int .u64 0] 191)).alloc (.cells #[.int .u64 0, .int .u64 1, .int .u64 0] 191) := ⟨_, rfl⟩
      rw [← hw2]
      have hb12 : Below w1.heap.size w1 w2 := by rw [hw2]; exact two_new w1 _ _
      have hbr2 : Below wr.heap.size wr w2 := HB1.out.1.trans (hb12.mono HB1.out.1.size)
      have X0 := (hb12.block _ (lt_of_block HB1.out.2.1)).trans HB1.out.2.1
      have X1 := (hb12.block _ (lt_of_block HB1.out.2.2)).trans HB1.out.2.2
      have a0 := cell_of_row _ _ 0 _ _ (0, 0) X0
      have a1 := cell_of_row _ _ 1 _ _ (0, 0) X0
      have a2 := cell_of_row _ _ 2 _ _ (0, 0) X0
      have b0 := cell_of_row _ _ 0 _ _ (0, 0) X1
      have b1 := cell_of_row _ _ 1 _ _ (0, 0) X1
      have b2 := cell_of_row _ _ 2 _ _ (0, 0) X1
      simp only [List.getElem?_toArray, List.getElem?_cons_zero, List.getElem?_cons_succ] at a0 a1 a2 b0 b1 b2
      have hlt0 : w.heap.size < w2.heap.size := lt_of_block X0
      have hlt1 : w.heap.size + 1 < w2.heap.size := lt_of_block X1
      have bd := hbr2.trans (below_drewN w2 1 wr.heap.size)
      have HN := Lib.hid (next_any p0 p1 p2 q0 q1 q2 l0 c0 l1 c1 l2 c2 m0 d0 m1 d1 m2 d2 (ro i) (ro (i + 1)) w2.drew (HR.out.2.2.2.2.2 i (by omega)) (HR.out.2.2.2.2.2 (i + 1) (by have := HIN.out.1; omega)) HIN.out.2
        (HRS.out.1.rest.below bd) (HRS.out.1.x.below bd) (HRS.out.1.y.below bd) (HRS.out.2.rest.below bd) (HRS.out.2.x.below bd) (HRS.out.2.y.below bd))
      have HX := Lib.hid (And.intro X0 (And.intro X1 hbr2))
      clear hw2 hb12 hbr2 X0 X1 bd
      go_region_with (go_at_call 182; refine HN.out.mono ?_; rintro e w3 ⟨⟨r0, n0, e0, r1, n1, e1, r2, n2, e2, rfl, hr0, hr1, hr2⟩, hb3⟩; have Y0 := (hb3.block _ hlt0).trans HX.out.1; have Y1 := (hb3.block _ hlt1).trans HX.out.2.1; have y0 := cell_of_row _ _ 0 _ _ (0, 0) Y0; have y1 := cell_of_row _ _ 1 _ _ (0, 0) Y0; have y2 := cell_of_row _ _ 2 _ _ (0, 0) Y0; have z0 := cell_of_row _ _ 0 _ _ (0, 0) Y1; have z1 := cell_of_row _ _ 1 _ _ (0, 0) Y1; have z2 := cell_of_row _ _ 2 _ _ (0, 0) Y1; simp only [List.getElem?_toArray, List.getElem?_cons_zero, List.getElem?_cons_succ] at y0 y1 y2 z0 z1 z2; have f0 := frozen_of_row _ _ 0 _ _ Y0; have f1 := frozen_of_row _ _ 1 _ _ Y0; have f2 := frozen_of_row _ _ 2 _ _ Y0; have f3 := frozen_of_row _ _ 0 _ _ Y1; have f4 := frozen_of_row _ _ 1 _ _ Y1; have f5 := frozen_of_row _ _ 2 _ _ Y1; have HY := Lib.hid (And.intro Y0 (And.intro Y1 (And.intro hb3 (And.intro hr0 (And.intro hr1 hr2))))); clear Y0 Y1 hb3 hr0 hr1 hr2)
      all_goals
        obtain ⟨S0, S1, S2⟩ := rows_step w.heap.size (ro (i + 1)) (nextRow (ro i) (ro (i + 1))) w3 HY.out.1 HY.out.2.1 (HRS.out.2.rest.below (HX.out.2.2.trans ((below_drewN w2 1 _).trans (HY.out.2.2.1.mono HX.out.2.2.size)))) (HRS.out.2.x.below (HX.out.2.2.trans ((below_drewN w2 1 _).trans (HY.out.2.2.1.mono HX.out.2.2.size)))) (HRS.out.2.y.below (HX.out.2.2.trans ((below_drewN w2 1 _).trans (HY.out.2.2.1.mono HX.out.2.2.size)))) HY.out.2.2.2.1 HY.out.2.2.2.2.1 HY.out.2.2.2.2.2
        have S3 := S2 w.heap.size w (Nat.le_refl _) (hbel.out.trans ((HX.out.2.2.trans ((below_drewN w2 1 _).trans (HY.out.2.2.1.mono HX.out.2.2.size))).mono hbel.out.size))
        rw [← HR.out.2.2.1 i HIN.out.1] at S1
        have HS := Lib.hid (And.intro S0 (And.intro S1 S3))
        clear S0 S1 S2 S3 y0 y1 y2 z0 z1 z2 f0 f1 f2 f3 f4 f5 a0 a1 a2 b0 b1 b2 HN
        go_wp2_with fail
        case roundEnd => exact ⟨⟨i + 1, HIN.out.1, by rw [parity_next], HS.out.1, HS.out.2.1, HS.out.2.2⟩, by rw [restAt_of HS.out.2.1, HM.out, HR.out.2.2.1 i HIN.out.1]; exact Nat.mod_lt _ (Nat.pos_of_ne_zero HIN.out.2)⟩
end Go.Proofs.YtkbghamkalidcaaGreat
