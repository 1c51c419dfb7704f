/-
  What euclid of package whole does. Conditions: those that each theorem names.
-/
import Derived.Test.YtkbghamkalidcaaGreatOfW
import Derived.Test.YtkbghamkalidcaaGreatSureW
namespace Go.Proofs.YtkbghamkalidcaaGreat
open Go.RowKit

theorem eros_rest_max (a b : Nat) : ∀ i, (eros a b i).1 ≤ max a b ∧ (eros a b (i + 1)).1 ≤ max a b
  | 0 => ⟨Nat.le_max_left _ _, Nat.le_max_right _ _⟩
  | i + 1 => ⟨(eros_rest_max a b i).2, by rw [show i + 1 + 1 = i + 2 from rfl, eros_rest]; exact Nat.le_trans (Nat.mod_le _ _) (eros_rest_max a b i).1⟩
theorem eros_next_le {a b i : Nat} (h : (eros a b i).1 ≠ 0) : (eros a b (i + 1)).2.1 ≤ b ∧ (eros a b (i + 1)).2.2 ≤ a := by
  obtain ⟨h1, -, h2, -⟩ := eros_le a b i
  have h3 : 1 * (eros a b (i + 1)).2.1 ≤ (eros a b i).1 * (eros a b (i + 1)).2.1 := Nat.mul_le_mul_right _ (Nat.pos_of_ne_zero h)
  have h4 : 1 * (eros a b (i + 1)).2.2 ≤ (eros a b i).1 * (eros a b (i + 1)).2.2 := Nat.mul_le_mul_right _ (Nat.pos_of_ne_zero h)
  omega
theorem eros_wee1 {a b i : Nat} (h : i = 0 ∨ i = 1 ∨ (eros a b (i - 1)).1 ≠ 0) (la : (Nl.limbs a).length ≤ 50) (lb : (Nl.limbs b).length ≤ 50) : wee (eros a b i) := by
  have hm : (Nl.limbs (max a b)).length ≤ 100 := by
    rcases Nat.le_total a b with h | h
    · rw [Nat.max_eq_right h]; exact Nat.le_trans lb (by decide)
    · rw [Nat.max_eq_left h]; exact Nat.le_trans la (by decide)
  have h1 : (Nl.limbs 1).length ≤ 100 := Nat.le_trans (Nl.limbs_lt (show 1 < 4294967296 ^ 1 by decide)) (by decide)
  have h0 : (Nl.limbs 0).length ≤ 100 := by rw [Nl.limbs_zero]; decide
  refine ⟨Nat.le_trans (Nl.limbs_mono (eros_rest_max a b i).1) hm, ?_⟩
  match i, h with
  | 0, _ => exact ⟨h1, h0⟩
  | 1, _ => exact ⟨h0, h1⟩
  | k + 2, h =>
    have hk : (eros a b (k + 1)).1 ≠ 0 := by rcases h with h | h | h; omega; omega; exact h
    obtain ⟨n1, n2⟩ := eros_next_le hk
    exact ⟨Nat.le_trans (Nl.limbs_mono n1) (Nat.le_trans lb (by decide)), Nat.le_trans (Nl.limbs_mono n2) (Nat.le_trans la (by decide))⟩
theorem eros_wee {a b i : Nat} (h : ∀ j, j < i → (eros a b (j + 1)).1 ≠ 0) (la : (Nl.limbs a).length ≤ 50) (lb : (Nl.limbs b).length ≤ 50) : wee (eros a b i) ∧ wee (eros a b (i + 1)) := by
  constructor
  · refine eros_wee1 ?_ la lb
    match i, h with
    | 0, _ => exact .inl rfl
    | 1, _ => exact .inr (.inl rfl)
    | k + 2, h => exact .inr (.inr (h k (by omega)))
  · refine eros_wee1 ?_ la lb
    match i, h with
    | 0, _ => exact .inr (.inl rfl)
    | k + 1, h => exact .inr (.inr (h k (by omega)))
/-- many steps at once -/
theorem eros_jump {a b i : Nat} {F S : ERow} {t : Bool} (h : SureOut (eros a b i).1 (eros a b (i + 1)).1 F S t) (hp : ∀ j, j < i → (eros a b (j + 1)).1 ≠ 0) (hF : F.2.2 ≠ 0) :
    ∃ k, 1 ≤ k ∧ ofRow F (eros a b i) (eros a b (i + 1)) = eros a b (i + k) ∧ ofRow S (eros a b i) (eros a b (i + 1)) = eros a b (i + k + 1) ∧ (decide (i % 2 = 1) != t) = decide ((i + k) % 2 = 1) ∧
      (∀ j, j < i + k → (eros a b (j + 1)).1 ≠ 0) ∧ (eros a b (i + k + 1)).1 < (eros a b (i + 1)).1 ∧ F.2.1 < 4294967296 ∧ F.2.2 < 4294967296 ∧ S.2.1 < 4294967296 ∧ S.2.2 < 4294967296 := by
  rcases h with h | ⟨k, hk, e1, e2, et, hpos, f1, f2, g1, g2, -⟩
  · exact absurd h hF
  · have row : ∀ (G : ERow) j, (eros (eros a b i).1 (eros a b (i + 1)).1 j).2 = G.2 → ofRow G (eros a b i) (eros a b (i + 1)) = eros a b (i + j) := by
      intro G j hG
      obtain ⟨⟨s1, s2, s3⟩, -⟩ := eros_shift a b i j
      obtain ⟨sg, -⟩ := eros_signs (eros a b i).1 (eros a b (i + 1)).1 j
      rw [hG] at s2 s3 sg
      refine Prod.ext ?_ (Prod.ext ?_ ?_)
      · show (((G.2.1 * (eros a b i).1 : Nat) : Int) - ((G.2.2 * (eros a b (i + 1)).1 : Nat) : Int)).natAbs = _
        rw [s1, Int.natCast_mul, Int.natCast_mul]
        rcases esg_cases j with h | h <;> rw [h] at sg <;> omega
      · show (eros a b i).2.1 * G.2.1 + (eros a b (i + 1)).2.1 * G.2.2 = _
        rw [s2, Nat.mul_comm, Nat.mul_comm G.2.2]
      · show (eros a b i).2.2 * G.2.1 + (eros a b (i + 1)).2.2 * G.2.2 = _
        rw [s3, Nat.mul_comm, Nat.mul_comm G.2.2]
    have hpos2 : ∀ j, 1 ≤ j → j ≤ k + 1 → (eros a b (i + j)).1 ≠ 0 := fun j j1 j2 => by
      rw [(eros_shift a b i j).1.1]
      exact Nat.pos_iff_ne_zero.1 (hpos j j1 j2)
    refine ⟨k, hk, row F k e1, by rw [Nat.add_assoc]; exact row S (k + 1) e2, ?_, fun j hj => ?_, ?_, f1, f2, g1, g2⟩
    · rw [et]
      by_cases h1 : i % 2 = 1 <;> by_cases h2 : k % 2 = 1
      · rw [decide_eq_true h1, decide_eq_true h2, decide_eq_false (by omega)]; rfl
      · rw [decide_eq_true h1, decide_eq_false h2, decide_eq_true (by omega)]; rfl
      · rw [decide_eq_false h1, decide_eq_true h2, decide_eq_true (by omega)]; rfl
      · rw [decide_eq_false h1, decide_eq_false h2, decide_eq_false (by omega)]; rfl
    · by_cases hji : j < i
      · exact hp j hji
      · have := hpos2 (j + 1 - i) (by omega) (by omega)
        rw [show i + (j + 1 - i) = j + 1 by omega] at this
        exact this
    · -- rests fall
      have fall : ∀ d, d + 1 ≤ k → (eros a b (i + (d + 2))).1 < (eros a b (i + 1)).1 := by
        intro d
        induction d with
        | zero =>
          intro h
          rw [show i + (0 + 2) = i + 2 by omega, eros_rest]
          exact Nat.mod_lt _ (Nat.pos_of_ne_zero (hpos2 1 (by omega) (by omega)))
        | succ d ih =>
          intro h
          have h1 := ih (by omega)
          have h2 := eros_fall a b (i + d + 1) (Nat.pos_of_ne_zero (by have := hpos2 (d + 2) (by omega) (by omega); rw [show i + (d + 2) = i + d + 1 + 1 by omega] at this; exact this))
          rw [show i + (d + 1 + 2) = i + d + 1 + 2 by omega]
          rw [show i + (d + 2) = i + d + 1 + 1 by omega] at h1
          omega
      have := fall (k - 1) (by omega)
      rw [show i + (k - 1 + 2) = i + k + 1 by omega] at this
      exact this

theorem rows_step2 (K : Nat) (R S : ERow) (w3 : World) {p0 p1 p2 q0 q1 q2 r0 r1 r2 u0 u1 u2 : Option Addr} {l0 c0 l1 c1 l2 c2 m0 d0 m1 d1 m2 d2 n0 e0 n1 e1 n2 e2 k0 f0 k1 f1 k2 f2 : Nat}
    (Y0 : w3.heap[K]? = some (.cells #[.slice p0 l0 c0, .slice p1 l1 c1, .slice p2 l2 c2] 143 (0, 0))) (Y1 : w3.heap[K + 1]? = some (.cells #[.slice q0 m0 d0, .slice q1 m1 d1, .slice q2 m2 d2] 143 (0, 0)))
    (h0 : At w3 (.slice u0 k0 f0) (Nl.limbs R.1)) (h1 : At w3 (.slice u1 k1 f1) (Nl.limbs R.2.1)) (h2 : At w3 (.slice u2 k2 f2) (Nl.limbs R.2.2))
    (g0 : At w3 (.slice r0 n0 e0) (Nl.limbs S.1)) (g1 : At w3 (.slice r1 n1 e1) (Nl.limbs S.2.1)) (g2 : At w3 (.slice r2 n2 e2) (Nl.limbs S.2.2)) :
    Rows ((((((w3.setCell ⟨K, 0, none⟩ (.slice u0 k0 f0)).setCell ⟨K, 1, none⟩ (.slice u1 k1 f1)).setCell ⟨K, 2, none⟩ (.slice u2 k2 f2)).setCell ⟨K + 1, 0, none⟩ (.slice r0 n0 e0)).setCell ⟨K + 1, 1, none⟩ (.slice r1 n1 e1)).setCell ⟨K + 1, 2, none⟩ (.slice r2 n2 e2)) K R ∧
    Rows ((((((w3.setCell ⟨K, 0, none⟩ (.slice u0 k0 f0)).setCell ⟨K, 1, none⟩ (.slice u1 k1 f1)).setCell ⟨K, 2, none⟩ (.slice u2 k2 f2)).setCell ⟨K + 1, 0, none⟩ (.slice r0 n0 e0)).setCell ⟨K + 1, 1, none⟩ (.slice r1 n1 e1)).setCell ⟨K + 1, 2, none⟩ (.slice r2 n2 e2)) (K + 1) S ∧
    ∀ B w, B ≤ K → Below B w w3 → Below B w ((((((w3.setCell ⟨K, 0, none⟩ (.slice u0 k0 f0)).setCell ⟨K, 1, none⟩ (.slice u1 k1 f1)).setCell ⟨K, 2, none⟩ (.slice u2 k2 f2)).setCell ⟨K + 1, 0, none⟩ (.slice r0 n0 e0)).setCell ⟨K + 1, 1, none⟩ (.slice r1 n1 e1)).setCell ⟨K + 1, 2, none⟩ (.slice r2 n2 e2)) := by
  obtain ⟨V, hV⟩ : ∃ V, V = ((w3.setCell ⟨K, 0, none⟩ (.slice u0 k0 f0)).setCell ⟨K, 1, none⟩ (.slice u1 k1 f1)).setCell ⟨K, 2, none⟩ (.slice u2 k2 f2) := ⟨_, rfl⟩
  rw [← hV]
  have G0 : V.heap[K]? = some (.cells #[.slice u0 k0 f0, .slice u1 k1 f1, .slice u2 k2 f2] 143 (0, 0)) := by rw [hV]; exact row_set _ _ _ Y0
  have G1 : V.heap[K + 1]? = some (.cells #[.slice q0 m0 d0, .slice q1 m1 d1, .slice q2 m2 d2] 143 (0, 0)) := by
    rw [hV, Below.heap_setCell _ ⟨K, 2, none⟩ _ _ (by simp), Below.heap_setCell _ ⟨K, 1, none⟩ _ _ (by simp), Below.heap_setCell _ ⟨K, 0, none⟩ _ _ (by simp)]
    exact Y1
  have move : ∀ {v : Value} {xs : List Nat}, At w3 v xs → At V v xs := fun h => by rw [hV]; exact at_row h Y0
  have move2 : ∀ {v : Value} {xs : List Nat}, At V v xs → At (((V.setCell ⟨K + 1, 0, none⟩ (.slice r0 n0 e0)).setCell ⟨K + 1, 1, none⟩ (.slice r1 n1 e1)).setCell ⟨K + 1, 2, none⟩ (.slice r2 n2 e2)) v xs := fun h => at_row (g := K + 1) h G1
  refine ⟨⟨_, _, _, _, _, _, _, _, _, ?_, move2 (move h0), move2 (move h1), move2 (move h2)⟩, ⟨_, _, _, _, _, _, _, _, _, row_set (g := K + 1) _ _ _ G1, move2 (move g0), move2 (move g1), move2 (move g2)⟩, fun B w hB hw => ?_⟩
  · rw [Below.heap_setCell _ ⟨K + 1, 2, none⟩ _ _ (by simp), Below.heap_setCell _ ⟨K + 1, 1, none⟩ _ _ (by simp), Below.heap_setCell _ ⟨K + 1, 0, none⟩ _ _ (by simp)]
    exact G0
  · exact below_row (by rw [hV]; exact below_row hw hB _ _ _) (g := K + 1) (by omega) _ _ _
set_option maxRecDepth 10000 in
set_option maxHeartbeats 8000000 in
theorem euclid_gen (va vb : Value) (a b : Nat) (w : World) (ha : At w va (Nl.limbs a)) (hb : At w vb (Nl.limbs b)) (hla0 : (Nl.limbs a).length ≤ 50) (hlb0 : (Nl.limbs b).length ≤ 50) :
    Calls Tryz.prog 137 #[va, vb] w fun e w' => ∃ N, EucOut w w' e (eros a b N) (eros a b (N + 1)) (decide (N % 2 = 1)) ∧ (eros a b (N + 1)).1 = 0 ∧ ∀ j, j < N → (eros a b (j + 1)).1 ≠ 0 := by
  have HA := Lib.hid ha
  have HB := Lib.hid hb
  have HR := Lib.hid (And.intro hla0 hlb0)
  obtain ⟨pa, ca, rfl, -⟩ := ha.form
  obtain ⟨pb, cb, rfl, -⟩ := hb.form
  obtain ⟨la, hla⟩ : ∃ la, la = (Nl.limbs a).length := ⟨_, rfl⟩
  obtain ⟨lb, hlb⟩ : ∃ lb, lb = (Nl.limbs b).length := ⟨_, rfl⟩
  rw [← hla] at HA ⊢
  rw [← hlb] at HB ⊢
  clear ha hb hla0 hlb0 hla hlb
  go_enter Tryz.func137, Tryz.ntmps137
  go_upto_region 1 with fail
  go_wp2_with fail
  obtain ⟨W, hW⟩ : ∃ W, W = (((w.alloc (.cells #[.slice pa la ca, .slice (some ⟨w.heap.size + 1 + 1, 0, none⟩) 1 1, .slice none 0 0] 143)).alloc (.cells #[.slice pb lb cb, .slice none 0 0, .slice (some ⟨w.heap.size + 1 + 1 + 1, 0, none⟩) 1 1] 143)).alloc (.cells #[.int .u32 1] 80)).alloc (.cells #[.int .u32 1] 80) := ⟨_, rfl⟩
  rw [← hW]
  have hbW : Below w.heap.size w W := by rw [hW]; exact (three_new w _ _ _).alloc (by simp <;> omega) _
  have B0 : W.heap[w.heap.size]? = some (.cells #[.slice pa la ca, .slice (some ⟨w.heap.size + 1 + 1, 0, none⟩) 1 1, .slice none 0 0] 143 (0, 0)) := by rw [hW]; exact al_keep _ _ (by simp <;> omega) (al_keep _ _ (by simp <;> omega) (al_keep _ _ (by simp <;> omega) (al_at _ _ (by simp))))
  have B1 : W.heap[w.heap.size + 1]? = some (.cells #[.slice pb lb cb, .slice none 0 0, .slice (some ⟨w.heap.size + 1 + 1 + 1, 0, none⟩) 1 1] 143 (0, 0)) := by rw [hW]; exact al_keep _ _ (by simp <;> omega) (al_keep _ _ (by simp <;> omega) (al_at _ _ (by simp)))
  have B2 : W.heap[w.heap.size + 2]? = some (.cells #[.int .u32 1] 80 (0, 0)) := by rw [hW]; exact al_keep _ _ (by simp <;> omega) (al_at _ _ (by simp))
  have B3 : W.heap[w.heap.size + 3]? = some (.cells #[.int .u32 1] 80 (0, 0)) := by rw [hW]; exact al_at _ _ (by simp)
  have at1 : ∀ g, W.heap[g]? = some (.cells #[.int .u32 1] 80 (0, 0)) → At W (.slice (some ⟨g, 0, none⟩) 1 1) (Nl.limbs 1) := fun g hg => by
    rw [limbs_one (by decide) (by decide)]
    exact .inr ⟨g, 0, 1, rfl, trivial, Nat.le_refl _, by omega, lt_of_block hg, fun i hi => by
      have : i = 0 := by simp at hi; omega
      subst this
      exact cell_of_row _ _ 0 _ _ (0, 0) hg⟩
  have R0 : Rows W w.heap.size (eros a b 0) := by
    exact ⟨_, _, _, _, _, _, _, _, _, B0, HA.out.below hbW, at1 _ B2, .inl ⟨rfl, Nl.limbs_zero⟩⟩
  have R1 : Rows W (w.heap.size + 1) (eros a b (0 + 1)) := by
    exact ⟨_, _, _, _, _, _, _, _, _, B1, HB.out.below hbW, .inl ⟨rfl, Nl.limbs_zero⟩, at1 _ B3⟩
  have H0 := Lib.hid (And.intro R0 (And.intro R1 hbW))
  clear hW hbW B0 B1 B2 B3 at1 R0 R1
  go_loopw [6] (fun tv wr => ∃ i : Nat, tv = .bool (decide (i % 2 = 1)) ∧ Hid (∀ j, j < i → (eros a b (j + 1)).1 ≠ 0) ∧ Hid (Rows wr w.heap.size (eros a b i)) ∧ Hid (Rows wr (w.heap.size + 1) (eros a b (i + 1))) ∧ Hid (Below w.heap.size w wr)) (fun _ wr => restAt wr (w.heap.size + 1))
  case atStart => exact ⟨0, rfl, fun j hj => absurd hj (Nat.not_lt_zero j), H0.out.1, H0.out.2.1, H0.out.2.2⟩
  case round =>
    obtain ⟨i, rfl, hi, hrow0, hrow1, hbel⟩ := hrel
    have HWE := Lib.hid (eros_wee hi.out HR.out.1 HR.out.2)
    have HM := Lib.hid (restAt_of hrow1.out)
    obtain ⟨p0, p1, p2, l0, c0, l1, c1, l2, c2, hr⟩ := hrow0.out
    obtain ⟨q0, q1, q2, m0, d0, m1, d1, m2, d2, hs⟩ := hrow1.out
    have k0 := cell_of_row _ _ 0 _ _ (0, 0) hr.blk
    have k1 := cell_of_row _ _ 1 _ _ (0, 0) hr.blk
    have k2 := cell_of_row _ _ 2 _ _ (0, 0) hr.blk
    have j0 := cell_of_row _ _ 0 _ _ (0, 0) hs.blk
    have j1 := cell_of_row _ _ 1 _ _ (0, 0) hs.blk
    have j2 := cell_of_row _ _ 2 _ _ (0, 0) hs.blk
    simp only [List.getElem?_toArray, List.getElem?_cons_zero, List.getElem?_cons_succ] at k0 k1 k2 j0 j1 j2
    have f0 := frozen_of_row _ _ 0 _ _ hr.blk
    have f1 := frozen_of_row _ _ 1 _ _ hr.blk
    have f2 := frozen_of_row _ _ 2 _ _ hr.blk
    have f3 := frozen_of_row _ _ 0 _ _ hs.blk
    have f4 := frozen_of_row _ _ 1 _ _ hs.blk
    have f5 := frozen_of_row _ _ 2 _ _ hs.blk
    have HRS := Lib.hid (And.intro hr hs)
    have hm0 : m0 = (Nl.limbs (eros a b (i + 1)).1).length := by
      obtain ⟨aa, cc, hf, -⟩ := hs.rest.form
      simp only [Value.slice.injEq] at hf
      exact hf.2.1
    clear hr hs hrow0 hrow1
    by_cases hz : (eros a b (i + 1)).1 = 0
    · have e0 : decide (0 < m0) = false := decide_eq_false (by rw [hm0, hz, Nl.limbs_zero]; decide)
      have HZZ := Lib.hid hz
      clear hm0 hz
      go_wp2_with fail
      obtain ⟨V, hV⟩ : ∃ V, V = ((wr.setCell ⟨w.heap.size, 0, none⟩ (.slice p0 l0 c0)).setCell ⟨w.heap.size, 1, none⟩ (.slice p1 l1 c1)).setCell ⟨w.heap.size, 2, none⟩ (.slice p2 l2 c2) := ⟨_, rfl⟩
      have G0 : V.heap[w.heap.size]? = some (.cells #[.slice p0 l0 c0, .slice p1 l1 c1, .slice p2 l2 c2] 143 (0, 0)) := by rw [hV]; exact row_set _ _ _ HRS.out.1.blk
      have G1 : V.heap[w.heap.size + 1]? = some (.cells #[.slice q0 m0 d0, .slice q1 m1 d1, .slice q2 m2 d2] 143 (0, 0)) := by
        rw [hV, Below.heap_setCell _ ⟨w.heap.size, 2, none⟩ _ _ (by simp), Below.heap_setCell _ ⟨w.heap.size, 1, none⟩ _ _ (by simp), Below.heap_setCell _ ⟨w.heap.size, 0, none⟩ _ _ (by simp)]
        exact HRS.out.2.blk
      have move : ∀ {v : Value} {xs : List Nat}, At wr v xs → At V v xs := fun h => by rw [hV]; exact at_row h HRS.out.1.blk
      have hbV : Below w.heap.size w V := by rw [hV]; exact below_row hbel.out (Nat.le_refl _) _ _ _
      have HV := Lib.hid (And.intro G0 (And.intro G1 hbV))
      have HMV := Lib.hid (And.intro (move HRS.out.1.rest) (And.intro (move HRS.out.1.x) (And.intro (move HRS.out.1.y) (And.intro (move HRS.out.2.rest) (And.intro (move HRS.out.2.x) (move HRS.out.2.y))))))
      clear G0 G1 hbV move
      go_region
      go_wp2_with fail
      have R1 := row_set (g := w.heap.size + 1) (.slice q0 m0 d0) (.slice q1 m1 d1) (.slice q2 m2 d2) HV.out.2.1
      have R0 : (((V.setCell ⟨w.heap.size + 1, 0, none⟩ (.slice q0 m0 d0)).setCell ⟨w.heap.size + 1, 1, none⟩ (.slice q1 m1 d1)).setCell ⟨w.heap.size + 1, 2, none⟩ (.slice q2 m2 d2)).heap[w.heap.size]? = some (.cells #[.slice p0 l0 c0, .slice p1 l1 c1, .slice p2 l2 c2] 143 (0, 0)) := by
        rw [Below.heap_setCell _ ⟨w.heap.size + 1, 2, none⟩ _ _ (by simp), Below.heap_setCell _ ⟨w.heap.size + 1, 1, none⟩ _ _ (by simp), Below.heap_setCell _ ⟨w.heap.size + 1, 0, none⟩ _ _ (by simp)]
        exact HV.out.1
      have move : ∀ {v : Value} {xs : List Nat}, At V v xs → At ((((V.setCell ⟨w.heap.size + 1, 0, none⟩ (.slice q0 m0 d0)).setCell ⟨w.heap.size + 1, 1, none⟩ (.slice q1 m1 d1)).setCell ⟨w.heap.size + 1, 2, none⟩ (.slice q2 m2 d2)).drew) v xs := fun h => at_row (g := w.heap.size + 1) h HV.out.2.1
      rw [← hV]
      refine bodyPost_ret (v := .tuple #[.agg #[.slice p0 l0 c0, .slice p1 l1 c1, .slice p2 l2 c2], .agg #[.slice q0 m0 d0, .slice q1 m1 d1, .slice q2 m2 d2], .bool (decide (i % 2 = 1))]) (results_int21 Tryz.results137 _ _ w.heap.size (w.heap.size + 1) _ _ _ rfl rfl rfl
        (run_loadVar_row (World.drew _) _ _ 143 _ (0, 0) _ R0 Tryz.underlying143 rfl (by kernel_rfl)) (run_loadVar_row (World.drew _) _ _ 143 _ (0, 0) _ R1 Tryz.underlying143 rfl (by kernel_rfl))) rfl ?_
      exact ⟨i, ⟨⟨_, _, _, _, _, _, _, _, _, _, _, _, _, _, _, _, _, _, rfl, move HMV.out.1, move HMV.out.2.1, move HMV.out.2.2.1, move HMV.out.2.2.2.1, move HMV.out.2.2.2.2.1, move HMV.out.2.2.2.2.2⟩, (below_row HV.out.2.2 (g := w.heap.size + 1) (by omega) _ _ _).trans (below_drewN _ 1 _)⟩, HZZ.out, hi.out⟩
    · have e0 : decide (0 < m0) = true := decide_eq_true (by rw [hm0]; exact Nl.len_pos hz)
      have HIN := Lib.hid hz
      have HL := Lib.hid (leading_gen _ _ _ _ wr HRS.out.1.rest HRS.out.2.rest HWE.out.1.1 HWE.out.2.1)
      clear hm0 hz
      go_wp2_with fail
      refine HL.out.mono ?_
      rintro e w0 ⟨⟨sx, sy, M, r0, r1, rfl, eM, eN, hr0, hr1, hsx, hsy⟩, hb0⟩
      have HSU := Lib.hid (sure_any _ _ sx sy M r0 r1 w0 eM eN hr0 hr1 hsx hsy)
      have HB0 := Lib.hid hb0
      clear eM eN hr0 hr1 hsx hsy hb0 HL
      go_wp2_with fail
      refine HSU.out.mono ?_
      rintro e w1 ⟨⟨F, S, st, rfl, hso⟩, hb01⟩
      have hb1 := HB0.out.trans (hb01.mono HB0.out.size)
      have X0 := (hb1.block _ (lt_of_block HRS.out.1.blk)).trans HRS.out.1.blk
      have X1 := (hb1.block _ (lt_of_block HRS.out.2.blk)).trans HRS.out.2.blk
      have HB1 := Lib.hid (And.intro hb1 (And.intro X0 X1))
      have HSO := Lib.hid hso
      clear hb1 hb01 X0 X1 k0 k1 k2 j0 j1 j2 f0 f1 f2 f3 f4 f5 HSU HB0 hso
      obtain ⟨fr, fx, fy⟩ := F
      obtain ⟨gr, gx, gy⟩ := S
      have ef : (Value.agg (shv (fr, fx, fy))) = .agg #[.int .u64 (fr : Nat), .int .u64 (fx : Nat), .int .u64 (fy : Nat)] := rfl
      have eg : (Value.agg (shv (gr, gx, gy))) = .agg #[.int .u64 (gr : Nat), .int .u64 (gx : Nat), .int .u64 (gy : Nat)] := rfl
      rw [ef, eg]
      by_cases hfy : fy = 0
      · have ey : ((fy : Int) == 0) = true := by simp [hfy]
        clear hfy
        go_wp2_with fail
        obtain ⟨w2, hw2⟩ : ∃ w2, w2 = (w1.alloc (.cells #[.int .u64 (fr : Nat), .int .u64 (fx : Nat), .int .u64 (fy : Nat)] 191)).alloc (.cells #[.int .u64 (gr : Nat), .int .u64 (gx : Nat), .int .u64 (gy : Nat)] 191) := ⟨_, rfl⟩
        rw [← hw2]
        have hb12 : Below w1.heap.size w1 w2 := by rw [hw2]; exact two_new w1 _ _
        have hbr2 : Below wr.heap.size wr w2 := HB1.out.1.trans (hb12.mono HB1.out.1.size)
        have X0 := (hb12.block _ (lt_of_block HB1.out.2.1)).trans HB1.out.2.1
        have X1 := (hb12.block _ (lt_of_block HB1.out.2.2)).trans HB1.out.2.2
        have a0 := cell_of_row _ _ 0 _ _ (0, 0) X0
        have a1 := cell_of_row _ _ 1 _ _ (0, 0) X0
        have a2 := cell_of_row _ _ 2 _ _ (0, 0) X0
        have b0 := cell_of_row _ _ 0 _ _ (0, 0) X1
        have b1 := cell_of_row _ _ 1 _ _ (0, 0) X1
        have b2 := cell_of_row _ _ 2 _ _ (0, 0) X1
        simp only [List.getElem?_toArray, List.getElem?_cons_zero, List.getElem?_cons_succ] at a0 a1 a2 b0 b1 b2
        have hlt0 : w.heap.size < w2.heap.size := lt_of_block X0
        have hlt1 : w.heap.size + 1 < w2.heap.size := lt_of_block X1
        have bd := hbr2.trans (below_drewN w2 1 wr.heap.size)
        have HN := Lib.hid (next_gen p0 p1 p2 q0 q1 q2 l0 c0 l1 c1 l2 c2 m0 d0 m1 d1 m2 d2 (eros a b i) (eros a b (i + 1)) w2.drew HWE.out.1 HWE.out.2 HIN.out
          (HRS.out.1.rest.below bd) (HRS.out.1.x.below bd) (HRS.out.1.y.below bd) (HRS.out.2.rest.below bd) (HRS.out.2.x.below bd) (HRS.out.2.y.below bd))
        have HX := Lib.hid (And.intro X0 (And.intro X1 hbr2))
        clear hw2 hb12 hbr2 X0 X1 bd
        go_region_with (go_at_call 182; refine HN.out.mono ?_; rintro e w3 ⟨⟨r0, n0, e0, r1, n1, e1, r2, n2, e2, rfl, hr0, hr1, hr2⟩, hb3⟩; have Y0 := (hb3.block _ hlt0).trans HX.out.1; have Y1 := (hb3.block _ hlt1).trans HX.out.2.1; have y0 := cell_of_row _ _ 0 _ _ (0, 0) Y0; have y1 := cell_of_row _ _ 1 _ _ (0, 0) Y0; have y2 := cell_of_row _ _ 2 _ _ (0, 0) Y0; have z0 := cell_of_row _ _ 0 _ _ (0, 0) Y1; have z1 := cell_of_row _ _ 1 _ _ (0, 0) Y1; have z2 := cell_of_row _ _ 2 _ _ (0, 0) Y1; simp only [List.getElem?_toArray, List.getElem?_cons_zero, List.getElem?_cons_succ] at y0 y1 y2 z0 z1 z2; have f0 := frozen_of_row _ _ 0 _ _ Y0; have f1 := frozen_of_row _ _ 1 _ _ Y0; have f2 := frozen_of_row _ _ 2 _ _ Y0; have f3 := frozen_of_row _ _ 0 _ _ Y1; have f4 := frozen_of_row _ _ 1 _ _ Y1; have f5 := frozen_of_row _ _ 2 _ _ Y1; have HY := Lib.hid (And.intro Y0 (And.intro Y1 (And.intro hb3 (And.intro hr0 (And.intro hr1 hr2))))); clear Y0 Y1 hb3 hr0 hr1 hr2)
        all_goals
          obtain ⟨S0, S1, S2⟩ := rows_step w.heap.size (eros a b (i + 1)) (nextRow (eros a b i) (eros a b (i + 1))) w3 HY.out.1 HY.out.2.1 (HRS.out.2.rest.below (HX.out.2.2.trans ((below_drewN w2 1 _).trans (HY.out.2.2.1.mono HX.out.2.2.size)))) (HRS.out.2.x.below (HX.out.2.2.trans ((below_drewN w2 1 _).trans (HY.out.2.2.1.mono HX.out.2.2.size)))) (HRS.out.2.y.below (HX.out.2.2.trans ((below_drewN w2 1 _).trans (HY.out.2.2.1.mono HX.out.2.2.size)))) HY.out.2.2.2.1 HY.out.2.2.2.2.1 HY.out.2.2.2.2.2
          have S3 := S2 w.heap.size w (Nat.le_refl _) (hbel.out.trans ((HX.out.2.2.trans ((below_drewN w2 1 _).trans (HY.out.2.2.1.mono HX.out.2.2.size))).mono hbel.out.size))
          rw [← eros_step] at S1
          have HS := Lib.hid (And.intro S0 (And.intro S1 S3))
          clear S0 S1 S2 S3 y0 y1 y2 z0 z1 z2 f0 f1 f2 f3 f4 f5 a0 a1 a2 b0 b1 b2 HN
          go_wp2_with fail
          case roundEnd => exact ⟨⟨i + 1, by rw [parity_next], fun j hj => (Nat.lt_or_eq_of_le (Nat.le_of_lt_succ hj)).elim (fun h => hi.out j h) (fun h => by rw [h]; exact HIN.out), HS.out.1, HS.out.2.1, HS.out.2.2⟩, by rw [restAt_of HS.out.2.1, HM.out, eros_rest]; exact Nat.mod_lt _ (Nat.pos_of_ne_zero HIN.out)⟩
      · skip
        have ey : ((fy : Int) == 0) = false := by simpa using hfy
        obtain ⟨k, hk, ro1, ro2, et, hp2, hless, bf1, bf2, bg1, bg2⟩ := eros_jump HSO.out hi.out hfy
        have HJ := Lib.hid (And.intro ro1 (And.intro ro2 (And.intro et (And.intro hp2 hless))))
        clear hfy ro1 ro2 et hp2 hless hk
        go_wp2_with fail
        obtain ⟨w2, hw2⟩ : ∃ w2, w2 = (w1.alloc (.cells #[.int .u64 (fr : Nat), .int .u64 (fx : Nat), .int .u64 (fy : Nat)] 191)).alloc (.cells #[.int .u64 (gr : Nat), .int .u64 (gx : Nat), .int .u64 (gy : Nat)] 191) := ⟨_, rfl⟩
        rw [← hw2]
        have hb12 : Below w1.heap.size w1 w2 := by rw [hw2]; exact two_new w1 _ _
        have hbr2 : Below wr.heap.size wr w2 := HB1.out.1.trans (hb12.mono HB1.out.1.size)
        have X0 := (hb12.block _ (lt_of_block HB1.out.2.1)).trans HB1.out.2.1
        have X1 := (hb12.block _ (lt_of_block HB1.out.2.2)).trans HB1.out.2.2
        have X2 : w2.heap[w1.heap.size]? = some (.cells #[.int .u64 (fr : Nat), .int .u64 (fx : Nat), .int .u64 (fy : Nat)] 191 (0, 0)) := by rw [hw2]; exact heap_alloc2_old w1 _ _
        have X3 : w2.heap[w1.heap.size + 1]? = some (.cells #[.int .u64 (gr : Nat), .int .u64 (gx : Nat), .int .u64 (gy : Nat)] 191 (0, 0)) := by rw [hw2]; exact heap_alloc2_new w1 _ _
        have hn1 : w.heap.size + 1 < w1.heap.size := lt_of_block HB1.out.2.2
        have bd := hbr2.trans (below_drewN w2 1 wr.heap.size)
        have HO1 := Lib.hid (of_gen (fr, fx, fy) (eros a b i) (eros a b (i + 1)) p0 p1 p2 q0 q1 q2 l0 c0 l1 c1 l2 c2 m0 d0 m1 d1 m2 d2 w2.drew bf1 bf2 HWE.out.1 HWE.out.2 (HRS.out.1.rest.below bd) (HRS.out.1.x.below bd) (HRS.out.1.y.below bd) (HRS.out.2.rest.below bd) (HRS.out.2.x.below bd) (HRS.out.2.y.below bd))
        have HO2 := Lib.hid (fun (w3 : World) (h : Below w2.drew.heap.size w2.drew w3) => of_gen (gr, gx, gy) (eros a b i) (eros a b (i + 1)) p0 p1 p2 q0 q1 q2 l0 c0 l1 c1 l2 c2 m0 d0 m1 d1 m2 d2 w3 bg1 bg2 HWE.out.1 HWE.out.2 ((HRS.out.1.rest.below bd).below h) ((HRS.out.1.x.below bd).below h) ((HRS.out.1.y.below bd).below h) ((HRS.out.2.rest.below bd).below h) ((HRS.out.2.x.below bd).below h) ((HRS.out.2.y.below bd).below h))
        rw [HJ.out.1] at HO1
        rw [HJ.out.2.1] at HO2
        have HX := Lib.hid hbr2
        clear hw2 hb12 hbr2 bd bf1 bf2 bg1 bg2
        refine wp_region_until [(8, w.heap.size, .cells #[.slice p0 l0 c0, .slice p1 l1 c1, .slice p2 l2 c2] 143 (0, 0)), (9, w.heap.size + 1, .cells #[.slice q0 m0 d0, .slice q1 m1 d1, .slice q2 m2 d2] 143 (0, 0)), (9, w1.heap.size, .cells #[.int .u64 (fr : Nat), .int .u64 (fx : Nat), .int .u64 (fy : Nat)] 191 (0, 0)), (9, w1.heap.size + 1, .cells #[.int .u64 (gr : Nat), .int .u64 (gx : Nat), .int .u64 (gy : Nat)] 191 (0, 0))] (by kernel_rfl) (until_cons (fun _ => X0) (until_cons (fun _ => X1) (until_cons (fun _ => X2) (until_cons (fun _ => X3) until_nil)))) (fun hU => ?_)
        refine wpU_take (i := 0) (v := ?_) [9] rfl (by kernel_rfl) (by kernel_rfl) (by kernel_rfl) (by kernel_rfl) (by kernel_rfl) (fun _ _ _ h => h) (Or.inl ⟨by rfl, ?_⟩) hU (fun hU0 => ?_)
        rotate_left
        · intro w hSw
          have e := hSw.trd (by decide)
          have e0 := cell_of_row _ _ 0 _ _ (0, 0) e
          have e1 := cell_of_row _ _ 1 _ _ (0, 0) e
          have e2 := cell_of_row _ _ 2 _ _ (0, 0) e
          simp only [List.getElem?_toArray, List.getElem?_cons_zero, List.getElem?_cons_succ] at e0 e1 e2
          go_simp
          try (with_reducible rfl)
        clear hU
        try simp only [Act.put, List.setIfInBounds_toArray]
        refine wpU_take (i := 1) (v := ?_) [8] rfl (by kernel_rfl) (by kernel_rfl) (by kernel_rfl) (by kernel_rfl) (by kernel_rfl) (fun _ _ _ h => h) (Or.inl ⟨by rfl, ?_⟩) hU0 (fun hU1 => ?_)
        rotate_left
        · intro w hSw
          have e := hSw.fst (by decide)
          have e0 := cell_of_row _ _ 0 _ _ (0, 0) e
          have e1 := cell_of_row _ _ 1 _ _ (0, 0) e
          have e2 := cell_of_row _ _ 2 _ _ (0, 0) e
          simp only [List.getElem?_toArray, List.getElem?_cons_zero, List.getElem?_cons_succ] at e0 e1 e2
          go_simp
          try (with_reducible rfl)
        clear hU0
        try simp only [Act.put]
        refine wpU_take (i := 2) (v := ?_) [9] rfl (by kernel_rfl) (by kernel_rfl) (by kernel_rfl) (by kernel_rfl) (by kernel_rfl) (fun _ _ _ h => h) (Or.inl ⟨by rfl, ?_⟩) hU1 (fun hU2 => ?_)
        rotate_left
        · intro w hSw
          have e := hSw.snd (by decide)
          have e0 := cell_of_row _ _ 0 _ _ (0, 0) e
          have e1 := cell_of_row _ _ 1 _ _ (0, 0) e
          have e2 := cell_of_row _ _ 2 _ _ (0, 0) e
          simp only [List.getElem?_toArray, List.getElem?_cons_zero, List.getElem?_cons_succ] at e0 e1 e2
          go_simp
          try (with_reducible rfl)
        clear hU1
        try simp only [Act.put]
        refine wpU_take (i := 4) (v := ?_) [9] rfl (by kernel_rfl) (by kernel_rfl) (by kernel_rfl) (by kernel_rfl) (by kernel_rfl) (fun _ _ _ h => h) (Or.inl ⟨by rfl, ?_⟩) hU2 (fun hU4 => ?_)
        rotate_left
        · intro w hSw
          have e := hSw.fth (by decide)
          have e0 := cell_of_row _ _ 0 _ _ (0, 0) e
          have e1 := cell_of_row _ _ 1 _ _ (0, 0) e
          have e2 := cell_of_row _ _ 2 _ _ (0, 0) e
          simp only [List.getElem?_toArray, List.getElem?_cons_zero, List.getElem?_cons_succ] at e0 e1 e2
          go_simp
          try (with_reducible rfl)
        clear hU2
        try simp only [Act.put]
        refine wpU_take (i := 5) (v := ?_) [8] rfl (by kernel_rfl) (by kernel_rfl) (by kernel_rfl) (by kernel_rfl) (by kernel_rfl) (fun _ _ _ h => h) (Or.inl ⟨by rfl, ?_⟩) hU4 (fun hU5 => ?_)
        rotate_left
        · intro w hSw
          have e := hSw.fst (by decide)
          have e0 := cell_of_row _ _ 0 _ _ (0, 0) e
          have e1 := cell_of_row _ _ 1 _ _ (0, 0) e
          have e2 := cell_of_row _ _ 2 _ _ (0, 0) e
          simp only [List.getElem?_toArray, List.getElem?_cons_zero, List.getElem?_cons_succ] at e0 e1 e2
          go_simp
          try (with_reducible rfl)
        clear hU4
        try simp only [Act.put]
        refine wpU_take (i := 6) (v := ?_) [9] rfl (by kernel_rfl) (by kernel_rfl) (by kernel_rfl) (by kernel_rfl) (by kernel_rfl) (fun _ _ _ h => h) (Or.inl ⟨by rfl, ?_⟩) hU5 (fun hU6 => ?_)
        rotate_left
        · intro w hSw
          have e := hSw.snd (by decide)
          have e0 := cell_of_row _ _ 0 _ _ (0, 0) e
          have e1 := cell_of_row _ _ 1 _ _ (0, 0) e
          have e2 := cell_of_row _ _ 2 _ _ (0, 0) e
          simp only [List.getElem?_toArray, List.getElem?_cons_zero, List.getElem?_cons_succ] at e0 e1 e2
          go_simp
          try (with_reducible rfl)
        clear hU5
        try simp only [Act.put]
        rw [show (Value.agg #[.int .u64 (fr : Nat), .int .u64 (fx : Nat), .int .u64 (fy : Nat)]) = .agg (shv (fr, fx, fy)) from rfl, show (Value.agg #[.int .u64 (gr : Nat), .int .u64 (gx : Nat), .int .u64 (gy : Nat)]) = .agg (shv (gr, gx, gy)) from rfl]
        refine wpU_next (i := 3) (by kernel_rfl) rfl (fun K hK => ?_)
        go_simp
        go_at_call 183
        refine HO1.out.mono ?_
        rintro e w3 ⟨⟨u0, x0, y0, u1, x1, y1, u2, x2, y2, rfl, ha0, ha1, ha2⟩, hb3⟩
        have Y0 := (hb3.block _ (lt_of_block X0)).trans X0
        have Y1 := (hb3.block _ (lt_of_block X1)).trans X1
        have Y2 := (hb3.block _ (lt_of_block X2)).trans X2
        have Y3 := (hb3.block _ (lt_of_block X3)).trans X3
        refine hK.out _ _ (until_cons (fun _ => Y0) (until_cons (fun _ => Y1) (until_cons (fun _ => Y2) (until_cons (fun _ => Y3) until_nil)))) (fun hU3 => ?_)
        clear hK K hU6 hU3 HO1
        try simp only [Act.put, List.setIfInBounds_toArray, List.set_cons_zero, List.set_cons_succ]
        refine wpU_next (i := 7) (by kernel_rfl) rfl (fun K hK => ?_)
        go_simp
        go_at_call 183
        refine (HO2.out w3 hb3).mono ?_
        rintro e w4 ⟨⟨v0, s0, t0, v1, s1, t1, v2, s2, t2, rfl, hc0, hc1, hc2⟩, hb4⟩
        have Z0 := (hb4.block _ (lt_of_block Y0)).trans Y0
        have Z1 := (hb4.block _ (lt_of_block Y1)).trans Y1
        have Z2 := (hb4.block _ (lt_of_block Y2)).trans Y2
        have Z3 := (hb4.block _ (lt_of_block Y3)).trans Y3
        refine hK.out _ _ (until_cons (fun _ => Z0) (until_cons (fun _ => Z1) (until_cons (fun _ => Z2) (until_cons (fun _ => Z3) until_nil)))) (fun hU7 => ?_)
        have HA := Lib.hid (And.intro (ha0.below hb4) (And.intro (ha1.below hb4) (And.intro (ha2.below hb4) (And.intro hc0 (And.intro hc1 hc2)))))
        have HBW := Lib.hid (show Below w.heap.size w w4 from hbel.out.trans ((HX.out.trans ((below_drewN w2 1 _).trans ((hb3.trans (hb4.mono hb3.size)).mono HX.out.size))).mono hbel.out.size))
        clear hK K hU7 HO2 ha0 ha1 ha2 hc0 hc1 hc2 hb3 hb4 Y0 Y1 Y2 Y3 X0 X1 X2 X3
        try simp only [Act.put, List.setIfInBounds_toArray, List.set_cons_zero, List.set_cons_succ]
        have kl0 := cell_of_row _ _ 0 _ _ (0, 0) Z0
        have kl1 := cell_of_row _ _ 1 _ _ (0, 0) Z0
        have kl2 := cell_of_row _ _ 2 _ _ (0, 0) Z0
        simp only [List.getElem?_toArray, List.getElem?_cons_zero, List.getElem?_cons_succ] at kl0 kl1 kl2
        have zl0 := frozen_of_row _ _ 0 _ _ Z0
        have zl1 := frozen_of_row _ _ 1 _ _ Z0
        have zl2 := frozen_of_row _ _ 2 _ _ Z0
        refine wpU_next (i := 8) (by kernel_rfl) rfl (fun K hK => ?_)
        go_simp
        refine hK.out _ _ (until_cons (until_past (by kernel_rfl)) (until_cons (fun _ => (row3_other _ _ _ (by omega)).trans Z1) (until_cons (fun _ => (row3_other _ _ _ (by omega)).trans Z2) (until_cons (fun _ => (row3_other _ _ _ (by omega)).trans Z3) until_nil)))) (fun hU8 => ?_)
        clear hK K hU8 kl0 kl1 kl2 zl0 zl1 zl2
        try simp only [Act.put, List.setIfInBounds_toArray, List.set_cons_zero, List.set_cons_succ]
        obtain ⟨V1, hV1⟩ : ∃ V1, V1 = (((w4.setCell ⟨w.heap.size, 0, none⟩ (.slice u0 x0 y0)).setCell ⟨w.heap.size, 1, none⟩ (.slice u1 x1 y1)).setCell ⟨w.heap.size, 2, none⟩ (.slice u2 x2 y2)) := ⟨_, rfl⟩
        rw [← hV1]
        have A1 : V1.heap[w.heap.size + 1]? = some (.cells #[.slice q0 m0 d0, .slice q1 m1 d1, .slice q2 m2 d2] 143 (0, 0)) := by rw [hV1]; exact (row3_other _ _ _ (by omega)).trans Z1
        have kl0 := cell_of_row _ _ 0 _ _ (0, 0) A1
        have kl1 := cell_of_row _ _ 1 _ _ (0, 0) A1
        have kl2 := cell_of_row _ _ 2 _ _ (0, 0) A1
        simp only [List.getElem?_toArray, List.getElem?_cons_zero, List.getElem?_cons_succ] at kl0 kl1 kl2
        have zl0 := frozen_of_row _ _ 0 _ _ A1
        have zl1 := frozen_of_row _ _ 1 _ _ A1
        have zl2 := frozen_of_row _ _ 2 _ _ A1
        have HV1 := Lib.hid hV1
        clear hV1
        refine wpU_next (i := 9) (by kernel_rfl) rfl (fun K hK => ?_)
        go_simp
        refine hK.out _ _ (until_cons (until_past (by kernel_rfl)) (until_cons (until_past (by kernel_rfl)) (until_cons (until_past (by kernel_rfl)) (until_cons (until_past (by kernel_rfl)) until_nil)))) (fun hU9 => ?_)
        clear hK K hU9 kl0 kl1 kl2 zl0 zl1 zl2 A1
        try simp only [Act.put, List.setIfInBounds_toArray, List.set_cons_zero, List.set_cons_succ]
        refine wpU_done (by kernel_rfl) ?_ _
        obtain ⟨S0, S1, S2⟩ := rows_step2 w.heap.size (eros a b (i + k)) (eros a b (i + k + 1)) w4 Z0 Z1 HA.out.1 HA.out.2.1 HA.out.2.2.1 HA.out.2.2.2.1 HA.out.2.2.2.2.1 HA.out.2.2.2.2.2
        have S3 := S2 w.heap.size w (Nat.le_refl _) HBW.out
        rw [← HV1.out] at S0 S1 S3
        have HS := Lib.hid (And.intro S0 (And.intro S1 S3))
        clear S0 S1 S2 S3 Z0 Z1 Z2 Z3 HA HBW HV1
        go_wp2_with fail
        case roundEnd => exact ⟨⟨i + k, by rw [← HJ.out.2.2.1]; cases decide (i % 2 = 1) <;> cases st <;> rfl, HJ.out.2.2.2.1, HS.out.1, HS.out.2.1, HS.out.2.2⟩, by rw [restAt_of HS.out.2.1, HM.out]; exact HJ.out.2.2.2.2⟩
end Go.Proofs.YtkbghamkalidcaaGreat
