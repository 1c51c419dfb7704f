/-
  Division of natural numbers, for all valid numbers, as package whole meets it. Conditions: those that each theorem names.
  What row.next of package whole does. Conditions: those that each theorem names.
  What leadingBits of package whole does. Conditions: those that each theorem names.
-/
import Derived.Test.YtkbghamkalidcaaGreatBlocks
import Derived.Test.YtkbghamkalidcaaGreatOverG
import Derived.Test.YtkbghamkalidcaaGreatEucMAll
import Derived.Test.YtkbghamkalidcaaGreatEuclidI
import Derived.Test.YtkbghamkalidcaaGreatCountAll
import Derived.Test.YtkbghamkalidcaaGreatRefAll
namespace Go.Proofs.YtkbghamkalidcaaGreat
open Go.RowKit

theorem div_gen (va vb : Value) (m n : Nat) (w : World) (ha : At w va (Nl.limbs m)) (hb : At w vb (Nl.limbs n)) (hm : (Nl.limbs m).length ≤ 1024) (hn : (Nl.limbs n).length ≤ 1024) (h0 : n ≠ 0) :
    Calls Tryz.prog 140 #[va, vb] w fun e w' => DivN w w' e (m / n) (m % n) := by
  refine (div_any va vb _ _ w ha hb (Nl.limbs_small m) (Nl.limbs_small n) (fun v1 v2 h1 w' hw' => ?_)).mono ?_
  · rw [Nl.val_limbs, Nl.val_limbs]
    exact over_all _ _ _ _ w' (show IsN w' va m from ha.below hw') (show IsN w' vb n from hb.below hw') (Nat.le_trans hm (by decide)) (Nat.le_trans hn (by decide)) (Nat.pos_of_ne_zero h0)
  · rintro e w2 ⟨c, hc, ⟨u, v, rfl, h2, h3⟩, hb⟩
    rw [Nl.val_limbs, Nl.val_limbs] at h2
    have hc0 : c = 0 := by
      rcases hc with ⟨_, _, h⟩ | ⟨h, _⟩
      · rw [h, Nl.val_limbs, divK, if_neg (fun h => absurd h.2 (by decide)), if_neg h0]
      · rw [validB_limbs hm, validB_limbs hn] at h
        rcases h with h | h <;> cases h
    subst hc0
    obtain ⟨o1, o2⟩ := h2 rfl
    obtain ⟨a1, c1, rfl, -⟩ := o1.at.form
    obtain ⟨a2, c2, rfl, -⟩ := o2.at.form
    exact ⟨⟨_, _, _, _, _, _, rfl, o1.at.at, o2.at.at⟩, hb⟩

/-- the quotient and the rest of integers, rounded in a way -/
def divQ (how : Nat) (a b : Int) : Int := if a.natAbs % b.natAbs = 0 ∨ farB how (negB a) (negB b) (a.natAbs / b.natAbs) (a.natAbs % b.natAbs) b.natAbs = false then sgn (negB a != negB b) (a.natAbs / b.natAbs) else sgn (negB a != negB b) (a.natAbs / b.natAbs + 1)
def divR (how : Nat) (a b : Int) : Int := if a.natAbs % b.natAbs = 0 ∨ farB how (negB a) (negB b) (a.natAbs / b.natAbs) (a.natAbs % b.natAbs) b.natAbs = false then sgn (negB a) (a.natAbs % b.natAbs) else sgn (!negB a) (b.natAbs - a.natAbs % b.natAbs)

end Go.Proofs.YtkbghamkalidcaaGreat

namespace Go.Proofs.YtkbghamkalidcaaGreat
open Go.RowKit

/-- a row of numbers that are not too long -/
def wee (R : ERow) : Prop := (Nl.limbs R.1).length ≤ 100 ∧ (Nl.limbs R.2.1).length ≤ 100 ∧ (Nl.limbs R.2.2).length ≤ 100
set_option maxHeartbeats 4000000 in
theorem next_gen (p0 p1 p2 q0 q1 q2 : Option Addr) (l0 c0 l1 c1 l2 c2 m0 d0 m1 d1 m2 d2 : Nat) (R S : ERow) (w : World) (hR : wee R) (hS : wee S) (h0 : S.1 ≠ 0)
    (a0 : At w (.slice p0 l0 c0) (Nl.limbs R.1)) (a1 : At w (.slice p1 l1 c1) (Nl.limbs R.2.1)) (a2 : At w (.slice p2 l2 c2) (Nl.limbs R.2.2))
    (b0 : At w (.slice q0 m0 d0) (Nl.limbs S.1)) (b1 : At w (.slice q1 m1 d1) (Nl.limbs S.2.1)) (b2 : At w (.slice q2 m2 d2) (Nl.limbs S.2.2)) :
    Calls Tryz.prog 182 #[.agg #[.slice p0 l0 c0, .slice p1 l1 c1, .slice p2 l2 c2], .agg #[.slice q0 m0 d0, .slice q1 m1 d1, .slice q2 m2 d2]] w fun e w' =>
      (∃ r0 n0 e0 r1 n1 e1 r2 n2 e2, e = .returned (.agg #[.slice r0 n0 e0, .slice r1 n1 e1, .slice r2 n2 e2]) ∧ At w' (.slice r0 n0 e0) (Nl.limbs (nextRow R S).1) ∧ At w' (.slice r1 n1 e1) (Nl.limbs (nextRow R S).2.1) ∧ At w' (.slice r2 n2 e2) (Nl.limbs (nextRow R S).2.2)) ∧ Below w.heap.size w w' := by
  obtain ⟨W, hW⟩ : ∃ W, W = ((w.alloc (.cells #[.slice p0 l0 c0, .slice p1 l1 c1, .slice p2 l2 c2] 143)).alloc (.cells #[.slice q0 m0 d0, .slice q1 m1 d1, .slice q2 m2 d2] 143)).alloc (.cells #[.slice none 0 0, .slice none 0 0, .slice none 0 0] 143) := ⟨_, rfl⟩
  have hb : Below w.heap.size w W := by rw [hW]; exact three_new w _ _ _
  have B0 : W.heap[w.heap.size]? = some (.cells #[.slice p0 l0 c0, .slice p1 l1 c1, .slice p2 l2 c2] 143 (0, 0)) := by rw [hW]; exact al_keep _ _ (by simp <;> omega) (al_keep _ _ (by simp <;> omega) (al_at _ _ (by simp)))
  have B1 : W.heap[w.heap.size + 1]? = some (.cells #[.slice q0 m0 d0, .slice q1 m1 d1, .slice q2 m2 d2] 143 (0, 0)) := by rw [hW]; exact al_keep _ _ (by simp <;> omega) (al_at _ _ (by simp))
  have B2 : W.heap[w.heap.size + 2]? = some (.cells #[.slice none 0 0, .slice none 0 0, .slice none 0 0] 143 (0, 0)) := by rw [hW]; exact al_at _ _ (by simp)
  have lq : (Nl.limbs (R.1 / S.1)).length ≤ 100 := Nat.le_trans (Nl.limbs_mono (Nat.div_le_self _ _)) hR.1
  have HD := Lib.hid (div_gen _ _ R.1 S.1 W (a0.below hb) (b0.below hb) (Nat.le_trans hR.1 (by decide)) (Nat.le_trans hS.1 (by decide)) h0)
  have HX := Lib.hid (fun (w2 : World) (h : Below W.heap.size W w2) (v : Value) (hv : At w2 v (Nl.limbs (R.1 / S.1))) => sumTimes_any _ _ v R.2.1 S.2.1 (R.1 / S.1) w2 ((a1.below hb).below h) ((b1.below hb).below h) hv (Nat.le_trans hR.2.1 (by decide)) (Nat.le_trans hS.2.1 (by decide)) (Nat.le_trans lq (by decide)))
  have HY := Lib.hid (fun (w2 : World) (h : Below W.heap.size W w2) (v : Value) (hv : At w2 v (Nl.limbs (R.1 / S.1))) => sumTimes_any _ _ v R.2.2 S.2.2 (R.1 / S.1) w2 ((a2.below hb).below h) ((b2.below hb).below h) hv (Nat.le_trans hR.2.2 (by decide)) (Nat.le_trans hS.2.2 (by decide)) (Nat.le_trans lq (by decide)))
  have k0 := cell_of_row _ _ 0 _ _ (0, 0) B0
  have k1 := cell_of_row _ _ 1 _ _ (0, 0) B0
  have k2 := cell_of_row _ _ 2 _ _ (0, 0) B0
  have j0 := cell_of_row _ _ 0 _ _ (0, 0) B1
  have j1 := cell_of_row _ _ 1 _ _ (0, 0) B1
  have j2 := cell_of_row _ _ 2 _ _ (0, 0) B1
  simp only [List.getElem?_toArray, List.getElem?_cons_zero, List.getElem?_cons_succ] at k0 k1 k2 j0 j1 j2
  have HB := Lib.hid (And.intro hb (And.intro B0 (And.intro B1 B2)))
  clear a0 a1 a2 b0 b1 b2 hR hS h0 hb B0 B1 B2 lq
  go_enter Tryz.func182, Tryz.ntmps182
  go_upto_region 1 with fail
  rw [← hW]
  clear hW
  go_wp2_with fail
  refine HD.out.mono ?_
  rintro e w1 ⟨⟨pq, lq, cq, pr, lr, cr, rfl, hq, hr⟩, hb1⟩
  have H1 := Lib.hid (And.intro hq (And.intro hr hb1))
  have E0 := (hb1.block _ (lt_of_block HB.out.2.1)).trans HB.out.2.1
  have E1 := (hb1.block _ (lt_of_block HB.out.2.2.1)).trans HB.out.2.2.1
  have E2 := (hb1.block _ (lt_of_block HB.out.2.2.2)).trans HB.out.2.2.2
  have i1 := cell_of_row _ _ 1 _ _ (0, 0) E0
  have i2 := cell_of_row _ _ 2 _ _ (0, 0) E0
  have o1 := cell_of_row _ _ 1 _ _ (0, 0) E1
  have o2 := cell_of_row _ _ 2 _ _ (0, 0) E1
  simp only [List.getElem?_toArray, List.getElem?_cons_zero, List.getElem?_cons_succ] at i1 i2 o1 o2
  have hK0 : w.heap.size < w1.heap.size := lt_of_block E0
  have hK1 : w.heap.size + 1 < w1.heap.size := lt_of_block E1
  have hK2 : w.heap.size + 2 < w1.heap.size := lt_of_block E2
  have HE2 := Lib.hid E2
  clear hq hr hb1 HD k0 k1 k2 j0 j1 j2 E0 E1 E2
  go_wp2_with (go_at_call 139; refine (foundTwo_yes _ _ _ _ _ _ _).mono ?_; rintro e w' ⟨rfl, rfl⟩)
  have ne1 : ¬ w.heap.size = w.heap.size + 1 + 1 := by omega
  have ne2 : ¬ w.heap.size + 1 + 1 = w.heap.size := by omega
  have bd := below_drewN w1 1 w1.heap.size
  have HX1 := Lib.hid (HX.out w1.drew (H1.out.2.2.trans (bd.mono H1.out.2.2.size)) _ (H1.out.1.below bd))
  have HY1 := Lib.hid (fun (w2 : World) (h : Below w1.drew.heap.size w1.drew w2) => HY.out w2 ((H1.out.2.2.trans (bd.mono H1.out.2.2.size)).trans (h.mono (show W.heap.size ≤ w1.drew.heap.size from H1.out.2.2.size))) _ ((H1.out.1.below bd).below h))
  clear bd HX HY
  go_region_held3 (fun w' => w'.cell? ⟨w.heap.size, 1, none⟩ = some (.slice p1 l1 c1) ∧ w'.cell? ⟨w.heap.size, 2, none⟩ = some (.slice p2 l2 c2) ∧ w'.cell? ⟨w.heap.size + 1, 1, none⟩ = some (.slice q1 m1 d1) ∧ w'.cell? ⟨w.heap.size + 1, 2, none⟩ = some (.slice q2 m2 d2))
    (first
      | go_keep
      | assumption)
    (first
      | (go_at_call_of 215 (Value.slice p1 l1 c1); refine HX1.out.mono ?_; rintro e w2 ⟨⟨px, nx, cx, rfl, hx⟩, hb2⟩; have u1 := (hb2.cell (p := ⟨w.heap.size, 1, none⟩) hK0).trans i1; have u2 := (hb2.cell (p := ⟨w.heap.size, 2, none⟩) hK0).trans i2; have v1 := (hb2.cell (p := ⟨w.heap.size + 1, 1, none⟩) hK1).trans o1; have v2 := (hb2.cell (p := ⟨w.heap.size + 1, 2, none⟩) hK1).trans o2)
      | (go_at_call_of 215 (Value.slice p2 l2 c2); refine (HY1.out w2 hb2).mono ?_; rintro e w3 ⟨⟨py, ny, cy, rfl, hy⟩, hb3⟩; have hb23 := hb2.trans (hb3.mono hb2.size); have x1 := (hb23.cell (p := ⟨w.heap.size, 1, none⟩) hK0).trans i1; have x2 := (hb23.cell (p := ⟨w.heap.size, 2, none⟩) hK0).trans i2; have y1 := (hb23.cell (p := ⟨w.heap.size + 1, 1, none⟩) hK1).trans o1; have y2 := (hb23.cell (p := ⟨w.heap.size + 1, 2, none⟩) hK1).trans o2; have BQ := (hb23.block (w.heap.size + 2) hK2).trans HE2.out; have f0 := frozen_of_row _ _ 0 _ _ BQ; have f1 := frozen_of_row _ _ 1 _ _ BQ; have f2 := frozen_of_row _ _ 2 _ _ BQ; have g0 := cell_of_row _ _ 0 _ _ (0, 0) BQ; have g1 := cell_of_row _ _ 1 _ _ (0, 0) BQ; have g2 := cell_of_row _ _ 2 _ _ (0, 0) BQ; have HZ := Lib.hid (And.intro BQ (And.intro hx (And.intro hy (And.intro hb3 hb23)))); clear BQ))
  clear hb2 hb3 hb23 hx hy u1 u2 v1 v2 x1 x2 y1 y2 i1 i2 o1 o2 HX1 HY1 ne1 ne2 hK0 hK1 hK2
  go_wp2_with fail
  refine bodyPost_ret (v := .agg #[.slice pr lr cr, .slice px nx cx, .slice py ny cy]) (results_cell_row Tryz.results182 _ _ (w.heap.size + 2) 143 _ (0, 0) _ rfl (row_set (g := w.heap.size + 2) _ _ _ HZ.out.1) Tryz.underlying143 rfl (by kernel_rfl)) rfl ?_
  have hb13 : Below w1.heap.size w1 w3 := (below_drewN w1 1 _).trans (HZ.out.2.2.2.2.mono (Nat.le_refl _))
  have hbw3 : Below w.heap.size w w3 := HB.out.1.trans ((H1.out.2.2.trans (hb13.mono H1.out.2.2.size)).mono HB.out.1.size)
  exact ⟨⟨_, _, _, _, _, _, _, _, _, rfl, at_row (g := w.heap.size + 2) (H1.out.2.1.below hb13) HZ.out.1, at_row (g := w.heap.size + 2) (HZ.out.2.1.below HZ.out.2.2.2.1) HZ.out.1, at_row (g := w.heap.size + 2) HZ.out.2.2.1 HZ.out.1⟩, below_row hbw3 (g := w.heap.size + 2) (by omega) _ _ _⟩
end Go.Proofs.YtkbghamkalidcaaGreat

namespace Go.Proofs.YtkbghamkalidcaaGreat
open Go.RowKit

theorem shr_one (va : Value) (m k : Nat) (w : World) (ha : At w va (Nl.limbs m)) (hm : (Nl.limbs m).length ≤ 1024) (hk : k ≤ 1000000) :
    Calls Tryz.prog 127 #[va, .int .i64 k] w fun e w' => OneN w w' e (m / 2 ^ k) := by
  have hp := shr_any va _ (k : Int) w ha (Nl.limbs_small m) (by omega) (by omega)
  rw [Nl.val_limbs, Int.toNat_natCast] at hp
  refine hp.mono fun e w' h => ?_
  obtain ⟨c, hc, hn⟩ := h
  have hl : (Nl.limbs (m / 2 ^ k)).length ≤ 1024 := Nat.le_trans (Nl.limbs_mono (Nat.div_le_self _ _)) hm
  have hc0 : c = 0 := by
    rcases hc with ⟨_, h⟩ | ⟨h, _⟩
    · rw [h, shrK, if_pos (by omega), codeOf, if_neg (by decide), if_pos hl]
    · rw [validB_limbs hm] at h; cases h
  subst hc0
  exact natOut_yes hn rfl

set_option maxHeartbeats 1000000 in
theorem leading_gen (va vb : Value) (m n : Nat) (w : World) (ha : At w va (Nl.limbs m)) (hb : At w vb (Nl.limbs n)) (lm : (Nl.limbs m).length ≤ 100) (ln : (Nl.limbs n).length ≤ 100) :
    Calls Tryz.prog 181 #[va, vb] w fun e w' => (∃ x y M r0 r1 : Nat, e = .returned (.tuple #[.int .u64 x, .int .u64 y]) ∧ m = x * M + r0 ∧ n = y * M + r1 ∧ r0 < M ∧ r1 < M ∧ x < 9223372036854775808 ∧ y < 9223372036854775808) ∧ Below w.heap.size w w' := by
  have H := Lib.hid (bitsOf_any va m w ha (Nat.le_trans lm (by decide)))
  have HB := Lib.hid (bitsOf_any vb n w hb (Nat.le_trans ln (by decide)))
  have l1 := nbits_len m
  have l2 := nbits_len n
  have hm1 := lt_nbits m
  have hn1 := lt_nbits n
  have HS := Lib.hid (fun k (hk : k ≤ 1000000) => shr_one va m k w ha (Nat.le_trans lm (by decide)) hk)
  have HT := Lib.hid (fun k (hk : k ≤ 1000000) w2 (h2 : Below w.heap.size w w2) => shr_one vb n k w2 (hb.below h2) (Nat.le_trans ln (by decide)) hk)
  obtain ⟨a, c, rfl, -⟩ := ha.form
  obtain ⟨b, d, rfl, -⟩ := hb.form
  obtain ⟨k, hk⟩ : ∃ k, k = nbits m := ⟨_, rfl⟩
  obtain ⟨j, hj⟩ : ∃ j, j = nbits n := ⟨_, rfl⟩
  rw [← hk] at H l1 hm1
  rw [← hj] at HB l2 hn1
  have HM := Lib.hid (And.intro hm1 hn1)
  have zero : ∃ x y M r0 r1 : Nat, (Ending.returned (.tuple #[.int .u64 0, .int .u64 0]) : Ending) = .returned (.tuple #[.int .u64 x, .int .u64 y]) ∧ m = x * M + r0 ∧ n = y * M + r1 ∧ r0 < M ∧ r1 < M ∧ x < 9223372036854775808 ∧ y < 9223372036854775808 :=
    ⟨0, 0, m + n + 1, m, n, rfl, by omega, by omega, by omega, by omega, by decide, by decide⟩
  have HZ := Lib.hid zero
  clear ha hb hk hj hm1 hn1 zero
  by_cases h1 : k ≤ 63
  · have e0 : decide (k ≤ 63) = true := decide_eq_true h1
    have e1 : decide ((k : Int) ≤ 63) = true := decide_eq_true (by omega)
    clear lm ln l1 l2 h1
    go_enter Tryz.func181, Tryz.ntmps181
    go_wp2_with fail
    refine H.out.mono ?_
    rintro e w' ⟨rfl, rfl⟩
    go_wp2_with fail
    go_ret2
    exact ⟨HZ.out, Below.refl _ _⟩
  · have e0 : decide (k ≤ 63) = false := decide_eq_false h1
    have e1 : decide ((k : Int) ≤ 63) = false := decide_eq_false (by omega)
    have e2 : decide ((k : Int) > 32736) = false := decide_eq_false (by omega)
    have e3 : decide (k > 32736) = false := decide_eq_false (by omega)
    by_cases h2 : k < j
    · have e4 : decide ((j : Int) > (k : Int)) = true := decide_eq_true (by omega)
      have e5 : decide (k < j) = true := decide_eq_true h2
      clear lm ln l1 l2 h1 h2
      go_enter Tryz.func181, Tryz.ntmps181
      go_wp2_with fail
      refine H.out.mono ?_
      rintro e w' ⟨rfl, rfl⟩
      go_wp2_with fail
      refine HB.out.mono ?_
      rintro e w' ⟨rfl, rfl⟩
      go_wp2_with fail
      go_ret2
      exact ⟨HZ.out, Below.refl _ _⟩
    · have e4 : decide ((j : Int) > (k : Int)) = false := decide_eq_false (by omega)
      have e5 : decide (k < j) = false := decide_eq_false h2
      obtain ⟨s, hs⟩ : ∃ s, s = k - 63 := ⟨_, rfl⟩
      have hs2 : (k : Int) - 63 = (s : Int) := by omega
      have hsb : s ≤ 1000000 := by omega
      have hw : IntKind.i64.wrap ((k : Int) - 63) = (s : Int) := by rw [IntKind.wrap_i64]; omega
      obtain ⟨x, hx⟩ : ∃ x, x = m / 2 ^ s := ⟨_, rfl⟩
      obtain ⟨y, hy⟩ : ∃ y, y = n / 2 ^ s := ⟨_, rfl⟩
      have hp : (2 : Nat) ^ k = 9223372036854775808 * 2 ^ s := by rw [show k = 63 + s by omega, Nat.pow_add]
      have hpj : (2 : Nat) ^ j ≤ 2 ^ k := Nat.pow_le_pow_right (by decide) (by omega)
      have x63 : x < 9223372036854775808 := by
        rw [hx, Nat.div_lt_iff_lt_mul (Nat.two_pow_pos s), ← hp]; exact HM.out.1
      have y63 : y < 9223372036854775808 := by
        rw [hy, Nat.div_lt_iff_lt_mul (Nat.two_pow_pos s), ← hp]; exact Nat.lt_of_lt_of_le HM.out.2 hpj
      have HR := Lib.hid (show ∃ x' y' M r0 r1 : Nat, (Ending.returned (.tuple #[.int .u64 x, .int .u64 y]) : Ending) = .returned (.tuple #[.int .u64 x', .int .u64 y']) ∧ m = x' * M + r0 ∧ n = y' * M + r1 ∧ r0 < M ∧ r1 < M ∧ x' < 9223372036854775808 ∧ y' < 9223372036854775808 from
        ⟨x, y, 2 ^ s, m % 2 ^ s, n % 2 ^ s, rfl, by rw [hx, Nat.mul_comm, Nat.div_add_mod], by rw [hy, Nat.mul_comm, Nat.div_add_mod], Nat.mod_lt _ (Nat.two_pow_pos s), Nat.mod_lt _ (Nat.two_pow_pos s), x63, y63⟩)
      have HS1 := Lib.hid (HS.out s hsb)
      have HT1 := Lib.hid (HT.out s hsb)
      rw [← hx] at HS1
      rw [← hy] at HT1
      clear lm ln l2 h1 h2 hs hx hy hp hpj HS HT HM
      go_enter Tryz.func181, Tryz.ntmps181
      go_wp2_with fail
      refine H.out.mono ?_
      rintro e w' ⟨rfl, rfl⟩
      go_wp2_with fail
      refine HB.out.mono ?_
      rintro e w' ⟨rfl, rfl⟩
      go_wp2_with fail
      try rw [hs2]
      refine HS1.out.mono ?_
      rintro e w1 ⟨⟨p1, n1, c1, rfl, v1⟩, hb1⟩
      have H1 := Lib.hid (And.intro v1 hb1)
      clear v1 hb1
      go_wp2_with (go_at_call 125; refine (found_yes _ _ _ _).mono ?_; rintro e w' ⟨rfl, rfl⟩)
      refine (wordOf_yes _ x w1 H1.out.1 (by omega)).mono ?_
      rintro e w' ⟨rfl, rfl⟩
      go_wp2_with fail
      refine (HT1.out w1 H1.out.2).mono ?_
      rintro e w2 ⟨⟨p2, n2, c2, rfl, v2⟩, hb2⟩
      have H2 := Lib.hid (And.intro v2 (H1.out.2.trans (hb2.mono H1.out.2.size)))
      clear v2 hb2
      go_wp2_with (go_at_call 125; refine (found_yes _ _ _ _).mono ?_; rintro e w' ⟨rfl, rfl⟩)
      refine (wordOf_yes _ y w2 H2.out.1 (by omega)).mono ?_
      rintro e w' ⟨rfl, rfl⟩
      go_wp2_with fail
      go_ret2
      exact ⟨HR.out, H2.out.2⟩
end Go.Proofs.YtkbghamkalidcaaGreat
