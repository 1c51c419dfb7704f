/-
  What the reference's up does: has a quotient of integers to be one greater? Conditions: those that the theorem names.
  What the reference's Shr does. Conditions: those that each theorem names.
  What the reference's Shl does. Conditions: those that each theorem names.
  What the reference's Bits does. Conditions: those that the theorem names.
  What Parse does with 007. Conditions: those that each theorem names.
  What divide does to a row of one's own. What slices.Clone does. Conditions: those that each theorem names.
  What isNumeral does. Conditions: those that each theorem names.
  What extended does to a number of one's own. Conditions: those that each theorem names.
  What fromDigits does. Conditions: those that each theorem names.
  What Parse does. Conditions: those that each theorem names.
  What the reference's Step and Parse do. Conditions: those that each theorem names.
  What the reference's short does. Conditions: those that each theorem names.
  What the reference's Div does. Conditions: those that each theorem names.
  What the reference's Div does for any numbers. Conditions: those that each theorem names.
  What the reference's Quotient of integers gives. Written by wip/tool/genquot.py. Conditions: those that each theorem names.
  What Div of package whole does where there is an error. Conditions: those that each theorem names.
-/
import Derived.Test.YtkbghamkalidcaaGreatOverG
import Derived.Test.YtkbghamkalidcaaGreatLawSumsAll
import Derived.Test.YtkbghamkalidcaaGreatRefTrim
import Derived.Test.YtkbghamkalidcaaGreatMinusAll
import Derived.Test.YtkbghamkalidcaaGreatRefAll
import Derived.Test.YtkbghamkalidcaaGreatDivideAll
import Derived.Laws.OwnMore
import Derived.Lib.Strings
import Derived.Test.YtkbghamkalidcaaGreatOne
import Derived.Laws.Rows
import Derived.Test.YtkbghamkalidcaaGreatElements
import Derived.Test.YtkbghamkalidcaaGreatThree
import Derived.Test.YtkbghamkalidcaaGreatLeadWAll
import Derived.Test.YtkbghamkalidcaaGreatRef2fAll
import Derived.Test.YtkbghamkalidcaaGreatDivI
namespace Go.Proofs.YtkbghamkalidcaaGreat
open Go.RowKit

set_option maxHeartbeats 4000000 in
theorem rup_any (s0 s1 : Bool) (p0 p1 pq pr : Option Addr) (l0 c0 l1 c1 lq cq lr cr how q r d : Nat) (w : World) (hq : At w (.slice pq lq cq) (Nl.limbs q)) (hr : At w (.slice pr lr cr) (Nl.limbs r)) (hd : At w (.slice p1 l1 c1) (Nl.limbs d))
    (fr : (Nl.limbs r).length ≤ 100000) (fd : (Nl.limbs d).length ≤ 100000) (h1 : 1 ≤ how) (h4 : how ≤ 4) :
    Calls Tryz.prog 133 #[.agg #[.bool s0, .slice p0 l0 c0], .agg #[.bool s1, .slice p1 l1 c1], .agg #[.slice pq lq cq, .slice pr lr cr], .int .i64 how] w fun e w' => e = .returned (.bool (!decide (r = 0) && farB how s0 s1 q r d)) ∧ Below w.heap.size w w' := by
  have hlr : lr = (Nl.limbs r).length := by
    obtain ⟨aa, cc, hf, -⟩ := hr.form
    simp only [Value.slice.injEq] at hf
    exact hf.2.1
  have hlq : lq = (Nl.limbs q).length := by
    obtain ⟨aa, cc, hf, -⟩ := hq.form
    simp only [Value.slice.injEq] at hf
    exact hf.2.1
  obtain ⟨W, hW⟩ : ∃ W, W = ((w.alloc (.cells #[.bool s0, .slice p0 l0 c0] 25)).alloc (.cells #[.bool s1, .slice p1 l1 c1] 25)).alloc (.cells #[.slice pq lq cq, .slice pr lr cr] 139) := ⟨_, rfl⟩
  have hb : Below w.heap.size w W := by rw [hW]; exact three_new w _ _ _
  have B0 : W.heap[w.heap.size]? = some (.cells #[.bool s0, .slice p0 l0 c0] 25 (0, 0)) := by rw [hW]; exact al_keep _ _ (by simp <;> omega) (al_keep _ _ (by simp <;> omega) (al_at _ _ (by simp)))
  have B1 : W.heap[w.heap.size + 1]? = some (.cells #[.bool s1, .slice p1 l1 c1] 25 (0, 0)) := by rw [hW]; exact al_keep _ _ (by simp <;> omega) (al_at _ _ (by simp))
  have B2 : W.heap[w.heap.size + 1 + 1]? = some (.cells #[.slice pq lq cq, .slice pr lr cr] 139 (0, 0)) := by rw [hW]; exact al_at _ _ (by simp)
  have k00 := cell_of_row _ _ 0 _ _ (0, 0) B0
  have k10 := cell_of_row _ _ 0 _ _ (0, 0) B1
  have k11 := cell_of_row _ _ 1 _ _ (0, 0) B1
  have k20 := cell_of_row _ _ 0 _ _ (0, 0) B2
  have k21 := cell_of_row _ _ 1 _ _ (0, 0) B2
  simp only [List.getElem?_toArray, List.getElem?_cons_zero, List.getElem?_cons_succ] at k00 k10 k11 k20 k21
  have HB := Lib.hid (And.intro hb (And.intro (lt_of_block B1) (lt_of_block B2)))
  have HA := Lib.hid (And.intro (hq.below hb) (And.intro (hr.below hb) (hd.below hb)))
  have HF := Lib.hid (And.intro fr fd)
  have HLQ := Lib.hid hlq
  by_cases hr0 : r = 0
  · have hl0 : lr = 0 := by rw [hlr, hr0, Nl.limbs_zero]; rfl
    subst hl0
    have HR := Lib.hid (show (!decide (r = 0) && farB how s0 s1 q r d) = false by rw [decide_eq_true hr0]; rfl)
    clear hq hr hd fr fd h1 h4 hlr hlq hb B0 B1 B2 hr0
    go_enter Tryz.func133, Tryz.ntmps133
    go_wp2_with fail
    rw [← hW]
    go_ret
    exact ⟨by rw [HR.out]; rfl, HB.out.1⟩
  · have hl0 : lr ≠ 0 := by rw [hlr]; intro h; exact hr0 (limbs_nil.1 h)
    have e0 : ((lr : Int) == 0) = false := by rw [beq_eq_false_iff_ne]; omega
    have hRR : (!decide (r = 0) && farB how s0 s1 q r d) = farB how s0 s1 q r d := by rw [decide_eq_false hr0]; rfl
    rw [hRR]
    clear hq hr hd fr fd hlr hlq hb B0 B1 B2 hr0 hRR hl0
    have hh : how = 1 ∨ how = 2 ∨ how = 3 ∨ how = 4 := by omega
    clear h1 h4
    rcases hh with rfl | rfl | rfl | rfl
    · go_enter Tryz.func133, Tryz.ntmps133
      go_wp2_with fail
      rw [← hW]
      go_ret
      exact ⟨rfl, HB.out.1⟩
    · cases s0 <;> cases s1
      all_goals
        go_enter Tryz.func133, Tryz.ntmps133
        go_wp2_with fail
        rw [← hW]
        go_ret
        exact ⟨rfl, HB.out.1⟩
    · cases s0
      all_goals
        go_enter Tryz.func133, Tryz.ntmps133
        go_wp2_with fail
        rw [← hW]
        go_ret
        exact ⟨rfl, HB.out.1⟩
    · have z20 : ∀ w', Below W.heap.size W w' → w'.cell? ⟨w.heap.size + 1 + 1, 0, none⟩ = some (.slice pq lq cq) := fun w' h => (h.cell HB.out.2.2).trans k20
      have z21 : ∀ w', Below W.heap.size W w' → w'.cell? ⟨w.heap.size + 1 + 1, 1, none⟩ = some (.slice pr lr cr) := fun w' h => (h.cell HB.out.2.2).trans k21
      have z11 : ∀ w', Below W.heap.size W w' → w'.cell? ⟨w.heap.size + 1, 1, none⟩ = some (.slice p1 l1 c1) := fun w' h => (h.cell HB.out.2.1).trans k11
      have hrr : Below W.heap.size W W := Below.refl _ _
      have HAD := Lib.hid (fun (w' : World) (h : Below W.heap.size W w') => addR _ _ r r w' (HA.out.2.1.below h) (HA.out.2.1.below h) (Nat.le_trans HF.out.1 (by decide)) (Nat.le_trans HF.out.1 (by decide)))
      have HCM := Lib.hid (fun (w' : World) (h : Below W.heap.size W w') (v : Value) (hv : At w' v (Nl.limbs (r + r))) => by
        have := refCmp_any v (.slice p1 l1 c1) _ _ w' hv (HA.out.2.2.below h) (Nl.limbs_small _) (Nl.limbs_small _) (by have := Nl.len_add r r; have := HF.out.1; omega) (by have := HF.out.2; omega)
        rw [Nl.val_limbs, Nl.val_limbs] at this
        exact this)
      obtain ⟨K, hK⟩ : ∃ K, K = cmpI ((r + r : Nat) : Int) (d : Int) := ⟨_, rfl⟩
      rw [← hK] at HCM
      have hthree : K = 1 ∧ d < 2 * r ∨ K = 0 ∧ 2 * r = d ∨ K = -1 ∧ 2 * r < d := by
        rw [hK, cmpI]
        split
        · right; right; exact ⟨rfl, by omega⟩
        · split
          · left; exact ⟨rfl, by omega⟩
          · right; left; exact ⟨rfl, by omega⟩
      have HT := Lib.hid hthree
      have HQ := Lib.hid (show ∀ w', Below W.heap.size W w' → 0 < lq → ∃ b off, pq = some ⟨b, off, none⟩ ∧ w'.cell? ⟨b, off, none⟩ = some (.int .u32 ((q % 4294967296 : Nat) : Int)) from by
        intro w' hw' h0
        rcases HA.out.1.below hw' with ⟨h1, h2⟩ | ⟨b, off, cap, h1, -, -, -, -, h6⟩
        · simp only [Value.slice.injEq] at h1; omega
        · simp only [Value.slice.injEq] at h1
          refine ⟨b, off, h1.1, ?_⟩
          have h7 := h6 0 (by omega)
          rw [Nat.add_zero] at h7
          rw [h7]
          have hq0 : q ≠ 0 := fun h => by rw [HLQ.out, h, Nl.limbs_zero] at h0; exact absurd h0 (by decide)
          rw [Nl.limbs_pos hq0]; rfl)
      have HL := Lib.hid (show lq = 0 ↔ q = 0 by rw [HLQ.out]; exact limbs_nil)
      obtain ⟨bb, hbb⟩ : ∃ bb, bb = farB 4 s0 s1 q r d := ⟨_, rfl⟩
      rw [← hbb]
      have HBB := Lib.hid (show bb = halfB q r d from hbb)
      clear hK hthree hbb
      go_enter Tryz.func133, Tryz.ntmps133
      go_wp2_with fail
      rw [← hW]
      clear hW
      go_region_held3 (fun w' => Below W.heap.size W w')
        (first
          | assumption
          | exact below_drew0 _
          | exact below_drew1 (by assumption))
        (first
          | (go_at_call 105; refine (HAD.out _ (by assumption)).mono ?_; rintro e w2 ⟨⟨t1, t2, t3, rfl, hi⟩, hw2⟩; have bel2 := below_on (D := W) (by assumption) hw2; clear hw2)
          | (go_at_call 175; refine (HCM.out _ (by assumption) _ hi).mono ?_; rintro e w3 ⟨rfl, rfl⟩))
      have HB2 := Lib.hid (HB.out.1.trans (bel2.mono HB.out.1.size))
      have HBL := Lib.hid bel2
      have k20 := z20 _ bel2
      clear bel2 hi z20 z21 z11 hrr HAD HCM
      obtain ⟨z, hz⟩ : ∃ z, z = q % 4294967296 := ⟨_, rfl⟩
      have hlow : z % 2 = q % 2 := by omega
      rcases HT.out with ⟨rfl, h2⟩ | ⟨rfl, h2⟩ | ⟨rfl, h2⟩
      · have HH2 := Lib.hid (HBB.out.trans (show halfB q r d = true by rw [halfB, decide_eq_true h2]; rfl))
        clear h2 hz hlow
        go_wp2_with fail
        go_ret
        exact ⟨ret_bool HH2.out.symm, HB2.out⟩
      · have HH2 := Lib.hid (HBB.out.trans (show halfB q r d = decide (q % 2 = 1) by rw [halfB, decide_eq_false (by omega), decide_eq_true h2, Bool.false_or, Bool.true_and]))
        clear h2
        by_cases h0 : lq = 0
        · have HH3 := Lib.hid (HH2.out.trans (decide_eq_false (by rw [HL.out.1 h0]; decide)))
          clear HLQ HL hz hlow
          subst h0
          go_wp2_with fail
          go_ret
          exact ⟨ret_bool HH3.out.symm, HB2.out⟩
        · have e3 : decide (0 < lq) = true := decide_eq_true (by omega)
          have e4 : decide ((lq : Int) > 0) = true := decide_eq_true (by omega)
          have h0' : 0 < lq := by omega
          obtain ⟨b, off, rfl, hc⟩ := HQ.out _ HBL.out h0'
          rw [← hz] at hc
          by_cases hodd : q % 2 = 1
          · have e1 : (((z : Int) % 2) == 1) = true := by rw [beq_iff_eq]; omega
            have HH3 := Lib.hid (HH2.out.trans (decide_eq_true hodd))
            clear hodd h0 hz hlow
            go_wp2_with fail
            go_ret
            exact ⟨ret_bool HH3.out.symm, HB2.out⟩
          · have e1 : (((z : Int) % 2) == 1) = false := by rw [beq_eq_false_iff_ne]; omega
            have HH3 := Lib.hid (HH2.out.trans (decide_eq_false hodd))
            clear hodd h0 hz hlow
            go_wp2_with fail
            go_ret
            exact ⟨ret_bool HH3.out.symm, HB2.out⟩
      · have HH2 := Lib.hid (HBB.out.trans (show halfB q r d = false by rw [halfB, decide_eq_false (by omega), decide_eq_false (by omega)]; rfl))
        clear h2 hz hlow
        go_wp2_with fail
        go_ret
        exact ⟨ret_bool HH2.out.symm, HB2.out⟩
end Go.Proofs.YtkbghamkalidcaaGreat

namespace Go.Proofs.YtkbghamkalidcaaGreat
open Go.RowKit

theorem ref_shr_word {hi lo r : Nat} (hr : r < 32) (hl : lo < 4294967296) :
    ((hi * 4294967296 + lo) / 2 ^ r) % 4294967296 = (hi % 2 ^ r) * 2 ^ (32 - r) + lo / 2 ^ r := by
  have e : (4294967296 : Nat) = 2 ^ r * 2 ^ (32 - r) := by
    rw [← Nat.pow_add, show r + (32 - r) = 32 by omega]
  have hp : 0 < 2 ^ r := Nat.two_pow_pos r
  obtain ⟨P, hP⟩ : ∃ P, P = 2 ^ r := ⟨_, rfl⟩
  obtain ⟨Q, hQ⟩ : ∃ Q, Q = 2 ^ (32 - r) := ⟨_, rfl⟩
  rw [← hP, ← hQ] at e
  rw [← hP] at hp
  rw [← hP, ← hQ]
  have h1 : (hi * 4294967296 + lo) / P = hi * Q + lo / P := by
    rw [show hi * 4294967296 = P * (hi * Q) by rw [e, Nat.mul_left_comm], Nat.mul_add_div hp]
  have h2 : lo / P < Q := by
    rw [Nat.div_lt_iff_lt_mul hp, Nat.mul_comm, ← e]; exact hl
  have h0 := Nat.div_add_mod hi P
  have h3 : hi * Q = 4294967296 * (hi / P) + hi % P * Q := by
    conv => lhs; rw [← h0]
    rw [Nat.add_mul, e]
    congr 1
    simp only [Nat.mul_comm, Nat.mul_left_comm]
  have h4 : hi % P < P := Nat.mod_lt _ hp
  have h5 : (hi % P + 1) * Q ≤ P * Q := Nat.mul_le_mul_right _ h4
  rw [← e, Nat.add_mul] at h5
  rw [h1, h3, Nat.add_assoc, Nat.mul_add_mod]
  apply Nat.mod_eq_of_lt
  omega

theorem ref_shr_next {z B hi lo V r : Nat} (hr : r < 32) (hl : lo < 4294967296) (hv : z + B * (lo / 2 ^ r) = V / 2 ^ r) :
    z + B * (((hi * 4294967296 + lo) / 2 ^ r) % 4294967296) + B * 4294967296 * (hi / 2 ^ r) = (V + B * 4294967296 * hi) / 2 ^ r := by
  rw [ref_shr_word hr hl]
  have e : (4294967296 : Nat) = 2 ^ r * 2 ^ (32 - r) := by
    rw [← Nat.pow_add, show r + (32 - r) = 32 by omega]
  have hp : 0 < 2 ^ r := Nat.two_pow_pos r
  obtain ⟨P, hP⟩ : ∃ P, P = 2 ^ r := ⟨_, rfl⟩
  obtain ⟨Q, hQ⟩ : ∃ Q, Q = 2 ^ (32 - r) := ⟨_, rfl⟩
  rw [← hP, ← hQ] at e
  rw [← hP] at hp hv
  rw [← hP, ← hQ]
  have h0 := Nat.div_add_mod hi P
  obtain ⟨d, hd⟩ : ∃ d, d = hi / P := ⟨_, rfl⟩
  obtain ⟨m, hm⟩ : ∃ m, m = hi % P := ⟨_, rfl⟩
  rw [← hd, ← hm] at h0
  rw [← hd, ← hm]
  rw [show B * 4294967296 * hi = P * (B * Q * hi) by rw [e]; simp only [Nat.mul_comm, Nat.mul_left_comm], Nat.add_mul_div_left _ _ hp, ← hv, ← h0, e]
  rw [Nat.mul_add, Nat.mul_add]
  have h1 : B * (m * Q) = B * Q * m := by simp only [Nat.mul_comm, Nat.mul_left_comm]
  have h2 : B * (P * Q) * d = B * Q * (P * d) := by simp only [Nat.mul_comm, Nat.mul_left_comm]
  rw [h1, h2]
  omega

theorem ref_shr_step {A zs : List Nat} {k r : Nat} (hr : r < 32) (hA : Nl.Small A) (hl : zs.length = k)
    (hv : Nl.val zs + 4294967296 ^ k * (A.getD k 0 / 2 ^ r) = Nl.val (A.take (k + 1)) / 2 ^ r) :
    Nl.val (zs ++ [((A.getD (k + 1) 0 * 4294967296 + A.getD k 0) / 2 ^ r) % 4294967296]) + 4294967296 ^ (k + 1) * (A.getD (k + 1) 0 / 2 ^ r) = Nl.val (A.take (k + 1 + 1)) / 2 ^ r := by
  rw [val_snoc, hl, Nl.val_take_next A (k + 1), Nat.pow_succ]
  exact ref_shr_next hr (hA.getD k) hv

theorem ref_shr_first {A : List Nat} {r : Nat} : Nl.val ([] : List Nat) + 4294967296 ^ 0 * (A.getD 0 0 / 2 ^ r) = Nl.val (A.take (0 + 1)) / 2 ^ r := by
  rw [Nl.val_take_next A 0]
  simp

set_option maxHeartbeats 2000000 in
theorem refShr_any (va : Value) (m n : Nat) (w : World) (ha : At w va (Nl.limbs m)) (hla : (Nl.limbs m).length ≤ 900000) (hn : n ≤ 9223372036854775807) :
    Calls Tryz.prog 178 #[va, .int .i64 n] w fun e w' => (∃ v, e = .returned v ∧ IsN w' v (m / 2 ^ n)) ∧ Below w.heap.size w w' := by
  obtain ⟨i0, hi, hz0, hz1, hz2⟩ := info_parts infoWord4
  have HI := Lib.hid (And.intro hi (And.intro hz0 (And.intro hz1 hz2)))
  have HA := Lib.hid ha
  obtain ⟨a, ca, rfl, -⟩ := ha.form
  clear ha hi hz0 hz1 hz2
  obtain ⟨q, hq⟩ : ∃ q, q = n / 32 := ⟨_, rfl⟩
  obtain ⟨r, hr⟩ : ∃ r, r = n % 32 := ⟨_, rfl⟩
  have hr32 : r < 32 := by omega
  have q1 : (n : Int) / 32 = (q : Int) := by omega
  have r1 : (n : Int) % 32 = (r : Int) := by omega
  have hqb : q ≤ 9223372036854775807 := by omega
  have HN := Lib.hid (show n = 32 * q + r from by omega)
  clear hq hr
  by_cases hql : (Nl.limbs m).length ≤ q
  · have e0 : decide ((Nl.limbs m).length ≤ q) = true := decide_eq_true hql
    have hz : m / 2 ^ n = 0 := by
      apply Nat.div_eq_of_lt
      refine Nat.lt_of_lt_of_le (Nl.lt_limbs m) ?_
      rw [pow32]
      exact Nat.pow_le_pow_right (by decide) (by rw [HN.out]; omega)
    rw [hz]
    clear hz hn
    go_enter Tryz.func178, Tryz.ntmps178
    go_wp2_with fail
    go_ret
    exact ⟨⟨_, rfl, .inl ⟨rfl, Nl.limbs_zero⟩⟩, Below.refl _ _⟩
  · have e0 : decide ((Nl.limbs m).length ≤ q) = false := decide_eq_false hql
    have hA : Nl.Small ((Nl.limbs m).drop q) := (Nl.limbs_small m).drop q
    have HS := Lib.hid hA
    obtain ⟨A, hAe⟩ : ∃ A, A = (Nl.limbs m).drop q := ⟨_, rfl⟩
    have HAE := Lib.hid hAe
    clear hA hAe hn
    go_enter Tryz.func178, Tryz.ntmps178
    go_wp2_with fail
    go_loopw [5, 6] (fun v i wr => ∃ (K k : Nat) (zs : List Nat), Hid (K = q + k) ∧ K ≤ (Nl.limbs m).length ∧ i = .int .i64 K ∧ zs.length = k ∧ Hid (Nl.Small zs) ∧ Hid (wr.ownsRow w.heap.size 80 1 v k (vals zs)) ∧ Hid (Below w.heap.size w wr) ∧
        Hid (Nl.val zs + 4294967296 ^ k * (A.getD k 0 / 2 ^ r) = Nl.val (A.take (k + 1)) / 2 ^ r)) (fun _ i _ => ((Nl.limbs m).length - (intOf i).toNat))
    case atStart => exact ⟨q, 0, [], rfl, by omega, rfl, rfl, Nl.small_nil, World.ownsRow_nil _ _ _ _, Below.refl _ _, ref_shr_first⟩
    case round =>
      obtain ⟨K, k, zs, HKK, hK, rfl, hlz, hsm, ho, hbel, hv⟩ := hrel
      have hkm : k ≤ K := by have := HKK.out; omega
      by_cases hlt : K < (Nl.limbs m).length
      · have t1 : decide (K < (Nl.limbs m).length) = true := decide_eq_true hlt
        have hgd : ∀ j, A.getD j 0 = (Nl.limbs m).getD (q + j) 0 := fun j => by rw [HAE.out]; simp [List.getD_eq_getElem?_getD]
        obtain ⟨lo, hlo⟩ : ∃ x, x = A.getD k 0 := ⟨_, rfl⟩
        obtain ⟨hi, hhi⟩ : ∃ x, x = A.getD (k + 1) 0 := ⟨_, rfl⟩
        have hlo2 : lo < 4294967296 := by rw [hlo, HAE.out]; exact HS.out.getD k
        have hhi2 : hi < 4294967296 := by rw [hhi, HAE.out]; exact HS.out.getD (k + 1)
        have hcl := at_any _ _ K wr (HA.out.below hbel.out) (Nl.limbs_small m)
        have hch := at_any _ _ (K + 1) wr (HA.out.below hbel.out) (Nl.limbs_small m)
        have hKk := HKK.out
        rw [hKk, ← hgd, ← hlo, ← hKk] at hcl
        rw [show K + 1 = q + (k + 1) by omega, ← hgd, ← hhi, show q + (k + 1) = K + 1 by omega] at hch
        have hch' : Calls Tryz.prog 153 #[Value.slice a (Nl.limbs m).length ca, .int .i64 ((K : Int) + 1)] wr fun e w' => e = .returned (.int .u64 ((hi : Nat) : Int)) ∧ wr = w' := hch
        have HCL := Lib.hid hcl
        have HCH := Lib.hid hch'
        have HX := Lib.hid (And.intro hlo hhi)
        clear hcl hch hch' hlo hhi hgd hKk
        have e1 : ((hi : Int) * 4294967296 + lo) / 2 ^ r % 4294967296 = ((((hi * 4294967296 + lo) / 2 ^ r) % 4294967296 : Nat) : Int) := by
          rw [Int.natCast_emod, Int.natCast_ediv, Int.natCast_add, Int.natCast_mul, Int.natCast_pow]; rfl
        have HE := Lib.hid e1
        clear e1
        go_wp2_with (first
          | (go_at_call_of 153 (Value.int IntKind.i64 (K : Int)); refine HCL.out.mono ?_; rintro e w' ⟨rfl, rfl⟩)
          | (go_at_call 153; refine HCH.out.mono ?_; rintro e w' ⟨rfl, rfl⟩)
          | (at_builtin; refine wpList_append_own _ rfl (.tmp 33) (.tmp 36) 23 rfl w.heap.size 80 i0 (.int .u32 0) 1 4 Tryz.underlying23 HI.out.1 HI.out.2.1 HI.out.2.2.1 HI.out.2.2.2 rfl (by decide) _ k (vals zs) rfl (ho.out.alloc _) ⟨wr.heap.size, 0, none⟩ 1 1 [.int .u32 (((hi : Int) * 4294967296 + lo) / 2 ^ r % 4294967296)] rfl rfl ?_ ?_ ?_ ?_ ?_ ?_))
        · intro j u hj
          exact one_new_cell hj
        · intro u hu
          simp at hu
          rw [hu]; rfl
        · simp only [maxLen]; omega
        · omega
        · have := hbel.out.size; simp; omega
        intro v' w1 ho' hg' _
        rw [HE.out, ← vals_snoc] at ho'
        have hbel' := grow_below hbel.out ho.out hg'
        have HO := Lib.hid ho'
        have HBel := Lib.hid hbel'
        clear ho' hg' hbel' ho
        go_wp2_with fail
        go_roundw
        case rel =>
          refine ⟨K + 1, k + 1, _, by rw [Hid, HKK.out]; omega, by omega, by go_num, ?_, ?_, HO.out, HBel.out, ?_⟩
          · simp [hlz]
          · exact small_snoc hsm.out (Nat.mod_lt _ (by decide))
          · rw [HX.out.1, HX.out.2]
            exact ref_shr_step hr32 (by rw [HAE.out]; exact HS.out) hlz hv.out
        case measure => simp [intOf] <;> omega
      · have t1 : decide (K < (Nl.limbs m).length) = false := decide_eq_false hlt
        have ho1 := ho.out
        rw [← hlz] at ho1
        have htr := refTrim_owns w.heap.size _ zs wr ho1 (by omega)
        have hend : Nl.trim zs = Nl.limbs (m / 2 ^ n) := by
          rw [Nl.trim_eq hsm.out]
          congr 1
          have h1 := hv.out
          have hkl : A.length ≤ k := by rw [HAE.out, List.length_drop]; have := HKK.out; omega
          rw [Nl.getD_ge hkl, Nat.zero_div, Nat.mul_zero, Nat.add_zero, List.take_of_length_le (by omega), HAE.out, Nl.limbs_drop, Nl.val_limbs] at h1
          rw [h1, Nat.div_div_eq_div_mul, pow32, ← Nat.pow_add, HN.out]
        rw [hend] at htr
        have HT := Lib.hid htr
        clear ho1 htr hend
        go_wp2_with fail
        refine HT.out.mono ?_
        rintro e w2 ⟨⟨u, rfl, hu⟩, hb2⟩
        have HU := Lib.hid hu
        have HB2 := Lib.hid (hbel.out.trans (hb2.mono hbel.out.size))
        clear hu hb2
        go_wp2_with fail
        go_ret
        exact ⟨⟨u, rfl, HU.out.at⟩, HB2.out⟩
end Go.Proofs.YtkbghamkalidcaaGreat

namespace Go.Proofs.YtkbghamkalidcaaGreat
open Go.RowKit

theorem below_alloc (w : World) (o : Obj) : Below w.heap.size w (w.alloc o) := (Below.refl _ _).alloc (Nat.le_refl _) _
theorem make_words2 (t : TypeId) (ht : Tryz.prog.underlying t = some (.slice 80)) (w : World) (l c : Int) (p n : Nat) (hl : l = p) (hc : c = n) (hpn : p ≤ n) (h : n ≤ 70368744177664) :
    (Instr.makeSlice t (.int .i64 l) (.int .i64 c)).run Tryz.prog w = .ok (.slice (some ⟨w.heap.size, 0, none⟩) p n) (w.alloc (.cells (vals (Nl.zeros n)).toArray 80)) := by
  subst hc hl
  obtain ⟨i0, hi, hz0, hz1, hz2⟩ := info_parts infoWord
  have := run_make (P := Tryz.prog) w t 80 i0 (.int .u32 0) ht hi hz0 .i64 .i64 p n (by omega) (by omega) (by rw [hz2]; omega) (by omega)
  rw [this, hz1]
  simp only [Int.toNat_natCast]
  rw [made_zero]
theorem zeros_take (n k : Nat) (h : k ≤ n) : (Nl.zeros n).take k = Nl.zeros k := by
  simp only [Nl.zeros, List.take_replicate]
  rw [Nat.min_eq_left h]
theorem owns_made (w : World) (p n : Nat) (hpn : p ≤ n) (hn : n ≤ 1000000) :
    (w.alloc (.cells (vals (Nl.zeros n)).toArray 80)).ownsRow w.heap.size 80 1 (.slice (some ⟨w.heap.size, 0, none⟩) p n) p (vals (Nl.zeros p)) := by
  refine ⟨by rw [vals_length, Nl.zeros_length]; omega, .inr ⟨w.heap.size, n, _, rfl, Nat.le_refl _, heap_alloc_new _ _, hpn, by simp only [maxLen]; omega, ?_, ?_⟩⟩
  · rw [List.size_toArray, vals_length, Nl.zeros_length]; omega
  · rw [Nat.mul_one, List.toList_toArray, ← vals_take, zeros_take n p hpn]

/-- one word of a shift to the left -/
theorem ref_shl_step {xs zs : List Nat} {q r k d n x s : Nat} (hn : n = 32 * q + r) (hk : k < xs.length) (hx : x = xs.getD k 0) (hl : zs.length = q + k) (hs : s = x * 2 ^ r + d)
    (hv : Nl.val zs + 4294967296 ^ (q + k) * d = Nl.val (xs.take k) * 2 ^ n) :
    Nl.val (zs ++ [s % 4294967296]) + 4294967296 ^ (q + (k + 1)) * (s / 4294967296) = Nl.val (xs.take (k + 1)) * 2 ^ n := by
  rw [val_snoc, hl, Nl.val_take_succ _ _ hk, ← hx, Nat.add_mul, ← hv, ← Nat.add_assoc, Nat.pow_succ]
  have e : 4294967296 ^ k * x * 2 ^ n = 4294967296 ^ (q + k) * (x * 2 ^ r) := by
    rw [hn, Nat.pow_add 2, ← pow32, Nat.pow_add]
    simp only [Nat.mul_assoc, Nat.mul_comm, Nat.mul_left_comm]
  have h1 := Nat.mod_add_div s 4294967296
  have h2 : 4294967296 ^ (q + k) * (s % 4294967296) + 4294967296 ^ (q + k) * 4294967296 * (s / 4294967296) = 4294967296 ^ (q + k) * s := by
    rw [Nat.mul_assoc, ← Nat.mul_add, h1]
  rw [e]
  rw [hs, Nat.mul_add] at h2
  rw [hs]
  omega

set_option maxHeartbeats 2000000 in
theorem refShl_any (va : Value) (m n : Nat) (w : World) (ha : At w va (Nl.limbs m)) (hla : (Nl.limbs m).length ≤ 100000) (hn : m = 0 ∨ n ≤ 64000) :
    Calls Tryz.prog 70 #[va, .int .i64 n] w fun e w' => (∃ v, e = .returned v ∧ IsN w' v (m * 2 ^ n)) ∧ Below w.heap.size w w' := by
  obtain ⟨i0, hi, hz0, hz1, hz2⟩ := info_parts infoWord4
  have HI := Lib.hid (And.intro hi (And.intro hz0 (And.intro hz1 hz2)))
  have HA := Lib.hid ha
  obtain ⟨a, ca, rfl, fa⟩ := ha.form
  have FA := Lib.hid fa
  clear ha fa hi hz0 hz1 hz2
  by_cases hz : m = 0
  · have e0 : (((Nl.limbs m).length : Int) == 0) = true := by rw [hz, Nl.limbs_zero]; rfl
    have HZ := Lib.hid (show m * 2 ^ n = m by rw [hz, Nat.zero_mul])
    clear hz hn
    go_enter Tryz.func70, Tryz.ntmps70
    go_wp2_with fail
    go_ret
    exact ⟨⟨_, rfl, by rw [HZ.out]; exact HA.out⟩, Below.refl _ _⟩
  · have hlp := Nl.len_pos hz
    have e0 : (((Nl.limbs m).length : Int) == 0) = false := by rw [beq_eq_false_iff_ne]; omega
    have hn' : n ≤ 64000 := by rcases hn with h | h; exact absurd h hz; exact h
    obtain ⟨q, hq⟩ : ∃ q, q = n / 32 := ⟨_, rfl⟩
    obtain ⟨r, hr⟩ : ∃ r, r = n % 32 := ⟨_, rfl⟩
    have hr32 : r < 32 := by omega
    have q1 : (n : Int) / 32 = (q : Int) := by omega
    have r1 : (n : Int) % 32 = (r : Int) := by omega
    have hq2 : q ≤ 2000 := by omega
    have HN := Lib.hid (show n = 32 * q + r from by omega)
    have hmk := make_words2 23 Tryz.underlying23 w (q : Int) ((q : Int) + (Nl.limbs m).length + 1) q (q + (Nl.limbs m).length + 1) rfl (by omega) (by omega) (by omega)
    have hown := owns_made w q (q + (Nl.limbs m).length + 1) (by omega) (by omega)
    have HO0 := Lib.hid hown
    have HB0 := Lib.hid (below_alloc w (.cells (vals (Nl.zeros (q + (Nl.limbs m).length + 1))).toArray 80))
    obtain ⟨R, hR⟩ : ∃ R, R = 2 ^ r := ⟨_, rfl⟩
    have hR2 : R ≤ 2147483648 := by rw [hR]; exact Nat.pow_le_pow_right (by decide) (show r ≤ 31 by omega)
    have hRI : (2 : Int) ^ r = (R : Int) := by rw [hR, Int.natCast_pow]; rfl
    have HR := Lib.hid hR
    clear hz hn hq hr hown hR
    go_enter Tryz.func70, Tryz.ntmps70
    go_wp2_with fail
    clear hmk
    go_loopw [5, 6, 7] (fun v c i wr => ∃ (k d : Nat) (zs : List Nat), k ≤ (Nl.limbs m).length ∧ i = .int .i64 k ∧ c = .int .u64 (d : Int) ∧ d < 4294967296 ∧ Hid (zs.length = q + k) ∧ Hid (Nl.Small zs) ∧ Hid (wr.ownsRow w.heap.size 80 1 v (q + k) (vals zs)) ∧ Hid (Below w.heap.size w wr) ∧
        Hid (Nl.val zs + 4294967296 ^ (q + k) * d = Nl.val ((Nl.limbs m).take k) * 2 ^ n)) (fun _ _ i _ => ((Nl.limbs m).length - (intOf i).toNat))
    case atStart => exact ⟨0, 0, Nl.zeros q, by omega, rfl, rfl, by omega, by rw [Hid, Nl.zeros_length]; rfl, Nl.small_replicate _, HO0.out, HB0.out, by simp [Hid, Nl.val_replicate]⟩
    case round =>
      obtain ⟨k, d, zs, hk, rfl, rfl, hd, hlz, hsm, ho, hbel, hv⟩ := hrel
      by_cases hlt : k < (Nl.limbs m).length
      · rcases FA.out with fa | ⟨ba, oa, rfl, -, hca, -, hba, hcx⟩
        · rw [fa] at hlt; simp at hlt
        obtain ⟨x, hx⟩ : ∃ x, x = (Nl.limbs m).getD k 0 := ⟨_, rfl⟩
        have hx2 : x < 4294967296 := by rw [hx]; exact (Nl.limbs_small m).getD k
        have cx : wr.cell? ⟨ba, oa + k, none⟩ = some (.int .u32 (x : Int)) := by rw [hx]; exact (hbel.out.cell (p := ⟨ba, oa + k, none⟩) hba).trans (hcx k hlt)
        have hp : x * R ≤ 4294967295 * 2147483648 := Nat.mul_le_mul (by omega) hR2
        obtain ⟨p, hpp⟩ : ∃ p, p = x * R := ⟨_, rfl⟩
        have hpi : (x : Int) * (R : Int) = (p : Int) := by rw [hpp, Int.natCast_mul]
        rw [← hpp] at hp
        have Hx := Lib.hid hx
        have Hp := Lib.hid hpp
        have e1 : ((p : Int) + d) % 4294967296 = (((p + d) % 4294967296 : Nat) : Int) := by omega
        have e2 : ((p : Int) + d) / 4294967296 = (((p + d) / 4294967296 : Nat) : Int) := by omega
        have HE := Lib.hid (And.intro e1 e2)
        clear hx hcx hpp e1 e2
        go_wp2_with (at_builtin; refine wpList_append_own _ rfl (.tmp 38) (.tmp 41) 23 rfl w.heap.size 80 i0 (.int .u32 0) 1 4 Tryz.underlying23 HI.out.1 HI.out.2.1 HI.out.2.2.1 HI.out.2.2.2 rfl (by decide) _ (q + k) (vals zs) rfl (ho.out.alloc _) ⟨wr.heap.size, 0, none⟩ 1 1 [.int .u32 (((p : Int) + d) % 4294967296)] rfl rfl ?_ ?_ ?_ ?_ ?_ ?_)
        · intro j u hj
          exact one_new_cell hj
        · intro u hu
          simp at hu
          rw [hu]; rfl
        · simp only [maxLen]; omega
        · omega
        · have := hbel.out.size; simp; omega
        intro v' w1 ho' hg' _
        rw [HE.out.1, ← vals_snoc] at ho'
        have hbel' := grow_below hbel.out ho.out hg'
        have HO := Lib.hid ho'
        have HBel := Lib.hid hbel'
        clear ho' hg' hbel' ho
        go_wp2_with fail
        go_roundw
        case rel =>
          refine ⟨k + 1, (p + d) / 4294967296, zs ++ [(p + d) % 4294967296], by omega, by go_num, by rw [← HE.out.2], by omega, ?_, small_snoc hsm.out (Nat.mod_lt _ (by decide)), HO.out, HBel.out, ?_⟩
          · rw [Hid, List.length_append, hlz.out]; rfl
          · exact ref_shl_step HN.out hlt Hx.out hlz.out (by rw [Hp.out, HR.out]) hv.out
        case measure => simp [intOf] <;> omega
      · have hkl : k = (Nl.limbs m).length := by omega
        have HK := Lib.hid hkl
        have e1 : (d : Int) % 4294967296 = (d : Int) := by omega
        have HE := Lib.hid e1
        clear e1 hkl
        have t1 : decide (k < (Nl.limbs m).length) = false := decide_eq_false hlt
        go_wp2_with (at_builtin; refine wpList_append_own _ rfl (.tmp 45) (.tmp 48) 23 rfl w.heap.size 80 i0 (.int .u32 0) 1 4 Tryz.underlying23 HI.out.1 HI.out.2.1 HI.out.2.2.1 HI.out.2.2.2 rfl (by decide) _ (q + k) (vals zs) rfl (ho.out.alloc _) ⟨wr.heap.size, 0, none⟩ 1 1 [.int .u32 (d : Int)] rfl rfl ?_ ?_ ?_ ?_ ?_ ?_)
        · intro j u hj
          exact one_new_cell hj
        · intro u hu
          simp at hu
          rw [hu]; rfl
        · simp only [maxLen]; omega
        · omega
        · have := hbel.out.size; simp; omega
        intro v' w1 ho' hg' _
        rw [← vals_snoc] at ho'
        have hbel' := grow_below hbel.out ho.out hg'
        have hl1 : q + k + 1 = (zs ++ [d]).length := by rw [List.length_append, hlz.out]; rfl
        rw [hl1] at ho'
        have htr := refTrim_owns w.heap.size _ (zs ++ [d]) w1 ho' (by rw [← hl1]; omega)
        have hend : Nl.trim (zs ++ [d]) = Nl.limbs (m * 2 ^ n) := by
          rw [Nl.trim_eq (small_snoc hsm.out hd), val_snoc, hlz.out, hv.out, HK.out, List.take_of_length_le (Nat.le_refl _), Nl.val_limbs]
        rw [hend] at htr
        have HT := Lib.hid htr
        have HBel := Lib.hid hbel'
        clear ho' hg' hbel' ho htr hend hl1
        go_wp2_with fail
        refine HT.out.mono ?_
        rintro e w2 ⟨⟨u, rfl, hu⟩, hb2⟩
        have HU := Lib.hid hu
        have HB2 := Lib.hid (HBel.out.trans (hb2.mono HBel.out.size))
        clear hu hb2
        go_wp2_with fail
        go_ret
        exact ⟨⟨u, rfl, HU.out.at⟩, HB2.out⟩
end Go.Proofs.YtkbghamkalidcaaGreat

namespace Go.Proofs.YtkbghamkalidcaaGreat
open Go.RowKit

theorem refBits_any (va : Value) (m : Nat) (w : World) (ha : IsN w va m) (hl : (Nl.limbs m).length ≤ 1000000) :
    Calls Tryz.prog 94 #[va] w fun e w' => e = .returned (.int .i64 (nbits m : Nat)) ∧ w = w' := by
  by_cases h0 : m = 0
  · subst h0
    rw [IsN, Nl.limbs_zero] at ha
    obtain ⟨a, ca, rfl, -⟩ := ha.form
    go_enter Tryz.func94, Tryz.ntmps94
    go_wp2
    go_ret
    exact ⟨rfl, rfl⟩
  · obtain ⟨k, x, hk, ex, hx0, hw, hn⟩ := top_word h0
    rcases ha with ⟨rfl, h⟩ | ⟨b, off, cap, rfl, -, hc, hm, hb, hx⟩
    · rw [h] at hk; simp at hk
    have c0 := hx k (by omega)
    rw [ex] at c0
    rw [hk] at hc hl ⊢
    have hb8 : Lib.bitLen x ≤ 32 := Lib.bitLen_le x 32 (by omega) (by omega)
    have HN := Lib.hid hn
    clear hx hn ex h0 hx0 hk
    have t0 : (((k : Int) + 1) == 0) = false := by rw [beq_eq_false_iff_ne]; omega
    go_enter Tryz.func94, Tryz.ntmps94
    go_wp2_with fail
    go_loopw [4, 5] (fun b y wr => ∃ B Y : Nat, b = .int .i64 B ∧ y = .int .u32 Y ∧ Y < 4294967296 ∧ B ≤ 32 * k + 32 ∧ Hid (B + Lib.bitLen Y = nbits m) ∧ wr = w) (fun _ y _ => (intOf y).toNat)
    case atStart => exact ⟨32 * k, x, by go_num, rfl, hw, by omega, HN.out.symm, rfl⟩
    case round =>
      obtain ⟨B, Y, rfl, rfl, hY, hB, hv, rfl⟩ := hrel
      by_cases hy0 : Y = 0
      · have t1 : decide ((Y : Int) > 0) = false := decide_eq_false (by omega)
        have t2 : decide (0 < Y) = false := decide_eq_false (by omega)
        have HR := Lib.hid (show B = nbits m by
          have h1 := hv.out
          rw [hy0] at h1
          exact h1)
        clear hy0
        go_wp2_with fail
        go_ret
        exact ⟨ret_int (by rw [HR.out]), rfl⟩
      · have t1 : decide ((Y : Int) > 0) = true := decide_eq_true (by omega)
        have t2 : decide (0 < Y) = true := decide_eq_true (by omega)
        have h3 := Lib.bitLen_half Y hy0 (by omega)
        have h4 : Lib.bitLen Y ≤ 32 := Lib.bitLen_le Y 32 (by omega) (by omega)
        have HR := Lib.hid (show B + 1 + Lib.bitLen (Y / 2) = nbits m by have := hv.out; omega)
        have hB2 : B + 1 ≤ 32 * k + 32 := by
          have h5 := hv.out
          have h6 := HN.out
          omega
        clear h3 h4
        go_wp2_with fail
        go_roundw
        case rel => exact ⟨B + 1, Y / 2, by go_num, by go_num, by omega, hB2, HR.out, trivial⟩
        case measure => simp [intOf] <;> omega
end Go.Proofs.YtkbghamkalidcaaGreat

namespace Go.Proofs.YtkbghamkalidcaaGreat
open Go.RowKit

end Go.Proofs.YtkbghamkalidcaaGreat

namespace Go.Proofs.YtkbghamkalidcaaGreat
open Go.RowKit

end Go.Proofs.YtkbghamkalidcaaGreat

namespace Go.Proofs.YtkbghamkalidcaaGreat
open Go.RowKit

end Go.Proofs.YtkbghamkalidcaaGreat

namespace Go.Proofs.YtkbghamkalidcaaGreat
open Go.RowKit

end Go.Proofs.YtkbghamkalidcaaGreat

namespace Go.Proofs.YtkbghamkalidcaaGreat
open Go.RowKit

end Go.Proofs.YtkbghamkalidcaaGreat

namespace Go.Proofs.YtkbghamkalidcaaGreat
open Go.RowKit

end Go.Proofs.YtkbghamkalidcaaGreat

namespace Go.Proofs.YtkbghamkalidcaaGreat
open Go.RowKit

theorem below_al (w : World) (o : Obj) : Below w.heap.size w (w.alloc o) := (Below.refl _ _).alloc (Nat.le_refl _) _
theorem box_set {w : World} {g : Nat} {T : TypeId} {a b : Value} (a' b' : Value) (h : w.heap[g]? = some (.cells #[a, b] T (0, 0))) : ((w.setCell ⟨g, 0, none⟩ a').setCell ⟨g, 1, none⟩ b').heap[g]? = some (.cells #[a', b'] T (0, 0)) := by
  have h1 := heap_setCell_same w g 0 _ _ a' h
  have h2 := heap_setCell_same _ g 1 _ _ b' h1
  exact h2
end Go.Proofs.YtkbghamkalidcaaGreat

namespace Go.Proofs.YtkbghamkalidcaaGreat
open Go.RowKit

theorem at_box2 {w : World} {g : Nat} {T : TypeId} {p p' : Option Addr} {l c l' c' : Nat} {v : Value} {xs : List Nat} (a' b' : Value) (h : At w v xs) (hbx : w.heap[g]? = some (.cells #[.slice p l c, .slice p' l' c'] T (0, 0))) :
    At ((w.setCell ⟨g, 0, none⟩ a').setCell ⟨g, 1, none⟩ b') v xs := by
  rcases h with h | ⟨b, off, cap, h1, h2, h3, h4, h5, h6⟩
  · exact .inl h
  · refine .inr ⟨b, off, cap, h1, h2, h3, h4, by simpa [World.setCell] using h5, fun i hi => ?_⟩
    have hc := h6 i hi
    by_cases hb : b = g
    · subst hb
      rw [cell_of_row w b (off + i) _ _ _ hbx] at hc
      match hj : off + i with
      | 0 => rw [hj] at hc; simp at hc
      | 1 => rw [hj] at hc; simp at hc
      | j + 2 => rw [hj] at hc; simp at hc
    · have ho : Only g w ((w.setCell ⟨g, 0, none⟩ a').setCell ⟨g, 1, none⟩ b') := grown_trans (Only.setCell g 0 a' w) (Only.setCell g 1 b' _)
      exact ho.cell hc (by simpa using hb)

theorem trim_result_own {w w1 : World} {v : Value} {xs ys : List Nat} {k : Nat} {row : Option Nat} (ho : w1.ownsRow w.heap.size 80 1 v k (vals (xs.take k))) (hg : (w.alloc (.cells #[] 80)).grownBy w1 row) (hrow : row = some w.heap.size) (hy : xs.take k = ys) (hk : k ≤ xs.length) :
    w1.ownsRow w.heap.size 80 1 v ys.length (vals ys) ∧ Below w.heap.size w w1 := by
  refine ⟨?_, (trim_result ho hg hrow hy hk).2⟩
  have hl : k = ys.length := by rw [← hy, List.length_take]; omega
  rw [hy, hl] at ho
  exact ho

set_option maxHeartbeats 1000000 in
/-- the same, told of the row that the result owns -/
theorem refTrim_row (b off cap : Nat) (xs : List Nat) (w : World) (h : Cells w b off xs) (hc : xs.length ≤ cap) (_hm : cap ≤ 9223372036854775807) (hb : b < w.heap.size) (hl : xs.length ≤ 1000000) :
    Calls Tryz.prog 130 #[.slice (some ⟨b, off, none⟩) xs.length cap] w fun e w' => (∃ v, e = .returned v ∧ w'.ownsRow w.heap.size 80 1 v (Nl.trim xs).length (vals (Nl.trim xs))) ∧ Below w.heap.size w w' := by
  obtain ⟨i0, hi, hz0, hz1, hz2⟩ := info_parts infoWord4
  have HI := Lib.hid (And.intro hi (And.intro hz0 (And.intro hz1 hz2)))
  have HC := Lib.hid h
  clear hi hz0 hz1 hz2 h
  go_enter Tryz.func130, Tryz.ntmps130
  go_wp2
  go_loop [3] (fun n => ∃ k : Nat, k ≤ xs.length ∧ n = .int .i64 k ∧ Hid (Nl.trim (xs.take k) = Nl.trim xs)) (fun n => (intOf n).toNat)
  case atStart => exact ⟨xs.length, Nat.le_refl _, rfl, by simp [Hid]⟩
  case round =>
    obtain ⟨k, hk, rfl, ht⟩ := hrel
    cases k with
    | zero =>
      have hz := Lib.hid (show Nl.trim xs = [] by have := ht.out; rw [List.take_zero] at this; rw [← this]; rfl)
      clear ht
      go_wp2
      go_ret
      rw [hz.out]
      exact ⟨⟨_, rfl, owns_empty w⟩, (Below.refl _ _).alloc (Nat.le_refl _) _⟩
    | succ k =>
      obtain ⟨x, hx⟩ : ∃ x, x = xs.getD k 0 := ⟨_, rfl⟩
      have hcell := HC.out k (by omega)
      rw [← hx] at hcell
      have Hx := Lib.hid hx
      clear hx
      by_cases hz : x = 0
      · have hz1 : ((x : Int) == 0) = true := by rw [beq_iff_eq]; omega
        have HZ := Lib.hid hz
        clear hz
        go_wp2
        go_round
        case rel => exact ⟨k, by omega, by go_num, by rw [Hid, ← Nl.trim_take_zero (by omega) (by rw [← Hx.out, HZ.out])]; exact ht.out⟩
        case measure => simp [intOf] <;> omega
      · have hz1 : ((x : Int) == 0) = false := by rw [beq_eq_false_iff_ne]; omega
        have HT := Lib.hid (show xs.take (k + 1) = Nl.trim xs by
          have h1 := Nl.trim_take_some (xs := xs) (k := k) (by omega) (by rw [← Hx.out]; exact hz)
          rw [ht.out] at h1
          have h2 := Nl.trim_prefix xs
          rw [h1] at h2
          exact h2.symm)
        clear hz ht
        go_wp2_with (at_builtin; refine wpList_append_own _ rfl (.tmp 18) (.tmp 21) 23 rfl w.heap.size 80 i0 (.int .u32 0) 1 4 Tryz.underlying23 HI.out.1 HI.out.2.1 HI.out.2.2.1 HI.out.2.2.2 rfl (by decide) (.slice (some ⟨w.heap.size, 0, none⟩) 0 0) 0 [] rfl (owns_empty w) ⟨b, off, none⟩ (k + 1) cap (vals (xs.take (k + 1))) rfl ?_ ?_ ?_ ?_ ?_ ?_ ?_)
        · rw [vals_length, List.length_take]; omega
        · exact vals_cells' HC.out _
        · intro u hu
          obtain ⟨x, _, rfl⟩ := List.mem_map.1 hu
          rfl
        · simp only [maxLen]; omega
        · omega
        intro v' w1 ho hg _
        have hA := Lib.hid (trim_result_own ho hg rfl HT.out (by omega))
        clear ho hg
        go_wp2_with fail
        go_ret
        exact ⟨⟨v', rfl, hA.out.1⟩, hA.out.2⟩



theorem own_below {base : Nat} {w w' : World} {v : Value} {n size : Nat} {e : TypeId} {L : List Value} (h : w.ownsRow base e size v n L) (hb : Below w.heap.size w w') : w'.ownsRow base e size v n L :=
  h.kept (row := none) (grown_of_below hb) (by cases hv : v.ownBlock with
    | none => exact .inl rfl
    | some g => exact .inr (by simp))
theorem own_form {base : Nat} {w : World} {v : Value} {n size : Nat} {e : TypeId} {L : List Value} (h : w.ownsRow base e size v n L) : ∃ p c, v = .slice p n c := by
  rcases h.2 with ⟨rfl, hn⟩ | ⟨g, cap, cur, rfl, _⟩
  · rw [hn]; exact ⟨_, _, rfl⟩
  · exact ⟨_, _, rfl⟩
theorem own_less {base base' : Nat} {w : World} {v : Value} {n size : Nat} {e : TypeId} {L : List Value} (h : w.ownsRow base e size v n L) (hb : base' ≤ base) : w.ownsRow base' e size v n L := by
  obtain ⟨h1, h2 | ⟨g, cap, cur, h3, h4, h5⟩⟩ := h
  · exact ⟨h1, .inl h2⟩
  · exact ⟨h1, .inr ⟨g, cap, cur, h3, Nat.le_trans hb h4, h5⟩⟩
theorem own_box {base base' g : Nat} {w : World} {v : Value} {n size : Nat} {e : TypeId} {L : List Value} (a' b' : Value) (h : w.ownsRow base e size v n L) (hg : g < base) (hb : base' ≤ base) :
    ((w.setCell ⟨g, 0, none⟩ a').setCell ⟨g, 1, none⟩ b').ownsRow base' e size v n L := by
  refine own_less (h.kept (row := some g) (grown_trans (Only.setCell g 0 a' w) (Only.setCell g 1 b' _)) ?_) hb
  cases hv : v.ownBlock with
  | none => exact .inl rfl
  | some k =>
    refine .inr fun hk => ?_
    have h1 := h.lt k hv
    cases hk
    omega

/-- what a division by one word gives -/
def ShortOut (w w' : World) (e : Ending) (q r : Nat) : Prop := (∃ u v, e = .returned (.agg #[u, v]) ∧ w'.ownsRow w.heap.size 80 1 u (Nl.limbs q).length (vals (Nl.limbs q)) ∧ IsN w' v r) ∧ Below w.heap.size w w'

set_option maxHeartbeats 2000000 in
theorem refShort_any (va : Value) (m d : Nat) (w : World) (ha : At w va (Nl.limbs m)) (hla : (Nl.limbs m).length ≤ 100000) (hd : 0 < d) (hd2 : d < 4294967296) :
    Calls Tryz.prog 177 #[va, .int .u32 d] w fun e w' => ShortOut w w' e (m / d) (m % d) := by
  obtain ⟨a, ca, rfl, fa⟩ := ha.form
  have FA := Lib.hid fa
  clear ha fa
  obtain ⟨w1, hw1⟩ : ∃ w1, w1 = w.alloc (.cells #[.slice none 0 0, .slice none 0 0] 139) := ⟨_, rfl⟩
  have hbox : w1.heap[w.heap.size]? = some (.cells #[.slice none 0 0, .slice none 0 0] 139 (0, 0)) := by rw [hw1]; exact heap_alloc_new _ _
  have hb1 : Below w.heap.size w w1 := by rw [hw1]; exact below_al w _
  have hs1 : w1.heap.size = w.heap.size + 1 := by rw [hw1]; simp
  have hmk := make_words 23 Tryz.underlying23 w1 ((Nl.limbs m).length : Int) (Nl.limbs m).length rfl (by omega)
  have hrow := row_new w1 (Nl.zeros (Nl.limbs m).length)
  have hb2 := below_al w1 (.cells (vals (Nl.zeros (Nl.limbs m).length)).toArray 80)
  have hbox2 : (w1.alloc (.cells (vals (Nl.zeros (Nl.limbs m).length)).toArray 80)).heap[w.heap.size]? = some (.cells #[.slice none 0 0, .slice none 0 0] 139 (0, 0)) := (hb2.block _ (by omega)).trans hbox
  have HR := Lib.hid hrow
  have HBX := Lib.hid hbox2
  have HB := Lib.hid (hb1.trans (hb2.mono hb1.size))
  have HS1 := Lib.hid hs1
  have HLM := Lib.hid (Nl.limbs_small m)
  clear hbox hrow hb2 hbox2
  go_enter Tryz.func177, Tryz.ntmps177
  go_upto_region 1 with fail
  rw [← hw1]
  clear hw1 hb1
  go_wp2_with fail
  clear hmk
  rw [hs1] at HR
  clear hs1
  go_loopw [6, 7] (fun c i wr => ∃ (k r : Nat) (Z : List Nat), k ≤ (Nl.limbs m).length ∧ i = .int .i64 ((k : Int) - 1) ∧ c = .int .u64 (r : Int) ∧ r < d ∧ Hid (Row wr (w.heap.size + 1) Z) ∧ Hid (wr.heap[w.heap.size]? = some (.cells #[.slice none 0 0, .slice none 0 0] 139 (0, 0))) ∧ Hid (Below w.heap.size w wr) ∧
      Hid (Z.length = (Nl.limbs m).length) ∧ Hid (Nl.Small Z) ∧ Hid (Nl.val ((Nl.limbs m).drop k) = d * Nl.val (Z.drop k) + r)) (fun _ i _ => (intOf i + 1).toNat)
  case atStart => exact ⟨(Nl.limbs m).length, 0, _, by omega, rfl, rfl, hd, HR.out, HBX.out, HB.out, by rw [Hid, Nl.zeros_length], Nl.small_replicate _, by rw [Hid, List.drop_of_length_le (Nat.le_refl _), List.drop_of_length_le (by rw [Nl.zeros_length]; exact Nat.le_refl _)]; simp⟩
  case round =>
    obtain ⟨k, r, Z, hk, rfl, rfl, hrd, hrw, hbx, hbel, hlen, hsm, hv⟩ := hrel
    cases k with
    | zero =>
      have hm : m = d * Nl.val Z + r := by
        have := hv.out
        rwa [List.drop_zero, List.drop_zero, Nl.val_limbs] at this
      have hq : Nl.trim Z = Nl.limbs (m / d) := by
        rw [Nl.trim_eq hsm.out, hm, Nat.mul_add_div hd, Nat.div_eq_of_lt hrd, Nat.add_zero]
      have hr : r = m % d := by rw [hm, Nat.mul_add_mod, Nat.mod_eq_of_lt hrd]
      have htr := refTrim_row (w.heap.size + 1) 0 (Nl.limbs m).length Z wr (hrw.out.cells (fun i hi => by rw [Nat.zero_add]; exact ⟨hi, rfl⟩)) (by rw [hlen.out]; omega) (by omega) hrw.out.lt (by rw [hlen.out]; omega)
      rw [hlen.out, hq] at htr
      have HT := Lib.hid htr
      have HRR := Lib.hid hr
      clear htr hq hr hm
      go_wp2_with fail
      go_at_call 130
      refine HT.out.mono ?_
      rintro e w3 ⟨⟨u, rfl, hu⟩, hb3⟩
      have HU := Lib.hid hu
      have HWS := Lib.hid (show w.heap.size < wr.heap.size from Nat.lt_trans (Nat.lt_succ_self _) hrw.out.lt)
      have B3 := Lib.hid (hbel.out.trans (hb3.mono hbel.out.size))
      have BX3 := Lib.hid ((hb3.block _ (lt_of_block hbx.out)).trans hbx.out)
      clear hu hb3 HT
      go_wp2_with fail
      go_at_call 106
      refine (refOf_any r w3 (by omega)).mono ?_
      rintro e w4 ⟨⟨v, rfl, hv4⟩, hb4⟩
      have HU4 := Lib.hid (own_below HU.out hb4)
      have HV4 := Lib.hid (show At w4 v _ from hv4)
      have B4 := Lib.hid (B3.out.trans (hb4.mono B3.out.size))
      have BX4 := Lib.hid ((hb4.block _ (lt_of_block BX3.out)).trans BX3.out)
      obtain ⟨pu, cu, hue⟩ := own_form HU4.out
      obtain ⟨pv, cv, hve, -⟩ := HV4.out.form
      subst hue hve
      have c0 := cell_of_row _ _ 0 _ _ (0, 0) BX4.out
      have c1 := cell_of_row _ _ 1 _ _ (0, 0) BX4.out
      have f0 := frozen_of_row _ _ 0 _ _ BX4.out
      have f1 := frozen_of_row _ _ 1 _ _ BX4.out
      clear hb4 hv4 BX3 B3 HU
      go_wp2_with fail
      refine bodyPost_ret (v := .agg #[.slice pu (Nl.limbs (m / d)).length cu, .slice pv (Nl.limbs r).length cv]) (results_cell_row Tryz.results177 _ _ w.heap.size 139 _ (0, 0) _ rfl (box_set _ _ BX4.out) Tryz.underlying139 rfl (by kernel_rfl)) rfl ?_
      refine ⟨⟨_, _, rfl, own_box _ _ HU4.out HWS.out (Nat.le_of_lt HWS.out), ?_⟩, (B4.out.setCell (p := ⟨w.heap.size, 0, none⟩) (Nat.le_refl _) _).setCell (p := ⟨w.heap.size, 1, none⟩) (Nat.le_refl _) _⟩
      have h1 := at_box2 (.slice pu (Nl.limbs (m / d)).length cu) (.slice pv (Nl.limbs r).length cv) HV4.out BX4.out
      rw [IsN, ← HRR.out]
      exact h1
    | succ k =>
      rw [show ((k + 1 : Nat) : Int) - 1 = (k : Int) from by omega]
      have hkl : k < (Nl.limbs m).length := by omega
      rcases FA.out with fa | ⟨ba, oa, rfl, -, hca, -, hba, hcx⟩
      · rw [fa] at hkl; simp at hkl
      obtain ⟨x, hx⟩ : ∃ x, x = (Nl.limbs m).getD k 0 := ⟨_, rfl⟩
      have hx2 : x < 4294967296 := by rw [hx]; exact HLM.out.getD k
      have cx : wr.cell? ⟨ba, oa + k, none⟩ = some (.int .u32 (x : Int)) := by rw [hx]; exact (hbel.out.cell (p := ⟨ba, oa + k, none⟩) hba).trans (hcx k hkl)
      obtain ⟨z, hz⟩ : ∃ z, z = Z.getD k 0 := ⟨_, rfl⟩
      have cz := hrw.out.cell (i := k) (by rw [hlen.out]; exact hkl)
      rw [← hz] at cz
      have fz := hrw.out.free k
      have Hx := Lib.hid hx
      clear hx hz hcx
      obtain ⟨s, hs⟩ : ∃ s, s = r * 4294967296 + x := ⟨_, rfl⟩
      have hsi : (r : Int) * 4294967296 + x = (s : Int) := by omega
      have hs1 : s < 18446744073709551616 := by omega
      have hq : s / d < 4294967296 := Nat.div_lt_of_lt_mul (by
        have : (r + 1) * 4294967296 ≤ d * 4294967296 := Nat.mul_le_mul_right _ hrd
        omega)
      have hdz : ¬ ((d : Int) = 0) := by omega
      have hw : IntKind.u64.wrap ((s : Int) / (d : Int)) % 4294967296 = ((s / d : Nat) : Int) := by
        rw [IntKind.wrap_u64, show (s : Int) / (d : Int) = ((s / d : Nat) : Int) from rfl]
        generalize s / d = q at hq ⊢
        omega
      have HW := Lib.hid hw
      have HSS := Lib.hid hs
      have HQ := Lib.hid hq
      clear hw hs hq
      go_wp2
      go_roundw
      case rel =>
        rw [HW.out]
        have hkl2 : k < Z.length := by rw [hlen.out]; exact hkl
        refine ⟨k, s % d, Z.set k (s / d), by omega, rfl, by rw [show (s : Int) % (d : Int) = ((s % d : Nat) : Int) from rfl], Nat.mod_lt _ hd, hrw.out.set _ _, ?_, hbel.out.setCell (show w.heap.size ≤ w.heap.size + 1 by omega) _, ?_, ?_, ?_⟩
        · exact (Below.heap_setCell _ _ _ _ (show w.heap.size ≠ w.heap.size + 1 by omega)).trans hbx.out
        · rw [Hid, List.length_set]; exact hlen.out
        · exact hsm.out.set _ HQ.out
        · rw [Hid, Nl.val_drop_succ _ _ hkl, ← Hx.out, Nl.val_drop_succ (Z.set k (s / d)) _ (by rw [List.length_set]; exact hkl2), Nl.drop_set_succ, HSS.out]
          rw [show (Z.set k ((r * 4294967296 + x) / d)).getD k 0 = (r * 4294967296 + x) / d from by simp [hkl2]]
          exact div_step hv.out
      case measure => simp [intOf] <;> omega
end Go.Proofs.YtkbghamkalidcaaGreat

namespace Go.Proofs.YtkbghamkalidcaaGreat
open Go.RowKit

theorem refTrim_own (base : Nat) (v : Value) (zs : List Nat) (w : World) (h : w.ownsRow base 80 1 v zs.length (vals zs)) (hl : zs.length ≤ 1000000) (h0 : zs ≠ []) :
    Calls Tryz.prog 130 #[v] w fun e w' => (∃ v, e = .returned v ∧ w'.ownsRow w.heap.size 80 1 v (Nl.trim zs).length (vals (Nl.trim zs))) ∧ Below w.heap.size w w' := by
  rcases atP_of_owns h with ⟨-, h1⟩ | ⟨b, off, cap, rfl, -, hc, hm, hb, hx⟩
  · exact absurd h1 h0
  · exact refTrim_row b off cap zs w hx hc hm hb hl

set_option maxHeartbeats 2000000 in
theorem refShl_row (va : Value) (m n : Nat) (w : World) (ha : At w va (Nl.limbs m)) (hla : (Nl.limbs m).length ≤ 100000) (hz : m ≠ 0) (hn : n ≤ 64000) :
    Calls Tryz.prog 70 #[va, .int .i64 n] w fun e w' => (∃ v, e = .returned v ∧ w'.ownsRow w.heap.size 80 1 v (Nl.limbs (m * 2 ^ n)).length (vals (Nl.limbs (m * 2 ^ n)))) ∧ Below w.heap.size w w' := by
  obtain ⟨i0, hi, hz0, hz1, hz2⟩ := info_parts infoWord4
  have HI := Lib.hid (And.intro hi (And.intro hz0 (And.intro hz1 hz2)))
  have HA := Lib.hid ha
  obtain ⟨a, ca, rfl, fa⟩ := ha.form
  have FA := Lib.hid fa
  clear ha fa hi hz0 hz1 hz2
  have hlp := Nl.len_pos hz
  have e0 : (((Nl.limbs m).length : Int) == 0) = false := by rw [beq_eq_false_iff_ne]; omega
  obtain ⟨q, hq⟩ : ∃ q, q = n / 32 := ⟨_, rfl⟩
  obtain ⟨r, hr⟩ : ∃ r, r = n % 32 := ⟨_, rfl⟩
  have hr32 : r < 32 := by omega
  have q1 : (n : Int) / 32 = (q : Int) := by omega
  have r1 : (n : Int) % 32 = (r : Int) := by omega
  have hq2 : q ≤ 2000 := by omega
  have HN := Lib.hid (show n = 32 * q + r from by omega)
  have hmk := make_words2 23 Tryz.underlying23 w (q : Int) ((q : Int) + (Nl.limbs m).length + 1) q (q + (Nl.limbs m).length + 1) rfl (by omega) (by omega) (by omega)
  have hown := owns_made w q (q + (Nl.limbs m).length + 1) (by omega) (by omega)
  have HO0 := Lib.hid hown
  have HB0 := Lib.hid (below_alloc w (.cells (vals (Nl.zeros (q + (Nl.limbs m).length + 1))).toArray 80))
  obtain ⟨R, hR⟩ : ∃ R, R = 2 ^ r := ⟨_, rfl⟩
  have hR2 : R ≤ 2147483648 := by rw [hR]; exact Nat.pow_le_pow_right (by decide) (show r ≤ 31 by omega)
  have hRI : (2 : Int) ^ r = (R : Int) := by rw [hR, Int.natCast_pow]; rfl
  have HR := Lib.hid hR
  clear hz hn hq hr hown hR
  go_enter Tryz.func70, Tryz.ntmps70
  go_wp2_with fail
  clear hmk
  go_loopw [5, 6, 7] (fun v c i wr => ∃ (k d : Nat) (zs : List Nat), k ≤ (Nl.limbs m).length ∧ i = .int .i64 k ∧ c = .int .u64 (d : Int) ∧ d < 4294967296 ∧ Hid (zs.length = q + k) ∧ Hid (Nl.Small zs) ∧ Hid (wr.ownsRow w.heap.size 80 1 v (q + k) (vals zs)) ∧ Hid (Below w.heap.size w wr) ∧
      Hid (Nl.val zs + 4294967296 ^ (q + k) * d = Nl.val ((Nl.limbs m).take k) * 2 ^ n)) (fun _ _ i _ => ((Nl.limbs m).length - (intOf i).toNat))
  case atStart => exact ⟨0, 0, Nl.zeros q, by omega, rfl, rfl, by omega, by rw [Hid, Nl.zeros_length]; rfl, Nl.small_replicate _, HO0.out, HB0.out, by simp [Hid, Nl.val_replicate]⟩
  case round =>
    obtain ⟨k, d, zs, hk, rfl, rfl, hd, hlz, hsm, ho, hbel, hv⟩ := hrel
    by_cases hlt : k < (Nl.limbs m).length
    · rcases FA.out with fa | ⟨ba, oa, rfl, -, hca, -, hba, hcx⟩
      · rw [fa] at hlt; simp at hlt
      obtain ⟨x, hx⟩ : ∃ x, x = (Nl.limbs m).getD k 0 := ⟨_, rfl⟩
      have hx2 : x < 4294967296 := by rw [hx]; exact (Nl.limbs_small m).getD k
      have cx : wr.cell? ⟨ba, oa + k, none⟩ = some (.int .u32 (x : Int)) := by rw [hx]; exact (hbel.out.cell (p := ⟨ba, oa + k, none⟩) hba).trans (hcx k hlt)
      have hp : x * R ≤ 4294967295 * 2147483648 := Nat.mul_le_mul (by omega) hR2
      obtain ⟨p, hpp⟩ : ∃ p, p = x * R := ⟨_, rfl⟩
      have hpi : (x : Int) * (R : Int) = (p : Int) := by rw [hpp, Int.natCast_mul]
      rw [← hpp] at hp
      have Hx := Lib.hid hx
      have Hp := Lib.hid hpp
      have e1 : ((p : Int) + d) % 4294967296 = (((p + d) % 4294967296 : Nat) : Int) := by omega
      have e2 : ((p : Int) + d) / 4294967296 = (((p + d) / 4294967296 : Nat) : Int) := by omega
      have HE := Lib.hid (And.intro e1 e2)
      clear hx hcx hpp e1 e2
      go_wp2_with (at_builtin; refine wpList_append_own _ rfl (.tmp 38) (.tmp 41) 23 rfl w.heap.size 80 i0 (.int .u32 0) 1 4 Tryz.underlying23 HI.out.1 HI.out.2.1 HI.out.2.2.1 HI.out.2.2.2 rfl (by decide) _ (q + k) (vals zs) rfl (ho.out.alloc _) ⟨wr.heap.size, 0, none⟩ 1 1 [.int .u32 (((p : Int) + d) % 4294967296)] rfl rfl ?_ ?_ ?_ ?_ ?_ ?_)
      · intro j u hj
        exact one_new_cell hj
      · intro u hu
        simp at hu
        rw [hu]; rfl
      · simp only [maxLen]; omega
      · omega
      · have := hbel.out.size; simp; omega
      intro v' w1 ho' hg' _
      rw [HE.out.1, ← vals_snoc] at ho'
      have hbel' := grow_below hbel.out ho.out hg'
      have HO := Lib.hid ho'
      have HBel := Lib.hid hbel'
      clear ho' hg' hbel' ho
      go_wp2_with fail
      go_roundw
      case rel =>
        refine ⟨k + 1, (p + d) / 4294967296, zs ++ [(p + d) % 4294967296], by omega, by go_num, by rw [← HE.out.2], by omega, ?_, small_snoc hsm.out (Nat.mod_lt _ (by decide)), HO.out, HBel.out, ?_⟩
        · rw [Hid, List.length_append, hlz.out]; rfl
        · exact ref_shl_step HN.out hlt Hx.out hlz.out (by rw [Hp.out, HR.out]) hv.out
      case measure => simp [intOf] <;> omega
    · have hkl : k = (Nl.limbs m).length := by omega
      have HK := Lib.hid hkl
      have e1 : (d : Int) % 4294967296 = (d : Int) := by omega
      have HE := Lib.hid e1
      clear e1 hkl
      have t1 : decide (k < (Nl.limbs m).length) = false := decide_eq_false hlt
      go_wp2_with (at_builtin; refine wpList_append_own _ rfl (.tmp 45) (.tmp 48) 23 rfl w.heap.size 80 i0 (.int .u32 0) 1 4 Tryz.underlying23 HI.out.1 HI.out.2.1 HI.out.2.2.1 HI.out.2.2.2 rfl (by decide) _ (q + k) (vals zs) rfl (ho.out.alloc _) ⟨wr.heap.size, 0, none⟩ 1 1 [.int .u32 (d : Int)] rfl rfl ?_ ?_ ?_ ?_ ?_ ?_)
      · intro j u hj
        exact one_new_cell hj
      · intro u hu
        simp at hu
        rw [hu]; rfl
      · simp only [maxLen]; omega
      · omega
      · have := hbel.out.size; simp; omega
      intro v' w1 ho' hg' _
      rw [← vals_snoc] at ho'
      have hbel' := grow_below hbel.out ho.out hg'
      have hl1 : q + k + 1 = (zs ++ [d]).length := by rw [List.length_append, hlz.out]; rfl
      rw [hl1] at ho'
      have htr := refTrim_own _ _ (zs ++ [d]) w1 ho' (by rw [← hl1]; omega) (by simp)
      have hend : Nl.trim (zs ++ [d]) = Nl.limbs (m * 2 ^ n) := by
        rw [Nl.trim_eq (small_snoc hsm.out hd), val_snoc, hlz.out, hv.out, HK.out, List.take_of_length_le (Nat.le_refl _), Nl.val_limbs]
      rw [hend] at htr
      have HT := Lib.hid htr
      have HBel := Lib.hid hbel'
      clear ho' hg' hbel' ho htr hend hl1
      go_wp2_with fail
      refine HT.out.mono ?_
      rintro e w2 ⟨⟨u, rfl, hu⟩, hb2⟩
      have HU := Lib.hid hu
      have HB2 := Lib.hid (HBel.out.trans (hb2.mono HBel.out.size))
      clear hu hb2
      go_wp2_with fail
      go_ret
      exact ⟨⟨u, rfl, own_less HU.out HBel.out.size⟩, HB2.out⟩

/-- block g begins with the words Z; it may be written -/
def Head (w : World) (g : Nat) (Z : List Nat) : Prop := ∃ cur, w.heap[g]? = some (.cells cur 80 (0, 0)) ∧ cur.toList.take Z.length = vals Z
theorem Head.cell {w : World} {g : Nat} {Z : List Nat} (h : Head w g Z) {i : Nat} (hi : i < Z.length) : w.cell? ⟨g, i, none⟩ = some (.int .u32 ((Z.getD i 0 : Nat) : Int)) := by
  obtain ⟨cur, h1, h2⟩ := h
  rw [cell_of_row w g i _ _ _ h1]
  have h3 := vals_get hi
  rw [← h2, List.getElem?_take_of_lt hi] at h3
  simpa using h3
theorem Head.free {w : World} {g : Nat} {Z : List Nat} (h : Head w g Z) (i : Nat) : w.frozen? ⟨g, i, none⟩ = false := by
  obtain ⟨cur, h1, -⟩ := h
  exact frozen_of_row w g i _ _ h1
theorem Head.lt {w : World} {g : Nat} {Z : List Nat} (h : Head w g Z) : g < w.heap.size := by
  obtain ⟨cur, h1, -⟩ := h
  exact lt_of_block h1
theorem Head.set {w : World} {g : Nat} {Z : List Nat} (h : Head w g Z) (i y : Nat) : Head (w.setCell ⟨g, i, none⟩ (.int .u32 (y : Int))) g (Z.set i y) := by
  obtain ⟨cur, h1, h2⟩ := h
  refine ⟨_, heap_setCell_same w g i _ _ (.int .u32 (y : Int)) h1, ?_⟩
  rw [Array.toList_setIfInBounds, List.length_set, List.take_set, h2, vals, vals, List.map_set]
theorem Head.keeps {w w' : World} {g : Nat} {Z : List Nat} (h : Head w g Z) (hk : w'.heap[g]? = w.heap[g]?) : Head w' g Z := by
  obtain ⟨cur, h1, h2⟩ := h
  exact ⟨cur, by rw [hk]; exact h1, h2⟩
theorem Head.below {w w' : World} {g B : Nat} {Z : List Nat} (h : Head w g Z) (hb : Below B w w') (hB : g < B) : Head w' g Z := h.keeps (hb.block g hB)
theorem head_of_own {w : World} {base : Nat} {v : Value} {n : Nat} {Z : List Nat} (h : w.ownsRow base 80 1 v n (vals Z)) (hz : Z.length = n) (h0 : n ≠ 0) :
    ∃ g cap, v = .slice (some ⟨g, 0, none⟩) n cap ∧ base ≤ g ∧ Head w g Z ∧ n ≤ cap ∧ cap ≤ 9223372036854775807 := by
  obtain ⟨h1, ⟨-, h2⟩ | ⟨g, cap, cur, h2, h3, h4, h5, h6, h7, h8⟩⟩ := h
  · exact absurd h2 h0
  · refine ⟨g, cap, h2, h3, ⟨cur, h4, ?_⟩, h5, by simpa only [maxLen] using h6⟩
    rw [hz]; simpa using h8

/-- two numbers as the reference's pair -/
def DivOut (w w' : World) (e : Ending) (q r : Nat) : Prop := (∃ u v, e = .returned (.agg #[u, v]) ∧ IsN w' u q ∧ IsN w' v r) ∧ Below w.heap.size w w'
theorem refCmp_num' (va vb : Value) (m n : Nat) (w : World) (ha : IsN w va m) (hb : IsN w vb n) (hla : (Nl.limbs m).length ≤ 300000) (hlb : (Nl.limbs n).length ≤ 300000) :
    Calls Tryz.prog 175 #[va, vb] w fun e w' => e = .returned (.int .i64 (cmpI m n)) ∧ w = w' := by
  have h := refCmp_any va vb _ _ w ha hb (Nl.limbs_small m) (Nl.limbs_small n) (by omega) (by omega)
  rwa [Nl.val_limbs, Nl.val_limbs] at h
def lenOf : Value → Nat
  | .slice _ n _ => n
  | _ => 0
theorem Row.keeps {w w' : World} {g : Nat} {Z : List Nat} (h : Row w g Z) (hk : w'.heap[g]? = w.heap[g]?) : Row w' g Z := by
  unfold Row; rw [hk]; exact h
theorem last_carry {ys : List Nat} {N i y h yh p ph cr : Nat} (hl : ys.length = N + 2) (hi : i = N + 2) (hy : y = ys.getD i 0) (h1 : yh = y * h) (h2 : p = yh + cr) (h3 : ph = p / 4294967296) (hc : cr < 4294967296) : ph = 0 := by
  have : y = 0 := by rw [hy, hi]; simp [List.getD_eq_getElem?_getD, List.getElem?_eq_none (show ys.length ≤ N + 2 by omega)]
  rw [this, Nat.zero_mul] at h1
  omega
/-- the estimate of a word of the quotient is not too small -/
theorem est_least {Z ys : List Nat} {N top x1 x2 vt Q0 h0 b' : Nat} (hZl : Z.length = N + 3) (hZs : Nl.Small Z) (hys : Nl.val ys = b') (hyl : ys.length = N + 2) (hx1 : x1 = Z.getD (N + 2) 0) (hx2 : x2 = Z.getD (N + 1) 0) (hvt : vt = ys.getD (N + 1) 0)
    (ht : top = x1 * 4294967296 + x2) (hq : Q0 = top / vt) (hv0 : 0 < vt) (hh : h0 = min Q0 4294967295) (hlt : Nl.val Z < 4294967296 * b') : Nl.val Z < (h0 + 1) * b' := by
  by_cases hb : 4294967295 ≤ Q0
  · rw [hh, Nat.min_eq_right hb]; exact hlt
  · have hq1 : h0 = Q0 := by omega
    have h1 : top < (Q0 + 1) * vt := by rw [hq, Nat.mul_comm]; exact Nat.lt_mul_div_succ top hv0
    have h2 : Nl.val Z = Nl.val (Z.take (N + 1)) + 4294967296 ^ (N + 1) * top := by
      have e1 := Nl.val_take_drop Z (N + 1) (by omega)
      have e2 := Nl.val_drop_succ Z (N + 1) (by omega)
      have e3 := Nl.val_drop_succ Z (N + 1 + 1) (by omega)
      have e5 : Nl.val (Z.drop (N + 1 + 1 + 1)) = 0 := by rw [List.drop_of_length_le (by omega)]; rfl
      have e6 : x1 = Z.getD (N + 1 + 1) 0 := hx1
      have e7 : Nl.val (Z.drop (N + 1)) = top := by rw [e2, e3, e5, ← hx2, ← e6, ht]; omega
      rw [← e1, e7]
    have h3 : Nl.val (Z.take (N + 1)) < 4294967296 ^ (N + 1) := by
      have := Nl.val_lt (hZs.take (N + 1))
      rwa [List.length_take, Nat.min_eq_left (by omega)] at this
    have h4 : 4294967296 ^ (N + 1) * vt ≤ b' := by
      have e1 := Nl.val_take_drop ys (N + 1) (by omega)
      have e2 := Nl.val_drop_succ ys (N + 1) (by omega)
      have e5 : Nl.val (ys.drop (N + 1 + 1)) = 0 := by rw [List.drop_of_length_le (by omega)]; rfl
      have e6 : Nl.val (ys.drop (N + 1)) = vt := by rw [e2, e5, ← hvt]; omega
      rw [e6, hys] at e1
      rw [← e1]; exact Nat.le_add_left _ _
    rw [hq1, h2]
    obtain ⟨M, hM⟩ : ∃ M, M = 4294967296 ^ (N + 1) := ⟨_, rfl⟩
    rw [← hM] at h3 h4 ⊢
    have h5 : M * (top + 1) ≤ M * ((Q0 + 1) * vt) := Nat.mul_le_mul_left M h1
    have h6 : (Q0 + 1) * (M * vt) ≤ (Q0 + 1) * b' := Nat.mul_le_mul_left _ h4
    rw [Nat.mul_left_comm M] at h5
    rw [Nat.mul_add, Nat.mul_one] at h5
    omega
theorem div_done {z y h b : Nat} (hv : y + h * b = z) (hest : z < (h + 1) * b) : h = z / b ∧ y = z % b ∧ y < b := by
  have hy : y < b := by rw [Nat.add_mul, Nat.one_mul] at hest; omega
  have e : z = b * h + y := by rw [← hv, Nat.mul_comm, Nat.add_comm]
  refine ⟨?_, ?_, hy⟩
  · rw [e, Nat.mul_add_div (by omega), Nat.div_eq_of_lt hy, Nat.add_zero]
  · rw [e, Nat.mul_add_mod, Nat.mod_eq_of_lt hy]
theorem back_step {z y y' h b M c d : Nat} (hv : y + (h + 1) * b = z + M * d) (hd : 1 ≤ d) (hd2 : d ≤ 1) (hy : y < M) (ha : y' + M * c = y + b) (hc : c ≤ 1) : y' + h * b = z + M * (d - c) ∧ z < (h + 1) * b := by
  obtain rfl : d = 1 := by omega
  rw [Nat.mul_one] at hv
  refine ⟨?_, by omega⟩
  rw [Nat.add_mul, Nat.one_mul] at hv
  have hc2 : c = 0 ∨ c = 1 := by omega
  rcases hc2 with rfl | rfl
  · rw [Nat.mul_zero] at ha
    rw [Nat.sub_zero, Nat.mul_one]; omega
  · rw [Nat.mul_one] at ha
    rw [Nat.sub_self, Nat.mul_zero]; omega
theorem getD_mid {A Z C : List Nat} {k i : Nat} (hA : A.length = k) (hi : i < Z.length) : (A ++ (Z ++ C)).getD (k + i) 0 = Z.getD i 0 := by
  rw [getD_append_right' hA]
  simp [List.getD_eq_getElem?_getD, List.getElem?_append_left hi]
theorem set_mid {A Z C : List Nat} {k i y : Nat} (hA : A.length = k) (hi : i < Z.length) : (A ++ (Z ++ C)).set (k + i) y = A ++ (Z.set i y ++ C) := by
  rw [set_append_right' hA, List.set_append_left _ _ hi]
theorem getD_zero_end (L : List Nat) (i : Nat) : (L ++ [0]).getD i 0 = L.getD i 0 := by
  by_cases h : i < L.length
  · simp [List.getD_eq_getElem?_getD, List.getElem?_append_left h]
  · have h2 : L.getD i 0 = 0 := by simp [List.getD_eq_getElem?_getD, List.getElem?_eq_none (show L.length ≤ i by omega)]
    rw [h2]
    by_cases h3 : i = L.length
    · subst h3; simp [List.getD_eq_getElem?_getD]
    · simp [List.getD_eq_getElem?_getD, List.getElem?_eq_none (show (L ++ [0]).length ≤ i by simp; omega)]
/-- one word of a difference with a product, with a carry and a borrow -/
theorem sub_word64 {z p bw : Nat} (hz : z < 4294967296) (hbw : bw ≤ 1) : ∃ D s bw' : Nat, IntKind.u64.wrap (IntKind.u64.wrap ((z : Int) - ((p % 4294967296 : Nat) : Int)) - (bw : Int)) = (D : Int) ∧ D < 18446744073709551616 ∧ (D : Int) % 4294967296 = (s : Int) ∧ (D : Int) / 9223372036854775808 = (bw' : Int) ∧ s < 4294967296 ∧ bw' ≤ 1 ∧ s + p + bw = z + 4294967296 * (p / 4294967296 + bw') := by
  rw [IntKind.wrap_u64, IntKind.wrap_u64]
  by_cases h : p % 4294967296 + bw ≤ z
  · exact ⟨z - p % 4294967296 - bw, z - p % 4294967296 - bw, 0, by omega, by omega, by omega, by omega, by omega, by omega, by omega⟩
  · exact ⟨18446744073709551616 + z - p % 4294967296 - bw, 4294967296 + z - p % 4294967296 - bw, 1, by omega, by omega, by omega, by omega, by omega, by omega, by omega⟩
theorem bits_of_shift {n P s NB : Nat} (hP : (Nl.limbs n).length = P) (hs : s = 32 * (Nl.limbs n).length - nbits n) (hN : NB = nbits n) : (32 : Int) * (P : Int) - (NB : Int) = (s : Int) := by
  have h := nbits_len n
  omega

set_option maxRecDepth 10000 in
set_option maxHeartbeats 4000000 in
theorem refDiv_big (va vb : Value) (m n N : Nat) (w : World) (ha : IsN w va m) (hb : IsN w vb n) (hla : (Nl.limbs m).length ≤ 1000) (hln : (Nl.limbs n).length = N + 2) (hle : n ≤ m) :
    Calls Tryz.prog 132 #[va, vb] w fun e w' => DivOut w w' e (m / n) (m % n) := by
  obtain ⟨c, hcc⟩ : ∃ c, cmpI (m : Int) (n : Int) = c := ⟨_, rfl⟩
  have hc0 : ¬ (c < 0) := by
    rw [← hcc]
    rcases Nat.lt_or_eq_of_le hle with h | h
    · rw [cmpI_gt h]; omega
    · rw [h, cmpI_eq]; omega
  have hlle := Nl.limbs_mono hle
  obtain ⟨L, hL⟩ : ∃ L, (Nl.limbs m).length = L := ⟨_, rfl⟩
  obtain ⟨P, hP⟩ : ∃ P, (Nl.limbs n).length = P := ⟨_, rfl⟩
  have hPN : P = N + 2 := by omega
  obtain ⟨K, hK⟩ : ∃ K, L = K + P := ⟨L - P, by omega⟩
  obtain ⟨s, hs, hs31, hbl, hbt⟩ := full_divisor hln
  have hn0 : n ≠ 0 := by
    intro h
    rw [h, Nl.limbs_zero] at hln
    simp at hln
  obtain ⟨b', hb'⟩ : ∃ b', b' = n * 2 ^ s := ⟨_, rfl⟩
  obtain ⟨m', hm'⟩ : ∃ m', m' = m * 2 ^ s := ⟨_, rfl⟩
  rw [← hb'] at hbl hbt
  have hbM : b' < 4294967296 ^ (N + 2) := by
    have h1 := Nl.lt_limbs b'
    rw [hbl] at h1
    exact h1
  have hm'l : (Nl.limbs m').length ≤ L + 1 := by
    apply Nl.limbs_lt
    rw [hm', Nat.pow_succ]
    have h1 := Nl.lt_limbs m
    rw [hL] at h1
    have h2 : 2 ^ s ≤ 2 ^ 32 := Nat.pow_le_pow_right (by decide) (by omega)
    exact Nat.lt_of_lt_of_le (Nat.mul_lt_mul_of_pos_right h1 (Nat.two_pow_pos s)) (Nat.mul_le_mul_left _ h2)
  have hstart : m' / 4294967296 ^ (K + 1) < b' := by
    rw [Nat.div_lt_iff_lt_mul (Nat.pow_pos (by decide))]
    have h1 := Nl.lt_limbs m
    rw [hL] at h1
    have h3 := nbits_le hn0
    have h4 : nbits n = 32 * (N + 2) - s := by
      have h5 := nbits_len n
      rw [hln] at h5 hs
      omega
    have h6 : 4294967296 ^ (N + 1) ≤ n := by
      rw [pow32]
      exact Nat.le_trans (Nat.pow_le_pow_right (by decide) (by omega)) h3
    rw [hm', hb', Nat.mul_right_comm]
    refine Nat.mul_lt_mul_of_pos_right (Nat.lt_of_lt_of_le h1 ?_) (Nat.two_pow_pos s)
    rw [show L = (N + 1) + (K + 1) by omega, Nat.pow_add]
    exact Nat.mul_le_mul_right _ h6
  obtain ⟨NB, hNB⟩ : ∃ NB, NB = nbits n := ⟨_, rfl⟩
  have hsi := bits_of_shift hP hs hNB
  have hNBl := nbits_len n
  rw [← hNB, hP] at hNBl
  have hm0 : m ≠ 0 := by omega
  have HA := Lib.hid ha
  have HB := Lib.hid hb
  have HLM := Lib.hid (And.intro hL hP)
  have HS := Lib.hid hs
  have HN0 := Lib.hid hn0
  have HM0 := Lib.hid hm0
  have HBB := Lib.hid (And.intro hbl hbt)
  have HBE := Lib.hid (And.intro hb' hm')
  have HBM := Lib.hid hbM
  have HML := Lib.hid hm'l
  have HST := Lib.hid hstart
  have HPN := Lib.hid hPN
  obtain ⟨a, ca, rfl, -⟩ := ha.form
  obtain ⟨b, cb, rfl, -⟩ := hb.form
  obtain ⟨w1, hw1⟩ : ∃ w1, w1 = w.alloc (.cells #[.slice none 0 0, .slice none 0 0] 139) := ⟨_, rfl⟩
  have hbox : w1.heap[w.heap.size]? = some (.cells #[.slice none 0 0, .slice none 0 0] 139 (0, 0)) := by rw [hw1]; exact heap_alloc_new _ _
  have hb1 : Below w.heap.size w w1 := by rw [hw1]; exact below_al w _
  have BX1 := Lib.hid hbox
  have B1 := Lib.hid hb1
  have hbits := refBits_any _ n w1 (HB.out.below hb1) (by omega)
  rw [← hNB] at hbits
  have HBI := Lib.hid hbits
  have hcm := refCmp_num' _ _ m n w1 (HA.out.below hb1) (HB.out.below hb1) (by omega) (by omega)
  rw [hcc] at hcm
  have HC := Lib.hid hcm
  have e1 : ((P : Int) == 1) = false := by rw [beq_eq_false_iff_ne]; omega
  have hKb : L ≤ 1000 := by omega
  have hP2 : 2 ≤ P := by omega
  rw [hL] at HA HC ⊢
  rw [hP] at HB HC HBI ⊢
  have hK1 : L ≤ K + P := by omega
  have hK2 : K + P ≤ L := by omega
  have HK := Lib.hid hK
  have HSI := Lib.hid hsi
  have t0 : decide (c < 0) = false := decide_eq_false hc0
  clear ha hb hcm hcc hle hlle hla hL hP hPN hK hln hs hn0 hm0 hbl hbt hb' hm' hbM hm'l hstart hbits hNB hbox hb1 hc0
  go_enter Tryz.func132, Tryz.ntmps132
  go_upto_region 1 with fail
  rw [← hw1]
  clear hw1
  go_wp2_with fail
  refine HC.out.mono ?_
  rintro e w' ⟨rfl, rfl⟩
  go_wp2_with fail
  refine HBI.out.mono ?_
  rintro e w' ⟨rfl, rfl⟩
  clear HC HBI
  have HSL := Lib.hid (refShl_any _ n s w1 (HB.out.below B1.out) (by rw [HLM.out.2]; omega) (.inr (by omega)))
  go_wp2_with fail
  refine HSL.out.mono ?_
  rintro e w3 ⟨⟨v, rfl, hv⟩, hb3⟩
  rw [← HBE.out.1] at hv
  have hvl := hv.mono (q := (· < w3.heap.size)) fun _ h _ => h
  obtain ⟨pv, cv, rfl, -⟩ := hv.form
  rw [HBB.out.1, ← HPN.out] at hvl
  have HV := Lib.hid hvl
  rw [HBB.out.1, ← HPN.out]
  have B3 := Lib.hid (B1.out.trans (hb3.mono B1.out.size))
  have BX3 := Lib.hid ((hb3.block _ (lt_of_block BX1.out)).trans BX1.out)
  clear hv hvl hb3 HSL B1 BX1
  have HSA := Lib.hid (refShl_row _ m s w3 (HA.out.below B3.out) (by rw [HLM.out.1]; omega) HM0.out (by omega))
  go_wp2_with fail
  refine HSA.out.mono ?_
  rintro e w4 ⟨⟨u, rfl, hu⟩, hb4⟩
  rw [← HBE.out.2] at hu
  obtain ⟨lm, hlm⟩ : ∃ lm, lm = (Nl.limbs m').length := ⟨_, rfl⟩
  rw [← hlm] at hu
  have hml := HML.out
  rw [← hlm] at hml
  have hu0 : w4.ownsRow w3.heap.size 80 1 u (lm + 0) (vals (Nl.limbs m' ++ Nl.zeros 0)) := by
    rw [show Nl.zeros 0 = [] from rfl, List.append_nil]; exact hu
  have HU := Lib.hid hu0
  have B4 := Lib.hid hb4
  have HLMM := Lib.hid hlm
  obtain ⟨i0, hi, hz0, hz1, hz2⟩ := info_parts infoWord4
  have HI := Lib.hid (And.intro hi (And.intro hz0 (And.intro hz1 hz2)))
  clear hi hz0 hz1 hz2 hu hu0 hb4 hlm HSA
  go_wp2_with fail
  go_loopw [8] (fun u wr => ∃ k : Nat, lm + k ≤ L + 1 ∧ Hid (wr.ownsRow w3.heap.size 80 1 u (lm + k) (vals (Nl.limbs m' ++ Nl.zeros k))) ∧ Hid (Below w3.heap.size w3 wr)) (fun u _ => L + 1 - lenOf u)
  case atStart => exact ⟨0, by omega, HU.out, B4.out⟩
  case round =>
    obtain ⟨k, hk, ho, hbel⟩ := hrel
    obtain ⟨pu, cu, rfl⟩ := own_form ho.out
    by_cases hlt : lm + k ≤ L
    · have t1 : decide (lm + k ≤ L) = true := decide_eq_true hlt
      go_wp2_with (at_builtin; refine wpList_append_own _ rfl (.tmp 52) (.tmp 53) 23 rfl w3.heap.size 80 i0 (.int .u32 0) 1 4 Tryz.underlying23 HI.out.1 HI.out.2.1 HI.out.2.2.1 HI.out.2.2.2 rfl (by decide) _ (lm + k) (vals (Nl.limbs m' ++ Nl.zeros k)) rfl (ho.out.alloc _) ⟨wr.heap.size, 0, none⟩ 1 1 [.int .u32 ((0 : Nat) : Int)] rfl rfl ?_ ?_ ?_ ?_ ?_ ?_)
      · intro j u hj
        exact one_new_cell hj
      · intro u hu
        simp at hu
        rw [hu]; rfl
      · simp only [maxLen]; omega
      · omega
      · have := hbel.out.size; simp; omega
      intro v' w5 ho' hg' _
      rw [show vals (Nl.limbs m' ++ Nl.zeros k) ++ [.int .u32 0] = vals (Nl.limbs m' ++ Nl.zeros (k + 1)) by simp [vals, Nl.zeros, List.replicate_succ']] at ho'
      have hbel' := grow_below hbel.out ho.out hg'
      have HO := Lib.hid ho'
      have HBel := Lib.hid hbel'
      obtain ⟨pu2, cu2, rfl⟩ := own_form ho'
      clear ho' hg' hbel' ho
      go_wp2_with fail
      go_roundw
      case rel => exact ⟨k + 1, by omega, HO.out, HBel.out⟩
      case measure => simp [lenOf] <;> omega
    · have t1 : decide (lm + k ≤ L) = false := decide_eq_false hlt
      have hkl : lm + k = L + 1 := by omega
      obtain ⟨Z0, hZ0⟩ : ∃ Z, Z = Nl.limbs m' ++ Nl.zeros k := ⟨_, rfl⟩
      have hst := long_start (m' := m') (b' := b') (L := L) (K := K) (by rw [← HLMM.out]; omega) (by omega) HST.out
      rw [← HLMM.out, show L + 1 - lm = k by omega, ← hZ0] at hst
      have ho' := ho.out
      rw [← hZ0] at ho'
      obtain ⟨gu, cu', hue, hgu, hhd, hcu0, hcu⟩ := head_of_own ho' (by rw [hst.1, hkl]) (by omega)
      obtain ⟨gu', hgu', rfl⟩ : ∃ g, g = gu ∧ pu = some ⟨g, 0, none⟩ := ⟨gu, rfl, by simpa using (Value.slice.inj hue).1⟩
      obtain rfl : cu = cu' := by simpa using (Value.slice.inj hue).2.2
      subst hgu'
      have HD := Lib.hid hhd
      have HST2 := Lib.hid hst
      have hku : ((lm + k : Nat) : Int) = ((L + 1 : Nat) : Int) := by omega
      have hki : (L : Int) - (P : Int) = (K : Int) := by omega
      have hmk := make_words 23 Tryz.underlying23 wr ((K : Int) + 1) (K + 1) (by omega) (by omega)
      obtain ⟨gq, hgq⟩ : ∃ g, g = wr.heap.size := ⟨_, rfl⟩
      obtain ⟨w5, hw5⟩ : ∃ w5, w5 = wr.alloc (.cells (vals (Nl.zeros (K + 1))).toArray 80) := ⟨_, rfl⟩
      rw [← hw5, ← hgq] at hmk
      have hlt2 := hhd.lt
      have hbq : Below wr.heap.size wr w5 := by rw [hw5]; exact (Below.refl _ _).alloc (Nat.le_refl _) _
      have RQ := Lib.hid (show Row w5 gq (Nl.zeros (K + 1)) by rw [hw5, hgq]; exact row_new wr _)
      have HD := Lib.hid (hhd.below hbq hlt2)
      have B5 := Lib.hid (hbel.out.trans (hbq.mono hbel.out.size))
      have hgu2 : gu' ≠ gq := by rw [hgq]; omega
      have hgq2 : w3.heap.size ≤ gq := by rw [hgq]; exact hbel.out.size
      have HST2 := Lib.hid hst
      clear hst ho ho' hue hhd hZ0 hlt2 hbq hbel hw5 hgq HU B4
      rw [hkl]
      go_wp2_with fail
      clear hmk
      go_loopw [10] (fun j wr => ∃ (k : Nat) (R Qs : List Nat), k ≤ K + 1 ∧ j = .int .i64 ((k : Int) - 1) ∧ Hid (Head wr gu' R) ∧ Hid (Row wr gq Qs) ∧ Hid (Below w3.heap.size w3 wr) ∧ Hid (R.length = L + 1) ∧ Hid (Qs.length = K + 1) ∧ Hid (Nl.Small R) ∧ Hid (Nl.Small Qs) ∧
        Hid (Nl.val R + b' * (4294967296 ^ k * Nl.val (Qs.drop k)) = m') ∧ Hid (Nl.val (R.drop k) < b')) (fun j _ => (intOf j + 1).toNat)
      case atStart =>
        refine ⟨K + 1, Z0, Nl.zeros (K + 1), Nat.le_refl _, ?_, HD.out, RQ.out, B5.out, HST2.out.1, Nl.zeros_length _, HST2.out.2.1, Nl.small_replicate _, ?_, HST2.out.2.2.2⟩
        · congr 1; omega
        · rw [Hid, List.drop_of_length_le (by rw [Nl.zeros_length]; exact Nat.le_refl _)]
          rw [show Nl.val [] = 0 from rfl, Nat.mul_zero, Nat.mul_zero, Nat.add_zero]
          exact HST2.out.2.2.1
      case round =>
        obtain ⟨k, R, Qs, hk, rfl, hhd, hrq, hbel, hRl, hQl, hRs, hQs, hval, htop⟩ := hrel
        cases k with
        | zero =>
          have hv0 : Nl.val R + n * 2 ^ s * Nl.val Qs = m * 2 ^ s := by
            have h1 := hval.out
            rw [Nat.pow_zero, Nat.one_mul, List.drop_zero, HBE.out.1, HBE.out.2] at h1
            exact h1
          have hr0 : Nl.val R < n * 2 ^ s := by
            have h1 := htop.out
            rw [List.drop_zero, HBE.out.1] at h1
            exact h1
          obtain ⟨hq1, hr1⟩ := long_end hv0 hr0
          have htq := refTrim_cells gq 0 (K + 1) Qs wr (hrq.out.cells (fun i hi => by rw [Nat.zero_add]; exact ⟨hi, rfl⟩)) (by rw [hQl.out]; exact Nat.le_refl _) (by omega) hrq.out.lt (by rw [hQl.out]; omega)
          rw [hQl.out, Nl.trim_eq hQs.out, hq1] at htq
          have HTQ := Lib.hid htq
          have HR1 := Lib.hid hr1
          have BX6 := Lib.hid ((hbel.out.block _ (lt_of_block BX3.out)).trans BX3.out)
          clear hv0 hr0 hq1 hr1 htq
          go_wp2_with fail
          go_at_call 130
          refine HTQ.out.mono ?_
          rintro e w6 ⟨⟨vq, rfl, hvq⟩, hb6⟩
          have HVQ := Lib.hid (show At w6 vq _ from hvq.at)
          have HH6 := hhd.out.below hb6 hhd.out.lt
          have BX7 := Lib.hid ((hb6.block _ (lt_of_block BX6.out)).trans BX6.out)
          have B6 := Lib.hid (B3.out.trans ((hbel.out.trans (hb6.mono hbel.out.size)).mono B3.out.size))
          have htu := refTrim_cells gu' 0 cu R w6 (fun i hi => by rw [Nat.zero_add]; exact HH6.cell hi) (by rw [hRl.out]; omega) hcu HH6.lt (by rw [hRl.out]; omega)
          rw [hRl.out, Nl.trim_eq hRs.out] at htu
          have HTU := Lib.hid htu
          clear hvq hb6 HH6 htu HTQ BX6
          go_wp2_with fail
          go_at_call 130
          refine HTU.out.mono ?_
          rintro e w7 ⟨⟨vu, rfl, hvu⟩, hb7⟩
          have hlR : (Nl.limbs (Nl.val R)).length ≤ 900000 := by rw [← Nl.trim_eq hRs.out]; exact Nat.le_trans (Nl.trim_length R) (by rw [hRl.out]; omega)
          have HVQ7 := Lib.hid (HVQ.out.below hb7)
          have BX8 := Lib.hid ((hb7.block _ (lt_of_block BX7.out)).trans BX7.out)
          have B7 := Lib.hid (B6.out.trans (hb7.mono B6.out.size))
          have hsr := refShr_any vu (Nl.val R) s w7 hvu.at hlR (by omega)
          rw [HR1.out] at hsr
          have HSR := Lib.hid hsr
          clear hvu hb7 hsr HTU BX7 HVQ B6
          go_wp2_with fail
          refine HSR.out.mono ?_
          rintro e w8 ⟨⟨vr, rfl, hvr⟩, hb8⟩
          have HVR := Lib.hid (show At w8 vr _ from hvr)
          have HVQ8 := Lib.hid (HVQ7.out.below hb8)
          have BX9 := Lib.hid ((hb8.block _ (lt_of_block BX8.out)).trans BX8.out)
          have B8 := Lib.hid (B7.out.trans (hb8.mono B7.out.size))
          obtain ⟨pr, cr, hre, -⟩ := HVR.out.form
          obtain ⟨pq, cq, hqe, -⟩ := HVQ8.out.form
          subst hre hqe
          have c0 := cell_of_row _ _ 0 _ _ (0, 0) BX9.out
          have c1 := cell_of_row _ _ 1 _ _ (0, 0) BX9.out
          have f0 := frozen_of_row _ _ 0 _ _ BX9.out
          have f1 := frozen_of_row _ _ 1 _ _ BX9.out
          clear hvr hb8 HSR BX8 HVQ7 B7
          go_wp2_with fail
          refine bodyPost_ret (v := .agg #[.slice pq (Nl.limbs (m / n)).length cq, .slice pr (Nl.limbs (m % n)).length cr]) (results_cell_row Tryz.results132 _ _ w.heap.size 139 _ (0, 0) _ rfl (box_set _ _ BX9.out) Tryz.underlying139 rfl (by kernel_rfl)) rfl ?_
          exact ⟨⟨_, _, rfl, at_box2 _ _ HVQ8.out BX9.out, at_box2 _ _ HVR.out BX9.out⟩, (B8.out.setCell (p := ⟨w.heap.size, 0, none⟩) (Nat.le_refl _) _).setCell (p := ⟨w.heap.size, 1, none⟩) (Nat.le_refl _) _⟩
        | succ k =>
          rw [show ((k + 1 : Nat) : Int) - 1 = (k : Int) from by omega]
          obtain ⟨J1, hJ1⟩ : ∃ j, j = k + P := ⟨_, rfl⟩
          obtain ⟨J2, hJ2⟩ : ∃ j, j = k + (N + 1) := ⟨_, rfl⟩
          obtain ⟨N1, hN1⟩ : ∃ j, j = N + 1 := ⟨_, rfl⟩
          have hk1 : (k : Int) + (P : Int) = (J1 : Int) := by omega
          have hk2 : (J1 : Int) - 1 = (J2 : Int) := by have := HPN.out; omega
          have hk3 : (P : Int) - 1 = (N1 : Int) := by have := HPN.out; omega
          have hk4 : N1 < P := by have := HPN.out; omega
          have hJ1l : J1 < L + 1 := by omega
          have hJ2l : J2 < L + 1 := by have := HPN.out; omega
          obtain ⟨x1, hx1⟩ : ∃ x, x = R.getD J1 0 := ⟨_, rfl⟩
          obtain ⟨x2, hx2⟩ : ∃ x, x = R.getD J2 0 := ⟨_, rfl⟩
          obtain ⟨vt, hvt⟩ : ∃ x, x = (Nl.limbs b').getD N1 0 := ⟨_, rfl⟩
          have hx1b : x1 < 4294967296 := by rw [hx1]; exact hRs.out.getD _
          have hx2b : x2 < 4294967296 := by rw [hx2]; exact hRs.out.getD _
          have hvtb : vt < 4294967296 := by rw [hvt]; exact (Nl.limbs_small b').getD _
          have hvt2 : 2147483648 ≤ vt := by rw [hvt]; rw [hN1]; exact HBB.out.2
          have c1 := hhd.out.cell (i := J1) (by rw [hRl.out]; exact hJ1l)
          have c2 := hhd.out.cell (i := J2) (by rw [hRl.out]; exact hJ2l)
          rw [← hx1] at c1
          rw [← hx2] at c2
          have hvw := HV.out.below hbel.out
          rcases hvw with ⟨hve, -⟩ | ⟨bv, ov, cvv, hve, hvp, hvc, hvm, hvl, hvx⟩
          · exact absurd (congrArg lenOf hve) (by show ¬ P = 0; omega)
          have c3 := hvx N1 (by rw [HBB.out.1]; omega)
          rw [← hvt] at c3
          obtain ⟨hpv, hcv⟩ : pv = some ⟨bv, ov, none⟩ ∧ cv = cvv := by simpa [HBB.out.1, HPN.out] using hve
          subst hpv hcv
          have HX := Lib.hid (And.intro hx1 (And.intro hx2 hvt))
          have HJ := Lib.hid (And.intro hJ1 (And.intro hJ2 hN1))
          have HVX := Lib.hid hvx
          obtain ⟨top, htp⟩ : ∃ t, t = x1 * 4294967296 + x2 := ⟨_, rfl⟩
          have htpi : (x1 : Int) * 4294967296 + (x2 : Int) = (top : Int) := by omega
          have htp64 : top < 18446744073709551616 := by omega
          obtain ⟨Q0, hQ0⟩ : ∃ q, q = top / vt := ⟨_, rfl⟩
          have hQi : (top : Int) / (vt : Int) = (Q0 : Int) := by rw [hQ0]; rfl
          have hQb : Q0 < 18446744073709551616 := by rw [hQ0]; exact Nat.lt_of_le_of_lt (Nat.div_le_self _ _) htp64
          have hvz : ¬ ((vt : Int) = 0) := by omega
          have hvz2 : ¬ (vt = 0) := by omega
          have HQ0 := Lib.hid (And.intro hQ0 htp)
          clear hx1 hx2 hvt hvx hve hQ0 htp hJ1 hJ2 hN1
          go_wp2_with fail
          go_quiet (fail)
          go_wp2_with fail
          obtain ⟨h0, hh0⟩ : ∃ h : Nat, h = min Q0 4294967295 := ⟨_, rfl⟩
          have hmin : min (Q0 : Int) 4294967295 = (h0 : Int) := by omega
          have hh0b : h0 ≤ 4294967295 := by omega
          obtain ⟨A, hA⟩ : ∃ A, A = R.take k := ⟨_, rfl⟩
          obtain ⟨C, hC⟩ : ∃ C, C = R.drop (k + (N + 3)) := ⟨_, rfl⟩
          obtain ⟨Z, hZ⟩ : ∃ Z, Z = (R.drop k).take (N + 3) := ⟨_, rfl⟩
          obtain ⟨ys, hys⟩ : ∃ ys, ys = Nl.limbs b' ++ [0] := ⟨_, rfl⟩
          have hAl : A.length = k := by rw [hA, List.length_take, hRl.out]; omega
          have hZl : Z.length = N + 3 := by rw [hZ, List.length_take, List.length_drop, hRl.out]; have := HPN.out; omega
          have hyl : ys.length = N + 3 := by rw [hys, List.length_append, HBB.out.1]; rfl
          have hsp : A ++ (Z ++ C) = R := by rw [hA, hZ, hC]; exact split3 R k (N + 3)
          have hZs : Nl.Small Z := by rw [hZ]; exact (hRs.out.drop _).take _
          have b6 := below_drewN wr nq w3.heap.size
          have HH := Lib.hid hh0
          have HAL := Lib.hid hAl
          have HZL := Lib.hid hZl
          have HYL := Lib.hid hyl
          have HSP := Lib.hid hsp
          have HAE := Lib.hid (And.intro hA hC)
          have HZS := Lib.hid hZs
          have HZE := Lib.hid hZ
          have HYE := Lib.hid hys
          have H6 := Lib.hid (show Head (wr.drewN nq) gu' (A ++ (Z ++ C)) by rw [hsp]; exact hhd.out)
          have R6 := Lib.hid (show Row (wr.drewN nq) gq Qs from hrq.out)
          have B6 := Lib.hid (hbel.out.trans b6)
          clear hmin hh0 hA hC hZ hys hAl hZl hyl hsp hZs b6 c1 c2 c3 htpi hQi hvz hvz2
          rw [show min (Q0 : Int) 4294967295 = (h0 : Int) by have := HH.out; omega]
          go_loopw [12, 13, 14] (fun cv bv iv wx => ∃ (i cr bw : Nat) (Z' : List Nat), i ≤ N + 3 ∧ iv = .int .i64 i ∧ cv = .int .u64 (cr : Int) ∧ bv = .int .u64 (bw : Int) ∧ cr < 4294967296 ∧ bw ≤ 1 ∧ Hid (i = N + 3 → cr = 0) ∧ Hid (Head wx gu' (A ++ (Z' ++ C))) ∧ Hid (Row wx gq Qs) ∧ Hid (Below w3.heap.size w3 wx) ∧
            Hid (Z'.length = N + 3) ∧ Hid (Nl.Small Z') ∧ Hid (Z'.drop i = Z.drop i) ∧ Hid (Nl.val (Z'.take i) + h0 * Nl.val (ys.take i) = Nl.val (Z.take i) + 4294967296 ^ i * (cr + bw))) (fun _ _ iv _ => N + 3 - (intOf iv).toNat)
          case atStart => exact ⟨0, 0, 0, Z, by omega, rfl, rfl, rfl, by omega, by omega, fun _ => rfl, H6.out, R6.out, B6.out, HZL.out, HZS.out, rfl, by simp [Hid]⟩
          case round =>
            obtain ⟨i, cr, bw, Z', hi, rfl, rfl, rfl, hcr, hbw, hcr0, hhd', hrq', hbel', hZ'l, hZ's, hdr, hv⟩ := hrel
            by_cases hlt : i ≤ P
            · have t1 : decide (i ≤ P) = true := decide_eq_true hlt
              have hiN : i < N + 3 := by have := HPN.out; omega
              obtain ⟨y, hy⟩ : ∃ y, y = (Nl.limbs b').getD i 0 := ⟨_, rfl⟩
              obtain ⟨z, hz⟩ : ∃ z, z = Z'.getD i 0 := ⟨_, rfl⟩
              have hyb : y < 4294967296 := by rw [hy]; exact (Nl.limbs_small b').getD _
              have hzb : z < 4294967296 := by rw [hz]; exact hZ's.out.getD _
              obtain ⟨J, hJ⟩ : ∃ j, j = k + i := ⟨_, rfl⟩
              have hJi : (k : Int) + (i : Int) = (J : Int) := by omega
              have hJl : J < L + 1 := by have := HPN.out; omega
              have cz := hhd'.out.cell (i := J) (by rw [List.length_append, List.length_append, HAL.out, hZ'l.out]; omega)
              rw [hJ, getD_mid HAL.out (by rw [hZ'l.out]; exact hiN), ← hz, ← hJ] at cz
              have fz := hhd'.out.free J
              have hp : y * h0 ≤ 4294967295 * 4294967295 := Nat.mul_le_mul (by omega) hh0b
              obtain ⟨yh, hyh⟩ : ∃ q, q = y * h0 := ⟨_, rfl⟩
              have hyhi : (y : Int) * (h0 : Int) = (yh : Int) := by rw [hyh, Int.natCast_mul]
              rw [← hyh] at hp
              obtain ⟨p, hpp⟩ : ∃ p, p = yh + cr := ⟨_, rfl⟩
              have hpi : (yh : Int) + (cr : Int) = (p : Int) := by omega
              have hpb : p < 18446744073709551616 := by omega
              obtain ⟨ph, hph⟩ : ∃ q, q = p / 4294967296 := ⟨_, rfl⟩
              have hphi : (p : Int) / 4294967296 = (ph : Int) := by omega
              obtain ⟨D, s', bw', hD, hDb, hDs, hDw, hsb, hbwb, hsum⟩ := sub_word64 (p := p) hzb hbw
              obtain ⟨pl, hpl⟩ : ∃ q, q = p % 4294967296 := ⟨_, rfl⟩
              have hpli : (p : Int) % 4294967296 = (pl : Int) := by omega
              rw [← hpl] at hD
              have hphb : ph < 4294967296 := by omega
              have HAT := Lib.hid (at_any _ (Nl.limbs b') i wr (HV.out.below hbel'.out).at (Nl.limbs_small b'))
              have Hy := Lib.hid (show y = ys.getD i 0 by rw [HYE.out, getD_zero_end]; exact hy)
              rw [← hy] at HAT
              have HW := Lib.hid (And.intro hz (And.intro hJ (And.intro hyh (And.intro hpp (And.intro hph hsum)))))
              have HDD := Lib.hid (And.intro hD (And.intro hDs hDw))
              clear hy hz hJ hyh hpp hph hpl hsum hD hDs hDw hDb
              go_wp2_with (go_at_call 153; refine HAT.out.mono ?_; rintro e w' ⟨rfl, rfl⟩)
              go_roundw
              case rel =>
                rw [HDD.out.1, HDD.out.2.1, HDD.out.2.2]
                have e1 := hhd'.out.set J s'
                rw [HW.out.2.1, set_mid HAL.out (by rw [hZ'l.out]; exact hiN), ← HW.out.2.1] at e1
                refine ⟨i + 1, ph, bw', Z'.set i s', hiN, by go_num, rfl, rfl, hphb, hbwb, fun hi3 => last_carry HBB.out.1 (show i = N + 2 by omega) (by rw [← getD_zero_end, ← HYE.out]; exact Hy.out) HW.out.2.2.1 HW.out.2.2.2.1 HW.out.2.2.2.2.1 hcr, e1, ?_, hbel'.out.setCell (p := ⟨gu', J, none⟩) hgu _, ?_, hZ's.out.set _ hsb, ?_, ?_⟩
                · exact (show Row _ gq Qs from hrq'.out.keeps (Below.heap_setCell _ _ _ _ (show gq ≠ gu' from fun h => hgu2 h.symm)))
                · rw [Hid, List.length_set]; exact hZ'l.out
                · rw [Hid, Nl.drop_set_succ]; exact Nl.drop_succ_of hdr.out
                · refine dec_step (by rw [hZ'l.out, HZL.out]) (by rw [HZL.out]; exact hiN) (by rw [HYL.out]; exact hiN) hdr.out Hy.out hv.out ?_
                  have h1 := HW.out
                  rw [Nat.mul_comm h0 y, ← h1.2.2.1, ← h1.1]
                  have h2 := h1.2.2.2.2.2
                  have h3 := h1.2.2.2.2.1
                  have h4 := h1.2.2.2.1
                  omega
              case measure => simp [intOf] <;> omega
            · have t1 : decide (i ≤ P) = false := decide_eq_false hlt
              have hi3 : i = N + 3 := by have := HPN.out; omega
              have hyv : Nl.val ys = b' := by rw [HYE.out, Nl.val_append, Nl.val_limbs]; simp [Nl.val]
              have hv1 : Nl.val Z' + h0 * b' = Nl.val Z + 4294967296 ^ (N + 3) * bw := by
                have h1 := hv.out
                rw [hcr0.out hi3, hi3, List.take_of_length_le (by rw [hZ'l.out]; exact Nat.le_refl _), List.take_of_length_le (by rw [HYL.out]; exact Nat.le_refl _), List.take_of_length_le (by rw [HZL.out]; exact Nat.le_refl _), hyv, Nat.zero_add] at h1
                exact h1
              have hlf := long_first (N := N) (i := k) (by rw [hRl.out]; have := HPN.out; omega) hRs.out HBM.out htop.out
              rw [← HZE.out] at hlf
              have hest : Nl.val Z < (h0 + 1) * b' := by
                refine est_least (ys := Nl.limbs b') (top := top) (x1 := x1) (x2 := x2) (vt := vt) HZL.out HZS.out (Nl.val_limbs b') HBB.out.1 ?_ ?_ ?_ HQ0.out.2 HQ0.out.1 (by omega) HH.out hlf.2.2
                · rw [HX.out.1, HJ.out.1, HPN.out, ← HSP.out]; exact getD_mid HAL.out (by rw [HZL.out]; omega)
                · rw [HX.out.2.1, HJ.out.2.1, ← HSP.out]; exact getD_mid HAL.out (by rw [HZL.out]; omega)
                · rw [HX.out.2.2, HJ.out.2.2]
              have HV1 := Lib.hid hv1
              have HES := Lib.hid hest
              have HYV := Lib.hid hyv
              clear hi3 hyv hv1 hest hlf
              go_wp2_with fail
              go_loopw [11, 13] (fun hv bv wx => ∃ (h bw : Nat) (Z' : List Nat), hv = .int .u64 (h : Int) ∧ bv = .int .u64 (bw : Int) ∧ h ≤ 4294967295 ∧ bw ≤ 1 ∧ Hid (Head wx gu' (A ++ (Z' ++ C))) ∧ Hid (Row wx gq Qs) ∧ Hid (Below w3.heap.size w3 wx) ∧
                Hid (Z'.length = N + 3) ∧ Hid (Nl.Small Z') ∧ Hid (Nl.val Z' + h * b' = Nl.val Z + 4294967296 ^ (N + 3) * bw) ∧ Hid (Nl.val Z < (h + 1) * b')) (fun hv _ _ => (intOf hv).toNat)
              case atStart => exact ⟨h0, bw, Z', rfl, rfl, hh0b, hbw, hhd'.out, hrq'.out, hbel'.out, hZ'l.out, hZ's.out, HV1.out, HES.out⟩
              case round =>
                obtain ⟨h, bw2, Y, rfl, rfl, hhb, hbw2, hhd2, hrq2, hbel2, hYl, hYs, hv2, hest2⟩ := hrel
                by_cases hb0 : bw2 = 0
                · subst hb0
                  have hv3 : Nl.val Y + h * b' = Nl.val Z := by have := hv2.out; rwa [Nat.mul_zero, Nat.add_zero] at this
                  obtain ⟨hq1, hq2, hq3⟩ := div_done hv3 hest2.out
                  have hkQ : k < Qs.length := by rw [hQl.out]; omega
                  have hls := long_step (Z' := Y) (by rw [hRl.out]; have := HPN.out; omega) hkQ hRs.out HBM.out hval.out htop.out (by rw [← HZE.out]; exact hq2)
                  rw [← HZE.out, ← hq1, ← HAE.out.1, ← HAE.out.2] at hls
                  have hhi : (h : Int) % 4294967296 = (h : Int) := by omega
                  have hRn : (A ++ (Y ++ C)).length = L + 1 := by
                    have h1 := congrArg List.length HSP.out
                    rw [hRl.out, List.length_append, List.length_append, HZL.out] at h1
                    rw [List.length_append, List.length_append, hYl.out]; exact h1
                  have hRsn : Nl.Small (A ++ (Y ++ C)) := by
                    have h1 := hRs.out
                    rw [← HSP.out] at h1
                    have h2 := Nl.small_append.1 h1
                    exact Nl.small_append.2 ⟨h2.1, Nl.small_append.2 ⟨hYs.out, (Nl.small_append.1 h2.2).2⟩⟩
                  have cq := hrq2.out.cell (i := k) hkQ
                  have fq := hrq2.out.free k
                  have hkK : k < K + 1 := by omega
                  have HLS := Lib.hid hls
                  have HRN := Lib.hid (And.intro hRn hRsn)
                  have hh32 : h < 4294967296 := by omega
                  clear hv3 hq1 hq2 hq3 hls hRn hRsn hkQ
                  go_wp2_with fail
                  go_roundw
                  case rel =>
                    refine ⟨k, A ++ (Y ++ C), Qs.set k h, by omega, by go_num, ?_, hrq2.out.set k h, hbel2.out.setCell (p := ⟨gq, k, none⟩) hgq2 _, HRN.out.1, ?_, HRN.out.2, hQs.out.set _ hh32, HLS.out.1, HLS.out.2⟩
                    · exact (hhd2.out.keeps (Below.heap_setCell _ _ _ _ (show gu' ≠ gq from hgu2)))
                    · rw [Hid, List.length_set]; exact hQl.out
                  case measure => simp [intOf] <;> omega
                · have hb1 : 1 ≤ bw2 := by omega
                  have t2 : decide (0 < bw2) = true := decide_eq_true (by omega)
                  have t3 : decide ((bw2 : Int) > 0) = true := decide_eq_true (by omega)
                  have hYM : Nl.val Y < 4294967296 ^ (N + 3) := by
                    have := Nl.val_lt hYs.out
                    rwa [hYl.out] at this
                  have hh0 : h ≠ 0 := by
                    intro h4
                    have h5 := hv2.out
                    rw [h4, Nat.zero_mul, Nat.add_zero, show bw2 = 1 by omega, Nat.mul_one] at h5
                    rw [h5] at hYM
                    exact absurd hYM (Nat.not_lt.2 (Nat.le_add_left _ _))
                  obtain ⟨h', rfl⟩ : ∃ h', h = h' + 1 := ⟨h - 1, by omega⟩
                  have hh1 : ((h' + 1 : Nat) : Int) - 1 = (h' : Int) := by omega
                  have HYM := Lib.hid hYM
                  clear hYM hh0 hb0
                  go_wp2_with fail
                  go_loopw [12, 17] (fun cv iv wx => ∃ (i cr : Nat) (Y' : List Nat), i ≤ N + 3 ∧ iv = .int .i64 i ∧ cv = .int .u64 (cr : Int) ∧ cr ≤ 1 ∧ Hid (Head wx gu' (A ++ (Y' ++ C))) ∧ Hid (Row wx gq Qs) ∧ Hid (Below w3.heap.size w3 wx) ∧
                    Hid (Y'.length = N + 3) ∧ Hid (Nl.Small Y') ∧ Hid (Y'.drop i = Y.drop i) ∧ Hid (Nl.val (Y'.take i) + 4294967296 ^ i * cr = Nl.val (Y.take i) + Nl.val (ys.take i))) (fun _ iv _ => N + 3 - (intOf iv).toNat)
                  case atStart => exact ⟨0, 0, Y, by omega, rfl, rfl, by omega, hhd2.out, hrq2.out, hbel2.out, hYl.out, hYs.out, rfl, by simp [Hid]⟩
                  case round =>
                    obtain ⟨i2, cr2, Y', hi2, rfl, rfl, hcr2, hhd3, hrq3, hbel3, hY'l, hY's, hdr3, hv3⟩ := hrel
                    by_cases hlt3 : i2 ≤ P
                    · have t4 : decide (i2 ≤ P) = true := decide_eq_true hlt3
                      have hiN : i2 < N + 3 := by have := HPN.out; omega
                      obtain ⟨y, hy⟩ : ∃ y, y = (Nl.limbs b').getD i2 0 := ⟨_, rfl⟩
                      obtain ⟨z, hz⟩ : ∃ z, z = Y'.getD i2 0 := ⟨_, rfl⟩
                      have hyb : y < 4294967296 := by rw [hy]; exact (Nl.limbs_small b').getD _
                      have hzb : z < 4294967296 := by rw [hz]; exact hY's.out.getD _
                      obtain ⟨J, hJ⟩ : ∃ j, j = k + i2 := ⟨_, rfl⟩
                      have hJi : (k : Int) + (i2 : Int) = (J : Int) := by omega
                      have hJl : J < L + 1 := by have := HPN.out; omega
                      have cz := hhd3.out.cell (i := J) (by rw [List.length_append, List.length_append, HAL.out, hY'l.out]; omega)
                      rw [hJ, getD_mid HAL.out (by rw [hY'l.out]; exact hiN), ← hz, ← hJ] at cz
                      have fz := hhd3.out.free J
                      obtain ⟨t5, ht5⟩ : ∃ t, t = z + y := ⟨_, rfl⟩
                      have ht5i : (z : Int) + (y : Int) = (t5 : Int) := by omega
                      obtain ⟨t6, ht6⟩ : ∃ t, t = t5 + cr2 := ⟨_, rfl⟩
                      have ht6i : (t5 : Int) + (cr2 : Int) = (t6 : Int) := by omega
                      have ht6b : t6 < 8589934592 := by omega
                      obtain ⟨t7, ht7⟩ : ∃ t, t = t6 % 4294967296 := ⟨_, rfl⟩
                      have ht7i : (t6 : Int) % 4294967296 = (t7 : Int) := by omega
                      obtain ⟨t8, ht8⟩ : ∃ t, t = t6 / 4294967296 := ⟨_, rfl⟩
                      have ht8i : (t6 : Int) / 4294967296 = (t8 : Int) := by omega
                      have ht7b : t7 < 4294967296 := by omega
                      have ht8b : t8 ≤ 1 := by omega
                      have hat : ∀ j, Calls Tryz.prog 153 #[.slice (some ⟨bv, ov, none⟩) P cv, .int .i64 i2] (wr.drewN j) fun e w' => e = .returned (.int .u64 (y : Int)) ∧ w' = wr.drewN j := fun j => by
                        rw [hy]
                        exact (at_any _ (Nl.limbs b') i2 (wr.drewN j) ((HV.out.below hbel3.out).below (below_drewN wr j _)).at (Nl.limbs_small b')).mono fun _ _ h => ⟨h.1, h.2.symm⟩
                      have HAT := Lib.hid hat
                      have Hy := Lib.hid (show y = ys.getD i2 0 by rw [HYE.out, getD_zero_end]; exact hy)
                      have fw1 : IntKind.u64.wrap (t5 : Int) = (t5 : Int) := by rw [IntKind.wrap_u64]; omega
                      have fw2 : IntKind.u64.wrap (t6 : Int) = (t6 : Int) := by rw [IntKind.wrap_u64]; omega
                      have HW := Lib.hid (And.intro hz (And.intro hJ (And.intro (show t6 = z + y + cr2 by omega) (And.intro ht7 ht8))))
                      clear hy hz hJ ht5 ht6 ht7 ht8
                      clear hat
                      go_wp2_with fail
                      go_quiet ((go_at_call 153; exact Calls.quiet_of_same (HAT.out _)))
                      have hhd4 := Lib.hid (show Head (wr.drewN nq) gu' (A ++ (Y' ++ C)) from hhd3.out)
                      have hrq4 := Lib.hid (show Row (wr.drewN nq) gq Qs from hrq3.out)
                      have hbel4 := Lib.hid (hbel3.out.trans (below_drewN wr nq w3.heap.size))
                      have cz' : (wr.drewN nq).cell? ⟨gu', J, none⟩ = some (.int .u32 (z : Int)) := cz
                      have fz' : (wr.drewN nq).frozen? ⟨gu', J, none⟩ = false := fz
                      obtain ⟨w7, hw7⟩ : ∃ w7, w7 = wr.drewN nq := ⟨_, rfl⟩
                      rw [← hw7] at hhd4 hrq4 hbel4 cz' fz' ⊢
                      clear hw7 cz fz
                      go_wp2_with fail
                      go_roundw
                      case rel =>
                        have e1 := hhd4.out.set J t7
                        rw [HW.out.2.1, set_mid HAL.out (by rw [hY'l.out]; exact hiN), ← HW.out.2.1] at e1
                        refine ⟨i2 + 1, t8, Y'.set i2 t7, hiN, by go_num, rfl, ht8b, e1, ?_, hbel4.out.setCell (p := ⟨gu', J, none⟩) hgu _, ?_, hY's.out.set _ ht7b, ?_, ?_⟩
                        · exact (show Row _ gq Qs from hrq4.out.keeps (Below.heap_setCell _ _ _ _ (show gq ≠ gu' from fun h => hgu2 h.symm)))
                        · rw [Hid, List.length_set]; exact hY'l.out
                        · rw [Hid, Nl.drop_set_succ]; exact Nl.drop_succ_of hdr3.out
                        · rw [HW.out.2.2.2.1, HW.out.2.2.2.2]
                          refine Nl.add_step (by rw [hY'l.out, hYl.out]) (by rw [hYl.out]; exact hiN) hdr3.out hv3.out y (by rw [Nl.val_take_succ _ _ (by rw [HYL.out]; exact hiN), ← Hy.out]) ?_
                          rw [← HW.out.1]; exact HW.out.2.2.1
                      case measure => simp [intOf] <;> omega
                    · have t4 : decide (i2 ≤ P) = false := decide_eq_false hlt3
                      have hi3 : i2 = N + 3 := by have := HPN.out; omega
                      have hv4 : Nl.val Y' + 4294967296 ^ (N + 3) * cr2 = Nl.val Y + b' := by
                        have h1 := hv3.out
                        rw [hi3, List.take_of_length_le (by rw [hY'l.out]; exact Nat.le_refl _), List.take_of_length_le (by rw [hYl.out]; exact Nat.le_refl _), List.take_of_length_le (by rw [HYL.out]; exact Nat.le_refl _), HYV.out] at h1
                        exact h1
                      have hbs := back_step hv2.out hb1 hbw2 HYM.out hv4 hcr2
                      obtain ⟨b3, hb3⟩ : ∃ b, b = bw2 - cr2 := ⟨_, rfl⟩
                      rw [← hb3] at hbs
                      have HBS := Lib.hid hbs
                      have hb3i : (bw2 : Int) - (cr2 : Int) = (b3 : Int) := by omega
                      have hb3b : b3 ≤ 1 := by omega
                      have hcb : cr2 ≤ bw2 := by omega
                      clear hi3 hv4 hbs hb3
                      go_wp2_with fail
                      go_roundw
                      case rel => exact ⟨h', b3, Y', by go_num, by go_num, by omega, hb3b, hhd3.out, hrq3.out, hbel3.out, hY'l.out, hY's.out, HBS.out.1, HBS.out.2⟩
                      case measure => simp [intOf] <;> omega
end Go.Proofs.YtkbghamkalidcaaGreat

namespace Go.Proofs.YtkbghamkalidcaaGreat
open Go.RowKit

theorem refTrim_num (va : Value) (m : Nat) (w : World) (ha : IsN w va m) (hla : (Nl.limbs m).length ≤ 1000) :
    Calls Tryz.prog 130 #[va] w fun e w' => (∃ v, e = .returned v ∧ IsN w' v m) ∧ Below w.heap.size w w' := by
  have ht : Nl.trim (Nl.limbs m) = Nl.limbs m := by rw [Nl.trim_eq (Nl.limbs_small m), Nl.val_limbs]
  rcases ha with ⟨rfl, h⟩ | ⟨b, off, cap, rfl, -, hc, hm, hb, hx⟩
  · refine (refTrim_nil w).mono ?_
    rintro e w' ⟨⟨v, rfl, hv⟩, hb⟩
    exact ⟨⟨v, rfl, by rw [IsN, h]; exact hv.at⟩, hb⟩
  · have h := refTrim_cells b off cap _ w hx hc hm hb (by omega)
    rw [ht] at h
    refine h.mono ?_
    rintro e w' ⟨⟨v, rfl, hv⟩, hb⟩
    exact ⟨⟨v, rfl, hv.at⟩, hb⟩

set_option maxRecDepth 10000 in
set_option maxHeartbeats 1000000 in
theorem refDiv_less (va vb : Value) (m n P : Nat) (w : World) (ha : IsN w va m) (hb : IsN w vb n) (hla : (Nl.limbs m).length ≤ 1000) (hlb : (Nl.limbs n).length = P) (hP : P ≠ 1) (hP2 : P ≤ 1000) (hlt : m < n) :
    Calls Tryz.prog 132 #[va, vb] w fun e w' => DivOut w w' e (m / n) (m % n) := by
  have HM := Lib.hid (And.intro (Nat.div_eq_of_lt hlt) (Nat.mod_eq_of_lt hlt))
  have HA := Lib.hid ha
  have HB := Lib.hid hb
  obtain ⟨pa, ca, rfl, -⟩ := ha.form
  obtain ⟨pb, cb, rfl, -⟩ := hb.form
  have e1 : ((P : Int) == 1) = false := by rw [beq_eq_false_iff_ne]; omega
  obtain ⟨w1, hw1⟩ : ∃ w1, w1 = w.alloc (.cells #[.slice none 0 0, .slice none 0 0] 139) := ⟨_, rfl⟩
  have hbox : w1.heap[w.heap.size]? = some (.cells #[.slice none 0 0, .slice none 0 0] 139 (0, 0)) := by rw [hw1]; exact heap_alloc_new _ _
  have hb1 : Below w.heap.size w w1 := by rw [hw1]; exact below_al w _
  have BX1 := Lib.hid hbox
  have B1 := Lib.hid hb1
  have hcm := refCmp_num' _ _ m n w1 (HA.out.below hb1) (HB.out.below hb1) (by omega) (by omega)
  rw [cmpI_lt hlt] at hcm
  have HC := Lib.hid hcm
  have HT := Lib.hid (refTrim_num _ m w1 (HA.out.below hb1) hla)
  rw [hlb] at HB HC ⊢
  clear ha hb hbox hb1 hcm hlt hlb
  go_enter Tryz.func132, Tryz.ntmps132
  go_upto_region 1 with fail
  rw [← hw1]
  clear hw1
  go_wp2_with fail
  refine HC.out.mono ?_
  rintro e w' ⟨rfl, rfl⟩
  clear HC
  go_wp2_with fail
  refine HT.out.mono ?_
  rintro e w8 ⟨⟨vr, rfl, hvr⟩, hb8⟩
  have HVR := Lib.hid (show At w8 vr _ from hvr)
  have BX9 := Lib.hid ((hb8.block _ (lt_of_block BX1.out)).trans BX1.out)
  have B8 := Lib.hid (B1.out.trans (hb8.mono B1.out.size))
  obtain ⟨pr, cr, hre, -⟩ := HVR.out.form
  subst hre
  have c0 := cell_of_row _ _ 0 _ _ (0, 0) BX9.out
  have c1 := cell_of_row _ _ 1 _ _ (0, 0) BX9.out
  have f0 := frozen_of_row _ _ 0 _ _ BX9.out
  have f1 := frozen_of_row _ _ 1 _ _ BX9.out
  clear hvr hb8 HT
  go_wp2_with fail
  refine bodyPost_ret (v := .agg #[.slice none 0 0, .slice pr (Nl.limbs m).length cr]) (results_cell_row Tryz.results132 _ _ w.heap.size 139 _ (0, 0) _ rfl (box_set _ _ BX9.out) Tryz.underlying139 rfl (by kernel_rfl)) rfl ?_
  rw [HM.out.1, HM.out.2]
  exact ⟨⟨_, _, rfl, .inl ⟨rfl, Nl.limbs_zero⟩, at_box2 _ _ HVR.out BX9.out⟩, (B8.out.setCell (p := ⟨w.heap.size, 0, none⟩) (Nat.le_refl _) _).setCell (p := ⟨w.heap.size, 1, none⟩) (Nat.le_refl _) _⟩

set_option maxRecDepth 10000 in
set_option maxHeartbeats 1000000 in
theorem refDiv_one (va vb : Value) (m n : Nat) (w : World) (ha : IsN w va m) (hb : IsN w vb n) (hla : (Nl.limbs m).length ≤ 1000) (hlb : (Nl.limbs n).length = 1) (hn0 : n ≠ 0) (hn : n < 4294967296) :
    Calls Tryz.prog 132 #[va, vb] w fun e w' => DivOut w w' e (m / n) (m % n) := by
  have HA := Lib.hid ha
  obtain ⟨pa, ca, rfl, -⟩ := ha.form
  rcases hb with ⟨-, h⟩ | ⟨bb, ob, cb, rfl, -, hcb, -, hbb, hcx⟩
  · rw [h] at hlb; simp at hlb
  have cx0 := hcx 0 (by omega)
  rw [show (Nl.limbs n).getD 0 0 = n by rw [limbs_one hn0 hn]; rfl] at cx0
  obtain ⟨w1, hw1⟩ : ∃ w1, w1 = w.alloc (.cells #[.slice none 0 0, .slice none 0 0] 139) := ⟨_, rfl⟩
  have hbox : w1.heap[w.heap.size]? = some (.cells #[.slice none 0 0, .slice none 0 0] 139 (0, 0)) := by rw [hw1]; exact heap_alloc_new _ _
  have hb1 : Below w.heap.size w w1 := by rw [hw1]; exact below_al w _
  have BX1 := Lib.hid hbox
  have B1 := Lib.hid hb1
  have cx : w1.cell? ⟨bb, ob + 0, none⟩ = some (.int .u32 (n : Int)) := (hb1.cell (p := ⟨bb, ob + 0, none⟩) hbb).trans cx0
  rw [Nat.add_zero] at cx
  have HS := Lib.hid (refShort_any _ m n w1 (HA.out.below hb1) (by omega) (by omega) hn)
  rw [hlb]
  clear ha hbox hb1 hcx cx0 hcb hlb
  go_enter Tryz.func132, Tryz.ntmps132
  go_upto_region 1 with fail
  rw [← hw1]
  clear hw1
  go_wp2_with fail
  refine HS.out.mono ?_
  rintro e w8 ⟨⟨vq, vr, rfl, hvq, hvr⟩, hb8⟩
  have HVR := Lib.hid (show At w8 vr _ from hvr)
  have HVQ := Lib.hid (show At w8 _ _ from (atP_of_owns hvq).at)
  have BX9 := Lib.hid ((hb8.block _ (lt_of_block BX1.out)).trans BX1.out)
  have B8 := Lib.hid (B1.out.trans (hb8.mono B1.out.size))
  obtain ⟨pr, cr, hre, -⟩ := HVR.out.form
  obtain ⟨pq, cq, hqe⟩ := own_form hvq
  subst hre hqe
  have c0 := cell_of_row _ _ 0 _ _ (0, 0) BX9.out
  have c1 := cell_of_row _ _ 1 _ _ (0, 0) BX9.out
  have f0 := frozen_of_row _ _ 0 _ _ BX9.out
  have f1 := frozen_of_row _ _ 1 _ _ BX9.out
  clear hvq hvr hb8 HS
  go_wp2_with fail
  refine bodyPost_ret (v := .agg #[.slice pq (Nl.limbs (m / n)).length cq, .slice pr (Nl.limbs (m % n)).length cr]) (results_cell_row Tryz.results132 _ _ w.heap.size 139 _ (0, 0) _ rfl (box_set _ _ BX9.out) Tryz.underlying139 rfl (by kernel_rfl)) rfl ?_
  exact ⟨⟨_, _, rfl, at_box2 _ _ HVQ.out BX9.out, at_box2 _ _ HVR.out BX9.out⟩, (B8.out.setCell (p := ⟨w.heap.size, 0, none⟩) (Nat.le_refl _) _).setCell (p := ⟨w.heap.size, 1, none⟩) (Nat.le_refl _) _⟩

theorem refDiv_any (va vb : Value) (m n : Nat) (w : World) (ha : IsN w va m) (hb : IsN w vb n) (hla : (Nl.limbs m).length ≤ 1000) (hlb : (Nl.limbs n).length ≤ 1000) (hn0 : n ≠ 0) :
    Calls Tryz.prog 132 #[va, vb] w fun e w' => DivOut w w' e (m / n) (m % n) := by
  have hp := Nl.len_pos hn0
  by_cases h1 : (Nl.limbs n).length = 1
  · have h2 := Nl.lt_limbs n
    rw [h1, Nat.pow_one] at h2
    exact refDiv_one va vb m n w ha hb hla h1 hn0 h2
  · rcases Nat.lt_or_ge m n with h | h
    · exact refDiv_less va vb m n _ w ha hb hla rfl h1 hlb h
    · exact refDiv_big va vb m n ((Nl.limbs n).length - 2) w ha hb hla (by omega) h

set_option maxRecDepth 10000 in
set_option maxHeartbeats 1000000 in
theorem refGcd_any (va vb : Value) (m n : Nat) (w : World) (ha : IsN w va m) (hb : IsN w vb n) (hla : (Nl.limbs m).length ≤ 1000) (hlb : (Nl.limbs n).length ≤ 1000) :
    Calls Tryz.prog 84 #[va, vb] w fun e w' => (∃ v, e = .returned v ∧ IsN w' v (Nat.gcd m n)) ∧ Below w.heap.size w w' := by
  have HA := Lib.hid (show At w va (Nl.limbs m) from ha)
  have HB := Lib.hid (show At w vb (Nl.limbs n) from hb)
  obtain ⟨pa, ca, rfl, -⟩ := ha.form
  obtain ⟨pb, cb, rfl, -⟩ := hb.form
  have B0 := Lib.hid (Below.refl w.heap.size w)
  clear ha hb
  go_enter Tryz.func84, Tryz.ntmps84
  go_wp2_with fail
  go_loopw [0, 1] (fun u v wr => ∃ A B : Nat, Hid (IsN wr u A) ∧ Hid (IsN wr v B) ∧ (Nl.limbs A).length ≤ 1000 ∧ (Nl.limbs B).length ≤ 1000 ∧ Hid (Nat.gcd A B = Nat.gcd m n) ∧ Hid (Below w.heap.size w wr)) (fun _ v wr => numAt wr v)
  case atStart => exact ⟨m, n, HA.out, HB.out, hla, hlb, rfl, B0.out⟩
  case round =>
    obtain ⟨A, B, hA, hB, hlA, hlB, hg, hbl⟩ := hrel
    have hmu := numAt_of hB.out
    obtain ⟨pu, cu, rfl, -⟩ := (show At wr _ _ from hA.out).form
    obtain ⟨pv, cv, rfl, -⟩ := (show At wr _ _ from hB.out).form
    have HMU := Lib.hid hmu
    clear hmu
    by_cases hz : B = 0
    · have t1 : decide (0 < (Nl.limbs B).length) = false := by rw [hz, Nl.limbs_zero]; rfl
      have HE := Lib.hid (show A = Nat.gcd m n by rw [← hg.out, hz, Nat.gcd_zero_right])
      clear hz
      go_wp2_with fail
      go_ret
      exact ⟨⟨_, rfl, by rw [← HE.out]; exact hA.out⟩, hbl.out⟩
    · have t1 : decide (0 < (Nl.limbs B).length) = true := decide_eq_true (Nl.len_pos hz)
      have HD := Lib.hid (refDiv_any _ _ A B wr hA.out hB.out hlA hlB hz)
      have hmod := Nat.mod_lt A (Nat.pos_of_ne_zero hz)
      have HMO := Lib.hid (And.intro hmod (Nat.le_trans (Nl.limbs_mono (Nat.le_of_lt hmod)) hlB))
      clear hz hmod
      go_wp2_with fail
      refine HD.out.mono ?_
      rintro e w2 ⟨⟨x, y, rfl, hx, hy⟩, hb2⟩
      have HX := Lib.hid (show At w2 x _ from hx)
      have HY := Lib.hid (show At w2 y _ from hy)
      have HB2 := Lib.hid (hB.out.below hb2)
      have B2 := Lib.hid (hbl.out.trans (hb2.mono hbl.out.size))
      obtain ⟨px, cx, hxe, -⟩ := HX.out.form
      obtain ⟨py, cy, hye, -⟩ := HY.out.form
      subst hxe hye
      clear hx hy hb2 HD
      go_wp2_with fail
      have b3 := below_al w2 (.cells #[.slice px (Nl.limbs (A / B)).length cx, .slice py (Nl.limbs (A % B)).length cy] 139)
      have HY3 := HY.out.below b3
      go_roundw
      case rel => exact ⟨B, A % B, HB2.out.below b3, HY3, hlB, HMO.out.2, by rw [Hid, Nat.gcd_comm B, ← Nat.gcd_rec, Nat.gcd_comm]; exact hg.out, B2.out.trans (b3.mono B2.out.size)⟩
      case measure =>
        rw [numAt_of HY3, HMU.out]
        exact HMO.out.1
end Go.Proofs.YtkbghamkalidcaaGreat

namespace Go.Proofs.YtkbghamkalidcaaGreat
open Go.RowKit

theorem divQ_if (how : Nat) (a b : Int) : divQ how a b = sgn (negB a != negB b) (if (!decide (a.natAbs % b.natAbs = 0) && farB how (negB a) (negB b) (a.natAbs / b.natAbs) (a.natAbs % b.natAbs) b.natAbs) = true then a.natAbs / b.natAbs + 1 else a.natAbs / b.natAbs) := by
  rw [divQ]
  by_cases h0 : a.natAbs % b.natAbs = 0
  · rw [if_pos (.inl h0), decide_eq_true h0, if_neg (by simp)]
  · cases hf : farB how (negB a) (negB b) (a.natAbs / b.natAbs) (a.natAbs % b.natAbs) b.natAbs with
    | false => rw [if_pos (.inr rfl), if_neg (by simp)]
    | true => rw [if_neg (by simp [h0]), decide_eq_false h0]; rfl
/-- what Quotient returns -/
def QuotOut (w w' : World) (e : Ending) (x y : Int) : Prop := (∃ s p l c s' p' l' c', e = .returned (.agg #[.bool s, .slice p l c, .bool s', .slice p' l' c', .int .i64 0]) ∧ IsI w' (.agg #[.bool s, .slice p l c]) x ∧ IsI w' (.agg #[.bool s', .slice p' l' c']) y) ∧ Below w.heap.size w w'
theorem row_set5 {w : World} {g : Nat} {T : TypeId} {a b c d e : Value} (a' b' c' d' e' : Value) (h : w.heap[g]? = some (.cells #[a, b, c, d, e] T (0, 0))) : (((((w.setCell ⟨g, 0, none⟩ a').setCell ⟨g, 1, none⟩ b').setCell ⟨g, 2, none⟩ c').setCell ⟨g, 3, none⟩ d').setCell ⟨g, 4, none⟩ e').heap[g]? = some (.cells #[a', b', c', d', e'] T (0, 0)) :=
  heap_setCell_same _ g 4 _ _ e' (heap_setCell_same _ g 3 _ _ d' (heap_setCell_same _ g 2 _ _ c' (heap_setCell_same _ g 1 _ _ b' (heap_setCell_same w g 0 _ _ a' h))))
theorem row_set23 {w : World} {g : Nat} {T : TypeId} {a b c d e : Value} (c' d' : Value) (h : w.heap[g]? = some (.cells #[a, b, c, d, e] T (0, 0))) : ((w.setCell ⟨g, 2, none⟩ c').setCell ⟨g, 3, none⟩ d').heap[g]? = some (.cells #[a, b, c', d', e] T (0, 0)) :=
  heap_setCell_same _ g 3 _ _ d' (heap_setCell_same w g 2 _ _ c' h)
theorem cell_23_0 {w : World} {g : Nat} {T : TypeId} {a b c d e : Value} (c' d' : Value) (h : w.heap[g]? = some (.cells #[a, b, c, d, e] T (0, 0))) : ((w.setCell ⟨g, 2, none⟩ c').setCell ⟨g, 3, none⟩ d').cell? ⟨g, 0, none⟩ = some a := by
  have := cell_of_row _ _ 0 _ _ (0, 0) (row_set23 c' d' h)
  simpa using this
theorem cell_23_1 {w : World} {g : Nat} {T : TypeId} {a b c d e : Value} (c' d' : Value) (h : w.heap[g]? = some (.cells #[a, b, c, d, e] T (0, 0))) : ((w.setCell ⟨g, 2, none⟩ c').setCell ⟨g, 3, none⟩ d').cell? ⟨g, 1, none⟩ = some b := by
  have := cell_of_row _ _ 1 _ _ (0, 0) (row_set23 c' d' h)
  simpa using this
theorem no_u32 {s s' : Bool} {p p' : Option Addr} {l c l' c' : Nat} (i : Nat) (x : Int) : (#[Value.bool s, .slice p l c, .bool s', .slice p' l' c', .int .i64 0] : Array Value)[i]? ≠ some (.int .u32 x) := by
  match i with
  | 0 => simp
  | 1 => simp
  | 2 => simp
  | 3 => simp
  | 4 => simp
  | j + 5 => simp
theorem isI_five {w : World} {g : Nat} {T : TypeId} {s s' t : Bool} {p p' q : Option Addr} {l c l' c' m d : Nat} {n : Int} (j : Nat) (u : Value) (h : IsI w (.agg #[.bool t, .slice q m d]) n) (hbx : w.heap[g]? = some (.cells #[.bool s, .slice p l c, .bool s', .slice p' l' c', .int .i64 0] T (0, 0))) :
    IsI (w.setCell ⟨g, j, none⟩ u) (.agg #[.bool t, .slice q m d]) n := by
  obtain ⟨v, h1, h2⟩ := h
  exact ⟨v, h1, at_set32 u h2 hbx no_u32⟩

theorem below_ibox23 {B : Nat} {w w' : World} (h : Below B w w') {g : Nat} (hg : B ≤ g) (a b : Value) : Below B w ((w'.setCell ⟨g, 2, none⟩ a).setCell ⟨g, 3, none⟩ b) := (h.setCell (p := ⟨g, 2, none⟩) hg _).setCell (p := ⟨g, 3, none⟩) hg _
theorem below_all {B : Nat} {w w' : World} (h : Below B w w') {g : Nat} (hg : B ≤ g) (a b c d e : Value) : Below B w (((((w'.setCell ⟨g, 0, none⟩ a).setCell ⟨g, 1, none⟩ b).setCell ⟨g, 2, none⟩ c).setCell ⟨g, 3, none⟩ d).setCell ⟨g, 4, none⟩ e) :=
  ((((h.setCell (p := ⟨g, 0, none⟩) hg _).setCell (p := ⟨g, 1, none⟩) hg _).setCell (p := ⟨g, 2, none⟩) hg _).setCell (p := ⟨g, 3, none⟩) hg _).setCell (p := ⟨g, 4, none⟩) hg _
theorem isI_all {w : World} {g : Nat} {T : TypeId} {s s' t t0 t2 : Bool} {p p' q q1 q3 : Option Addr} {l c l' c' m d m1 d1 m3 d3 : Nat} {n : Int} (hbx : w.heap[g]? = some (.cells #[.bool s, .slice p l c, .bool s', .slice p' l' c', .int .i64 0] T (0, 0))) (h : IsI w (.agg #[.bool t, .slice q m d]) n) :
    IsI (((((w.setCell ⟨g, 0, none⟩ (.bool t0)).setCell ⟨g, 1, none⟩ (.slice q1 m1 d1)).setCell ⟨g, 2, none⟩ (.bool t2)).setCell ⟨g, 3, none⟩ (.slice q3 m3 d3)).setCell ⟨g, 4, none⟩ (.int .i64 0)) (.agg #[.bool t, .slice q m d]) n := by
  have e0 := heap_setCell_same w g 0 _ _ (.bool t0) hbx
  have e1 := heap_setCell_same _ g 1 _ _ (.slice q1 m1 d1) e0
  have e2 := heap_setCell_same _ g 2 _ _ (.bool t2) e1
  have e3 := heap_setCell_same _ g 3 _ _ (.slice q3 m3 d3) e2
  exact isI_five 4 _ (isI_five 3 _ (isI_five 2 _ (isI_five 1 _ (isI_five 0 _ h hbx) e0) e1) e2) e3

set_option maxRecDepth 10000 in
set_option maxHeartbeats 8000000 in
theorem rquot_any (how : Nat) (h1 : 1 ≤ how) (h4 : how ≤ 4) (va vb : Value) (a b : Int) (w : World) (ha : IsI w va a) (hb : IsI w vb b) (la : (Nl.limbs a.natAbs).length ≤ 900) (lb : (Nl.limbs b.natAbs).length ≤ 900) (hb0 : b ≠ 0) :
    Calls Tryz.prog 71 #[va, vb, .int .i64 how] w fun e w' => QuotOut w w' e (divQ how a b) (a - divQ how a b * b) := by
  obtain ⟨p0, c0, rfl, -⟩ := AtI.form ha
  obtain ⟨p1, c1, rfl, -⟩ := AtI.form hb
  have hQQ := divQ_if how a b
  have hn0 : b.natAbs ≠ 0 := by omega
  obtain ⟨s0, hs0⟩ : ∃ s0, s0 = negB a := ⟨_, rfl⟩
  obtain ⟨s1, hs1⟩ : ∃ s1, s1 = negB b := ⟨_, rfl⟩
  obtain ⟨l0, hl0⟩ : ∃ l0, l0 = (Nl.limbs a.natAbs).length := ⟨_, rfl⟩
  obtain ⟨l1, hl1⟩ : ∃ l1, l1 = (Nl.limbs b.natAbs).length := ⟨_, rfl⟩
  rw [← hs0, ← hl0] at ha ⊢
  rw [← hs1, ← hl1] at hb ⊢
  rw [← hs0, ← hs1] at hQQ
  have u0 : At w (.slice p0 l0 c0) (Nl.limbs a.natAbs) := by obtain ⟨v, e, h⟩ := ha; simp only [Value.agg.injEq, Array.mk.injEq, List.cons.injEq, and_true] at e; rw [e.2]; exact h
  have u1 : At w (.slice p1 l1 c1) (Nl.limbs b.natAbs) := by obtain ⟨v, e, h⟩ := hb; simp only [Value.agg.injEq, Array.mk.injEq, List.cons.injEq, and_true] at e; rw [e.2]; exact h
  obtain ⟨W, hW⟩ : ∃ W, W = ((w.alloc (.cells #[.bool s0, .slice p0 l0 c0] 25)).alloc (.cells #[.bool s1, .slice p1 l1 c1] 25)).alloc (.cells #[.bool false, .slice none 0 0, .bool false, .slice none 0 0, .int .i64 0] 95) := ⟨_, rfl⟩
  have hbW : Below w.heap.size w W := by rw [hW]; exact three_new w _ _ _
  have B0 : W.heap[w.heap.size]? = some (.cells #[.bool s0, .slice p0 l0 c0] 25 (0, 0)) := by rw [hW]; exact al_keep _ _ (by simp <;> omega) (al_keep _ _ (by simp <;> omega) (al_at _ _ (by simp)))
  have B1 : W.heap[w.heap.size + 1]? = some (.cells #[.bool s1, .slice p1 l1 c1] 25 (0, 0)) := by rw [hW]; exact al_keep _ _ (by simp <;> omega) (al_at _ _ (by simp))
  have B2 : W.heap[w.heap.size + 1 + 1]? = some (.cells #[.bool false, .slice none 0 0, .bool false, .slice none 0 0, .int .i64 0] 95 (0, 0)) := by rw [hW]; exact al_at _ _ (by simp)
  have k00 := cell_of_row _ _ 0 _ _ (0, 0) B0
  have k01 := cell_of_row _ _ 1 _ _ (0, 0) B0
  have k10 := cell_of_row _ _ 0 _ _ (0, 0) B1
  have k11 := cell_of_row _ _ 1 _ _ (0, 0) B1
  simp only [List.getElem?_toArray, List.getElem?_cons_zero, List.getElem?_cons_succ] at k00 k01 k10 k11
  have HB := Lib.hid (And.intro hbW (And.intro B0 (And.intro B1 B2)))
  have HU := Lib.hid (And.intro (u0.below hbW) (u1.below hbW))
  have HI := Lib.hid (And.intro (AtI.below (show AtI w (.agg #[.bool s0, .slice p0 l0 c0]) (negB a) (Nl.limbs a.natAbs) from ha) hbW) (AtI.below (show AtI w (.agg #[.bool s1, .slice p1 l1 c1]) (negB b) (Nl.limbs b.natAbs) from hb) hbW))
  have HL := Lib.hid (And.intro la lb)
  have HH := Lib.hid (And.intro h1 h4)
  have HQ := Lib.hid hQQ
  have HD := Lib.hid (refDiv_any (.slice p0 l0 c0) (.slice p1 l1 c1) a.natAbs b.natAbs W (HU.out.1) (HU.out.2) (Nat.le_trans la (by decide)) (Nat.le_trans lb (by decide)) hn0)
  clear ha hb u0 u1 la lb h1 h4 hb0 hn0 hs0 hs1 hl0 hl1 hbW B0 B1 B2 hQQ
  go_enter Tryz.func71, Tryz.ntmps71
  go_wp2_with fail
  rw [← hW]
  clear hW
  refine HD.out.mono ?_
  rintro e w1 ⟨⟨u, v, rfl, hu, hv⟩, hb1⟩
  obtain ⟨pq, cq, rfl, -⟩ := hu.form
  obtain ⟨pr, cr, rfl, -⟩ := hv.form
  obtain ⟨lq, hlq⟩ : ∃ lq, lq = (Nl.limbs (a.natAbs / b.natAbs)).length := ⟨_, rfl⟩
  obtain ⟨lr, hlr⟩ : ∃ lr, lr = (Nl.limbs (a.natAbs % b.natAbs)).length := ⟨_, rfl⟩
  rw [← hlq] at hu ⊢
  rw [← hlr] at hv ⊢
  have fr : (Nl.limbs (a.natAbs % b.natAbs)).length ≤ 100000 := Nat.le_trans (Nl.limbs_mono (Nat.mod_le _ _)) (Nat.le_trans HL.out.1 (by decide))
  have fq : (Nl.limbs (a.natAbs / b.natAbs)).length ≤ 900 := Nat.le_trans (Nl.limbs_mono (Nat.div_le_self _ _)) HL.out.1
  obtain ⟨q, hq⟩ : ∃ q, q = a.natAbs / b.natAbs := ⟨_, rfl⟩
  obtain ⟨r, hr⟩ : ∃ r, r = a.natAbs % b.natAbs := ⟨_, rfl⟩
  rw [← hq] at hu fq
  rw [← hr] at hv fr
  rw [← hq, ← hr] at HQ
  have HFQ := Lib.hid fq
  obtain ⟨Z1, hZ1⟩ : ∃ Z1, Z1 = w1.alloc (.cells #[.slice pq lq cq, .slice pr lr cr] 139) := ⟨_, rfl⟩
  have hz : Below w1.heap.size w1 Z1 := by rw [hZ1]; exact below_one _ _
  have hs := hb1.trans (hz.mono hb1.size)
  have b00 := (hs.cell (lt_of_block HB.out.2.1)).trans k00
  have b01 := (hs.cell (lt_of_block HB.out.2.1)).trans k01
  have b10 := (hs.cell (lt_of_block HB.out.2.2.1)).trans k10
  have b11 := (hs.cell (lt_of_block HB.out.2.2.1)).trans k11
  rw [hZ1] at b00 b01 b10 b11
  have hup := rup_any s0 s1 p0 p1 pq pr l0 c0 l1 c1 lq cq lr cr how q r b.natAbs Z1 ((show At w1 _ _ from hu).below hz) ((show At w1 _ _ from hv).below hz) (HU.out.2.below hs) fr (Nat.le_trans HL.out.2 (by decide)) HH.out.1 HH.out.2
  obtain ⟨bb, hbb⟩ : ∃ bb, bb = (!decide (r = 0) && farB how s0 s1 q r b.natAbs) := ⟨_, rfl⟩
  rw [← hbb] at hup HQ
  have HUP := Lib.hid hup
  have HAQ := Lib.hid ((show At w1 _ _ from hu).below hz)
  have HS := Lib.hid hs
  clear hu hv hb1 hz hs hup hbb hlq hlr fr fq hq hr HD
  go_wp2_with fail
  rw [← hZ1]
  clear hZ1
  refine HUP.out.mono ?_
  rintro e w2 ⟨rfl, hb2⟩
  have HS2 := Lib.hid (HS.out.trans (hb2.mono HS.out.size))
  have HAQ2 := Lib.hid (HAQ.out.below hb2)
  clear hb2 HUP HS HAQ b00 b01 b10 b11
  cases bb with
  | false =>
    have b00 := (HS2.out.cell (lt_of_block HB.out.2.1)).trans k00
    have b10 := (HS2.out.cell (lt_of_block HB.out.2.2.1)).trans k10
    obtain ⟨x, hx⟩ : ∃ x, x = (!(s0 == s1)) := ⟨_, rfl⟩
    have HX := Lib.hid hx
    have HO := Lib.hid (ref2Of_any x (.slice pq lq cq) (q) w2 HAQ2.out (by have := HFQ.out; have := Nl.len_add q 1; have : (Nl.limbs 1).length ≤ 1 := Nl.limbs_lt (by decide); omega))
    go_wp2_with fail
    rw [← hx]
    clear hx
    refine HO.out.mono ?_
    rintro e w5 ⟨⟨t, p5, l5, c5, rfl, hi⟩, hb5⟩
    rw [show sgn x ((q : Nat) : Nat) = divQ how a b by rw [HQ.out, HX.out]; rfl] at hi
    obtain ⟨D, hD⟩ : ∃ D, D = w5.alloc (.cells #[.bool t, .slice p5 l5 c5, .bool false, .slice none 0 0, .int .i64 0] 95) := ⟨_, rfl⟩
    have hz : Below w5.heap.size w5 D := by rw [hD]; exact below_one _ _
    have OD : D.heap[w5.heap.size]? = some (.cells #[.bool t, .slice p5 l5 c5, .bool false, .slice none 0 0, .int .i64 0] 95 (0, 0)) := by rw [hD]; exact al_at _ _ rfl
    have o0 := cell_of_row _ _ 0 _ _ (0, 0) OD
    have o1 := cell_of_row _ _ 1 _ _ (0, 0) OD
    simp only [List.getElem?_toArray, List.getElem?_cons_zero, List.getElem?_cons_succ] at o0 o1
    have hsD := HS2.out.trans ((hb5.trans (hz.mono hb5.size)).mono HS2.out.size)
    have HSD := Lib.hid hsD
    have HOD := Lib.hid OD
    have HID := Lib.hid (AtI.below hi hz)
    have hlt := lt_of_block OD
    have HLT := Lib.hid (show w.heap.size + 1 + 1 < D.heap.size ∧ w.heap.size + 1 + 1 < w5.heap.size from ⟨Nat.lt_of_lt_of_le (lt_of_block HB.out.2.2.2) hsD.size, Nat.lt_of_lt_of_le (lt_of_block HB.out.2.2.2) (Nat.le_trans HS2.out.size hb5.size)⟩)
    have z00 : ∀ w', Below D.heap.size D w' → w'.cell? ⟨w.heap.size, 0, none⟩ = some (.bool s0) := fun w' h => ((HSD.out.trans (h.mono HSD.out.size)).cell (lt_of_block HB.out.2.1)).trans k00
    have z01 : ∀ w', Below D.heap.size D w' → w'.cell? ⟨w.heap.size, 1, none⟩ = some (.slice p0 l0 c0) := fun w' h => ((HSD.out.trans (h.mono HSD.out.size)).cell (lt_of_block HB.out.2.1)).trans k01
    have z10 : ∀ w', Below D.heap.size D w' → w'.cell? ⟨w.heap.size + 1, 0, none⟩ = some (.bool s1) := fun w' h => ((HSD.out.trans (h.mono HSD.out.size)).cell (lt_of_block HB.out.2.2.1)).trans k10
    have z11 : ∀ w', Below D.heap.size D w' → w'.cell? ⟨w.heap.size + 1, 1, none⟩ = some (.slice p1 l1 c1) := fun w' h => ((HSD.out.trans (h.mono HSD.out.size)).cell (lt_of_block HB.out.2.2.1)).trans k11
    have zo0 : ∀ w', Below D.heap.size D w' → w'.cell? ⟨w5.heap.size, 0, none⟩ = some (.bool t) := fun w' h => (h.cell hlt).trans o0
    have zo1 : ∀ w', Below D.heap.size D w' → w'.cell? ⟨w5.heap.size, 1, none⟩ = some (.slice p5 l5 c5) := fun w' h => (h.cell hlt).trans o1
    have hrr : Below D.heap.size D D := Below.refl _ _
    have lQ : (Nl.limbs (divQ how a b).natAbs).length ≤ 902 := by
      rw [HQ.out, sgn_abs]
      have h1 := HFQ.out
      have h2 := Nl.len_add q 1
      have h3 : (Nl.limbs 1).length ≤ 1 := Nl.limbs_lt (by decide)
      split <;> omega
    have HTM := Lib.hid (fun (w' : World) (h : Below D.heap.size D w') => rtimes_any (.agg #[.bool t, .slice p5 l5 c5]) (.agg #[.bool s1, .slice p1 l1 c1]) (divQ how a b) b w' (AtI.below HID.out h) (AtI.below (AtI.below HI.out.2 HSD.out) h) (Nat.le_trans lQ (by decide)) (Nat.le_trans HL.out.2 (by decide)))
    have lP : lowI (divQ how a b * b) := by
      show (Nl.limbs (divQ how a b * b).natAbs).length ≤ 200000
      rw [Int.natAbs_mul]
      have h1 := Nl.len_mul (divQ how a b).natAbs b.natAbs
      have h2 := HL.out.2
      omega
    have HMI := Lib.hid (fun (w' : World) (h : Below D.heap.size D w') (v : Value) (hv : IsI w' v (divQ how a b * b)) => rminus_any (.agg #[.bool s0, .slice p0 l0 c0]) v a (divQ how a b * b) w' (AtI.below (AtI.below HI.out.1 HSD.out) h) hv (Nat.le_trans HL.out.1 (by decide)) lP)
    clear hi hb5 hz OD o0 o1 hsD hlt lQ lP HO b00 b10
    have nA : ¬ w.heap.size = w5.heap.size := by have := HLT.out.2; omega
    have nA' : ¬ w5.heap.size = w.heap.size := by have := HLT.out.2; omega
    have nB : ¬ w.heap.size + 1 = w5.heap.size := by have := HLT.out.2; omega
    have nB' : ¬ w5.heap.size = w.heap.size + 1 := by have := HLT.out.2; omega
    have qz00 := z00 D hrr
    have qz01 := z01 D hrr
    have qz10 := z10 D hrr
    have qz11 := z11 D hrr
    have qzo0 := zo0 D hrr
    have qzo1 := zo1 D hrr
    go_wp2_with fail
    rw [← hD]
    clear hD
    go_region_held3 (fun w' => w'.cell? ⟨w.heap.size, 0, none⟩ = some (.bool s0) ∧ w'.cell? ⟨w.heap.size, 1, none⟩ = some (.slice p0 l0 c0) ∧ w'.cell? ⟨w.heap.size + 1, 0, none⟩ = some (.bool s1) ∧ w'.cell? ⟨w.heap.size + 1, 1, none⟩ = some (.slice p1 l1 c1) ∧ w'.cell? ⟨w5.heap.size, 0, none⟩ = some (.bool t) ∧ w'.cell? ⟨w5.heap.size, 1, none⟩ = some (.slice p5 l5 c5))
      (first
        | (refine ⟨?_, ?_, ?_, ?_, ?_, ?_⟩ <;> first | assumption | exact cell_23_0 _ _ HZ.out.1 | exact cell_23_1 _ _ HZ.out.1 | go_keep)
        | go_keep
        | assumption)
      (first
        | (go_at_call 86; refine (HTM.out _ (by first | assumption | exact below_drew0 _)).mono ?_; rintro e w6 ⟨hw6, v6, rfl, hv6⟩; obtain ⟨p6, c6, rfl, -⟩ := AtI.form hv6; have bel6 : Below D.heap.size D w6 := below_on (D := D) (by first | assumption | exact below_drew0 _) hw6; have dz00 := z00 _ bel6; have dz01 := z01 _ bel6; have dz10 := z10 _ bel6; have dz11 := z11 _ bel6; have dzo0 := zo0 _ bel6; have dzo1 := zo1 _ bel6; clear hw6)
        | (go_at_call 67; refine (HMI.out _ (by assumption) _ hv6).mono ?_; rintro e w7 ⟨hw7, v7, rfl, hv7⟩; obtain ⟨p7, c7, rfl, -⟩ := AtI.form hv7; have bel7 := below_on (D := D) bel6 hw7; have ez00 := z00 _ bel7; have ez01 := z01 _ bel7; have ez10 := z10 _ bel7; have ez11 := z11 _ bel7; have ezo0 := zo0 _ bel7; have ezo1 := zo1 _ bel7; have hi7 := AtI.below HID.out bel7; have O7 := (bel7.block _ (lt_of_block HOD.out)).trans HOD.out; have R7 := (bel7.block _ HLT.out.1).trans ((HSD.out.block _ (lt_of_block HB.out.2.2.2)).trans HB.out.2.2.2); have f2 := frozen_of_row _ _ 2 _ _ O7; have f3 := frozen_of_row _ _ 3 _ _ O7; have g0 := cell_of_row _ _ 0 _ _ (0, 0) O7; have g1 := cell_of_row _ _ 1 _ _ (0, 0) O7; have g2 := cell_of_row _ _ 2 _ _ (0, 0) O7; have g3 := cell_of_row _ _ 3 _ _ (0, 0) O7; have g4 := cell_of_row _ _ 4 _ _ (0, 0) O7; have x0 := frozen_of_row _ _ 0 _ _ R7; have x1 := frozen_of_row _ _ 1 _ _ R7; have x2 := frozen_of_row _ _ 2 _ _ R7; have x3 := frozen_of_row _ _ 3 _ _ R7; have x4 := frozen_of_row _ _ 4 _ _ R7; have y0 := cell_of_row _ _ 0 _ _ (0, 0) R7; have y1 := cell_of_row _ _ 1 _ _ (0, 0) R7; have y2 := cell_of_row _ _ 2 _ _ (0, 0) R7; have y3 := cell_of_row _ _ 3 _ _ (0, 0) R7; have y4 := cell_of_row _ _ 4 _ _ (0, 0) R7; simp only [List.getElem?_toArray, List.getElem?_cons_zero, List.getElem?_cons_succ] at g0 g1 g2 g3 g4 y0 y1 y2 y3 y4; have HZ := Lib.hid (And.intro O7 (And.intro R7 (And.intro hi7 (And.intro hv7 bel7)))); clear O7 R7 hi7 hw7))
    have ne1 : ¬ w5.heap.size = w.heap.size + 1 + 1 := by have := HLT.out.2; omega
    have ne2 : ¬ w.heap.size + 1 + 1 = w5.heap.size := by have := HLT.out.2; omega
    clear nA nA' nB nB' z00 z01 z10 z11 zo0 zo1 hrr qz00 dz00 ez00 qz01 dz01 ez01 qz10 dz10 ez10 qz11 dz11 ez11 qzo0 dzo0 ezo0 qzo1 dzo1 ezo1 HTM HMI hv6 hv7 bel6 bel7
    go_wp2_with fail
    obtain ⟨V, hV⟩ : ∃ V, V = (w7.setCell ⟨w5.heap.size, 2, none⟩ (.bool (negB (a - divQ how a b * b)))).setCell ⟨w5.heap.size, 3, none⟩ (.slice p7 (Nl.limbs (a - divQ how a b * b).natAbs).length c7) := ⟨_, rfl⟩
    rw [← hV]
    have OV := row_set23 (g := w5.heap.size) (.bool (negB (a - divQ how a b * b))) (.slice p7 (Nl.limbs (a - divQ how a b * b).natAbs).length c7) HZ.out.1
    have RV : V.heap[w.heap.size + 1 + 1]? = some (.cells #[.bool false, .slice none 0 0, .bool false, .slice none 0 0, .int .i64 0] 95 (0, 0)) := by
      rw [hV, Below.heap_setCell _ ⟨w5.heap.size, 3, none⟩ _ _ ne2, Below.heap_setCell _ ⟨w5.heap.size, 2, none⟩ _ _ ne2]
      exact HZ.out.2.1
    have iQ : IsI V (.agg #[.bool t, .slice p5 l5 c5]) (divQ how a b) := by rw [hV]; exact isI_five 3 _ (isI_five 2 _ HZ.out.2.2.1 HZ.out.1) (heap_setCell_same _ _ 2 _ _ _ HZ.out.1)
    have iR : IsI V (.agg #[.bool (negB (a - divQ how a b * b)), .slice p7 (Nl.limbs (a - divQ how a b * b).natAbs).length c7]) (a - divQ how a b * b) := by rw [hV]; exact isI_five 3 _ (isI_five 2 _ HZ.out.2.2.2.1 HZ.out.1) (heap_setCell_same _ _ 2 _ _ _ HZ.out.1)
    have bV : Below w.heap.size w V := by rw [hV]; exact below_ibox23 (HB.out.1.trans ((HSD.out.trans (HZ.out.2.2.2.2.mono HSD.out.size)).mono HB.out.1.size)) (by have := HLT.out.2; omega) _ _
    refine bodyPost_ret (v := .agg #[.bool t, .slice p5 l5 c5, .bool (negB (a - divQ how a b * b)), .slice p7 (Nl.limbs (a - divQ how a b * b).natAbs).length c7, .int .i64 0]) (results_cell_row Tryz.results71 _ _ (w.heap.size + 1 + 1) 95 _ (0, 0) _ rfl (row_set5 (g := w.heap.size + 1 + 1) _ _ _ _ _ RV) Tryz.underlying95 rfl (by kernel_rfl)) rfl ?_
    exact ⟨⟨_, _, _, _, _, _, _, _, rfl, isI_all RV iQ, isI_all RV iR⟩, below_all bV (by omega) _ _ _ _ _⟩
  | true =>
    obtain ⟨N, hN⟩ : ∃ N, N = w2.alloc (.cells #[.int .u32 1] 80) := ⟨_, rfl⟩
    have hz : Below w2.heap.size w2 N := by rw [hN]; exact below_one _ _
    have a1 : At N (.slice (some ⟨w2.heap.size, 0, none⟩) 1 1) (Nl.limbs 1) := by rw [hN]; exact at_word1 _ _
    have HAD := Lib.hid (addR (.slice pq lq cq) (.slice (some ⟨w2.heap.size, 0, none⟩) 1 1) q 1 N (HAQ2.out.below hz) a1 (Nat.le_trans HFQ.out (by decide)) (Nat.le_trans (Nl.limbs_lt (k := 1) (by decide)) (by decide)))
    have HSN := Lib.hid (HS2.out.trans (hz.mono HS2.out.size))
    clear hz a1
    go_wp2_with fail
    rw [← hN]
    clear hN
    refine HAD.out.mono ?_
    rintro e w3 ⟨⟨p3, n3, c3, rfl, h3⟩, hb3⟩
    have HS3 := Lib.hid (HSN.out.trans (hb3.mono HSN.out.size))
    have HA3 := Lib.hid h3
    clear h3 hb3 HAD
    have b00 := (HS3.out.cell (lt_of_block HB.out.2.1)).trans k00
    have b10 := (HS3.out.cell (lt_of_block HB.out.2.2.1)).trans k10
    obtain ⟨x, hx⟩ : ∃ x, x = (!(s0 == s1)) := ⟨_, rfl⟩
    have HX := Lib.hid hx
    have HO := Lib.hid (ref2Of_any x (.slice p3 n3 c3) (q + 1) w3 HA3.out (by have := HFQ.out; have := Nl.len_add q 1; have : (Nl.limbs 1).length ≤ 1 := Nl.limbs_lt (by decide); omega))
    go_wp2_with fail
    rw [← hx]
    clear hx
    refine HO.out.mono ?_
    rintro e w5 ⟨⟨t, p5, l5, c5, rfl, hi⟩, hb5⟩
    rw [show sgn x ((q + 1 : Nat) : Nat) = divQ how a b by rw [HQ.out, HX.out]; rfl] at hi
    obtain ⟨D, hD⟩ : ∃ D, D = w5.alloc (.cells #[.bool t, .slice p5 l5 c5, .bool false, .slice none 0 0, .int .i64 0] 95) := ⟨_, rfl⟩
    have hz : Below w5.heap.size w5 D := by rw [hD]; exact below_one _ _
    have OD : D.heap[w5.heap.size]? = some (.cells #[.bool t, .slice p5 l5 c5, .bool false, .slice none 0 0, .int .i64 0] 95 (0, 0)) := by rw [hD]; exact al_at _ _ rfl
    have o0 := cell_of_row _ _ 0 _ _ (0, 0) OD
    have o1 := cell_of_row _ _ 1 _ _ (0, 0) OD
    simp only [List.getElem?_toArray, List.getElem?_cons_zero, List.getElem?_cons_succ] at o0 o1
    have hsD := HS3.out.trans ((hb5.trans (hz.mono hb5.size)).mono HS3.out.size)
    have HSD := Lib.hid hsD
    have HOD := Lib.hid OD
    have HID := Lib.hid (AtI.below hi hz)
    have hlt := lt_of_block OD
    have HLT := Lib.hid (show w.heap.size + 1 + 1 < D.heap.size ∧ w.heap.size + 1 + 1 < w5.heap.size from ⟨Nat.lt_of_lt_of_le (lt_of_block HB.out.2.2.2) hsD.size, Nat.lt_of_lt_of_le (lt_of_block HB.out.2.2.2) (Nat.le_trans HS3.out.size hb5.size)⟩)
    have z00 : ∀ w', Below D.heap.size D w' → w'.cell? ⟨w.heap.size, 0, none⟩ = some (.bool s0) := fun w' h => ((HSD.out.trans (h.mono HSD.out.size)).cell (lt_of_block HB.out.2.1)).trans k00
    have z01 : ∀ w', Below D.heap.size D w' → w'.cell? ⟨w.heap.size, 1, none⟩ = some (.slice p0 l0 c0) := fun w' h => ((HSD.out.trans (h.mono HSD.out.size)).cell (lt_of_block HB.out.2.1)).trans k01
    have z10 : ∀ w', Below D.heap.size D w' → w'.cell? ⟨w.heap.size + 1, 0, none⟩ = some (.bool s1) := fun w' h => ((HSD.out.trans (h.mono HSD.out.size)).cell (lt_of_block HB.out.2.2.1)).trans k10
    have z11 : ∀ w', Below D.heap.size D w' → w'.cell? ⟨w.heap.size + 1, 1, none⟩ = some (.slice p1 l1 c1) := fun w' h => ((HSD.out.trans (h.mono HSD.out.size)).cell (lt_of_block HB.out.2.2.1)).trans k11
    have zo0 : ∀ w', Below D.heap.size D w' → w'.cell? ⟨w5.heap.size, 0, none⟩ = some (.bool t) := fun w' h => (h.cell hlt).trans o0
    have zo1 : ∀ w', Below D.heap.size D w' → w'.cell? ⟨w5.heap.size, 1, none⟩ = some (.slice p5 l5 c5) := fun w' h => (h.cell hlt).trans o1
    have hrr : Below D.heap.size D D := Below.refl _ _
    have lQ : (Nl.limbs (divQ how a b).natAbs).length ≤ 902 := by
      rw [HQ.out, sgn_abs]
      have h1 := HFQ.out
      have h2 := Nl.len_add q 1
      have h3 : (Nl.limbs 1).length ≤ 1 := Nl.limbs_lt (by decide)
      split <;> omega
    have HTM := Lib.hid (fun (w' : World) (h : Below D.heap.size D w') => rtimes_any (.agg #[.bool t, .slice p5 l5 c5]) (.agg #[.bool s1, .slice p1 l1 c1]) (divQ how a b) b w' (AtI.below HID.out h) (AtI.below (AtI.below HI.out.2 HSD.out) h) (Nat.le_trans lQ (by decide)) (Nat.le_trans HL.out.2 (by decide)))
    have lP : lowI (divQ how a b * b) := by
      show (Nl.limbs (divQ how a b * b).natAbs).length ≤ 200000
      rw [Int.natAbs_mul]
      have h1 := Nl.len_mul (divQ how a b).natAbs b.natAbs
      have h2 := HL.out.2
      omega
    have HMI := Lib.hid (fun (w' : World) (h : Below D.heap.size D w') (v : Value) (hv : IsI w' v (divQ how a b * b)) => rminus_any (.agg #[.bool s0, .slice p0 l0 c0]) v a (divQ how a b * b) w' (AtI.below (AtI.below HI.out.1 HSD.out) h) hv (Nat.le_trans HL.out.1 (by decide)) lP)
    clear hi hb5 hz OD o0 o1 hsD hlt lQ lP HO b00 b10
    have nA : ¬ w.heap.size = w5.heap.size := by have := HLT.out.2; omega
    have nA' : ¬ w5.heap.size = w.heap.size := by have := HLT.out.2; omega
    have nB : ¬ w.heap.size + 1 = w5.heap.size := by have := HLT.out.2; omega
    have nB' : ¬ w5.heap.size = w.heap.size + 1 := by have := HLT.out.2; omega
    have qz00 := z00 D hrr
    have qz01 := z01 D hrr
    have qz10 := z10 D hrr
    have qz11 := z11 D hrr
    have qzo0 := zo0 D hrr
    have qzo1 := zo1 D hrr
    go_wp2_with fail
    rw [← hD]
    clear hD
    go_region_held3 (fun w' => w'.cell? ⟨w.heap.size, 0, none⟩ = some (.bool s0) ∧ w'.cell? ⟨w.heap.size, 1, none⟩ = some (.slice p0 l0 c0) ∧ w'.cell? ⟨w.heap.size + 1, 0, none⟩ = some (.bool s1) ∧ w'.cell? ⟨w.heap.size + 1, 1, none⟩ = some (.slice p1 l1 c1) ∧ w'.cell? ⟨w5.heap.size, 0, none⟩ = some (.bool t) ∧ w'.cell? ⟨w5.heap.size, 1, none⟩ = some (.slice p5 l5 c5))
      (first
        | (refine ⟨?_, ?_, ?_, ?_, ?_, ?_⟩ <;> first | assumption | exact cell_23_0 _ _ HZ.out.1 | exact cell_23_1 _ _ HZ.out.1 | go_keep)
        | go_keep
        | assumption)
      (first
        | (go_at_call 86; refine (HTM.out _ (by first | assumption | exact below_drew0 _)).mono ?_; rintro e w6 ⟨hw6, v6, rfl, hv6⟩; obtain ⟨p6, c6, rfl, -⟩ := AtI.form hv6; have bel6 : Below D.heap.size D w6 := below_on (D := D) (by first | assumption | exact below_drew0 _) hw6; have dz00 := z00 _ bel6; have dz01 := z01 _ bel6; have dz10 := z10 _ bel6; have dz11 := z11 _ bel6; have dzo0 := zo0 _ bel6; have dzo1 := zo1 _ bel6; clear hw6)
        | (go_at_call 67; refine (HMI.out _ (by assumption) _ hv6).mono ?_; rintro e w7 ⟨hw7, v7, rfl, hv7⟩; obtain ⟨p7, c7, rfl, -⟩ := AtI.form hv7; have bel7 := below_on (D := D) bel6 hw7; have ez00 := z00 _ bel7; have ez01 := z01 _ bel7; have ez10 := z10 _ bel7; have ez11 := z11 _ bel7; have ezo0 := zo0 _ bel7; have ezo1 := zo1 _ bel7; have hi7 := AtI.below HID.out bel7; have O7 := (bel7.block _ (lt_of_block HOD.out)).trans HOD.out; have R7 := (bel7.block _ HLT.out.1).trans ((HSD.out.block _ (lt_of_block HB.out.2.2.2)).trans HB.out.2.2.2); have f2 := frozen_of_row _ _ 2 _ _ O7; have f3 := frozen_of_row _ _ 3 _ _ O7; have g0 := cell_of_row _ _ 0 _ _ (0, 0) O7; have g1 := cell_of_row _ _ 1 _ _ (0, 0) O7; have g2 := cell_of_row _ _ 2 _ _ (0, 0) O7; have g3 := cell_of_row _ _ 3 _ _ (0, 0) O7; have g4 := cell_of_row _ _ 4 _ _ (0, 0) O7; have x0 := frozen_of_row _ _ 0 _ _ R7; have x1 := frozen_of_row _ _ 1 _ _ R7; have x2 := frozen_of_row _ _ 2 _ _ R7; have x3 := frozen_of_row _ _ 3 _ _ R7; have x4 := frozen_of_row _ _ 4 _ _ R7; have y0 := cell_of_row _ _ 0 _ _ (0, 0) R7; have y1 := cell_of_row _ _ 1 _ _ (0, 0) R7; have y2 := cell_of_row _ _ 2 _ _ (0, 0) R7; have y3 := cell_of_row _ _ 3 _ _ (0, 0) R7; have y4 := cell_of_row _ _ 4 _ _ (0, 0) R7; simp only [List.getElem?_toArray, List.getElem?_cons_zero, List.getElem?_cons_succ] at g0 g1 g2 g3 g4 y0 y1 y2 y3 y4; have HZ := Lib.hid (And.intro O7 (And.intro R7 (And.intro hi7 (And.intro hv7 bel7)))); clear O7 R7 hi7 hw7))
    have ne1 : ¬ w5.heap.size = w.heap.size + 1 + 1 := by have := HLT.out.2; omega
    have ne2 : ¬ w.heap.size + 1 + 1 = w5.heap.size := by have := HLT.out.2; omega
    clear nA nA' nB nB' z00 z01 z10 z11 zo0 zo1 hrr qz00 dz00 ez00 qz01 dz01 ez01 qz10 dz10 ez10 qz11 dz11 ez11 qzo0 dzo0 ezo0 qzo1 dzo1 ezo1 HTM HMI hv6 hv7 bel6 bel7
    go_wp2_with fail
    obtain ⟨V, hV⟩ : ∃ V, V = (w7.setCell ⟨w5.heap.size, 2, none⟩ (.bool (negB (a - divQ how a b * b)))).setCell ⟨w5.heap.size, 3, none⟩ (.slice p7 (Nl.limbs (a - divQ how a b * b).natAbs).length c7) := ⟨_, rfl⟩
    rw [← hV]
    have OV := row_set23 (g := w5.heap.size) (.bool (negB (a - divQ how a b * b))) (.slice p7 (Nl.limbs (a - divQ how a b * b).natAbs).length c7) HZ.out.1
    have RV : V.heap[w.heap.size + 1 + 1]? = some (.cells #[.bool false, .slice none 0 0, .bool false, .slice none 0 0, .int .i64 0] 95 (0, 0)) := by
      rw [hV, Below.heap_setCell _ ⟨w5.heap.size, 3, none⟩ _ _ ne2, Below.heap_setCell _ ⟨w5.heap.size, 2, none⟩ _ _ ne2]
      exact HZ.out.2.1
    have iQ : IsI V (.agg #[.bool t, .slice p5 l5 c5]) (divQ how a b) := by rw [hV]; exact isI_five 3 _ (isI_five 2 _ HZ.out.2.2.1 HZ.out.1) (heap_setCell_same _ _ 2 _ _ _ HZ.out.1)
    have iR : IsI V (.agg #[.bool (negB (a - divQ how a b * b)), .slice p7 (Nl.limbs (a - divQ how a b * b).natAbs).length c7]) (a - divQ how a b * b) := by rw [hV]; exact isI_five 3 _ (isI_five 2 _ HZ.out.2.2.2.1 HZ.out.1) (heap_setCell_same _ _ 2 _ _ _ HZ.out.1)
    have bV : Below w.heap.size w V := by rw [hV]; exact below_ibox23 (HB.out.1.trans ((HSD.out.trans (HZ.out.2.2.2.2.mono HSD.out.size)).mono HB.out.1.size)) (by have := HLT.out.2; omega) _ _
    refine bodyPost_ret (v := .agg #[.bool t, .slice p5 l5 c5, .bool (negB (a - divQ how a b * b)), .slice p7 (Nl.limbs (a - divQ how a b * b).natAbs).length c7, .int .i64 0]) (results_cell_row Tryz.results71 _ _ (w.heap.size + 1 + 1) 95 _ (0, 0) _ rfl (row_set5 (g := w.heap.size + 1 + 1) _ _ _ _ _ RV) Tryz.underlying95 rfl (by kernel_rfl)) rfl ?_
    exact ⟨⟨_, _, _, _, _, _, _, _, rfl, isI_all RV iQ, isI_all RV iR⟩, below_all bV (by omega) _ _ _ _ _⟩
end Go.Proofs.YtkbghamkalidcaaGreat

namespace Go.Proofs.YtkbghamkalidcaaGreat
open Go.RowKit

end Go.Proofs.YtkbghamkalidcaaGreat
