/-
  Division of natural numbers, for all valid numbers, as package whole meets it. Conditions: those that each theorem names.
  What the reference's up does: has a quotient of integers to be one greater? Conditions: those that the theorem names.
  What the reference's Shr does. Conditions: those that each theorem names.
  What the reference's Shl does. Conditions: those that each theorem names.
  What the reference's Bits does. Conditions: those that the theorem names.
  What Parse does with 007. Conditions: those that each theorem names.
  What divide does to a row of one's own. What slices.Clone does. Conditions: those that each theorem names.
  What isNumeral does. Conditions: those that each theorem names.
  What extended does to a number of one's own. Conditions: those that each theorem names.
  What fromDigits does. Conditions: those that each theorem names.
  What Parse does. Conditions: those that each theorem names.
  What the reference's Step and Parse do. Conditions: those that each theorem names.
  What the reference's short does. Conditions: those that each theorem names.
-/
import Derived.Test.YtodjncohhgknlaaGreatBlocksAll
import Derived.Test.YtodjncohhgknlaaGreatOverG
import Derived.Test.YtodjncohhgknlaaGreatRef2dAll
import Derived.Test.YtodjncohhgknlaaGreatLawSums
import Derived.Test.YtodjncohhgknlaaGreatRefTrim
import Derived.Test.YtodjncohhgknlaaGreatBitsAll
import Derived.Test.YtodjncohhgknlaaGreatRefAll
import Derived.Test.YtodjncohhgknlaaGreatDivideAll
import Derived.Laws.OwnMore
import Derived.Lib.Strings
import Derived.Test.YtodjncohhgknlaaGreatOne
import Derived.Laws.Rows
namespace Go.Proofs.YtodjncohhgknlaaGreat
open Go.RowKit

theorem div_gen (va vb : Value) (m n : Nat) (w : World) (ha : At w va (Nl.limbs m)) (hb : At w vb (Nl.limbs n)) (hm : (Nl.limbs m).length ≤ 1024) (hn : (Nl.limbs n).length ≤ 1024) (h0 : n ≠ 0) :
    Calls Tryz.prog 161 #[va, vb] w fun e w' => DivN w w' e (m / n) (m % n) := by
  refine (div_any va vb _ _ w ha hb (Nl.limbs_small m) (Nl.limbs_small n) (fun v1 v2 h1 w' hw' => ?_)).mono ?_
  · rw [Nl.val_limbs, Nl.val_limbs]
    exact over_all _ _ _ _ w' (show IsN w' va m from ha.below hw') (show IsN w' vb n from hb.below hw') (Nat.le_trans hm (by decide)) (Nat.le_trans hn (by decide)) (Nat.pos_of_ne_zero h0)
  · rintro e w2 ⟨c, hc, ⟨u, v, rfl, h2, h3⟩, hb⟩
    rw [Nl.val_limbs, Nl.val_limbs] at h2
    have hc0 : c = 0 := by
      rcases hc with ⟨_, _, h⟩ | ⟨h, _⟩
      · rw [h, Nl.val_limbs, divK, if_neg (fun h => absurd h.2 (by decide)), if_neg h0]
      · rw [validB_limbs hm, validB_limbs hn] at h
        rcases h with h | h <;> cases h
    subst hc0
    obtain ⟨o1, o2⟩ := h2 rfl
    obtain ⟨a1, c1, rfl, -⟩ := o1.at.form
    obtain ⟨a2, c2, rfl, -⟩ := o2.at.form
    exact ⟨⟨_, _, _, _, _, _, rfl, o1.at.at, o2.at.at⟩, hb⟩

/-- the quotient and the rest of integers, rounded in a way -/
def divQ (how : Nat) (a b : Int) : Int := if a.natAbs % b.natAbs = 0 ∨ farB how (negB a) (negB b) (a.natAbs / b.natAbs) (a.natAbs % b.natAbs) b.natAbs = false then sgn (negB a != negB b) (a.natAbs / b.natAbs) else sgn (negB a != negB b) (a.natAbs / b.natAbs + 1)
def divR (how : Nat) (a b : Int) : Int := if a.natAbs % b.natAbs = 0 ∨ farB how (negB a) (negB b) (a.natAbs / b.natAbs) (a.natAbs % b.natAbs) b.natAbs = false then sgn (negB a) (a.natAbs % b.natAbs) else sgn (!negB a) (b.natAbs - a.natAbs % b.natAbs)

/-- over, for any way and any numbers that are not too long -/
theorem over_gen (how : Nat) (h1 : 1 ≤ how) (h4 : how ≤ 4) (va vb : Value) (a b : Int) (w : World) (ha : IsI w va a) (hb : IsI w vb b) (la : (Nl.limbs a.natAbs).length ≤ 1023) (lb : fitI b) (hb0 : b ≠ 0) :
    Calls Tryz.prog 104 #[va, vb, .int .i64 how] w fun e w' => (∃ x y, e = .returned (.tuple #[x, y]) ∧ IsI w' x (divQ how a b) ∧ IsI w' y (divR how a b)) ∧ Below w.heap.size w w' := by
  obtain ⟨p0, c0, rfl, u0⟩ := AtI.form ha
  obtain ⟨p1, c1, rfl, u1⟩ := AtI.form hb
  have hn0 : b.natAbs ≠ 0 := by omega
  have hdiv : ∀ w', Below w.heap.size w w' → Calls Tryz.prog 161 #[.slice p0 (Nl.limbs a.natAbs).length c0, .slice p1 (Nl.limbs b.natAbs).length c1] w' fun e w'' => DivN w' w'' e (a.natAbs / b.natAbs) (a.natAbs % b.natAbs) :=
    fun w' hw' => div_gen _ _ _ _ w' (u0.below hw') (u1.below hw') (Nat.le_trans la (by decide)) lb hn0
  have hrb : a.natAbs % b.natAbs ≤ b.natAbs := Nat.le_of_lt (Nat.mod_lt _ (by omega))
  have fq : (Nl.limbs (a.natAbs / b.natAbs)).length ≤ 1023 := Nat.le_trans (Nl.limbs_mono (Nat.div_le_self _ _)) la
  by_cases hr0 : a.natAbs % b.natAbs = 0
  · have hQ : divQ how a b = sgn (negB a != negB b) (a.natAbs / b.natAbs) := by rw [divQ, if_pos (.inl hr0)]
    have hR : divR how a b = sgn (negB a) 0 := by rw [divR, if_pos (.inl hr0), hr0]
    rw [hr0] at hdiv
    rw [hQ, hR]
    exact over_even p0 p1 _ c0 _ c1 a b how _ w u0 u1 hdiv
  · cases hf : farB how (negB a) (negB b) (a.natAbs / b.natAbs) (a.natAbs % b.natAbs) b.natAbs with
    | false =>
      have hQ : divQ how a b = sgn (negB a != negB b) (a.natAbs / b.natAbs) := by rw [divQ, if_pos (.inr hf)]
      have hR : divR how a b = sgn (negB a) (a.natAbs % b.natAbs) := by rw [divR, if_pos (.inr hf)]
      rw [hQ, hR]
      have hh : how = 1 ∨ how = 2 ∨ how = 3 ∨ how = 4 := by omega
      rcases hh with rfl | rfl | rfl | rfl
      · exact over1_near p0 p1 _ c0 _ c1 a b _ _ w u0 u1 lb hdiv hr0 hrb fq rfl
      · exact over2_near p0 p1 _ c0 _ c1 a b _ _ w u0 u1 lb hdiv hr0 hrb fq hf
      · exact over3_near p0 p1 _ c0 _ c1 a b _ _ w u0 u1 lb hdiv hr0 hrb fq hf
      · exact over4_near p0 p1 _ c0 _ c1 a b _ _ w u0 u1 lb hdiv hr0 hrb fq hf
    | true =>
      have hn : ¬ (a.natAbs % b.natAbs = 0 ∨ farB how (negB a) (negB b) (a.natAbs / b.natAbs) (a.natAbs % b.natAbs) b.natAbs = false) := by rw [hf]; simp [hr0]
      have hQ : divQ how a b = sgn (negB a != negB b) (a.natAbs / b.natAbs + 1) := by rw [divQ, if_neg hn]
      have hR : divR how a b = sgn (!negB a) (b.natAbs - a.natAbs % b.natAbs) := by rw [divR, if_neg hn]
      rw [hQ, hR]
      have hh : how = 1 ∨ how = 2 ∨ how = 3 ∨ how = 4 := by omega
      rcases hh with rfl | rfl | rfl | rfl
      · exact Bool.noConfusion hf
      · exact over2_far p0 p1 _ c0 _ c1 a b _ _ w u0 u1 lb hdiv hr0 hrb fq hf
      · exact over3_far p0 p1 _ c0 _ c1 a b _ _ w u0 u1 lb hdiv hr0 hrb fq hf
      · exact over4_far p0 p1 _ c0 _ c1 a b _ _ w u0 u1 lb hdiv hr0 hrb fq hf
end Go.Proofs.YtodjncohhgknlaaGreat

namespace Go.Proofs.YtodjncohhgknlaaGreat
open Go.RowKit

set_option maxHeartbeats 4000000 in
theorem rup_any (s0 s1 : Bool) (p0 p1 pq pr : Option Addr) (l0 c0 l1 c1 lq cq lr cr how q r d : Nat) (w : World) (hq : At w (.slice pq lq cq) (Nl.limbs q)) (hr : At w (.slice pr lr cr) (Nl.limbs r)) (hd : At w (.slice p1 l1 c1) (Nl.limbs d))
    (fr : (Nl.limbs r).length ≤ 100000) (fd : (Nl.limbs d).length ≤ 100000) (h1 : 1 ≤ how) (h4 : how ≤ 4) :
    Calls Tryz.prog 165 #[.agg #[.bool s0, .slice p0 l0 c0], .agg #[.bool s1, .slice p1 l1 c1], .agg #[.slice pq lq cq, .slice pr lr cr], .int .i64 how] w fun e w' => e = .returned (.bool (!decide (r = 0) && farB how s0 s1 q r d)) ∧ Below w.heap.size w w' := by
  have hlr : lr = (Nl.limbs r).length := by
    obtain ⟨aa, cc, hf, -⟩ := hr.form
    simp only [Value.slice.injEq] at hf
    exact hf.2.1
  have hlq : lq = (Nl.limbs q).length := by
    obtain ⟨aa, cc, hf, -⟩ := hq.form
    simp only [Value.slice.injEq] at hf
    exact hf.2.1
  obtain ⟨W, hW⟩ : ∃ W, W = ((w.alloc (.cells #[.bool s0, .slice p0 l0 c0] 25)).alloc (.cells #[.bool s1, .slice p1 l1 c1] 25)).alloc (.cells #[.slice pq lq cq, .slice pr lr cr] 150) := ⟨_, rfl⟩
  have hb : Below w.heap.size w W := by rw [hW]; exact three_new w _ _ _
  have B0 : W.heap[w.heap.size]? = some (.cells #[.bool s0, .slice p0 l0 c0] 25 (0, 0)) := by rw [hW]; exact al_keep _ _ (by simp <;> omega) (al_keep _ _ (by simp <;> omega) (al_at _ _ (by simp)))
  have B1 : W.heap[w.heap.size + 1]? = some (.cells #[.bool s1, .slice p1 l1 c1] 25 (0, 0)) := by rw [hW]; exact al_keep _ _ (by simp <;> omega) (al_at _ _ (by simp))
  have B2 : W.heap[w.heap.size + 1 + 1]? = some (.cells #[.slice pq lq cq, .slice pr lr cr] 150 (0, 0)) := by rw [hW]; exact al_at _ _ (by simp)
  have k00 := cell_of_row _ _ 0 _ _ (0, 0) B0
  have k10 := cell_of_row _ _ 0 _ _ (0, 0) B1
  have k11 := cell_of_row _ _ 1 _ _ (0, 0) B1
  have k20 := cell_of_row _ _ 0 _ _ (0, 0) B2
  have k21 := cell_of_row _ _ 1 _ _ (0, 0) B2
  simp only [List.getElem?_toArray, List.getElem?_cons_zero, List.getElem?_cons_succ] at k00 k10 k11 k20 k21
  have HB := Lib.hid (And.intro hb (And.intro (lt_of_block B1) (lt_of_block B2)))
  have HA := Lib.hid (And.intro (hq.below hb) (And.intro (hr.below hb) (hd.below hb)))
  have HF := Lib.hid (And.intro fr fd)
  have HLQ := Lib.hid hlq
  by_cases hr0 : r = 0
  · have hl0 : lr = 0 := by rw [hlr, hr0, Nl.limbs_zero]; rfl
    subst hl0
    have HR := Lib.hid (show (!decide (r = 0) && farB how s0 s1 q r d) = false by rw [decide_eq_true hr0]; rfl)
    clear hq hr hd fr fd h1 h4 hlr hlq hb B0 B1 B2 hr0
    go_enter Tryz.func165, Tryz.ntmps165
    go_wp2_with fail
    rw [← hW]
    go_ret
    exact ⟨by rw [HR.out]; rfl, HB.out.1⟩
  · have hl0 : lr ≠ 0 := by rw [hlr]; intro h; exact hr0 (limbs_nil.1 h)
    have e0 : ((lr : Int) == 0) = false := by rw [beq_eq_false_iff_ne]; omega
    have hRR : (!decide (r = 0) && farB how s0 s1 q r d) = farB how s0 s1 q r d := by rw [decide_eq_false hr0]; rfl
    rw [hRR]
    clear hq hr hd fr fd hlr hlq hb B0 B1 B2 hr0 hRR hl0
    have hh : how = 1 ∨ how = 2 ∨ how = 3 ∨ how = 4 := by omega
    clear h1 h4
    rcases hh with rfl | rfl | rfl | rfl
    · go_enter Tryz.func165, Tryz.ntmps165
      go_wp2_with fail
      rw [← hW]
      go_ret
      exact ⟨rfl, HB.out.1⟩
    · cases s0 <;> cases s1
      all_goals
        go_enter Tryz.func165, Tryz.ntmps165
        go_wp2_with fail
        rw [← hW]
        go_ret
        exact ⟨rfl, HB.out.1⟩
    · cases s0
      all_goals
        go_enter Tryz.func165, Tryz.ntmps165
        go_wp2_with fail
        rw [← hW]
        go_ret
        exact ⟨rfl, HB.out.1⟩
    · have z20 : ∀ w', Below W.heap.size W w' → w'.cell? ⟨w.heap.size + 1 + 1, 0, none⟩ = some (.slice pq lq cq) := fun w' h => (h.cell HB.out.2.2).trans k20
      have z21 : ∀ w', Below W.heap.size W w' → w'.cell? ⟨w.heap.size + 1 + 1, 1, none⟩ = some (.slice pr lr cr) := fun w' h => (h.cell HB.out.2.2).trans k21
      have z11 : ∀ w', Below W.heap.size W w' → w'.cell? ⟨w.heap.size + 1, 1, none⟩ = some (.slice p1 l1 c1) := fun w' h => (h.cell HB.out.2.1).trans k11
      have hrr : Below W.heap.size W W := Below.refl _ _
      have HAD := Lib.hid (fun (w' : World) (h : Below W.heap.size W w') => addR _ _ r r w' (HA.out.2.1.below h) (HA.out.2.1.below h) (Nat.le_trans HF.out.1 (by decide)) (Nat.le_trans HF.out.1 (by decide)))
      have HCM := Lib.hid (fun (w' : World) (h : Below W.heap.size W w') (v : Value) (hv : At w' v (Nl.limbs (r + r))) => by
        have := refCmp_any v (.slice p1 l1 c1) _ _ w' hv (HA.out.2.2.below h) (Nl.limbs_small _) (Nl.limbs_small _) (by have := Nl.len_add r r; have := HF.out.1; omega) (by have := HF.out.2; omega)
        rw [Nl.val_limbs, Nl.val_limbs] at this
        exact this)
      obtain ⟨K, hK⟩ : ∃ K, K = cmpI ((r + r : Nat) : Int) (d : Int) := ⟨_, rfl⟩
      rw [← hK] at HCM
      have hthree : K = 1 ∧ d < 2 * r ∨ K = 0 ∧ 2 * r = d ∨ K = -1 ∧ 2 * r < d := by
        rw [hK, cmpI]
        split
        · right; right; exact ⟨rfl, by omega⟩
        · split
          · left; exact ⟨rfl, by omega⟩
          · right; left; exact ⟨rfl, by omega⟩
      have HT := Lib.hid hthree
      have HQ := Lib.hid (show ∀ w', Below W.heap.size W w' → 0 < lq → ∃ b off, pq = some ⟨b, off, none⟩ ∧ w'.cell? ⟨b, off, none⟩ = some (.int .u32 ((q % 4294967296 : Nat) : Int)) from by
        intro w' hw' h0
        rcases HA.out.1.below hw' with ⟨h1, h2⟩ | ⟨b, off, cap, h1, -, -, -, -, h6⟩
        · simp only [Value.slice.injEq] at h1; omega
        · simp only [Value.slice.injEq] at h1
          refine ⟨b, off, h1.1, ?_⟩
          have h7 := h6 0 (by omega)
          rw [Nat.add_zero] at h7
          rw [h7]
          have hq0 : q ≠ 0 := fun h => by rw [HLQ.out, h, Nl.limbs_zero] at h0; exact absurd h0 (by decide)
          rw [Nl.limbs_pos hq0]; rfl)
      have HL := Lib.hid (show lq = 0 ↔ q = 0 by rw [HLQ.out]; exact limbs_nil)
      obtain ⟨bb, hbb⟩ : ∃ bb, bb = farB 4 s0 s1 q r d := ⟨_, rfl⟩
      rw [← hbb]
      have HBB := Lib.hid (show bb = halfB q r d from hbb)
      clear hK hthree hbb
      go_enter Tryz.func165, Tryz.ntmps165
      go_wp2_with fail
      rw [← hW]
      clear hW
      go_region_held3 (fun w' => Below W.heap.size W w')
        (first
          | assumption
          | exact below_drew0 _
          | exact below_drew1 (by assumption))
        (first
          | (go_at_call 85; refine (HAD.out _ (by assumption)).mono ?_; rintro e w2 ⟨⟨t1, t2, t3, rfl, hi⟩, hw2⟩; have bel2 := below_on (D := W) (by assumption) hw2; clear hw2)
          | (go_at_call 156; refine (HCM.out _ (by assumption) _ hi).mono ?_; rintro e w3 ⟨rfl, rfl⟩))
      have HB2 := Lib.hid (HB.out.1.trans (bel2.mono HB.out.1.size))
      have HBL := Lib.hid bel2
      have k20 := z20 _ bel2
      clear bel2 hi z20 z21 z11 hrr HAD HCM
      obtain ⟨z, hz⟩ : ∃ z, z = q % 4294967296 := ⟨_, rfl⟩
      have hlow : z % 2 = q % 2 := by omega
      rcases HT.out with ⟨rfl, h2⟩ | ⟨rfl, h2⟩ | ⟨rfl, h2⟩
      · have HH2 := Lib.hid (HBB.out.trans (show halfB q r d = true by rw [halfB, decide_eq_true h2]; rfl))
        clear h2 hz hlow
        go_wp2_with fail
        go_ret
        exact ⟨ret_bool HH2.out.symm, HB2.out⟩
      · have HH2 := Lib.hid (HBB.out.trans (show halfB q r d = decide (q % 2 = 1) by rw [halfB, decide_eq_false (by omega), decide_eq_true h2, Bool.false_or, Bool.true_and]))
        clear h2
        by_cases h0 : lq = 0
        · have HH3 := Lib.hid (HH2.out.trans (decide_eq_false (by rw [HL.out.1 h0]; decide)))
          clear HLQ HL hz hlow
          subst h0
          go_wp2_with fail
          go_ret
          exact ⟨ret_bool HH3.out.symm, HB2.out⟩
        · have e3 : decide (0 < lq) = true := decide_eq_true (by omega)
          have e4 : decide ((lq : Int) > 0) = true := decide_eq_true (by omega)
          have h0' : 0 < lq := by omega
          obtain ⟨b, off, rfl, hc⟩ := HQ.out _ HBL.out h0'
          rw [← hz] at hc
          by_cases hodd : q % 2 = 1
          · have e1 : (((z : Int) % 2) == 1) = true := by rw [beq_iff_eq]; omega
            have HH3 := Lib.hid (HH2.out.trans (decide_eq_true hodd))
            clear hodd h0 hz hlow
            go_wp2_with fail
            go_ret
            exact ⟨ret_bool HH3.out.symm, HB2.out⟩
          · have e1 : (((z : Int) % 2) == 1) = false := by rw [beq_eq_false_iff_ne]; omega
            have HH3 := Lib.hid (HH2.out.trans (decide_eq_false hodd))
            clear hodd h0 hz hlow
            go_wp2_with fail
            go_ret
            exact ⟨ret_bool HH3.out.symm, HB2.out⟩
      · have HH2 := Lib.hid (HBB.out.trans (show halfB q r d = false by rw [halfB, decide_eq_false (by omega), decide_eq_false (by omega)]; rfl))
        clear h2 hz hlow
        go_wp2_with fail
        go_ret
        exact ⟨ret_bool HH2.out.symm, HB2.out⟩
end Go.Proofs.YtodjncohhgknlaaGreat

namespace Go.Proofs.YtodjncohhgknlaaGreat
open Go.RowKit

theorem ref_shr_word {hi lo r : Nat} (hr : r < 32) (hl : lo < 4294967296) :
    ((hi * 4294967296 + lo) / 2 ^ r) % 4294967296 = (hi % 2 ^ r) * 2 ^ (32 - r) + lo / 2 ^ r := by
  have e : (4294967296 : Nat) = 2 ^ r * 2 ^ (32 - r) := by
    rw [← Nat.pow_add, show r + (32 - r) = 32 by omega]
  have hp : 0 < 2 ^ r := Nat.two_pow_pos r
  obtain ⟨P, hP⟩ : ∃ P, P = 2 ^ r := ⟨_, rfl⟩
  obtain ⟨Q, hQ⟩ : ∃ Q, Q = 2 ^ (32 - r) := ⟨_, rfl⟩
  rw [← hP, ← hQ] at e
  rw [← hP] at hp
  rw [← hP, ← hQ]
  have h1 : (hi * 4294967296 + lo) / P = hi * Q + lo / P := by
    rw [show hi * 4294967296 = P * (hi * Q) by rw [e, Nat.mul_left_comm], Nat.mul_add_div hp]
  have h2 : lo / P < Q := by
    rw [Nat.div_lt_iff_lt_mul hp, Nat.mul_comm, ← e]; exact hl
  have h0 := Nat.div_add_mod hi P
  have h3 : hi * Q = 4294967296 * (hi / P) + hi % P * Q := by
    conv => lhs; rw [← h0]
    rw [Nat.add_mul, e]
    congr 1
    simp only [Nat.mul_comm, Nat.mul_left_comm]
  have h4 : hi % P < P := Nat.mod_lt _ hp
  have h5 : (hi % P + 1) * Q ≤ P * Q := Nat.mul_le_mul_right _ h4
  rw [← e, Nat.add_mul] at h5
  rw [h1, h3, Nat.add_assoc, Nat.mul_add_mod]
  apply Nat.mod_eq_of_lt
  omega

theorem ref_shr_next {z B hi lo V r : Nat} (hr : r < 32) (hl : lo < 4294967296) (hv : z + B * (lo / 2 ^ r) = V / 2 ^ r) :
    z + B * (((hi * 4294967296 + lo) / 2 ^ r) % 4294967296) + B * 4294967296 * (hi / 2 ^ r) = (V + B * 4294967296 * hi) / 2 ^ r := by
  rw [ref_shr_word hr hl]
  have e : (4294967296 : Nat) = 2 ^ r * 2 ^ (32 - r) := by
    rw [← Nat.pow_add, show r + (32 - r) = 32 by omega]
  have hp : 0 < 2 ^ r := Nat.two_pow_pos r
  obtain ⟨P, hP⟩ : ∃ P, P = 2 ^ r := ⟨_, rfl⟩
  obtain ⟨Q, hQ⟩ : ∃ Q, Q = 2 ^ (32 - r) := ⟨_, rfl⟩
  rw [← hP, ← hQ] at e
  rw [← hP] at hp hv
  rw [← hP, ← hQ]
  have h0 := Nat.div_add_mod hi P
  obtain ⟨d, hd⟩ : ∃ d, d = hi / P := ⟨_, rfl⟩
  obtain ⟨m, hm⟩ : ∃ m, m = hi % P := ⟨_, rfl⟩
  rw [← hd, ← hm] at h0
  rw [← hd, ← hm]
  rw [show B * 4294967296 * hi = P * (B * Q * hi) by rw [e]; simp only [Nat.mul_comm, Nat.mul_left_comm], Nat.add_mul_div_left _ _ hp, ← hv, ← h0, e]
  rw [Nat.mul_add, Nat.mul_add]
  have h1 : B * (m * Q) = B * Q * m := by simp only [Nat.mul_comm, Nat.mul_left_comm]
  have h2 : B * (P * Q) * d = B * Q * (P * d) := by simp only [Nat.mul_comm, Nat.mul_left_comm]
  rw [h1, h2]
  omega

theorem ref_shr_step {A zs : List Nat} {k r : Nat} (hr : r < 32) (hA : Nl.Small A) (hl : zs.length = k)
    (hv : Nl.val zs + 4294967296 ^ k * (A.getD k 0 / 2 ^ r) = Nl.val (A.take (k + 1)) / 2 ^ r) :
    Nl.val (zs ++ [((A.getD (k + 1) 0 * 4294967296 + A.getD k 0) / 2 ^ r) % 4294967296]) + 4294967296 ^ (k + 1) * (A.getD (k + 1) 0 / 2 ^ r) = Nl.val (A.take (k + 1 + 1)) / 2 ^ r := by
  rw [val_snoc, hl, Nl.val_take_next A (k + 1), Nat.pow_succ]
  exact ref_shr_next hr (hA.getD k) hv

theorem ref_shr_first {A : List Nat} {r : Nat} : Nl.val ([] : List Nat) + 4294967296 ^ 0 * (A.getD 0 0 / 2 ^ r) = Nl.val (A.take (0 + 1)) / 2 ^ r := by
  rw [Nl.val_take_next A 0]
  simp

set_option maxHeartbeats 2000000 in
theorem refShr_any (va : Value) (m n : Nat) (w : World) (ha : At w va (Nl.limbs m)) (hla : (Nl.limbs m).length ≤ 900000) (hn : n ≤ 9223372036854775807) :
    Calls Tryz.prog 209 #[va, .int .i64 n] w fun e w' => (∃ v, e = .returned v ∧ IsN w' v (m / 2 ^ n)) ∧ Below w.heap.size w w' := by
  obtain ⟨i0, hi, hz0, hz1, hz2⟩ := info_parts infoWord4
  have HI := Lib.hid (And.intro hi (And.intro hz0 (And.intro hz1 hz2)))
  have HA := Lib.hid ha
  obtain ⟨a, ca, rfl, -⟩ := ha.form
  clear ha hi hz0 hz1 hz2
  obtain ⟨q, hq⟩ : ∃ q, q = n / 32 := ⟨_, rfl⟩
  obtain ⟨r, hr⟩ : ∃ r, r = n % 32 := ⟨_, rfl⟩
  have hr32 : r < 32 := by omega
  have q1 : (n : Int) / 32 = (q : Int) := by omega
  have r1 : (n : Int) % 32 = (r : Int) := by omega
  have hqb : q ≤ 9223372036854775807 := by omega
  have HN := Lib.hid (show n = 32 * q + r from by omega)
  clear hq hr
  by_cases hql : (Nl.limbs m).length ≤ q
  · have e0 : decide ((Nl.limbs m).length ≤ q) = true := decide_eq_true hql
    have hz : m / 2 ^ n = 0 := by
      apply Nat.div_eq_of_lt
      refine Nat.lt_of_lt_of_le (Nl.lt_limbs m) ?_
      rw [pow32]
      exact Nat.pow_le_pow_right (by decide) (by rw [HN.out]; omega)
    rw [hz]
    clear hz hn
    go_enter Tryz.func209, Tryz.ntmps209
    go_wp2_with fail
    go_ret
    exact ⟨⟨_, rfl, .inl ⟨rfl, Nl.limbs_zero⟩⟩, Below.refl _ _⟩
  · have e0 : decide ((Nl.limbs m).length ≤ q) = false := decide_eq_false hql
    have hA : Nl.Small ((Nl.limbs m).drop q) := (Nl.limbs_small m).drop q
    have HS := Lib.hid hA
    obtain ⟨A, hAe⟩ : ∃ A, A = (Nl.limbs m).drop q := ⟨_, rfl⟩
    have HAE := Lib.hid hAe
    clear hA hAe hn
    go_enter Tryz.func209, Tryz.ntmps209
    go_wp2_with fail
    go_loopw [5, 6] (fun v i wr => ∃ (K k : Nat) (zs : List Nat), Hid (K = q + k) ∧ K ≤ (Nl.limbs m).length ∧ i = .int .i64 K ∧ zs.length = k ∧ Hid (Nl.Small zs) ∧ Hid (wr.ownsRow w.heap.size 77 1 v k (vals zs)) ∧ Hid (Below w.heap.size w wr) ∧
        Hid (Nl.val zs + 4294967296 ^ k * (A.getD k 0 / 2 ^ r) = Nl.val (A.take (k + 1)) / 2 ^ r)) (fun _ i _ => ((Nl.limbs m).length - (intOf i).toNat))
    case atStart => exact ⟨q, 0, [], rfl, by omega, rfl, rfl, Nl.small_nil, World.ownsRow_nil _ _ _ _, Below.refl _ _, ref_shr_first⟩
    case round =>
      obtain ⟨K, k, zs, HKK, hK, rfl, hlz, hsm, ho, hbel, hv⟩ := hrel
      have hkm : k ≤ K := by have := HKK.out; omega
      by_cases hlt : K < (Nl.limbs m).length
      · have t1 : decide (K < (Nl.limbs m).length) = true := decide_eq_true hlt
        have hgd : ∀ j, A.getD j 0 = (Nl.limbs m).getD (q + j) 0 := fun j => by rw [HAE.out]; simp [List.getD_eq_getElem?_getD]
        obtain ⟨lo, hlo⟩ : ∃ x, x = A.getD k 0 := ⟨_, rfl⟩
        obtain ⟨hi, hhi⟩ : ∃ x, x = A.getD (k + 1) 0 := ⟨_, rfl⟩
        have hlo2 : lo < 4294967296 := by rw [hlo, HAE.out]; exact HS.out.getD k
        have hhi2 : hi < 4294967296 := by rw [hhi, HAE.out]; exact HS.out.getD (k + 1)
        have hcl := at_any _ _ K wr (HA.out.below hbel.out) (Nl.limbs_small m)
        have hch := at_any _ _ (K + 1) wr (HA.out.below hbel.out) (Nl.limbs_small m)
        have hKk := HKK.out
        rw [hKk, ← hgd, ← hlo, ← hKk] at hcl
        rw [show K + 1 = q + (k + 1) by omega, ← hgd, ← hhi, show q + (k + 1) = K + 1 by omega] at hch
        have hch' : Calls Tryz.prog 148 #[Value.slice a (Nl.limbs m).length ca, .int .i64 ((K : Int) + 1)] wr fun e w' => e = .returned (.int .u64 ((hi : Nat) : Int)) ∧ wr = w' := hch
        have HCL := Lib.hid hcl
        have HCH := Lib.hid hch'
        have HX := Lib.hid (And.intro hlo hhi)
        clear hcl hch hch' hlo hhi hgd hKk
        have e1 : ((hi : Int) * 4294967296 + lo) / 2 ^ r % 4294967296 = ((((hi * 4294967296 + lo) / 2 ^ r) % 4294967296 : Nat) : Int) := by
          rw [Int.natCast_emod, Int.natCast_ediv, Int.natCast_add, Int.natCast_mul, Int.natCast_pow]; rfl
        have HE := Lib.hid e1
        clear e1
        go_wp2_with (first
          | (go_at_call_of 148 (Value.int IntKind.i64 (K : Int)); refine HCL.out.mono ?_; rintro e w' ⟨rfl, rfl⟩)
          | (go_at_call 148; refine HCH.out.mono ?_; rintro e w' ⟨rfl, rfl⟩)
          | (at_builtin; refine wpList_append_own _ rfl (.tmp 33) (.tmp 36) 23 rfl w.heap.size 77 i0 (.int .u32 0) 1 4 Tryz.underlying23 HI.out.1 HI.out.2.1 HI.out.2.2.1 HI.out.2.2.2 rfl (by decide) _ k (vals zs) rfl (ho.out.alloc _) ⟨wr.heap.size, 0, none⟩ 1 1 [.int .u32 (((hi : Int) * 4294967296 + lo) / 2 ^ r % 4294967296)] rfl rfl ?_ ?_ ?_ ?_ ?_ ?_))
        · intro j u hj
          exact one_new_cell hj
        · intro u hu
          simp at hu
          rw [hu]; rfl
        · simp only [maxLen]; omega
        · omega
        · have := hbel.out.size; simp; omega
        intro v' w1 ho' hg' _
        rw [HE.out, ← vals_snoc] at ho'
        have hbel' := grow_below hbel.out ho.out hg'
        have HO := Lib.hid ho'
        have HBel := Lib.hid hbel'
        clear ho' hg' hbel' ho
        go_wp2_with fail
        go_roundw
        case rel =>
          refine ⟨K + 1, k + 1, _, by rw [Hid, HKK.out]; omega, by omega, by go_num, ?_, ?_, HO.out, HBel.out, ?_⟩
          · simp [hlz]
          · exact small_snoc hsm.out (Nat.mod_lt _ (by decide))
          · rw [HX.out.1, HX.out.2]
            exact ref_shr_step hr32 (by rw [HAE.out]; exact HS.out) hlz hv.out
        case measure => simp [intOf] <;> omega
      · have t1 : decide (K < (Nl.limbs m).length) = false := decide_eq_false hlt
        have ho1 := ho.out
        rw [← hlz] at ho1
        have htr := refTrim_owns w.heap.size _ zs wr ho1 (by omega)
        have hend : Nl.trim zs = Nl.limbs (m / 2 ^ n) := by
          rw [Nl.trim_eq hsm.out]
          congr 1
          have h1 := hv.out
          have hkl : A.length ≤ k := by rw [HAE.out, List.length_drop]; have := HKK.out; omega
          rw [Nl.getD_ge hkl, Nat.zero_div, Nat.mul_zero, Nat.add_zero, List.take_of_length_le (by omega), HAE.out, Nl.limbs_drop, Nl.val_limbs] at h1
          rw [h1, Nat.div_div_eq_div_mul, pow32, ← Nat.pow_add, HN.out]
        rw [hend] at htr
        have HT := Lib.hid htr
        clear ho1 htr hend
        go_wp2_with fail
        refine HT.out.mono ?_
        rintro e w2 ⟨⟨u, rfl, hu⟩, hb2⟩
        have HU := Lib.hid hu
        have HB2 := Lib.hid (hbel.out.trans (hb2.mono hbel.out.size))
        clear hu hb2
        go_wp2_with fail
        go_ret
        exact ⟨⟨u, rfl, HU.out.at⟩, HB2.out⟩
end Go.Proofs.YtodjncohhgknlaaGreat

namespace Go.Proofs.YtodjncohhgknlaaGreat
open Go.RowKit

theorem below_alloc (w : World) (o : Obj) : Below w.heap.size w (w.alloc o) := (Below.refl _ _).alloc (Nat.le_refl _) _
theorem make_words2 (t : TypeId) (ht : Tryz.prog.underlying t = some (.slice 77)) (w : World) (l c : Int) (p n : Nat) (hl : l = p) (hc : c = n) (hpn : p ≤ n) (h : n ≤ 70368744177664) :
    (Instr.makeSlice t (.int .i64 l) (.int .i64 c)).run Tryz.prog w = .ok (.slice (some ⟨w.heap.size, 0, none⟩) p n) (w.alloc (.cells (vals (Nl.zeros n)).toArray 77)) := by
  subst hc hl
  obtain ⟨i0, hi, hz0, hz1, hz2⟩ := info_parts infoWord
  have := run_make (P := Tryz.prog) w t 77 i0 (.int .u32 0) ht hi hz0 .i64 .i64 p n (by omega) (by omega) (by rw [hz2]; omega) (by omega)
  rw [this, hz1]
  simp only [Int.toNat_natCast]
  rw [made_zero]
theorem zeros_take (n k : Nat) (h : k ≤ n) : (Nl.zeros n).take k = Nl.zeros k := by
  simp only [Nl.zeros, List.take_replicate]
  rw [Nat.min_eq_left h]
theorem owns_made (w : World) (p n : Nat) (hpn : p ≤ n) (hn : n ≤ 1000000) :
    (w.alloc (.cells (vals (Nl.zeros n)).toArray 77)).ownsRow w.heap.size 77 1 (.slice (some ⟨w.heap.size, 0, none⟩) p n) p (vals (Nl.zeros p)) := by
  refine ⟨by rw [vals_length, Nl.zeros_length]; omega, .inr ⟨w.heap.size, n, _, rfl, Nat.le_refl _, heap_alloc_new _ _, hpn, by simp only [maxLen]; omega, ?_, ?_⟩⟩
  · rw [List.size_toArray, vals_length, Nl.zeros_length]; omega
  · rw [Nat.mul_one, List.toList_toArray, ← vals_take, zeros_take n p hpn]

/-- one word of a shift to the left -/
theorem ref_shl_step {xs zs : List Nat} {q r k d n x s : Nat} (hn : n = 32 * q + r) (hk : k < xs.length) (hx : x = xs.getD k 0) (hl : zs.length = q + k) (hs : s = x * 2 ^ r + d)
    (hv : Nl.val zs + 4294967296 ^ (q + k) * d = Nl.val (xs.take k) * 2 ^ n) :
    Nl.val (zs ++ [s % 4294967296]) + 4294967296 ^ (q + (k + 1)) * (s / 4294967296) = Nl.val (xs.take (k + 1)) * 2 ^ n := by
  rw [val_snoc, hl, Nl.val_take_succ _ _ hk, ← hx, Nat.add_mul, ← hv, ← Nat.add_assoc, Nat.pow_succ]
  have e : 4294967296 ^ k * x * 2 ^ n = 4294967296 ^ (q + k) * (x * 2 ^ r) := by
    rw [hn, Nat.pow_add 2, ← pow32, Nat.pow_add]
    simp only [Nat.mul_assoc, Nat.mul_comm, Nat.mul_left_comm]
  have h1 := Nat.mod_add_div s 4294967296
  have h2 : 4294967296 ^ (q + k) * (s % 4294967296) + 4294967296 ^ (q + k) * 4294967296 * (s / 4294967296) = 4294967296 ^ (q + k) * s := by
    rw [Nat.mul_assoc, ← Nat.mul_add, h1]
  rw [e]
  rw [hs, Nat.mul_add] at h2
  rw [hs]
  omega

set_option maxHeartbeats 2000000 in
theorem refShl_any (va : Value) (m n : Nat) (w : World) (ha : At w va (Nl.limbs m)) (hla : (Nl.limbs m).length ≤ 100000) (hn : m = 0 ∨ n ≤ 64000) :
    Calls Tryz.prog 132 #[va, .int .i64 n] w fun e w' => (∃ v, e = .returned v ∧ IsN w' v (m * 2 ^ n)) ∧ Below w.heap.size w w' := by
  obtain ⟨i0, hi, hz0, hz1, hz2⟩ := info_parts infoWord4
  have HI := Lib.hid (And.intro hi (And.intro hz0 (And.intro hz1 hz2)))
  have HA := Lib.hid ha
  obtain ⟨a, ca, rfl, fa⟩ := ha.form
  have FA := Lib.hid fa
  clear ha fa hi hz0 hz1 hz2
  by_cases hz : m = 0
  · have e0 : (((Nl.limbs m).length : Int) == 0) = true := by rw [hz, Nl.limbs_zero]; rfl
    have HZ := Lib.hid (show m * 2 ^ n = m by rw [hz, Nat.zero_mul])
    clear hz hn
    go_enter Tryz.func132, Tryz.ntmps132
    go_wp2_with fail
    go_ret
    exact ⟨⟨_, rfl, by rw [HZ.out]; exact HA.out⟩, Below.refl _ _⟩
  · have hlp := Nl.len_pos hz
    have e0 : (((Nl.limbs m).length : Int) == 0) = false := by rw [beq_eq_false_iff_ne]; omega
    have hn' : n ≤ 64000 := by rcases hn with h | h; exact absurd h hz; exact h
    obtain ⟨q, hq⟩ : ∃ q, q = n / 32 := ⟨_, rfl⟩
    obtain ⟨r, hr⟩ : ∃ r, r = n % 32 := ⟨_, rfl⟩
    have hr32 : r < 32 := by omega
    have q1 : (n : Int) / 32 = (q : Int) := by omega
    have r1 : (n : Int) % 32 = (r : Int) := by omega
    have hq2 : q ≤ 2000 := by omega
    have HN := Lib.hid (show n = 32 * q + r from by omega)
    have hmk := make_words2 23 Tryz.underlying23 w (q : Int) ((q : Int) + (Nl.limbs m).length + 1) q (q + (Nl.limbs m).length + 1) rfl (by omega) (by omega) (by omega)
    have hown := owns_made w q (q + (Nl.limbs m).length + 1) (by omega) (by omega)
    have HO0 := Lib.hid hown
    have HB0 := Lib.hid (below_alloc w (.cells (vals (Nl.zeros (q + (Nl.limbs m).length + 1))).toArray 77))
    obtain ⟨R, hR⟩ : ∃ R, R = 2 ^ r := ⟨_, rfl⟩
    have hR2 : R ≤ 2147483648 := by rw [hR]; exact Nat.pow_le_pow_right (by decide) (show r ≤ 31 by omega)
    have hRI : (2 : Int) ^ r = (R : Int) := by rw [hR, Int.natCast_pow]; rfl
    have HR := Lib.hid hR
    clear hz hn hq hr hown hR
    go_enter Tryz.func132, Tryz.ntmps132
    go_wp2_with fail
    clear hmk
    go_loopw [5, 6, 7] (fun v c i wr => ∃ (k d : Nat) (zs : List Nat), k ≤ (Nl.limbs m).length ∧ i = .int .i64 k ∧ c = .int .u64 (d : Int) ∧ d < 4294967296 ∧ Hid (zs.length = q + k) ∧ Hid (Nl.Small zs) ∧ Hid (wr.ownsRow w.heap.size 77 1 v (q + k) (vals zs)) ∧ Hid (Below w.heap.size w wr) ∧
        Hid (Nl.val zs + 4294967296 ^ (q + k) * d = Nl.val ((Nl.limbs m).take k) * 2 ^ n)) (fun _ _ i _ => ((Nl.limbs m).length - (intOf i).toNat))
    case atStart => exact ⟨0, 0, Nl.zeros q, by omega, rfl, rfl, by omega, by rw [Hid, Nl.zeros_length]; rfl, Nl.small_replicate _, HO0.out, HB0.out, by simp [Hid, Nl.val_replicate]⟩
    case round =>
      obtain ⟨k, d, zs, hk, rfl, rfl, hd, hlz, hsm, ho, hbel, hv⟩ := hrel
      by_cases hlt : k < (Nl.limbs m).length
      · rcases FA.out with fa | ⟨ba, oa, rfl, -, hca, -, hba, hcx⟩
        · rw [fa] at hlt; simp at hlt
        obtain ⟨x, hx⟩ : ∃ x, x = (Nl.limbs m).getD k 0 := ⟨_, rfl⟩
        have hx2 : x < 4294967296 := by rw [hx]; exact (Nl.limbs_small m).getD k
        have cx : wr.cell? ⟨ba, oa + k, none⟩ = some (.int .u32 (x : Int)) := by rw [hx]; exact (hbel.out.cell (p := ⟨ba, oa + k, none⟩) hba).trans (hcx k hlt)
        have hp : x * R ≤ 4294967295 * 2147483648 := Nat.mul_le_mul (by omega) hR2
        obtain ⟨p, hpp⟩ : ∃ p, p = x * R := ⟨_, rfl⟩
        have hpi : (x : Int) * (R : Int) = (p : Int) := by rw [hpp, Int.natCast_mul]
        rw [← hpp] at hp
        have Hx := Lib.hid hx
        have Hp := Lib.hid hpp
        have e1 : ((p : Int) + d) % 4294967296 = (((p + d) % 4294967296 : Nat) : Int) := by omega
        have e2 : ((p : Int) + d) / 4294967296 = (((p + d) / 4294967296 : Nat) : Int) := by omega
        have HE := Lib.hid (And.intro e1 e2)
        clear hx hcx hpp e1 e2
        go_wp2_with (at_builtin; refine wpList_append_own _ rfl (.tmp 38) (.tmp 41) 23 rfl w.heap.size 77 i0 (.int .u32 0) 1 4 Tryz.underlying23 HI.out.1 HI.out.2.1 HI.out.2.2.1 HI.out.2.2.2 rfl (by decide) _ (q + k) (vals zs) rfl (ho.out.alloc _) ⟨wr.heap.size, 0, none⟩ 1 1 [.int .u32 (((p : Int) + d) % 4294967296)] rfl rfl ?_ ?_ ?_ ?_ ?_ ?_)
        · intro j u hj
          exact one_new_cell hj
        · intro u hu
          simp at hu
          rw [hu]; rfl
        · simp only [maxLen]; omega
        · omega
        · have := hbel.out.size; simp; omega
        intro v' w1 ho' hg' _
        rw [HE.out.1, ← vals_snoc] at ho'
        have hbel' := grow_below hbel.out ho.out hg'
        have HO := Lib.hid ho'
        have HBel := Lib.hid hbel'
        clear ho' hg' hbel' ho
        go_wp2_with fail
        go_roundw
        case rel =>
          refine ⟨k + 1, (p + d) / 4294967296, zs ++ [(p + d) % 4294967296], by omega, by go_num, by rw [← HE.out.2], by omega, ?_, small_snoc hsm.out (Nat.mod_lt _ (by decide)), HO.out, HBel.out, ?_⟩
          · rw [Hid, List.length_append, hlz.out]; rfl
          · exact ref_shl_step HN.out hlt Hx.out hlz.out (by rw [Hp.out, HR.out]) hv.out
        case measure => simp [intOf] <;> omega
      · have hkl : k = (Nl.limbs m).length := by omega
        have HK := Lib.hid hkl
        have e1 : (d : Int) % 4294967296 = (d : Int) := by omega
        have HE := Lib.hid e1
        clear e1 hkl
        have t1 : decide (k < (Nl.limbs m).length) = false := decide_eq_false hlt
        go_wp2_with (at_builtin; refine wpList_append_own _ rfl (.tmp 45) (.tmp 48) 23 rfl w.heap.size 77 i0 (.int .u32 0) 1 4 Tryz.underlying23 HI.out.1 HI.out.2.1 HI.out.2.2.1 HI.out.2.2.2 rfl (by decide) _ (q + k) (vals zs) rfl (ho.out.alloc _) ⟨wr.heap.size, 0, none⟩ 1 1 [.int .u32 (d : Int)] rfl rfl ?_ ?_ ?_ ?_ ?_ ?_)
        · intro j u hj
          exact one_new_cell hj
        · intro u hu
          simp at hu
          rw [hu]; rfl
        · simp only [maxLen]; omega
        · omega
        · have := hbel.out.size; simp; omega
        intro v' w1 ho' hg' _
        rw [← vals_snoc] at ho'
        have hbel' := grow_below hbel.out ho.out hg'
        have hl1 : q + k + 1 = (zs ++ [d]).length := by rw [List.length_append, hlz.out]; rfl
        rw [hl1] at ho'
        have htr := refTrim_owns w.heap.size _ (zs ++ [d]) w1 ho' (by rw [← hl1]; omega)
        have hend : Nl.trim (zs ++ [d]) = Nl.limbs (m * 2 ^ n) := by
          rw [Nl.trim_eq (small_snoc hsm.out hd), val_snoc, hlz.out, hv.out, HK.out, List.take_of_length_le (Nat.le_refl _), Nl.val_limbs]
        rw [hend] at htr
        have HT := Lib.hid htr
        have HBel := Lib.hid hbel'
        clear ho' hg' hbel' ho htr hend hl1
        go_wp2_with fail
        refine HT.out.mono ?_
        rintro e w2 ⟨⟨u, rfl, hu⟩, hb2⟩
        have HU := Lib.hid hu
        have HB2 := Lib.hid (HBel.out.trans (hb2.mono HBel.out.size))
        clear hu hb2
        go_wp2_with fail
        go_ret
        exact ⟨⟨u, rfl, HU.out.at⟩, HB2.out⟩
end Go.Proofs.YtodjncohhgknlaaGreat

namespace Go.Proofs.YtodjncohhgknlaaGreat
open Go.RowKit

theorem refBits_any (va : Value) (m : Nat) (w : World) (ha : IsN w va m) (hl : (Nl.limbs m).length ≤ 1000000) :
    Calls Tryz.prog 73 #[va] w fun e w' => e = .returned (.int .i64 (nbits m : Nat)) ∧ w = w' := by
  by_cases h0 : m = 0
  · subst h0
    rw [IsN, Nl.limbs_zero] at ha
    obtain ⟨a, ca, rfl, -⟩ := ha.form
    go_enter Tryz.func73, Tryz.ntmps73
    go_wp2
    go_ret
    exact ⟨rfl, rfl⟩
  · obtain ⟨k, x, hk, ex, hx0, hw, hn⟩ := top_word h0
    rcases ha with ⟨rfl, h⟩ | ⟨b, off, cap, rfl, -, hc, hm, hb, hx⟩
    · rw [h] at hk; simp at hk
    have c0 := hx k (by omega)
    rw [ex] at c0
    rw [hk] at hc hl ⊢
    have hb8 : Lib.bitLen x ≤ 32 := Lib.bitLen_le x 32 (by omega) (by omega)
    have HN := Lib.hid hn
    clear hx hn ex h0 hx0 hk
    have t0 : (((k : Int) + 1) == 0) = false := by rw [beq_eq_false_iff_ne]; omega
    go_enter Tryz.func73, Tryz.ntmps73
    go_wp2_with fail
    go_loopw [4, 5] (fun b y wr => ∃ B Y : Nat, b = .int .i64 B ∧ y = .int .u32 Y ∧ Y < 4294967296 ∧ B ≤ 32 * k + 32 ∧ Hid (B + Lib.bitLen Y = nbits m) ∧ wr = w) (fun _ y _ => (intOf y).toNat)
    case atStart => exact ⟨32 * k, x, by go_num, rfl, hw, by omega, HN.out.symm, rfl⟩
    case round =>
      obtain ⟨B, Y, rfl, rfl, hY, hB, hv, rfl⟩ := hrel
      by_cases hy0 : Y = 0
      · have t1 : decide ((Y : Int) > 0) = false := decide_eq_false (by omega)
        have t2 : decide (0 < Y) = false := decide_eq_false (by omega)
        have HR := Lib.hid (show B = nbits m by
          have h1 := hv.out
          rw [hy0] at h1
          exact h1)
        clear hy0
        go_wp2_with fail
        go_ret
        exact ⟨ret_int (by rw [HR.out]), rfl⟩
      · have t1 : decide ((Y : Int) > 0) = true := decide_eq_true (by omega)
        have t2 : decide (0 < Y) = true := decide_eq_true (by omega)
        have h3 := Lib.bitLen_half Y hy0 (by omega)
        have h4 : Lib.bitLen Y ≤ 32 := Lib.bitLen_le Y 32 (by omega) (by omega)
        have HR := Lib.hid (show B + 1 + Lib.bitLen (Y / 2) = nbits m by have := hv.out; omega)
        have hB2 : B + 1 ≤ 32 * k + 32 := by
          have h5 := hv.out
          have h6 := HN.out
          omega
        clear h3 h4
        go_wp2_with fail
        go_roundw
        case rel => exact ⟨B + 1, Y / 2, by go_num, by go_num, by omega, hB2, HR.out, trivial⟩
        case measure => simp [intOf] <;> omega
end Go.Proofs.YtodjncohhgknlaaGreat

namespace Go.Proofs.YtodjncohhgknlaaGreat
open Go.RowKit

end Go.Proofs.YtodjncohhgknlaaGreat

namespace Go.Proofs.YtodjncohhgknlaaGreat
open Go.RowKit

theorem vals_set (xs : List Nat) (k y : Nat) : vals (xs.set k y) = (vals xs).set k (.int .u32 (y : Int)) := by simp [vals, List.map_set]

set_option maxHeartbeats 1000000 in
theorem divide_own (base g n cap d : Nat) (Z : List Nat) (w : World) (hn : Z.length = n) (hr : w.ownsRow base 77 1 (.slice (some ⟨g, 0, none⟩) n cap) n (vals Z)) (hZ : Nl.Small Z) (hzl : n ≤ cap) (hcap : cap ≤ 9223372036854775807) (hd : 0 < d) (hd2 : d < 4294967296) :
    Calls Tryz.prog 291 #[.slice (some ⟨g, 0, none⟩) n cap, .int .u32 d] w fun e w' => e = .returned (.int .u32 ((Nl.val Z % d : Nat) : Int)) ∧
      ∃ Z', w'.ownsRow base 77 1 (.slice (some ⟨g, 0, none⟩) n cap) n (vals Z') ∧ Only g w w' ∧ Z'.length = n ∧ Nl.Small Z' ∧ Nl.val Z' = Nl.val Z / d := by
  have hM := Lib.hid (show w.ownsRow base 77 1 (.slice (some ⟨g, 0, none⟩) n cap) n (vals Z) ∧ Only g w w from ⟨hr, Only.refl g w⟩)
  have HNN := Lib.hid hn
  clear hr hn
  go_enter Tryz.func291, Tryz.ntmps291
  go_wp2
  go_loopw [5, 6] (fun c i wr => ∃ (k r : Nat) (Z' : List Nat), k ≤ n ∧ i = .int .i64 ((k : Int) - 1) ∧ c = .int .u64 (r : Int) ∧ r < d ∧ Hid (wr.ownsRow base 77 1 (.slice (some ⟨g, 0, none⟩) n cap) n (vals Z') ∧ Only g w wr) ∧ Hid (Z'.length = n) ∧ Hid (Nl.Small Z') ∧ Hid (Z'.take k = Z.take k) ∧
      Hid (Nl.val (Z.drop k) = d * Nl.val (Z'.drop k) + r)) (fun _ i _ => (intOf i + 1).toNat)
  case atStart => exact ⟨n, 0, Z, Nat.le_refl _, rfl, rfl, hd, hM, HNN, hZ, rfl, by rw [Hid, List.drop_of_length_le (by rw [HNN.out]; omega)]; simp⟩
  case round =>
    obtain ⟨k, r, Z', hk, rfl, rfl, hrd, hm, hlen, hsm, htk, hv⟩ := hrel
    cases k with
    | zero =>
      go_wp2
      go_ret
      have hv := hv.out
      rw [List.drop_zero, List.drop_zero] at hv
      refine ⟨ret_int ?_, Z', hm.out.1, hm.out.2, hlen.out, hsm.out, ?_⟩
      · rw [hv, Nat.mul_add_mod, Nat.mod_eq_of_lt hrd]
      · rw [hv, Nat.mul_add_div hd, Nat.div_eq_of_lt hrd, Nat.add_zero]
    | succ k =>
      rw [show ((k + 1 : Nat) : Int) - 1 = (k : Int) from by omega]
      obtain ⟨x, hx⟩ : ∃ x, x = Z'.getD k 0 := ⟨_, rfl⟩
      have hx2 : x < 4294967296 := by rw [hx]; exact hsm.out.getD k
      have cx := (hm.out.1.cellAt k (by omega)).trans (vals_get (by rw [hlen.out]; omega))
      rw [← hx] at cx
      have fx := hm.out.1.frozenAt k
      have Hx := Lib.hid hx
      clear hx
      obtain ⟨s, hs⟩ : ∃ s, s = r * 4294967296 + x := ⟨_, rfl⟩
      have hb : bits BinOp.or IntKind.u64 ((r : Int) * 4294967296) (x : Int) = (s : Int) := by
        rw [show (r : Int) * 4294967296 = ((r * 4294967296 : Nat) : Int) from by omega, u64_or_nat _ _ (by omega) (by omega), nat_join 32 _ _ (by omega) (by omega), hs]
      have hs1 : s < 18446744073709551616 := by omega
      have hq : s / d < 4294967296 := Nat.div_lt_of_lt_mul (by
        have : (r + 1) * 4294967296 ≤ d * 4294967296 := Nat.mul_le_mul_right _ hrd
        omega)
      have hdz : ¬ ((d : Int) = 0) := by omega
      have hw : IntKind.u64.wrap ((s : Int) / (d : Int)) % 4294967296 = ((s / d : Nat) : Int) := by
        rw [IntKind.wrap_u64, show (s : Int) / (d : Int) = ((s / d : Nat) : Int) from rfl]
        generalize s / d = q at hq ⊢
        omega
      have HW := Lib.hid hw
      clear hw
      have HS := Lib.hid hs
      have HQ := Lib.hid hq
      clear hs hq
      go_wp2
      go_roundw
      case rel =>
        rw [HW.out, show (s : Int) % (d : Int) = ((s % d : Nat) : Int) from rfl]
        have hkl : k < Z'.length := by rw [hlen.out]; omega
        refine ⟨k, s % d, Z'.set k (s / d), by omega, rfl, rfl, Nat.mod_lt _ hd, ?_, ?_, ?_, ?_, ?_⟩
        · refine ⟨?_, grown_trans hm.out.2 (Only.setCell g _ _ _)⟩
          rw [vals_set]; exact (hm.out.1.stored _ _).1
        · rw [Hid, List.length_set]; exact hlen.out
        · exact hsm.out.set _ HQ.out
        · rw [Hid, List.take_set_of_le (Nat.le_refl k)]
          have := congrArg (List.take k) htk.out
          rw [List.take_take, List.take_take, Nat.min_eq_left (by omega)] at this
          exact this
        · have hzx : Z.getD k 0 = x := by
            have := congrArg (fun l : List Nat => l.getD k 0) htk.out
            simp only [List.getD_eq_getElem?_getD, List.getElem?_take] at this
            rw [if_pos (by omega), if_pos (by omega)] at this
            rw [Hx.out]
            simpa using this.symm
          rw [Hid, Nl.val_drop_succ _ _ (by rw [HNN.out]; omega), hzx, Nl.val_drop_succ (Z'.set k (s / d)) _ (by rw [List.length_set]; exact hkl), Nl.drop_set_succ, HS.out]
          rw [show (Z'.set k ((r * 4294967296 + x) / d)).getD k 0 = (r * 4294967296 + x) / d from by simp [hkl]]
          exact div_step hv.out
      case measure => simp [intOf] <;> omega


theorem owns_short {base : Nat} {w : World} {g n cap : Nat} {xs : List Nat} (h : w.ownsRow base 77 1 (.slice (some ⟨g, 0, none⟩) n cap) n (vals xs)) (k : Nat) (hk : k ≤ n) :
    w.ownsRow base 77 1 (.slice (some ⟨g, 0, none⟩) k cap) k (vals (xs.take k)) := by
  have hl := h.1
  rw [vals_length] at hl
  rcases h.2 with ⟨h', _⟩ | ⟨g', cap', cur, h', hb, hg, hnc, hcm, hcs, htake⟩
  · simp at h'
  · simp only [Value.slice.injEq, Option.some.injEq, Addr.mk.injEq, and_true, true_and] at h'
    obtain ⟨rfl, rfl⟩ := h'
    refine ⟨by rw [vals_length, List.length_take]; omega, .inr ⟨g, cap, cur, rfl, hb, hg, by omega, hcm, hcs, ?_⟩⟩
    rw [vals_take, ← htake, List.take_take, Nat.min_eq_left (by omega), Nat.mul_one]
theorem owns_slice {base : Nat} {w : World} {v : Value} {n : Nat} {L : List Value} {e : TypeId} (h : w.ownsRow base e 1 v n L) (hn : 0 < n) : ∃ g cap, v = .slice (some ⟨g, 0, none⟩) n cap ∧ base ≤ g ∧ g < w.heap.size ∧ n ≤ cap ∧ cap ≤ 9223372036854775807 := by
  rcases h.2 with ⟨_, h'⟩ | ⟨g', cap', cur, rfl, hb, hg, hnc, hcm, _⟩
  · omega
  · exact ⟨g', cap', rfl, hb, lt_of_block hg, hnc, by simp only [maxLen] at hcm; omega⟩

end Go.Proofs.YtodjncohhgknlaaGreat

namespace Go.Proofs.YtodjncohhgknlaaGreat
open Go.RowKit

/-- the bytes of a string, as numbers -/
def dl (bs : ByteArray) : List Nat := bs.data.toList.map UInt8.toNat
theorem dl_length (bs : ByteArray) : (dl bs).length = bs.size := by rw [dl, List.length_map, Lib.size_eq]
theorem dl_get (bs : ByteArray) (k : Nat) (h : k < bs.size) : bs[k].toNat = (dl bs).getD k 0 := by
  have h2 : k < bs.data.toList.length := by rw [← Lib.size_eq]; exact h
  have h3 : k < (dl bs).length := by rw [dl_length]; exact h
  rw [Nl.getD_lt h3]
  simp only [dl, List.getElem_map]
  rfl
theorem dl_drop (bs : ByteArray) (k : Nat) : dl (bs.extract k bs.size) = (dl bs).drop k := by
  rw [dl, Lib.extract_data, dl, ← List.map_drop]
  congr 1
  rw [List.take_of_length_le]
  rw [List.length_drop, Lib.size_eq]
  exact Nat.le_refl _
theorem dl_inj {l m : List UInt8} (h : l.map UInt8.toNat = m.map UInt8.toNat) : l = m :=
  (List.map_inj_right (fun a b hab => UInt8.toNat_inj.1 hab)).1 h
theorem dl_48 (bs : ByteArray) : (bs.toList == [48]) = decide (dl bs = [48]) := by
  rw [Lib.toList_data, Bool.eq_iff_iff, beq_iff_eq, decide_eq_true_eq]
  constructor
  · intro h; rw [dl, h]; rfl
  · intro h; exact dl_inj (show bs.data.toList.map UInt8.toNat = [48].map UInt8.toNat from h)
theorem dl_nil (bs : ByteArray) : bs.toList.isEmpty = decide (dl bs = []) := by
  rw [Lib.toList_data, Bool.eq_iff_iff, List.isEmpty_iff, decide_eq_true_eq]
  constructor
  · intro h; rw [dl, h]; rfl
  · intro h; simpa [dl] using h

def isDig (d : Nat) : Bool := decide (48 ≤ d) && decide (d ≤ 57)
/-- do these bytes stand for a number? -/
def isNum (l : List Nat) : Bool := l.all isDig && (decide (l = [48]) || (decide (l ≠ []) && decide (l.getD 0 0 ≠ 48)))

end Go.Proofs.YtodjncohhgknlaaGreat

namespace Go.Proofs.YtodjncohhgknlaaGreat
open Go.RowKit

theorem grow_base {base : Nat} {wr w1 : World} {v : Value} {o : Obj} {e : TypeId} {size n : Nat} {xs : List Value} (hb : base ≤ wr.heap.size) (ho : wr.ownsRow base e size v n xs) (hg : (wr.alloc o).grownBy w1 v.ownBlock) : Below base wr w1 := by
  have h1 : Below wr.heap.size wr (wr.alloc o) := (Below.refl _ _).alloc (Nat.le_refl _) _
  have h2 := h1.mono hb
  refine ⟨hg.os.trans h2.os, hg.tape.trans h2.tape, hg.output.trans h2.output, Nat.le_trans h2.size hg.size, fun q hq => ?_⟩
  rw [← h2.block q hq]
  refine hg.block q (Nat.lt_of_lt_of_le (Nat.lt_of_lt_of_le hq hb) h2.size) ?_
  obtain ⟨_, ⟨rfl, _⟩ | ⟨g, cap, cur, rfl, hbg, _⟩⟩ := ho
  · intro h; cases h
  · intro h
    have : q = g := by simpa [Value.ownBlock] using h
    omega

/-- one step of a product with a word -/
theorem ext_step {Z Z' : List Nat} {k d x y s : Nat} (hl : Z'.length = Z.length) (hk : k < Z.length) (hd : Z'.drop k = Z.drop k) (hs : s = x * Z'.getD k 0 + d)
    (hv : Nl.val (Z'.take k) + 4294967296 ^ k * d = x * Nl.val (Z.take k) + y) :
    Nl.val ((Z'.set k (s % 4294967296)).take (k + 1)) + 4294967296 ^ (k + 1) * (s / 4294967296) = x * Nl.val (Z.take (k + 1)) + y := by
  rw [Nl.val_take_set _ _ _ (by omega), Nl.val_take_succ _ _ hk, ← Nl.getD_of_drop hd, Nat.pow_succ, Nat.mul_assoc, Nat.add_assoc, ← Nat.mul_add, Nat.mod_add_div, hs]
  rw [Nat.mul_add, Nat.mul_add, Nat.mul_left_comm x]
  omega
/-- words whose number is not less than the last place are the number's own -/
theorem limbs_of_big {Z : List Nat} {m : Nat} (hs : Nl.Small Z) (h0 : 0 < Z.length) (hv : Nl.val Z = m) (hm : 4294967296 ^ (Z.length - 1) ≤ m) : Z = Nl.limbs m := by
  have hn : Nl.Norm Z := by
    refine ⟨hs, fun h => ?_⟩
    rw [getLast_getD h0] at h
    have hz : Z.getD (Z.length - 1) 0 = 0 := by simpa using h
    have h1 := Nl.val_take_succ Z (Z.length - 1) (by omega)
    rw [hz, Nat.mul_zero, Nat.add_zero, show Z.length - 1 + 1 = Z.length by omega, List.take_of_length_le (Nat.le_refl _)] at h1
    have h2 := Nl.val_lt (hs.take (Z.length - 1))
    rw [List.length_take, Nat.min_eq_left (by omega)] at h2
    omega
  rw [← hv, Nl.limbs_val hn]
theorem limbs_of_snoc {Z : List Nat} {d m : Nat} (hs : Nl.Small Z) (hd : d < 4294967296) (h0 : d ≠ 0) (hv : Nl.val Z + 4294967296 ^ Z.length * d = m) : Z ++ [d] = Nl.limbs m := by
  apply limbs_of_big (small_snoc hs hd) (by simp) (by rw [val_snoc, hv])
  rw [List.length_append, List.length_singleton, Nat.add_sub_cancel, ← hv]
  have : 4294967296 ^ Z.length * 1 ≤ 4294967296 ^ Z.length * d := Nat.mul_le_mul_left _ (Nat.pos_of_ne_zero h0)
  omega

end Go.Proofs.YtodjncohhgknlaaGreat

namespace Go.Proofs.YtodjncohhgknlaaGreat
open Go.RowKit

/-- the number that decimal digits stand for -/
def decL (l : List Nat) : Nat := l.foldl (fun a d => a * 10 + (d - 48)) 0
theorem foldl_dec (l : List Nat) (a : Nat) : l.foldl (fun a d => a * 10 + (d - 48)) a = a * 10 ^ l.length + decL l := by
  induction l generalizing a with
  | nil => simp [decL]
  | cons d l ih =>
    have e : decL (d :: l) = (d - 48) * 10 ^ l.length + decL l := by
      rw [show decL (d :: l) = l.foldl (fun a d => a * 10 + (d - 48)) (0 * 10 + (d - 48)) from rfl, ih, Nat.zero_mul, Nat.zero_add]
    rw [List.foldl_cons, ih, e, List.length_cons, Nat.pow_succ, Nat.add_mul, Nat.mul_assoc, Nat.mul_comm 10, Nat.add_assoc]
theorem decL_append (a b : List Nat) : decL (a ++ b) = 10 ^ b.length * decL a + decL b := by
  rw [decL, List.foldl_append, foldl_dec, Nat.mul_comm]; rfl
theorem decL_snoc (a : List Nat) (d : Nat) : decL (a ++ [d]) = decL a * 10 + (d - 48) := by
  rw [decL_append]; simp [decL, Nat.mul_comm]
theorem decL_lt {l : List Nat} (h : l.all isDig = true) : decL l < 10 ^ l.length := by
  induction l with
  | nil => simp [decL]
  | cons d l ih =>
    rw [List.all_cons, Bool.and_eq_true] at h
    have h1 := ih h.2
    have h2 : d ≤ 57 := by
      have := h.1
      simp [isDig] at this
      exact this.2
    rw [decL, List.foldl_cons, foldl_dec, List.length_cons, Nat.pow_succ]
    have h3 : (0 * 10 + (d - 48)) * 10 ^ l.length ≤ 9 * 10 ^ l.length := Nat.mul_le_mul_right _ (by omega)
    omega
theorem take_snoc_getD {l : List Nat} {k : Nat} (h : k < l.length) : l.take (k + 1) = l.take k ++ [l.getD k 0] := by
  rw [List.take_add_one, Nl.getD_lt h]; simp [h]

def strSize : Value → Nat
  | .string b => b.size
  | _ => 0
/-- what fromDigits gives -/
def FromOut (w w' : World) (e : Ending) (m : Nat) : Prop :=
  Below w.heap.size w w' ∧ (((Nl.limbs m).length ≤ 1024 ∧ ∃ v, e = .returned v ∧ IsN w' v m) ∨ (1024 < (Nl.limbs m).length ∧ e = .panicked [{ v := .iface 182 (.agg #[.int .i64 2, .int .i64 0]), recovered := false }]))

theorem pow10_le {c : Nat} (h : c ≤ 9) : 10 ^ c ≤ 1000000000 := Nat.pow_le_pow_right (by decide) (show c ≤ 9 from h)

end Go.Proofs.YtodjncohhgknlaaGreat

namespace Go.Proofs.YtodjncohhgknlaaGreat
open Go.RowKit

/-- the error of a text -/
def parseK (l : List Nat) : Int := if l.length ≤ 20000 then (if isNum l = true then (if (Nl.limbs (decL l)).length ≤ 1024 then 0 else 2) else 6) else 2

end Go.Proofs.YtodjncohhgknlaaGreat

namespace Go.Proofs.YtodjncohhgknlaaGreat
open Go.RowKit

theorem ref_step_next {xs zs : List Nat} {k c d s : Nat} (hk : k < xs.length) (hl : zs.length = k) (hs : s = 10 * xs.getD k 0 + c) (hv : Nl.val zs + 4294967296 ^ k * c = 10 * Nl.val (xs.take k) + d) :
    Nl.val (zs ++ [s % 4294967296]) + 4294967296 ^ (k + 1) * (s / 4294967296) = 10 * Nl.val (xs.take (k + 1)) + d := by
  rw [val_snoc, hl, Nl.val_take_succ _ _ hk, Nat.pow_succ]
  have h1 := Nat.mod_add_div s 4294967296
  have h2 : 4294967296 ^ k * (s % 4294967296) + 4294967296 ^ k * 4294967296 * (s / 4294967296) = 4294967296 ^ k * s := by
    rw [Nat.mul_assoc, ← Nat.mul_add, h1]
  rw [hs, Nat.mul_add] at h2
  rw [hs]
  have h3 : 10 * (4294967296 ^ k * xs.getD k 0) = 4294967296 ^ k * (10 * xs.getD k 0) := Nat.mul_left_comm _ _ _
  rw [Nat.mul_add, h3]
  omega

/-- what the reference's parser gives -/
def RefParsed (w w' : World) (e : Ending) (l : List Nat) : Prop :=
  (∃ v, e = .returned (.agg #[v, .int .i64 (parseK l)]) ∧ (parseK l = 0 → IsN w' v (decL l)) ∧ (parseK l ≠ 0 → v = .slice none 0 0)) ∧ Below w.heap.size w w'

theorem below_al (w : World) (o : Obj) : Below w.heap.size w (w.alloc o) := (Below.refl _ _).alloc (Nat.le_refl _) _
theorem box_set {w : World} {g : Nat} {T : TypeId} {a b : Value} (a' b' : Value) (h : w.heap[g]? = some (.cells #[a, b] T (0, 0))) : ((w.setCell ⟨g, 0, none⟩ a').setCell ⟨g, 1, none⟩ b').heap[g]? = some (.cells #[a', b'] T (0, 0)) := by
  have h1 := heap_setCell_same w g 0 _ _ a' h
  have h2 := heap_setCell_same _ g 1 _ _ b' h1
  exact h2
theorem at_box {w : World} {g : Nat} {T : TypeId} {p : Option Addr} {l c : Nat} {k : Int} {v : Value} {xs : List Nat} (a' b' : Value) (h : At w v xs) (hbx : w.heap[g]? = some (.cells #[.slice p l c, .int .i64 k] T (0, 0))) :
    At ((w.setCell ⟨g, 0, none⟩ a').setCell ⟨g, 1, none⟩ b') v xs := by
  rcases h with h | ⟨b, off, cap, h1, h2, h3, h4, h5, h6⟩
  · exact .inl h
  · refine .inr ⟨b, off, cap, h1, h2, h3, h4, by simpa [World.setCell] using h5, fun i hi => ?_⟩
    have hc := h6 i hi
    by_cases hb : b = g
    · subst hb
      rw [cell_of_row w b (off + i) _ _ _ hbx] at hc
      match hj : off + i with
      | 0 => rw [hj] at hc; simp at hc
      | 1 => rw [hj] at hc; simp at hc
      | j + 2 => rw [hj] at hc; simp at hc
    · have ho : Only g w ((w.setCell ⟨g, 0, none⟩ a').setCell ⟨g, 1, none⟩ b') := grown_trans (Only.setCell g 0 a' w) (Only.setCell g 1 b' _)
      exact ho.cell hc (by simpa using hb)
theorem parsed_box {bs : ByteArray} {w wr : World} {v : Value} {k : Int} (hb : Below w.heap.size w wr) (hk : parseK (dl bs) = k) (hv : k = 0 → IsN ((wr.setCell ⟨w.heap.size, 0, none⟩ v).setCell ⟨w.heap.size, 1, none⟩ (.int .i64 k)) v (decL (dl bs))) (hv2 : k ≠ 0 → v = .slice none 0 0) :
    RefParsed w ((wr.setCell ⟨w.heap.size, 0, none⟩ v).setCell ⟨w.heap.size, 1, none⟩ (.int .i64 k)) (.returned (.agg #[v, .int .i64 k])) (dl bs) :=
  ⟨⟨v, by rw [hk], fun h => hv (hk ▸ h), fun h => hv2 (hk ▸ h)⟩, (hb.setCell (p := ⟨w.heap.size, 0, none⟩) (Nat.le_refl _) _).setCell (p := ⟨w.heap.size, 1, none⟩) (Nat.le_refl _) _⟩

theorem isNum_false {l : List Nat} (h : l = [] ∨ (1 < l.length ∧ l.getD 0 0 = 48) ∨ l.all isDig = false) : isNum l = false := by
  rcases h with h | ⟨h1, h2⟩ | h
  · rw [h]; rfl
  · have h3 : l ≠ [48] := fun h => by rw [h] at h1; simp at h1
    rw [isNum, h2, decide_eq_false h3]; simp
  · rw [isNum, h]; rfl
theorem isNum_true {l : List Nat} (h0 : 0 < l.length) (h1 : ¬ (1 < l.length ∧ l.getD 0 0 = 48)) (h2 : l.all isDig = true) : isNum l = true := by
  rw [isNum, h2, Bool.true_and, Bool.or_eq_true]
  by_cases h : l.getD 0 0 = 48
  · left
    have hl : l.length = 1 := by
      apply Classical.byContradiction
      intro hc
      exact h1 ⟨by omega, h⟩
    obtain ⟨x, rfl⟩ := List.length_eq_one_iff.1 hl
    simp at h
    rw [h]; rfl
  · right
    have h3 : l ≠ [] := fun h => by rw [h] at h0; simp at h0
    rw [decide_eq_true h3, decide_eq_true h]; rfl

end Go.Proofs.YtodjncohhgknlaaGreat

namespace Go.Proofs.YtodjncohhgknlaaGreat
open Go.RowKit

theorem at_box2 {w : World} {g : Nat} {T : TypeId} {p p' : Option Addr} {l c l' c' : Nat} {v : Value} {xs : List Nat} (a' b' : Value) (h : At w v xs) (hbx : w.heap[g]? = some (.cells #[.slice p l c, .slice p' l' c'] T (0, 0))) :
    At ((w.setCell ⟨g, 0, none⟩ a').setCell ⟨g, 1, none⟩ b') v xs := by
  rcases h with h | ⟨b, off, cap, h1, h2, h3, h4, h5, h6⟩
  · exact .inl h
  · refine .inr ⟨b, off, cap, h1, h2, h3, h4, by simpa [World.setCell] using h5, fun i hi => ?_⟩
    have hc := h6 i hi
    by_cases hb : b = g
    · subst hb
      rw [cell_of_row w b (off + i) _ _ _ hbx] at hc
      match hj : off + i with
      | 0 => rw [hj] at hc; simp at hc
      | 1 => rw [hj] at hc; simp at hc
      | j + 2 => rw [hj] at hc; simp at hc
    · have ho : Only g w ((w.setCell ⟨g, 0, none⟩ a').setCell ⟨g, 1, none⟩ b') := grown_trans (Only.setCell g 0 a' w) (Only.setCell g 1 b' _)
      exact ho.cell hc (by simpa using hb)

theorem trim_result_own {w w1 : World} {v : Value} {xs ys : List Nat} {k : Nat} {row : Option Nat} (ho : w1.ownsRow w.heap.size 77 1 v k (vals (xs.take k))) (hg : (w.alloc (.cells #[] 77)).grownBy w1 row) (hrow : row = some w.heap.size) (hy : xs.take k = ys) (hk : k ≤ xs.length) :
    w1.ownsRow w.heap.size 77 1 v ys.length (vals ys) ∧ Below w.heap.size w w1 := by
  refine ⟨?_, (trim_result ho hg hrow hy hk).2⟩
  have hl : k = ys.length := by rw [← hy, List.length_take]; omega
  rw [hy, hl] at ho
  exact ho

set_option maxHeartbeats 1000000 in
/-- the same, told of the row that the result owns -/
theorem refTrim_row (b off cap : Nat) (xs : List Nat) (w : World) (h : Cells w b off xs) (hc : xs.length ≤ cap) (_hm : cap ≤ 9223372036854775807) (hb : b < w.heap.size) (hl : xs.length ≤ 1000000) :
    Calls Tryz.prog 147 #[.slice (some ⟨b, off, none⟩) xs.length cap] w fun e w' => (∃ v, e = .returned v ∧ w'.ownsRow w.heap.size 77 1 v (Nl.trim xs).length (vals (Nl.trim xs))) ∧ Below w.heap.size w w' := by
  obtain ⟨i0, hi, hz0, hz1, hz2⟩ := info_parts infoWord4
  have HI := Lib.hid (And.intro hi (And.intro hz0 (And.intro hz1 hz2)))
  have HC := Lib.hid h
  clear hi hz0 hz1 hz2 h
  go_enter Tryz.func147, Tryz.ntmps147
  go_wp2
  go_loop [3] (fun n => ∃ k : Nat, k ≤ xs.length ∧ n = .int .i64 k ∧ Hid (Nl.trim (xs.take k) = Nl.trim xs)) (fun n => (intOf n).toNat)
  case atStart => exact ⟨xs.length, Nat.le_refl _, rfl, by simp [Hid]⟩
  case round =>
    obtain ⟨k, hk, rfl, ht⟩ := hrel
    cases k with
    | zero =>
      have hz := Lib.hid (show Nl.trim xs = [] by have := ht.out; rw [List.take_zero] at this; rw [← this]; rfl)
      clear ht
      go_wp2
      go_ret
      rw [hz.out]
      exact ⟨⟨_, rfl, owns_empty w⟩, (Below.refl _ _).alloc (Nat.le_refl _) _⟩
    | succ k =>
      obtain ⟨x, hx⟩ : ∃ x, x = xs.getD k 0 := ⟨_, rfl⟩
      have hcell := HC.out k (by omega)
      rw [← hx] at hcell
      have Hx := Lib.hid hx
      clear hx
      by_cases hz : x = 0
      · have hz1 : ((x : Int) == 0) = true := by rw [beq_iff_eq]; omega
        have HZ := Lib.hid hz
        clear hz
        go_wp2
        go_round
        case rel => exact ⟨k, by omega, by go_num, by rw [Hid, ← Nl.trim_take_zero (by omega) (by rw [← Hx.out, HZ.out])]; exact ht.out⟩
        case measure => simp [intOf] <;> omega
      · have hz1 : ((x : Int) == 0) = false := by rw [beq_eq_false_iff_ne]; omega
        have HT := Lib.hid (show xs.take (k + 1) = Nl.trim xs by
          have h1 := Nl.trim_take_some (xs := xs) (k := k) (by omega) (by rw [← Hx.out]; exact hz)
          rw [ht.out] at h1
          have h2 := Nl.trim_prefix xs
          rw [h1] at h2
          exact h2.symm)
        clear hz ht
        go_wp2_with (at_builtin; refine wpList_append_own _ rfl (.tmp 18) (.tmp 21) 23 rfl w.heap.size 77 i0 (.int .u32 0) 1 4 Tryz.underlying23 HI.out.1 HI.out.2.1 HI.out.2.2.1 HI.out.2.2.2 rfl (by decide) (.slice (some ⟨w.heap.size, 0, none⟩) 0 0) 0 [] rfl (owns_empty w) ⟨b, off, none⟩ (k + 1) cap (vals (xs.take (k + 1))) rfl ?_ ?_ ?_ ?_ ?_ ?_ ?_)
        · rw [vals_length, List.length_take]; omega
        · exact vals_cells' HC.out _
        · intro u hu
          obtain ⟨x, _, rfl⟩ := List.mem_map.1 hu
          rfl
        · simp only [maxLen]; omega
        · omega
        intro v' w1 ho hg _
        have hA := Lib.hid (trim_result_own ho hg rfl HT.out (by omega))
        clear ho hg
        go_wp2_with fail
        go_ret
        exact ⟨⟨v', rfl, hA.out.1⟩, hA.out.2⟩



theorem own_below {base : Nat} {w w' : World} {v : Value} {n size : Nat} {e : TypeId} {L : List Value} (h : w.ownsRow base e size v n L) (hb : Below w.heap.size w w') : w'.ownsRow base e size v n L :=
  h.kept (row := none) (grown_of_below hb) (by cases hv : v.ownBlock with
    | none => exact .inl rfl
    | some g => exact .inr (by simp))
theorem own_form {base : Nat} {w : World} {v : Value} {n size : Nat} {e : TypeId} {L : List Value} (h : w.ownsRow base e size v n L) : ∃ p c, v = .slice p n c := by
  rcases h.2 with ⟨rfl, hn⟩ | ⟨g, cap, cur, rfl, _⟩
  · rw [hn]; exact ⟨_, _, rfl⟩
  · exact ⟨_, _, rfl⟩
theorem own_less {base base' : Nat} {w : World} {v : Value} {n size : Nat} {e : TypeId} {L : List Value} (h : w.ownsRow base e size v n L) (hb : base' ≤ base) : w.ownsRow base' e size v n L := by
  obtain ⟨h1, h2 | ⟨g, cap, cur, h3, h4, h5⟩⟩ := h
  · exact ⟨h1, .inl h2⟩
  · exact ⟨h1, .inr ⟨g, cap, cur, h3, Nat.le_trans hb h4, h5⟩⟩
theorem own_box {base base' g : Nat} {w : World} {v : Value} {n size : Nat} {e : TypeId} {L : List Value} (a' b' : Value) (h : w.ownsRow base e size v n L) (hg : g < base) (hb : base' ≤ base) :
    ((w.setCell ⟨g, 0, none⟩ a').setCell ⟨g, 1, none⟩ b').ownsRow base' e size v n L := by
  refine own_less (h.kept (row := some g) (grown_trans (Only.setCell g 0 a' w) (Only.setCell g 1 b' _)) ?_) hb
  cases hv : v.ownBlock with
  | none => exact .inl rfl
  | some k =>
    refine .inr fun hk => ?_
    have h1 := h.lt k hv
    cases hk
    omega

/-- what a division by one word gives -/
def ShortOut (w w' : World) (e : Ending) (q r : Nat) : Prop := (∃ u v, e = .returned (.agg #[u, v]) ∧ w'.ownsRow w.heap.size 77 1 u (Nl.limbs q).length (vals (Nl.limbs q)) ∧ IsN w' v r) ∧ Below w.heap.size w w'

set_option maxHeartbeats 2000000 in
theorem refShort_any (va : Value) (m d : Nat) (w : World) (ha : At w va (Nl.limbs m)) (hla : (Nl.limbs m).length ≤ 100000) (hd : 0 < d) (hd2 : d < 4294967296) :
    Calls Tryz.prog 208 #[va, .int .u32 d] w fun e w' => ShortOut w w' e (m / d) (m % d) := by
  obtain ⟨a, ca, rfl, fa⟩ := ha.form
  have FA := Lib.hid fa
  clear ha fa
  obtain ⟨w1, hw1⟩ : ∃ w1, w1 = w.alloc (.cells #[.slice none 0 0, .slice none 0 0] 150) := ⟨_, rfl⟩
  have hbox : w1.heap[w.heap.size]? = some (.cells #[.slice none 0 0, .slice none 0 0] 150 (0, 0)) := by rw [hw1]; exact heap_alloc_new _ _
  have hb1 : Below w.heap.size w w1 := by rw [hw1]; exact below_al w _
  have hs1 : w1.heap.size = w.heap.size + 1 := by rw [hw1]; simp
  have hmk := make_words 23 Tryz.underlying23 w1 ((Nl.limbs m).length : Int) (Nl.limbs m).length rfl (by omega)
  have hrow := row_new w1 (Nl.zeros (Nl.limbs m).length)
  have hb2 := below_al w1 (.cells (vals (Nl.zeros (Nl.limbs m).length)).toArray 77)
  have hbox2 : (w1.alloc (.cells (vals (Nl.zeros (Nl.limbs m).length)).toArray 77)).heap[w.heap.size]? = some (.cells #[.slice none 0 0, .slice none 0 0] 150 (0, 0)) := (hb2.block _ (by omega)).trans hbox
  have HR := Lib.hid hrow
  have HBX := Lib.hid hbox2
  have HB := Lib.hid (hb1.trans (hb2.mono hb1.size))
  have HS1 := Lib.hid hs1
  have HLM := Lib.hid (Nl.limbs_small m)
  clear hbox hrow hb2 hbox2
  go_enter Tryz.func208, Tryz.ntmps208
  go_upto_region 1 with fail
  rw [← hw1]
  clear hw1 hb1
  go_wp2_with fail
  clear hmk
  rw [hs1] at HR
  clear hs1
  go_loopw [6, 7] (fun c i wr => ∃ (k r : Nat) (Z : List Nat), k ≤ (Nl.limbs m).length ∧ i = .int .i64 ((k : Int) - 1) ∧ c = .int .u64 (r : Int) ∧ r < d ∧ Hid (Row wr (w.heap.size + 1) Z) ∧ Hid (wr.heap[w.heap.size]? = some (.cells #[.slice none 0 0, .slice none 0 0] 150 (0, 0))) ∧ Hid (Below w.heap.size w wr) ∧
      Hid (Z.length = (Nl.limbs m).length) ∧ Hid (Nl.Small Z) ∧ Hid (Nl.val ((Nl.limbs m).drop k) = d * Nl.val (Z.drop k) + r)) (fun _ i _ => (intOf i + 1).toNat)
  case atStart => exact ⟨(Nl.limbs m).length, 0, _, by omega, rfl, rfl, hd, HR.out, HBX.out, HB.out, by rw [Hid, Nl.zeros_length], Nl.small_replicate _, by rw [Hid, List.drop_of_length_le (Nat.le_refl _), List.drop_of_length_le (by rw [Nl.zeros_length]; exact Nat.le_refl _)]; simp⟩
  case round =>
    obtain ⟨k, r, Z, hk, rfl, rfl, hrd, hrw, hbx, hbel, hlen, hsm, hv⟩ := hrel
    cases k with
    | zero =>
      have hm : m = d * Nl.val Z + r := by
        have := hv.out
        rwa [List.drop_zero, List.drop_zero, Nl.val_limbs] at this
      have hq : Nl.trim Z = Nl.limbs (m / d) := by
        rw [Nl.trim_eq hsm.out, hm, Nat.mul_add_div hd, Nat.div_eq_of_lt hrd, Nat.add_zero]
      have hr : r = m % d := by rw [hm, Nat.mul_add_mod, Nat.mod_eq_of_lt hrd]
      have htr := refTrim_row (w.heap.size + 1) 0 (Nl.limbs m).length Z wr (hrw.out.cells (fun i hi => by rw [Nat.zero_add]; exact ⟨hi, rfl⟩)) (by rw [hlen.out]; omega) (by omega) hrw.out.lt (by rw [hlen.out]; omega)
      rw [hlen.out, hq] at htr
      have HT := Lib.hid htr
      have HRR := Lib.hid hr
      clear htr hq hr hm
      go_wp2_with fail
      go_at_call 147
      refine HT.out.mono ?_
      rintro e w3 ⟨⟨u, rfl, hu⟩, hb3⟩
      have HU := Lib.hid hu
      have HWS := Lib.hid (show w.heap.size < wr.heap.size from Nat.lt_trans (Nat.lt_succ_self _) hrw.out.lt)
      have B3 := Lib.hid (hbel.out.trans (hb3.mono hbel.out.size))
      have BX3 := Lib.hid ((hb3.block _ (lt_of_block hbx.out)).trans hbx.out)
      clear hu hb3 HT
      go_wp2_with fail
      go_at_call 86
      refine (refOf_any r w3 (by omega)).mono ?_
      rintro e w4 ⟨⟨v, rfl, hv4⟩, hb4⟩
      have HU4 := Lib.hid (own_below HU.out hb4)
      have HV4 := Lib.hid (show At w4 v _ from hv4)
      have B4 := Lib.hid (B3.out.trans (hb4.mono B3.out.size))
      have BX4 := Lib.hid ((hb4.block _ (lt_of_block BX3.out)).trans BX3.out)
      obtain ⟨pu, cu, hue⟩ := own_form HU4.out
      obtain ⟨pv, cv, hve, -⟩ := HV4.out.form
      subst hue hve
      have c0 := cell_of_row _ _ 0 _ _ (0, 0) BX4.out
      have c1 := cell_of_row _ _ 1 _ _ (0, 0) BX4.out
      have f0 := frozen_of_row _ _ 0 _ _ BX4.out
      have f1 := frozen_of_row _ _ 1 _ _ BX4.out
      clear hb4 hv4 BX3 B3 HU
      go_wp2_with fail
      refine bodyPost_ret (v := .agg #[.slice pu (Nl.limbs (m / d)).length cu, .slice pv (Nl.limbs r).length cv]) (results_cell_row Tryz.results208 _ _ w.heap.size 150 _ (0, 0) _ rfl (box_set _ _ BX4.out) Tryz.underlying150 rfl (by kernel_rfl)) rfl ?_
      refine ⟨⟨_, _, rfl, own_box _ _ HU4.out HWS.out (Nat.le_of_lt HWS.out), ?_⟩, (B4.out.setCell (p := ⟨w.heap.size, 0, none⟩) (Nat.le_refl _) _).setCell (p := ⟨w.heap.size, 1, none⟩) (Nat.le_refl _) _⟩
      have h1 := at_box2 (.slice pu (Nl.limbs (m / d)).length cu) (.slice pv (Nl.limbs r).length cv) HV4.out BX4.out
      rw [IsN, ← HRR.out]
      exact h1
    | succ k =>
      rw [show ((k + 1 : Nat) : Int) - 1 = (k : Int) from by omega]
      have hkl : k < (Nl.limbs m).length := by omega
      rcases FA.out with fa | ⟨ba, oa, rfl, -, hca, -, hba, hcx⟩
      · rw [fa] at hkl; simp at hkl
      obtain ⟨x, hx⟩ : ∃ x, x = (Nl.limbs m).getD k 0 := ⟨_, rfl⟩
      have hx2 : x < 4294967296 := by rw [hx]; exact HLM.out.getD k
      have cx : wr.cell? ⟨ba, oa + k, none⟩ = some (.int .u32 (x : Int)) := by rw [hx]; exact (hbel.out.cell (p := ⟨ba, oa + k, none⟩) hba).trans (hcx k hkl)
      obtain ⟨z, hz⟩ : ∃ z, z = Z.getD k 0 := ⟨_, rfl⟩
      have cz := hrw.out.cell (i := k) (by rw [hlen.out]; exact hkl)
      rw [← hz] at cz
      have fz := hrw.out.free k
      have Hx := Lib.hid hx
      clear hx hz hcx
      obtain ⟨s, hs⟩ : ∃ s, s = r * 4294967296 + x := ⟨_, rfl⟩
      have hsi : (r : Int) * 4294967296 + x = (s : Int) := by omega
      have hs1 : s < 18446744073709551616 := by omega
      have hq : s / d < 4294967296 := Nat.div_lt_of_lt_mul (by
        have : (r + 1) * 4294967296 ≤ d * 4294967296 := Nat.mul_le_mul_right _ hrd
        omega)
      have hdz : ¬ ((d : Int) = 0) := by omega
      have hw : IntKind.u64.wrap ((s : Int) / (d : Int)) % 4294967296 = ((s / d : Nat) : Int) := by
        rw [IntKind.wrap_u64, show (s : Int) / (d : Int) = ((s / d : Nat) : Int) from rfl]
        generalize s / d = q at hq ⊢
        omega
      have HW := Lib.hid hw
      have HSS := Lib.hid hs
      have HQ := Lib.hid hq
      clear hw hs hq
      go_wp2
      go_roundw
      case rel =>
        rw [HW.out]
        have hkl2 : k < Z.length := by rw [hlen.out]; exact hkl
        refine ⟨k, s % d, Z.set k (s / d), by omega, rfl, by rw [show (s : Int) % (d : Int) = ((s % d : Nat) : Int) from rfl], Nat.mod_lt _ hd, hrw.out.set _ _, ?_, hbel.out.setCell (show w.heap.size ≤ w.heap.size + 1 by omega) _, ?_, ?_, ?_⟩
        · exact (Below.heap_setCell _ _ _ _ (show w.heap.size ≠ w.heap.size + 1 by omega)).trans hbx.out
        · rw [Hid, List.length_set]; exact hlen.out
        · exact hsm.out.set _ HQ.out
        · rw [Hid, Nl.val_drop_succ _ _ hkl, ← Hx.out, Nl.val_drop_succ (Z.set k (s / d)) _ (by rw [List.length_set]; exact hkl2), Nl.drop_set_succ, HSS.out]
          rw [show (Z.set k ((r * 4294967296 + x) / d)).getD k 0 = (r * 4294967296 + x) / d from by simp [hkl2]]
          exact div_step hv.out
      case measure => simp [intOf] <;> omega
end Go.Proofs.YtodjncohhgknlaaGreat
