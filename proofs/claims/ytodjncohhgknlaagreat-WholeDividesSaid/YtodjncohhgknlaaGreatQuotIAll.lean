/-
  What the reference's Div does for any numbers. Conditions: those that each theorem names.
  What the reference's Quotient of integers gives. Written by wip/tool/genquot.py. Conditions: those that each theorem names.
-/
import Derived.Test.YtodjncohhgknlaaGreatRefDiv
import Derived.Test.YtodjncohhgknlaaGreatThreeAll
import Derived.Test.YtodjncohhgknlaaGreatShortAll
import Derived.Test.YtodjncohhgknlaaGreatRef2fAll
namespace Go.Proofs.YtodjncohhgknlaaGreat
open Go.RowKit

theorem refTrim_num (va : Value) (m : Nat) (w : World) (ha : IsN w va m) (hla : (Nl.limbs m).length ≤ 1000) :
    Calls Tryz.prog 147 #[va] w fun e w' => (∃ v, e = .returned v ∧ IsN w' v m) ∧ Below w.heap.size w w' := by
  have ht : Nl.trim (Nl.limbs m) = Nl.limbs m := by rw [Nl.trim_eq (Nl.limbs_small m), Nl.val_limbs]
  rcases ha with ⟨rfl, h⟩ | ⟨b, off, cap, rfl, -, hc, hm, hb, hx⟩
  · refine (refTrim_nil w).mono ?_
    rintro e w' ⟨⟨v, rfl, hv⟩, hb⟩
    exact ⟨⟨v, rfl, by rw [IsN, h]; exact hv.at⟩, hb⟩
  · have h := refTrim_cells b off cap _ w hx hc hm hb (by omega)
    rw [ht] at h
    refine h.mono ?_
    rintro e w' ⟨⟨v, rfl, hv⟩, hb⟩
    exact ⟨⟨v, rfl, hv.at⟩, hb⟩

set_option maxRecDepth 10000 in
set_option maxHeartbeats 1000000 in
theorem refDiv_less (va vb : Value) (m n P : Nat) (w : World) (ha : IsN w va m) (hb : IsN w vb n) (hla : (Nl.limbs m).length ≤ 1000) (hlb : (Nl.limbs n).length = P) (hP : P ≠ 1) (hP2 : P ≤ 1000) (hlt : m < n) :
    Calls Tryz.prog 164 #[va, vb] w fun e w' => DivOut w w' e (m / n) (m % n) := by
  have HM := Lib.hid (And.intro (Nat.div_eq_of_lt hlt) (Nat.mod_eq_of_lt hlt))
  have HA := Lib.hid ha
  have HB := Lib.hid hb
  obtain ⟨pa, ca, rfl, -⟩ := ha.form
  obtain ⟨pb, cb, rfl, -⟩ := hb.form
  have e1 : ((P : Int) == 1) = false := by rw [beq_eq_false_iff_ne]; omega
  obtain ⟨w1, hw1⟩ : ∃ w1, w1 = w.alloc (.cells #[.slice none 0 0, .slice none 0 0] 150) := ⟨_, rfl⟩
  have hbox : w1.heap[w.heap.size]? = some (.cells #[.slice none 0 0, .slice none 0 0] 150 (0, 0)) := by rw [hw1]; exact heap_alloc_new _ _
  have hb1 : Below w.heap.size w w1 := by rw [hw1]; exact below_al w _
  have BX1 := Lib.hid hbox
  have B1 := Lib.hid hb1
  have hcm := refCmp_num' _ _ m n w1 (HA.out.below hb1) (HB.out.below hb1) (by omega) (by omega)
  rw [cmpI_lt hlt] at hcm
  have HC := Lib.hid hcm
  have HT := Lib.hid (refTrim_num _ m w1 (HA.out.below hb1) hla)
  rw [hlb] at HB HC ⊢
  clear ha hb hbox hb1 hcm hlt hlb
  go_enter Tryz.func164, Tryz.ntmps164
  go_upto_region 1 with fail
  rw [← hw1]
  clear hw1
  go_wp2_with fail
  refine HC.out.mono ?_
  rintro e w' ⟨rfl, rfl⟩
  clear HC
  go_wp2_with fail
  refine HT.out.mono ?_
  rintro e w8 ⟨⟨vr, rfl, hvr⟩, hb8⟩
  have HVR := Lib.hid (show At w8 vr _ from hvr)
  have BX9 := Lib.hid ((hb8.block _ (lt_of_block BX1.out)).trans BX1.out)
  have B8 := Lib.hid (B1.out.trans (hb8.mono B1.out.size))
  obtain ⟨pr, cr, hre, -⟩ := HVR.out.form
  subst hre
  have c0 := cell_of_row _ _ 0 _ _ (0, 0) BX9.out
  have c1 := cell_of_row _ _ 1 _ _ (0, 0) BX9.out
  have f0 := frozen_of_row _ _ 0 _ _ BX9.out
  have f1 := frozen_of_row _ _ 1 _ _ BX9.out
  clear hvr hb8 HT
  go_wp2_with fail
  refine bodyPost_ret (v := .agg #[.slice none 0 0, .slice pr (Nl.limbs m).length cr]) (results_cell_row Tryz.results164 _ _ w.heap.size 150 _ (0, 0) _ rfl (box_set _ _ BX9.out) Tryz.underlying150 rfl (by kernel_rfl)) rfl ?_
  rw [HM.out.1, HM.out.2]
  exact ⟨⟨_, _, rfl, .inl ⟨rfl, Nl.limbs_zero⟩, at_box2 _ _ HVR.out BX9.out⟩, (B8.out.setCell (p := ⟨w.heap.size, 0, none⟩) (Nat.le_refl _) _).setCell (p := ⟨w.heap.size, 1, none⟩) (Nat.le_refl _) _⟩

set_option maxRecDepth 10000 in
set_option maxHeartbeats 1000000 in
theorem refDiv_one (va vb : Value) (m n : Nat) (w : World) (ha : IsN w va m) (hb : IsN w vb n) (hla : (Nl.limbs m).length ≤ 1000) (hlb : (Nl.limbs n).length = 1) (hn0 : n ≠ 0) (hn : n < 4294967296) :
    Calls Tryz.prog 164 #[va, vb] w fun e w' => DivOut w w' e (m / n) (m % n) := by
  have HA := Lib.hid ha
  obtain ⟨pa, ca, rfl, -⟩ := ha.form
  rcases hb with ⟨-, h⟩ | ⟨bb, ob, cb, rfl, -, hcb, -, hbb, hcx⟩
  · rw [h] at hlb; simp at hlb
  have cx0 := hcx 0 (by omega)
  rw [show (Nl.limbs n).getD 0 0 = n by rw [limbs_one hn0 hn]; rfl] at cx0
  obtain ⟨w1, hw1⟩ : ∃ w1, w1 = w.alloc (.cells #[.slice none 0 0, .slice none 0 0] 150) := ⟨_, rfl⟩
  have hbox : w1.heap[w.heap.size]? = some (.cells #[.slice none 0 0, .slice none 0 0] 150 (0, 0)) := by rw [hw1]; exact heap_alloc_new _ _
  have hb1 : Below w.heap.size w w1 := by rw [hw1]; exact below_al w _
  have BX1 := Lib.hid hbox
  have B1 := Lib.hid hb1
  have cx : w1.cell? ⟨bb, ob + 0, none⟩ = some (.int .u32 (n : Int)) := (hb1.cell (p := ⟨bb, ob + 0, none⟩) hbb).trans cx0
  rw [Nat.add_zero] at cx
  have HS := Lib.hid (refShort_any _ m n w1 (HA.out.below hb1) (by omega) (by omega) hn)
  rw [hlb]
  clear ha hbox hb1 hcx cx0 hcb hlb
  go_enter Tryz.func164, Tryz.ntmps164
  go_upto_region 1 with fail
  rw [← hw1]
  clear hw1
  go_wp2_with fail
  refine HS.out.mono ?_
  rintro e w8 ⟨⟨vq, vr, rfl, hvq, hvr⟩, hb8⟩
  have HVR := Lib.hid (show At w8 vr _ from hvr)
  have HVQ := Lib.hid (show At w8 _ _ from (atP_of_owns hvq).at)
  have BX9 := Lib.hid ((hb8.block _ (lt_of_block BX1.out)).trans BX1.out)
  have B8 := Lib.hid (B1.out.trans (hb8.mono B1.out.size))
  obtain ⟨pr, cr, hre, -⟩ := HVR.out.form
  obtain ⟨pq, cq, hqe⟩ := own_form hvq
  subst hre hqe
  have c0 := cell_of_row _ _ 0 _ _ (0, 0) BX9.out
  have c1 := cell_of_row _ _ 1 _ _ (0, 0) BX9.out
  have f0 := frozen_of_row _ _ 0 _ _ BX9.out
  have f1 := frozen_of_row _ _ 1 _ _ BX9.out
  clear hvq hvr hb8 HS
  go_wp2_with fail
  refine bodyPost_ret (v := .agg #[.slice pq (Nl.limbs (m / n)).length cq, .slice pr (Nl.limbs (m % n)).length cr]) (results_cell_row Tryz.results164 _ _ w.heap.size 150 _ (0, 0) _ rfl (box_set _ _ BX9.out) Tryz.underlying150 rfl (by kernel_rfl)) rfl ?_
  exact ⟨⟨_, _, rfl, at_box2 _ _ HVQ.out BX9.out, at_box2 _ _ HVR.out BX9.out⟩, (B8.out.setCell (p := ⟨w.heap.size, 0, none⟩) (Nat.le_refl _) _).setCell (p := ⟨w.heap.size, 1, none⟩) (Nat.le_refl _) _⟩

theorem refDiv_any (va vb : Value) (m n : Nat) (w : World) (ha : IsN w va m) (hb : IsN w vb n) (hla : (Nl.limbs m).length ≤ 1000) (hlb : (Nl.limbs n).length ≤ 1000) (hn0 : n ≠ 0) :
    Calls Tryz.prog 164 #[va, vb] w fun e w' => DivOut w w' e (m / n) (m % n) := by
  have hp := Nl.len_pos hn0
  by_cases h1 : (Nl.limbs n).length = 1
  · have h2 := Nl.lt_limbs n
    rw [h1, Nat.pow_one] at h2
    exact refDiv_one va vb m n w ha hb hla h1 hn0 h2
  · rcases Nat.lt_or_ge m n with h | h
    · exact refDiv_less va vb m n _ w ha hb hla rfl h1 hlb h
    · exact refDiv_big va vb m n ((Nl.limbs n).length - 2) w ha hb hla (by omega) h

set_option maxRecDepth 10000 in
set_option maxHeartbeats 1000000 in
theorem refGcd_any (va vb : Value) (m n : Nat) (w : World) (ha : IsN w va m) (hb : IsN w vb n) (hla : (Nl.limbs m).length ≤ 1000) (hlb : (Nl.limbs n).length ≤ 1000) :
    Calls Tryz.prog 117 #[va, vb] w fun e w' => (∃ v, e = .returned v ∧ IsN w' v (Nat.gcd m n)) ∧ Below w.heap.size w w' := by
  have HA := Lib.hid (show At w va (Nl.limbs m) from ha)
  have HB := Lib.hid (show At w vb (Nl.limbs n) from hb)
  obtain ⟨pa, ca, rfl, -⟩ := ha.form
  obtain ⟨pb, cb, rfl, -⟩ := hb.form
  have B0 := Lib.hid (Below.refl w.heap.size w)
  clear ha hb
  go_enter Tryz.func117, Tryz.ntmps117
  go_wp2_with fail
  go_loopw [0, 1] (fun u v wr => ∃ A B : Nat, Hid (IsN wr u A) ∧ Hid (IsN wr v B) ∧ (Nl.limbs A).length ≤ 1000 ∧ (Nl.limbs B).length ≤ 1000 ∧ Hid (Nat.gcd A B = Nat.gcd m n) ∧ Hid (Below w.heap.size w wr)) (fun _ v wr => numAt wr v)
  case atStart => exact ⟨m, n, HA.out, HB.out, hla, hlb, rfl, B0.out⟩
  case round =>
    obtain ⟨A, B, hA, hB, hlA, hlB, hg, hbl⟩ := hrel
    have hmu := numAt_of hB.out
    obtain ⟨pu, cu, rfl, -⟩ := (show At wr _ _ from hA.out).form
    obtain ⟨pv, cv, rfl, -⟩ := (show At wr _ _ from hB.out).form
    have HMU := Lib.hid hmu
    clear hmu
    by_cases hz : B = 0
    · have t1 : decide (0 < (Nl.limbs B).length) = false := by rw [hz, Nl.limbs_zero]; rfl
      have HE := Lib.hid (show A = Nat.gcd m n by rw [← hg.out, hz, Nat.gcd_zero_right])
      clear hz
      go_wp2_with fail
      go_ret
      exact ⟨⟨_, rfl, by rw [← HE.out]; exact hA.out⟩, hbl.out⟩
    · have t1 : decide (0 < (Nl.limbs B).length) = true := decide_eq_true (Nl.len_pos hz)
      have HD := Lib.hid (refDiv_any _ _ A B wr hA.out hB.out hlA hlB hz)
      have hmod := Nat.mod_lt A (Nat.pos_of_ne_zero hz)
      have HMO := Lib.hid (And.intro hmod (Nat.le_trans (Nl.limbs_mono (Nat.le_of_lt hmod)) hlB))
      clear hz hmod
      go_wp2_with fail
      refine HD.out.mono ?_
      rintro e w2 ⟨⟨x, y, rfl, hx, hy⟩, hb2⟩
      have HX := Lib.hid (show At w2 x _ from hx)
      have HY := Lib.hid (show At w2 y _ from hy)
      have HB2 := Lib.hid (hB.out.below hb2)
      have B2 := Lib.hid (hbl.out.trans (hb2.mono hbl.out.size))
      obtain ⟨px, cx, hxe, -⟩ := HX.out.form
      obtain ⟨py, cy, hye, -⟩ := HY.out.form
      subst hxe hye
      clear hx hy hb2 HD
      go_wp2_with fail
      have b3 := below_al w2 (.cells #[.slice px (Nl.limbs (A / B)).length cx, .slice py (Nl.limbs (A % B)).length cy] 150)
      have HY3 := HY.out.below b3
      go_roundw
      case rel => exact ⟨B, A % B, HB2.out.below b3, HY3, hlB, HMO.out.2, by rw [Hid, Nat.gcd_comm B, ← Nat.gcd_rec, Nat.gcd_comm]; exact hg.out, B2.out.trans (b3.mono B2.out.size)⟩
      case measure =>
        rw [numAt_of HY3, HMU.out]
        exact HMO.out.1
end Go.Proofs.YtodjncohhgknlaaGreat

namespace Go.Proofs.YtodjncohhgknlaaGreat
open Go.RowKit

theorem divQ_if (how : Nat) (a b : Int) : divQ how a b = sgn (negB a != negB b) (if (!decide (a.natAbs % b.natAbs = 0) && farB how (negB a) (negB b) (a.natAbs / b.natAbs) (a.natAbs % b.natAbs) b.natAbs) = true then a.natAbs / b.natAbs + 1 else a.natAbs / b.natAbs) := by
  rw [divQ]
  by_cases h0 : a.natAbs % b.natAbs = 0
  · rw [if_pos (.inl h0), decide_eq_true h0, if_neg (by simp)]
  · cases hf : farB how (negB a) (negB b) (a.natAbs / b.natAbs) (a.natAbs % b.natAbs) b.natAbs with
    | false => rw [if_pos (.inr rfl), if_neg (by simp)]
    | true => rw [if_neg (by simp [h0]), decide_eq_false h0]; rfl
/-- what Quotient returns -/
def QuotOut (w w' : World) (e : Ending) (x y : Int) : Prop := (∃ s p l c s' p' l' c', e = .returned (.agg #[.bool s, .slice p l c, .bool s', .slice p' l' c', .int .i64 0]) ∧ IsI w' (.agg #[.bool s, .slice p l c]) x ∧ IsI w' (.agg #[.bool s', .slice p' l' c']) y) ∧ Below w.heap.size w w'
theorem row_set5 {w : World} {g : Nat} {T : TypeId} {a b c d e : Value} (a' b' c' d' e' : Value) (h : w.heap[g]? = some (.cells #[a, b, c, d, e] T (0, 0))) : (((((w.setCell ⟨g, 0, none⟩ a').setCell ⟨g, 1, none⟩ b').setCell ⟨g, 2, none⟩ c').setCell ⟨g, 3, none⟩ d').setCell ⟨g, 4, none⟩ e').heap[g]? = some (.cells #[a', b', c', d', e'] T (0, 0)) :=
  heap_setCell_same _ g 4 _ _ e' (heap_setCell_same _ g 3 _ _ d' (heap_setCell_same _ g 2 _ _ c' (heap_setCell_same _ g 1 _ _ b' (heap_setCell_same w g 0 _ _ a' h))))
theorem row_set23 {w : World} {g : Nat} {T : TypeId} {a b c d e : Value} (c' d' : Value) (h : w.heap[g]? = some (.cells #[a, b, c, d, e] T (0, 0))) : ((w.setCell ⟨g, 2, none⟩ c').setCell ⟨g, 3, none⟩ d').heap[g]? = some (.cells #[a, b, c', d', e] T (0, 0)) :=
  heap_setCell_same _ g 3 _ _ d' (heap_setCell_same w g 2 _ _ c' h)
theorem cell_23_0 {w : World} {g : Nat} {T : TypeId} {a b c d e : Value} (c' d' : Value) (h : w.heap[g]? = some (.cells #[a, b, c, d, e] T (0, 0))) : ((w.setCell ⟨g, 2, none⟩ c').setCell ⟨g, 3, none⟩ d').cell? ⟨g, 0, none⟩ = some a := by
  have := cell_of_row _ _ 0 _ _ (0, 0) (row_set23 c' d' h)
  simpa using this
theorem cell_23_1 {w : World} {g : Nat} {T : TypeId} {a b c d e : Value} (c' d' : Value) (h : w.heap[g]? = some (.cells #[a, b, c, d, e] T (0, 0))) : ((w.setCell ⟨g, 2, none⟩ c').setCell ⟨g, 3, none⟩ d').cell? ⟨g, 1, none⟩ = some b := by
  have := cell_of_row _ _ 1 _ _ (0, 0) (row_set23 c' d' h)
  simpa using this
theorem no_u32 {s s' : Bool} {p p' : Option Addr} {l c l' c' : Nat} (i : Nat) (x : Int) : (#[Value.bool s, .slice p l c, .bool s', .slice p' l' c', .int .i64 0] : Array Value)[i]? ≠ some (.int .u32 x) := by
  match i with
  | 0 => simp
  | 1 => simp
  | 2 => simp
  | 3 => simp
  | 4 => simp
  | j + 5 => simp
theorem isI_five {w : World} {g : Nat} {T : TypeId} {s s' t : Bool} {p p' q : Option Addr} {l c l' c' m d : Nat} {n : Int} (j : Nat) (u : Value) (h : IsI w (.agg #[.bool t, .slice q m d]) n) (hbx : w.heap[g]? = some (.cells #[.bool s, .slice p l c, .bool s', .slice p' l' c', .int .i64 0] T (0, 0))) :
    IsI (w.setCell ⟨g, j, none⟩ u) (.agg #[.bool t, .slice q m d]) n := by
  obtain ⟨v, h1, h2⟩ := h
  exact ⟨v, h1, at_set32 u h2 hbx no_u32⟩

theorem below_ibox23 {B : Nat} {w w' : World} (h : Below B w w') {g : Nat} (hg : B ≤ g) (a b : Value) : Below B w ((w'.setCell ⟨g, 2, none⟩ a).setCell ⟨g, 3, none⟩ b) := (h.setCell (p := ⟨g, 2, none⟩) hg _).setCell (p := ⟨g, 3, none⟩) hg _
theorem below_all {B : Nat} {w w' : World} (h : Below B w w') {g : Nat} (hg : B ≤ g) (a b c d e : Value) : Below B w (((((w'.setCell ⟨g, 0, none⟩ a).setCell ⟨g, 1, none⟩ b).setCell ⟨g, 2, none⟩ c).setCell ⟨g, 3, none⟩ d).setCell ⟨g, 4, none⟩ e) :=
  ((((h.setCell (p := ⟨g, 0, none⟩) hg _).setCell (p := ⟨g, 1, none⟩) hg _).setCell (p := ⟨g, 2, none⟩) hg _).setCell (p := ⟨g, 3, none⟩) hg _).setCell (p := ⟨g, 4, none⟩) hg _
theorem isI_all {w : World} {g : Nat} {T : TypeId} {s s' t t0 t2 : Bool} {p p' q q1 q3 : Option Addr} {l c l' c' m d m1 d1 m3 d3 : Nat} {n : Int} (hbx : w.heap[g]? = some (.cells #[.bool s, .slice p l c, .bool s', .slice p' l' c', .int .i64 0] T (0, 0))) (h : IsI w (.agg #[.bool t, .slice q m d]) n) :
    IsI (((((w.setCell ⟨g, 0, none⟩ (.bool t0)).setCell ⟨g, 1, none⟩ (.slice q1 m1 d1)).setCell ⟨g, 2, none⟩ (.bool t2)).setCell ⟨g, 3, none⟩ (.slice q3 m3 d3)).setCell ⟨g, 4, none⟩ (.int .i64 0)) (.agg #[.bool t, .slice q m d]) n := by
  have e0 := heap_setCell_same w g 0 _ _ (.bool t0) hbx
  have e1 := heap_setCell_same _ g 1 _ _ (.slice q1 m1 d1) e0
  have e2 := heap_setCell_same _ g 2 _ _ (.bool t2) e1
  have e3 := heap_setCell_same _ g 3 _ _ (.slice q3 m3 d3) e2
  exact isI_five 4 _ (isI_five 3 _ (isI_five 2 _ (isI_five 1 _ (isI_five 0 _ h hbx) e0) e1) e2) e3

set_option maxRecDepth 10000 in
set_option maxHeartbeats 8000000 in
theorem rquot_any (how : Nat) (h1 : 1 ≤ how) (h4 : how ≤ 4) (va vb : Value) (a b : Int) (w : World) (ha : IsI w va a) (hb : IsI w vb b) (la : (Nl.limbs a.natAbs).length ≤ 900) (lb : (Nl.limbs b.natAbs).length ≤ 900) (hb0 : b ≠ 0) :
    Calls Tryz.prog 106 #[va, vb, .int .i64 how] w fun e w' => QuotOut w w' e (divQ how a b) (a - divQ how a b * b) := by
  obtain ⟨p0, c0, rfl, -⟩ := AtI.form ha
  obtain ⟨p1, c1, rfl, -⟩ := AtI.form hb
  have hQQ := divQ_if how a b
  have hn0 : b.natAbs ≠ 0 := by omega
  obtain ⟨s0, hs0⟩ : ∃ s0, s0 = negB a := ⟨_, rfl⟩
  obtain ⟨s1, hs1⟩ : ∃ s1, s1 = negB b := ⟨_, rfl⟩
  obtain ⟨l0, hl0⟩ : ∃ l0, l0 = (Nl.limbs a.natAbs).length := ⟨_, rfl⟩
  obtain ⟨l1, hl1⟩ : ∃ l1, l1 = (Nl.limbs b.natAbs).length := ⟨_, rfl⟩
  rw [← hs0, ← hl0] at ha ⊢
  rw [← hs1, ← hl1] at hb ⊢
  rw [← hs0, ← hs1] at hQQ
  have u0 : At w (.slice p0 l0 c0) (Nl.limbs a.natAbs) := by obtain ⟨v, e, h⟩ := ha; simp only [Value.agg.injEq, Array.mk.injEq, List.cons.injEq, and_true] at e; rw [e.2]; exact h
  have u1 : At w (.slice p1 l1 c1) (Nl.limbs b.natAbs) := by obtain ⟨v, e, h⟩ := hb; simp only [Value.agg.injEq, Array.mk.injEq, List.cons.injEq, and_true] at e; rw [e.2]; exact h
  obtain ⟨W, hW⟩ : ∃ W, W = ((w.alloc (.cells #[.bool s0, .slice p0 l0 c0] 25)).alloc (.cells #[.bool s1, .slice p1 l1 c1] 25)).alloc (.cells #[.bool false, .slice none 0 0, .bool false, .slice none 0 0, .int .i64 0] 47) := ⟨_, rfl⟩
  have hbW : Below w.heap.size w W := by rw [hW]; exact three_new w _ _ _
  have B0 : W.heap[w.heap.size]? = some (.cells #[.bool s0, .slice p0 l0 c0] 25 (0, 0)) := by rw [hW]; exact al_keep _ _ (by simp <;> omega) (al_keep _ _ (by simp <;> omega) (al_at _ _ (by simp)))
  have B1 : W.heap[w.heap.size + 1]? = some (.cells #[.bool s1, .slice p1 l1 c1] 25 (0, 0)) := by rw [hW]; exact al_keep _ _ (by simp <;> omega) (al_at _ _ (by simp))
  have B2 : W.heap[w.heap.size + 1 + 1]? = some (.cells #[.bool false, .slice none 0 0, .bool false, .slice none 0 0, .int .i64 0] 47 (0, 0)) := by rw [hW]; exact al_at _ _ (by simp)
  have k00 := cell_of_row _ _ 0 _ _ (0, 0) B0
  have k01 := cell_of_row _ _ 1 _ _ (0, 0) B0
  have k10 := cell_of_row _ _ 0 _ _ (0, 0) B1
  have k11 := cell_of_row _ _ 1 _ _ (0, 0) B1
  simp only [List.getElem?_toArray, List.getElem?_cons_zero, List.getElem?_cons_succ] at k00 k01 k10 k11
  have HB := Lib.hid (And.intro hbW (And.intro B0 (And.intro B1 B2)))
  have HU := Lib.hid (And.intro (u0.below hbW) (u1.below hbW))
  have HI := Lib.hid (And.intro (AtI.below (show AtI w (.agg #[.bool s0, .slice p0 l0 c0]) (negB a) (Nl.limbs a.natAbs) from ha) hbW) (AtI.below (show AtI w (.agg #[.bool s1, .slice p1 l1 c1]) (negB b) (Nl.limbs b.natAbs) from hb) hbW))
  have HL := Lib.hid (And.intro la lb)
  have HH := Lib.hid (And.intro h1 h4)
  have HQ := Lib.hid hQQ
  have HD := Lib.hid (refDiv_any (.slice p0 l0 c0) (.slice p1 l1 c1) a.natAbs b.natAbs W (HU.out.1) (HU.out.2) (Nat.le_trans la (by decide)) (Nat.le_trans lb (by decide)) hn0)
  clear ha hb u0 u1 la lb h1 h4 hb0 hn0 hs0 hs1 hl0 hl1 hbW B0 B1 B2 hQQ
  go_enter Tryz.func106, Tryz.ntmps106
  go_wp2_with fail
  rw [← hW]
  clear hW
  refine HD.out.mono ?_
  rintro e w1 ⟨⟨u, v, rfl, hu, hv⟩, hb1⟩
  obtain ⟨pq, cq, rfl, -⟩ := hu.form
  obtain ⟨pr, cr, rfl, -⟩ := hv.form
  obtain ⟨lq, hlq⟩ : ∃ lq, lq = (Nl.limbs (a.natAbs / b.natAbs)).length := ⟨_, rfl⟩
  obtain ⟨lr, hlr⟩ : ∃ lr, lr = (Nl.limbs (a.natAbs % b.natAbs)).length := ⟨_, rfl⟩
  rw [← hlq] at hu ⊢
  rw [← hlr] at hv ⊢
  have fr : (Nl.limbs (a.natAbs % b.natAbs)).length ≤ 100000 := Nat.le_trans (Nl.limbs_mono (Nat.mod_le _ _)) (Nat.le_trans HL.out.1 (by decide))
  have fq : (Nl.limbs (a.natAbs / b.natAbs)).length ≤ 900 := Nat.le_trans (Nl.limbs_mono (Nat.div_le_self _ _)) HL.out.1
  obtain ⟨q, hq⟩ : ∃ q, q = a.natAbs / b.natAbs := ⟨_, rfl⟩
  obtain ⟨r, hr⟩ : ∃ r, r = a.natAbs % b.natAbs := ⟨_, rfl⟩
  rw [← hq] at hu fq
  rw [← hr] at hv fr
  rw [← hq, ← hr] at HQ
  have HFQ := Lib.hid fq
  obtain ⟨Z1, hZ1⟩ : ∃ Z1, Z1 = w1.alloc (.cells #[.slice pq lq cq, .slice pr lr cr] 150) := ⟨_, rfl⟩
  have hz : Below w1.heap.size w1 Z1 := by rw [hZ1]; exact below_one _ _
  have hs := hb1.trans (hz.mono hb1.size)
  have b00 := (hs.cell (lt_of_block HB.out.2.1)).trans k00
  have b01 := (hs.cell (lt_of_block HB.out.2.1)).trans k01
  have b10 := (hs.cell (lt_of_block HB.out.2.2.1)).trans k10
  have b11 := (hs.cell (lt_of_block HB.out.2.2.1)).trans k11
  rw [hZ1] at b00 b01 b10 b11
  have hup := rup_any s0 s1 p0 p1 pq pr l0 c0 l1 c1 lq cq lr cr how q r b.natAbs Z1 ((show At w1 _ _ from hu).below hz) ((show At w1 _ _ from hv).below hz) (HU.out.2.below hs) fr (Nat.le_trans HL.out.2 (by decide)) HH.out.1 HH.out.2
  obtain ⟨bb, hbb⟩ : ∃ bb, bb = (!decide (r = 0) && farB how s0 s1 q r b.natAbs) := ⟨_, rfl⟩
  rw [← hbb] at hup HQ
  have HUP := Lib.hid hup
  have HAQ := Lib.hid ((show At w1 _ _ from hu).below hz)
  have HS := Lib.hid hs
  clear hu hv hb1 hz hs hup hbb hlq hlr fr fq hq hr HD
  go_wp2_with fail
  rw [← hZ1]
  clear hZ1
  refine HUP.out.mono ?_
  rintro e w2 ⟨rfl, hb2⟩
  have HS2 := Lib.hid (HS.out.trans (hb2.mono HS.out.size))
  have HAQ2 := Lib.hid (HAQ.out.below hb2)
  clear hb2 HUP HS HAQ b00 b01 b10 b11
  cases bb with
  | false =>
    have b00 := (HS2.out.cell (lt_of_block HB.out.2.1)).trans k00
    have b10 := (HS2.out.cell (lt_of_block HB.out.2.2.1)).trans k10
    obtain ⟨x, hx⟩ : ∃ x, x = (!(s0 == s1)) := ⟨_, rfl⟩
    have HX := Lib.hid hx
    have HO := Lib.hid (ref2Of_any x (.slice pq lq cq) (q) w2 HAQ2.out (by have := HFQ.out; have := Nl.len_add q 1; have : (Nl.limbs 1).length ≤ 1 := Nl.limbs_lt (by decide); omega))
    go_wp2_with fail
    rw [← hx]
    clear hx
    refine HO.out.mono ?_
    rintro e w5 ⟨⟨t, p5, l5, c5, rfl, hi⟩, hb5⟩
    rw [show sgn x ((q : Nat) : Nat) = divQ how a b by rw [HQ.out, HX.out]; rfl] at hi
    obtain ⟨D, hD⟩ : ∃ D, D = w5.alloc (.cells #[.bool t, .slice p5 l5 c5, .bool false, .slice none 0 0, .int .i64 0] 47) := ⟨_, rfl⟩
    have hz : Below w5.heap.size w5 D := by rw [hD]; exact below_one _ _
    have OD : D.heap[w5.heap.size]? = some (.cells #[.bool t, .slice p5 l5 c5, .bool false, .slice none 0 0, .int .i64 0] 47 (0, 0)) := by rw [hD]; exact al_at _ _ rfl
    have o0 := cell_of_row _ _ 0 _ _ (0, 0) OD
    have o1 := cell_of_row _ _ 1 _ _ (0, 0) OD
    simp only [List.getElem?_toArray, List.getElem?_cons_zero, List.getElem?_cons_succ] at o0 o1
    have hsD := HS2.out.trans ((hb5.trans (hz.mono hb5.size)).mono HS2.out.size)
    have HSD := Lib.hid hsD
    have HOD := Lib.hid OD
    have HID := Lib.hid (AtI.below hi hz)
    have hlt := lt_of_block OD
    have HLT := Lib.hid (show w.heap.size + 1 + 1 < D.heap.size ∧ w.heap.size + 1 + 1 < w5.heap.size from ⟨Nat.lt_of_lt_of_le (lt_of_block HB.out.2.2.2) hsD.size, Nat.lt_of_lt_of_le (lt_of_block HB.out.2.2.2) (Nat.le_trans HS2.out.size hb5.size)⟩)
    have z00 : ∀ w', Below D.heap.size D w' → w'.cell? ⟨w.heap.size, 0, none⟩ = some (.bool s0) := fun w' h => ((HSD.out.trans (h.mono HSD.out.size)).cell (lt_of_block HB.out.2.1)).trans k00
    have z01 : ∀ w', Below D.heap.size D w' → w'.cell? ⟨w.heap.size, 1, none⟩ = some (.slice p0 l0 c0) := fun w' h => ((HSD.out.trans (h.mono HSD.out.size)).cell (lt_of_block HB.out.2.1)).trans k01
    have z10 : ∀ w', Below D.heap.size D w' → w'.cell? ⟨w.heap.size + 1, 0, none⟩ = some (.bool s1) := fun w' h => ((HSD.out.trans (h.mono HSD.out.size)).cell (lt_of_block HB.out.2.2.1)).trans k10
    have z11 : ∀ w', Below D.heap.size D w' → w'.cell? ⟨w.heap.size + 1, 1, none⟩ = some (.slice p1 l1 c1) := fun w' h => ((HSD.out.trans (h.mono HSD.out.size)).cell (lt_of_block HB.out.2.2.1)).trans k11
    have zo0 : ∀ w', Below D.heap.size D w' → w'.cell? ⟨w5.heap.size, 0, none⟩ = some (.bool t) := fun w' h => (h.cell hlt).trans o0
    have zo1 : ∀ w', Below D.heap.size D w' → w'.cell? ⟨w5.heap.size, 1, none⟩ = some (.slice p5 l5 c5) := fun w' h => (h.cell hlt).trans o1
    have hrr : Below D.heap.size D D := Below.refl _ _
    have lQ : (Nl.limbs (divQ how a b).natAbs).length ≤ 902 := by
      rw [HQ.out, sgn_abs]
      have h1 := HFQ.out
      have h2 := Nl.len_add q 1
      have h3 : (Nl.limbs 1).length ≤ 1 := Nl.limbs_lt (by decide)
      split <;> omega
    have HTM := Lib.hid (fun (w' : World) (h : Below D.heap.size D w') => rtimes_any (.agg #[.bool t, .slice p5 l5 c5]) (.agg #[.bool s1, .slice p1 l1 c1]) (divQ how a b) b w' (AtI.below HID.out h) (AtI.below (AtI.below HI.out.2 HSD.out) h) (Nat.le_trans lQ (by decide)) (Nat.le_trans HL.out.2 (by decide)))
    have lP : lowI (divQ how a b * b) := by
      show (Nl.limbs (divQ how a b * b).natAbs).length ≤ 200000
      rw [Int.natAbs_mul]
      have h1 := Nl.len_mul (divQ how a b).natAbs b.natAbs
      have h2 := HL.out.2
      omega
    have HMI := Lib.hid (fun (w' : World) (h : Below D.heap.size D w') (v : Value) (hv : IsI w' v (divQ how a b * b)) => rminus_any (.agg #[.bool s0, .slice p0 l0 c0]) v a (divQ how a b * b) w' (AtI.below (AtI.below HI.out.1 HSD.out) h) hv (Nat.le_trans HL.out.1 (by decide)) lP)
    clear hi hb5 hz OD o0 o1 hsD hlt lQ lP HO b00 b10
    have nA : ¬ w.heap.size = w5.heap.size := by have := HLT.out.2; omega
    have nA' : ¬ w5.heap.size = w.heap.size := by have := HLT.out.2; omega
    have nB : ¬ w.heap.size + 1 = w5.heap.size := by have := HLT.out.2; omega
    have nB' : ¬ w5.heap.size = w.heap.size + 1 := by have := HLT.out.2; omega
    have qz00 := z00 D hrr
    have qz01 := z01 D hrr
    have qz10 := z10 D hrr
    have qz11 := z11 D hrr
    have qzo0 := zo0 D hrr
    have qzo1 := zo1 D hrr
    go_wp2_with fail
    rw [← hD]
    clear hD
    go_region_held3 (fun w' => w'.cell? ⟨w.heap.size, 0, none⟩ = some (.bool s0) ∧ w'.cell? ⟨w.heap.size, 1, none⟩ = some (.slice p0 l0 c0) ∧ w'.cell? ⟨w.heap.size + 1, 0, none⟩ = some (.bool s1) ∧ w'.cell? ⟨w.heap.size + 1, 1, none⟩ = some (.slice p1 l1 c1) ∧ w'.cell? ⟨w5.heap.size, 0, none⟩ = some (.bool t) ∧ w'.cell? ⟨w5.heap.size, 1, none⟩ = some (.slice p5 l5 c5))
      (first
        | (refine ⟨?_, ?_, ?_, ?_, ?_, ?_⟩ <;> first | assumption | exact cell_23_0 _ _ HZ.out.1 | exact cell_23_1 _ _ HZ.out.1 | go_keep)
        | go_keep
        | assumption)
      (first
        | (go_at_call 99; refine (HTM.out _ (by first | assumption | exact below_drew0 _)).mono ?_; rintro e w6 ⟨hw6, v6, rfl, hv6⟩; obtain ⟨p6, c6, rfl, -⟩ := AtI.form hv6; have bel6 : Below D.heap.size D w6 := below_on (D := D) (by first | assumption | exact below_drew0 _) hw6; have dz00 := z00 _ bel6; have dz01 := z01 _ bel6; have dz10 := z10 _ bel6; have dz11 := z11 _ bel6; have dzo0 := zo0 _ bel6; have dzo1 := zo1 _ bel6; clear hw6)
        | (go_at_call 79; refine (HMI.out _ (by assumption) _ hv6).mono ?_; rintro e w7 ⟨hw7, v7, rfl, hv7⟩; obtain ⟨p7, c7, rfl, -⟩ := AtI.form hv7; have bel7 := below_on (D := D) bel6 hw7; have ez00 := z00 _ bel7; have ez01 := z01 _ bel7; have ez10 := z10 _ bel7; have ez11 := z11 _ bel7; have ezo0 := zo0 _ bel7; have ezo1 := zo1 _ bel7; have hi7 := AtI.below HID.out bel7; have O7 := (bel7.block _ (lt_of_block HOD.out)).trans HOD.out; have R7 := (bel7.block _ HLT.out.1).trans ((HSD.out.block _ (lt_of_block HB.out.2.2.2)).trans HB.out.2.2.2); have f2 := frozen_of_row _ _ 2 _ _ O7; have f3 := frozen_of_row _ _ 3 _ _ O7; have g0 := cell_of_row _ _ 0 _ _ (0, 0) O7; have g1 := cell_of_row _ _ 1 _ _ (0, 0) O7; have g2 := cell_of_row _ _ 2 _ _ (0, 0) O7; have g3 := cell_of_row _ _ 3 _ _ (0, 0) O7; have g4 := cell_of_row _ _ 4 _ _ (0, 0) O7; have x0 := frozen_of_row _ _ 0 _ _ R7; have x1 := frozen_of_row _ _ 1 _ _ R7; have x2 := frozen_of_row _ _ 2 _ _ R7; have x3 := frozen_of_row _ _ 3 _ _ R7; have x4 := frozen_of_row _ _ 4 _ _ R7; have y0 := cell_of_row _ _ 0 _ _ (0, 0) R7; have y1 := cell_of_row _ _ 1 _ _ (0, 0) R7; have y2 := cell_of_row _ _ 2 _ _ (0, 0) R7; have y3 := cell_of_row _ _ 3 _ _ (0, 0) R7; have y4 := cell_of_row _ _ 4 _ _ (0, 0) R7; simp only [List.getElem?_toArray, List.getElem?_cons_zero, List.getElem?_cons_succ] at g0 g1 g2 g3 g4 y0 y1 y2 y3 y4; have HZ := Lib.hid (And.intro O7 (And.intro R7 (And.intro hi7 (And.intro hv7 bel7)))); clear O7 R7 hi7 hw7))
    have ne1 : ¬ w5.heap.size = w.heap.size + 1 + 1 := by have := HLT.out.2; omega
    have ne2 : ¬ w.heap.size + 1 + 1 = w5.heap.size := by have := HLT.out.2; omega
    clear nA nA' nB nB' z00 z01 z10 z11 zo0 zo1 hrr qz00 dz00 ez00 qz01 dz01 ez01 qz10 dz10 ez10 qz11 dz11 ez11 qzo0 dzo0 ezo0 qzo1 dzo1 ezo1 HTM HMI hv6 hv7 bel6 bel7
    go_wp2_with fail
    obtain ⟨V, hV⟩ : ∃ V, V = (w7.setCell ⟨w5.heap.size, 2, none⟩ (.bool (negB (a - divQ how a b * b)))).setCell ⟨w5.heap.size, 3, none⟩ (.slice p7 (Nl.limbs (a - divQ how a b * b).natAbs).length c7) := ⟨_, rfl⟩
    rw [← hV]
    have OV := row_set23 (g := w5.heap.size) (.bool (negB (a - divQ how a b * b))) (.slice p7 (Nl.limbs (a - divQ how a b * b).natAbs).length c7) HZ.out.1
    have RV : V.heap[w.heap.size + 1 + 1]? = some (.cells #[.bool false, .slice none 0 0, .bool false, .slice none 0 0, .int .i64 0] 47 (0, 0)) := by
      rw [hV, Below.heap_setCell _ ⟨w5.heap.size, 3, none⟩ _ _ ne2, Below.heap_setCell _ ⟨w5.heap.size, 2, none⟩ _ _ ne2]
      exact HZ.out.2.1
    have iQ : IsI V (.agg #[.bool t, .slice p5 l5 c5]) (divQ how a b) := by rw [hV]; exact isI_five 3 _ (isI_five 2 _ HZ.out.2.2.1 HZ.out.1) (heap_setCell_same _ _ 2 _ _ _ HZ.out.1)
    have iR : IsI V (.agg #[.bool (negB (a - divQ how a b * b)), .slice p7 (Nl.limbs (a - divQ how a b * b).natAbs).length c7]) (a - divQ how a b * b) := by rw [hV]; exact isI_five 3 _ (isI_five 2 _ HZ.out.2.2.2.1 HZ.out.1) (heap_setCell_same _ _ 2 _ _ _ HZ.out.1)
    have bV : Below w.heap.size w V := by rw [hV]; exact below_ibox23 (HB.out.1.trans ((HSD.out.trans (HZ.out.2.2.2.2.mono HSD.out.size)).mono HB.out.1.size)) (by have := HLT.out.2; omega) _ _
    refine bodyPost_ret (v := .agg #[.bool t, .slice p5 l5 c5, .bool (negB (a - divQ how a b * b)), .slice p7 (Nl.limbs (a - divQ how a b * b).natAbs).length c7, .int .i64 0]) (results_cell_row Tryz.results106 _ _ (w.heap.size + 1 + 1) 47 _ (0, 0) _ rfl (row_set5 (g := w.heap.size + 1 + 1) _ _ _ _ _ RV) Tryz.underlying47 rfl (by kernel_rfl)) rfl ?_
    exact ⟨⟨_, _, _, _, _, _, _, _, rfl, isI_all RV iQ, isI_all RV iR⟩, below_all bV (by omega) _ _ _ _ _⟩
  | true =>
    obtain ⟨N, hN⟩ : ∃ N, N = w2.alloc (.cells #[.int .u32 1] 77) := ⟨_, rfl⟩
    have hz : Below w2.heap.size w2 N := by rw [hN]; exact below_one _ _
    have a1 : At N (.slice (some ⟨w2.heap.size, 0, none⟩) 1 1) (Nl.limbs 1) := by rw [hN]; exact at_word1 _ _
    have HAD := Lib.hid (addR (.slice pq lq cq) (.slice (some ⟨w2.heap.size, 0, none⟩) 1 1) q 1 N (HAQ2.out.below hz) a1 (Nat.le_trans HFQ.out (by decide)) (Nat.le_trans (Nl.limbs_lt (k := 1) (by decide)) (by decide)))
    have HSN := Lib.hid (HS2.out.trans (hz.mono HS2.out.size))
    clear hz a1
    go_wp2_with fail
    rw [← hN]
    clear hN
    refine HAD.out.mono ?_
    rintro e w3 ⟨⟨p3, n3, c3, rfl, h3⟩, hb3⟩
    have HS3 := Lib.hid (HSN.out.trans (hb3.mono HSN.out.size))
    have HA3 := Lib.hid h3
    clear h3 hb3 HAD
    have b00 := (HS3.out.cell (lt_of_block HB.out.2.1)).trans k00
    have b10 := (HS3.out.cell (lt_of_block HB.out.2.2.1)).trans k10
    obtain ⟨x, hx⟩ : ∃ x, x = (!(s0 == s1)) := ⟨_, rfl⟩
    have HX := Lib.hid hx
    have HO := Lib.hid (ref2Of_any x (.slice p3 n3 c3) (q + 1) w3 HA3.out (by have := HFQ.out; have := Nl.len_add q 1; have : (Nl.limbs 1).length ≤ 1 := Nl.limbs_lt (by decide); omega))
    go_wp2_with fail
    rw [← hx]
    clear hx
    refine HO.out.mono ?_
    rintro e w5 ⟨⟨t, p5, l5, c5, rfl, hi⟩, hb5⟩
    rw [show sgn x ((q + 1 : Nat) : Nat) = divQ how a b by rw [HQ.out, HX.out]; rfl] at hi
    obtain ⟨D, hD⟩ : ∃ D, D = w5.alloc (.cells #[.bool t, .slice p5 l5 c5, .bool false, .slice none 0 0, .int .i64 0] 47) := ⟨_, rfl⟩
    have hz : Below w5.heap.size w5 D := by rw [hD]; exact below_one _ _
    have OD : D.heap[w5.heap.size]? = some (.cells #[.bool t, .slice p5 l5 c5, .bool false, .slice none 0 0, .int .i64 0] 47 (0, 0)) := by rw [hD]; exact al_at _ _ rfl
    have o0 := cell_of_row _ _ 0 _ _ (0, 0) OD
    have o1 := cell_of_row _ _ 1 _ _ (0, 0) OD
    simp only [List.getElem?_toArray, List.getElem?_cons_zero, List.getElem?_cons_succ] at o0 o1
    have hsD := HS3.out.trans ((hb5.trans (hz.mono hb5.size)).mono HS3.out.size)
    have HSD := Lib.hid hsD
    have HOD := Lib.hid OD
    have HID := Lib.hid (AtI.below hi hz)
    have hlt := lt_of_block OD
    have HLT := Lib.hid (show w.heap.size + 1 + 1 < D.heap.size ∧ w.heap.size + 1 + 1 < w5.heap.size from ⟨Nat.lt_of_lt_of_le (lt_of_block HB.out.2.2.2) hsD.size, Nat.lt_of_lt_of_le (lt_of_block HB.out.2.2.2) (Nat.le_trans HS3.out.size hb5.size)⟩)
    have z00 : ∀ w', Below D.heap.size D w' → w'.cell? ⟨w.heap.size, 0, none⟩ = some (.bool s0) := fun w' h => ((HSD.out.trans (h.mono HSD.out.size)).cell (lt_of_block HB.out.2.1)).trans k00
    have z01 : ∀ w', Below D.heap.size D w' → w'.cell? ⟨w.heap.size, 1, none⟩ = some (.slice p0 l0 c0) := fun w' h => ((HSD.out.trans (h.mono HSD.out.size)).cell (lt_of_block HB.out.2.1)).trans k01
    have z10 : ∀ w', Below D.heap.size D w' → w'.cell? ⟨w.heap.size + 1, 0, none⟩ = some (.bool s1) := fun w' h => ((HSD.out.trans (h.mono HSD.out.size)).cell (lt_of_block HB.out.2.2.1)).trans k10
    have z11 : ∀ w', Below D.heap.size D w' → w'.cell? ⟨w.heap.size + 1, 1, none⟩ = some (.slice p1 l1 c1) := fun w' h => ((HSD.out.trans (h.mono HSD.out.size)).cell (lt_of_block HB.out.2.2.1)).trans k11
    have zo0 : ∀ w', Below D.heap.size D w' → w'.cell? ⟨w5.heap.size, 0, none⟩ = some (.bool t) := fun w' h => (h.cell hlt).trans o0
    have zo1 : ∀ w', Below D.heap.size D w' → w'.cell? ⟨w5.heap.size, 1, none⟩ = some (.slice p5 l5 c5) := fun w' h => (h.cell hlt).trans o1
    have hrr : Below D.heap.size D D := Below.refl _ _
    have lQ : (Nl.limbs (divQ how a b).natAbs).length ≤ 902 := by
      rw [HQ.out, sgn_abs]
      have h1 := HFQ.out
      have h2 := Nl.len_add q 1
      have h3 : (Nl.limbs 1).length ≤ 1 := Nl.limbs_lt (by decide)
      split <;> omega
    have HTM := Lib.hid (fun (w' : World) (h : Below D.heap.size D w') => rtimes_any (.agg #[.bool t, .slice p5 l5 c5]) (.agg #[.bool s1, .slice p1 l1 c1]) (divQ how a b) b w' (AtI.below HID.out h) (AtI.below (AtI.below HI.out.2 HSD.out) h) (Nat.le_trans lQ (by decide)) (Nat.le_trans HL.out.2 (by decide)))
    have lP : lowI (divQ how a b * b) := by
      show (Nl.limbs (divQ how a b * b).natAbs).length ≤ 200000
      rw [Int.natAbs_mul]
      have h1 := Nl.len_mul (divQ how a b).natAbs b.natAbs
      have h2 := HL.out.2
      omega
    have HMI := Lib.hid (fun (w' : World) (h : Below D.heap.size D w') (v : Value) (hv : IsI w' v (divQ how a b * b)) => rminus_any (.agg #[.bool s0, .slice p0 l0 c0]) v a (divQ how a b * b) w' (AtI.below (AtI.below HI.out.1 HSD.out) h) hv (Nat.le_trans HL.out.1 (by decide)) lP)
    clear hi hb5 hz OD o0 o1 hsD hlt lQ lP HO b00 b10
    have nA : ¬ w.heap.size = w5.heap.size := by have := HLT.out.2; omega
    have nA' : ¬ w5.heap.size = w.heap.size := by have := HLT.out.2; omega
    have nB : ¬ w.heap.size + 1 = w5.heap.size := by have := HLT.out.2; omega
    have nB' : ¬ w5.heap.size = w.heap.size + 1 := by have := HLT.out.2; omega
    have qz00 := z00 D hrr
    have qz01 := z01 D hrr
    have qz10 := z10 D hrr
    have qz11 := z11 D hrr
    have qzo0 := zo0 D hrr
    have qzo1 := zo1 D hrr
    go_wp2_with fail
    rw [← hD]
    clear hD
    go_region_held3 (fun w' => w'.cell? ⟨w.heap.size, 0, none⟩ = some (.bool s0) ∧ w'.cell? ⟨w.heap.size, 1, none⟩ = some (.slice p0 l0 c0) ∧ w'.cell? ⟨w.heap.size + 1, 0, none⟩ = some (.bool s1) ∧ w'.cell? ⟨w.heap.size + 1, 1, none⟩ = some (.slice p1 l1 c1) ∧ w'.cell? ⟨w5.heap.size, 0, none⟩ = some (.bool t) ∧ w'.cell? ⟨w5.heap.size, 1, none⟩ = some (.slice p5 l5 c5))
      (first
        | (refine ⟨?_, ?_, ?_, ?_, ?_, ?_⟩ <;> first | assumption | exact cell_23_0 _ _ HZ.out.1 | exact cell_23_1 _ _ HZ.out.1 | go_keep)
        | go_keep
        | assumption)
      (first
        | (go_at_call 99; refine (HTM.out _ (by first | assumption | exact below_drew0 _)).mono ?_; rintro e w6 ⟨hw6, v6, rfl, hv6⟩; obtain ⟨p6, c6, rfl, -⟩ := AtI.form hv6; have bel6 : Below D.heap.size D w6 := below_on (D := D) (by first | assumption | exact below_drew0 _) hw6; have dz00 := z00 _ bel6; have dz01 := z01 _ bel6; have dz10 := z10 _ bel6; have dz11 := z11 _ bel6; have dzo0 := zo0 _ bel6; have dzo1 := zo1 _ bel6; clear hw6)
        | (go_at_call 79; refine (HMI.out _ (by assumption) _ hv6).mono ?_; rintro e w7 ⟨hw7, v7, rfl, hv7⟩; obtain ⟨p7, c7, rfl, -⟩ := AtI.form hv7; have bel7 := below_on (D := D) bel6 hw7; have ez00 := z00 _ bel7; have ez01 := z01 _ bel7; have ez10 := z10 _ bel7; have ez11 := z11 _ bel7; have ezo0 := zo0 _ bel7; have ezo1 := zo1 _ bel7; have hi7 := AtI.below HID.out bel7; have O7 := (bel7.block _ (lt_of_block HOD.out)).trans HOD.out; have R7 := (bel7.block _ HLT.out.1).trans ((HSD.out.block _ (lt_of_block HB.out.2.2.2)).trans HB.out.2.2.2); have f2 := frozen_of_row _ _ 2 _ _ O7; have f3 := frozen_of_row _ _ 3 _ _ O7; have g0 := cell_of_row _ _ 0 _ _ (0, 0) O7; have g1 := cell_of_row _ _ 1 _ _ (0, 0) O7; have g2 := cell_of_row _ _ 2 _ _ (0, 0) O7; have g3 := cell_of_row _ _ 3 _ _ (0, 0) O7; have g4 := cell_of_row _ _ 4 _ _ (0, 0) O7; have x0 := frozen_of_row _ _ 0 _ _ R7; have x1 := frozen_of_row _ _ 1 _ _ R7; have x2 := frozen_of_row _ _ 2 _ _ R7; have x3 := frozen_of_row _ _ 3 _ _ R7; have x4 := frozen_of_row _ _ 4 _ _ R7; have y0 := cell_of_row _ _ 0 _ _ (0, 0) R7; have y1 := cell_of_row _ _ 1 _ _ (0, 0) R7; have y2 := cell_of_row _ _ 2 _ _ (0, 0) R7; have y3 := cell_of_row _ _ 3 _ _ (0, 0) R7; have y4 := cell_of_row _ _ 4 _ _ (0, 0) R7; simp only [List.getElem?_toArray, List.getElem?_cons_zero, List.getElem?_cons_succ] at g0 g1 g2 g3 g4 y0 y1 y2 y3 y4; have HZ := Lib.hid (And.intro O7 (And.intro R7 (And.intro hi7 (And.intro hv7 bel7)))); clear O7 R7 hi7 hw7))
    have ne1 : ¬ w5.heap.size = w.heap.size + 1 + 1 := by have := HLT.out.2; omega
    have ne2 : ¬ w.heap.size + 1 + 1 = w5.heap.size := by have := HLT.out.2; omega
    clear nA nA' nB nB' z00 z01 z10 z11 zo0 zo1 hrr qz00 dz00 ez00 qz01 dz01 ez01 qz10 dz10 ez10 qz11 dz11 ez11 qzo0 dzo0 ezo0 qzo1 dzo1 ezo1 HTM HMI hv6 hv7 bel6 bel7
    go_wp2_with fail
    obtain ⟨V, hV⟩ : ∃ V, V = (w7.setCell ⟨w5.heap.size, 2, none⟩ (.bool (negB (a - divQ how a b * b)))).setCell ⟨w5.heap.size, 3, none⟩ (.slice p7 (Nl.limbs (a - divQ how a b * b).natAbs).length c7) := ⟨_, rfl⟩
    rw [← hV]
    have OV := row_set23 (g := w5.heap.size) (.bool (negB (a - divQ how a b * b))) (.slice p7 (Nl.limbs (a - divQ how a b * b).natAbs).length c7) HZ.out.1
    have RV : V.heap[w.heap.size + 1 + 1]? = some (.cells #[.bool false, .slice none 0 0, .bool false, .slice none 0 0, .int .i64 0] 47 (0, 0)) := by
      rw [hV, Below.heap_setCell _ ⟨w5.heap.size, 3, none⟩ _ _ ne2, Below.heap_setCell _ ⟨w5.heap.size, 2, none⟩ _ _ ne2]
      exact HZ.out.2.1
    have iQ : IsI V (.agg #[.bool t, .slice p5 l5 c5]) (divQ how a b) := by rw [hV]; exact isI_five 3 _ (isI_five 2 _ HZ.out.2.2.1 HZ.out.1) (heap_setCell_same _ _ 2 _ _ _ HZ.out.1)
    have iR : IsI V (.agg #[.bool (negB (a - divQ how a b * b)), .slice p7 (Nl.limbs (a - divQ how a b * b).natAbs).length c7]) (a - divQ how a b * b) := by rw [hV]; exact isI_five 3 _ (isI_five 2 _ HZ.out.2.2.2.1 HZ.out.1) (heap_setCell_same _ _ 2 _ _ _ HZ.out.1)
    have bV : Below w.heap.size w V := by rw [hV]; exact below_ibox23 (HB.out.1.trans ((HSD.out.trans (HZ.out.2.2.2.2.mono HSD.out.size)).mono HB.out.1.size)) (by have := HLT.out.2; omega) _ _
    refine bodyPost_ret (v := .agg #[.bool t, .slice p5 l5 c5, .bool (negB (a - divQ how a b * b)), .slice p7 (Nl.limbs (a - divQ how a b * b).natAbs).length c7, .int .i64 0]) (results_cell_row Tryz.results106 _ _ (w.heap.size + 1 + 1) 47 _ (0, 0) _ rfl (row_set5 (g := w.heap.size + 1 + 1) _ _ _ _ _ RV) Tryz.underlying47 rfl (by kernel_rfl)) rfl ?_
    exact ⟨⟨_, _, _, _, _, _, _, _, rfl, isI_all RV iQ, isI_all RV iR⟩, below_all bV (by omega) _ _ _ _ _⟩
end Go.Proofs.YtodjncohhgknlaaGreat
