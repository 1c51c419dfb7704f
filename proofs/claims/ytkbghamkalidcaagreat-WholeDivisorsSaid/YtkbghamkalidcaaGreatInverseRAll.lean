/-
  What rest and One of the reference of layer 2 do. Conditions: those that each theorem names.
  What inverted of the reference of layer 2 does. Written by wip/tool/geninvr.py. Conditions: those that each theorem names.
  What Inverse and Gcd of the reference of layer 2 have to give: the mathematics. Conditions: those that each theorem names.
  What Inverse of the reference of layer 2 does. Written by wip/tool/genrinv.py. Conditions: those that each theorem names.
-/
import Derived.Test.YtkbghamkalidcaaGreatLawRingAll
import Derived.Test.YtkbghamkalidcaaGreatInvWAll
import Derived.Deep.Cut
import Derived.Test.YtkbghamkalidcaaGreatLawCm
import Derived.Test.YtkbghamkalidcaaGreatLawSumsAll
namespace Go.Proofs.YtkbghamkalidcaaGreat
open Go.RowKit

def GivesI (w w' : World) (e : Ending) (n : Int) : Prop := (∃ s p l c, e = .returned (.agg #[.bool s, .slice p l c]) ∧ IsI w' (.agg #[.bool s, .slice p l c]) n) ∧ Below w.heap.size w w'
set_option maxHeartbeats 2000000 in
theorem rone_any (w : World) : Calls Tryz.prog 69 #[] w fun e w' => GivesI w w' e 1 := by
  obtain ⟨W, hW⟩ : ∃ W, W = w.alloc (.cells #[.bool false, .slice none 0 0] 25) := ⟨_, rfl⟩
  have hb : Below w.heap.size w W := by rw [hW]; exact below_one w _
  have hQ : W.heap[w.heap.size]? = some (.cells #[.bool false, .slice none 0 0] 25 (0, 0)) := by rw [hW]; exact heap_alloc_new _ _
  have HF := Lib.hid (ref2FromInt_any 1 W ⟨by decide, by decide⟩)
  have HB := Lib.hid (And.intro hb hQ)
  clear hb hQ
  go_enter Tryz.func69, Tryz.ntmps69
  go_wp2_with fail
  rw [← hW]
  clear hW
  refine HF.out.mono ?_
  rintro e w1 ⟨⟨s, p, l, c, rfl, hi⟩, hb1⟩
  have BQ := (hb1.block _ (lt_of_block HB.out.2)).trans HB.out.2
  have f0 := frozen_of_row _ _ 0 _ _ BQ
  have f1 := frozen_of_row _ _ 1 _ _ BQ
  have g0 := cell_of_row _ _ 0 _ _ (0, 0) BQ
  have g1 := cell_of_row _ _ 1 _ _ (0, 0) BQ
  have HH := Lib.hid (And.intro hi (And.intro hb1 BQ))
  clear hi hb1 BQ HF
  go_wp2_with fail
  refine bodyPost_ret (v := .agg #[.bool s, .slice p l c]) (results_cell_row Tryz.results69 _ _ w.heap.size 25 _ (0, 0) _ rfl (ibox_set _ _ HH.out.2.2) Tryz.underlying25 rfl (by kernel_rfl)) rfl ?_
  exact ⟨⟨_, _, _, _, rfl, isI_box HH.out.1 HH.out.2.2⟩, below_ibox (HB.out.1.trans (HH.out.2.1.mono HB.out.1.size)) (Nat.le_refl _) _ _⟩
theorem rquotL (va vb : Value) (a b h : Int) (how : Nat) (hh : h = (how : Int)) (w : World) (ha : IsI w va a) (hb : IsI w vb b) (la : (Nl.limbs a.natAbs).length ≤ 900) (lb : (Nl.limbs b.natAbs).length ≤ 900) (hb0 : b ≠ 0) (h1 : 1 ≤ how) (h4 : how ≤ 4) :
    Calls Tryz.prog 71 #[va, vb, .int .i64 h] w fun e w' => QuotOut w w' e (divQ how a b) (divR how a b) := by
  rw [hh, divR_eq how a b hb0]
  exact rquot_any how h1 h4 va vb a b w ha hb la lb hb0
set_option maxHeartbeats 2000000 in
theorem rrest_any (va vm : Value) (a m : Int) (w : World) (ha : IsI w va a) (hm : IsI w vm m) (la : (Nl.limbs a.natAbs).length ≤ 900) (lm : (Nl.limbs m.natAbs).length ≤ 900) (h0 : m ≠ 0) :
    Calls Tryz.prog 93 #[va, vm] w fun e w' => GivesI w w' e (divR 3 a m) := by
  obtain ⟨p0, c0, rfl, -⟩ := AtI.form ha
  obtain ⟨p1, c1, rfl, -⟩ := AtI.form hm
  obtain ⟨s0, hs0⟩ : ∃ s, s = negB a := ⟨_, rfl⟩
  obtain ⟨s1, hs1⟩ : ∃ s, s = negB m := ⟨_, rfl⟩
  obtain ⟨l0, hl0⟩ : ∃ l, l = (Nl.limbs a.natAbs).length := ⟨_, rfl⟩
  obtain ⟨l1, hl1⟩ : ∃ l, l = (Nl.limbs m.natAbs).length := ⟨_, rfl⟩
  rw [← hs0, ← hl0] at ha ⊢
  rw [← hs1, ← hl1] at hm ⊢
  obtain ⟨W, hW⟩ : ∃ W, W = ((w.alloc (.cells #[.bool s0, .slice p0 l0 c0] 25)).alloc (.cells #[.bool s1, .slice p1 l1 c1] 25)).alloc (.cells #[.bool false, .slice none 0 0] 25) := ⟨_, rfl⟩
  have hb : Below w.heap.size w W := by rw [hW]; exact three_new w _ _ _
  have hQ : W.heap[w.heap.size + 1 + 1]? = some (.cells #[.bool false, .slice none 0 0] 25 (0, 0)) := by rw [hW]; exact al_at _ _ (by simp)
  have hq := rquotL _ _ a m 3 3 rfl W (ha.below hb) (hm.below hb) la lm h0 (by decide) (by decide)
  have HF := Lib.hid hq
  have HB := Lib.hid (And.intro hb hQ)
  clear hb hQ hq ha hm hs0 hs1 hl0 hl1 la lm h0
  go_enter Tryz.func93, Tryz.ntmps93
  go_wp2_with fail
  rw [← hW]
  clear hW
  refine HF.out.mono ?_
  rintro e w1 ⟨⟨s, p, l, c, s', p', l', c', rfl, -, hi⟩, hb1⟩
  have BQ := (hb1.block _ (lt_of_block HB.out.2)).trans HB.out.2
  have f0 := frozen_of_row _ _ 0 _ _ BQ
  have f1 := frozen_of_row _ _ 1 _ _ BQ
  have g0 := cell_of_row _ _ 0 _ _ (0, 0) BQ
  have g1 := cell_of_row _ _ 1 _ _ (0, 0) BQ
  have HH := Lib.hid (And.intro hi (And.intro hb1 BQ))
  clear hi hb1 BQ HF
  have hfi : ∀ w, (Instr.field 95 (.agg #[.bool s, .slice p l c, .bool s', .slice p' l' c', .int .i64 0]) 1).run Tryz.prog w = .ok (.agg #[.bool s', .slice p' l' c']) w := fun _ => by kernel_rfl
  go_wp2_with fail
  refine bodyPost_ret (v := .agg #[.bool s', .slice p' l' c']) (results_cell_row Tryz.results93 _ _ (w.heap.size + 1 + 1) 25 _ (0, 0) _ rfl (ibox_set (g := w.heap.size + 1 + 1) _ _ HH.out.2.2) Tryz.underlying25 rfl (by kernel_rfl)) rfl ?_
  exact ⟨⟨_, _, _, _, rfl, isI_box (g := w.heap.size + 1 + 1) HH.out.1 HH.out.2.2⟩, below_ibox (HB.out.1.trans (HH.out.2.1.mono HB.out.1.size)) (g := w.heap.size + 1 + 1) (by omega) _ _⟩
end Go.Proofs.YtkbghamkalidcaaGreat

namespace Go.Proofs.YtkbghamkalidcaaGreat
open Go.RowKit

/-- the inverse as the reference finds it -/
noncomputable def invN (a m : Int) : Nat := endN m.natAbs (divR 3 a m).natAbs
noncomputable def invF (a m : Int) (i : Nat) : Int := -(esg i * ((eros m.natAbs (divR 3 a m).natAbs i).2.2 : Int))
noncomputable def invI (a m : Int) : Int := divR 3 (invF a m (invN a m)) m
theorem dvd_small {b k : Int} (h : 0 < b) (h1 : -b < b * k) (h2 : b * k < b) : k = 0 := by
  rcases Int.lt_trichotomy k 0 with h3 | h3 | h3
  · have : b * k ≤ b * (-1) := Int.mul_le_mul_of_nonneg_left (by omega) (by omega)
    omega
  · exact h3
  · have : b * 1 ≤ b * k := Int.mul_le_mul_of_nonneg_left (by omega) (by omega)
    omega
/-- it is the only number below m whose product with a has the rest 1 -/
theorem invI_only {a m X Y : Int} (hm : 0 < m) (hX : a * X + m * Y = 1) (x0 : 0 ≤ X) (x1 : X < m) : invI a m = X := by
  have e1 := divR_eq 3 a m (by omega)
  have r0 : 0 ≤ divR 3 a m := by have := of_decide_eq_false (divR_euclid_way a m (by omega)); omega
  unfold invI invF invN
  generalize divQ 3 a m = q at e1
  generalize hc : divR 3 a m = c at *
  obtain ⟨k1, k2⟩ := endN_spec m.natAbs c.natAbs
  obtain ⟨s1, s2⟩ := eros_sums m.natAbs c.natAbs (endN m.natAbs c.natAbs)
  obtain ⟨g1, -⟩ := eros_signs m.natAbs c.natAbs (endN m.natAbs c.natAbs)
  generalize endN m.natAbs c.natAbs = N at *
  rw [k1] at s1 s2
  rw [Nat.zero_mul, Nat.add_zero] at s1 s2
  generalize eros m.natAbs c.natAbs N = R at *
  generalize eros m.natAbs c.natAbs (N + 1) = S at *
  obtain ⟨r, x, y⟩ := R
  obtain ⟨z, u, v⟩ := S
  simp only at *
  have em : (m.natAbs : Int) = m := by omega
  have ec : (c.natAbs : Int) = c := by omega
  rw [em, ec] at g1
  have d1 : (r : Int) ∣ m := by rw [← em, s1]; exact Int.natCast_dvd_natCast.2 (Nat.dvd_mul_right _ _)
  have d2 : (r : Int) ∣ c := by rw [← ec, s2]; exact Int.natCast_dvd_natCast.2 (Nat.dvd_mul_right _ _)
  have d3 : (r : Int) ∣ 1 := by
    rw [← hX, show a = c + q * m by omega]
    exact Int.dvd_add (Int.dvd_mul_of_dvd_left (Int.dvd_add d2 (Int.dvd_mul_of_dvd_right d1))) (Int.dvd_mul_of_dvd_left d1)
  have hr1 : (r : Int) = 1 := Int.eq_one_of_dvd_one (by omega) d3
  rw [hr1] at g1
  generalize esg N = s at *
  generalize hF : -(s * (y : Int)) = F
  have e3 := divR_eq 3 F m (by omega)
  have e4 := divR_less 3 F m (by omega)
  have e5 : 0 ≤ divR 3 F m := by have := of_decide_eq_false (divR_euclid_way F m (by omega)); omega
  generalize divQ 3 F m = p at *
  generalize divR 3 F m = v' at *
  have h0 : F * c = 1 - s * x * m := by grind
  have h1 : v' - X = m * (-(s * x * X) + F * q * X + F * Y - p) := by
    have h2 : F * 1 = F * (a * X + m * Y) := by rw [hX]
    have h3 : F * (a * X) = (F * c) * X + F * q * m * X := by grind
    rw [h0] at h3
    grind
  have h2 : -m < m * (-(s * x * X) + F * q * X + F * Y - p) := by omega
  have h3 : m * (-(s * x * X) + F * q * X + F * Y - p) < m := by omega
  have h4 := dvd_small hm h2 h3
  rw [h4] at h1
  omega

theorem invF_step (a m : Int) (i : Nat) : invF a m (i + 2) = invF a m i - (((eros m.natAbs (divR 3 a m).natAbs i).1 / (eros m.natAbs (divR 3 a m).natAbs (i + 1)).1 : Nat) : Int) * invF a m (i + 1) := by
  unfold invF
  rw [eros_y]
  have e1 := esg_next i
  have e2 := esg_next (i + 1)
  rw [show i + 1 + 1 = i + 2 from rfl] at e2
  generalize (eros m.natAbs (divR 3 a m).natAbs i).1 / (eros m.natAbs (divR 3 a m).natAbs (i + 1)).1 = q
  rw [e2, e1]
  push_cast
  grind
theorem quot_nat (b c : Nat) : divQ 2 (b : Int) (c : Int) = ((b / c : Nat) : Int) ∧ divR 2 (b : Int) (c : Int) = ((b % c : Nat) : Int) := by
  have n1 : negB (b : Int) = false := decide_eq_false (by omega)
  have n2 : negB (c : Int) = false := decide_eq_false (by omega)
  constructor
  · rw [divQ, if_pos (.inr (by rw [n1, n2]; rfl)), n1, n2, Int.natAbs_natCast, Int.natAbs_natCast]; rfl
  · rw [divR, if_pos (.inr (by rw [n1, n2]; rfl)), n1, Int.natAbs_natCast, Int.natAbs_natCast]; rfl
theorem invF_abs (a m : Int) (i : Nat) : (invF a m i).natAbs = (eros m.natAbs (divR 3 a m).natAbs i).2.2 := by
  unfold invF
  rcases esg_cases i with h | h <;> rw [h] <;> omega
theorem num_at {w : World} {s : Bool} {v : Value} {n : Int} (h : IsI w (.agg #[.bool s, v]) n) : At w v (Nl.limbs n.natAbs) := by
  obtain ⟨u, e, hu⟩ := h
  simp only [Value.agg.injEq, Array.mk.injEq, List.cons.injEq, and_true] at e
  rw [e.2]; exact hu
theorem rtimesL (va vb : Value) (x y : Int) (w : World) (ha : IsI w va x) (hb : IsI w vb y) (la : (Nl.limbs x.natAbs).length ≤ 900) (lb : (Nl.limbs y.natAbs).length ≤ 900) : Calls Tryz.prog 86 #[va, vb] w fun e w' => GivesI w w' e (x * y) := by
  refine (rtimes_any va vb x y w ha hb (Nat.le_trans la (by decide)) (Nat.le_trans lb (by decide))).mono ?_
  rintro e w' ⟨h, v, rfl, hv⟩
  obtain ⟨p, c, rfl, -⟩ := AtI.form hv
  exact ⟨⟨_, _, _, _, rfl, hv⟩, h⟩
theorem rminusL (va vb : Value) (x y : Int) (w : World) (ha : IsI w va x) (hb : IsI w vb y) (la : (Nl.limbs x.natAbs).length ≤ 900) (lb : (Nl.limbs y.natAbs).length ≤ 900) : Calls Tryz.prog 67 #[va, vb] w fun e w' => GivesI w w' e (x - y) := by
  refine (rminus_any va vb x y w ha hb (Nat.le_trans la (by decide)) (Nat.le_trans lb (by decide))).mono ?_
  rintro e w' ⟨h, v, rfl, hv⟩
  obtain ⟨p, c, rfl, -⟩ := AtI.form hv
  exact ⟨⟨_, _, _, _, rfl, hv⟩, h⟩
/-- the number that is kept in a block -/
noncomputable def kn (w : World) (g : Nat) : Nat := by
  classical exact if h : ∃ n, ∃ s p l c, Kept w g s p l c n then (Classical.choose h).natAbs else 0
theorem kept_inj {w : World} {g : Nat} {s s' : Bool} {p p' : Option Addr} {l l' c c' : Nat} {n n' : Int} (h : Kept w g s p l c n) (k : Kept w g s' p' l' c' n') : n.natAbs = n'.natAbs := by
  have e := h.row.symm.trans k.row
  simp only [Option.some.injEq, Obj.cells.injEq, Array.mk.injEq, List.cons.injEq, Value.bool.injEq, Value.slice.injEq, and_true] at e
  obtain ⟨rfl, rfl, rfl, rfl⟩ := e
  exact Nl.limbs_inj (iat_inj (num_at h.num) (num_at k.num))
theorem kn_of {w : World} {g : Nat} {s : Bool} {p : Option Addr} {l c : Nat} {n : Int} (h : Kept w g s p l c n) : kn w g = n.natAbs := by
  have hex : ∃ n, ∃ s p l c, Kept w g s p l c n := ⟨n, s, p, l, c, h⟩
  rw [kn, dif_pos hex]
  obtain ⟨s', p', l', c', k⟩ := Classical.choose_spec hex
  exact kept_inj k h
def AnyK (w : World) (g : Nat) (n : Int) : Prop := ∃ s p l c, Kept w g s p l c n
theorem AnyK.on {w w' : World} {g : Nat} {n : Int} (h : AnyK w g n) (hb : Below w.heap.size w w') : AnyK w' g n := by
  obtain ⟨s, p, l, c, k⟩ := h
  exact ⟨s, p, l, c, k.on hb⟩
/-- another block is written -/
theorem kept_off {w : World} {g h : Nat} {s t u : Bool} {p q r : Option Addr} {l c m d m' d' : Nat} {n : Int} (x : Kept w g s p l c n) (hg : ¬ g = h) (row : w.heap[h]? = some (.cells #[.bool t, .slice q m d] 25 (0, 0))) :
    Kept ((w.setCell ⟨h, 0, none⟩ (.bool u)).setCell ⟨h, 1, none⟩ (.slice r m' d')) g s p l c n :=
  ⟨(box_other _ _ hg).trans x.row, (by obtain ⟨v, e, hv⟩ := x.num; exact ⟨v, e, at_ibox _ _ hv row⟩)⟩
theorem kept_put {w : World} {h : Nat} {s t : Bool} {p q : Option Addr} {l c m d : Nat} {n : Int} (x : IsI w (.agg #[.bool s, .slice p l c]) n) (row : w.heap[h]? = some (.cells #[.bool t, .slice q m d] 25 (0, 0))) :
    Kept ((w.setCell ⟨h, 0, none⟩ (.bool s)).setCell ⟨h, 1, none⟩ (.slice p l c)) h s p l c n :=
  ⟨ibox_set _ _ row, (by obtain ⟨v, e, hv⟩ := x; exact ⟨v, e, at_ibox _ _ hv row⟩)⟩
theorem set_num {w : World} {h : Nat} {t u : Bool} {q r : Option Addr} {m d m' d' : Nat} {v : Value} {n : Int} (x : IsI w v n) (row : w.heap[h]? = some (.cells #[.bool t, .slice q m d] 25 (0, 0))) : IsI ((w.setCell ⟨h, 0, none⟩ (.bool u)).setCell ⟨h, 1, none⟩ (.slice r m' d')) v n := by
  obtain ⟨v, e, hv⟩ := x
  exact ⟨v, e, at_ibox _ _ hv row⟩
theorem len_mul2 {x y : Int} {j k : Nat} (la : (Nl.limbs x.natAbs).length ≤ j) (lb : (Nl.limbs y.natAbs).length ≤ k) : (Nl.limbs (x * y).natAbs).length ≤ j + k := by
  rw [Int.natAbs_mul]
  exact Nat.le_trans (Nl.len_mul _ _) (by omega)
set_option maxRecDepth 10000 in
set_option maxHeartbeats 16000000 in
theorem inverted_any (va vm : Value) (a m : Int) (w : World) (ha : IsI w va a) (hm : IsI w vm m) (la : (Nl.limbs a.natAbs).length ≤ 50) (lm : (Nl.limbs m.natAbs).length ≤ 50) (h0 : 0 < m) :
    Calls Tryz.prog 85 #[va, vm] w fun e w' => GivesI w w' e (invI a m) := by
  obtain ⟨pa, ca, rfl, -⟩ := AtI.form ha
  obtain ⟨pm, cm, rfl, -⟩ := AtI.form hm
  obtain ⟨sa, hsa⟩ : ∃ s, s = negB a := ⟨_, rfl⟩
  obtain ⟨sm, hsm⟩ : ∃ s, s = negB m := ⟨_, rfl⟩
  obtain ⟨la', hla⟩ : ∃ l, l = (Nl.limbs a.natAbs).length := ⟨_, rfl⟩
  obtain ⟨lm', hlm⟩ : ∃ l, l = (Nl.limbs m.natAbs).length := ⟨_, rfl⟩
  rw [← hsa, ← hla] at ha ⊢
  rw [← hsm, ← hlm] at hm ⊢
  clear hsa hsm hla hlm
  have hms : m.natAbs = m := by omega
  obtain ⟨W, hW⟩ : ∃ W, W = (((w.alloc (.cells #[.bool sa, .slice pa la' ca] 25)).alloc (.cells #[.bool sm, .slice pm lm' cm] 25)).alloc (.cells #[.bool false, .slice none 0 0] 25)).alloc (.cells #[.bool sm, .slice pm lm' cm] 25) := ⟨_, rfl⟩
  have hb : Below w.heap.size w W := by rw [hW]; exact (three_new w _ _ _).alloc (by simp <;> omega) _
  have B1 : W.heap[w.heap.size + 1]? = some (.cells #[.bool sm, .slice pm lm' cm] 25 (0, 0)) := by rw [hW]; exact al_keep _ _ (by simp <;> omega) (al_keep _ _ (by simp <;> omega) (al_at _ _ (by simp)))
  have B2 : W.heap[w.heap.size + 1 + 1]? = some (.cells #[.bool false, .slice none 0 0] 25 (0, 0)) := by rw [hW]; exact al_keep _ _ (by simp <;> omega) (al_at _ _ (by simp))
  have B3 : W.heap[w.heap.size + 1 + 1 + 1]? = some (.cells #[.bool sm, .slice pm lm' cm] 25 (0, 0)) := by rw [hW]; exact al_at _ _ (by simp)
  have VM := Lib.hid (Kept.mk B1 (hm.below hb))
  have VB := Lib.hid (Kept.mk B3 (hm.below hb))
  have HC := Lib.hid (rrest_any _ _ a m W (ha.below hb) (hm.below hb) (Nat.le_trans la (by decide)) (Nat.le_trans lm (by decide)) (by omega))
  have HB := Lib.hid (And.intro hb B2)
  have HL := Lib.hid (And.intro lm (And.intro h0 (show (Nl.limbs (divR 3 a m).natAbs).length ≤ 50 from divR_words 3 a m 50 lm (by omega))))
  have HCS := Lib.hid (show ((divR 3 a m).natAbs : Int) = divR 3 a m by have := of_decide_eq_false (divR_euclid_way a m (by omega)); omega)
  have HMS := Lib.hid hms
  clear ha hm la lm h0 hms hb B1 B2 B3
  go_enter Tryz.func85, Tryz.ntmps85
  go_wp2_with fail
  rw [← hW]
  clear hW
  refine HC.out.mono ?_
  rintro e w1 ⟨⟨sc, pc, lc, cc, rfl, hc⟩, hb1⟩
  obtain ⟨Z, hZ⟩ : ∃ Z, Z = (w1.alloc (.cells #[.bool sc, .slice pc lc cc] 25)).alloc (.cells #[.bool false, .slice none 0 0] 25) := ⟨_, rfl⟩
  have hz : Below w1.heap.size w1 Z := by rw [hZ]; exact two_new w1 _ _
  have C0 : Z.heap[w1.heap.size]? = some (.cells #[.bool sc, .slice pc lc cc] 25 (0, 0)) := by rw [hZ]; exact heap_alloc2_old w1 _ _
  have C1 : Z.heap[w1.heap.size + 1]? = some (.cells #[.bool false, .slice none 0 0] 25 (0, 0)) := by rw [hZ]; exact heap_alloc2_new w1 _ _
  have hs := hb1.trans (hz.mono hb1.size)
  have VC := Lib.hid (Kept.mk C0 (hc.below hz))
  have VX := Lib.hid (Kept.mk C1 (isI_nilI Z))
  have VM1 := Lib.hid (VM.out.on hs)
  have VB1 := Lib.hid (VB.out.on hs)
  have R2 := Lib.hid ((hs.block _ (lt_of_block HB.out.2)).trans HB.out.2)
  have HB1 := Lib.hid (HB.out.1.trans (hs.mono HB.out.1.size))
  have hk1 : w.heap.size + 1 + 1 + 1 < w1.heap.size := Nat.lt_of_lt_of_le (lt_of_block VB.out.row) hb1.size
  have HK1 := Lib.hid hk1
  clear hb1 hz C0 C1 hs HC VM VB HB hc hk1
  have HO := Lib.hid (rone_any Z)
  go_wp2_with fail
  rw [← hZ]
  clear hZ
  refine HO.out.mono ?_
  rintro e w2 ⟨⟨sy, py, ly, cy, rfl, hy⟩, hb2⟩
  obtain ⟨Y, hY⟩ : ∃ Y, Y = w2.alloc (.cells #[.bool sy, .slice py ly cy] 25) := ⟨_, rfl⟩
  have hz : Below w2.heap.size w2 Y := by rw [hY]; exact below_one w2 _
  have D0 : Y.heap[w2.heap.size]? = some (.cells #[.bool sy, .slice py ly cy] 25 (0, 0)) := by rw [hY]; exact heap_alloc_new w2 _
  have hs := hb2.trans (hz.mono hb2.size)
  have KM := Lib.hid (VM1.out.on hs)
  have KB := Lib.hid (show AnyK Y (w.heap.size + 1 + 1 + 1) (((eros m.natAbs (divR 3 a m).natAbs 0).1 : Nat) : Int) from ⟨_, _, _, _, (VB1.out.on hs).1, HMS.out.symm ▸ (VB1.out.on hs).2⟩)
  have KC := Lib.hid (show AnyK Y w1.heap.size (((eros m.natAbs (divR 3 a m).natAbs 1).1 : Nat) : Int) from ⟨_, _, _, _, (VC.out.on hs).1, HCS.out.symm ▸ (VC.out.on hs).2⟩)
  have KX := Lib.hid (show AnyK Y (w1.heap.size + 1) (invF a m 0) from ⟨_, _, _, _, VX.out.on hs⟩)
  have KY := Lib.hid (show AnyK Y w2.heap.size (invF a m 1) from ⟨_, _, _, _, D0, hy.below hz⟩)
  have KR := Lib.hid ((hs.block _ (lt_of_block R2.out)).trans R2.out)
  have HB2 := Lib.hid (HB1.out.trans (hs.mono HB1.out.size))
  have hk2 : w1.heap.size + 1 < w2.heap.size := Nat.lt_of_lt_of_le (lt_of_block VX.out.row) hb2.size
  have HK2 := Lib.hid hk2
  clear hb2 hz D0 hs HO VM1 VB1 VC VX R2 HB1 hy hk2
  go_wp2_with fail
  rw [← hY]
  clear hY
  obtain ⟨gc, hgc⟩ : ∃ g, g = w1.heap.size := ⟨_, rfl⟩
  rw [← hgc] at KC KX HK1 HK2 ⊢
  clear hgc
  obtain ⟨gy, hgy⟩ : ∃ g, g = w2.heap.size := ⟨_, rfl⟩
  rw [← hgy] at KY HK2 ⊢
  clear hgy
  obtain ⟨K, hK⟩ : ∃ K, K = w.heap.size := ⟨_, rfl⟩
  have HKW := Lib.hid hK
  rw [← hK] at KM KB KR HK1 ⊢
  clear hK
  go_loopw [9] (fun _ wr => ∃ i, Hid (∀ j, j < i → (eros m.natAbs (divR 3 a m).natAbs (j + 1)).1 ≠ 0) ∧ Hid (Kept wr (K + 1) sm pm lm' cm m) ∧ Hid (AnyK wr (K + 1 + 1 + 1) (((eros m.natAbs (divR 3 a m).natAbs i).1 : Nat) : Int)) ∧ Hid (AnyK wr gc (((eros m.natAbs (divR 3 a m).natAbs (i + 1)).1 : Nat) : Int)) ∧ Hid (AnyK wr (gc + 1) (invF a m i)) ∧ Hid (AnyK wr gy (invF a m (i + 1))) ∧ Hid (wr.heap[K + 1 + 1]? = some (.cells #[.bool false, .slice none 0 0] 25 (0, 0))) ∧ Hid (Below w.heap.size w wr)) (fun _ wr => kn wr gc)
  case atStart => exact ⟨0, fun j hj => absurd hj (Nat.not_lt_zero j), KM.out, KB.out, KC.out, KX.out, KY.out, KR.out, HB2.out⟩
  case round =>
    clear KM KB KC KX KY KR HB2
    obtain ⟨i, hi, hm1, hb1, hc1, hx1, hy1, hr1, hbel⟩ := hrel
    have HWE := Lib.hid (eros_wee hi.out HL.out.1 HL.out.2.2)
    obtain ⟨sb, pb, lb, cb, kb⟩ := hb1.out
    obtain ⟨sc, pc, lc, cc, kc⟩ := hc1.out
    obtain ⟨sx, px, lx, cx, kx⟩ := hx1.out
    obtain ⟨sy, py, ly, cy, ky⟩ := hy1.out
    have hlc := (isI_sign kc.num).2
    rw [Int.natAbs_natCast] at hlc
    have VB := Lib.hid kb
    have VC := Lib.hid kc
    have VX := Lib.hid kx
    have VY := Lib.hid ky
    have HN := Lib.hid (And.intro HK1.out HK2.out)
    clear hb1 hc1 hx1 hy1 kb kc kx ky
    have c0c := VC.out.c0
    have c1c := VC.out.c1
    have HM := Lib.hid (And.intro hm1.out (And.intro hr1.out hbel.out))
    have HMU := Lib.hid (kn_of VC.out)
    have lF := Lib.hid (show (Nl.limbs (invF a m i).natAbs).length ≤ 100 by rw [invF_abs]; exact HWE.out.1.2.2)
    have lF1 := Lib.hid (show (Nl.limbs (invF a m (i + 1)).natAbs).length ≤ 100 by rw [invF_abs]; exact HWE.out.2.2.2)
    clear hm1 hr1 hbel
    by_cases hz : (eros m.natAbs (divR 3 a m).natAbs (i + 1)).1 = 0
    · have hl0 : lc = 0 := by rw [hlc, hz, Nl.limbs_zero]; rfl
      have hiN : i = invN a m := ends_same hz hi.out (endN_spec m.natAbs (divR 3 a m).natAbs).1 (endN_spec m.natAbs (divR 3 a m).natAbs).2
      subst hl0
      have HI := Lib.hid hiN
      have HR := Lib.hid (rrest_any _ _ (invF a m i) m wr VX.out.num HM.out.1.num (Nat.le_trans lF.out (by decide)) (Nat.le_trans HL.out.1 (by decide)) (by have := HL.out.2.1; omega))
      have c0x := VX.out.c0
      have c1x := VX.out.c1
      have c0m := HM.out.1.c0
      have c1m := HM.out.1.c1
      clear hlc hz hiN
      go_wp2_with fail
      refine HR.out.mono ?_
      rintro e w3 ⟨⟨sv, pv, lv, cv, rfl, hv⟩, hb3⟩
      have BQ := (hb3.block _ (lt_of_block HM.out.2.1)).trans HM.out.2.1
      have f0 := frozen_of_row _ _ 0 _ _ BQ
      have f1 := frozen_of_row _ _ 1 _ _ BQ
      have g0 := cell_of_row _ _ 0 _ _ (0, 0) BQ
      have g1 := cell_of_row _ _ 1 _ _ (0, 0) BQ
      have HH := Lib.hid (And.intro hv (And.intro hb3 BQ))
      clear hv hb3 BQ HR c0x c1x c0m c1m c0c c1c
      go_wp2_with fail
      refine bodyPost_ret (v := .agg #[.bool sv, .slice pv lv cv]) (results_cell_row Tryz.results85 _ _ (K + 1 + 1) 25 _ (0, 0) _ rfl (ibox_set (g := K + 1 + 1) _ _ HH.out.2.2) Tryz.underlying25 rfl (by kernel_rfl)) rfl ?_
      refine ⟨⟨_, _, _, _, rfl, ?_⟩, below_ibox (HM.out.2.2.trans (HH.out.2.1.mono HM.out.2.2.size)) (g := K + 1 + 1) (by rw [← HKW.out]; omega) _ _⟩
      rw [invI, ← HI.out]
      exact isI_box (g := K + 1 + 1) HH.out.1 HH.out.2.2
    · have hl1 : 0 < lc := by rw [hlc]; exact Nl.len_pos hz
      have e0 : decide (0 < lc) = true := decide_eq_true hl1
      have HZ := Lib.hid hz
      have hq := rquotL _ _ (((eros m.natAbs (divR 3 a m).natAbs i).1 : Nat) : Int) (((eros m.natAbs (divR 3 a m).natAbs (i + 1)).1 : Nat) : Int) 2 2 rfl wr VB.out.num VC.out.num (by rw [Int.natAbs_natCast]; exact Nat.le_trans HWE.out.1.1 (by decide)) (by rw [Int.natAbs_natCast]; exact Nat.le_trans HWE.out.2.1 (by decide)) (by omega) (by decide) (by decide)
      rw [(quot_nat _ _).1, (quot_nat _ _).2] at hq
      have HQ := Lib.hid hq
      have c0b := VB.out.c0
      have c1b := VB.out.c1
      have hKg : K + 1 + 1 + 1 < gc ∧ gc + 1 < gy := HN.out
      have hgw : gy < wr.heap.size := lt_of_block VY.out.row
      have HNW := Lib.hid (And.intro hKg hgw)
      clear hlc hz hl1 hq hKg hgw
      go_wp2_with fail
      refine HQ.out.mono ?_
      rintro e w3 ⟨⟨sq, pq, lq, cq, sr, pr, lr, cr, rfl, hq, hr⟩, hb3⟩
      obtain ⟨Z3, hZ3⟩ : ∃ Z3, Z3 = w3.alloc (.cells #[.bool sq, .slice pq lq cq, .bool sr, .slice pr lr cr, .int .i64 0] 95) := ⟨_, rfl⟩
      have hz3 : Below w3.heap.size w3 Z3 := by rw [hZ3]; exact below_one _ _
      have DR : Z3.heap[w3.heap.size]? = some (.cells #[.bool sq, .slice pq lq cq, .bool sr, .slice pr lr cr, .int .i64 0] 95 (0, 0)) := by rw [hZ3]; exact heap_alloc_new _ _
      have hs := hb3.trans (hz3.mono hb3.size)
      obtain ⟨gd, hgd⟩ : ∃ g, g = w3.heap.size := ⟨_, rfl⟩
      have hgdy : gy < gd := by rw [hgd]; exact Nat.lt_of_lt_of_le HNW.out.2 hb3.size
      rw [← hgd] at DR
      have Q3 := hq.below hz3
      have R3 := hr.below hz3
      have M3 := HM.out.1.on hs
      have B3 := VB.out.on hs
      have C3 := VC.out.on hs
      have X3 := VX.out.on hs
      have Y3 := VY.out.on hs
      have RR3 := (hs.block _ (lt_of_block HM.out.2.1)).trans HM.out.2.1
      have BW3 := HM.out.2.2.trans (hs.mono HM.out.2.2.size)
      have HA3 := Lib.hid (And.intro DR (And.intro Q3 (And.intro R3 (And.intro M3 (And.intro B3 (And.intro C3 (And.intro X3 (And.intro Y3 (And.intro RR3 BW3)))))))))
      have HGD := Lib.hid hgdy
      clear hb3 hz3 hs hq hr DR Q3 R3 M3 B3 C3 X3 Y3 RR3 BW3 hgdy c0b c1b c0c c1c HQ VB VC VX VY HM
      go_upto_region 7 with fail
      rw [← hZ3, ← hgd]
      clear hZ3 hgd
      obtain ⟨DR, Q3, R3, M3, B3, C3, X3, Y3, RR3, BW3⟩ := HA3.out
      have c0c := C3.c0
      have c1c := C3.c1
      have k0 := cell_of_row _ _ 0 _ _ (0, 0) B3.row
      have k1 := cell_of_row _ _ 1 _ _ (0, 0) B3.row
      have f0 := frozen_of_row _ _ 0 _ _ B3.row
      have f1 := frozen_of_row _ _ 1 _ _ B3.row
      simp only [List.getElem?_toArray, List.getElem?_cons_zero, List.getElem?_cons_succ] at k0 k1
      clear DR Q3 R3 M3 B3 C3 X3 Y3 RR3 BW3
      go_upto_region 8 with fail
      clear c0c c1c k0 k1 f0 f1
      obtain ⟨DR, Q3, R3, M3, B3, C3, X3, Y3, RR3, BW3⟩ := HA3.out
      obtain ⟨Z4, hZ4⟩ : ∃ Z4, Z4 = (Z3.setCell ⟨K + 1 + 1 + 1, 0, none⟩ (.bool sc)).setCell ⟨K + 1 + 1 + 1, 1, none⟩ (.slice pc lc cc) := ⟨_, rfl⟩
      rw [← hZ4]
      have hn := HNW.out
      have hnd := HGD.out
      have B4 : Kept Z4 (K + 1 + 1 + 1) sc pc lc cc (((eros m.natAbs (divR 3 a m).natAbs (i + 1)).1 : Nat) : Int) := by rw [hZ4]; exact kept_put C3.num B3.row
      have C4 : Kept Z4 gc sc pc lc cc (((eros m.natAbs (divR 3 a m).natAbs (i + 1)).1 : Nat) : Int) := by rw [hZ4]; exact kept_off C3 (by omega) B3.row
      have M4 : Kept Z4 (K + 1) sm pm lm' cm m := by rw [hZ4]; exact kept_off M3 (by omega) B3.row
      have X4 : Kept Z4 (gc + 1) sx px lx cx (invF a m i) := by rw [hZ4]; exact kept_off X3 (by omega) B3.row
      have Y4 : Kept Z4 gy sy py ly cy (invF a m (i + 1)) := by rw [hZ4]; exact kept_off Y3 (by omega) B3.row
      have D4 : Z4.heap[gd]? = some (.cells #[.bool sq, .slice pq lq cq, .bool sr, .slice pr lr cr, .int .i64 0] 95 (0, 0)) := by rw [hZ4]; exact (box_other _ _ (by omega)).trans DR
      have RR4 : Z4.heap[K + 1 + 1]? = some (.cells #[.bool false, .slice none 0 0] 25 (0, 0)) := by rw [hZ4]; exact (box_other _ _ (by omega)).trans RR3
      have Q4 : IsI Z4 (.agg #[.bool sq, .slice pq lq cq]) (((eros m.natAbs (divR 3 a m).natAbs i).1 / (eros m.natAbs (divR 3 a m).natAbs (i + 1)).1 : Nat) : Int) := by rw [hZ4]; exact set_num Q3 B3.row
      have R4 : IsI Z4 (.agg #[.bool sr, .slice pr lr cr]) (((eros m.natAbs (divR 3 a m).natAbs i).1 % (eros m.natAbs (divR 3 a m).natAbs (i + 1)).1 : Nat) : Int) := by rw [hZ4]; exact set_num R3 B3.row
      have BW4 : Below w.heap.size w Z4 := by rw [hZ4]; exact below_ibox BW3 (g := K + 1 + 1 + 1) (by rw [← HKW.out]; omega) _ _
      have HA4 := Lib.hid (And.intro D4 (And.intro Q4 (And.intro R4 (And.intro M4 (And.intro B4 (And.intro C4 (And.intro X4 (And.intro Y4 (And.intro RR4 BW4)))))))))
      clear hZ4 DR Q3 R3 M3 B3 C3 X3 Y3 RR3 BW3 HA3 Q4 R4 M4 B4 X4 Y4 RR4 BW4
      have k0 := cell_of_row _ _ 0 _ _ (0, 0) C4.row
      have k1 := cell_of_row _ _ 1 _ _ (0, 0) C4.row
      have f0 := frozen_of_row _ _ 0 _ _ C4.row
      have f1 := frozen_of_row _ _ 1 _ _ C4.row
      have d2 := cell_of_row _ _ 2 _ _ (0, 0) D4
      have d3 := cell_of_row _ _ 3 _ _ (0, 0) D4
      simp only [List.getElem?_toArray, List.getElem?_cons_zero, List.getElem?_cons_succ] at k0 k1 d2 d3
      clear C4 D4
      go_upto_region 9 with fail
      clear k0 k1 f0 f1 d2 d3
      obtain ⟨D4, Q4, R4, M4, B4, C4, X4, Y4, RR4, BW4⟩ := HA4.out
      obtain ⟨Z5, hZ5⟩ : ∃ Z5, Z5 = (Z4.setCell ⟨gc, 0, none⟩ (.bool sr)).setCell ⟨gc, 1, none⟩ (.slice pr lr cr) := ⟨_, rfl⟩
      rw [← hZ5]
      have C5 : Kept Z5 gc sr pr lr cr (((eros m.natAbs (divR 3 a m).natAbs i).1 % (eros m.natAbs (divR 3 a m).natAbs (i + 1)).1 : Nat) : Int) := by rw [hZ5]; exact kept_put R4 C4.row
      have B5 : Kept Z5 (K + 1 + 1 + 1) sc pc lc cc (((eros m.natAbs (divR 3 a m).natAbs (i + 1)).1 : Nat) : Int) := by rw [hZ5]; exact kept_off B4 (by omega) C4.row
      have M5 : Kept Z5 (K + 1) sm pm lm' cm m := by rw [hZ5]; exact kept_off M4 (by omega) C4.row
      have X5 : Kept Z5 (gc + 1) sx px lx cx (invF a m i) := by rw [hZ5]; exact kept_off X4 (by omega) C4.row
      have Y5 : Kept Z5 gy sy py ly cy (invF a m (i + 1)) := by rw [hZ5]; exact kept_off Y4 (by omega) C4.row
      have D5 : Z5.heap[gd]? = some (.cells #[.bool sq, .slice pq lq cq, .bool sr, .slice pr lr cr, .int .i64 0] 95 (0, 0)) := by rw [hZ5]; exact (box_other _ _ (by omega)).trans D4
      have RR5 : Z5.heap[K + 1 + 1]? = some (.cells #[.bool false, .slice none 0 0] 25 (0, 0)) := by rw [hZ5]; exact (box_other _ _ (by omega)).trans RR4
      have Q5 : IsI Z5 (.agg #[.bool sq, .slice pq lq cq]) (((eros m.natAbs (divR 3 a m).natAbs i).1 / (eros m.natAbs (divR 3 a m).natAbs (i + 1)).1 : Nat) : Int) := by rw [hZ5]; exact set_num Q4 C4.row
      have BW5 : Below w.heap.size w Z5 := by rw [hZ5]; exact below_ibox BW4 (g := gc) (by have := HKW.out; omega) _ _
      have HA5 := Lib.hid (And.intro M5 (And.intro B5 (And.intro C5 (And.intro X5 (And.intro Y5 (And.intro RR5 BW5))))))
      have lQ := Lib.hid (show (Nl.limbs ((((eros m.natAbs (divR 3 a m).natAbs i).1 / (eros m.natAbs (divR 3 a m).natAbs (i + 1)).1 : Nat) : Int)).natAbs).length ≤ 100 by rw [Int.natAbs_natCast]; exact Nat.le_trans (Nl.limbs_mono (Nat.div_le_self _ _)) HWE.out.1.1)
      have hq5 : gd < Z5.heap.size := lt_of_block D5
      have HQ5 := Lib.hid hq5
      have cellD : ∀ {g : Nat} {cs : Array Value} {T : TypeId} (j : Nat), Z5.heap[g]? = some (.cells cs T (0, 0)) → ∀ w', Below Z5.heap.size Z5 w' → w'.cell? ⟨g, j, none⟩ = cs[j]? := fun {g cs T} j hg w' h => cell_of_row _ _ j _ _ (0, 0) ((h.block _ (lt_of_block hg)).trans hg)
      have zx0 := cellD 0 X5.row
      have zx1 := cellD 1 X5.row
      have zy0 := cellD 0 Y5.row
      have zy1 := cellD 1 Y5.row
      have zd0 := cellD 0 D5
      have zd1 := cellD 1 D5
      simp only [List.getElem?_toArray, List.getElem?_cons_zero, List.getElem?_cons_succ] at zx0 zx1 zy0 zy1 zd0 zd1
      have HT := Lib.hid (fun (w' : World) (h : Below Z5.heap.size Z5 w') => rtimesL (.agg #[.bool sq, .slice pq lq cq]) (.agg #[.bool sy, .slice py ly cy]) (((eros m.natAbs (divR 3 a m).natAbs i).1 / (eros m.natAbs (divR 3 a m).natAbs (i + 1)).1 : Nat) : Int) (invF a m (i + 1)) w' (Q5.below h) (Y5.num.below h) (Nat.le_trans lQ.out (by decide)) (Nat.le_trans lF1.out (by decide)))
      have HMI := Lib.hid (fun (v : Value) (w' : World) (h : Below Z5.heap.size Z5 w') (hv : IsI w' v ((((eros m.natAbs (divR 3 a m).natAbs i).1 / (eros m.natAbs (divR 3 a m).natAbs (i + 1)).1 : Nat) : Int) * invF a m (i + 1))) => rminusL (.agg #[.bool sx, .slice px lx cx]) v (invF a m i) ((((eros m.natAbs (divR 3 a m).natAbs i).1 / (eros m.natAbs (divR 3 a m).natAbs (i + 1)).1 : Nat) : Int) * invF a m (i + 1)) w' (X5.num.below h) hv (Nat.le_trans lF.out (by decide)) (Nat.le_trans (len_mul2 lQ.out lF1.out) (by decide)))
      have hrr : Below Z5.heap.size Z5 Z5 := Below.refl _ _
      clear hZ5 D4 Q4 R4 M4 B4 C4 X4 Y4 RR4 BW4 HA4 C5 B5 M5 X5 Y5 D5 RR5 Q5 BW5 cellD hq5 hn hnd
      obtain ⟨ZN, hZN⟩ : ∃ n, n = invF a m i - (((eros m.natAbs (divR 3 a m).natAbs i).1 / (eros m.natAbs (divR 3 a m).natAbs (i + 1)).1 : Nat) : Int) * invF a m (i + 1) := ⟨_, rfl⟩
      rw [← hZN] at HMI
      have HZN := Lib.hid (hZN.trans (invF_step a m i).symm)
      clear hZN
      go_region_held3 (fun w' => Below Z5.heap.size Z5 w')
        (first
          | assumption
          | ((try (repeat (first | refine of_al ?_ _ | refine of_dr ?_ | refine of_st ?_ (by first | exact Nat.le_refl _ | exact Nat.le_succ _ | assumption | (dsimp only; omega) | (exact Nat.le_trans (by assumption) (Nat.le_succ _)) | (simp; omega)) _))); (first | assumption | exact Below.refl _ _)))
        (first
          | (go_at_call 86; refine (HT.out _ (by ((try (repeat (first | refine of_al ?_ _ | refine of_dr ?_ | refine of_st ?_ (by first | exact Nat.le_refl _ | exact Nat.le_succ _ | assumption | (dsimp only; omega) | (exact Nat.le_trans (by assumption) (Nat.le_succ _)) | (simp; omega)) _))); (first | assumption | exact Below.refl _ _)))).mono ?_; rintro e wt ⟨⟨st, pt, lt, ct, rfl, ht⟩, hbt⟩; (try (have rA : wt.heap[Z5.heap.size]? = some (.cells #[.bool false, .slice none 0 0] 25 (0, 0)) := of_via hbt (by exact heap_alloc_new _ _))); have belt := of_on (D := Z5) (by ((try (repeat (first | refine of_al ?_ _ | refine of_dr ?_ | refine of_st ?_ (by first | exact Nat.le_refl _ | exact Nat.le_succ _ | assumption | (dsimp only; omega) | (exact Nat.le_trans (by assumption) (Nat.le_succ _)) | (simp; omega)) _))); (first | assumption | exact Below.refl _ _))) hbt; have kt := belt.size; clear hbt)
          | (go_at_call 67; refine (HMI.out _ _ (by ((try (repeat (first | refine of_al ?_ _ | refine of_dr ?_ | refine of_st ?_ (by first | exact Nat.le_refl _ | exact Nat.le_succ _ | assumption | (dsimp only; omega) | (exact Nat.le_trans (by assumption) (Nat.le_succ _)) | (simp; omega)) _))); (first | assumption | exact Below.refl _ _))) (ht.below (by ((try (repeat (first | refine of_al ?_ _ | refine of_dr ?_ | refine of_st ?_ (by first | exact Nat.le_refl _ | exact Nat.le_succ _ | assumption | (dsimp only; omega) | (exact Nat.le_trans (by assumption) (Nat.le_succ _)) | (simp; omega)) _))); (first | assumption | exact Below.refl _ _))))).mono ?_; rintro e wm ⟨⟨sz, pz, lz, cz, rfl, hmn⟩, hbm⟩; (try (have rA6 : wm.heap[Z5.heap.size]? = some (.cells #[.bool false, .slice none 0 0] 25 (0, 0)) := of_via hbm (by exact rA); have fA0 := frozen_of_row _ _ 0 _ _ rA6; have fA1 := frozen_of_row _ _ 1 _ _ rA6; have gA0 := cell_of_row _ _ 0 _ _ (0, 0) rA6; have gA1 := cell_of_row _ _ 1 _ _ (0, 0) rA6; simp only [List.getElem?_toArray, List.getElem?_cons_zero, List.getElem?_cons_succ] at gA0 gA1)); (try (have rB6 : wm.heap[wt.heap.size]? = some (.cells #[.bool false, .slice none 0 0] 25 (0, 0)) := of_via hbm (by exact heap_alloc_new _ _); have fB0 := frozen_of_row _ _ 0 _ _ rB6; have fB1 := frozen_of_row _ _ 1 _ _ rB6; have gB0 := cell_of_row _ _ 0 _ _ (0, 0) rB6; have gB1 := cell_of_row _ _ 1 _ _ (0, 0) rB6; simp only [List.getElem?_toArray, List.getElem?_cons_zero, List.getElem?_cons_succ] at gB0 gB1)); have belm := of_on (D := Z5) (by ((try (repeat (first | refine of_al ?_ _ | refine of_dr ?_ | refine of_st ?_ (by first | exact Nat.le_refl _ | exact Nat.le_succ _ | assumption | (dsimp only; omega) | (exact Nat.le_trans (by assumption) (Nat.le_succ _)) | (simp; omega)) _))); (first | assumption | exact Below.refl _ _))) hbm; have km := belm.size; clear hbm))
      all_goals (go_upto_region 10 with fail)
      all_goals (first
        | (obtain ⟨g, hg0⟩ : ∃ g, g = wm.heap.size := ⟨_, rfl⟩; obtain ⟨wc, hwc⟩ : ∃ wc, wc = wm.alloc (.cells #[.bool sz, .slice pz lz cz] 25) := ⟨_, rfl⟩; rw [← hwc]; have hkz := Lib.hid (show Kept wc g sz pz lz cz ZN by rw [hwc, hg0]; exact ⟨heap_alloc_new _ _, hmn.below (below_one _ _)⟩); have hbz := Lib.hid (show Below Z5.heap.size Z5 wc by rw [hwc]; exact (by ((try (repeat (first | refine of_al ?_ _ | refine of_dr ?_ | refine of_st ?_ (by first | exact Nat.le_refl _ | exact Nat.le_succ _ | assumption | (dsimp only; omega) | (exact Nat.le_trans (by assumption) (Nat.le_succ _)) | (simp; omega)) _))); (first | assumption | exact Below.refl _ _)))); have hg : Z5.heap.size ≤ g := (by rw [hg0]; first | exact Nat.le_refl _ | omega); rw [← hg0]; clear hwc hg0)
        | (obtain ⟨g, hg0⟩ : ∃ g, g = Z5.heap.size := ⟨_, rfl⟩; obtain ⟨wc, hwc⟩ : ∃ wc, wc = (wm.setCell ⟨Z5.heap.size, 0, none⟩ (.bool sz)).setCell ⟨Z5.heap.size, 1, none⟩ (.slice pz lz cz) := ⟨_, rfl⟩; rw [← hwc]; have hkz := Lib.hid (show Kept wc g sz pz lz cz ZN by rw [hwc, hg0]; exact kept_put hmn rA6); have hbz := Lib.hid (show Below Z5.heap.size Z5 wc by rw [hwc]; exact (by ((try (repeat (first | refine of_al ?_ _ | refine of_dr ?_ | refine of_st ?_ (by first | exact Nat.le_refl _ | exact Nat.le_succ _ | assumption | (dsimp only; omega) | (exact Nat.le_trans (by assumption) (Nat.le_succ _)) | (simp; omega)) _))); (first | assumption | exact Below.refl _ _)))); have hg : Z5.heap.size ≤ g := (by rw [hg0]; first | exact Nat.le_refl _ | omega); rw [← hg0]; clear hwc hg0)
        | (obtain ⟨g, hg0⟩ : ∃ g, g = wt.heap.size := ⟨_, rfl⟩; obtain ⟨wc, hwc⟩ : ∃ wc, wc = (wm.setCell ⟨wt.heap.size, 0, none⟩ (.bool sz)).setCell ⟨wt.heap.size, 1, none⟩ (.slice pz lz cz) := ⟨_, rfl⟩; rw [← hwc]; have hkz := Lib.hid (show Kept wc g sz pz lz cz ZN by rw [hwc, hg0]; exact kept_put hmn rB6); have hbz := Lib.hid (show Below Z5.heap.size Z5 wc by rw [hwc]; exact (by ((try (repeat (first | refine of_al ?_ _ | refine of_dr ?_ | refine of_st ?_ (by first | exact Nat.le_refl _ | exact Nat.le_succ _ | assumption | (dsimp only; omega) | (exact Nat.le_trans (by assumption) (Nat.le_succ _)) | (simp; omega)) _))); (first | assumption | exact Below.refl _ _)))); have hg : Z5.heap.size ≤ g := (by rw [hg0]; first | exact Nat.le_refl _ | omega); rw [← hg0]; clear hwc hg0))
      all_goals
        clear zx0 zx1 zy0 zy1 zd0 zd1 HT HMI hrr lF lF1 lQ
        obtain ⟨M5, B5, C5, X5, Y5, RR5, BW5⟩ := HA5.out
        have M6 := M5.on hbz.out
        have B6 := B5.on hbz.out
        have C6 := C5.on hbz.out
        have X6 := X5.on hbz.out
        have Y6 := Y5.on hbz.out
        have RR6 := (hbz.out.block _ (lt_of_block RR5)).trans RR5
        have BW6 := BW5.trans (hbz.out.mono BW5.size)
        have hn := HNW.out
        have hnd := HGD.out
        have hnq := HQ5.out
        have HA6 := Lib.hid (And.intro M6 (And.intro B6 (And.intro C6 (And.intro X6 (And.intro Y6 (And.intro RR6 BW6))))))
        clear M5 B5 C5 X5 Y5 RR5 BW5 M6 B6 C6 RR6 BW6 HA5
        have c0y := Y6.c0
        have c1y := Y6.c1
        have k0 := cell_of_row _ _ 0 _ _ (0, 0) X6.row
        have k1 := cell_of_row _ _ 1 _ _ (0, 0) X6.row
        have f0 := frozen_of_row _ _ 0 _ _ X6.row
        have f1 := frozen_of_row _ _ 1 _ _ X6.row
        simp only [List.getElem?_toArray, List.getElem?_cons_zero, List.getElem?_cons_succ] at k0 k1
        clear X6 Y6
        go_upto_region 11 with fail
        clear c0y c1y k0 k1 f0 f1
        obtain ⟨M6, B6, C6, X6, Y6, RR6, BW6⟩ := HA6.out
        obtain ⟨Z7, hZ7⟩ : ∃ Z7, Z7 = (wc.setCell ⟨gc + 1, 0, none⟩ (.bool sy)).setCell ⟨gc + 1, 1, none⟩ (.slice py ly cy) := ⟨_, rfl⟩
        rw [← hZ7]
        have X7 : Kept Z7 (gc + 1) sy py ly cy (invF a m (i + 1)) := by rw [hZ7]; exact kept_put Y6.num X6.row
        have Y7 : Kept Z7 gy sy py ly cy (invF a m (i + 1)) := by rw [hZ7]; exact kept_off Y6 (by omega) X6.row
        have M7 : Kept Z7 (K + 1) sm pm lm' cm m := by rw [hZ7]; exact kept_off M6 (by omega) X6.row
        have B7 : Kept Z7 (K + 1 + 1 + 1) sc pc lc cc (((eros m.natAbs (divR 3 a m).natAbs (i + 1)).1 : Nat) : Int) := by rw [hZ7]; exact kept_off B6 (by omega) X6.row
        have C7 : Kept Z7 gc sr pr lr cr (((eros m.natAbs (divR 3 a m).natAbs i).1 % (eros m.natAbs (divR 3 a m).natAbs (i + 1)).1 : Nat) : Int) := by rw [hZ7]; exact kept_off C6 (by omega) X6.row
        have N7 : Kept Z7 g sz pz lz cz ZN := by rw [hZ7]; exact kept_off hkz.out (by omega) X6.row
        have RR7 : Z7.heap[K + 1 + 1]? = some (.cells #[.bool false, .slice none 0 0] 25 (0, 0)) := by rw [hZ7]; exact (box_other _ _ (by omega)).trans RR6
        have BW7 : Below w.heap.size w Z7 := by rw [hZ7]; exact below_ibox BW6 (g := gc + 1) (by have := HKW.out; omega) _ _
        have HA7 := Lib.hid (And.intro M7 (And.intro B7 (And.intro C7 (And.intro X7 (And.intro Y7 (And.intro N7 (And.intro RR7 BW7)))))))
        have c0z := N7.c0
        have c1z := N7.c1
        have k0 := cell_of_row _ _ 0 _ _ (0, 0) Y7.row
        have k1 := cell_of_row _ _ 1 _ _ (0, 0) Y7.row
        have f0 := frozen_of_row _ _ 0 _ _ Y7.row
        have f1 := frozen_of_row _ _ 1 _ _ Y7.row
        simp only [List.getElem?_toArray, List.getElem?_cons_zero, List.getElem?_cons_succ] at k0 k1
        have hg' := Nat.lt_of_lt_of_le hnq hg
        have HGG := Lib.hid hg'
        clear hZ7 M6 B6 C6 X6 Y6 RR6 BW6 HA6 M7 B7 C7 X7 Y7 N7 RR7 BW7 hkz hbz hg hg' hn hnd hnq
        go_wp2_with fail
        obtain ⟨M7, B7, C7, X7, Y7, N7, RR7, BW7⟩ := HA7.out
        have hn := HNW.out
        have hnd := HGD.out
        have hgg := HGG.out
        have ec : (eros m.natAbs (divR 3 a m).natAbs i).1 % (eros m.natAbs (divR 3 a m).natAbs (i + 1)).1 = (eros m.natAbs (divR 3 a m).natAbs (i + 1 + 1)).1 := (eros_rest _ _ _).symm
        have C8 := kept_off (u := sz) (r := pz) (m' := lz) (d' := cz) C7 (show ¬ gc = gy by omega) Y7.row
        have Y8 := kept_put (h := gy) N7.num Y7.row
        rw [ec] at C8
        rw [HZN.out] at Y8
        have lt1 := eros_fall (m.natAbs) ((divR 3 a m).natAbs) i (Nat.pos_of_ne_zero HZ.out)
        have hmu := HMU.out
        rw [Int.natAbs_natCast] at hmu
        have kc8 := kn_of C8
        rw [Int.natAbs_natCast] at kc8
        have HF := Lib.hid (And.intro lt1 (And.intro hmu kc8))
        clear lt1 hmu kc8
        go_roundw
        case rel =>
          exact ⟨i + 1, fun j hj => (Nat.lt_or_eq_of_le (Nat.le_of_lt_succ hj)).elim (fun h => hi.out j h) (fun h => by rw [h]; exact HZ.out), kept_off M7 (by omega) Y7.row, ⟨_, _, _, _, kept_off B7 (by omega) Y7.row⟩, ⟨_, _, _, _, C8⟩, ⟨_, _, _, _, kept_off X7 (by omega) Y7.row⟩, ⟨_, _, _, _, Y8⟩, (box_other _ _ (by omega)).trans RR7, below_ibox BW7 (g := gy) (by have := HKW.out; omega) _ _⟩
        case measure =>
          rw [HF.out.2.1, HF.out.2.2]
          exact HF.out.1
end Go.Proofs.YtkbghamkalidcaaGreat

namespace Go.Proofs.YtkbghamkalidcaaGreat
open Go.RowKit

theorem divQ_exact {x y : Int} (hy : y ≠ 0) (hd : y ∣ x) : divQ 1 x y * y = x := by
  have hz : x.natAbs % y.natAbs = 0 := Nat.mod_eq_zero_of_dvd (Int.natAbs_dvd_natAbs.2 hd)
  have e : divR 1 x y = 0 := by rw [divR, if_pos (.inl hz), hz]; cases negB x <;> rfl
  have h := divR_eq 1 x y hy
  omega
theorem invI_inverse {a m : Int} (hm : 0 < m) (hg : cG a m = 1) : invI a m = cX a m := by
  obtain ⟨-, e1, -, -, e4, -⟩ := g_all a m
  rw [hg] at e1 e4
  obtain ⟨x0, x1⟩ := e4 (by omega)
  exact invI_only hm e1 x0 (by omega)
/-- the factors as the reference finds them -/
theorem ref_factors {a b : Int} (hb : b ≠ 0) : 0 < ((divQ 1 b (cG a b)).natAbs : Int) ∧ invI (divQ 1 a (cG a b)) ((divQ 1 b (cG a b)).natAbs : Int) = cX a b ∧ divQ 1 (cG a b - a * cX a b) b = cY a b := by
  obtain ⟨g0, e1, d1, d2, e4, e5⟩ := g_all a b
  obtain ⟨x0, x1⟩ := e4 hb
  have hg : cG a b ≠ 0 := fun h => hb (e5 h).2
  have q1 := divQ_exact hg d1
  have q2 := divQ_exact hg d2
  generalize hA : divQ 1 a (cG a b) = A at *
  generalize hB : divQ 1 b (cG a b) = B at *
  have hB0 : B ≠ 0 := fun h => hb (by rw [← q2, h, Int.zero_mul])
  have hgp : 0 < cG a b := by omega
  generalize hG : cG a b = g at *
  generalize hX : cX a b = X at *
  generalize hY : cY a b = Y at *
  have f1 : A * X + B * Y = 1 := by
    have h1 : (A * X + B * Y) * g = 1 * g := by rw [← q1, ← q2] at e1; grind
    exact Int.eq_of_mul_eq_mul_right hg h1
  have f2 : (b.natAbs : Int) = (B.natAbs : Int) * g := by
    rw [← q2, Int.natAbs_mul, Int.natCast_mul, Int.natAbs_of_nonneg (Int.le_of_lt hgp)]
  have f3 : X < (B.natAbs : Int) := by
    rw [f2] at x1
    exact Int.lt_of_mul_lt_mul_right x1 (by omega)
  refine ⟨by omega, ?_, ?_⟩
  · rcases (show (B.natAbs : Int) = B ∨ (B.natAbs : Int) = -B by omega) with h | h
    · exact invI_only (Y := Y) (by omega) (by rw [h]; exact f1) x0 f3
    · exact invI_only (Y := -Y) (by omega) (by rw [h, Int.neg_mul_neg]; exact f1) x0 f3
  · have h1 : g - a * X = Y * b := by rw [Int.mul_comm Y b]; omega
    rw [h1]
    have h2 := divQ_exact (x := Y * b) hb (Int.dvd_mul_left Y b)
    exact Int.eq_of_mul_eq_mul_right hb h2
theorem cG_gcd {a b : Int} (hb : b ≠ 0) : cG a b = ((Nat.gcd a.natAbs b.natAbs : Nat) : Int) := by
  obtain ⟨g0, e1, d1, d2, -, -⟩ := g_all a b
  have h1 : (cG a b).natAbs ∣ Nat.gcd a.natAbs b.natAbs := Nat.dvd_gcd (Int.natAbs_dvd_natAbs.2 d1) (Int.natAbs_dvd_natAbs.2 d2)
  have h2 : Nat.gcd a.natAbs b.natAbs ∣ (cG a b).natAbs := by
    have h3 : ((Nat.gcd a.natAbs b.natAbs : Nat) : Int) ∣ cG a b := by
      rw [← e1]
      exact Int.dvd_add (Int.dvd_mul_of_dvd_left (Int.dvd_natAbs.1 (Int.natCast_dvd_natCast.2 (Nat.gcd_dvd_left _ _)))) (Int.dvd_mul_of_dvd_left (Int.dvd_natAbs.1 (Int.natCast_dvd_natCast.2 (Nat.gcd_dvd_right _ _))))
    exact Int.natCast_dvd_natCast.1 (Int.dvd_natAbs.2 h3)
  have h4 := Nat.dvd_antisymm h1 h2
  omega
end Go.Proofs.YtkbghamkalidcaaGreat

namespace Go.Proofs.YtkbghamkalidcaaGreat
open Go.RowKit

theorem fit50 {s : Bool} {xs : List Nat} (hs : Nl.Small xs) (h : validI s xs = true) (hl : xs.length ≤ 50) : (Nl.limbs (sgn s (Nl.val xs)).natAbs).length ≤ 50 := by
  have h1 := (validI_norm hs h).2.1
  rw [← h1]; exact hl

set_option maxRecDepth 10000 in
set_option maxHeartbeats 8000000 in
theorem rInverse_any (v0 : Value) (s0 : Bool) (xs : List Nat) (v1 : Value) (s1 : Bool) (ys : List Nat) (w : World) (h0 : AtI w v0 s0 xs) (m0 : Nl.Small xs) (h1 : AtI w v1 s1 ys) (m1 : Nl.Small ys) (k0 : xs.length ≤ 50) (k1 : ys.length ≤ 50) :
    Calls Tryz.prog 35 #[v0, v1] w fun e w' => GotI w w' e (if (validI s0 xs && validI s1 ys) = true then invK (sgn s0 (Nl.val xs)) (sgn s1 (Nl.val ys)) else 1) (cX (sgn s0 (Nl.val xs)) (sgn s1 (Nl.val ys))) := by
  obtain ⟨p0, c0, rfl, u0⟩ := h0.form
  obtain ⟨p1, c1, rfl, u1⟩ := h1.form
  obtain ⟨KK, hKK⟩ : ∃ k, k = (if (validI s0 xs && validI s1 ys) = true then invK (sgn s0 (Nl.val xs)) (sgn s1 (Nl.val ys)) else 1) := ⟨_, rfl⟩
  rw [← hKK]
  have HKK := Lib.hid hKK
  clear hKK
  obtain ⟨l0, hl0⟩ : ∃ l0, l0 = xs.length := ⟨_, rfl⟩
  obtain ⟨l1, hl1⟩ : ∃ l1, l1 = ys.length := ⟨_, rfl⟩
  rw [← hl0] at h0 k0 ⊢
  rw [← hl1] at h1 k1 ⊢
  obtain ⟨W, hW⟩ : ∃ W, W = ((w.alloc (.cells #[.bool s0, .slice p0 l0 c0] 25)).alloc (.cells #[.bool s1, .slice p1 l1 c1] 25)).alloc (.cells #[.bool false, .slice none 0 0, .int .i64 0] 45) := ⟨_, rfl⟩
  have hb : Below w.heap.size w W := by rw [hW]; exact three_new w _ _ _
  obtain ⟨K, hK⟩ : ∃ K, K = w.heap.size := ⟨_, rfl⟩
  have B0 : W.heap[K]? = some (.cells #[.bool s0, .slice p0 l0 c0] 25 (0, 0)) := by rw [hW, hK]; exact al_keep _ _ (by simp <;> omega) (al_keep _ _ (by simp <;> omega) (al_at _ _ (by simp)))
  have B1 : W.heap[K + 1]? = some (.cells #[.bool s1, .slice p1 l1 c1] 25 (0, 0)) := by rw [hW, hK]; exact al_keep _ _ (by simp <;> omega) (al_at _ _ (by simp))
  have B2 : W.heap[K + 1 + 1]? = some (.cells #[.bool false, .slice none 0 0, .int .i64 0] 45 (0, 0)) := by rw [hW, hK]; exact al_at _ _ (by simp)
  have HW := Lib.hid (And.intro B0 (And.intro B1 (And.intro B2 hb)))
  have HU := Lib.hid (And.intro (h0.below hb) (And.intro (h1.below hb) (And.intro m0 m1)))
  have HV0 := Lib.hid (ref2Valid_any _ s0 xs W (h0.below hb))
  have HL := Lib.hid (And.intro k0 (And.intro k1 (And.intro hl0 hl1)))
  have ka0 := cell_of_row _ _ 0 _ _ (0, 0) B0
  have ka1 := cell_of_row _ _ 1 _ _ (0, 0) B0
  simp only [List.getElem?_toArray, List.getElem?_cons_zero, List.getElem?_cons_succ] at ka0 ka1
  have kb0 := cell_of_row _ _ 0 _ _ (0, 0) B1
  have kb1 := cell_of_row _ _ 1 _ _ (0, 0) B1
  simp only [List.getElem?_toArray, List.getElem?_cons_zero, List.getElem?_cons_succ] at kb0 kb1
  have kr0 := cell_of_row _ _ 0 _ _ (0, 0) B2
  have kr1 := cell_of_row _ _ 1 _ _ (0, 0) B2
  have kr2 := cell_of_row _ _ 2 _ _ (0, 0) B2
  simp only [List.getElem?_toArray, List.getElem?_cons_zero, List.getElem?_cons_succ] at kr0 kr1 kr2
  have fkr0 := frozen_of_row _ _ 0 _ _ B2
  have fkr1 := frozen_of_row _ _ 1 _ _ B2
  have fkr2 := frozen_of_row _ _ 2 _ _ B2
  clear h0 u0 m0 h1 u1 m1 hb B0 B1 B2 k0 k1 hl0 hl1
  cases hok0 : validI s0 xs with
  | false =>
    rw [hok0] at HV0
    have HC := Lib.hid (show KK = 1 by rw [HKK.out, hok0, Bool.false_and, if_neg (by decide)])
    go_enter Tryz.func35, Tryz.ntmps35
    go_upto_region 1 with fail
    rw [← hW, ← hK]
    have HKW := Lib.hid hK
    clear hW hK hok0
    go_wp2_with fail
    refine HV0.out.mono ?_
    rintro e w1 ⟨rfl, hb1⟩
    have H1 := Lib.hid (And.intro ((hb1.block _ (lt_of_block HW.out.1)).trans HW.out.1) (And.intro ((hb1.block _ (lt_of_block HW.out.2.1)).trans HW.out.2.1) (And.intro ((hb1.block _ (lt_of_block HW.out.2.2.1)).trans HW.out.2.2.1) (HW.out.2.2.2.trans (hb1.mono HW.out.2.2.2.size)))))
    clear hb1 ka0 ka1 kb0 kb1 kr0 kr1 kr2 fkr0 fkr1 fkr2 HW HU HL HV0
    have R := H1.out.2.2.1
    have kr0 := cell_of_row _ _ 0 _ _ (0, 0) R
    have kr1 := cell_of_row _ _ 1 _ _ (0, 0) R
    have kr2 := cell_of_row _ _ 2 _ _ (0, 0) R
    simp only [List.getElem?_toArray, List.getElem?_cons_zero, List.getElem?_cons_succ] at kr0 kr1 kr2
    have fkr0 := frozen_of_row _ _ 0 _ _ R
    have fkr1 := frozen_of_row _ _ 1 _ _ R
    have fkr2 := frozen_of_row _ _ 2 _ _ R
    clear R
    go_wp2_with fail
    refine bodyPost_ret (v := .agg #[.bool false, .slice none 0 0, .int .i64 1]) (results_cell_row Tryz.results35 _ _ (K + 1 + 1) 45 _ (0, 0) _ rfl (got_set (g := K + 1 + 1) _ _ _ H1.out.2.2.1) Tryz.underlying45 rfl (by kernel_rfl)) rfl ?_
    show GotI w _ _ KK _
    rw [HC.out]
    exact ⟨below_row (g := K + 1 + 1) H1.out.2.2.2 (by rw [← HKW.out]; omega) _ _ _, _, _, _, _, rfl, fun h => absurd h (by decide), fun _ => ⟨rfl, rfl, rfl, rfl⟩⟩
  | true =>
    rw [hok0] at HV0
    have HO0 := Lib.hid hok0
    clear hok0
    go_enter Tryz.func35, Tryz.ntmps35
    go_upto_region 1 with fail
    rw [← hW, ← hK]
    have HKW := Lib.hid hK
    clear hW hK
    go_wp2_with fail
    refine HV0.out.mono ?_
    rintro e w1 ⟨rfl, hb1⟩
    have hv1 := ref2Valid_any _ s1 ys w1 (HU.out.2.1.below hb1)
    have H1 := Lib.hid (And.intro ((hb1.block _ (lt_of_block HW.out.1)).trans HW.out.1) (And.intro ((hb1.block _ (lt_of_block HW.out.2.1)).trans HW.out.2.1) (And.intro ((hb1.block _ (lt_of_block HW.out.2.2.1)).trans HW.out.2.2.1) (HW.out.2.2.2.trans (hb1.mono HW.out.2.2.2.size)))))
    have HV1 := Lib.hid hv1
    have HU1 := Lib.hid (And.intro (HU.out.1.below hb1) (And.intro (HU.out.2.1.below hb1) HU.out.2.2))
    clear hb1 ka0 ka1 kb0 kb1 kr0 kr1 kr2 fkr0 fkr1 fkr2 HW HV0 HU hv1
    have A := H1.out.1
    have B := H1.out.2.1
    have ka0 := cell_of_row _ _ 0 _ _ (0, 0) A
    have ka1 := cell_of_row _ _ 1 _ _ (0, 0) A
    simp only [List.getElem?_toArray, List.getElem?_cons_zero, List.getElem?_cons_succ] at ka0 ka1
    have kb0 := cell_of_row _ _ 0 _ _ (0, 0) B
    have kb1 := cell_of_row _ _ 1 _ _ (0, 0) B
    simp only [List.getElem?_toArray, List.getElem?_cons_zero, List.getElem?_cons_succ] at kb0 kb1
    clear A B
    go_wp2_with fail
    refine HV1.out.mono ?_
    rintro e w2 ⟨rfl, hb2⟩
    have H2 := Lib.hid (And.intro ((hb2.block _ (lt_of_block H1.out.1)).trans H1.out.1) (And.intro ((hb2.block _ (lt_of_block H1.out.2.1)).trans H1.out.2.1) (And.intro ((hb2.block _ (lt_of_block H1.out.2.2.1)).trans H1.out.2.2.1) (H1.out.2.2.2.trans (hb2.mono H1.out.2.2.2.size)))))
    have HU2 := Lib.hid (And.intro (HU1.out.1.below hb2) (And.intro (HU1.out.2.1.below hb2) HU1.out.2.2))
    clear hb2 ka0 ka1 kb0 kb1 H1 HV1 HU1
    have A := H2.out.1
    have B := H2.out.2.1
    have R := H2.out.2.2.1
    have ka0 := cell_of_row _ _ 0 _ _ (0, 0) A
    have ka1 := cell_of_row _ _ 1 _ _ (0, 0) A
    simp only [List.getElem?_toArray, List.getElem?_cons_zero, List.getElem?_cons_succ] at ka0 ka1
    have kb0 := cell_of_row _ _ 0 _ _ (0, 0) B
    have kb1 := cell_of_row _ _ 1 _ _ (0, 0) B
    simp only [List.getElem?_toArray, List.getElem?_cons_zero, List.getElem?_cons_succ] at kb0 kb1
    have kr0 := cell_of_row _ _ 0 _ _ (0, 0) R
    have kr1 := cell_of_row _ _ 1 _ _ (0, 0) R
    have kr2 := cell_of_row _ _ 2 _ _ (0, 0) R
    simp only [List.getElem?_toArray, List.getElem?_cons_zero, List.getElem?_cons_succ] at kr0 kr1 kr2
    have fkr0 := frozen_of_row _ _ 0 _ _ R
    have fkr1 := frozen_of_row _ _ 1 _ _ R
    have fkr2 := frozen_of_row _ _ 2 _ _ R
    clear A B R
    cases hok1 : validI s1 ys with
    | false =>
      have HC := Lib.hid (show KK = 1 by rw [HKK.out, HO0.out, hok1, Bool.true_and, if_neg (by decide)])
      clear hok1 HU2 HL HO0
      go_wp2_with fail
      refine bodyPost_ret (v := .agg #[.bool false, .slice none 0 0, .int .i64 1]) (results_cell_row Tryz.results35 _ _ (K + 1 + 1) 45 _ (0, 0) _ rfl (got_set (g := K + 1 + 1) _ _ _ H2.out.2.2.1) Tryz.underlying45 rfl (by kernel_rfl)) rfl ?_
      show GotI w _ _ KK _
      rw [HC.out]
      exact ⟨below_row (g := K + 1 + 1) H2.out.2.2.2 (by rw [← HKW.out]; omega) _ _ _, _, _, _, _, rfl, fun h => absurd h (by decide), fun _ => ⟨rfl, rfl, rfl, rfl⟩⟩
    | true =>
      have HKA := Lib.hid (show KK = invK (sgn s0 (Nl.val xs)) (sgn s1 (Nl.val ys)) by rw [HKK.out, HO0.out, hok1, Bool.true_and, if_pos rfl])
      have f0 := fit50 HU2.out.2.2.1 HO0.out (by rw [← HL.out.2.2.1]; exact HL.out.1)
      have f1 := fit50 HU2.out.2.2.2 hok1 (by rw [← HL.out.2.2.2]; exact HL.out.2.1)
      have i0 := (isI_of_ok (at_of HU2.out.1) HU2.out.2.2.1 HO0.out).1
      have i1 := (isI_of_ok (at_of HU2.out.2.1) HU2.out.2.2.2 hok1).1
      obtain ⟨na, hna⟩ : ∃ n, n = sgn s0 (Nl.val xs) := ⟨_, rfl⟩
      obtain ⟨nb, hnb⟩ : ∃ n, n = sgn s1 (Nl.val ys) := ⟨_, rfl⟩
      rw [← hna] at f0 i0 HKA
      rw [← hnb] at f1 i1 HKA
      have HXN := Lib.hid (show cX (sgn s0 (Nl.val xs)) (sgn s1 (Nl.val ys)) = cX na nb by rw [hna, hnb])
      have sb := isI_sign i1
      have HI := Lib.hid (And.intro i0 (And.intro i1 (And.intro f0 f1)))
      clear hna hnb hok1 f0 f1 i0 i1 HU2 HL HO0
      by_cases hz : nb = 0
      · have hl : l1 = 0 := by rw [sb.2, hz]; show (Nl.limbs 0).length = 0; rw [Nl.limbs_zero]; rfl
        have HC := Lib.hid (show KK = 8 from HKA.out.trans (if_pos hz))
        subst hl
        clear sb hz HI
        go_wp2_with fail
        refine bodyPost_ret (v := .agg #[.bool false, .slice none 0 0, .int .i64 8]) (results_cell_row Tryz.results35 _ _ (K + 1 + 1) 45 _ (0, 0) _ rfl (got_set (g := K + 1 + 1) _ _ _ H2.out.2.2.1) Tryz.underlying45 rfl (by kernel_rfl)) rfl ?_
        show GotI w _ _ KK _
        rw [HC.out]
        exact ⟨below_row (g := K + 1 + 1) H2.out.2.2.2 (by rw [← HKW.out]; omega) _ _ _, _, _, _, _, rfl, fun h => absurd h (by decide), fun _ => ⟨rfl, rfl, rfl, rfl⟩⟩
      · have e1 : ((l1 : Int) == 0) = false := by rw [beq_eq_false_iff_ne]; have := Nl.len_pos (n := nb.natAbs) (by omega); rw [← sb.2] at this; omega
        by_cases hs : nb < 0
        · have hs1 : s1 = true := by rw [sb.1, negB, decide_eq_true hs]
          have HC := Lib.hid (show KK = 1 by rw [HKA.out, invK, if_neg hz, if_pos hs])
          subst hs1
          clear sb hz hs HI
          go_wp2_with fail
          refine bodyPost_ret (v := .agg #[.bool false, .slice none 0 0, .int .i64 1]) (results_cell_row Tryz.results35 _ _ (K + 1 + 1) 45 _ (0, 0) _ rfl (got_set (g := K + 1 + 1) _ _ _ H2.out.2.2.1) Tryz.underlying45 rfl (by kernel_rfl)) rfl ?_
          show GotI w _ _ KK _
          rw [HC.out]
          exact ⟨below_row (g := K + 1 + 1) H2.out.2.2.2 (by rw [← HKW.out]; omega) _ _ _, _, _, _, _, rfl, fun h => absurd h (by decide), fun _ => ⟨rfl, rfl, rfl, rfl⟩⟩
        · have hs1 : s1 = false := by rw [sb.1, negB, decide_eq_false hs]
          have HP := Lib.hid (And.intro hz (show 0 < nb by omega))
          subst hs1
          have HG := Lib.hid (refGcd_any (.slice p0 l0 c0) (.slice p1 l1 c1) na.natAbs nb.natAbs w2 (num_at HI.out.1) (num_at HI.out.2.1) (Nat.le_trans HI.out.2.2.1 (by decide)) (Nat.le_trans HI.out.2.2.2 (by decide)))
          clear sb hz hs
          go_wp2_with fail
          refine HG.out.mono ?_
          rintro e w3 ⟨⟨v3, rfl, hv3⟩, hb3⟩
          obtain ⟨p3, c3, rfl, -⟩ := AtP.form hv3
          obtain ⟨l3, hl3⟩ : ∃ l, l = (Nl.limbs (Nat.gcd na.natAbs nb.natAbs)).length := ⟨_, rfl⟩
          rw [← hl3] at hv3 ⊢
          obtain ⟨Z, hZ⟩ : ∃ Z, Z = w3.alloc (.cells #[.int .u32 1] 80) := ⟨_, rfl⟩
          have hz3 : Below w3.heap.size w3 Z := by rw [hZ]; exact below_one _ _
          have R1 : Z.heap[w3.heap.size]? = some (.cells #[.int .u32 1] 80 (0, 0)) := by rw [hZ]; exact heap_alloc_new _ _
          have hs := hb3.trans (hz3.mono hb3.size)
          have HS := Lib.hid (same_any (.slice p3 l3 c3) (.slice (some ⟨w3.heap.size, 0, none⟩) 1 1) _ _ Z (hv3.below hz3) (at_wordI Z _ R1))
          have H4 := Lib.hid (And.intro ((hs.block _ (lt_of_block H2.out.1)).trans H2.out.1) (And.intro ((hs.block _ (lt_of_block H2.out.2.1)).trans H2.out.2.1) (And.intro ((hs.block _ (lt_of_block H2.out.2.2.1)).trans H2.out.2.2.1) (H2.out.2.2.2.trans (hs.mono H2.out.2.2.2.size)))))
          have HI4 := Lib.hid (And.intro (HI.out.1.below hs) (And.intro (HI.out.2.1.below hs) HI.out.2.2))
          clear hv3 hb3 hz3 R1 hs hl3 HG HI H2 ka0 ka1 kb0 kb1 kr0 kr1 kr2 fkr0 fkr1 fkr2
          go_wp2_with fail
          rw [← hZ]
          clear hZ
          refine HS.out.mono ?_
          rintro e w4 ⟨rfl, k, rfl⟩
          have dk : Below Z.heap.size Z (Z.drewN k) := below_drewN Z k _
          have A : (Z.drewN k).heap[K]? = some (.cells #[.bool s0, .slice p0 l0 c0] 25 (0, 0)) := H4.out.1
          have B : (Z.drewN k).heap[K + 1]? = some (.cells #[.bool false, .slice p1 l1 c1] 25 (0, 0)) := H4.out.2.1
          have R : (Z.drewN k).heap[K + 1 + 1]? = some (.cells #[.bool false, .slice none 0 0, .int .i64 0] 45 (0, 0)) := H4.out.2.2.1
          have H5 := Lib.hid (And.intro A (And.intro B (And.intro R (H4.out.2.2.2.trans (dk.mono H4.out.2.2.2.size)))))
          have HI5 := Lib.hid (And.intro (HI4.out.1.below dk) (And.intro (HI4.out.2.1.below dk) HI4.out.2.2))
          have ka0 := cell_of_row _ _ 0 _ _ (0, 0) A
          have ka1 := cell_of_row _ _ 1 _ _ (0, 0) A
          simp only [List.getElem?_toArray, List.getElem?_cons_zero, List.getElem?_cons_succ] at ka0 ka1
          have kb0 := cell_of_row _ _ 0 _ _ (0, 0) B
          have kb1 := cell_of_row _ _ 1 _ _ (0, 0) B
          simp only [List.getElem?_toArray, List.getElem?_cons_zero, List.getElem?_cons_succ] at kb0 kb1
          have kr0 := cell_of_row _ _ 0 _ _ (0, 0) R
          have kr1 := cell_of_row _ _ 1 _ _ (0, 0) R
          have kr2 := cell_of_row _ _ 2 _ _ (0, 0) R
          simp only [List.getElem?_toArray, List.getElem?_cons_zero, List.getElem?_cons_succ] at kr0 kr1 kr2
          have fkr0 := frozen_of_row _ _ 0 _ _ R
          have fkr1 := frozen_of_row _ _ 1 _ _ R
          have fkr2 := frozen_of_row _ _ 2 _ _ R
          obtain ⟨Y, hY⟩ : ∃ Y, Y = Z.drewN k := ⟨_, rfl⟩
          rw [← hY] at ka0 ka1 kb0 kb1 kr0 kr1 kr2 fkr0 fkr1 fkr2 H5 HI5 ⊢
          clear hY dk A B R H4 HI4 HS
          by_cases hg : cG na nb = 1
          · have hgg : Nat.gcd na.natAbs nb.natAbs = 1 := by have := cG_gcd (a := na) HP.out.1; omega
            have es : sameB (Nl.limbs (Nat.gcd na.natAbs nb.natAbs)) (Nl.limbs 1) = true := decide_eq_true (by rw [hgg])
            have HC := Lib.hid (show KK = 0 by rw [HKA.out, invK, if_neg HP.out.1, if_neg (by have := HP.out.2; omega), if_pos hg])
            have hv := inverted_any _ _ na nb Y HI5.out.1 HI5.out.2.1 HI5.out.2.2.1 HI5.out.2.2.2 HP.out.2
            rw [invI_inverse HP.out.2 hg] at hv
            have HV := Lib.hid hv
            clear hg hgg hv
            rw [es]
            go_wp2_with fail
            refine HV.out.mono ?_
            rintro e w6 ⟨⟨s6, p6, l6, c6, rfl, h6⟩, hb6⟩
            have Q := (hb6.block _ (lt_of_block H5.out.2.2.1)).trans H5.out.2.2.1
            have HZ := Lib.hid (And.intro Q (And.intro h6 (H5.out.2.2.2.trans (hb6.mono H5.out.2.2.2.size))))
            clear ka0 ka1 kb0 kb1 kr0 kr1 kr2 fkr0 fkr1 fkr2 h6 hb6 HV
            have kr0 := cell_of_row _ _ 0 _ _ (0, 0) Q
            have kr1 := cell_of_row _ _ 1 _ _ (0, 0) Q
            have kr2 := cell_of_row _ _ 2 _ _ (0, 0) Q
            simp only [List.getElem?_toArray, List.getElem?_cons_zero, List.getElem?_cons_succ] at kr0 kr1 kr2
            have fkr0 := frozen_of_row _ _ 0 _ _ Q
            have fkr1 := frozen_of_row _ _ 1 _ _ Q
            have fkr2 := frozen_of_row _ _ 2 _ _ Q
            clear Q
            go_wp2_with fail
            refine bodyPost_ret (v := .agg #[.bool s6, .slice p6 l6 c6, .int .i64 0]) (results_cell_row Tryz.results35 _ _ (K + 1 + 1) 45 _ (0, 0) _ rfl (got_set (g := K + 1 + 1) _ _ _ HZ.out.1) Tryz.underlying45 rfl (by kernel_rfl)) rfl ?_
            show GotI w _ _ KK _
            rw [HC.out, HXN.out]
            exact ⟨below_row (g := K + 1 + 1) HZ.out.2.2 (by rw [← HKW.out]; omega) _ _ _, _, _, _, _, rfl, fun _ => isI_three (g := K + 1 + 1) HZ.out.2.1 HZ.out.1, fun h => absurd rfl h⟩
          · have hgg : Nat.gcd na.natAbs nb.natAbs ≠ 1 := by have := cG_gcd (a := na) HP.out.1; omega
            have es : sameB (Nl.limbs (Nat.gcd na.natAbs nb.natAbs)) (Nl.limbs 1) = false := decide_eq_false (fun h => hgg (Nl.limbs_inj h))
            have HC := Lib.hid (show KK = 5 by rw [HKA.out, invK, if_neg HP.out.1, if_neg (by have := HP.out.2; omega), if_neg hg])
            clear hg hgg HI5
            rw [es]
            go_wp2_with fail
            refine bodyPost_ret (v := .agg #[.bool false, .slice none 0 0, .int .i64 5]) (results_cell_row Tryz.results35 _ _ (K + 1 + 1) 45 _ (0, 0) _ rfl (got_set (g := K + 1 + 1) _ _ _ H5.out.2.2.1) Tryz.underlying45 rfl (by kernel_rfl)) rfl ?_
            show GotI w _ _ KK _
            rw [HC.out]
            exact ⟨below_row (g := K + 1 + 1) H5.out.2.2.2 (by rw [← HKW.out]; omega) _ _ _, _, _, _, _, rfl, fun h => absurd h (by decide), fun _ => ⟨rfl, rfl, rfl, rfl⟩⟩
end Go.Proofs.YtkbghamkalidcaaGreat
