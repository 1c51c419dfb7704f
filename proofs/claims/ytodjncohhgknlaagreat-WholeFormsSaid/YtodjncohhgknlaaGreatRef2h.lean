/-
  What the reference's ToInt of integers does. Conditions: those that each theorem names.
-/
import Derived.Test.YtodjncohhgknlaaGreatLawSums
import Derived.Test.YtodjncohhgknlaaGreatBits2All
namespace Go.Proofs.YtodjncohhgknlaaGreat
open Go.RowKit

theorem sameI_any (va vb : Value) (a b : Int) (w : World) (ha : IsI w va a) (hb : IsI w vb b) :
    Calls Tryz.prog 27 #[va, vb] w fun e w' => e = .returned (.bool (decide (a = b))) ∧ Below w.heap.size w w' :=
  (ref2Same_any va vb _ _ _ _ w ha hb).mono fun e w' h => ⟨by
    rw [h.1]
    congr 2
    by_cases he : a = b
    · subst he; rw [sameB_refl, decide_eq_true rfl]; simp
    · rw [decide_eq_false he, Bool.and_eq_false_iff]
      by_cases hn : negB a = negB b
      · right
        rw [sameB, decide_eq_false_iff_not]
        intro hl
        have h1 : a.natAbs = b.natAbs := by rw [← Nl.val_limbs a.natAbs, hl, Nl.val_limbs]
        have h2 : (a < 0) ↔ (b < 0) := by
          have h3 : decide (a < 0) = decide (b < 0) := hn
          by_cases h4 : a < 0 <;> by_cases h5 : b < 0 <;> simp [h4, h5] at h3 ⊢
        omega
      · left
        simpa using hn, h.2⟩

theorem bits_big {m : Nat} : 63 < nbits m ↔ 9223372036854775808 ≤ m := by
  constructor
  · intro h
    have h0 : m ≠ 0 := by intro h0; rw [h0] at h; exact absurd h (by decide)
    have h1 := nbits_le h0
    have h2 : 2 ^ 63 ≤ 2 ^ (nbits m - 1) := Nat.pow_le_pow_right (by decide) (by omega)
    exact Nat.le_trans (by decide) (Nat.le_trans h2 h1)
  · intro h
    rcases Nat.lt_or_ge 63 (nbits m) with h1 | h1
    · exact h1
    · have h2 := lt_nbits m
      have h3 : 2 ^ nbits m ≤ 2 ^ 63 := Nat.pow_le_pow_right (by decide) h1
      have h4 : (2 ^ 63 : Nat) = 9223372036854775808 := by decide
      omega

theorem wraps1 {m : Nat} (h : m < 4294967296) : IntKind.i64.wrap (m : Int) = (m : Int) ∧ IntKind.i64.wrap (-(m : Int)) = -(m : Int) := by
  constructor <;> (rw [IntKind.wrap_i64]; omega)
theorem wraps2 {x y : Nat} (hx : x < 4294967296) (hy : y < 2147483648) : IntKind.i64.wrap (y : Int) = (y : Int) ∧ IntKind.i64.wrap ((y : Int) * 4294967296) = (y : Int) * 4294967296 ∧
    IntKind.i64.wrap ((y : Int) * 4294967296 + (x : Int)) = (y : Int) * 4294967296 + (x : Int) ∧ IntKind.i64.wrap (-((y : Int) * 4294967296 + (x : Int))) = -((y : Int) * 4294967296 + (x : Int)) := by
  refine ⟨?_, ?_, ?_, ?_⟩ <;> (rw [IntKind.wrap_i64]; omega)
theorem wjoin {x y : Nat} (hx : x < 4294967296) (hy : y < 2147483648) : wrap64 ((y : Int) * 4294967296 + wrap64 (x : Int)) = ((x + 4294967296 * y : Nat) : Int) := by
  rw [show wrap64 (x : Int) = (x : Int) by unfold wrap64; omega]; unfold wrap64; omega
theorem wjoinN {x y : Nat} (hx : x < 4294967296) (hy : y < 2147483648) : wrap64 (-wrap64 ((y : Int) * 4294967296 + wrap64 (x : Int))) = -((x + 4294967296 * y : Nat) : Int) := by
  rw [wjoin hx hy]; unfold wrap64; omega
theorem two_ret {a b : Int} (h : a = b) : Ending.returned (.tuple #[.int .i64 a, .int .i64 0]) = Ending.returned (.tuple #[.int .i64 b, .int .i64 0]) := by rw [h]
theorem neg_num {n : Int} {m : Nat} (hm : n.natAbs = m) (hs : true = negB n) : n = -(m : Int) := by
  have h : n < 0 := of_decide_eq_true hs.symm
  omega
theorem pos_num {n : Int} {m : Nat} (hm : n.natAbs = m) (hs : false = negB n) : n = (m : Int) := by
  have h : ¬ n < 0 := of_decide_eq_false hs.symm
  omega

set_option maxHeartbeats 2000000 in
theorem rToInt_num (v : Value) (n : Int) (w : World) (h : IsI w v n) (hf : fitI n) :
    Calls Tryz.prog 20 #[v] w fun e w' => CntOut w w' e (intK n) n := by
  obtain ⟨p0, c0, rfl, u0⟩ := h.form
  obtain ⟨l0, hl0⟩ : ∃ l0, l0 = (Nl.limbs n.natAbs).length := ⟨_, rfl⟩
  obtain ⟨s0, hs0⟩ : ∃ s0, s0 = negB n := ⟨_, rfl⟩
  rw [← hl0, ← hs0] at h ⊢
  rw [← hl0] at u0
  obtain ⟨W, hW⟩ : ∃ W, W = w.alloc (.cells #[.bool s0, .slice p0 l0 c0] 25) := ⟨_, rfl⟩
  have hb : Below w.heap.size w W := by rw [hW]; exact below_one w _
  have B0 : W.heap[w.heap.size]? = some (.cells #[.bool s0, .slice p0 l0 c0] 25 (0, 0)) := by rw [hW]; exact heap_alloc_new _ _
  have k00 := cell_of_row _ _ 0 _ _ (0, 0) B0
  have k01 := cell_of_row _ _ 1 _ _ (0, 0) B0
  simp only [List.getElem?_toArray, List.getElem?_cons_zero, List.getElem?_cons_succ] at k00 k01
  have hv := ref2Valid_any _ _ _ W (AtI.below h hb)
  rw [hs0, validI_of hf, ← hs0] at hv
  have HV := Lib.hid hv
  have HB := Lib.hid (And.intro hb B0)
  have HU := Lib.hid (And.intro u0 (And.intro h (And.intro hf (And.intro hl0 hs0))))
  clear u0 h hf hb B0 hv hl0 hs0
  by_cases hbig : 63 < nbits n.natAbs
  · have t1 : decide (63 < nbits n.natAbs) = true := decide_eq_true hbig
    have t2 : decide ((nbits n.natAbs : Int) > 63) = true := decide_eq_true (by omega)
    have HN := Lib.hid (bits_big.1 hbig)
    clear hbig
    go_enter Tryz.func20, Tryz.ntmps20
    go_wp2_with fail
    rw [← hW]
    clear hW
    refine HV.out.mono ?_
    rintro e w1 ⟨rfl, hb1⟩
    have hb01 := HB.out.1.trans (hb1.mono HB.out.1.size)
    have i00 := (hb1.cell (lt_of_block HB.out.2)).trans k00
    have i01 := (hb1.cell (lt_of_block HB.out.2)).trans k01
    have hBT := refBits_any _ n.natAbs w1 (show AtP _ w1 _ _ from HU.out.1.below hb01) (Nat.le_trans HU.out.2.2.1 (by decide))
    have HBT := Lib.hid hBT
    have HB1 := Lib.hid hb01
    have hlt := lt_of_block HB.out.2
    have HLT := Lib.hid (Nat.lt_of_lt_of_le hlt hb1.size)
    clear hb1 hb01 hBT HV k00 k01 hlt
    go_wp2_with fail
    refine HBT.out.mono ?_
    rintro e w2 ⟨rfl, rfl⟩
    obtain ⟨Q, hQ⟩ : ∃ Q, Q = nbits n.natAbs := ⟨_, rfl⟩
    rw [← hQ] at t1 t2 ⊢
    clear hQ HBT
    have z0 : ∀ w', Below w1.heap.size w1 w' → w'.cell? ⟨w.heap.size, 0, none⟩ = some (.bool s0) := fun w' h => (h.cell HLT.out).trans i00
    have z1 : ∀ w', Below w1.heap.size w1 w' → w'.cell? ⟨w.heap.size, 1, none⟩ = some (.slice p0 l0 c0) := fun w' h => (h.cell HLT.out).trans i01
    have hr0 : Below w1.heap.size w1 w1 := Below.refl _ _
    by_cases hmin : n = -9223372036854775808
    · have HSM := Lib.hid (fun (w' : World) (u : Value) (h : Below w1.heap.size w1 w') (hu : IsI w' u (-9223372036854775808)) => (show Calls Tryz.prog 27 #[.agg #[.bool s0, .slice p0 l0 c0], u] w' fun e w'' => e = .returned (.bool true) ∧ Below w'.heap.size w' w'' from by
        have := sameI_any _ u n (-9223372036854775808) w' ((HU.out.2.1.below HB1.out).below h) hu
        rwa [decide_eq_true hmin] at this))
      have HKZ := Lib.hid (show intK n = 0 ∧ n = -9223372036854775808 from ⟨by rw [intK, if_pos (by rw [hmin]; exact ⟨by decide, by decide⟩)], hmin⟩)
      clear hmin
      go_wp2_with fail
      go_region_held3 (fun w' => Below w1.heap.size w1 w')
        (first
          | assumption
          | exact below_drew0 _
          | exact below_drew1 (by assumption))
        (first
          | (go_at_call 29; refine (ref2FromInt_any _ _ ⟨by decide, by decide⟩).mono ?_; rintro e wr ⟨⟨r1, r2, r3, r4, rfl, hk⟩, hwr⟩; have sr := below_on (D := w1) (by assumption) hwr; clear hwr)
          | (go_at_call 27; refine (HSM.out _ _ (by assumption) hk).mono ?_; rintro e wg ⟨rfl, hwg⟩; have sg := below_on (D := w1) (by assumption) hwg; clear hwg hk))
      all_goals (try (go_wp2_with fail))
      all_goals (try go_ret2)
      all_goals (exact ⟨by rw [HKZ.out.1, if_pos rfl, HKZ.out.2]; rfl, HB1.out.trans (Below.mono (by assumption) HB1.out.size)⟩)
    · have HSM := Lib.hid (fun (w' : World) (u : Value) (h : Below w1.heap.size w1 w') (hu : IsI w' u (-9223372036854775808)) => (show Calls Tryz.prog 27 #[.agg #[.bool s0, .slice p0 l0 c0], u] w' fun e w'' => e = .returned (.bool false) ∧ Below w'.heap.size w' w'' from by
        have := sameI_any _ u n (-9223372036854775808) w' ((HU.out.2.1.below HB1.out).below h) hu
        rwa [decide_eq_false hmin] at this))
      have HKZ := Lib.hid (show intK n = 3 from by rw [intK, if_neg (fun hi => by obtain ⟨h1, h2⟩ := hi; have := HN.out; omega)])
      clear hmin
      go_wp2_with fail
      go_region_held3 (fun w' => Below w1.heap.size w1 w')
        (first
          | assumption
          | exact below_drew0 _
          | exact below_drew1 (by assumption))
        (first
          | (go_at_call 29; refine (ref2FromInt_any _ _ ⟨by decide, by decide⟩).mono ?_; rintro e wr ⟨⟨r1, r2, r3, r4, rfl, hk⟩, hwr⟩; have sr := below_on (D := w1) (by assumption) hwr; clear hwr)
          | (go_at_call 27; refine (HSM.out _ _ (by assumption) hk).mono ?_; rintro e wg ⟨rfl, hwg⟩; have sg := below_on (D := w1) (by assumption) hwg; clear hwg hk))
      all_goals (try (go_wp2_with fail))
      all_goals (try go_ret2)
      all_goals (exact ⟨by rw [HKZ.out, if_neg (by decide)]; rfl, HB1.out.trans (Below.mono (by assumption) HB1.out.size)⟩)
  · have t1 : decide (63 < nbits n.natAbs) = false := decide_eq_false hbig
    have t2 : decide ((nbits n.natAbs : Int) > 63) = false := decide_eq_false (by omega)
    have hm : n.natAbs < 9223372036854775808 := Nat.lt_of_not_le fun h => hbig (bits_big.2 h)
    have HK := Lib.hid (show intK n = 0 from by rw [intK, if_pos ⟨by omega, by omega⟩])
    clear hbig
    have hcase : n.natAbs = 0 ∨ (n.natAbs ≠ 0 ∧ n.natAbs < 4294967296) ∨ 4294967296 ≤ n.natAbs := by omega
    rcases hcase with h0 | ⟨h0, h1⟩ | h1
    · go_enter Tryz.func20, Tryz.ntmps20
      go_wp2_with fail
      rw [← hW]
      clear hW
      refine HV.out.mono ?_
      rintro e w1 ⟨rfl, hb1⟩
      have hb01 := HB.out.1.trans (hb1.mono HB.out.1.size)
      have i00 := (hb1.cell (lt_of_block HB.out.2)).trans k00
      have i01 := (hb1.cell (lt_of_block HB.out.2)).trans k01
      have hBT := refBits_any _ n.natAbs w1 (show AtP _ w1 _ _ from HU.out.1.below hb01) (Nat.le_trans HU.out.2.2.1 (by decide))
      have HBT := Lib.hid hBT
      have HB1 := Lib.hid hb01
      have hat := HU.out.1.below hb01
      have HS := Lib.hid HU.out.2.2.2.2
      have HL := Lib.hid HU.out.2.2.2.1
      clear hb1 hb01 hBT HV k00 k01 HU
      go_wp2_with fail
      refine HBT.out.mono ?_
      rintro e w2 ⟨rfl, rfl⟩
      obtain ⟨Q, hQ⟩ : ∃ Q, Q = nbits n.natAbs := ⟨_, rfl⟩
      rw [← hQ] at t1 t2 ⊢
      clear hQ HBT
      have hl : l0 = 0 := by rw [HL.out, h0, Nl.limbs_zero]; rfl
      subst hl
      have hn0 : n = 0 := by omega
      have hs : s0 = false := by rw [HS.out, hn0]; rfl
      subst hs
      subst hn0
      clear hat
      go_wp2_with fail
      go_rounds 1
      go_wp2_with fail
      go_ret2
      exact ⟨by rw [HK.out]; rfl, HB1.out⟩
    · go_enter Tryz.func20, Tryz.ntmps20
      go_wp2_with fail
      rw [← hW]
      clear hW
      refine HV.out.mono ?_
      rintro e w1 ⟨rfl, hb1⟩
      have hb01 := HB.out.1.trans (hb1.mono HB.out.1.size)
      have i00 := (hb1.cell (lt_of_block HB.out.2)).trans k00
      have i01 := (hb1.cell (lt_of_block HB.out.2)).trans k01
      have hBT := refBits_any _ n.natAbs w1 (show AtP _ w1 _ _ from HU.out.1.below hb01) (Nat.le_trans HU.out.2.2.1 (by decide))
      have HBT := Lib.hid hBT
      have HB1 := Lib.hid hb01
      have hat := HU.out.1.below hb01
      have HS := Lib.hid HU.out.2.2.2.2
      have HL := Lib.hid HU.out.2.2.2.1
      clear hb1 hb01 hBT HV k00 k01 HU
      go_wp2_with fail
      refine HBT.out.mono ?_
      rintro e w2 ⟨rfl, rfl⟩
      obtain ⟨Q, hQ⟩ : ∃ Q, Q = nbits n.natAbs := ⟨_, rfl⟩
      rw [← hQ] at t1 t2 ⊢
      clear hQ HBT
      obtain ⟨m, hm'⟩ : ∃ m, m = n.natAbs := ⟨_, rfl⟩
      have hll : Nl.limbs n.natAbs = [m] := by rw [hm']; exact limbs_one h0 h1
      have hl : l0 = 1 := by rw [HL.out, hll]; rfl
      rw [hll, hl] at hat
      subst hl
      rcases hat with ⟨-, h⟩ | ⟨b, off, cap, he, -, hc, hmm, hbb, hx⟩
      · simp at h
      simp only [List.length_singleton, Value.slice.injEq, true_and] at he
      obtain ⟨rfl, rfl⟩ := he
      have q0 := hx 0 (by simp)
      simp only [Nat.add_zero, List.getD_cons_zero] at q0
      have HM := Lib.hid hm'
      have hmlt : m < 4294967296 := by omega
      obtain ⟨w0, w1'⟩ := wraps1 hmlt
      clear hx hll h0 h1 hm hm' hbb hmm hmlt
      cases s0
      · go_wp2_with fail
        go_rounds 2
        go_wp2_with fail
        go_ret2
        exact ⟨by rw [HK.out, if_pos rfl]; rw [pos_num HM.out.symm HS.out]; rfl, HB1.out⟩
      · go_wp2_with fail
        go_rounds 2
        go_wp2_with fail
        go_ret2
        exact ⟨by rw [HK.out, if_pos rfl]; rw [neg_num HM.out.symm HS.out]; rfl, HB1.out⟩
    · go_enter Tryz.func20, Tryz.ntmps20
      go_wp2_with fail
      rw [← hW]
      clear hW
      refine HV.out.mono ?_
      rintro e w1 ⟨rfl, hb1⟩
      have hb01 := HB.out.1.trans (hb1.mono HB.out.1.size)
      have i00 := (hb1.cell (lt_of_block HB.out.2)).trans k00
      have i01 := (hb1.cell (lt_of_block HB.out.2)).trans k01
      have hBT := refBits_any _ n.natAbs w1 (show AtP _ w1 _ _ from HU.out.1.below hb01) (Nat.le_trans HU.out.2.2.1 (by decide))
      have HBT := Lib.hid hBT
      have HB1 := Lib.hid hb01
      have hat := HU.out.1.below hb01
      have HS := Lib.hid HU.out.2.2.2.2
      have HL := Lib.hid HU.out.2.2.2.1
      clear hb1 hb01 hBT HV k00 k01 HU
      go_wp2_with fail
      refine HBT.out.mono ?_
      rintro e w2 ⟨rfl, rfl⟩
      obtain ⟨Q, hQ⟩ : ∃ Q, Q = nbits n.natAbs := ⟨_, rfl⟩
      rw [← hQ] at t1 t2 ⊢
      clear hQ HBT
      obtain ⟨x, ex⟩ : ∃ x, x = n.natAbs % 4294967296 := ⟨_, rfl⟩
      obtain ⟨y, ey⟩ : ∃ y, y = n.natAbs / 4294967296 := ⟨_, rfl⟩
      have hll : Nl.limbs n.natAbs = [x, y] := by rw [ex, ey, Nl.limbs_pos (by omega), Nl.limbs_pos (by omega), show n.natAbs / 4294967296 / 4294967296 = 0 by omega, Nl.limbs_zero, Nat.mod_eq_of_lt (show n.natAbs / 4294967296 < 4294967296 by omega)]
      have hl : l0 = 2 := by rw [HL.out, hll]; rfl
      rw [hll, hl] at hat
      subst hl
      rcases hat with ⟨-, h⟩ | ⟨b, off, cap, he, -, hc, hmm, hbb, hx⟩
      · simp at h
      simp only [List.length_cons, List.length_nil, Value.slice.injEq, true_and] at he
      obtain ⟨rfl, -, rfl⟩ := he
      have q0 := hx 0 (by simp)
      have q1 := hx 1 (by simp)
      simp only [Nat.add_zero, List.getD_cons_zero, List.getD_cons_succ] at q0 q1
      have hx2 : x < 4294967296 := by omega
      have hy2 : y < 2147483648 := by omega
      have HM := Lib.hid (show n.natAbs = x + 4294967296 * y by omega)
      obtain ⟨w0, w2', w3', w1'⟩ := wraps2 hx2 hy2
      have HX := Lib.hid (And.intro hx2 hy2)
      clear hx hll h1 hm hbb hmm ex ey hx2 hy2
      cases s0
      · go_wp2_with fail
        go_rounds 3
        go_wp2_with fail
        go_ret2
        exact ⟨by rw [HK.out, if_pos rfl]; rw [pos_num HM.out HS.out]; exact two_ret (wjoin HX.out.1 HX.out.2), HB1.out⟩
      · go_wp2_with fail
        go_rounds 3
        go_wp2_with fail
        go_ret2
        exact ⟨by rw [HK.out, if_pos rfl]; rw [neg_num HM.out HS.out]; exact two_ret (wjoinN HX.out.1 HX.out.2), HB1.out⟩
end Go.Proofs.YtodjncohhgknlaaGreat
