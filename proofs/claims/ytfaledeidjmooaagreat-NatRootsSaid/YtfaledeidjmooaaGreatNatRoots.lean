/-
  What the reference's above and Root do; NatRoots returns true for any slice and any exponent. Conditions: those that each theorem names.
-/
import Derived.Test.YtfaledeidjmooaaGreatRefPow
import Derived.Test.YtfaledeidjmooaaGreatRefShl
import Derived.Test.YtfaledeidjmooaaGreatBits2
import Derived.Test.YtfaledeidjmooaaGreatCompare
import Derived.Test.YtfaledeidjmooaaGreatRootNum
import Derived.Test.YtfaledeidjmooaaGreatOut
namespace Go.Proofs.YtfaledeidjmooaaGreat
open Go.RowKit


theorem pair_set {w : World} {g : Nat} {T : TypeId} {a b : Value} (a' b' : Value) (h : w.heap[g]? = some (.cells #[a, b] T (0, 0))) : ((w.setCell ⟨g, 0, none⟩ a').setCell ⟨g, 1, none⟩ b').heap[g]? = some (.cells #[a', b'] T (0, 0)) := by
  have h1 := heap_setCell_same w g 0 _ _ a' h
  have h2 := heap_setCell_same _ g 1 _ _ b' h1
  exact h2
theorem at_pair_set {w : World} {g : Nat} {T : TypeId} {p p' : Option Addr} {l c l' c' : Nat} {v : Value} {xs : List Nat} (a' b' : Value) (h : At w v xs) (hbx : w.heap[g]? = some (.cells #[.slice p l c, .slice p' l' c'] T (0, 0))) :
    At ((w.setCell ⟨g, 0, none⟩ a').setCell ⟨g, 1, none⟩ b') v xs := by
  rcases h with h | ⟨b, off, cap, h1, h2, h3, h4, h5, h6⟩
  · exact .inl h
  · refine .inr ⟨b, off, cap, h1, h2, h3, h4, by simpa [World.setCell] using h5, fun i hi => ?_⟩
    have hc := h6 i hi
    by_cases hb : b = g
    · subst hb
      rw [cell_of_row w b (off + i) _ _ _ hbx] at hc
      match hj : off + i with
      | 0 => rw [hj] at hc; simp at hc
      | 1 => rw [hj] at hc; simp at hc
      | j + 2 => rw [hj] at hc; simp at hc
    · have ho : Only g w ((w.setCell ⟨g, 0, none⟩ a').setCell ⟨g, 1, none⟩ b') := grown_trans (Only.setCell g 0 a' w) (Only.setCell g 1 b' _)
      exact ho.cell hc (by simpa using hb)


theorem refAdd_num (va vb : Value) (m n : Nat) (w : World) (ha : IsN w va m) (hb : IsN w vb n) (hla : (Nl.limbs m).length ≤ 300000) (hlb : (Nl.limbs n).length ≤ 300000) :
    Calls Tryz.prog 25 #[va, vb] w fun e w' => (∃ v, e = .returned v ∧ IsN w' v (m + n)) ∧ Below w.heap.size w w' := by
  have h := refAdd_any va vb _ _ w ha hb (Nl.limbs_small m) (Nl.limbs_small n) (by omega) (by omega)
  rwa [Nl.val_limbs, Nl.val_limbs] at h
theorem refSub_num (va vb : Value) (m n : Nat) (w : World) (ha : IsN w va m) (hb : IsN w vb n) (hla : (Nl.limbs m).length ≤ 300000) (hle : n ≤ m) :
    Calls Tryz.prog 26 #[va, vb] w fun e w' => (∃ v, e = .returned v ∧ IsN w' v (m - n)) ∧ Below w.heap.size w w' := by
  have h := refSub_any va vb _ _ w ha hb (Nl.limbs_small m) (Nl.limbs_small n) (by omega) (Nl.limbs_mono hle) (by rw [Nl.val_limbs, Nl.val_limbs]; exact hle)
  rwa [Nl.val_limbs, Nl.val_limbs] at h
theorem refCmp_num (va vb : Value) (m n : Nat) (w : World) (ha : IsN w va m) (hb : IsN w vb n) (hla : (Nl.limbs m).length ≤ 300000) (hlb : (Nl.limbs n).length ≤ 300000) :
    Calls Tryz.prog 23 #[va, vb] w fun e w' => e = .returned (.int .i64 (cmpI m n)) ∧ w = w' := by
  have h := refCmp_any va vb _ _ w ha hb (Nl.limbs_small m) (Nl.limbs_small n) (by omega) (by omega)
  rwa [Nl.val_limbs, Nl.val_limbs] at h

set_option maxRecDepth 10000 in
set_option maxHeartbeats 4000000 in
theorem refAbove_any (vx va : Value) (x m n : Nat) (w : World) (hx : IsN w vx x) (ha : IsN w va m) (hx1 : 1 ≤ x) (hlx : (Nl.limbs x).length ≤ 2000) (hla : (Nl.limbs m).length ≤ 2000) (hm : 1 ≤ m) (hn : n ≤ 9223372036854775807) :
    Calls Tryz.prog 79 #[vx, .int .i64 n, va] w fun e w' => e = .returned (.bool (decide (m < x ^ n))) ∧ Below w.heap.size w w' := by
  have HX := Lib.hid hx
  have HA := Lib.hid ha
  obtain ⟨px, cx, rfl, -⟩ := hx.form
  obtain ⟨pa, ca, rfl, -⟩ := ha.form
  have h1 := at_lit w 1
  rw [← limbs_one (by decide : (1 : Nat) ≠ 0) (by decide)] at h1
  have H1 := Lib.hid h1
  have B1 := Lib.hid (below_new w (.cells #[.int .u32 1] 59))
  clear hx ha h1
  go_enter Tryz.func79, Tryz.ntmps79
  go_wp2_with fail
  go_loopw [7, 8] (fun v i wr => ∃ k : Nat, k ≤ n ∧ i = .int .i64 k ∧ Hid (x ^ k ≤ m) ∧ Hid (At wr v (Nl.limbs (x ^ k))) ∧ Hid (Below w.heap.size w wr)) (fun _ i _ => n - (intOf i).toNat)
  case atStart => exact ⟨0, Nat.zero_le _, rfl, by rw [Hid, Nat.pow_zero]; exact hm, by rw [Hid, Nat.pow_zero]; exact H1.out, B1.out⟩
  case round =>
    obtain ⟨k, hk, rfl, hle, hat, hbel⟩ := hrel
    by_cases hlt : k < n
    · have hlt' : decide (k < n) = true := decide_eq_true hlt
      have hlk := Nl.limbs_mono hle.out
      have hlm : (Nl.limbs (x ^ (k + 1))).length ≤ (Nl.limbs (x ^ k)).length + (Nl.limbs x).length := by rw [Nat.pow_succ]; exact Nl.len_mul _ _
      go_wp2_with fail
      refine (refMul_num _ _ (x ^ k) x wr hat.out (HX.out.below hbel.out) (by omega) (by omega)).mono ?_
      rintro e w4 ⟨⟨v4, rfl, hv4⟩, hb4⟩
      rw [← Nat.pow_succ] at hv4
      have B4 := Lib.hid (hbel.out.trans (hb4.mono hbel.out.size))
      have HC := Lib.hid (refCmp_num v4 _ (x ^ (k + 1)) m w4 hv4 (HA.out.below B4.out) (by omega) (by omega))
      have HV4 := Lib.hid hv4
      clear hv4 hb4
      by_cases hgt : m < x ^ (k + 1)
      · rw [cmpI_gt hgt] at HC
        have HG := Lib.hid (show m < x ^ n from Nat.lt_of_lt_of_le hgt (Nat.pow_le_pow_right hx1 hlt))
        clear hgt hlm hlk
        go_wp2_with fail
        refine HC.out.mono ?_
        rintro e w5 ⟨rfl, rfl⟩
        go_wp2_with fail
        go_ret
        exact ⟨by rw [decide_eq_true HG.out]; rfl, B4.out⟩
      · obtain ⟨c, hc⟩ : ∃ c, cmpI ((x ^ (k + 1) : Nat) : Int) (m : Int) = c := ⟨_, rfl⟩
        have hc0 : ¬ c > 0 := by
          rw [← hc]
          rcases Nat.lt_or_ge (x ^ (k + 1)) m with h | h
          · rw [cmpI_lt h]; decide
          · rw [show x ^ (k + 1) = m by omega, cmpI_eq]; decide
        rw [hc] at HC
        have t1 : decide (c > 0) = false := decide_eq_false hc0
        have t2 : decide (0 < c) = false := decide_eq_false hc0
        have HG := Lib.hid (show x ^ (k + 1) ≤ m by omega)
        clear hgt hlm hlk hc hc0
        go_wp2_with fail
        refine HC.out.mono ?_
        rintro e w5 ⟨rfl, rfl⟩
        go_wp2_with fail
        go_roundw
        case rel => exact ⟨k + 1, hlt, by go_num, HG.out, HV4.out, B4.out⟩
        case measure => simp [intOf] <;> omega
    · have hlt' : decide (k < n) = false := decide_eq_false hlt
      have HE := Lib.hid (show k = n by omega)
      go_wp2_with fail
      go_ret
      exact ⟨by rw [decide_eq_false (by have := hle.out; rw [HE.out] at this; omega)]; rfl, hbel.out⟩

/-- two numbers as the reference's pair -/
def DivOut (w w' : World) (e : Ending) (q r : Nat) : Prop := (∃ u v, e = .returned (.agg #[u, v]) ∧ IsN w' u q ∧ IsN w' v r) ∧ Below w.heap.size w w'
theorem divOut_of {w wr : World} {pu pv : Option Addr} {lu cu lv cv q r : Nat} (bx : wr.heap[w.heap.size]? = some (.cells #[.slice none 0 0, .slice none 0 0] 42 (0, 0)))
    (hu : At wr (.slice pu lu cu) (Nl.limbs q)) (hv : At wr (.slice pv lv cv) (Nl.limbs r)) (hb : Below w.heap.size w wr) :
    DivOut w ((wr.setCell ⟨w.heap.size, 0, none⟩ (.slice pu lu cu)).setCell ⟨w.heap.size, 1, none⟩ (.slice pv lv cv)) (.returned (.agg #[.slice pu lu cu, .slice pv lv cv])) q r :=
  ⟨⟨_, _, rfl, at_pair_set _ _ hu bx, at_pair_set _ _ hv bx⟩, (hb.setCell (p := ⟨w.heap.size, 0, none⟩) (Nat.le_refl _) _).setCell (p := ⟨w.heap.size, 1, none⟩) (Nat.le_refl _) _⟩

set_option maxRecDepth 10000 in
set_option maxHeartbeats 4000000 in
theorem refRoot_any (va : Value) (m n q : Nat) (w : World) (ha : IsN w va m) (hla : (Nl.limbs m).length ≤ 1000) (hn : 1 ≤ n) (hn2 : n ≤ 9223372036854775807) (hq : IsRoot n m q) :
    Calls Tryz.prog 37 #[va, .int .i64 n] w fun e w' => DivOut w w' e q (m - q ^ n) := by
  have HA := Lib.hid ha
  obtain ⟨a, ca, rfl, -⟩ := ha.form
  clear ha
  obtain ⟨w1, hw1⟩ : ∃ w1, w1 = w.alloc (.cells #[.slice none 0 0, .slice none 0 0] 42) := ⟨_, rfl⟩
  have hbox : w1.heap[w.heap.size]? = some (.cells #[.slice none 0 0, .slice none 0 0] 42 (0, 0)) := by rw [hw1]; exact heap_alloc_new _ _
  have hb1 : Below w.heap.size w w1 := by rw [hw1]; exact below_new w _
  have hx1 : Nl.limbs 1 = [1] := limbs_one (by decide) (by decide)
  have b2 := below_new w1 (.cells #[.int .u32 1] 59)
  have h1 := at_lit w1 1
  rw [← hx1] at h1
  have HX := Lib.hid hx1
  have HQ := Lib.hid hq
  have B2 := Lib.hid (hb1.trans (b2.mono hb1.size))
  have BX2 := Lib.hid ((b2.block _ (lt_of_block hbox)).trans hbox)
  have hcmp := refCmp_num _ _ m 1 _ (HA.out.below B2.out) h1 (by omega) (by rw [hx1]; decide)
  have hbits := refBits_any _ m _ (HA.out.below B2.out) (by omega)
  have HBI := Lib.hid hbits
  obtain ⟨w2, hw2⟩ : ∃ w2, w2 = w1.alloc (.cells #[.int .u32 1] 59) := ⟨_, rfl⟩
  rw [← hw2] at hcmp HBI B2 BX2
  clear h1 hx1 hq b2 hbits
  by_cases hs : m ≤ 1
  · have hc : ∃ c : Int, cmpI (m : Int) ((1 : Nat) : Int) = c ∧ c ≤ 0 := by
      refine ⟨_, rfl, ?_⟩
      rcases Nat.lt_or_ge m 1 with h | h
      · rw [cmpI_lt h]; decide
      · rw [show m = 1 by omega, cmpI_eq]; decide
    obtain ⟨c, hc, hc0⟩ := hc
    rw [hc] at hcmp
    have t1 : decide (c ≤ 0) = true := decide_eq_true hc0
    have HC := Lib.hid hcmp
    have hqm : q = m := by
      have := (isRoot_small hn (by omega : m < 2)).1
      exact root_unique hn HQ.out this
    have HM := Lib.hid (show m - q ^ n = 0 by rw [hqm, (isRoot_small hn (by omega : m < 2)).2, Nat.sub_self])
    have HQM := Lib.hid hqm
    have c0 := cell_of_row _ _ 0 _ _ (0, 0) BX2.out
    have c1 := cell_of_row _ _ 1 _ _ (0, 0) BX2.out
    have f0 := frozen_of_row _ _ 0 _ _ BX2.out
    have f1 := frozen_of_row _ _ 1 _ _ BX2.out
    clear hcmp hc hc0 hqm
    go_enter Tryz.func37, Tryz.ntmps37
    go_upto_region 1 with fail
    rw [← hw1]
    clear hw1 hb1
    go_wp2_with fail
    rw [← hw2]
    clear hw2
    refine HC.out.mono ?_
    rintro e w3 ⟨rfl, rfl⟩
    go_wp2_with fail
    refine bodyPost_ret (v := .agg #[.slice a (Nl.limbs m).length ca, .slice none 0 0]) (results_cell_row Tryz.results37 _ _ w.heap.size 42 _ (0, 0) _ rfl (pair_set _ _ BX2.out) Tryz.underlying42 rfl (by kernel_rfl)) rfl ?_
    rw [HM.out, HQM.out]
    refine divOut_of BX2.out (HA.out.below B2.out) ?_ B2.out
    rw [Nl.limbs_zero]
    exact .inl ⟨rfl, rfl⟩
  · obtain ⟨c, hc, hc0⟩ : ∃ c : Int, cmpI (m : Int) ((1 : Nat) : Int) = c ∧ ¬ c ≤ 0 := ⟨_, rfl, by rw [cmpI_gt (by omega)]; decide⟩
    rw [hc] at hcmp
    have t1 : decide (c ≤ 0) = false := decide_eq_false hc0
    have HC := Lib.hid hcmp
    have HS := Lib.hid (show 2 ≤ m by omega)
    clear hcmp hc hc0
    by_cases hb : nbits m ≤ n
    · have hq1 : q = 1 := root_unique hn HQ.out (isRoot_big HS.out hb)
      have HQ1 := Lib.hid hq1
      have t2 : decide (nbits m ≤ n) = true := decide_eq_true hb
      have b3 := below_new w2 (.cells #[.int .u32 1] 59)
      have u3 := at_one w2 59
      obtain ⟨w3, hw3⟩ : ∃ w3, w3 = w2.alloc (.cells #[.int .u32 1] 59) := ⟨_, rfl⟩
      rw [← hw3] at u3
      rw [← hw3] at b3
      have B3 := Lib.hid (B2.out.trans (b3.mono B2.out.size))
      have BX3 := Lib.hid ((b3.block _ (lt_of_block BX2.out)).trans BX2.out)
      have b4 := below_new w3 (.cells #[.int .u32 1] 59)
      have u4 := at_one w3 59
      have HU3 := Lib.hid (u3.below b4)
      obtain ⟨w4, hw4⟩ : ∃ w4, w4 = w3.alloc (.cells #[.int .u32 1] 59) := ⟨_, rfl⟩
      rw [← hw4] at u4
      rw [← hw4] at b4 HU3
      have B4 := Lib.hid (B3.out.trans (b4.mono B3.out.size))
      have BX4 := Lib.hid ((b4.block _ (lt_of_block BX3.out)).trans BX3.out)
      have hsu := refSub_num _ _ m 1 w4 (HA.out.below B4.out) u4 (by omega) (by have := HS.out; omega)
      rw [show w3.heap.size = w2.heap.size + 1 by rw [hw3]; simp] at hsu
      have HSU := Lib.hid hsu
      clear hq1 hb b3 u3 b4 u4 hsu
      go_enter Tryz.func37, Tryz.ntmps37
      go_upto_region 1 with fail
      rw [← hw1]
      clear hw1 hb1
      go_wp2_with fail
      rw [← hw2]
      clear hw2
      refine HC.out.mono ?_
      rintro e wx ⟨rfl, rfl⟩
      go_wp2_with fail
      refine HBI.out.mono ?_
      rintro e wx ⟨rfl, rfl⟩
      go_wp2_with fail
      rw [← hw3, ← hw4]
      clear hw3 hw4
      refine HSU.out.mono ?_
      rintro e w5 ⟨⟨v5, rfl, hv5⟩, hb5⟩
      have HV5 := Lib.hid (show At w5 v5 _ from hv5)
      have HU5 := Lib.hid (HU3.out.below hb5)
      have B5 := Lib.hid (B4.out.trans (hb5.mono B4.out.size))
      have BX5 := Lib.hid ((hb5.block _ (lt_of_block BX4.out)).trans BX4.out)
      obtain ⟨pv, cv, hve, -⟩ := HV5.out.form
      subst hve
      have c0 := cell_of_row _ _ 0 _ _ (0, 0) BX5.out
      have c1 := cell_of_row _ _ 1 _ _ (0, 0) BX5.out
      have f0 := frozen_of_row _ _ 0 _ _ BX5.out
      have f1 := frozen_of_row _ _ 1 _ _ BX5.out
      clear hv5 hb5
      go_wp2_with fail
      refine bodyPost_ret (v := .agg #[.slice (some ⟨w2.heap.size, 0, none⟩) 1 1, .slice pv (Nl.limbs (m - 1)).length cv]) (results_cell_row Tryz.results37 _ _ w.heap.size 42 _ (0, 0) _ rfl (pair_set _ _ BX5.out) Tryz.underlying42 rfl (by kernel_rfl)) rfl ?_
      rw [HQ1.out, Nat.one_pow]
      exact divOut_of BX5.out HU5.out HV5.out B5.out
    · have HNB := Lib.hid hb
      have t2 : decide (nbits m ≤ n) = false := decide_eq_false hb
      have hbp := nbits_pos (show m ≠ 0 by omega)
      have hbw := nbits_words (show (Nl.limbs m).length ≤ 1000 by omega)
      obtain ⟨B, hB⟩ : ∃ B, B = nbits m := ⟨_, rfl⟩
      rw [← hB] at HBI t2 HNB hbp hbw
      obtain ⟨T, hT⟩ : ∃ T, T = B / n := ⟨_, rfl⟩
      have hTi : (B : Int) / (n : Int) = (T : Int) := by rw [hT]; rfl
      have hTb : T ≤ 32000 := by rw [hT]; exact Nat.le_trans (Nat.div_le_self _ _) hbw
      have hn0 : ¬ ((n : Int) = 0) := by omega
      have htop : m < (2 ^ (T + 1)) ^ n := by
        refine Nat.lt_of_lt_of_le (lt_nbits m) ?_
        rw [← Nat.pow_mul]
        refine Nat.pow_le_pow_right (by decide) ?_
        rw [← hB, hT, Nat.mul_comm]
        exact Nat.le_of_lt (Nat.lt_mul_div_succ B hn)
      have HT := Lib.hid htop
      have HTI := Lib.hid hTi
      clear htop hT hB hb hbp hbw
      go_enter Tryz.func37, Tryz.ntmps37
      go_upto_region 1 with fail
      rw [← hw1]
      clear hw1 hb1
      go_wp2_with fail
      rw [← hw2]
      clear hw2
      refine HC.out.mono ?_
      rintro e wx ⟨rfl, rfl⟩
      go_wp2_with fail
      refine HBI.out.mono ?_
      rintro e wx ⟨rfl, rfl⟩
      go_wp2_with fail
      refine HBI.out.mono ?_
      rintro e wx ⟨rfl, rfl⟩
      go_wp2_with fail
      go_loopw [5, 6] (fun v i wr => ∃ k R : Nat, k ≤ T + 1 ∧ i = .int .i64 ((k : Int) - 1) ∧ Hid (At wr v (Nl.limbs R)) ∧ Hid (R ^ n ≤ m) ∧ Hid (m < (R + 2 ^ k) ^ n) ∧ Hid (R + 2 ^ k ≤ 2 ^ (T + 1)) ∧ Hid (Below w.heap.size w wr) ∧
        Hid (wr.heap[w.heap.size]? = some (.cells #[.slice none 0 0, .slice none 0 0] 42 (0, 0)))) (fun _ i _ => (intOf i + 1).toNat)
      case atStart =>
        refine ⟨T + 1, 0, Nat.le_refl _, ?_, ?_, ?_, ?_, ?_, B2.out, BX2.out⟩
        · congr 1; omega
        · rw [Hid, Nl.limbs_zero]; exact .inl ⟨rfl, rfl⟩
        · rw [Hid, Nat.zero_pow hn]; exact Nat.zero_le _
        · rw [Hid, Nat.zero_add]; exact HT.out
        · rw [Hid, Nat.zero_add]; exact Nat.le_refl _
      case round =>
        obtain ⟨k, R, hk, rfl, hat, hlo, hhi, hto, hbel, hbx⟩ := hrel
        have hlR : (Nl.limbs R).length ≤ 1001 := by
          have h := pow_two_len (s := T + 1) (k := 1) (a := 1001) (by omega) (x := R) (Nat.le_trans (Nat.le_add_right _ _) hto.out)
          rwa [Nat.pow_one] at h
        cases k with
        | zero =>
          have hRq : q = R := by
            refine root_unique hn HQ.out ⟨hlo.out, ?_⟩
            have := hhi.out
            rwa [Nat.pow_zero] at this
          have HRQ := Lib.hid hRq
          have hlp := Nl.limbs_mono hlo.out
          clear hRq
          go_wp2_with fail
          refine (refPow_any _ R n wr hat.out (by omega) (by omega)).mono ?_
          rintro e w4 ⟨⟨v4, rfl, hv4⟩, hb4⟩
          have hv4 := hv4 (by omega)
          have B4 := Lib.hid (hbel.out.trans (hb4.mono hbel.out.size))
          have BX4 := Lib.hid ((hb4.block _ (lt_of_block hbx.out)).trans hbx.out)
          have HR4 := Lib.hid (hat.out.below hb4)
          have HSU := Lib.hid (refSub_num _ _ m (R ^ n) w4 (HA.out.below B4.out) hv4 (by omega) hlo.out)
          clear hb4 hv4 hlp
          go_wp2_with fail
          refine HSU.out.mono ?_
          rintro e w5 ⟨⟨v5, rfl, hv5⟩, hb5⟩
          have HV5 := Lib.hid (show At w5 v5 _ from hv5)
          have HR5 := Lib.hid (HR4.out.below hb5)
          have B5 := Lib.hid (B4.out.trans (hb5.mono B4.out.size))
          have BX5 := Lib.hid ((hb5.block _ (lt_of_block BX4.out)).trans BX4.out)
          obtain ⟨pv, cv, hve, -⟩ := HV5.out.form
          obtain ⟨pu, cu, hue, -⟩ := HR5.out.form
          subst hve hue
          have c0 := cell_of_row _ _ 0 _ _ (0, 0) BX5.out
          have c1 := cell_of_row _ _ 1 _ _ (0, 0) BX5.out
          have f0 := frozen_of_row _ _ 0 _ _ BX5.out
          have f1 := frozen_of_row _ _ 1 _ _ BX5.out
          clear hv5 hb5
          go_wp2_with fail
          refine bodyPost_ret (v := .agg #[.slice pu (Nl.limbs R).length cu, .slice pv (Nl.limbs (m - R ^ n)).length cv]) (results_cell_row Tryz.results37 _ _ w.heap.size 42 _ (0, 0) _ rfl (pair_set _ _ BX5.out) Tryz.underlying42 rfl (by kernel_rfl)) rfl ?_
          rw [HRQ.out]
          exact divOut_of BX5.out HR5.out HV5.out B5.out
        | succ k =>
          rw [show ((k + 1 : Nat) : Int) - 1 = (k : Int) from by omega]
          have u3 := at_one wr 59
          have b3 := below_new wr (.cells #[.int .u32 1] 59)
          obtain ⟨w3, hw3⟩ : ∃ w3, w3 = wr.alloc (.cells #[.int .u32 1] 59) := ⟨_, rfl⟩
          rw [← hw3] at u3 b3
          have B3 := Lib.hid (hbel.out.trans (b3.mono hbel.out.size))
          have BX3 := Lib.hid ((b3.block _ (lt_of_block hbx.out)).trans hbx.out)
          have HR3 := Lib.hid (hat.out.below b3)
          have hsh := refShl_any _ 1 k w3 u3 (by rw [HX.out]; decide) (.inr (by omega))
          rw [Nat.one_mul] at hsh
          have HSH := Lib.hid hsh
          have hx2 : (Nl.limbs (2 ^ k)).length ≤ 1001 := by
            have h := pow_two_len (s := k) (k := 1) (a := 1001) (by omega) (x := 2 ^ k) (Nat.le_refl _)
            rwa [Nat.pow_one] at h
          have hx3 : R + 2 ^ k + 2 ^ k = R + 2 ^ (k + 1) := by rw [Nat.pow_succ]; omega
          have hx4 : R + 2 ^ k ≤ 2 ^ (T + 1) := Nat.le_trans (by rw [← hx3]; exact Nat.le_add_right _ _) hto.out
          have hx5 : 1 ≤ R + 2 ^ k := by have := Nat.two_pow_pos k; omega
          obtain ⟨X, hX⟩ : ∃ X, X = R + 2 ^ k := ⟨_, rfl⟩
          have HXX := Lib.hid hX
          rw [← hX] at hx3 hx4 hx5
          have HX3 := Lib.hid hx3
          have HX5 := Lib.hid hx5
          have hlX : (Nl.limbs X).length ≤ 1001 := by
            have h := pow_two_len (s := T + 1) (k := 1) (a := 1001) (by omega) (x := X) hx4
            rwa [Nat.pow_one] at h
          have HX4 := Lib.hid hx4
          clear hx3 hx4 hx5 hX hsh u3 b3
          go_wp2_with fail
          rw [← hw3]
          clear hw3
          refine HSH.out.mono ?_
          rintro e w4 ⟨⟨v4, rfl, hv4⟩, hb4⟩
          have B4 := Lib.hid (B3.out.trans (hb4.mono B3.out.size))
          have BX4 := Lib.hid ((hb4.block _ (lt_of_block BX3.out)).trans BX3.out)
          have HR4 := Lib.hid (HR3.out.below hb4)
          have had := refAdd_num _ _ R (2 ^ k) w4 HR4.out hv4 (by omega) (by omega)
          rw [← HXX.out] at had
          have HAD := Lib.hid had
          clear hb4 hv4 had hx2
          go_wp2_with fail
          refine HAD.out.mono ?_
          rintro e w5 ⟨⟨v5, rfl, hv5⟩, hb5⟩
          have B5 := Lib.hid (B4.out.trans (hb5.mono B4.out.size))
          have BX5 := Lib.hid ((hb5.block _ (lt_of_block BX4.out)).trans BX4.out)
          have HR5 := Lib.hid (HR4.out.below hb5)
          have HV5 := Lib.hid (show At w5 v5 _ from hv5)
          have hab := refAbove_any v5 _ X m n w5 hv5 (HA.out.below B5.out) HX5.out (by omega) (by omega) (by have := HS.out; omega) (by omega)
          have HAB := Lib.hid hab
          clear hb5 hv5 hab
          by_cases hgt : m < X ^ n
          · rw [decide_eq_true hgt] at HAB
            have HG := Lib.hid hgt
            clear hgt
            go_wp2_with fail
            refine HAB.out.mono ?_
            rintro e w6 ⟨rfl, hb6⟩
            have B6 := Lib.hid (B5.out.trans (hb6.mono B5.out.size))
            have BX6 := Lib.hid ((hb6.block _ (lt_of_block BX5.out)).trans BX5.out)
            have HR6 := Lib.hid (HR5.out.below hb6)
            clear hb6
            go_wp2_with fail
            go_roundw
            case rel => exact ⟨k, R, by omega, by go_num, HR6.out, hlo.out, by rw [Hid, ← HXX.out]; exact HG.out, by rw [Hid, ← HXX.out]; exact HX4.out, B6.out, BX6.out⟩
            case measure => simp [intOf] <;> omega
          · rw [decide_eq_false hgt] at HAB
            have HG := Lib.hid (show X ^ n ≤ m by omega)
            clear hgt
            go_wp2_with fail
            refine HAB.out.mono ?_
            rintro e w6 ⟨rfl, hb6⟩
            have B6 := Lib.hid (B5.out.trans (hb6.mono B5.out.size))
            have BX6 := Lib.hid ((hb6.block _ (lt_of_block BX5.out)).trans BX5.out)
            have HV6 := Lib.hid (HV5.out.below hb6)
            clear hb6
            go_wp2_with fail
            go_roundw
            case rel => exact ⟨k, X, by omega, by go_num, HV6.out, HG.out, by rw [Hid, HX3.out]; exact hhi.out, by rw [Hid, HX3.out]; exact hto.out, B6.out, BX6.out⟩
            case measure => simp [intOf] <;> omega

theorem is_same {v u : Value} {m : Nat} {w : World} (hv : At w v (Nl.limbs m)) (hu : At w u (Nl.limbs m)) (h : (Nl.limbs m).length ≤ 1024) :
    Calls Tryz.prog 24 #[v, .int .i64 0, u] w fun e w' => e = .returned (.bool true) ∧ Below w.heap.size w w' := by
  have := is_any v u _ _ 0 w hv hu
  rw [isB, if_pos h, sameB_self, show (decide ((0 : Int) = 0) && true) = true from rfl] at this
  refine this.mono ?_
  rintro e w' ⟨he, k, rfl⟩
  exact ⟨he, below_drewN _ _ _⟩

theorem root_bad (va : Value) (xs : List Nat) (n : Int) (w : World) (ha : At w va xs) (h : ¬ (validB xs = true ∧ 1 ≤ n)) :
    Calls Tryz.prog 36 #[va, .int .i64 n] w fun e w' => Gives2 w w' e 1 [] [] := by
  have hz : (Nl.limbs 0).length ≤ 1024 := by rw [Nl.limbs_zero]; decide
  refine (root_any va xs 0 0 n w ha (fun _ => hz) (fun _ => hz) (fun h1 h2 => absurd ⟨h1, h2⟩ h)).mono ?_
  rintro e w' ⟨c, hc, ⟨u, v, rfl, h2, h3⟩, hb⟩
  have hc1 : c = 1 := by
    rcases hc with ⟨h1, h2⟩ | ⟨-, h2⟩
    · rw [h2, rootK, if_neg (fun h4 => h ⟨h1, h4⟩)]
    · exact h2
  subst hc1
  obtain ⟨rfl, rfl⟩ := h3 (by decide)
  exact ⟨_, _, rfl, .inl ⟨rfl, rfl⟩, .inl ⟨rfl, rfl⟩, hb⟩

set_option maxRecDepth 10000 in
set_option maxHeartbeats 2000000 in
theorem natRoots_any (va : Value) (xs : List Nat) (n : Int) (w : World) (ha : At w va xs) (hsx : Nl.Small xs) (hn1 : -9223372036854775808 ≤ n) (hn2 : n ≤ 9223372036854775807) :
    Calls Tryz.prog 6 #[va, .int .i64 n] w fun e w' => e = .returned (.bool true) ∧ Below w.heap.size w w' := by
  have HA := Lib.hid ha
  have HL1 := Lib.hid (light_any va xs 12 w ha)
  obtain ⟨a, ca, rfl, -⟩ := ha.form
  clear ha
  by_cases hla : xs.length ≤ 12
  · have L1 := HL1.out
    rw [decide_eq_true hla] at L1
    have HL1' := Lib.hid L1
    clear L1 HL1
    by_cases hg : validB xs = true ∧ 1 ≤ n
    · obtain ⟨hv, h1⟩ := hg
      have hle := validB_eq hsx hv
      obtain ⟨j, rfl⟩ : ∃ j : Nat, n = j := ⟨n.toNat, by omega⟩
      obtain ⟨m, hm⟩ : ∃ m, m = Nl.val xs := ⟨_, rfl⟩
      rw [← hm] at hle
      obtain ⟨q, hq⟩ := root_exists (n := j) (by omega) m
      have hat : At w (.slice a xs.length ca) (Nl.limbs m) := by rw [← hle.1]; exact HA.out
      have HAT := Lib.hid hat
      have hlm : (Nl.limbs m).length ≤ 12 := by rw [← hle.1]; exact hla
      have HLM := Lib.hid hlm
      have HR := Lib.hid (root_num _ m j q w hat hle.2 (by omega) (by omega) hq)
      have HQ := Lib.hid hq
      have HV0 := Lib.hid hv
      have t0 : decide ((j : Int) < 1) = false := decide_eq_false (by omega)
      have t1 : decide (j < 1) = false := decide_eq_false (by omega)
      have HJ := Lib.hid (show 1 ≤ j by omega)
      have HQL := Lib.hid (Nl.limbs_mono (Nat.le_trans (Nat.le_self_pow (by omega : j ≠ 0) q) hq.1))
      clear hle hq hat hlm hv h1 hm
      go_enter Tryz.func6, Tryz.ntmps6
      go_wp2_with (go_at_call 17; refine HL1'.out.mono ?_; rintro e w' ⟨rfl, rfl⟩)
      refine HR.out.mono ?_
      rintro e w1 ⟨u, v, rfl, hu, hv, hb1⟩
      have HU := Lib.hid hu
      have HV := Lib.hid hv
      have B1 := Lib.hid hb1
      have hvv := refValid_any _ xs w1 (HA.out.below hb1)
      rw [HV0.out] at hvv
      have HVV := Lib.hid hvv
      clear hu hv hb1 hvv
      go_wp2_with (go_at_call 21; refine HVV.out.mono ?_; rintro e w' ⟨rfl, rfl⟩)
      refine (refRoot_any _ m j q w1 (HAT.out.below B1.out) (by have := HLM.out; omega) HJ.out (by omega) HQ.out).mono ?_
      rintro e w2 ⟨⟨x, y, rfl, hx, hy⟩, hb2⟩
      obtain ⟨px, cx, hxe, -⟩ := (show At w2 x _ from hx).form
      obtain ⟨py, cy, hye, -⟩ := (show At w2 y _ from hy).form
      subst hxe hye
      have HX0 := Lib.hid (show At w2 _ _ from hx)
      have HY0 := Lib.hid (show At w2 _ _ from hy)
      have HU1 := Lib.hid (HU.out.below hb2)
      have HV1 := Lib.hid (HV.out.below hb2)
      have B1' := Lib.hid (B1.out.trans (hb2.mono B1.out.size))
      clear hx hy hb2
      go_wp2_with fail
      obtain ⟨w3, hw3⟩ : ∃ w3, w3 = w2.alloc (.cells #[.slice px (Nl.limbs q).length cx, .slice py (Nl.limbs (m - q ^ j)).length cy] 42) := ⟨_, rfl⟩
      have hbx3 : w3.heap[w2.heap.size]? = some (.cells #[.slice px (Nl.limbs q).length cx, .slice py (Nl.limbs (m - q ^ j)).length cy] 42 (0, 0)) := by rw [hw3]; exact heap_alloc_new _ _
      have hb3 : Below w2.heap.size w2 w3 := by rw [hw3]; exact below_new w2 _
      have HBX := Lib.hid hbx3
      have HX := Lib.hid (HX0.out.below hb3)
      have HY := Lib.hid (HY0.out.below hb3)
      have HU2 := Lib.hid (HU1.out.below hb3)
      have HV2 := Lib.hid (HV1.out.below hb3)
      have B2 := Lib.hid (B1'.out.trans (hb3.mono B1'.out.size))
      rw [← hw3]
      clear hb3 hbx3 hw3
      refine (sanity_any w3).mono ?_
      rintro e w4 ⟨rfl, hb3⟩
      have HIS := Lib.hid (is_same (HU2.out.below hb3) (HX.out.below hb3) (by have := HLM.out; have := HQL.out; omega))
      have HB4 := Lib.hid ((hb3.block _ (lt_of_block HBX.out)).trans HBX.out)
      have c0 := cell_of_row _ _ 0 _ _ (0, 0) HB4.out
      have c1 := cell_of_row _ _ 1 _ _ (0, 0) HB4.out
      have HV3 := Lib.hid (HV2.out.below hb3)
      have HY3 := Lib.hid (HY.out.below hb3)
      have B3 := Lib.hid (B2.out.trans (hb3.mono B2.out.size))
      clear hb3
      go_wp2_with fail
      clear c0 c1
      refine HIS.out.mono ?_
      rintro e w5 ⟨rfl, hb4⟩
      have HB5 := (hb4.block _ (lt_of_block HB4.out)).trans HB4.out
      have c0 := cell_of_row _ _ 0 _ _ (0, 0) HB5
      have c1 := cell_of_row _ _ 1 _ _ (0, 0) HB5
      have HSM := Lib.hid (same_yes v _ _ w5 (HV3.out.below hb4) (HY3.out.below hb4))
      have B4 := Lib.hid (B3.out.trans (hb4.mono B3.out.size))
      clear hb4 HB5
      go_wp2_with fail
      refine HSM.out.mono ?_
      rintro e w6 ⟨rfl, k, rfl⟩
      go_wp2_with fail
      go_ret
      exact ⟨rfl, B4.out.trans ((below_drewN _ _ _).mono B4.out.size)⟩
    · have HR := Lib.hid (root_bad _ xs n w HA.out hg)
      have HG := Lib.hid hg
      clear hg
      go_enter Tryz.func6, Tryz.ntmps6
      go_wp2_with (go_at_call 17; refine HL1'.out.mono ?_; rintro e w' ⟨rfl, rfl⟩)
      refine HR.out.mono ?_
      rintro e w1 ⟨u, v, rfl, hu, hv, hb1⟩
      have HU := Lib.hid hu
      have HV := Lib.hid hv
      have B1 := Lib.hid hb1
      have HVV := Lib.hid (refValid_any _ xs w1 (HA.out.below hb1))
      clear hu hv hb1
      obtain ⟨pv, cv, rfl, -⟩ := HV.out.form
      by_cases hvb : validB xs = true
      · have hvv := HVV.out
        rw [hvb] at hvv
        have HVV' := Lib.hid hvv
        have t0 : decide (n < 1) = true := decide_eq_true (by have h := HG.out; have h2 : ¬ 1 ≤ n := fun h3 => h ⟨hvb, h3⟩; omega)
        clear hvv HVV hvb
        go_wp2_with (go_at_call 21; refine HVV'.out.mono ?_; rintro e w' ⟨rfl, rfl⟩)
        refine (sanity_any w1).mono ?_
        rintro e w3 ⟨rfl, hb3⟩
        have HRF := Lib.hid (refused_yes u 1 w3 (HU.out.below hb3))
        have B3 := Lib.hid (B1.out.trans (hb3.mono B1.out.size))
        clear hb3
        go_wp2_with fail
        refine HRF.out.mono ?_
        rintro e w4 ⟨rfl, rfl⟩
        go_wp2_with fail
        go_ret
        exact ⟨rfl, B3.out⟩
      · have hvv := HVV.out
        rw [show validB xs = false by simpa using hvb] at hvv
        have HVV' := Lib.hid hvv
        clear hvv HVV hvb
        go_wp2_with (go_at_call 21; refine HVV'.out.mono ?_; rintro e w' ⟨rfl, rfl⟩)
        refine (sanity_any w1).mono ?_
        rintro e w3 ⟨rfl, hb3⟩
        have HRF := Lib.hid (refused_yes u 1 w3 (HU.out.below hb3))
        have B3 := Lib.hid (B1.out.trans (hb3.mono B1.out.size))
        clear hb3
        go_wp2_with fail
        refine HRF.out.mono ?_
        rintro e w4 ⟨rfl, rfl⟩
        go_wp2_with fail
        go_ret
        exact ⟨rfl, B3.out⟩
  · have L1 := HL1.out
    rw [decide_eq_false hla] at L1
    have HL1' := Lib.hid L1
    clear L1 HL1 hla
    go_enter Tryz.func6, Tryz.ntmps6
    go_wp2_with (go_at_call 17; refine HL1'.out.mono ?_; rintro e w' ⟨rfl, rfl⟩)
    refine (sanity_any w).mono ?_
    rintro e w1 ⟨rfl, hb1⟩
    have B1 := Lib.hid hb1
    clear hb1
    go_wp2_with fail
    go_ret
    exact ⟨rfl, B1.out⟩
end Go.Proofs.YtfaledeidjmooaaGreat
