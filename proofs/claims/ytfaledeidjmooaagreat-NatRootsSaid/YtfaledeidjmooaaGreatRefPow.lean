/-
  What the reference's Pow does. Conditions: those that each theorem names.
-/
import Derived.Test.YtfaledeidjmooaaGreatRefMul
import Derived.Test.YtfaledeidjmooaaGreatOut
namespace Go.Proofs.YtfaledeidjmooaaGreat
open Go.RowKit

theorem refMul_num (va vb : Value) (m n : Nat) (w : World) (ha : At w va (Nl.limbs m)) (hb : At w vb (Nl.limbs n)) (hla : (Nl.limbs m).length ≤ 300000) (hlb : (Nl.limbs n).length ≤ 300000) :
    Calls Tryz.prog 30 #[va, vb] w fun e w' => (∃ v, e = .returned v ∧ IsN w' v (m * n)) ∧ Below w.heap.size w w' := by
  have h := refMul_any va vb _ _ w ha hb (Nl.limbs_small m) (Nl.limbs_small n) hla hlb
  rwa [Nl.val_limbs, Nl.val_limbs] at h

/-- what the reference's power gives -/
def PowOut (w w' : World) (e : Ending) (m n : Nat) : Prop :=
  (∃ v, e = .returned (.tuple #[v, .bool (decide ((Nl.limbs (m ^ n)).length ≤ 1024))]) ∧ ((Nl.limbs (m ^ n)).length ≤ 1024 → IsN w' v (m ^ n))) ∧ Below w.heap.size w w'

theorem len_one : (Nl.limbs 1).length = 1 := by rw [limbs_one (by decide) (by decide)]; rfl
theorem same_one {m : Nat} : sameB (Nl.limbs m) [1] = decide (m = 1) := by
  rw [sameB]
  congr 1
  rw [← limbs_one (by decide : (1 : Nat) ≠ 0) (by decide)]
  exact propext ⟨Nl.limbs_inj, fun h => by rw [h]⟩

set_option maxHeartbeats 2000000 in
theorem refPow_any (va : Value) (m n : Nat) (w : World) (ha : At w va (Nl.limbs m)) (hla : (Nl.limbs m).length ≤ 1100) (hn : n ≤ 9223372036854775807) :
    Calls Tryz.prog 29 #[va, .int .i64 n] w fun e w' => PowOut w w' e m n := by
  have HA := Lib.hid ha
  obtain ⟨a, ca, rfl, -⟩ := ha.form
  clear ha
  by_cases hn0 : n = 0
  · subst hn0
    have HL := Lib.hid len_one
    have hx1 : Nl.limbs 1 = [1] := limbs_one (by decide) (by decide)
    go_enter Tryz.func29, Tryz.ntmps29
    go_wp2_with fail
    go_ret2
    refine ⟨⟨_, by rw [Nat.pow_zero, HL.out]; rfl, fun _ => ?_⟩, below_new w _⟩
    rw [Nat.pow_zero, IsN, hx1]
    exact at_lit w 1
  · have e0 : ((n : Int) == 0) = false := by rw [beq_eq_false_iff_ne]; omega
    have b1 := below_new w (.cells #[.int .u32 1] 59)
    have hsm := same_any _ _ _ [1] _ (HA.out.below b1) (at_lit w 1)
    rw [same_one] at hsm
    have HL := Lib.hid len_one
    have hx1 : Nl.limbs 1 = [1] := limbs_one (by decide) (by decide)
    have HX := Lib.hid hx1
    clear hx1
    by_cases h1 : m = 1
    · rw [decide_eq_true h1] at hsm
      have HS := Lib.hid hsm
      have H1 := Lib.hid h1
      have B1 := Lib.hid b1
      clear hsm h1 b1
      go_enter Tryz.func29, Tryz.ntmps29
      go_wp2_with fail
      refine HS.out.mono ?_
      rintro e w2 ⟨rfl, k, hk⟩
      have B2 := Lib.hid (show Below w.heap.size w w2 by rw [hk]; exact B1.out.trans ((below_drewN _ k _).mono B1.out.size))
      clear hk
      go_wp2_with fail
      go_ret2
      refine ⟨⟨_, by rw [H1.out, Nat.one_pow, HL.out]; rfl, fun _ => ?_⟩, B2.out.trans ((below_new w2 _).mono B2.out.size)⟩
      rw [H1.out, Nat.one_pow, IsN, HX.out]
      exact at_lit w2 1
    · rw [decide_eq_false h1] at hsm
      have HS := Lib.hid hsm
      have H1 := Lib.hid h1
      have B1 := Lib.hid b1
      clear hsm h1 b1
      by_cases h0 : m = 0
      · have e1 : (((Nl.limbs m).length : Int) == 0) = true := by rw [h0, Nl.limbs_zero]; rfl
        have H0 := Lib.hid h0
        have HP := Lib.hid (show m ^ n = m by rw [h0]; exact Nat.zero_pow (by omega))
        have HM := Lib.hid (show (Nl.limbs m).length ≤ 1024 by rw [h0, Nl.limbs_zero]; simp)
        clear h0
        go_enter Tryz.func29, Tryz.ntmps29
        go_wp2_with fail
        refine HS.out.mono ?_
        rintro e w2 ⟨rfl, k, hk⟩
        have B2 := Lib.hid (show Below w.heap.size w w2 by rw [hk]; exact B1.out.trans ((below_drewN _ k _).mono B1.out.size))
        clear hk
        go_wp2_with fail
        go_ret2
        refine ⟨⟨_, by rw [HP.out, decide_eq_true HM.out]; rfl, fun _ => ?_⟩, B2.out⟩
        rw [HP.out]
        exact HA.out.below B2.out
      · have hlp := Nl.len_pos h0
        have e1 : (((Nl.limbs m).length : Int) == 0) = false := by rw [beq_eq_false_iff_ne]; omega
        have H0 := Lib.hid h0
        clear h0 hlp
        go_enter Tryz.func29, Tryz.ntmps29
        go_wp2_with fail
        refine HS.out.mono ?_
        rintro e w2 ⟨rfl, k, hk⟩
        have B2 := Lib.hid (show Below w.heap.size w w2 by rw [hk]; exact B1.out.trans ((below_drewN _ k _).mono B1.out.size))
        clear hk
        go_wp2_with fail
        have hn1 := at_lit w2 1
        rw [← HX.out] at hn1
        have HN1 := Lib.hid hn1
        have B3 := Lib.hid (B2.out.trans ((below_new w2 (.cells #[.int .u32 1] 59)).mono B2.out.size))
        clear hn1
        go_loopw [6, 7] (fun v i wr => ∃ k : Nat, k ≤ n ∧ i = .int .i64 k ∧ Hid ((Nl.limbs (m ^ k)).length ≤ 1024) ∧ Hid (At wr v (Nl.limbs (m ^ k))) ∧ Hid (Below w.heap.size w wr)) (fun _ i _ => n - (intOf i).toNat)
        case atStart => exact ⟨0, Nat.zero_le _, rfl, by rw [Hid, Nat.pow_zero, HL.out]; decide, by rw [Hid, Nat.pow_zero]; exact HN1.out, B3.out⟩
        case round =>
          obtain ⟨k, hk, rfl, hlen, hat, hbel⟩ := hrel
          by_cases hlt : k < n
          · have hlt' : decide (k < n) = true := decide_eq_true hlt
            go_wp2_with fail
            refine (refMul_num _ _ (m ^ k) m wr hat.out (HA.out.below hbel.out) (by have := hlen.out; omega) (by omega)).mono ?_
            rintro e w4 ⟨⟨v4, rfl, hv4⟩, hb4⟩
            rw [← Nat.pow_succ] at hv4
            have hf := fits_any v4 _ w4 hv4
            have HV4 := Lib.hid hv4
            have B4 := Lib.hid (hbel.out.trans (hb4.mono hbel.out.size))
            clear hv4 hb4
            by_cases hfit : (Nl.limbs (m ^ (k + 1))).length ≤ 1024
            · rw [decide_eq_true hfit] at hf
              have HF := Lib.hid hf
              have HFIT := Lib.hid hfit
              clear hf hfit
              go_wp2_with fail
              refine HF.out.mono ?_
              rintro e w5 ⟨rfl, rfl⟩
              go_wp2_with fail
              go_roundw
              case rel => exact ⟨k + 1, hlt, by go_num, HFIT.out, HV4.out, B4.out⟩
              case measure => simp [intOf] <;> omega
            · rw [decide_eq_false hfit] at hf
              have HF := Lib.hid hf
              have hbig : ¬ (Nl.limbs (m ^ n)).length ≤ 1024 := fun h => hfit (Nat.le_trans (Nl.limbs_mono (Nat.pow_le_pow_right (Nat.pos_of_ne_zero H0.out) hlt)) h)
              have HBIG := Lib.hid hbig
              clear hf hfit hbig
              go_wp2_with fail
              refine HF.out.mono ?_
              rintro e w5 ⟨rfl, rfl⟩
              go_wp2_with fail
              go_ret2
              exact ⟨⟨_, by rw [decide_eq_false HBIG.out]; rfl, fun h => absurd h HBIG.out⟩, B4.out⟩
          · have hlt' : decide (k < n) = false := decide_eq_false hlt
            have hkn : k = n := by omega
            have HK := Lib.hid hkn
            clear hlt hkn
            go_wp2_with fail
            go_ret2
            have h1 := hlen.out
            have h2 := hat.out
            rw [HK.out] at h1 h2
            exact ⟨⟨_, by rw [decide_eq_true h1]; rfl, fun _ => h2⟩, hbel.out⟩
end Go.Proofs.YtfaledeidjmooaaGreat
