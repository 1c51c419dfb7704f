/-
  What takeMost does. Conditions: those that each theorem names.
-/
import Derived.Test.YtipjbnbmackidaaGreatJoinedAll
import Derived.Test.YtipjbnbmackidaaGreatHalves
namespace Go.Proofs.YtipjbnbmackidaaGreat
open Go.RowKit

/-- the estimate was one too large -/
theorem most_less {W V M v1 x c high low2 h2 c2 : Nat} (hW : W < (x + 1) * V) (hx : x * V ≤ W + V) (hV : V < M) (hv1 : v1 < M) (hl2 : low2 < M) (low : Nat) (hWd : W = low + M * high)
    (h1 : v1 + x * V = low + M * c) (hc : high < c) (h3 : low2 + M * h2 + M * (4294967296 * c2) = v1 + M * high + V) : 1 ≤ x ∧ W / V = x - 1 ∧ low2 = W % V := by
  have hx1 : 1 ≤ x := by
    apply Classical.byContradiction
    intro h
    rw [show x = 0 by omega, Nat.zero_mul] at h1
    have h2 : M * 1 ≤ M * c := Nat.mul_le_mul_left M (by omega)
    omega
  obtain ⟨y, rfl⟩ : ∃ y, x = y + 1 := ⟨x - 1, by omega⟩
  obtain ⟨e, rfl⟩ : ∃ e, c = high + 1 + e := ⟨c - high - 1, by omega⟩
  rw [Nat.add_mul, Nat.one_mul] at hx h1
  rw [Nat.mul_add M (high + 1) e, Nat.mul_add M high 1, Nat.mul_one] at h1
  have he : e = 0 := by
    apply Classical.byContradiction
    intro h
    have h2 : M * 1 ≤ M * e := Nat.mul_le_mul_left M (by omega)
    omega
  rw [he, Nat.mul_zero] at h1
  have hy : W = V * y + (W - y * V) := by rw [Nat.mul_comm]; omega
  have hlt : W - y * V < V := by omega
  refine ⟨by omega, ?_, ?_⟩
  · rw [hy, Nat.mul_add_div (by omega), Nat.div_eq_of_lt hlt]; rfl
  · have hr : W % V = W - y * V := by
      conv => lhs; rw [hy]
      rw [Nat.mul_add_mod, Nat.mod_eq_of_lt hlt]
    rw [hr]
    have h4 : (low2 + M * (h2 + 4294967296 * c2)) % M = (W - y * V + M * (high + 1)) % M := by
      congr 1
      rw [Nat.mul_add M h2, Nat.mul_add M high 1, Nat.mul_one]
      omega
    rw [Nat.add_mul_mod_self_left, Nat.add_mul_mod_self_left, Nat.mod_eq_of_lt hl2, Nat.mod_eq_of_lt (by omega)] at h4
    exact h4
theorem most_just {W V M v1 x c high : Nat} (hW : W < (x + 1) * V) (hV : V < M) (low : Nat) (hWd : W = low + M * high)
    (h1 : v1 + x * V = low + M * c) (hc : c ≤ high) : W / V = x ∧ v1 = W % V := by
  obtain ⟨e, rfl⟩ : ∃ e, high = c + e := ⟨high - c, by omega⟩
  rw [Nat.mul_add] at hWd
  rw [Nat.add_mul, Nat.one_mul] at hW
  have he : e = 0 := by
    apply Classical.byContradiction
    intro h
    have h2 : M * 1 ≤ M * e := Nat.mul_le_mul_left M (by omega)
    omega
  rw [he, Nat.mul_zero] at hWd
  have hy : W = V * x + v1 := by rw [Nat.mul_comm]; omega
  have hlt : v1 < V := by omega
  constructor
  · rw [hy, Nat.mul_add_div (by omega), Nat.div_eq_of_lt hlt]; rfl
  · rw [hy, Nat.mul_add_mod, Nat.mod_eq_of_lt hlt]
theorem val_last {Z : List Nat} {k : Nat} (h : Z.length = k + 1) : Nl.val Z = Nl.val (Z.take k) + 4294967296 ^ k * Z.getD k 0 := by
  rw [← Nl.val_take_succ Z k (by omega), List.take_of_length_le (by omega)]
theorem val_set_last {Z : List Nat} {k y : Nat} (h : Z.length = k + 1) : Nl.val (Z.set k y) = Nl.val (Z.take k) + 4294967296 ^ k * y := by
  have h1 := Nl.val_take_set Z k y (by omega)
  rw [List.take_of_length_le (by rw [List.length_set]; omega)] at h1
  exact h1

set_option maxHeartbeats 2000000 in
theorem takeMost_any (g off cap N : Nat) (A Z C ys : List Nat) (vb : Value) (w : World) (hr : Row w g (A ++ (Z ++ C))) (ho : off = A.length) (hzl : Z.length = N + 3) (hyl : ys.length = N + 2) (hsz : Nl.Small Z) (hsy : Nl.Small ys)
    (hb : AtP (· ≠ g) w vb ys) (hcl : N + 3 ≤ cap) (hcap : cap ≤ 9223372036854775807) (htop : 2147483648 ≤ ys.getD (N + 1) 0) (hlt : Nl.val Z < 4294967296 * Nl.val ys) :
    Calls Tryz.prog 278 #[.slice (some ⟨g, off, none⟩) (N + 3) cap, vb] w fun e w' => e = .returned (.int .u32 ((Nl.val Z / Nl.val ys : Nat) : Int)) ∧ ∃ Z', Mid w w' g A Z' C ∧ Z'.length = N + 3 ∧ Nl.Small Z' ∧ Nl.val Z' = Nl.val Z % Nl.val ys := by
  have hat : At w (.slice (some ⟨g, off, none⟩) (N + 3) cap) Z := .inr ⟨g, off, cap, by rw [hzl], trivial, by omega, hcap, hr.lt, hr.cells fun i hi => ⟨by rw [ho]; simp; omega, by rw [ho]; exact Nl.getD_mid hi⟩⟩
  have hE := estimate_any _ vb Z ys N w hat hb.at hzl hyl hsz hsy htop hlt
  have hM0 : Mid w w g A Z C := ⟨hr, Only.refl g w⟩
  have hVM : Nl.val ys < 4294967296 ^ (N + 2) := by
    have h1 := Nl.val_lt hsy
    rw [hyl] at h1
    exact h1
  obtain ⟨V, hV⟩ : ∃ V, V = Nl.val ys := ⟨_, rfl⟩
  obtain ⟨W, hW⟩ : ∃ W, W = Nl.val Z := ⟨_, rfl⟩
  obtain ⟨M, hMe⟩ : ∃ M, M = 4294967296 ^ (N + 2) := ⟨_, rfl⟩
  obtain ⟨high, hhi⟩ : ∃ h, h = Z.getD (N + 2) 0 := ⟨_, rfl⟩
  have hWd := val_last (Z := Z) (k := N + 2) hzl
  rw [← hW, ← hMe, ← hhi] at hWd
  rw [← hV, ← hW] at hE hlt ⊢
  rw [← hV, ← hMe] at hVM
  have hh2 : high < 4294967296 := by rw [hhi]; exact hsz.getD _
  obtain ⟨b, cb, rfl, fb⟩ := hb.form
  rw [hyl] at hb hE ⊢
  have HE := Lib.hid hE
  have HB := Lib.hid hb
  have HM0 := Lib.hid hM0
  have HH := Lib.hid hhi
  have HO := Lib.hid ho
  have HZL := Lib.hid hzl
  have HYL := Lib.hid hyl
  have HS := Lib.hid (And.intro hsz hsy)
  have HV := Lib.hid hV
  have HW := Lib.hid hW
  have HME := Lib.hid hMe
  have HVM := Lib.hid hVM
  have HWD := Lib.hid hWd
  clear hat hE hM0 hb fb hr ho hzl hyl hsz hsy hV hW hMe hVM hWd hhi htop hlt
  go_enter Tryz.func278, Tryz.ntmps278
  go_wp2_with fail
  refine HE.out.mono ?_
  rintro e w1 ⟨x, rfl, hx, hwx, hxv, k, hk⟩
  have hM1 : Mid w w1 g A Z C := by rw [hk]; exact ⟨HM0.out.1, grown_of_below (below_drewN w k _)⟩
  have hbw : Below w.heap.size w w1 := by rw [hk]; exact below_drewN w k _
  have ch := hM1.cell HO.out (i := N + 2) (by rw [HZL.out]; omega)
  rw [← HH.out] at ch
  have hD := decreaseTimes_any g off (N + 3) cap x A Z C _ _ w1 HZL.out hM1.1 HO.out HS.out.1 HS.out.2 (HB.out.below hbw) (by rw [HYL.out]; omega) hcl hcap hx
  have HD := Lib.hid hD
  have HM1 := Lib.hid hM1
  have HXX := Lib.hid (And.intro hwx hxv)
  have HBW := Lib.hid hbw
  clear hk hM1 hwx hxv hD hbw
  go_wp2_with fail
  refine HD.out.mono ?_
  rintro e w2 ⟨Z1, c, rfl, hc, hm2, hl1, hs1, hdr, hv1⟩
  have HB2 := Lib.hid ((HB.out.below HBW.out).only hm2.2 (fun _ h => h))
  have HM2 := Lib.hid (show Mid w w2 g A Z1 C from ⟨hm2.1, grown_trans HM1.out.2 hm2.2⟩)
  have HL1 := Lib.hid hl1
  have HS1 := Lib.hid hs1
  have hgh : Z1.getD (N + 2) 0 = high := by
    rw [HYL.out] at hdr
    rw [HH.out]
    exact Nl.getD_of_drop hdr
  have hv1' : Nl.val (Z1.take (N + 2)) + x * V = Nl.val (Z.take (N + 2)) + M * c := by
    rw [HYL.out, ← HV.out, ← HME.out] at hv1
    exact hv1
  have hlow : Nl.val (Z1.take (N + 2)) < M := by
    rw [HME.out]
    exact val_take_lt hs1 (N + 2) (by rw [hl1]; omega)
  have HGH := Lib.hid hgh
  have HV1 := Lib.hid hv1'
  have HLOW := Lib.hid hlow
  clear hm2 hl1 hs1 hdr hv1 hgh hv1' hlow ch
  by_cases hcg : high < c
  · have t1 : decide (high < c) = true := decide_eq_true hcg
    have t2 : decide ((high : Int) < (c : Int)) = true := decide_eq_true (by omega)
    have hI := increase_mid g off (N + 3) cap A Z1 C _ _ w2 HL1.out HM2.out.1 HO.out HS1.out HS.out.2 HB2.out (by rw [HYL.out]; omega) hcl hcap
    have HI := Lib.hid hI
    have HCG := Lib.hid hcg
    have hx1 : 1 ≤ x := by
      apply Classical.byContradiction
      intro h
      have h1 := HV1.out
      have h2 := HLOW.out
      rw [show x = 0 by omega, Nat.zero_mul] at h1
      have h3 : M * 1 ≤ M * c := Nat.mul_le_mul_left M (by omega)
      omega
    clear hI hcg
    go_wp2_with fail
    refine HI.out.mono ?_
    rintro e w3 ⟨rfl, Z2, c2, hm3, hl2, hs2, hv2⟩
    have HM3 := Lib.hid (show Mid w w3 g A Z2 C from ⟨hm3.1, grown_trans HM2.out.2 hm3.2⟩)
    have hlow2 : Nl.val (Z2.take (N + 2)) < M := by
      rw [HME.out]
      exact val_take_lt hs2 (N + 2) (by rw [hl2]; omega)
    have hv3 : Nl.val (Z2.take (N + 2)) + M * Z2.getD (N + 2) 0 + M * (4294967296 * c2) = Nl.val (Z1.take (N + 2)) + M * high + V := by
      rw [val_last (k := N + 2) hl2, val_last (k := N + 2) HL1.out, HGH.out, ← HV.out, ← HME.out, show N + 3 = (N + 2) + 1 from rfl, Nat.pow_succ, ← HME.out, Nat.mul_assoc] at hv2
      exact hv2
    have hml := most_less HXX.out.1 HXX.out.2 HVM.out HLOW.out hlow2 _ HWD.out HV1.out HCG.out hv3
    have HQ := Lib.hid hml
    have HL2 := Lib.hid hl2
    have HS2 := Lib.hid hs2
    have fz := hm3.1.free (off + (N + 2))
    have cz := HM3.out.cell HO.out (i := N + 2) (by rw [hl2]; omega)
    clear hm3 hl2 hs2 hv2 hlow2 hv3 hml
    go_wp2_with fail
    go_ret
    refine ⟨ret_int (by rw [HQ.out.2.1]; omega), Z2.set (N + 2) 0, HM3.out.set HO.out (by rw [HL2.out]; omega) 0, by rw [List.length_set]; exact HL2.out, HS2.out.set _ (by decide), ?_⟩
    rw [val_set_last HL2.out, Nat.mul_zero, Nat.add_zero]
    exact HQ.out.2.2
  · have t1 : decide (high < c) = false := decide_eq_false hcg
    have t2 : decide ((high : Int) < (c : Int)) = false := decide_eq_false (by omega)
    obtain ⟨hq, hrm⟩ := most_just HXX.out.1 HVM.out _ HWD.out HV1.out (by omega)
    have HQ := Lib.hid (And.intro hq hrm)
    have fz := HM2.out.1.free (off + (N + 2))
    have cz := HM2.out.cell HO.out (i := N + 2) (by rw [HL1.out]; omega)
    clear hq hrm hcg
    go_wp2_with fail
    go_ret
    refine ⟨ret_int (by rw [HQ.out.1]), Z1.set (N + 2) 0, HM2.out.set HO.out (by rw [HL1.out]; omega) 0, by rw [List.length_set]; exact HL1.out, HS1.out.set _ (by decide), ?_⟩
    rw [val_set_last HL1.out, Nat.mul_zero, Nat.add_zero]
    exact HQ.out.2
end Go.Proofs.YtipjbnbmackidaaGreat
