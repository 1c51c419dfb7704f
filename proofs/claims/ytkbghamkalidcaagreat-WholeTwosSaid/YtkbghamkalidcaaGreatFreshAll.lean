/-
  What takeMost does. Conditions: those that each theorem names.
  plus, minus, joined and shiftedRight, with the blocks in which a result lies. Conditions: those that each theorem names. (Text by wip/tool/genfresh.py.)
-/
import Derived.Test.YtkbghamkalidcaaGreatEstimateAll
import Derived.Test.YtkbghamkalidcaaGreatHalves
import Derived.Test.YtkbghamkalidcaaGreatShiftAll
import Derived.Test.YtkbghamkalidcaaGreatMinusAll
namespace Go.Proofs.YtkbghamkalidcaaGreat
open Go.RowKit

/-- the estimate was one too large -/
theorem most_less {W V M v1 x c high low2 h2 c2 : Nat} (hW : W < (x + 1) * V) (hx : x * V ≤ W + V) (hV : V < M) (hv1 : v1 < M) (hl2 : low2 < M) (low : Nat) (hWd : W = low + M * high)
    (h1 : v1 + x * V = low + M * c) (hc : high < c) (h3 : low2 + M * h2 + M * (4294967296 * c2) = v1 + M * high + V) : 1 ≤ x ∧ W / V = x - 1 ∧ low2 = W % V := by
  have hx1 : 1 ≤ x := by
    apply Classical.byContradiction
    intro h
    rw [show x = 0 by omega, Nat.zero_mul] at h1
    have h2 : M * 1 ≤ M * c := Nat.mul_le_mul_left M (by omega)
    omega
  obtain ⟨y, rfl⟩ : ∃ y, x = y + 1 := ⟨x - 1, by omega⟩
  obtain ⟨e, rfl⟩ : ∃ e, c = high + 1 + e := ⟨c - high - 1, by omega⟩
  rw [Nat.add_mul, Nat.one_mul] at hx h1
  rw [Nat.mul_add M (high + 1) e, Nat.mul_add M high 1, Nat.mul_one] at h1
  have he : e = 0 := by
    apply Classical.byContradiction
    intro h
    have h2 : M * 1 ≤ M * e := Nat.mul_le_mul_left M (by omega)
    omega
  rw [he, Nat.mul_zero] at h1
  have hy : W = V * y + (W - y * V) := by rw [Nat.mul_comm]; omega
  have hlt : W - y * V < V := by omega
  refine ⟨by omega, ?_, ?_⟩
  · rw [hy, Nat.mul_add_div (by omega), Nat.div_eq_of_lt hlt]; rfl
  · have hr : W % V = W - y * V := by
      conv => lhs; rw [hy]
      rw [Nat.mul_add_mod, Nat.mod_eq_of_lt hlt]
    rw [hr]
    have h4 : (low2 + M * (h2 + 4294967296 * c2)) % M = (W - y * V + M * (high + 1)) % M := by
      congr 1
      rw [Nat.mul_add M h2, Nat.mul_add M high 1, Nat.mul_one]
      omega
    rw [Nat.add_mul_mod_self_left, Nat.add_mul_mod_self_left, Nat.mod_eq_of_lt hl2, Nat.mod_eq_of_lt (by omega)] at h4
    exact h4
theorem most_just {W V M v1 x c high : Nat} (hW : W < (x + 1) * V) (hV : V < M) (low : Nat) (hWd : W = low + M * high)
    (h1 : v1 + x * V = low + M * c) (hc : c ≤ high) : W / V = x ∧ v1 = W % V := by
  obtain ⟨e, rfl⟩ : ∃ e, high = c + e := ⟨high - c, by omega⟩
  rw [Nat.mul_add] at hWd
  rw [Nat.add_mul, Nat.one_mul] at hW
  have he : e = 0 := by
    apply Classical.byContradiction
    intro h
    have h2 : M * 1 ≤ M * e := Nat.mul_le_mul_left M (by omega)
    omega
  rw [he, Nat.mul_zero] at hWd
  have hy : W = V * x + v1 := by rw [Nat.mul_comm]; omega
  have hlt : v1 < V := by omega
  constructor
  · rw [hy, Nat.mul_add_div (by omega), Nat.div_eq_of_lt hlt]; rfl
  · rw [hy, Nat.mul_add_mod, Nat.mod_eq_of_lt hlt]
theorem val_last {Z : List Nat} {k : Nat} (h : Z.length = k + 1) : Nl.val Z = Nl.val (Z.take k) + 4294967296 ^ k * Z.getD k 0 := by
  rw [← Nl.val_take_succ Z k (by omega), List.take_of_length_le (by omega)]
theorem val_set_last {Z : List Nat} {k y : Nat} (h : Z.length = k + 1) : Nl.val (Z.set k y) = Nl.val (Z.take k) + 4294967296 ^ k * y := by
  have h1 := Nl.val_take_set Z k y (by omega)
  rw [List.take_of_length_le (by rw [List.length_set]; omega)] at h1
  exact h1

set_option maxHeartbeats 2000000 in
theorem takeMost_any (g off cap N : Nat) (A Z C ys : List Nat) (vb : Value) (w : World) (hr : Row w g (A ++ (Z ++ C))) (ho : off = A.length) (hzl : Z.length = N + 3) (hyl : ys.length = N + 2) (hsz : Nl.Small Z) (hsy : Nl.Small ys)
    (hb : AtP (· ≠ g) w vb ys) (hcl : N + 3 ≤ cap) (hcap : cap ≤ 9223372036854775807) (htop : 2147483648 ≤ ys.getD (N + 1) 0) (hlt : Nl.val Z < 4294967296 * Nl.val ys) :
    Calls Tryz.prog 250 #[.slice (some ⟨g, off, none⟩) (N + 3) cap, vb] w fun e w' => e = .returned (.int .u32 ((Nl.val Z / Nl.val ys : Nat) : Int)) ∧ ∃ Z', Mid w w' g A Z' C ∧ Z'.length = N + 3 ∧ Nl.Small Z' ∧ Nl.val Z' = Nl.val Z % Nl.val ys := by
  have hat : At w (.slice (some ⟨g, off, none⟩) (N + 3) cap) Z := .inr ⟨g, off, cap, by rw [hzl], trivial, by omega, hcap, hr.lt, hr.cells fun i hi => ⟨by rw [ho]; simp; omega, by rw [ho]; exact Nl.getD_mid hi⟩⟩
  have hE := estimate_any _ vb Z ys N w hat hb.at hzl hyl hsz hsy htop hlt
  have hM0 : Mid w w g A Z C := ⟨hr, Only.refl g w⟩
  have hVM : Nl.val ys < 4294967296 ^ (N + 2) := by
    have h1 := Nl.val_lt hsy
    rw [hyl] at h1
    exact h1
  obtain ⟨V, hV⟩ : ∃ V, V = Nl.val ys := ⟨_, rfl⟩
  obtain ⟨W, hW⟩ : ∃ W, W = Nl.val Z := ⟨_, rfl⟩
  obtain ⟨M, hMe⟩ : ∃ M, M = 4294967296 ^ (N + 2) := ⟨_, rfl⟩
  obtain ⟨high, hhi⟩ : ∃ h, h = Z.getD (N + 2) 0 := ⟨_, rfl⟩
  have hWd := val_last (Z := Z) (k := N + 2) hzl
  rw [← hW, ← hMe, ← hhi] at hWd
  rw [← hV, ← hW] at hE hlt ⊢
  rw [← hV, ← hMe] at hVM
  have hh2 : high < 4294967296 := by rw [hhi]; exact hsz.getD _
  obtain ⟨b, cb, rfl, fb⟩ := hb.form
  rw [hyl] at hb hE ⊢
  have HE := Lib.hid hE
  have HB := Lib.hid hb
  have HM0 := Lib.hid hM0
  have HH := Lib.hid hhi
  have HO := Lib.hid ho
  have HZL := Lib.hid hzl
  have HYL := Lib.hid hyl
  have HS := Lib.hid (And.intro hsz hsy)
  have HV := Lib.hid hV
  have HW := Lib.hid hW
  have HME := Lib.hid hMe
  have HVM := Lib.hid hVM
  have HWD := Lib.hid hWd
  clear hat hE hM0 hb fb hr ho hzl hyl hsz hsy hV hW hMe hVM hWd hhi htop hlt
  go_enter Tryz.func250, Tryz.ntmps250
  go_wp2_with fail
  refine HE.out.mono ?_
  rintro e w1 ⟨x, rfl, hx, hwx, hxv, k, hk⟩
  have hM1 : Mid w w1 g A Z C := by rw [hk]; exact ⟨HM0.out.1, grown_of_below (below_drewN w k _)⟩
  have hbw : Below w.heap.size w w1 := by rw [hk]; exact below_drewN w k _
  have ch := hM1.cell HO.out (i := N + 2) (by rw [HZL.out]; omega)
  rw [← HH.out] at ch
  have hD := decreaseTimes_any g off (N + 3) cap x A Z C _ _ w1 HZL.out hM1.1 HO.out HS.out.1 HS.out.2 (HB.out.below hbw) (by rw [HYL.out]; omega) hcl hcap hx
  have HD := Lib.hid hD
  have HM1 := Lib.hid hM1
  have HXX := Lib.hid (And.intro hwx hxv)
  have HBW := Lib.hid hbw
  clear hk hM1 hwx hxv hD hbw
  go_wp2_with fail
  refine HD.out.mono ?_
  rintro e w2 ⟨Z1, c, rfl, hc, hm2, hl1, hs1, hdr, hv1⟩
  have HB2 := Lib.hid ((HB.out.below HBW.out).only hm2.2 (fun _ h => h))
  have HM2 := Lib.hid (show Mid w w2 g A Z1 C from ⟨hm2.1, grown_trans HM1.out.2 hm2.2⟩)
  have HL1 := Lib.hid hl1
  have HS1 := Lib.hid hs1
  have hgh : Z1.getD (N + 2) 0 = high := by
    rw [HYL.out] at hdr
    rw [HH.out]
    exact Nl.getD_of_drop hdr
  have hv1' : Nl.val (Z1.take (N + 2)) + x * V = Nl.val (Z.take (N + 2)) + M * c := by
    rw [HYL.out, ← HV.out, ← HME.out] at hv1
    exact hv1
  have hlow : Nl.val (Z1.take (N + 2)) < M := by
    rw [HME.out]
    exact val_take_lt hs1 (N + 2) (by rw [hl1]; omega)
  have HGH := Lib.hid hgh
  have HV1 := Lib.hid hv1'
  have HLOW := Lib.hid hlow
  clear hm2 hl1 hs1 hdr hv1 hgh hv1' hlow ch
  by_cases hcg : high < c
  · have t1 : decide (high < c) = true := decide_eq_true hcg
    have t2 : decide ((high : Int) < (c : Int)) = true := decide_eq_true (by omega)
    have hI := increase_mid g off (N + 3) cap A Z1 C _ _ w2 HL1.out HM2.out.1 HO.out HS1.out HS.out.2 HB2.out (by rw [HYL.out]; omega) hcl hcap
    have HI := Lib.hid hI
    have HCG := Lib.hid hcg
    have hx1 : 1 ≤ x := by
      apply Classical.byContradiction
      intro h
      have h1 := HV1.out
      have h2 := HLOW.out
      rw [show x = 0 by omega, Nat.zero_mul] at h1
      have h3 : M * 1 ≤ M * c := Nat.mul_le_mul_left M (by omega)
      omega
    clear hI hcg
    go_wp2_with fail
    refine HI.out.mono ?_
    rintro e w3 ⟨rfl, Z2, c2, hm3, hl2, hs2, hv2⟩
    have HM3 := Lib.hid (show Mid w w3 g A Z2 C from ⟨hm3.1, grown_trans HM2.out.2 hm3.2⟩)
    have hlow2 : Nl.val (Z2.take (N + 2)) < M := by
      rw [HME.out]
      exact val_take_lt hs2 (N + 2) (by rw [hl2]; omega)
    have hv3 : Nl.val (Z2.take (N + 2)) + M * Z2.getD (N + 2) 0 + M * (4294967296 * c2) = Nl.val (Z1.take (N + 2)) + M * high + V := by
      rw [val_last (k := N + 2) hl2, val_last (k := N + 2) HL1.out, HGH.out, ← HV.out, ← HME.out, show N + 3 = (N + 2) + 1 from rfl, Nat.pow_succ, ← HME.out, Nat.mul_assoc] at hv2
      exact hv2
    have hml := most_less HXX.out.1 HXX.out.2 HVM.out HLOW.out hlow2 _ HWD.out HV1.out HCG.out hv3
    have HQ := Lib.hid hml
    have HL2 := Lib.hid hl2
    have HS2 := Lib.hid hs2
    have fz := hm3.1.free (off + (N + 2))
    have cz := HM3.out.cell HO.out (i := N + 2) (by rw [hl2]; omega)
    clear hm3 hl2 hs2 hv2 hlow2 hv3 hml
    go_wp2_with fail
    go_ret
    refine ⟨ret_int (by rw [HQ.out.2.1]; omega), Z2.set (N + 2) 0, HM3.out.set HO.out (by rw [HL2.out]; omega) 0, by rw [List.length_set]; exact HL2.out, HS2.out.set _ (by decide), ?_⟩
    rw [val_set_last HL2.out, Nat.mul_zero, Nat.add_zero]
    exact HQ.out.2.2
  · have t1 : decide (high < c) = false := decide_eq_false hcg
    have t2 : decide ((high : Int) < (c : Int)) = false := decide_eq_false (by omega)
    obtain ⟨hq, hrm⟩ := most_just HXX.out.1 HVM.out _ HWD.out HV1.out (by omega)
    have HQ := Lib.hid (And.intro hq hrm)
    have fz := HM2.out.1.free (off + (N + 2))
    have cz := HM2.out.cell HO.out (i := N + 2) (by rw [HL1.out]; omega)
    clear hq hrm hcg
    go_wp2_with fail
    go_ret
    refine ⟨ret_int (by rw [HQ.out.1]), Z1.set (N + 2) 0, HM2.out.set HO.out (by rw [HL1.out]; omega) 0, by rw [List.length_set]; exact HL1.out, HS1.out.set _ (by decide), ?_⟩
    rw [val_set_last HL1.out, Nat.mul_zero, Nat.add_zero]
    exact HQ.out.2
end Go.Proofs.YtkbghamkalidcaaGreat

namespace Go.Proofs.YtkbghamkalidcaaGreat
open Go.RowKit

set_option maxHeartbeats 1000000 in
theorem plus_in (p : Nat → Prop) (va vb : Value) (m n : Nat) (w : World) (hp : ∀ b, w.heap.size ≤ b → p b) (ha : AtP p w va (Nl.limbs m)) (hb : AtP p w vb (Nl.limbs n)) (hla : (Nl.limbs m).length ≤ 1000000) (hlb : (Nl.limbs n).length ≤ 1000000) :
    Calls Tryz.prog 192 #[va, vb] w fun e w' => (∃ v, e = .returned v ∧ AtP p w' v (Nl.limbs (m + n))) ∧ Below w.heap.size w w' := by
  have HPP := Lib.hid hp
  clear hp
  have HA := Lib.hid ha
  have HB := Lib.hid hb
  obtain ⟨a, ca, rfl, -⟩ := ha.form
  obtain ⟨b, cb, rfl, -⟩ := hb.form
  clear ha hb
  by_cases hlt : (Nl.limbs m).length < (Nl.limbs n).length
  · have hmk := make_words 183 Tryz.underlying183 w ((Nl.limbs n).length + 1) ((Nl.limbs n).length + 1) (by omega) (by omega)
    by_cases hz : (Nl.limbs m).length = 0
    · have e0 : (((Nl.limbs m).length : Int) == 0) = true := by simp [hz]
      have HZ := Lib.hid hz
      clear hz hmk
      go_enter Tryz.func192, Tryz.ntmps192
      go_wp2_with fail
      go_ret
      refine ⟨⟨_, rfl, ?_⟩, Below.refl _ _⟩
      rw [Nl.len_zero HZ.out, Nat.zero_add]
      exact HB.out
    · have e0 : (((Nl.limbs m).length : Int) == 0) = false := by rw [beq_eq_false_iff_ne]; omega
      clear hz
      go_enter Tryz.func192, Tryz.ntmps192
      go_wp2_with (with_reducible refine wp_copy rfl (.tmp 21) (.tmp 22) 183 183 rfl Tryz.underlying183 _ _ _ _ _ _ rfl rfl w.heap.size 0 (Nl.zeros ((Nl.limbs n).length + 1)) (Nl.limbs n) (row_new w _) ?_ ?_ ?_ w.heap.size w ?_ ?_ ?_)
      · exact (Nat.min_eq_left (by omega)).symm
      · intro h0
        obtain ⟨b', f', h1, -, h2⟩ := (HB.out.alloc _).cells h0
        exact ⟨b', f', h1, h2⟩
      · rw [Nl.zeros_length]; omega
      · exact (Below.refl _ _).alloc (Nat.le_refl _) _
      · exact Nat.le_refl _
      intro w1 hr1 hb1
      rw [splice_zeros] at hr1
      obtain ⟨Z, hZ⟩ : ∃ Z, Z = Nl.limbs n ++ Nl.zeros ((Nl.limbs n).length + 1 - (Nl.limbs n).length) := ⟨_, rfl⟩
      rw [← hZ] at hr1
      have hZl : Z.length = (Nl.limbs n).length + 1 := by rw [hZ, List.length_append, Nl.zeros_length]; omega
      have hZs : Nl.Small Z := by rw [hZ]; exact Nl.small_pad (Nl.limbs_small _) _
      have hZv : Nl.val Z = n := by rw [hZ, Nl.val_pad, Nl.val_limbs]
      have HL := Lib.hid hZl
      have HV := Lib.hid hZv
      clear hZ hZl hZv hmk
      go_wp2_with fail
      have hop : AtP (· ≠ w.heap.size) w1 (.slice a (Nl.limbs m).length ca) (Nl.limbs m) := ((HA.out.mono fun b hb _ => (Nat.ne_of_lt hb : b ≠ w.heap.size)).below hb1)
      refine (increase_at w.heap.size _ _ Z (Nl.limbs m) _ w1 HL.out hr1.out hZs (Nl.limbs_small _) hop (by omega) (Nat.le_refl _) (by omega)).mono ?_
      rintro e w2 ⟨rfl, Z', c, hr2, ho2, hl2, hs2, hv2⟩
      have HL2 := Lib.hid hl2
      have HV2 := Lib.hid hv2
      clear hl2 hv2
      go_wp2_with fail
      refine (trimmed_row _ _ Z' w2 HL2.out hr2 (by omega)).mono ?_
      rintro e w3 ⟨rfl, rfl⟩
      go_wp2_with fail
      go_ret
      have hb2 := below_of_only hb1 ho2 (Nat.le_refl _) hb1.size
      refine ⟨⟨_, rfl, (Own.num (k := m + n) (Nat.le_refl _) hr2 HL2.out (by omega) hs2 ?_).at.mono fun b _ h => HPP.out b h⟩, hb2⟩
      have h1 := HV2.out
      rw [HV.out, Nl.val_limbs] at h1
      have h2 := Nl.lt_limbs n
      have h3 := Nl.lt_limbs m
      have h4 : 4294967296 ^ (Nl.limbs m).length ≤ 4294967296 ^ (Nl.limbs n).length := Nl.pow_le (by omega)
      have h5 := carry_none h1 (by rw [Nat.pow_succ]; omega) rfl
      omega
  · have hmk := make_words 183 Tryz.underlying183 w ((Nl.limbs m).length + 1) ((Nl.limbs m).length + 1) (by omega) (by omega)
    by_cases hz : (Nl.limbs n).length = 0
    · have e0 : (((Nl.limbs n).length : Int) == 0) = true := by simp [hz]
      have HZ := Lib.hid hz
      clear hz hmk
      go_enter Tryz.func192, Tryz.ntmps192
      go_wp2_with fail
      go_ret
      refine ⟨⟨_, rfl, ?_⟩, Below.refl _ _⟩
      rw [Nl.len_zero HZ.out, Nat.add_zero]
      exact HA.out
    · have e0 : (((Nl.limbs n).length : Int) == 0) = false := by rw [beq_eq_false_iff_ne]; omega
      clear hz
      go_enter Tryz.func192, Tryz.ntmps192
      go_wp2_with (with_reducible refine wp_copy rfl (.tmp 21) (.tmp 22) 183 183 rfl Tryz.underlying183 _ _ _ _ _ _ rfl rfl w.heap.size 0 (Nl.zeros ((Nl.limbs m).length + 1)) (Nl.limbs m) (row_new w _) ?_ ?_ ?_ w.heap.size w ?_ ?_ ?_)
      · exact (Nat.min_eq_left (by omega)).symm
      · intro h0
        obtain ⟨b', f', h1, -, h2⟩ := (HA.out.alloc _).cells h0
        exact ⟨b', f', h1, h2⟩
      · rw [Nl.zeros_length]; omega
      · exact (Below.refl _ _).alloc (Nat.le_refl _) _
      · exact Nat.le_refl _
      intro w1 hr1 hb1
      rw [splice_zeros] at hr1
      obtain ⟨Z, hZ⟩ : ∃ Z, Z = Nl.limbs m ++ Nl.zeros ((Nl.limbs m).length + 1 - (Nl.limbs m).length) := ⟨_, rfl⟩
      rw [← hZ] at hr1
      have hZl : Z.length = (Nl.limbs m).length + 1 := by rw [hZ, List.length_append, Nl.zeros_length]; omega
      have hZs : Nl.Small Z := by rw [hZ]; exact Nl.small_pad (Nl.limbs_small _) _
      have hZv : Nl.val Z = m := by rw [hZ, Nl.val_pad, Nl.val_limbs]
      have HL := Lib.hid hZl
      have HV := Lib.hid hZv
      clear hZ hZl hZv hmk
      go_wp2_with fail
      have hop : AtP (· ≠ w.heap.size) w1 (.slice b (Nl.limbs n).length cb) (Nl.limbs n) := ((HB.out.mono fun b hb _ => (Nat.ne_of_lt hb : b ≠ w.heap.size)).below hb1)
      refine (increase_at w.heap.size _ _ Z (Nl.limbs n) _ w1 HL.out hr1.out hZs (Nl.limbs_small _) hop (by omega) (Nat.le_refl _) (by omega)).mono ?_
      rintro e w2 ⟨rfl, Z', c, hr2, ho2, hl2, hs2, hv2⟩
      have HL2 := Lib.hid hl2
      have HV2 := Lib.hid hv2
      clear hl2 hv2
      go_wp2_with fail
      refine (trimmed_row _ _ Z' w2 HL2.out hr2 (by omega)).mono ?_
      rintro e w3 ⟨rfl, rfl⟩
      go_wp2_with fail
      go_ret
      have hb2 := below_of_only hb1 ho2 (Nat.le_refl _) hb1.size
      refine ⟨⟨_, rfl, (Own.num (k := m + n) (Nat.le_refl _) hr2 HL2.out (by omega) hs2 ?_).at.mono fun b _ h => HPP.out b h⟩, hb2⟩
      have h1 := HV2.out
      rw [HV.out, Nl.val_limbs] at h1
      have h2 := Nl.lt_limbs m
      have h3 := Nl.lt_limbs n
      have h4 : 4294967296 ^ (Nl.limbs n).length ≤ 4294967296 ^ (Nl.limbs m).length := Nl.pow_le (by omega)
      have h5 := carry_none h1 (by rw [Nat.pow_succ]; omega) rfl
      omega
set_option maxHeartbeats 1000000 in
theorem minus_in (p : Nat → Prop) (va vb : Value) (m n : Nat) (w : World) (hp : ∀ b, w.heap.size ≤ b → p b) (ha : AtP p w va (Nl.limbs m)) (hb : AtP p w vb (Nl.limbs n)) (hla : (Nl.limbs m).length ≤ 1000000) (hle : n ≤ m) :
    Calls Tryz.prog 195 #[va, vb] w fun e w' => (∃ v, e = .returned v ∧ AtP p w' v (Nl.limbs (m - n))) ∧ Below w.heap.size w w' := by
  have HPP := Lib.hid hp
  clear hp
  have hlb : (Nl.limbs n).length ≤ (Nl.limbs m).length := Nl.limbs_mono hle
  have HA := Lib.hid ha
  have HB := Lib.hid hb
  obtain ⟨a, ca, rfl, -⟩ := ha.form
  obtain ⟨b, cb, rfl, -⟩ := hb.form
  clear ha hb
  have hmk := make_words 183 Tryz.underlying183 w ((Nl.limbs m).length) ((Nl.limbs m).length) (by omega) (by omega)
  by_cases hz : (Nl.limbs n).length = 0
  · have e0 : (((Nl.limbs n).length : Int) == 0) = true := by simp [hz]
    have HZ := Lib.hid hz
    clear hz hmk
    go_enter Tryz.func195, Tryz.ntmps195
    go_wp2_with fail
    go_ret
    refine ⟨⟨_, rfl, ?_⟩, Below.refl _ _⟩
    rw [Nl.len_zero HZ.out, Nat.sub_zero]
    exact HA.out
  · have e0 : (((Nl.limbs n).length : Int) == 0) = false := by rw [beq_eq_false_iff_ne]; omega
    clear hz
    go_enter Tryz.func195, Tryz.ntmps195
    go_wp2_with (with_reducible refine wp_copy rfl (.tmp 13) (.tmp 14) 183 183 rfl Tryz.underlying183 _ _ _ _ _ _ rfl rfl w.heap.size 0 (Nl.zeros ((Nl.limbs m).length)) (Nl.limbs m) (row_new w _) ?_ ?_ ?_ w.heap.size w ?_ ?_ ?_)
    · exact (Nat.min_eq_left (by omega)).symm
    · intro h0
      obtain ⟨b', f', h1, -, h2⟩ := (HA.out.alloc _).cells h0
      exact ⟨b', f', h1, h2⟩
    · rw [Nl.zeros_length]; omega
    · exact (Below.refl _ _).alloc (Nat.le_refl _) _
    · exact Nat.le_refl _
    intro w1 hr1 hb1
    rw [splice_zeros, Nat.sub_self, show Nl.zeros 0 = [] from rfl, List.append_nil] at hr1
    clear hmk
    go_wp2_with fail
    have hop : AtP (· ≠ w.heap.size) w1 (.slice b (Nl.limbs n).length cb) (Nl.limbs n) := ((HB.out.mono fun b hb _ => (Nat.ne_of_lt hb : b ≠ w.heap.size)).below hb1)
    refine (decrease_at w.heap.size _ _ (Nl.limbs m) (Nl.limbs n) _ w1 rfl hr1.out (Nl.limbs_small _) (Nl.limbs_small _) hop (by omega) (Nat.le_refl _) (by omega)).mono ?_
    rintro e w2 ⟨rfl, Z', c, hr2, ho2, hl2, hs2, hv2⟩
    have HL2 := Lib.hid hl2
    have HV2 := Lib.hid hv2
    clear hl2 hv2
    go_wp2_with fail
    refine (trimmed_row _ _ Z' w2 HL2.out hr2 (by omega)).mono ?_
    rintro e w3 ⟨rfl, rfl⟩
    go_wp2_with fail
    go_ret
    have hb2 := below_of_only hb1 ho2 (Nat.le_refl _) hb1.size
    refine ⟨⟨_, rfl, (Own.num (k := m - n) (Nat.le_refl _) hr2 HL2.out (by omega) hs2 ?_).at.mono fun b _ h => HPP.out b h⟩, hb2⟩
    have h1 := HV2.out
    rw [Nl.val_limbs, Nl.val_limbs] at h1
    have h2 := Nl.val_lt hs2
    rw [HL2.out] at h2
    rcases Nat.eq_zero_or_pos c with rfl | hc
    · omega
    · have h3 : 4294967296 ^ (Nl.limbs m).length * 1 ≤ 4294967296 ^ (Nl.limbs m).length * c := Nat.mul_le_mul_left _ hc
      omega

set_option maxHeartbeats 1000000 in
theorem joined_in (p : Nat → Prop) (va vl : Value) (a lo k : Nat) (w : World) (hp : ∀ b, w.heap.size ≤ b → p b) (ha : AtP p w va (Nl.limbs a)) (hlo : AtP p w vl (Nl.limbs lo)) (hla : (Nl.limbs a).length ≤ 1000000) (hk : k ≤ 1000000) (hl : (Nl.limbs lo).length ≤ k) :
    Calls Tryz.prog 253 #[va, vl, .int .i64 k] w fun e w' => (∃ v, e = .returned v ∧ AtP p w' v (Nl.limbs (lo + 4294967296 ^ k * a))) ∧ Below w.heap.size w w' := by
  have HPP := Lib.hid hp
  clear hp
  have HA := Lib.hid ha
  have HL := Lib.hid hlo
  obtain ⟨aa, ca, rfl, -⟩ := ha.form
  obtain ⟨al, cl, rfl, -⟩ := hlo.form
  clear ha hlo
  by_cases hz : (Nl.limbs a).length = 0
  · have e0 : (((Nl.limbs a).length : Int) == 0) = true := by simp [hz]
    have HZ := Lib.hid hz
    clear hz
    go_enter Tryz.func253, Tryz.ntmps253
    go_wp2_with fail
    go_ret
    refine ⟨⟨_, rfl, ?_⟩, Below.refl _ _⟩
    rw [Nl.len_zero HZ.out, Nat.mul_zero, Nat.add_zero]
    exact HL.out
  have e0 : (((Nl.limbs a).length : Int) == 0) = false := by rw [beq_eq_false_iff_ne]; omega
  have ha0 : a ≠ 0 := by rintro rfl; rw [Nl.limbs_zero] at hz; exact hz rfl
  have hpos : 0 < (Nl.limbs a).length := by omega
  have hmk := make_words 183 Tryz.underlying183 w ((k : Int) + (Nl.limbs a).length) (k + (Nl.limbs a).length) (by omega) (by omega)
  have HZ := Lib.hid ha0
  clear hz ha0
  go_enter Tryz.func253, Tryz.ntmps253
  go_wp2_with (with_reducible refine wp_copy rfl (.tmp 17) (.tmp 18) 183 183 rfl Tryz.underlying183 _ _ _ _ _ _ rfl rfl w.heap.size 0 (Nl.zeros (k + (Nl.limbs a).length)) (Nl.limbs lo) (row_new w _) ?_ ?_ ?_ w.heap.size w ?_ ?_ ?_)
  · exact (Nat.min_eq_left (by omega)).symm
  · intro h0
    obtain ⟨b', f', h1, -, h2⟩ := (HL.out.alloc _).cells h0
    exact ⟨b', f', h1, h2⟩
  · rw [Nl.zeros_length]; omega
  · exact (Below.refl _ _).alloc (Nat.le_refl _) _
  · exact Nat.le_refl _
  intro w1 hr1 hb1
  rw [splice_zeros] at hr1
  clear hmk
  have hle : (Nl.limbs lo ++ Nl.zeros (k + (Nl.limbs a).length - (Nl.limbs lo).length)).length = k + (Nl.limbs a).length := by rw [List.length_append, Nl.zeros_length]; omega
  obtain ⟨Z, hZ⟩ : ∃ Z, Z = Nl.limbs lo ++ Nl.zeros (k + (Nl.limbs a).length - (Nl.limbs lo).length) := ⟨_, rfl⟩
  rw [← hZ] at hr1 hle
  have HZZ := Lib.hid hZ
  have HLE := Lib.hid hle
  clear hZ hle
  have hA1 : AtP p w1 (.slice aa (Nl.limbs a).length ca) (Nl.limbs a) := HA.out.below hb1
  have HA1 := Lib.hid hA1
  clear hA1
  have hcap : ¬ (Nl.limbs a = []) := by intro h; rw [h] at hpos; simp at hpos
  go_wp2_with (with_reducible refine wp_copy rfl (.tmp 22) (.tmp 23) 183 183 rfl Tryz.underlying183 _ _ _ _ _ _ rfl rfl w.heap.size k Z (Nl.limbs a) hr1.out ?_ ?_ ?_ w.heap.size w hb1 ?_ ?_)
  · exact (Nat.min_self _).symm
  · obtain ⟨b', f', h1, -, h2⟩ := HA1.out.cells hpos
    exact ⟨b', f', h1, h2⟩
  · rw [HLE.out]; omega
  · exact Nat.le_refl _
  intro w2 hr2 hb2
  rw [HZZ.out, splice_join _ _ _ hl, limbs_join HZ.out hl] at hr2
  have hl2 : (Nl.limbs (lo + 4294967296 ^ k * a)).length = k + (Nl.limbs a).length := by
    rw [← limbs_join HZ.out hl, List.length_append, List.length_append, Nl.zeros_length]; omega
  clear hr1
  have HL2 := Lib.hid hl2
  clear hl2
  go_wp2_with fail
  go_ret
  have hfin : Own w.heap.size w2 (.slice (some ⟨w.heap.size, 0, none⟩) (Nl.limbs (lo + 4294967296 ^ k * a)).length (Nl.limbs (lo + 4294967296 ^ k * a)).length) (Nl.limbs (lo + 4294967296 ^ k * a)) :=
    .inr ⟨_, _, rfl, Nat.le_refl _, hr2.out, List.take_of_length_le (Nat.le_refl _), Nat.le_refl _, by rw [HL2.out]; omega⟩
  rw [HL2.out] at hfin
  exact ⟨⟨_, rfl, hfin.at.mono fun b _ h => HPP.out b h⟩, hb2⟩
set_option maxHeartbeats 1000000 in
theorem shiftedRight_in (p : Nat → Prop) (va : Value) (m n : Nat) (w : World) (hp : ∀ b, w.heap.size ≤ b → p b) (ha : AtP p w va (Nl.limbs m)) (hla : (Nl.limbs m).length ≤ 1000000) (hn : n ≤ 9223372036854775807) :
    Calls Tryz.prog 174 #[va, .int .i64 n] w fun e w' => (∃ v, e = .returned v ∧ AtP p w' v (Nl.limbs (m / 2 ^ n))) ∧ Below w.heap.size w w' := by
  have HPP := Lib.hid hp
  clear hp
  obtain ⟨q, hq⟩ : ∃ q, q = n / 32 := ⟨_, rfl⟩
  obtain ⟨r, hr⟩ : ∃ r, r = n % 32 := ⟨_, rfl⟩
  have hr32 : r < 32 := by omega
  have q1 : (n : Int) / 32 = (q : Int) := by omega
  have r1 : (n : Int) % 32 = (r : Int) := by omega
  have hq2 : q ≤ 9223372036854775807 := by omega
  have HN := Lib.hid (show n = 32 * q + r from by omega)
  obtain ⟨M, hM⟩ : ∃ M, M = m / 4294967296 ^ q := ⟨_, rfl⟩
  have hMn : M / 2 ^ r = m / 2 ^ n := by rw [hM, pow32, Nat.div_div_eq_div_mul, ← Nat.pow_add, ← HN.out]
  have hlM : (Nl.limbs M).length ≤ 1000000 := Nat.le_trans (Nl.limbs_mono (by rw [hM]; exact Nat.div_le_self _ _)) hla
  have hab := above_num p va m q w ha hq2
  rw [← hM] at hab
  have HAB := Lib.hid hab
  have HM := Lib.hid hMn
  clear hq hr hn hab hM hMn ha
  go_enter Tryz.func174, Tryz.ntmps174
  go_wp2_with fail
  refine HAB.out.mono ?_
  rintro e w' ⟨⟨v, rfl, hv⟩, rfl⟩
  have HA := Lib.hid (show AtP p w v (Nl.limbs M) from hv)
  obtain ⟨a, ca, rfl, fa⟩ := hv.form
  have FA := Lib.hid fa
  clear hv fa
  by_cases hr0 : r = 0
  · subst hr0
    go_wp2_with fail
    go_ret
    refine ⟨⟨_, rfl, ?_⟩, Below.refl _ _⟩
    rw [← HM.out, Nat.pow_zero, Nat.div_one]
    exact HA.out
  have e1 : ((r : Int) == 0) = false := by rw [beq_eq_false_iff_ne]; omega
  have hmk := make_words 183 Tryz.underlying183 w (Nl.limbs M).length ((Nl.limbs M).length) (by omega) (by omega)
  clear hr0
  go_wp2_with fail
  clear hmk
  have hrow := row_new w (Nl.zeros ((Nl.limbs M).length))
  have hb0 : Below w.heap.size w (w.alloc (.cells (vals (Nl.zeros ((Nl.limbs M).length))).toArray 80)) := (Below.refl _ _).alloc (Nat.le_refl _) _
  have HR := Lib.hid hrow
  have HB := Lib.hid hb0
  clear hrow hb0
  go_loopw [8, 9] (fun c i wr => ∃ (k : Nat) (d : Nat) (Z' : List Nat), k ≤ (Nl.limbs M).length ∧ i = .int .i64 ((k : Int) - 1) ∧ c = .int .u32 (d : Int) ∧ d < 4294967296 ∧ Hid (d = Nl.val ((Nl.limbs M).drop k) % 2 ^ r * 2 ^ (32 - r)) ∧ Hid (Row wr w.heap.size Z') ∧ Hid (Below w.heap.size w wr) ∧ Hid (Z'.length = (Nl.limbs M).length) ∧ Hid (Nl.Small Z') ∧
      Hid (Nl.val (Z'.drop k) = Nl.val ((Nl.limbs M).drop k) / 2 ^ r)) (fun _ i _ => (intOf i + 1).toNat)
  case atStart => exact ⟨(Nl.limbs M).length, 0, _, Nat.le_refl _, rfl, rfl, by omega, by simp [Hid], HR, HB, by rw [Hid, Nl.zeros_length], Nl.small_replicate _, by rw [Hid, zeros_drop, Nl.val_replicate]; simp⟩
  case round =>
    obtain ⟨k, d, Z', hk, rfl, rfl, hd, hdr, hrow, hbel, hlen, hsm, hv⟩ := hrel
    cases k with
    | zero =>
      go_wp2_with fail
      refine (trimmed_row _ _ _ wr hlen.out hrow.out (by omega)).mono ?_
      rintro e w2 ⟨rfl, rfl⟩
      go_wp2_with fail
      go_ret
      refine ⟨⟨_, rfl, (Own.num (k := m / 2 ^ n) (Nat.le_refl _) hrow.out hlen.out (by omega) hsm.out ?_).at.mono fun b _ h => HPP.out b h⟩, hbel.out⟩
      have := hv.out
      rw [List.drop_zero, List.drop_zero, Nl.val_limbs, HM.out] at this
      exact this
    | succ k =>
      rw [show ((k + 1 : Nat) : Int) - 1 = (k : Int) from by omega]
      rcases FA.out with fb | ⟨bb, ob, rfl, -, hcb, -, hbb, hcy⟩
      · rw [fb] at hk; simp at hk
      obtain ⟨x, hx⟩ : ∃ x, x = (Nl.limbs M).getD k 0 := ⟨_, rfl⟩
      have hx2 : x < 4294967296 := by rw [hx]; exact (Nl.limbs_small M).getD k
      have cx : wr.cell? ⟨bb, ob + k, none⟩ = some (.int .u32 (x : Int)) := by rw [hx]; exact (hbel.out.cell (p := ⟨bb, ob + k, none⟩) hbb).trans (hcy k hk)
      obtain ⟨y, hy⟩ : ∃ y, y = Z'.getD k 0 := ⟨_, rfl⟩
      have cz := hrow.out.cell (i := k) (by rw [hlen.out]; omega)
      have fz := hrow.out.free k
      rw [← hy] at cz
      have Hx := Lib.hid hx
      clear hx hy hcy
      go_wp2
      go_roundw
      case rel =>
        obtain ⟨V, hV⟩ : ∃ V, V = Nl.val ((Nl.limbs M).drop (k + 1)) := ⟨_, rfl⟩
        have hVk : Nl.val ((Nl.limbs M).drop k) = x + 4294967296 * V := by rw [Nl.val_drop_succ _ _ hk, ← Hx.out, ← hV]
        obtain ⟨s1, s2, s3, s4⟩ := shr_word (V := V) hx2 (show r ≤ 32 by omega)
        have hdr := hdr.out
        have hv := hv.out
        rw [← hV] at hdr hv
        have e2 : bits BinOp.or IntKind.u32 ((x : Int) / 2 ^ r) (d : Int) = ((x / 2 ^ r + V % 2 ^ r * 2 ^ (32 - r) : Nat) : Int) := by
          rw [← s1, ← hdr, ← u32_or_nat _ _ (Nat.lt_of_le_of_lt (Nat.div_le_self _ _) hx2) hd]
          congr 1
        have e3 : (x : Int) * 2 ^ (32 - r) % 4294967296 = ((x * 2 ^ (32 - r) % 4294967296 : Nat) : Int) := by
          rw [Int.natCast_emod]; rfl
        rw [e2, e3]
        refine ⟨k, _, Z'.set k (x / 2 ^ r + V % 2 ^ r * 2 ^ (32 - r)), by omega, rfl, rfl, Nat.mod_lt _ (by decide), ?_, hrow.out.set _ _, hbel.out.setCell (Nat.le_refl _) _, ?_, ?_, ?_⟩
        · rw [Hid, s4, hVk]
        · simpa [Hid] using hlen.out
        · exact hsm.out.set _ s2
        · rw [Hid, Nl.val_drop_succ _ _ (by rw [List.length_set, hlen.out]; omega), Nl.drop_set_succ, hv, hVk, ← s3]
          rw [getD_set_self _ _ _ (by rw [hlen.out]; omega)]
      case measure => simp [intOf] <;> omega
end Go.Proofs.YtkbghamkalidcaaGreat
