/-
  NatForms returns true for any two slices and a number. Conditions: those that each theorem names.
-/
import Derived.Test.YtfaledeidjmooaaGreatDoorFormsRef
import Derived.Test.YtfaledeidjmooaaGreatDoorRefTrim
import Derived.Test.YtfaledeidjmooaaGreatDoorSane
namespace Go.Proofs.YtfaledeidjmooaaGreatDoor
open Go.RowKit

set_option maxRecDepth 20000 in
set_option maxHeartbeats 4000000 in
theorem natForms_0 (va vb : Value) (xs ys : List Nat) (n : Nat) (w : World) (ha : At w va xs) (hb : At w vb ys) (hsx : Nl.Small xs) (hsy : Nl.Small ys) (hn : n < 18446744073709551616) (hT : TabAt w) (hla : xs.length ≤ 1100) (hlb : ys.length ≤ 1100)
    (hv : validB xs = false) :
    Calls Tryz.prog 3 #[va, vb, .int .u64 n] w fun e w' => e = .returned (.bool true) ∧ Below w.heap.size w w' := by
  have HA := Lib.hid ha
  have HB := Lib.hid hb
  have HT := Lib.hid hT
  have HS := Lib.hid (And.intro hsx hsy)
  have L1 := light_any va xs 1100 w ha
  rw [decide_eq_true hla] at L1
  have HL1 := Lib.hid L1
  have L2 := light_any vb ys 1100 w hb
  rw [decide_eq_true hlb] at L2
  have HL2 := Lib.hid L2
  have U := (toUint_any va xs w ha hsx).mono fun e w' q => (⟨q.1, q.2.symm⟩ : _ ∧ w = w')
  rw [uintV, uintC, if_neg (fun h => by rw [hv] at h; exact absurd h.1 (by decide)), if_neg (by rw [hv]; decide)] at U
  have CM := cmp_gen va vb xs ys w ha hb hsx hsy
  rw [if_neg (fun h => by rw [hv] at h; exact absurd h.1 (by decide)), if_neg (fun h => by rw [hv] at h; exact absurd h.1 (by decide))] at CM
  have HU := Lib.hid U
  have HCM := Lib.hid CM
  have HLL := Lib.hid (And.intro hla hlb)
  have HV := Lib.hid hv
  obtain ⟨a, ca, rfl, -⟩ := ha.form
  obtain ⟨b, cb, rfl, -⟩ := hb.form
  clear ha hb hT hsx hsy L1 L2 U CM hla hlb hv
  go_enter Tryz.func3, Tryz.ntmps3
  go_wp2_with fail
  refine HL1.out.mono ?_
  rintro e w' ⟨rfl, rfl⟩
  go_wp2_with fail
  refine HL2.out.mono ?_
  rintro e w' ⟨rfl, rfl⟩
  go_wp2_with fail
  refine HU.out.mono ?_
  rintro e w' ⟨rfl, rfl⟩
  go_wp2_with fail
  refine HCM.out.mono ?_
  rintro e w1 ⟨rfl, hb1⟩
  have B1 := Lib.hid hb1
  have hbi := (natBits_any _ xs w1 (HA.out.below B1.out) HS.out.1).mono fun e w' q => (⟨q.1, q.2.symm⟩ : _ ∧ w1 = w')
  rw [if_neg (by rw [HV.out]; decide), if_neg (by rw [HV.out]; decide)] at hbi
  have hze := (natZeros_any _ xs w1 (HA.out.below B1.out) HS.out.1 (HT.out.below B1.out)).mono fun e w' q => (⟨q.1, q.2.symm⟩ : _ ∧ w1 = w')
  rw [if_neg (by rw [HV.out]; decide), if_neg (by rw [HV.out]; decide)] at hze
  have hva := valid_any _ xs w1 (HA.out.below B1.out)
  rw [HV.out] at hva
  have hrv := refValid_any _ xs w1 (HA.out.below B1.out)
  rw [HV.out] at hrv
  have HBI := Lib.hid hbi
  have HZE := Lib.hid hze
  have HVA := Lib.hid hva
  have HRV := Lib.hid hrv
  have HFU := Lib.hid (natFromUint_any n w1 hn)
  clear hb1 hbi hze hva hrv HL1 HL2 HU HCM
  go_wp2_with fail
  refine HBI.out.mono ?_
  rintro e w' ⟨rfl, rfl⟩
  go_wp2_with fail
  refine HZE.out.mono ?_
  rintro e w' ⟨rfl, rfl⟩
  go_wp2_with fail
  refine HVA.out.mono ?_
  rintro e w' ⟨rfl, rfl⟩
  go_wp2_with fail
  refine HRV.out.mono ?_
  rintro e w' ⟨rfl, rfl⟩
  go_wp2_with fail
  refine HFU.out.mono ?_
  rintro e w2 ⟨⟨v, rfl, hv⟩, hb2⟩
  have HVV := Lib.hid hv.at.at
  have B2 := Lib.hid (B1.out.trans (hb2.mono B1.out.size))
  have HOF := Lib.hid (refOf_any n w2 hn)
  clear hv hb2 B1 HFU HBI HZE HVA HRV
  go_wp2_with fail
  refine HOF.out.mono ?_
  rintro e w3 ⟨⟨u, rfl, hu⟩, hb3⟩
  have hsm := same_any v u _ _ w3 (HVV.out.below hb3) hu
  rw [sameB_self] at hsm
  have HSM := Lib.hid hsm
  have B3 := Lib.hid (B2.out.trans (hb3.mono B2.out.size))
  clear hsm hu hb3 HVV B2 HOF
  go_wp2_with fail
  refine HSM.out.mono ?_
  rintro e w4 ⟨rfl, k4, h4⟩
  have B4 := Lib.hid (B3.out.trans ((show Below w3.heap.size w3 w4 by rw [h4]; exact below_drewN _ _ _).mono B3.out.size))
  have hrv := refValid_any _ xs w4 (HA.out.below B4.out)
  rw [HV.out] at hrv
  have HRV := Lib.hid hrv
  clear h4 B3 HSM hrv
  go_wp2_with fail
  refine HRV.out.mono ?_
  rintro e w' ⟨rfl, rfl⟩
  have HSA := Lib.hid (sanity_any w4)
  go_wp2_with fail
  refine HSA.out.mono ?_
  rintro e w7 ⟨rfl, hb7⟩
  have B7 := Lib.hid (B4.out.trans (hb7.mono B4.out.size))
  clear hb7 HSA
  go_wp2_with fail
  go_ret
  exact ⟨rfl, B7.out⟩

set_option maxRecDepth 20000 in
set_option maxHeartbeats 4000000 in
theorem natForms_1 (va vb : Value) (xs ys : List Nat) (n : Nat) (w : World) (ha : At w va xs) (hb : At w vb ys) (hsx : Nl.Small xs) (hsy : Nl.Small ys) (hn : n < 18446744073709551616) (hT : TabAt w) (hla : xs.length ≤ 1100) (hlb : ys.length ≤ 1100)
    (hv : validB xs = true) (h2 : 2 < xs.length) (hw : validB ys = false) :
    Calls Tryz.prog 3 #[va, vb, .int .u64 n] w fun e w' => e = .returned (.bool true) ∧ Below w.heap.size w w' := by
  have HA := Lib.hid ha
  have HB := Lib.hid hb
  have HT := Lib.hid hT
  have HS := Lib.hid (And.intro hsx hsy)
  have L1 := light_any va xs 1100 w ha
  rw [decide_eq_true hla] at L1
  have HL1 := Lib.hid L1
  have L2 := light_any vb ys 1100 w hb
  rw [decide_eq_true hlb] at L2
  have HL2 := Lib.hid L2
  have U := (toUint_any va xs w ha hsx).mono fun e w' q => (⟨q.1, q.2.symm⟩ : _ ∧ w = w')
  rw [uintV, uintC, if_neg (fun h => by have := h.2; omega), if_pos hv, if_neg (by omega)] at U
  have CM := cmp_gen va vb xs ys w ha hb hsx hsy
  rw [if_neg (fun h => by rw [hw] at h; exact absurd h.2 (by decide)), if_neg (fun h => by rw [hw] at h; exact absurd h.2 (by decide))] at CM
  have hle := validB_eq hsx hv
  obtain ⟨m, hm⟩ : ∃ m, m = Nl.val xs := ⟨_, rfl⟩
  rw [← hm] at hle
  have HLE := Lib.hid hle
  have HM := Lib.hid hm
  obtain ⟨B, hB⟩ : ∃ B, B = nbits m := ⟨_, rfl⟩
  have HBB := Lib.hid hB
  obtain ⟨Z, hZ⟩ : ∃ Z, Z = tzn m := ⟨_, rfl⟩
  have HZZ := Lib.hid hZ
  have t3 : decide ((xs.length : Int) > 2) = true := decide_eq_true (by omega)
  have t4 : decide ((xs.length : Int) ≤ 2) = false := decide_eq_false (by omega)
  have HU := Lib.hid U
  have HCM := Lib.hid CM
  have HLL := Lib.hid (And.intro hla hlb)
  have HV := Lib.hid hv
  have HW := Lib.hid hw
  obtain ⟨a, ca, rfl, -⟩ := ha.form
  obtain ⟨b, cb, rfl, -⟩ := hb.form
  clear ha hb hT hsx hsy L1 L2 U CM hla hlb hv hle hm hB hZ h2 hw
  go_enter Tryz.func3, Tryz.ntmps3
  go_wp2_with fail
  refine HL1.out.mono ?_
  rintro e w' ⟨rfl, rfl⟩
  go_wp2_with fail
  refine HL2.out.mono ?_
  rintro e w' ⟨rfl, rfl⟩
  go_wp2_with fail
  refine HU.out.mono ?_
  rintro e w' ⟨rfl, rfl⟩
  go_wp2_with fail
  refine HCM.out.mono ?_
  rintro e w1 ⟨rfl, hb1⟩
  have B1 := Lib.hid hb1
  have hbi := (natBits_any _ xs w1 (HA.out.below B1.out) HS.out.1).mono fun e w' q => (⟨q.1, q.2.symm⟩ : _ ∧ w1 = w')
  rw [if_pos HV.out, if_pos HV.out] at hbi
  rw [← HM.out, ← HBB.out] at hbi
  have hze := (natZeros_any _ xs w1 (HA.out.below B1.out) HS.out.1 (HT.out.below B1.out)).mono fun e w' q => (⟨q.1, q.2.symm⟩ : _ ∧ w1 = w')
  rw [if_pos HV.out, if_pos HV.out] at hze
  rw [← HM.out, ← HZZ.out] at hze
  have hva := valid_any _ xs w1 (HA.out.below B1.out)
  rw [HV.out] at hva
  have hrv := refValid_any _ xs w1 (HA.out.below B1.out)
  rw [HV.out] at hrv
  have HBI := Lib.hid hbi
  have HZE := Lib.hid hze
  have HVA := Lib.hid hva
  have HRV := Lib.hid hrv
  have HFU := Lib.hid (natFromUint_any n w1 hn)
  clear hb1 hbi hze hva hrv HL1 HL2 HU HCM
  go_wp2_with fail
  refine HBI.out.mono ?_
  rintro e w' ⟨rfl, rfl⟩
  go_wp2_with fail
  refine HZE.out.mono ?_
  rintro e w' ⟨rfl, rfl⟩
  go_wp2_with fail
  refine HVA.out.mono ?_
  rintro e w' ⟨rfl, rfl⟩
  go_wp2_with fail
  refine HRV.out.mono ?_
  rintro e w' ⟨rfl, rfl⟩
  go_wp2_with fail
  refine HFU.out.mono ?_
  rintro e w2 ⟨⟨v, rfl, hv⟩, hb2⟩
  have HVV := Lib.hid hv.at.at
  have B2 := Lib.hid (B1.out.trans (hb2.mono B1.out.size))
  have HOF := Lib.hid (refOf_any n w2 hn)
  clear hv hb2 B1 HFU HBI HZE HVA HRV
  go_wp2_with fail
  refine HOF.out.mono ?_
  rintro e w3 ⟨⟨u, rfl, hu⟩, hb3⟩
  have hsm := same_any v u _ _ w3 (HVV.out.below hb3) hu
  rw [sameB_self] at hsm
  have HSM := Lib.hid hsm
  have B3 := Lib.hid (B2.out.trans (hb3.mono B2.out.size))
  clear hsm hu hb3 HVV B2 HOF
  go_wp2_with fail
  refine HSM.out.mono ?_
  rintro e w4 ⟨rfl, k4, h4⟩
  have B4 := Lib.hid (B3.out.trans ((show Below w3.heap.size w3 w4 by rw [h4]; exact below_drewN _ _ _).mono B3.out.size))
  have hrv := refValid_any _ xs w4 (HA.out.below B4.out)
  rw [HV.out] at hrv
  have HRV := Lib.hid hrv
  clear h4 B3 HSM hrv
  go_wp2_with fail
  refine HRV.out.mono ?_
  rintro e w' ⟨rfl, rfl⟩
  have hrw := refValid_any _ ys w4 (HB.out.below B4.out)
  rw [HW.out] at hrw
  have HRW := Lib.hid hrw
  clear hrw
  go_wp2_with fail
  refine HRW.out.mono ?_
  rintro e w' ⟨rfl, rfl⟩
  have HSA := Lib.hid (sanity_any w4)
  go_wp2_with fail
  refine HSA.out.mono ?_
  rintro e w7 ⟨rfl, hb7⟩
  have B7 := Lib.hid (B4.out.trans (hb7.mono B4.out.size))
  clear hb7 HSA
  go_wp2_with fail
  go_ret
  exact ⟨rfl, B7.out⟩

set_option maxRecDepth 20000 in
set_option maxHeartbeats 4000000 in
theorem natForms_2 (va vb : Value) (xs ys : List Nat) (n : Nat) (w : World) (ha : At w va xs) (hb : At w vb ys) (hsx : Nl.Small xs) (hsy : Nl.Small ys) (hn : n < 18446744073709551616) (hT : TabAt w) (hla : xs.length ≤ 1100) (hlb : ys.length ≤ 1100)
    (hv : validB xs = true) (h2 : 2 < xs.length) (hw : validB ys = true) :
    Calls Tryz.prog 3 #[va, vb, .int .u64 n] w fun e w' => e = .returned (.bool true) ∧ Below w.heap.size w w' := by
  have HA := Lib.hid ha
  have HB := Lib.hid hb
  have HT := Lib.hid hT
  have HS := Lib.hid (And.intro hsx hsy)
  have L1 := light_any va xs 1100 w ha
  rw [decide_eq_true hla] at L1
  have HL1 := Lib.hid L1
  have L2 := light_any vb ys 1100 w hb
  rw [decide_eq_true hlb] at L2
  have HL2 := Lib.hid L2
  have U := (toUint_any va xs w ha hsx).mono fun e w' q => (⟨q.1, q.2.symm⟩ : _ ∧ w = w')
  rw [uintV, uintC, if_neg (fun h => by have := h.2; omega), if_pos hv, if_neg (by omega)] at U
  have CM := cmp_gen va vb xs ys w ha hb hsx hsy
  rw [if_pos ⟨hv, hw⟩, if_pos ⟨hv, hw⟩] at CM
  have hle := validB_eq hsx hv
  obtain ⟨m, hm⟩ : ∃ m, m = Nl.val xs := ⟨_, rfl⟩
  rw [← hm] at hle
  rw [← hm] at CM
  have HLE := Lib.hid hle
  have HM := Lib.hid hm
  obtain ⟨C, hC⟩ : ∃ C, C = cmpI m (Nl.val ys) := ⟨_, rfl⟩
  rw [← hC] at CM
  have HCC := Lib.hid hC
  obtain ⟨B, hB⟩ : ∃ B, B = nbits m := ⟨_, rfl⟩
  have HBB := Lib.hid hB
  obtain ⟨Z, hZ⟩ : ∃ Z, Z = tzn m := ⟨_, rfl⟩
  have HZZ := Lib.hid hZ
  have t3 : decide ((xs.length : Int) > 2) = true := decide_eq_true (by omega)
  have t4 : decide ((xs.length : Int) ≤ 2) = false := decide_eq_false (by omega)
  have HU := Lib.hid U
  have HCM := Lib.hid CM
  have HLL := Lib.hid (And.intro hla hlb)
  have HV := Lib.hid hv
  have HW := Lib.hid hw
  obtain ⟨a, ca, rfl, -⟩ := ha.form
  obtain ⟨b, cb, rfl, -⟩ := hb.form
  clear ha hb hT hsx hsy L1 L2 U CM hla hlb hv hle hm hB hZ h2 hw hC
  go_enter Tryz.func3, Tryz.ntmps3
  go_wp2_with fail
  refine HL1.out.mono ?_
  rintro e w' ⟨rfl, rfl⟩
  go_wp2_with fail
  refine HL2.out.mono ?_
  rintro e w' ⟨rfl, rfl⟩
  go_wp2_with fail
  refine HU.out.mono ?_
  rintro e w' ⟨rfl, rfl⟩
  go_wp2_with fail
  refine HCM.out.mono ?_
  rintro e w1 ⟨rfl, hb1⟩
  have B1 := Lib.hid hb1
  have hbi := (natBits_any _ xs w1 (HA.out.below B1.out) HS.out.1).mono fun e w' q => (⟨q.1, q.2.symm⟩ : _ ∧ w1 = w')
  rw [if_pos HV.out, if_pos HV.out] at hbi
  rw [← HM.out, ← HBB.out] at hbi
  have hze := (natZeros_any _ xs w1 (HA.out.below B1.out) HS.out.1 (HT.out.below B1.out)).mono fun e w' q => (⟨q.1, q.2.symm⟩ : _ ∧ w1 = w')
  rw [if_pos HV.out, if_pos HV.out] at hze
  rw [← HM.out, ← HZZ.out] at hze
  have hva := valid_any _ xs w1 (HA.out.below B1.out)
  rw [HV.out] at hva
  have hrv := refValid_any _ xs w1 (HA.out.below B1.out)
  rw [HV.out] at hrv
  have HBI := Lib.hid hbi
  have HZE := Lib.hid hze
  have HVA := Lib.hid hva
  have HRV := Lib.hid hrv
  have HFU := Lib.hid (natFromUint_any n w1 hn)
  clear hb1 hbi hze hva hrv HL1 HL2 HU HCM
  go_wp2_with fail
  refine HBI.out.mono ?_
  rintro e w' ⟨rfl, rfl⟩
  go_wp2_with fail
  refine HZE.out.mono ?_
  rintro e w' ⟨rfl, rfl⟩
  go_wp2_with fail
  refine HVA.out.mono ?_
  rintro e w' ⟨rfl, rfl⟩
  go_wp2_with fail
  refine HRV.out.mono ?_
  rintro e w' ⟨rfl, rfl⟩
  go_wp2_with fail
  refine HFU.out.mono ?_
  rintro e w2 ⟨⟨v, rfl, hv⟩, hb2⟩
  have HVV := Lib.hid hv.at.at
  have B2 := Lib.hid (B1.out.trans (hb2.mono B1.out.size))
  have HOF := Lib.hid (refOf_any n w2 hn)
  clear hv hb2 B1 HFU HBI HZE HVA HRV
  go_wp2_with fail
  refine HOF.out.mono ?_
  rintro e w3 ⟨⟨u, rfl, hu⟩, hb3⟩
  have hsm := same_any v u _ _ w3 (HVV.out.below hb3) hu
  rw [sameB_self] at hsm
  have HSM := Lib.hid hsm
  have B3 := Lib.hid (B2.out.trans (hb3.mono B2.out.size))
  clear hsm hu hb3 HVV B2 HOF
  go_wp2_with fail
  refine HSM.out.mono ?_
  rintro e w4 ⟨rfl, k4, h4⟩
  have B4 := Lib.hid (B3.out.trans ((show Below w3.heap.size w3 w4 by rw [h4]; exact below_drewN _ _ _).mono B3.out.size))
  have hrv := refValid_any _ xs w4 (HA.out.below B4.out)
  rw [HV.out] at hrv
  have HRV := Lib.hid hrv
  clear h4 B3 HSM hrv
  go_wp2_with fail
  refine HRV.out.mono ?_
  rintro e w' ⟨rfl, rfl⟩
  have hrw := refValid_any _ ys w4 (HB.out.below B4.out)
  rw [HW.out] at hrw
  have HRW := Lib.hid hrw
  clear hrw
  go_wp2_with fail
  refine HRW.out.mono ?_
  rintro e w' ⟨rfl, rfl⟩
  have HSA := Lib.hid (sanity_any w4)
  go_wp2_with fail
  refine HSA.out.mono ?_
  rintro e w7 ⟨rfl, hb7⟩
  have B7 := Lib.hid (B4.out.trans (hb7.mono B4.out.size))
  clear hb7 HSA
  have hrc := refCmp_any _ _ xs ys w7 (HA.out.below B7.out) (HB.out.below B7.out) HS.out.1 HS.out.2 (by have := HLL.out; omega) (by have := HLL.out; omega)
  rw [← HM.out, ← HCC.out] at hrc
  have HRC := Lib.hid hrc
  have hrb := refBits_any _ m w7 (by rw [IsN, ← HLE.out.1]; exact HA.out.below B7.out) (by have := HLE.out.2; omega)
  rw [← HBB.out] at hrb
  have HRB := Lib.hid hrb
  have hrz := refZeros_any _ m w7 (by rw [IsN, ← HLE.out.1]; exact HA.out.below B7.out) (by have := HLE.out.2; omega)
  rw [← HZZ.out] at hrz
  have HRZ := Lib.hid hrz
  clear hrc hrb hrz
  go_wp2_with fail
  go_at_call 16
  refine HRC.out.mono ?_
  rintro e w' ⟨rfl, rfl⟩
  go_wp2_with fail
  go_at_call 17
  refine HRB.out.mono ?_
  rintro e w' ⟨rfl, rfl⟩
  go_wp2_with fail
  go_at_call 18
  refine HRZ.out.mono ?_
  rintro e w' ⟨rfl, rfl⟩
  go_wp2_with fail
  go_ret
  exact ⟨rfl, B7.out⟩

set_option maxRecDepth 20000 in
set_option maxHeartbeats 4000000 in
theorem natForms_3 (va vb : Value) (xs ys : List Nat) (n : Nat) (w : World) (ha : At w va xs) (hb : At w vb ys) (hsx : Nl.Small xs) (hsy : Nl.Small ys) (hn : n < 18446744073709551616) (hT : TabAt w) (hla : xs.length ≤ 1100) (hlb : ys.length ≤ 1100)
    (hv : validB xs = true) (h2 : xs.length ≤ 2) (hw : validB ys = false) :
    Calls Tryz.prog 3 #[va, vb, .int .u64 n] w fun e w' => e = .returned (.bool true) ∧ Below w.heap.size w w' := by
  have HA := Lib.hid ha
  have HB := Lib.hid hb
  have HT := Lib.hid hT
  have HS := Lib.hid (And.intro hsx hsy)
  have L1 := light_any va xs 1100 w ha
  rw [decide_eq_true hla] at L1
  have HL1 := Lib.hid L1
  have L2 := light_any vb ys 1100 w hb
  rw [decide_eq_true hlb] at L2
  have HL2 := Lib.hid L2
  have U := (toUint_any va xs w ha hsx).mono fun e w' q => (⟨q.1, q.2.symm⟩ : _ ∧ w = w')
  rw [uintV, uintC, if_pos ⟨hv, h2⟩, if_pos hv, if_pos h2] at U
  have CM := cmp_gen va vb xs ys w ha hb hsx hsy
  rw [if_neg (fun h => by rw [hw] at h; exact absurd h.2 (by decide)), if_neg (fun h => by rw [hw] at h; exact absurd h.2 (by decide))] at CM
  have hle := validB_eq hsx hv
  obtain ⟨m, hm⟩ : ∃ m, m = Nl.val xs := ⟨_, rfl⟩
  rw [← hm] at hle U
  have HLE := Lib.hid hle
  have HM := Lib.hid hm
  obtain ⟨B, hB⟩ : ∃ B, B = nbits m := ⟨_, rfl⟩
  have HBB := Lib.hid hB
  obtain ⟨Z, hZ⟩ : ∃ Z, Z = tzn m := ⟨_, rfl⟩
  have HZZ := Lib.hid hZ
  have hm64 : m < 18446744073709551616 := by
    have h1 := Nl.val_lt hsx
    have h3 := Nl.pow_le h2
    have h4 : 4294967296 ^ 2 = 18446744073709551616 := by decide
    omega
  have t3 : decide ((xs.length : Int) > 2) = false := decide_eq_false (by omega)
  have t4 : decide ((xs.length : Int) ≤ 2) = true := decide_eq_true (by omega)
  have HU := Lib.hid U
  have HCM := Lib.hid CM
  have HLL := Lib.hid (And.intro hla hlb)
  have HV := Lib.hid hv
  have HW := Lib.hid hw
  obtain ⟨a, ca, rfl, -⟩ := ha.form
  obtain ⟨b, cb, rfl, -⟩ := hb.form
  clear ha hb hT hsx hsy L1 L2 U CM hla hlb hv hle hm hB hZ h2 hw
  go_enter Tryz.func3, Tryz.ntmps3
  go_wp2_with fail
  refine HL1.out.mono ?_
  rintro e w' ⟨rfl, rfl⟩
  go_wp2_with fail
  refine HL2.out.mono ?_
  rintro e w' ⟨rfl, rfl⟩
  go_wp2_with fail
  refine HU.out.mono ?_
  rintro e w' ⟨rfl, rfl⟩
  go_wp2_with fail
  refine HCM.out.mono ?_
  rintro e w1 ⟨rfl, hb1⟩
  have B1 := Lib.hid hb1
  have hbi := (natBits_any _ xs w1 (HA.out.below B1.out) HS.out.1).mono fun e w' q => (⟨q.1, q.2.symm⟩ : _ ∧ w1 = w')
  rw [if_pos HV.out, if_pos HV.out] at hbi
  rw [← HM.out, ← HBB.out] at hbi
  have hze := (natZeros_any _ xs w1 (HA.out.below B1.out) HS.out.1 (HT.out.below B1.out)).mono fun e w' q => (⟨q.1, q.2.symm⟩ : _ ∧ w1 = w')
  rw [if_pos HV.out, if_pos HV.out] at hze
  rw [← HM.out, ← HZZ.out] at hze
  have hva := valid_any _ xs w1 (HA.out.below B1.out)
  rw [HV.out] at hva
  have hrv := refValid_any _ xs w1 (HA.out.below B1.out)
  rw [HV.out] at hrv
  have HBI := Lib.hid hbi
  have HZE := Lib.hid hze
  have HVA := Lib.hid hva
  have HRV := Lib.hid hrv
  have HFU := Lib.hid (natFromUint_any n w1 hn)
  clear hb1 hbi hze hva hrv HL1 HL2 HU HCM
  go_wp2_with fail
  refine HBI.out.mono ?_
  rintro e w' ⟨rfl, rfl⟩
  go_wp2_with fail
  refine HZE.out.mono ?_
  rintro e w' ⟨rfl, rfl⟩
  go_wp2_with fail
  refine HVA.out.mono ?_
  rintro e w' ⟨rfl, rfl⟩
  go_wp2_with fail
  refine HRV.out.mono ?_
  rintro e w' ⟨rfl, rfl⟩
  go_wp2_with fail
  refine HFU.out.mono ?_
  rintro e w2 ⟨⟨v, rfl, hv⟩, hb2⟩
  have HVV := Lib.hid hv.at.at
  have B2 := Lib.hid (B1.out.trans (hb2.mono B1.out.size))
  have HOF := Lib.hid (refOf_any n w2 hn)
  clear hv hb2 B1 HFU HBI HZE HVA HRV
  go_wp2_with fail
  refine HOF.out.mono ?_
  rintro e w3 ⟨⟨u, rfl, hu⟩, hb3⟩
  have hsm := same_any v u _ _ w3 (HVV.out.below hb3) hu
  rw [sameB_self] at hsm
  have HSM := Lib.hid hsm
  have B3 := Lib.hid (B2.out.trans (hb3.mono B2.out.size))
  clear hsm hu hb3 HVV B2 HOF
  go_wp2_with fail
  refine HSM.out.mono ?_
  rintro e w4 ⟨rfl, k4, h4⟩
  have B4 := Lib.hid (B3.out.trans ((show Below w3.heap.size w3 w4 by rw [h4]; exact below_drewN _ _ _).mono B3.out.size))
  have hrv := refValid_any _ xs w4 (HA.out.below B4.out)
  rw [HV.out] at hrv
  have HRV := Lib.hid hrv
  clear h4 B3 HSM hrv
  go_wp2_with fail
  refine HRV.out.mono ?_
  rintro e w' ⟨rfl, rfl⟩
  have HOF := Lib.hid (refOf_any m w4 hm64)
  go_wp2_with fail
  refine HOF.out.mono ?_
  rintro e w5 ⟨⟨u2, rfl, hu2⟩, hb5⟩
  have B5 := Lib.hid (B4.out.trans (hb5.mono B4.out.size))
  have hsm := same_any u2 _ _ xs w5 hu2 (HA.out.below B5.out)
  rw [show sameB (Nl.limbs m) xs = true by rw [← HLE.out.1]; exact sameB_self _] at hsm
  have HSM := Lib.hid hsm
  clear hsm hb5 hu2 HOF B4
  go_wp2_with fail
  refine HSM.out.mono ?_
  rintro e w6 ⟨rfl, k6, h6⟩
  have B6 := Lib.hid (B5.out.trans ((show Below w5.heap.size w5 w6 by rw [h6]; exact below_drewN _ _ _).mono B5.out.size))
  clear h6 B5 HSM
  have hrw := refValid_any _ ys w6 (HB.out.below B6.out)
  rw [HW.out] at hrw
  have HRW := Lib.hid hrw
  clear hrw
  go_wp2_with fail
  refine HRW.out.mono ?_
  rintro e w' ⟨rfl, rfl⟩
  have HSA := Lib.hid (sanity_any w6)
  go_wp2_with fail
  refine HSA.out.mono ?_
  rintro e w7 ⟨rfl, hb7⟩
  have B7 := Lib.hid (B6.out.trans (hb7.mono B6.out.size))
  clear hb7 HSA
  go_wp2_with fail
  go_ret
  exact ⟨rfl, B7.out⟩

set_option maxRecDepth 20000 in
set_option maxHeartbeats 4000000 in
theorem natForms_4 (va vb : Value) (xs ys : List Nat) (n : Nat) (w : World) (ha : At w va xs) (hb : At w vb ys) (hsx : Nl.Small xs) (hsy : Nl.Small ys) (hn : n < 18446744073709551616) (hT : TabAt w) (hla : xs.length ≤ 1100) (hlb : ys.length ≤ 1100)
    (hv : validB xs = true) (h2 : xs.length ≤ 2) (hw : validB ys = true) :
    Calls Tryz.prog 3 #[va, vb, .int .u64 n] w fun e w' => e = .returned (.bool true) ∧ Below w.heap.size w w' := by
  have HA := Lib.hid ha
  have HB := Lib.hid hb
  have HT := Lib.hid hT
  have HS := Lib.hid (And.intro hsx hsy)
  have L1 := light_any va xs 1100 w ha
  rw [decide_eq_true hla] at L1
  have HL1 := Lib.hid L1
  have L2 := light_any vb ys 1100 w hb
  rw [decide_eq_true hlb] at L2
  have HL2 := Lib.hid L2
  have U := (toUint_any va xs w ha hsx).mono fun e w' q => (⟨q.1, q.2.symm⟩ : _ ∧ w = w')
  rw [uintV, uintC, if_pos ⟨hv, h2⟩, if_pos hv, if_pos h2] at U
  have CM := cmp_gen va vb xs ys w ha hb hsx hsy
  rw [if_pos ⟨hv, hw⟩, if_pos ⟨hv, hw⟩] at CM
  have hle := validB_eq hsx hv
  obtain ⟨m, hm⟩ : ∃ m, m = Nl.val xs := ⟨_, rfl⟩
  rw [← hm] at hle U
  rw [← hm] at CM
  have HLE := Lib.hid hle
  have HM := Lib.hid hm
  obtain ⟨C, hC⟩ : ∃ C, C = cmpI m (Nl.val ys) := ⟨_, rfl⟩
  rw [← hC] at CM
  have HCC := Lib.hid hC
  obtain ⟨B, hB⟩ : ∃ B, B = nbits m := ⟨_, rfl⟩
  have HBB := Lib.hid hB
  obtain ⟨Z, hZ⟩ : ∃ Z, Z = tzn m := ⟨_, rfl⟩
  have HZZ := Lib.hid hZ
  have hm64 : m < 18446744073709551616 := by
    have h1 := Nl.val_lt hsx
    have h3 := Nl.pow_le h2
    have h4 : 4294967296 ^ 2 = 18446744073709551616 := by decide
    omega
  have t3 : decide ((xs.length : Int) > 2) = false := decide_eq_false (by omega)
  have t4 : decide ((xs.length : Int) ≤ 2) = true := decide_eq_true (by omega)
  have HU := Lib.hid U
  have HCM := Lib.hid CM
  have HLL := Lib.hid (And.intro hla hlb)
  have HV := Lib.hid hv
  have HW := Lib.hid hw
  obtain ⟨a, ca, rfl, -⟩ := ha.form
  obtain ⟨b, cb, rfl, -⟩ := hb.form
  clear ha hb hT hsx hsy L1 L2 U CM hla hlb hv hle hm hB hZ h2 hw hC
  go_enter Tryz.func3, Tryz.ntmps3
  go_wp2_with fail
  refine HL1.out.mono ?_
  rintro e w' ⟨rfl, rfl⟩
  go_wp2_with fail
  refine HL2.out.mono ?_
  rintro e w' ⟨rfl, rfl⟩
  go_wp2_with fail
  refine HU.out.mono ?_
  rintro e w' ⟨rfl, rfl⟩
  go_wp2_with fail
  refine HCM.out.mono ?_
  rintro e w1 ⟨rfl, hb1⟩
  have B1 := Lib.hid hb1
  have hbi := (natBits_any _ xs w1 (HA.out.below B1.out) HS.out.1).mono fun e w' q => (⟨q.1, q.2.symm⟩ : _ ∧ w1 = w')
  rw [if_pos HV.out, if_pos HV.out] at hbi
  rw [← HM.out, ← HBB.out] at hbi
  have hze := (natZeros_any _ xs w1 (HA.out.below B1.out) HS.out.1 (HT.out.below B1.out)).mono fun e w' q => (⟨q.1, q.2.symm⟩ : _ ∧ w1 = w')
  rw [if_pos HV.out, if_pos HV.out] at hze
  rw [← HM.out, ← HZZ.out] at hze
  have hva := valid_any _ xs w1 (HA.out.below B1.out)
  rw [HV.out] at hva
  have hrv := refValid_any _ xs w1 (HA.out.below B1.out)
  rw [HV.out] at hrv
  have HBI := Lib.hid hbi
  have HZE := Lib.hid hze
  have HVA := Lib.hid hva
  have HRV := Lib.hid hrv
  have HFU := Lib.hid (natFromUint_any n w1 hn)
  clear hb1 hbi hze hva hrv HL1 HL2 HU HCM
  go_wp2_with fail
  refine HBI.out.mono ?_
  rintro e w' ⟨rfl, rfl⟩
  go_wp2_with fail
  refine HZE.out.mono ?_
  rintro e w' ⟨rfl, rfl⟩
  go_wp2_with fail
  refine HVA.out.mono ?_
  rintro e w' ⟨rfl, rfl⟩
  go_wp2_with fail
  refine HRV.out.mono ?_
  rintro e w' ⟨rfl, rfl⟩
  go_wp2_with fail
  refine HFU.out.mono ?_
  rintro e w2 ⟨⟨v, rfl, hv⟩, hb2⟩
  have HVV := Lib.hid hv.at.at
  have B2 := Lib.hid (B1.out.trans (hb2.mono B1.out.size))
  have HOF := Lib.hid (refOf_any n w2 hn)
  clear hv hb2 B1 HFU HBI HZE HVA HRV
  go_wp2_with fail
  refine HOF.out.mono ?_
  rintro e w3 ⟨⟨u, rfl, hu⟩, hb3⟩
  have hsm := same_any v u _ _ w3 (HVV.out.below hb3) hu
  rw [sameB_self] at hsm
  have HSM := Lib.hid hsm
  have B3 := Lib.hid (B2.out.trans (hb3.mono B2.out.size))
  clear hsm hu hb3 HVV B2 HOF
  go_wp2_with fail
  refine HSM.out.mono ?_
  rintro e w4 ⟨rfl, k4, h4⟩
  have B4 := Lib.hid (B3.out.trans ((show Below w3.heap.size w3 w4 by rw [h4]; exact below_drewN _ _ _).mono B3.out.size))
  have hrv := refValid_any _ xs w4 (HA.out.below B4.out)
  rw [HV.out] at hrv
  have HRV := Lib.hid hrv
  clear h4 B3 HSM hrv
  go_wp2_with fail
  refine HRV.out.mono ?_
  rintro e w' ⟨rfl, rfl⟩
  have HOF := Lib.hid (refOf_any m w4 hm64)
  go_wp2_with fail
  refine HOF.out.mono ?_
  rintro e w5 ⟨⟨u2, rfl, hu2⟩, hb5⟩
  have B5 := Lib.hid (B4.out.trans (hb5.mono B4.out.size))
  have hsm := same_any u2 _ _ xs w5 hu2 (HA.out.below B5.out)
  rw [show sameB (Nl.limbs m) xs = true by rw [← HLE.out.1]; exact sameB_self _] at hsm
  have HSM := Lib.hid hsm
  clear hsm hb5 hu2 HOF B4
  go_wp2_with fail
  refine HSM.out.mono ?_
  rintro e w6 ⟨rfl, k6, h6⟩
  have B6 := Lib.hid (B5.out.trans ((show Below w5.heap.size w5 w6 by rw [h6]; exact below_drewN _ _ _).mono B5.out.size))
  clear h6 B5 HSM
  have hrw := refValid_any _ ys w6 (HB.out.below B6.out)
  rw [HW.out] at hrw
  have HRW := Lib.hid hrw
  clear hrw
  go_wp2_with fail
  refine HRW.out.mono ?_
  rintro e w' ⟨rfl, rfl⟩
  have HSA := Lib.hid (sanity_any w6)
  go_wp2_with fail
  refine HSA.out.mono ?_
  rintro e w7 ⟨rfl, hb7⟩
  have B7 := Lib.hid (B6.out.trans (hb7.mono B6.out.size))
  clear hb7 HSA
  have hrc := refCmp_any _ _ xs ys w7 (HA.out.below B7.out) (HB.out.below B7.out) HS.out.1 HS.out.2 (by have := HLL.out; omega) (by have := HLL.out; omega)
  rw [← HM.out, ← HCC.out] at hrc
  have HRC := Lib.hid hrc
  have hrb := refBits_any _ m w7 (by rw [IsN, ← HLE.out.1]; exact HA.out.below B7.out) (by have := HLE.out.2; omega)
  rw [← HBB.out] at hrb
  have HRB := Lib.hid hrb
  have hrz := refZeros_any _ m w7 (by rw [IsN, ← HLE.out.1]; exact HA.out.below B7.out) (by have := HLE.out.2; omega)
  rw [← HZZ.out] at hrz
  have HRZ := Lib.hid hrz
  clear hrc hrb hrz
  go_wp2_with fail
  go_at_call 16
  refine HRC.out.mono ?_
  rintro e w' ⟨rfl, rfl⟩
  go_wp2_with fail
  go_at_call 17
  refine HRB.out.mono ?_
  rintro e w' ⟨rfl, rfl⟩
  go_wp2_with fail
  go_at_call 18
  refine HRZ.out.mono ?_
  rintro e w' ⟨rfl, rfl⟩
  go_wp2_with fail
  go_ret
  exact ⟨rfl, B7.out⟩

set_option maxRecDepth 20000 in
set_option maxHeartbeats 2000000 in
theorem natForms_any (va vb : Value) (xs ys : List Nat) (n : Nat) (w : World) (ha : At w va xs) (hb : At w vb ys) (hsx : Nl.Small xs) (hsy : Nl.Small ys) (hn : n < 18446744073709551616) (hT : TabAt w) :
    Calls Tryz.prog 3 #[va, vb, .int .u64 n] w fun e w' => e = .returned (.bool true) ∧ Below w.heap.size w w' := by
  by_cases hla : xs.length ≤ 1100
  · by_cases hlb : ys.length ≤ 1100
    · cases hv : validB xs with
      | false => exact natForms_0 va vb xs ys n w ha hb hsx hsy hn hT hla hlb hv
      | true =>
        by_cases h2 : xs.length ≤ 2
        · cases hw : validB ys with
          | false => exact natForms_3 va vb xs ys n w ha hb hsx hsy hn hT hla hlb hv h2 hw
          | true => exact natForms_4 va vb xs ys n w ha hb hsx hsy hn hT hla hlb hv h2 hw
        · cases hw : validB ys with
          | false => exact natForms_1 va vb xs ys n w ha hb hsx hsy hn hT hla hlb hv (by omega) hw
          | true => exact natForms_2 va vb xs ys n w ha hb hsx hsy hn hT hla hlb hv (by omega) hw
    · have L1 := light_any va xs 1100 w ha
      have L2 := light_any vb ys 1100 w hb
      rw [decide_eq_true hla] at L1
      rw [decide_eq_false hlb] at L2
      have HL1 := Lib.hid L1
      have HL2 := Lib.hid L2
      have HS := Lib.hid (sanity_any w)
      obtain ⟨a, ca, rfl, -⟩ := ha.form
      obtain ⟨b, cb, rfl, -⟩ := hb.form
      clear ha hb hsx hsy hT L1 L2 hla hlb
      go_enter Tryz.func3, Tryz.ntmps3
      go_wp2_with fail
      refine HL1.out.mono ?_
      rintro e w' ⟨rfl, rfl⟩
      go_wp2_with fail
      refine HL2.out.mono ?_
      rintro e w' ⟨rfl, rfl⟩
      go_wp2_with fail
      refine HS.out.mono ?_
      rintro e w3 ⟨rfl, hb3⟩
      have B3 := Lib.hid hb3
      clear hb3
      go_wp2_with fail
      go_ret
      exact ⟨rfl, B3.out⟩
  · have L1 := light_any va xs 1100 w ha
    rw [decide_eq_false hla] at L1
    have HL1 := Lib.hid L1
    have HS := Lib.hid (sanity_any w)
    obtain ⟨a, ca, rfl, -⟩ := ha.form
    obtain ⟨b, cb, rfl, -⟩ := hb.form
    clear ha hb hsx hsy hT L1 hla
    go_enter Tryz.func3, Tryz.ntmps3
    go_wp2_with fail
    refine HL1.out.mono ?_
    rintro e w' ⟨rfl, rfl⟩
    go_wp2_with fail
    refine HS.out.mono ?_
    rintro e w3 ⟨rfl, hb3⟩
    have B3 := Lib.hid hb3
    clear hb3
    go_wp2_with fail
    go_ret
    exact ⟨rfl, B3.out⟩
end Go.Proofs.YtfaledeidjmooaaGreatDoor
