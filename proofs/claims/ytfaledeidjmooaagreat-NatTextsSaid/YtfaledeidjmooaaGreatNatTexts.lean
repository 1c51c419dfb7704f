/-
  NatTexts returns true for any slice and any string. Conditions: those that each theorem names.
-/
import Derived.Test.YtfaledeidjmooaaGreatRefText
import Derived.Test.YtfaledeidjmooaaGreatNatBack
import Derived.Test.YtfaledeidjmooaaGreatNatShifts
namespace Go.Proofs.YtfaledeidjmooaaGreat
open Go.RowKit

theorem refText_num (va : Value) (m : Nat) (w : World) (ha : At w va (Nl.limbs m)) (hla : (Nl.limbs m).length ≤ 1000) :
    Calls Tryz.prog 45 #[va] w fun e w' => e = .returned (.string (textOf m)) ∧ Below w.heap.size w w' := by
  by_cases h0 : m = 0
  · subst h0
    rw [Nl.limbs_zero] at ha
    obtain ⟨pa, ca, rfl, -⟩ := ha.form
    clear ha
    go_enter Tryz.func45, Tryz.ntmps45
    go_wp2_with fail
    go_ret
    exact ⟨rfl, Below.refl _ _⟩
  · exact refText_pos va m w ha hla h0
/-- the text of what is no number -/
theorem natText_bad (va : Value) (xs : List Nat) (w : World) (ha : At w va xs) (hv : validB xs = false) :
    Calls Tryz.prog 42 #[va] w fun e w' => e = .returned (.tuple #[.string { data := #[] }, .int .i64 1]) ∧ w = w' := by
  have V := valid_any va xs w ha
  rw [hv] at V
  have HV := Lib.hid V
  obtain ⟨a, ca, rfl, -⟩ := ha.form
  clear ha V hv
  go_enter Tryz.func42, Tryz.ntmps42
  go_wp2_with (go_at_call 56; refine HV.out.mono ?_; rintro e w' ⟨rfl, rfl⟩)
  go_ret2
  exact ⟨rfl, rfl⟩
theorem parse_gives (bs : ByteArray) (w : World) (hs : bs.size ≤ 9223372036854775807) : Calls Tryz.prog 43 #[.string bs] w fun e w' => Gives w w' e (parseK (dl bs)) (if parseK (dl bs) = 0 then Nl.limbs (decL (dl bs)) else []) := by
  refine (parse_any bs w hs).mono ?_
  rintro e w' ⟨c, hc, ho⟩
  have h1 : c = parseK (dl bs) := by
    rw [hc, codeOf]
    by_cases hk : parseK (dl bs) = 0
    · rw [if_neg (by simpa using hk), hk]
      have : (Nl.limbs (decL (dl bs))).length ≤ 1024 := by
        apply Classical.byContradiction
        intro hf
        rw [parseK] at hk
        split at hk
        · split at hk
          · exact absurd hk (by decide)
          · exact absurd hk (by decide)
        · exact absurd hk (by decide)
      rw [if_pos this]
    · rw [if_pos hk]
  rw [← h1]
  exact ho.gives
theorem parse_fits {l : List Nat} (hk : parseK l = 0) : (Nl.limbs (decL l)).length ≤ 1024 := by
  apply Classical.byContradiction
  intro hf
  rw [parseK] at hk
  split at hk
  · split at hk
    · exact absurd hk (by decide)
    · exact absurd hk (by decide)
  · exact absurd hk (by decide)
/-- the last part: is the list a number, and is its text right? -/
def TextsPost (w : World) (e : Ending) (w' : World) : Prop := e = .returned (.bool true) ∧ Below w.heap.size w w'

set_option maxRecDepth 10000 in
set_option maxHeartbeats 4000000 in
/-- the road of arguments that are not too heavy -/
theorem natTexts_light (va : Value) (xs : List Nat) (bs : ByteArray) (w : World) (ha : At w va xs) (hsx : Nl.Small xs) (hs : bs.size ≤ 9223372036854775807)
    (hla : xs.length ≤ 200 ∨ 1024 < xs.length) (hlb : bs.size ≤ 2500 ∨ 20000 < bs.size) :
    Calls Tryz.prog 8 #[va, .string bs] w fun e w' => TextsPost w e w' := by
  have HA := Lib.hid ha
  have HL1 := Lib.hid (light_any va xs 200 w ha)
  obtain ⟨a, ca, rfl, -⟩ := ha.form
  clear ha
  obtain ⟨k, hk⟩ : ∃ k, k = parseK (dl bs) := ⟨_, rfl⟩
  have HK := Lib.hid hk
  have HDEC := Lib.hid (show k = 0 → (Nl.limbs (decL (dl bs))).length ≤ 1024 from fun h => parse_fits (by rw [← hk, h]))
  clear hk
  have hstart : ∀ {R : Prop}, (decide (xs.length ≤ 200) = true → R) → (decide (xs.length ≤ 200) = false → decide ((xs.length : Int) ≤ 1024) = false → R) → R := fun f g => by
    rcases hla with h | h
    · exact f (decide_eq_true h)
    · exact g (decide_eq_false (by omega)) (decide_eq_false (by omega))
  have hstart2 : ∀ {R : Prop}, (decide ((bs.size : Int) > 2500) = false → R) → (decide ((bs.size : Int) > 2500) = true → decide ((bs.size : Int) ≤ 20000) = false → R) → R := fun f g => by
    rcases hlb with h | h
    · exact f (decide_eq_false (by omega))
    · exact g (decide_eq_true (by omega)) (decide_eq_false (by omega))
  have HLA := Lib.hid hla
  clear hla hlb
  refine hstart (fun t1 => ?_) (fun t1 t2 => ?_) <;> refine hstart2 (fun t3 => ?_) (fun t3 t4 => ?_)
  all_goals clear hstart hstart2
  all_goals
    have L1 := HL1.out
    rw [t1] at L1
    have HL1' := Lib.hid L1
    clear L1 HL1 t1
    go_enter Tryz.func8, Tryz.ntmps8
    go_wp2_with (go_at_call 17; refine HL1'.out.mono ?_; rintro e w' ⟨rfl, rfl⟩)
    go_at_call 42
    by_cases hv : validB xs = true
    · have HVX := Lib.hid hv
      have hle := validB_eq hsx hv
      have HLE := Lib.hid hle
      have HX200 := Lib.hid (show xs.length ≤ 1000 by
        rcases HLA.out with h | h
        · omega
        · have h1 := hle.2
          rw [← hle.1] at h1
          omega)
      have hat : At w (.slice a xs.length ca) (Nl.limbs (Nl.val xs)) := by rw [← hle.1]; exact HA.out
      refine (natText_num _ (Nl.val xs) w hat hle.2).mono ?_
      rintro e w1 ⟨rfl, hb1⟩
      have B1 := Lib.hid hb1
      clear hv hle hat hb1 HL1'
      obtain ⟨T, hT⟩ : ∃ T, T = textOf (Nl.val xs) := ⟨_, rfl⟩
      rw [← hT]
      have HT := Lib.hid hT
      clear hT
      go_wp2_with fail
      go_at_call 43
      refine (parse_gives bs w1 hs).mono ?_
      rintro e w2 hr
      rw [← HK.out] at hr
      obtain ⟨v1, rfl, hv1, hb2⟩ := hr
      have V1 := Lib.hid hv1
      have B2 := Lib.hid (B1.out.trans (hb2.mono B1.out.size))
      clear hv1 hb2
      go_wp2_with fail
      go_at_call 44
      refine (refParse_any bs w2 hs).mono ?_
      rintro e w3 ⟨⟨v3, rfl, hv3, hv3n⟩, hb3⟩
      rw [← HK.out] at hv3 hv3n ⊢
      have V13 := Lib.hid (V1.out.below hb3)
      have B3 := Lib.hid (B2.out.trans (hb3.mono B2.out.size))
      clear hb3 V1
      by_cases hk0 : k = 0
      · have hN := hv3 hk0
        obtain ⟨p3, c3, hve, -⟩ := (show At w3 v3 _ from hN).form
        subst hve
        have HN3 := Lib.hid (show At w3 _ _ from hN)
        have V13' := V13.out
        rw [if_pos hk0] at V13'
        have VV := Lib.hid V13'
        have HI := Lib.hid (show isB (Nl.limbs (decL (dl bs))) 0 (Nl.limbs (decL (dl bs))) = true by rw [isB, if_pos (HDEC.out hk0), sameB_self]; rfl)
        subst hk0
        clear hv3 hv3n hN V13 V13'
        go_upto_region 6 with fail
        obtain ⟨w4, hw4⟩ : ∃ w4, w4 = w3.alloc (.cells #[.slice p3 (Nl.limbs (decL (dl bs))).length c3, .int .i64 0] 51) := ⟨_, rfl⟩
        rw [← hw4]
        have hbx : w4.heap[w3.heap.size]? = some (.cells #[.slice p3 (Nl.limbs (decL (dl bs))).length c3, .int .i64 0] 51 (0, 0)) := by rw [hw4]; exact heap_alloc_new _ _
        have hb4 : Below w3.heap.size w3 w4 := by rw [hw4]; exact below_al w3 _
        have c0 := cell_of_row _ _ 0 _ _ (0, 0) hbx
        have c1 := cell_of_row _ _ 1 _ _ (0, 0) hbx
        have IS := Lib.hid (is_yes (VV.out.below hb4) (HN3.out.below hb4) HI.out)
        have B4 := Lib.hid (B3.out.trans (hb4.mono B3.out.size))
        clear hw4 hbx hb4 HN3 VV
        go_wp2_with fail
        go_at_call 24
        refine IS.out.mono ?_
        rintro e w5 ⟨rfl, hb5⟩
        have B5 := Lib.hid (B4.out.trans (hb5.mono B4.out.size))
        clear hb5 IS c0 c1
        go_wp2_with fail
        have HVA := Lib.hid (show Calls Tryz.prog 21 #[.slice a xs.length ca] w5 fun e w' => e = .returned (.bool true) ∧ w5 = w' by
          have := refValid_any _ xs w5 (HA.out.below B5.out)
          rwa [HVX.out] at this)
        go_wp2_with (go_at_call 21; refine HVA.out.mono ?_; rintro e w' ⟨rfl, rfl⟩)
        go_at_call 18
        refine (sanity_any _).mono ?_
        rintro e w8 ⟨rfl, hb8⟩
        have B8 := Lib.hid (B5.out.trans (hb8.mono B5.out.size))
        clear hb8
        go_wp2_with fail
        go_at_call 45
        refine (refText_num _ _ w8 (show At w8 (.slice a xs.length ca) (Nl.limbs (Nl.val xs)) by rw [← HLE.out.1]; exact HA.out.below B8.out) (by rw [← HLE.out.1]; exact HX200.out)).mono ?_
        rintro e w9 ⟨rfl, hb9⟩
        rw [← HT.out]
        have B9 := Lib.hid (B8.out.trans (hb9.mono B8.out.size))
        clear hb9
        go_wp2_with fail
        go_ret
        exact ⟨rfl, B9.out⟩
      · have hve := hv3n hk0
        subst hve
        have V13' := V13.out
        rw [if_neg hk0] at V13'
        have VV := Lib.hid V13'
        have e1 : ((k : Int) != 0) = true := by rw [bne_iff_ne]; exact hk0
        have e2 : ((k : Int) == 0) = false := by rw [beq_eq_false_iff_ne]; exact hk0
        clear hv3 hv3n V13 V13'
        go_upto_region 6 with fail
        obtain ⟨w4, hw4⟩ : ∃ w4, w4 = w3.alloc (.cells #[.slice none 0 0, .int .i64 k] 51) := ⟨_, rfl⟩
        rw [← hw4]
        have hbx : w4.heap[w3.heap.size]? = some (.cells #[.slice none 0 0, .int .i64 k] 51 (0, 0)) := by rw [hw4]; exact heap_alloc_new _ _
        have hb4 : Below w3.heap.size w3 w4 := by rw [hw4]; exact below_al w3 _
        have c0 := cell_of_row _ _ 0 _ _ (0, 0) hbx
        have c1 := cell_of_row _ _ 1 _ _ (0, 0) hbx
        have RF := Lib.hid (refused_yes v1 k w4 (VV.out.below hb4))
        have B4 := Lib.hid (B3.out.trans (hb4.mono B3.out.size))
        clear hw4 hbx hb4 VV
        go_wp2_with (go_at_call 22; refine RF.out.mono ?_; rintro e w' ⟨rfl, rfl⟩)
        clear c0 c1 RF
        have HVA := Lib.hid (show Calls Tryz.prog 21 #[.slice a xs.length ca] w4 fun e w' => e = .returned (.bool true) ∧ w4 = w' by
          have := refValid_any _ xs w4 (HA.out.below B4.out)
          rwa [HVX.out] at this)
        go_wp2_with (go_at_call 21; refine HVA.out.mono ?_; rintro e w' ⟨rfl, rfl⟩)
        go_at_call 18
        refine (sanity_any _).mono ?_
        rintro e w8 ⟨rfl, hb8⟩
        have B8 := Lib.hid (B4.out.trans (hb8.mono B4.out.size))
        clear hb8
        go_wp2_with fail
        go_at_call 45
        refine (refText_num _ _ w8 (show At w8 (.slice a xs.length ca) (Nl.limbs (Nl.val xs)) by rw [← HLE.out.1]; exact HA.out.below B8.out) (by rw [← HLE.out.1]; exact HX200.out)).mono ?_
        rintro e w9 ⟨rfl, hb9⟩
        rw [← HT.out]
        have B9 := Lib.hid (B8.out.trans (hb9.mono B8.out.size))
        clear hb9
        go_wp2_with fail
        go_ret
        exact ⟨rfl, B9.out⟩
    · have hvf : validB xs = false := by simpa using hv
      have HVX := Lib.hid hvf
      refine (natText_bad _ xs w HA.out hvf).mono ?_
      rintro e w1 ⟨rfl, hw1⟩
      have B1 := Lib.hid (show Below w.heap.size w w1 by rw [← hw1]; exact Below.refl _ _)
      clear hv hvf HL1' hw1
      go_wp2_with fail
      go_at_call 43
      refine (parse_gives bs w1 hs).mono ?_
      rintro e w2 hr
      rw [← HK.out] at hr
      obtain ⟨v1, rfl, hv1, hb2⟩ := hr
      have V1 := Lib.hid hv1
      have B2 := Lib.hid (B1.out.trans (hb2.mono B1.out.size))
      clear hv1 hb2
      go_wp2_with fail
      go_at_call 44
      refine (refParse_any bs w2 hs).mono ?_
      rintro e w3 ⟨⟨v3, rfl, hv3, hv3n⟩, hb3⟩
      rw [← HK.out] at hv3 hv3n ⊢
      have V13 := Lib.hid (V1.out.below hb3)
      have B3 := Lib.hid (B2.out.trans (hb3.mono B2.out.size))
      clear hb3 V1
      by_cases hk0 : k = 0
      · have hN := hv3 hk0
        obtain ⟨p3, c3, hve, -⟩ := (show At w3 v3 _ from hN).form
        subst hve
        have HN3 := Lib.hid (show At w3 _ _ from hN)
        have V13' := V13.out
        rw [if_pos hk0] at V13'
        have VV := Lib.hid V13'
        have HI := Lib.hid (show isB (Nl.limbs (decL (dl bs))) 0 (Nl.limbs (decL (dl bs))) = true by rw [isB, if_pos (HDEC.out hk0), sameB_self]; rfl)
        subst hk0
        clear hv3 hv3n hN V13 V13'
        go_upto_region 6 with fail
        obtain ⟨w4, hw4⟩ : ∃ w4, w4 = w3.alloc (.cells #[.slice p3 (Nl.limbs (decL (dl bs))).length c3, .int .i64 0] 51) := ⟨_, rfl⟩
        rw [← hw4]
        have hbx : w4.heap[w3.heap.size]? = some (.cells #[.slice p3 (Nl.limbs (decL (dl bs))).length c3, .int .i64 0] 51 (0, 0)) := by rw [hw4]; exact heap_alloc_new _ _
        have hb4 : Below w3.heap.size w3 w4 := by rw [hw4]; exact below_al w3 _
        have c0 := cell_of_row _ _ 0 _ _ (0, 0) hbx
        have c1 := cell_of_row _ _ 1 _ _ (0, 0) hbx
        have IS := Lib.hid (is_yes (VV.out.below hb4) (HN3.out.below hb4) HI.out)
        have B4 := Lib.hid (B3.out.trans (hb4.mono B3.out.size))
        clear hw4 hbx hb4 HN3 VV
        go_wp2_with fail
        go_at_call 24
        refine IS.out.mono ?_
        rintro e w5 ⟨rfl, hb5⟩
        have B5 := Lib.hid (B4.out.trans (hb5.mono B4.out.size))
        clear hb5 IS c0 c1
        go_wp2_with fail
        have HVA := Lib.hid (show Calls Tryz.prog 21 #[.slice a xs.length ca] w5 fun e w' => e = .returned (.bool false) ∧ w5 = w' by
          have := refValid_any _ xs w5 (HA.out.below B5.out)
          rwa [HVX.out] at this)
        go_wp2_with (go_at_call 21; refine HVA.out.mono ?_; rintro e w' ⟨rfl, rfl⟩)
        go_at_call 18
        refine (sanity_any _).mono ?_
        rintro e w8 ⟨rfl, hb8⟩
        have B8 := Lib.hid (B5.out.trans (hb8.mono B5.out.size))
        clear hb8
        go_wp2_with fail
        go_ret
        exact ⟨rfl, B8.out⟩
      · have hve := hv3n hk0
        subst hve
        have V13' := V13.out
        rw [if_neg hk0] at V13'
        have VV := Lib.hid V13'
        have e1 : ((k : Int) != 0) = true := by rw [bne_iff_ne]; exact hk0
        have e2 : ((k : Int) == 0) = false := by rw [beq_eq_false_iff_ne]; exact hk0
        clear hv3 hv3n V13 V13'
        go_upto_region 6 with fail
        obtain ⟨w4, hw4⟩ : ∃ w4, w4 = w3.alloc (.cells #[.slice none 0 0, .int .i64 k] 51) := ⟨_, rfl⟩
        rw [← hw4]
        have hbx : w4.heap[w3.heap.size]? = some (.cells #[.slice none 0 0, .int .i64 k] 51 (0, 0)) := by rw [hw4]; exact heap_alloc_new _ _
        have hb4 : Below w3.heap.size w3 w4 := by rw [hw4]; exact below_al w3 _
        have c0 := cell_of_row _ _ 0 _ _ (0, 0) hbx
        have c1 := cell_of_row _ _ 1 _ _ (0, 0) hbx
        have RF := Lib.hid (refused_yes v1 k w4 (VV.out.below hb4))
        have B4 := Lib.hid (B3.out.trans (hb4.mono B3.out.size))
        clear hw4 hbx hb4 VV
        go_wp2_with (go_at_call 22; refine RF.out.mono ?_; rintro e w' ⟨rfl, rfl⟩)
        clear c0 c1 RF
        have HVA := Lib.hid (show Calls Tryz.prog 21 #[.slice a xs.length ca] w4 fun e w' => e = .returned (.bool false) ∧ w4 = w' by
          have := refValid_any _ xs w4 (HA.out.below B4.out)
          rwa [HVX.out] at this)
        go_wp2_with (go_at_call 21; refine HVA.out.mono ?_; rintro e w' ⟨rfl, rfl⟩)
        go_at_call 18
        refine (sanity_any _).mono ?_
        rintro e w8 ⟨rfl, hb8⟩
        have B8 := Lib.hid (B4.out.trans (hb8.mono B4.out.size))
        clear hb8
        go_wp2_with fail
        go_ret
        exact ⟨rfl, B8.out⟩

set_option maxRecDepth 10000 in
set_option maxHeartbeats 2000000 in
theorem natTexts_any (va : Value) (xs : List Nat) (bs : ByteArray) (w : World) (ha : At w va xs) (hsx : Nl.Small xs) (hs : bs.size ≤ 9223372036854775807) :
    Calls Tryz.prog 8 #[va, .string bs] w fun e w' => e = .returned (.bool true) ∧ Below w.heap.size w w' := by
  by_cases hla : xs.length ≤ 200 ∨ 1024 < xs.length
  · by_cases hlb : bs.size ≤ 2500 ∨ 20000 < bs.size
    · exact natTexts_light va xs bs w ha hsx hs hla hlb
    · have t3 : decide ((bs.size : Int) > 2500) = true := decide_eq_true (by omega)
      have t4 : decide ((bs.size : Int) ≤ 20000) = true := decide_eq_true (by omega)
      clear hlb
      rcases hla with h | h
      · have L1 := light_any va xs 200 w ha
        rw [decide_eq_true h] at L1
        have HL1' := Lib.hid L1
        clear L1 h
        have HS := Lib.hid (sanity_any w)
        obtain ⟨a, ca, rfl, -⟩ := ha.form
        clear ha
        go_enter Tryz.func8, Tryz.ntmps8
        go_wp2_with (go_at_call 17; refine HL1'.out.mono ?_; rintro e w' ⟨rfl, rfl⟩)
        go_at_call 18
        refine HS.out.mono ?_
        rintro e w3 ⟨rfl, hb3⟩
        have B3 := Lib.hid hb3
        clear hb3
        go_wp2_with fail
        go_ret
        exact ⟨rfl, B3.out⟩

      · have t2 : decide ((xs.length : Int) ≤ 1024) = false := decide_eq_false (by omega)
        have L1 := light_any va xs 200 w ha
        rw [decide_eq_false (by omega)] at L1
        have HL1' := Lib.hid L1
        clear L1 h
        have HS := Lib.hid (sanity_any w)
        obtain ⟨a, ca, rfl, -⟩ := ha.form
        clear ha
        go_enter Tryz.func8, Tryz.ntmps8
        go_wp2_with (go_at_call 17; refine HL1'.out.mono ?_; rintro e w' ⟨rfl, rfl⟩)
        go_at_call 18
        refine HS.out.mono ?_
        rintro e w3 ⟨rfl, hb3⟩
        have B3 := Lib.hid hb3
        clear hb3
        go_wp2_with fail
        go_ret
        exact ⟨rfl, B3.out⟩

  · have t2 : decide ((xs.length : Int) ≤ 1024) = true := decide_eq_true (by omega)
    have L1 := light_any va xs 200 w ha
    rw [decide_eq_false (by omega)] at L1
    have HL1' := Lib.hid L1
    clear L1 hla
    have HS := Lib.hid (sanity_any w)
    obtain ⟨a, ca, rfl, -⟩ := ha.form
    clear ha
    go_enter Tryz.func8, Tryz.ntmps8
    go_wp2_with (go_at_call 17; refine HL1'.out.mono ?_; rintro e w' ⟨rfl, rfl⟩)
    go_at_call 18
    refine HS.out.mono ?_
    rintro e w3 ⟨rfl, hb3⟩
    have B3 := Lib.hid hb3
    clear hb3
    go_wp2_with fail
    go_ret
    exact ⟨rfl, B3.out⟩

end Go.Proofs.YtfaledeidjmooaaGreat
