/-
  NatBack returns true for any slice and any digit. Conditions: those that each theorem names.
-/
import Derived.Test.YtfaledeidjmooaaGreatTextAny
import Derived.Test.YtfaledeidjmooaaGreatNumbers
import Derived.Test.YtfaledeidjmooaaGreatRoads
import Derived.Laws.IdiomStrings
namespace Go.Proofs.YtfaledeidjmooaaGreat
open Go.RowKit

theorem natText_num (va : Value) (m : Nat) (w : World) (ha : At w va (Nl.limbs m)) (hl : (Nl.limbs m).length ≤ 1024) :
    Calls Tryz.prog 42 #[va] w fun e w' => e = .returned (.tuple #[.string (textOf m), .int .i64 0]) ∧ Below w.heap.size w w' := by
  by_cases h0 : m = 0
  · subst h0
    have hv := valid_any va _ w ha
    rw [validB_limbs hl] at hv
    have HV := Lib.hid hv
    have HT := Lib.hid (text_zero va w ha)
    obtain ⟨a, ca, rfl, -⟩ := ha.form
    clear ha hl hv
    go_enter Tryz.func42, Tryz.ntmps42
    go_wp2_with (go_at_call 56; refine HV.out.mono ?_; rintro e w' ⟨rfl, rfl⟩)
    refine HT.out.mono ?_
    rintro e w1 ⟨rfl, hb⟩
    have HB := Lib.hid hb
    clear hb
    go_wp2_with fail
    go_ret2
    exact ⟨rfl, HB.out⟩
  · exact natText_pos va m w ha hl h0
theorem parse_text (m : Nat) (w : World) (hl : (Nl.limbs m).length ≤ 1024) : Calls Tryz.prog 43 #[.string (textOf m)] w fun e w' => GivesN w w' e m := by
  have hs := text_size hl
  obtain ⟨h1, h2⟩ := text_num m
  refine (parse_any (textOf m) w (by omega)).mono ?_
  rintro e w' ⟨c, hc, ho⟩
  rw [h2] at hc ho
  have hk : parseK (dl (textOf m)) = 0 := by rw [parseK, if_pos (by rw [dl_length]; exact hs), if_pos h1, h2, if_pos hl]
  have hc0 : c = 0 := by rw [hc, hk, codeOf, if_neg (by decide), if_pos hl]
  subst hc0
  obtain ⟨v, he, hv, hb⟩ := ho.gives
  rw [if_pos rfl] at hv
  exact ⟨v, he, hv, hb⟩

/-- the text of a number with one digit more -/
theorem textOf_more {m d : Nat} (h0 : m ≠ 0) (hd : d < 10) : textOf (m * 10 + d) = ⟨(textOf m).data ++ #[UInt8.ofNat (48 + d)]⟩ := by
  rw [textOf, textOf, if_neg (by omega), if_neg h0, digitsL_pos (show m * 10 + d ≠ 0 by omega), show (m * 10 + d) % 10 = d by omega, show (m * 10 + d) / 10 = m by omega, List.reverse_cons, List.map_append]
  simp

set_option maxRecDepth 10000 in
set_option maxHeartbeats 4000000 in
theorem natBack_num (va : Value) (m D : Nat) (w : World) (ha : At w va (Nl.limbs m)) (hm : (Nl.limbs m).length ≤ 1024) (hD : D < 256) :
    Calls Tryz.prog 16 #[va, .int .u8 D] w fun e w' => e = .returned (.bool true) ∧ Below w.heap.size w w' := by
  obtain ⟨pa, ca, rfl, -⟩ := ha.form
  have bn := below_new w (.cells #[Value.slice pa (Nl.limbs m).length ca] 23)
  have hg : Given (w.alloc (.cells #[.slice pa (Nl.limbs m).length ca] 23)) w.heap.size [(.slice pa (Nl.limbs m).length ca, Nl.limbs m)] := given_one (cell_of_one (heap_alloc_new _ _)) (ha.below bn)
  have hn := numbers_any 1024 w.heap.size _ _ hg (by simp) (by decide)
  rw [show ([(Value.slice pa (Nl.limbs m).length ca, Nl.limbs m)].all fun p => numB 1024 p.2) = true by simp [numB, hm, validB_limbs hm]] at hn
  have HN := Lib.hid hn
  have HA := Lib.hid (ha.below bn)
  have B0 := Lib.hid bn
  have HM := Lib.hid hm
  clear ha bn hg hn hm
  obtain ⟨d, hd⟩ : ∃ d, d = D % 10 := ⟨_, rfl⟩
  have hd10 : d < 10 := by omega
  have hdi : (D : Int) % 10 = (d : Int) := by omega
  clear hd
  go_enter Tryz.func16, Tryz.ntmps16
  go_wp2_with fail
  go_at_call 52
  refine HN.out.mono ?_
  rintro e w' ⟨rfl, rfl⟩
  obtain ⟨w0, hw0⟩ : ∃ w0, w0 = w.alloc (.cells #[.slice pa (Nl.limbs m).length ca] 23) := ⟨_, rfl⟩
  rw [← hw0] at HA B0 ⊢
  clear hw0 HN
  go_wp2_with fail
  go_at_call 42
  refine (natText_num _ m w0 HA.out HM.out).mono ?_
  rintro e w1 ⟨rfl, hb1⟩
  have N1 := Lib.hid hb1
  clear hb1
  go_wp2_with fail
  go_at_call 43
  refine (parse_text m w1 HM.out).mono ?_
  rintro e w2 ⟨vb, rfl, hvb, hb2⟩
  have N2 := Lib.hid (N1.out.trans (hb2.mono N1.out.size))
  have SM := Lib.hid (same_yes _ vb _ w2 (HA.out.below N2.out) hvb)
  clear hb2 N1 hvb
  go_wp2_with (go_at_call 34; refine SM.out.mono ?_; rintro e w' ⟨rfl, k3, rfl⟩)
  go_at_call 27
  have N3 := Lib.hid (N2.out.trans ((below_drewN w2 k3 _).mono N2.out.size))
  have h10 : Nl.limbs 10 = [10] := limbs_one (by decide) (by decide)
  have b10 := below_new (w2.drewN k3) (.cells #[.int .u32 10] 59)
  have a10 := at_lit (w2.drewN k3) 10
  rw [← h10] at a10
  have hmul := mul_any _ _ _ _ _ ((HA.out.below N3.out).below b10) a10 (Nl.limbs_small m) (Nl.limbs_small 10)
  rw [Nl.val_limbs, Nl.val_limbs, mulK_80] at hmul
  have hk0 : mulK 0 0 m 10 = 0 := by
    have h2 : ¬ ((0 : Int) ≠ 0 ∧ cutB 0 = false) := by decide
    rw [mulK, if_neg h2, if_pos (.inr (.inr (by rw [h10]; have := HM.out; simp; omega)))]
  rw [hk0] at hmul
  refine hmul.mono ?_
  rintro e w4 hr
  have hr := hr.gives
  rw [validB_limbs HM.out, h10, show validB [10] = true from by decide] at hr
  obtain ⟨v4, rfl, hv4, hb4⟩ := hr
  have N4 := Lib.hid (N3.out.trans ((b10.trans (hb4.mono b10.size)).mono N3.out.size))
  obtain ⟨c4, hc4⟩ : ∃ c, c = errOf (true && true) 0 (m * 10) := ⟨_, rfl⟩
  obtain ⟨z4, hz4⟩ : ∃ c, c = numOf (true && true) 0 (m * 10) := ⟨_, rfl⟩
  rw [← hz4] at hv4
  rw [← hc4]
  have V4 := Lib.hid hv4
  have C4 := Lib.hid hc4
  have Z4 := Lib.hid hz4
  clear hmul hb4 b10 a10 hk0 h10 hv4 hc4 hz4 SM N3
  have hwr : IntKind.u64.wrap (d : Int) = d := by rw [IntKind.wrap_u64]; omega
  go_wp2_with fail
  go_at_call 54
  refine (natFromUint_any d w4 (by omega)).mono ?_
  rintro e w5 ⟨⟨v5, rfl, ho5⟩, hb5⟩
  have N5 := Lib.hid (N4.out.trans (hb5.mono N4.out.size))
  have V45 := Lib.hid (V4.out.below hb5)
  have V5 := Lib.hid (show At w5 v5 (Nl.limbs d) from ho5.at.at)
  clear hb5 ho5 N4 V4
  go_wp2_with fail
  go_at_call 19
  have hz4s : Nl.Small z4 := by rw [Z4.out]; exact numOf_small _ _ _
  refine (add_any v4 v5 z4 _ w5 V45.out V5.out hz4s (Nl.limbs_small d)).mono ?_
  rintro e w6 hr
  have hr := hr.gives
  rw [validB_limbs (show (Nl.limbs d).length ≤ 1024 by have : (Nl.limbs d).length ≤ 1 := Nl.limbs_lt (by omega); omega), Nl.val_limbs] at hr
  by_cases hfit : (Nl.limbs (m * 10)).length ≤ 1024
  · have k4 : c4 = 0 := by rw [C4.out]; exact errOf_fits rfl hfit
    have y4 : z4 = Nl.limbs (m * 10) := by rw [Z4.out, numOf, ← C4.out, k4, if_pos rfl]
    rw [y4, validB_limbs hfit, Nl.val_limbs] at hr
    obtain ⟨v6, rfl, hv6, hb6⟩ := hr
    subst k4
    have N6 := Lib.hid (N5.out.trans (hb6.mono N5.out.size))
    clear C4 Z4 y4 hz4s V45 V5 N5 hb6
    by_cases hfit2 : (Nl.limbs (m * 10 + d)).length ≤ 1024
    · have k6 : errOf (true && true) 0 (m * 10 + d) = 0 := errOf_fits rfl hfit2
      rw [numOf, k6, if_pos rfl] at hv6
      rw [k6]
      have V6 := Lib.hid hv6
      have HF2 := Lib.hid hfit2
      clear k6 hv6 hfit hfit2
      by_cases h0 : m = 0
      · have e0 : (((Nl.limbs m).length : Int) == 0) = true := by rw [h0, Nl.limbs_zero]; rfl
        clear h0
        go_wp2_with fail
        go_at_call 18
        refine (sanity_any _).mono ?_
        rintro e w7 ⟨rfl, hb7⟩
        have N7 := Lib.hid (N6.out.trans (hb7.mono N6.out.size))
        clear hb7
        go_wp2_with fail
        go_ret
        exact ⟨rfl, B0.out.trans (N7.out.mono B0.out.size)⟩
      · have hlp := Nl.len_pos h0
        have e0 : (((Nl.limbs m).length : Int) == 0) = false := by rw [beq_eq_false_iff_ne]; omega
        have H0 := Lib.hid h0
        clear h0 hlp
        go_wp2_with fail
        go_at_call 42
        refine (natText_num _ _ w6 V6.out HF2.out).mono ?_
        rintro e w7 ⟨rfl, hb7⟩
        have N7 := Lib.hid (N6.out.trans (hb7.mono N6.out.size))
        clear hb7 V6
        have HE := Lib.hid (textOf_more H0.out hd10)
        go_wp2_with fail
        go_at_call 18
        refine (sanity_any _).mono ?_
        rintro e w8 ⟨rfl, hb8⟩
        have N8 := Lib.hid (N7.out.trans (hb8.mono N7.out.size))
        clear hb8
        have hcv : (convert 66 9 (.slice (some ⟨w8.heap.size, 0, none⟩) 1 1)).run Tryz.prog (w8.alloc (.cells #[.int .u8 (48 + (d : Int))] 5)) = .ok (.string ⟨#[UInt8.ofNat (48 + d)]⟩) (w8.alloc (.cells #[.int .u8 (48 + (d : Int))] 5)) := by
          have := run_convert_bytes_back (w8.alloc (.cells #[.int .u8 (48 + (d : Int))] 5)) 66 9 5 ⟨w8.heap.size, 0, none⟩ 1 [UInt8.ofNat (48 + d)] Tryz.underlying66 Tryz.underlying5 Tryz.underlying9 (fun j hj => by
            have h0 : j = 0 := by simpa using hj
            subst h0
            rw [addr_add]
            refine (cell_of_one (heap_alloc_new w8 _)).trans ?_
            show some (Value.int IntKind.u8 (48 + (d : Int))) = some (Value.int IntKind.u8 ((UInt8.ofNat (48 + d)).toNat : Int))
            rw [byte_nat (by omega)]
            rfl)
          exact this
        have hts := text_size HM.out
        obtain ⟨cb, hcb⟩ : ∃ c, c = UInt8.ofNat (48 + d) := ⟨_, rfl⟩
        rw [← hcb] at hcv
        have hEQ : ((textOf (m * 10 + d)).toList == (textOf m ++ ⟨#[cb]⟩).toList) = true := by
          rw [beq_iff_eq, HE.out, ← hcb]
          rw [Lib.toList_data, Lib.toList_data, ByteArray.data_append]
        obtain ⟨T2, hT2⟩ : ∃ T, T = textOf (m * 10 + d) := ⟨_, rfl⟩
        obtain ⟨T1, hT1⟩ : ∃ T, T = textOf m := ⟨_, rfl⟩
        rw [← hT2] at hEQ ⊢
        rw [← hT1] at hEQ hts ⊢
        clear hcb hT1 hT2 HE
        go_wp2_with fail
        go_ret
        exact ⟨rfl, B0.out.trans ((N8.out.trans ((below_new w8 _).mono N8.out.size)).mono B0.out.size)⟩
    · have k6 : errOf (true && true) 0 (m * 10 + d) = 2 := by rw [show (true && true) = true from rfl, errOf_ok, codeOf, if_neg (by decide), if_neg hfit2]
      rw [k6]
      clear k6 hv6 hfit hfit2
      go_wp2_with fail
      go_at_call 18
      refine (sanity_any _).mono ?_
      rintro e w7 ⟨rfl, hb7⟩
      have N7 := Lib.hid (N6.out.trans (hb7.mono N6.out.size))
      clear hb7
      go_wp2_with fail
      go_ret
      exact ⟨rfl, B0.out.trans (N7.out.mono B0.out.size)⟩
  · have k4 : c4 = 2 := by rw [C4.out, show (true && true) = true from rfl, errOf_ok, codeOf, if_neg (by decide), if_neg hfit]
    obtain ⟨v6, rfl, hv6, hb6⟩ := hr
    subst k4
    have N6 := Lib.hid (N5.out.trans (hb6.mono N5.out.size))
    clear C4 Z4 hz4s V45 V5 N5 hb6 hv6 hfit
    go_wp2_with fail
    go_at_call 18
    refine (sanity_any _).mono ?_
    rintro e w7 ⟨rfl, hb7⟩
    have N7 := Lib.hid (N6.out.trans (hb7.mono N6.out.size))
    clear hb7
    go_wp2_with fail
    go_ret
    exact ⟨rfl, B0.out.trans (N7.out.mono B0.out.size)⟩

set_option maxRecDepth 10000 in
set_option maxHeartbeats 1000000 in
theorem natBack_any (va : Value) (xs : List Nat) (D : Nat) (w : World) (ha : At w va xs) (hsx : Nl.Small xs) (hD : D < 256) :
    Calls Tryz.prog 16 #[va, .int .u8 D] w fun e w' => e = .returned (.bool true) ∧ Below w.heap.size w w' := by
  by_cases hall : numB 1024 xs = true
  · simp only [numB, Bool.and_eq_true, decide_eq_true_eq] at hall
    have ex : xs = Nl.limbs (Nl.val xs) := (validB_eq hsx hall.2).1
    have lx := hall.1
    rw [ex] at ha lx
    exact natBack_num va _ D w ha lx hD
  · obtain ⟨pa, ca, rfl, -⟩ := ha.form
    have bn := below_new w (.cells #[Value.slice pa xs.length ca] 23)
    have hg : Given (w.alloc (.cells #[.slice pa xs.length ca] 23)) w.heap.size [(.slice pa xs.length ca, xs)] := given_one (cell_of_one (heap_alloc_new _ _)) (ha.below bn)
    have hn := numbers_any 1024 w.heap.size _ _ hg (by simp) (by decide)
    rw [show ([(Value.slice pa xs.length ca, xs)].all fun p => numB 1024 p.2) = false by simpa using hall] at hn
    have HN := Lib.hid hn
    have BN := Lib.hid bn
    clear hall ha hn bn hg
    go_enter Tryz.func16, Tryz.ntmps16
    go_wp2_with fail
    go_at_call 52
    refine HN.out.mono ?_
    rintro e w' ⟨rfl, rfl⟩
    go_wp2_with fail
    go_at_call 18
    refine (sanity_any _).mono ?_
    rintro e w3 ⟨rfl, hb3⟩
    have B3 := Lib.hid (BN.out.trans (hb3.mono BN.out.size))
    clear hb3
    go_wp2_with fail
    go_ret
    exact ⟨rfl, B3.out⟩
end Go.Proofs.YtfaledeidjmooaaGreat
