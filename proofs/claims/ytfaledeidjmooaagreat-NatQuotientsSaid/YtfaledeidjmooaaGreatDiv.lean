/-
  What the work of quotients does, by elements. What the work of quotients does, by blocks. What the work of quotients does, by reciprocals. What Div, Long, Newton and Blocks do, given the roads. Conditions: those that each theorem names.
-/
import Derived.Test.YtfaledeidjmooaaGreatMul
import Derived.Test.YtfaledeidjmooaaGreatOver
namespace Go.Proofs.YtfaledeidjmooaaGreat
open Go.RowKit

theorem dividers_any (w : World) : Calls Tryz.prog 122 #[] w fun e w' => e = .returned (.agg #[.bool false, .func (.func 149) #[] #[], .bool true, .func (.func 109) #[] #[], .bool false, .func (.func 150) #[] #[]]) ∧ w' = w.alloc (.cells #[.bool false, .func (.func 149) #[] #[], .bool true, .func (.func 109) #[] #[], .bool false, .func (.func 150) #[] #[]] 124) := by
  go_enter Tryz.func122, Tryz.ntmps122
  go_wp2
  refine bodyPost_ret (v := .agg #[.bool false, .func (.func 149) #[] #[], .bool true, .func (.func 109) #[] #[], .bool false, .func (.func 150) #[] #[]]) (results_cell_row Tryz.results122 _ _ w.heap.size 124 _ (0, 0) (.array 3 123) rfl (heap_alloc_new _ _) (by kernel_rfl) rfl (by kernel_rfl)) rfl ?_
  exact ⟨rfl, rfl⟩

/-- the error of a quotient -/
def divK (road cut : Int) (n : Nat) : Int := if road = 1 ∧ cutB cut = false then 1 else if n = 0 then 8 else 0

theorem longRoad (va vb : Value) (m n : Nat) (cut : Int) (w : World) (h : Calls Tryz.prog 108 #[va, vb] w fun e w' => DivOk w w' e m n) :
    Calls Tryz.prog 149 #[va, vb, .int .i64 cut] w fun e w' => DivOk w w' e m n := by
  have H := Lib.hid h
  clear h
  go_enter Tryz.func149, Tryz.ntmps149
  go_wp2_with fail
  refine H.out.mono ?_
  rintro e w1 ⟨⟨u, v, rfl, hu, hv⟩, hb⟩
  have HU := Lib.hid hu
  have HV := Lib.hid hv
  have HB := Lib.hid hb
  clear hu hv hb H
  go_wp2_with fail
  go_ret2
  exact ⟨⟨u, v, rfl, HU.out, HV.out⟩, HB.out⟩
theorem newtonRoad (va vb : Value) (m n : Nat) (cut : Int) (w : World) (h : Calls Tryz.prog 151 #[va, vb] w fun e w' => DivOk w w' e m n) :
    Calls Tryz.prog 150 #[va, vb, .int .i64 cut] w fun e w' => DivOk w w' e m n := by
  have H := Lib.hid h
  clear h
  go_enter Tryz.func150, Tryz.ntmps150
  go_wp2_with fail
  refine H.out.mono ?_
  rintro e w1 ⟨⟨u, v, rfl, hu, hv⟩, hb⟩
  have HU := Lib.hid hu
  have HV := Lib.hid hv
  have HB := Lib.hid hb
  clear hu hv hb H
  go_wp2_with fail
  go_ret2
  exact ⟨⟨u, v, rfl, HU.out, HV.out⟩, HB.out⟩

set_option maxHeartbeats 1000000 in
theorem quotient0_does (K : Nat) (va vb : Value) (m n : Nat) (cut : Int) (w : World) (h : MulIn w K 0 cut va vb m n)
    (hd : n ≠ 0 → ∀ w', Below w.heap.size w w' → Calls Tryz.prog 149 #[va, vb, .int .i64 cut] w' fun e w'' => DivOk w' w'' e m n) :
    TwoDoes 121 #[.pointer (some ⟨K, 0, none⟩), .pointer (some ⟨K + 1 + 1 + 1, 0, none⟩), .pointer (some ⟨K + 1 + 1, 0, none⟩), .pointer (some ⟨K + 1, 0, none⟩)] w (divK 0 cut n) (m / n) (m % n) := by
  obtain ⟨k, hk⟩ : ∃ k : Int, k = divK 0 cut n := ⟨_, rfl⟩
  rw [← hk]
  have HK := Lib.hid hk
  clear hk
  intro W hW
  have HD := Lib.hid fun h0  => fun w' (hw' : Below W.heap.size W w') => hd h0  w' (hW.trans (hw'.mono hW.size))
  have H := Lib.hid (h.below hW)
  have k0 := H.out.c0
  have hKl : K < W.heap.size := by have := H.out.lt; omega
  have hKn : ¬ K = W.heap.size := by omega
  have hKn1 : ¬ K = W.heap.size + 1 := by omega
  clear hW h hd
  go_enter Tryz.func121, Tryz.ntmps121
  go_upto_region 1 with fail
  go_cut [6] from 7 (fun v5 wx => RoadAt W wx v5 false 149)
  case first =>
    have hix : ∀ w, (Instr.index 124 (.agg #[.bool false, .func (.func 149) #[] #[], .bool true, .func (.func 109) #[] #[], .bool false, .func (.func 150) #[] #[]]) (.int .i64 0)).run Tryz.prog w = .ok (.agg #[.bool false, .func (.func 149) #[] #[]]) w := fun _ => by kernel_rfl
    go_region_with (go_at_call 122; refine (dividers_any _).mono ?_; rintro e w1 ⟨rfl, rfl⟩)
    all_goals (go_wp2_with fail; go_meet; case rel => first | exact roadAt_mk .. | exact roadAt_mk' ..)
  case rest =>
    obtain ⟨g, rfl, g0, g1, gb⟩ := hcut
    have H2 := Lib.hid (H.out.below gb)
    have GB := Lib.hid gb
    have c1 := H2.out.c1
    have c2 := H2.out.c2
    have c3 := H2.out.c3
    have sla := Nl.limbs_mono (Nat.div_le_self m n)
    have slb : n ≠ 0 → (Nl.limbs (m % n)).length ≤ (Nl.limbs n).length := fun h => Nl.limbs_mono (Nat.le_of_lt (Nat.mod_lt _ (Nat.pos_of_ne_zero h)))
    obtain ⟨b, cb, rfl, -⟩ := H2.out.hb.form
    obtain ⟨a, ca, rfl, -⟩ := H2.out.ha.form
    have lb := H2.out.lb
    have la := H2.out.la
    have l1 := H2.out.h1
    have l2 := H2.out.h2
    have SL := Lib.hid (And.intro sla slb)
    clear gb k0 H hKl hKn hKn1 sla slb
    by_cases hn : (Nl.limbs n).length = 0
    · have e0 : decide (0 < (Nl.limbs n).length) = false := by rw [decide_eq_false_iff_not]; omega
      have hk := HK.out
      rw [divK, if_neg (fun h => absurd h.1 (by decide)), if_pos (Nl.len_zero hn)] at hk
      have HK' := Lib.hid hk
      clear hk hn HK
      go_wp2_with (first | (go_at_call_of 61 (Value.bool true); refine (must_yes _ _).mono ?_; rintro e w' ⟨rfl, rfl⟩) | (go_at_call_of 61 (Value.bool false); refine (must_no _ _).mono ?_; rintro e w' ⟨rfl, rfl⟩))
      exact ⟨rfl, GB.out, .inr ⟨by rw [HK'.out]; decide, by rw [HK'.out]⟩⟩
    · have e0 : decide (0 < (Nl.limbs n).length) = true := by rw [decide_eq_true_eq]; omega
      have hn0 : n ≠ 0 := fun h => hn (by rw [h, Nl.limbs_zero]; rfl)
      have hk := HK.out
      rw [divK, if_neg (fun h => absurd h.1 (by decide)), if_neg hn0] at hk
      have HK' := Lib.hid hk
      have HN := Lib.hid hn0
      clear hk hn hn0 HK
      go_wp2_with (first | (go_at_call_of 61 (Value.bool true); refine (must_yes _ _).mono ?_; rintro e w' ⟨rfl, rfl⟩))
      refine (HD.out HN.out  _ GB.out).mono ?_
      rintro e w2 ⟨⟨u, v, rfl, hu, hv⟩, hb2⟩
      have HU := Lib.hid hu
      have HV := Lib.hid hv
      have HB2 := Lib.hid hb2
      clear hu hv hb2
      go_wp2_with fail
      go_ret2
      exact ⟨GB.out.trans (HB2.out.mono GB.out.size), .inl ⟨HK'.out, u, v, rfl, HU.out, HV.out, Nat.le_trans SL.out.1 la, Nat.le_trans (SL.out.2 HN.out) lb⟩⟩


set_option maxHeartbeats 1000000 in
theorem quotient1_does (K : Nat) (va vb : Value) (m n : Nat) (cut : Int) (w : World) (h : MulIn w K 1 cut va vb m n)
    (hd : n ≠ 0 → cutB cut = true → ∀ w', Below w.heap.size w w' → Calls Tryz.prog 109 #[va, vb, .int .i64 cut] w' fun e w'' => DivOk w' w'' e m n) :
    TwoDoes 121 #[.pointer (some ⟨K, 0, none⟩), .pointer (some ⟨K + 1 + 1 + 1, 0, none⟩), .pointer (some ⟨K + 1 + 1, 0, none⟩), .pointer (some ⟨K + 1, 0, none⟩)] w (divK 1 cut n) (m / n) (m % n) := by
  obtain ⟨k, hk⟩ : ∃ k : Int, k = divK 1 cut n := ⟨_, rfl⟩
  rw [← hk]
  have HK := Lib.hid hk
  clear hk
  intro W hW
  have HD := Lib.hid fun h0 hcb => fun w' (hw' : Below W.heap.size W w') => hd h0 hcb w' (hW.trans (hw'.mono hW.size))
  have H := Lib.hid (h.below hW)
  have k0 := H.out.c0
  have hKl : K < W.heap.size := by have := H.out.lt; omega
  have hKn : ¬ K = W.heap.size := by omega
  have hKn1 : ¬ K = W.heap.size + 1 := by omega
  clear hW h hd
  go_enter Tryz.func121, Tryz.ntmps121
  go_upto_region 1 with fail
  go_cut [6] from 7 (fun v5 wx => RoadAt W wx v5 true 109)
  case first =>
    have hix : ∀ w, (Instr.index 124 (.agg #[.bool false, .func (.func 149) #[] #[], .bool true, .func (.func 109) #[] #[], .bool false, .func (.func 150) #[] #[]]) (.int .i64 1)).run Tryz.prog w = .ok (.agg #[.bool true, .func (.func 109) #[] #[]]) w := fun _ => by kernel_rfl
    go_region_with (go_at_call 122; refine (dividers_any _).mono ?_; rintro e w1 ⟨rfl, rfl⟩)
    all_goals (go_wp2_with fail; go_meet; case rel => first | exact roadAt_mk .. | exact roadAt_mk' ..)
  case rest =>
    obtain ⟨g, rfl, g0, g1, gb⟩ := hcut
    have H2 := Lib.hid (H.out.below gb)
    have GB := Lib.hid gb
    have c1 := H2.out.c1
    have c2 := H2.out.c2
    have c3 := H2.out.c3
    have sla := Nl.limbs_mono (Nat.div_le_self m n)
    have slb : n ≠ 0 → (Nl.limbs (m % n)).length ≤ (Nl.limbs n).length := fun h => Nl.limbs_mono (Nat.le_of_lt (Nat.mod_lt _ (Nat.pos_of_ne_zero h)))
    obtain ⟨b, cb, rfl, -⟩ := H2.out.hb.form
    obtain ⟨a, ca, rfl, -⟩ := H2.out.ha.form
    have lb := H2.out.lb
    have la := H2.out.la
    have l1 := H2.out.h1
    have l2 := H2.out.h2
    have SL := Lib.hid (And.intro sla slb)
    clear gb k0 H hKl hKn hKn1 sla slb
    by_cases hc : cutB cut = true
    · have hg : Calls Tryz.prog 103 #[.int .i64 cut] wc fun e w' => e = .returned (.bool true) ∧ wc = w' := by
        have := goodCut_any cut wc l1 l2
        rwa [hc] at this
      have HG := Lib.hid hg
      have HC := Lib.hid hc
      clear hc hg
      by_cases hn : (Nl.limbs n).length = 0
      · have e0 : decide (0 < (Nl.limbs n).length) = false := by rw [decide_eq_false_iff_not]; omega
        have hk := HK.out
        rw [divK, if_neg (fun h => by rw [HC.out] at h; exact absurd h.2 (by decide)), if_pos (Nl.len_zero hn)] at hk
        have HK' := Lib.hid hk
        clear hk hn HK
        go_wp2_with (first | (go_at_call_of 61 (Value.bool true); refine (must_yes _ _).mono ?_; rintro e w' ⟨rfl, rfl⟩) | (go_at_call_of 61 (Value.bool false); refine (must_no _ _).mono ?_; rintro e w' ⟨rfl, rfl⟩) | (go_at_call 103; refine HG.out.mono ?_; rintro e w' ⟨rfl, rfl⟩))
        exact ⟨rfl, GB.out, .inr ⟨by rw [HK'.out]; decide, by rw [HK'.out]⟩⟩
      · have e0 : decide (0 < (Nl.limbs n).length) = true := by rw [decide_eq_true_eq]; omega
        have hn0 : n ≠ 0 := fun h => hn (by rw [h, Nl.limbs_zero]; rfl)
        have hk := HK.out
        rw [divK, if_neg (fun h => by rw [HC.out] at h; exact absurd h.2 (by decide)), if_neg hn0] at hk
        have HK' := Lib.hid hk
        have HN := Lib.hid hn0
        clear hk hn hn0 HK
        go_wp2_with (first | (go_at_call_of 61 (Value.bool true); refine (must_yes _ _).mono ?_; rintro e w' ⟨rfl, rfl⟩) | (go_at_call 103; refine HG.out.mono ?_; rintro e w' ⟨rfl, rfl⟩))
        refine (HD.out HN.out HC.out _ GB.out).mono ?_
        rintro e w2 ⟨⟨u, v, rfl, hu, hv⟩, hb2⟩
        have HU := Lib.hid hu
        have HV := Lib.hid hv
        have HB2 := Lib.hid hb2
        clear hu hv hb2
        go_wp2_with fail
        go_ret2
        exact ⟨GB.out.trans (HB2.out.mono GB.out.size), .inl ⟨HK'.out, u, v, rfl, HU.out, HV.out, Nat.le_trans SL.out.1 la, Nat.le_trans (SL.out.2 HN.out) lb⟩⟩
    · have hc' : cutB cut = false := by simpa using hc
      have hg : Calls Tryz.prog 103 #[.int .i64 cut] wc fun e w' => e = .returned (.bool false) ∧ wc = w' := by
        have := goodCut_any cut wc l1 l2
        rwa [hc'] at this
      have HG := Lib.hid hg
      have hk := HK.out
      rw [divK, if_pos ⟨rfl, hc'⟩] at hk
      have HK' := Lib.hid hk
      clear hk hc hc' hg HK
      go_wp2_with (first | (go_at_call_of 61 (Value.bool false); refine (must_no _ _).mono ?_; rintro e w' ⟨rfl, rfl⟩) | (go_at_call 103; refine HG.out.mono ?_; rintro e w' ⟨rfl, rfl⟩))
      exact ⟨rfl, GB.out, .inr ⟨by rw [HK'.out]; decide, by rw [HK'.out]⟩⟩


set_option maxHeartbeats 1000000 in
theorem quotient2_does (K : Nat) (va vb : Value) (m n : Nat) (cut : Int) (w : World) (h : MulIn w K 2 cut va vb m n)
    (hd : n ≠ 0 → ∀ w', Below w.heap.size w w' → Calls Tryz.prog 150 #[va, vb, .int .i64 cut] w' fun e w'' => DivOk w' w'' e m n) :
    TwoDoes 121 #[.pointer (some ⟨K, 0, none⟩), .pointer (some ⟨K + 1 + 1 + 1, 0, none⟩), .pointer (some ⟨K + 1 + 1, 0, none⟩), .pointer (some ⟨K + 1, 0, none⟩)] w (divK 2 cut n) (m / n) (m % n) := by
  obtain ⟨k, hk⟩ : ∃ k : Int, k = divK 2 cut n := ⟨_, rfl⟩
  rw [← hk]
  have HK := Lib.hid hk
  clear hk
  intro W hW
  have HD := Lib.hid fun h0  => fun w' (hw' : Below W.heap.size W w') => hd h0  w' (hW.trans (hw'.mono hW.size))
  have H := Lib.hid (h.below hW)
  have k0 := H.out.c0
  have hKl : K < W.heap.size := by have := H.out.lt; omega
  have hKn : ¬ K = W.heap.size := by omega
  have hKn1 : ¬ K = W.heap.size + 1 := by omega
  clear hW h hd
  go_enter Tryz.func121, Tryz.ntmps121
  go_upto_region 1 with fail
  go_cut [6] from 7 (fun v5 wx => RoadAt W wx v5 false 150)
  case first =>
    have hix : ∀ w, (Instr.index 124 (.agg #[.bool false, .func (.func 149) #[] #[], .bool true, .func (.func 109) #[] #[], .bool false, .func (.func 150) #[] #[]]) (.int .i64 2)).run Tryz.prog w = .ok (.agg #[.bool false, .func (.func 150) #[] #[]]) w := fun _ => by kernel_rfl
    go_region_with (go_at_call 122; refine (dividers_any _).mono ?_; rintro e w1 ⟨rfl, rfl⟩)
    all_goals (go_wp2_with fail; go_meet; case rel => first | exact roadAt_mk .. | exact roadAt_mk' ..)
  case rest =>
    obtain ⟨g, rfl, g0, g1, gb⟩ := hcut
    have H2 := Lib.hid (H.out.below gb)
    have GB := Lib.hid gb
    have c1 := H2.out.c1
    have c2 := H2.out.c2
    have c3 := H2.out.c3
    have sla := Nl.limbs_mono (Nat.div_le_self m n)
    have slb : n ≠ 0 → (Nl.limbs (m % n)).length ≤ (Nl.limbs n).length := fun h => Nl.limbs_mono (Nat.le_of_lt (Nat.mod_lt _ (Nat.pos_of_ne_zero h)))
    obtain ⟨b, cb, rfl, -⟩ := H2.out.hb.form
    obtain ⟨a, ca, rfl, -⟩ := H2.out.ha.form
    have lb := H2.out.lb
    have la := H2.out.la
    have l1 := H2.out.h1
    have l2 := H2.out.h2
    have SL := Lib.hid (And.intro sla slb)
    clear gb k0 H hKl hKn hKn1 sla slb
    by_cases hn : (Nl.limbs n).length = 0
    · have e0 : decide (0 < (Nl.limbs n).length) = false := by rw [decide_eq_false_iff_not]; omega
      have hk := HK.out
      rw [divK, if_neg (fun h => absurd h.1 (by decide)), if_pos (Nl.len_zero hn)] at hk
      have HK' := Lib.hid hk
      clear hk hn HK
      go_wp2_with (first | (go_at_call_of 61 (Value.bool true); refine (must_yes _ _).mono ?_; rintro e w' ⟨rfl, rfl⟩) | (go_at_call_of 61 (Value.bool false); refine (must_no _ _).mono ?_; rintro e w' ⟨rfl, rfl⟩))
      exact ⟨rfl, GB.out, .inr ⟨by rw [HK'.out]; decide, by rw [HK'.out]⟩⟩
    · have e0 : decide (0 < (Nl.limbs n).length) = true := by rw [decide_eq_true_eq]; omega
      have hn0 : n ≠ 0 := fun h => hn (by rw [h, Nl.limbs_zero]; rfl)
      have hk := HK.out
      rw [divK, if_neg (fun h => absurd h.1 (by decide)), if_neg hn0] at hk
      have HK' := Lib.hid hk
      have HN := Lib.hid hn0
      clear hk hn hn0 HK
      go_wp2_with (first | (go_at_call_of 61 (Value.bool true); refine (must_yes _ _).mono ?_; rintro e w' ⟨rfl, rfl⟩))
      refine (HD.out HN.out  _ GB.out).mono ?_
      rintro e w2 ⟨⟨u, v, rfl, hu, hv⟩, hb2⟩
      have HU := Lib.hid hu
      have HV := Lib.hid hv
      have HB2 := Lib.hid hb2
      clear hu hv hb2
      go_wp2_with fail
      go_ret2
      exact ⟨GB.out.trans (HB2.out.mono GB.out.size), .inl ⟨HK'.out, u, v, rfl, HU.out, HV.out, Nat.le_trans SL.out.1 la, Nat.le_trans (SL.out.2 HN.out) lb⟩⟩


set_option maxHeartbeats 1000000 in
theorem quotient_of0 (va vb : Value) (xs ys : List Nat) (cut : Int) (w : World) (ha : At w va xs) (hb : At w vb ys) (hsx : Nl.Small xs) (hsy : Nl.Small ys) (h1 : -9223372036854775808 ≤ cut) (h2 : cut ≤ 9223372036854775807)
    (hd : validB xs = true → validB ys = true → Nl.val ys ≠ 0 → ∀ w', Below w.heap.size w w' → Calls Tryz.prog 149 #[va, vb, .int .i64 cut] w' fun e w'' => DivOk w' w'' e (Nl.val xs) (Nl.val ys)) :
    Calls Tryz.prog 90 #[.int .i64 0, va, vb, .int .i64 cut] w fun e w' => Pair2 w w' e xs ys (divK 0 cut (Nl.val ys)) (Nl.val xs / Nl.val ys) (Nl.val xs % Nl.val ys) := by
  have hmf : ∀ (fn : Fn) (first cap : Array Value) (w : World), (Instr.makeFunc fn first cap).run Tryz.prog w = .ok (.func fn first cap) w := fun _ _ _ _ => rfl
  have HA := Lib.hid ha
  have HB := Lib.hid hb
  obtain ⟨a, ca, rfl, -⟩ := ha.form
  obtain ⟨b, cb, rfl, -⟩ := hb.form
  have HD := Lib.hid hd
  clear ha hb hd
  go_enter Tryz.func90, Tryz.ntmps90
  go_wp2_with fail
  obtain ⟨W, hW⟩ : ∃ W, W = ((((w.alloc (.cells #[.int .i64 0] 3)).alloc (.cells #[.slice a xs.length ca] 23)).alloc (.cells #[.slice b ys.length cb] 23)).alloc (.cells #[.int .i64 cut] 3)).alloc (.cells #[.slice a xs.length ca, .slice b ys.length cb] 23) := ⟨_, rfl⟩
  rw [← hW]
  obtain ⟨hbl, hsz, c1, c2, c3, c4, c5, c6⟩ := boxes4 w _ _ _ _ _ _ _ _ _ _ _ W hW
  clear hW
  refine (two_two _ _ w W (divK 0 cut (Nl.val ys)) (Nl.val xs / Nl.val ys) (Nl.val xs % Nl.val ys) (w.heap.size + 1 + 1 + 1 + 1) _ _ xs ys hbl (by omega) c5 c6 HA.out HB.out (fun v1 v2 => ?_) (fun _ _ => by kernel_rfl)).mono ?_
  · refine quotient0_does (w.heap.size) _ _ _ _ cut W ⟨c1, c2, c3, c4, by omega, (HA.out.num hsx v1).below hbl, (HB.out.num hsy v2).below hbl, (validB_eq hsx v1).2, (validB_eq hsy v2).2, h1, h2⟩ (fun h0  => fun w' hw' => HD.out v1 v2 h0  w' (hbl.trans (hw'.mono hbl.size)))
  clear c1 c2 c3 c4 c5 c6 hbl hsz HD
  rintro e w1 ⟨c, hc, ⟨u, v, rfl, h2, h3⟩, hb1⟩
  have HR := Lib.hid (And.intro hc (And.intro h2 (And.intro h3 hb1)))
  clear hc h2 h3 hb1
  go_wp2_with fail
  refine bodyPost_ret (v := .tuple #[u, v, .int .i64 c]) (by simp [results, Tryz.results90, go_sem]) rfl ?_
  exact ⟨c, HR.out.1, ⟨u, v, rfl, HR.out.2.1, HR.out.2.2.1⟩, HR.out.2.2.2⟩

set_option maxHeartbeats 1000000 in
theorem quotient_of1 (va vb : Value) (xs ys : List Nat) (cut : Int) (w : World) (ha : At w va xs) (hb : At w vb ys) (hsx : Nl.Small xs) (hsy : Nl.Small ys) (h1 : -9223372036854775808 ≤ cut) (h2 : cut ≤ 9223372036854775807)
    (hd : validB xs = true → validB ys = true → Nl.val ys ≠ 0 → cutB cut = true → ∀ w', Below w.heap.size w w' → Calls Tryz.prog 109 #[va, vb, .int .i64 cut] w' fun e w'' => DivOk w' w'' e (Nl.val xs) (Nl.val ys)) :
    Calls Tryz.prog 90 #[.int .i64 1, va, vb, .int .i64 cut] w fun e w' => Pair2 w w' e xs ys (divK 1 cut (Nl.val ys)) (Nl.val xs / Nl.val ys) (Nl.val xs % Nl.val ys) := by
  have hmf : ∀ (fn : Fn) (first cap : Array Value) (w : World), (Instr.makeFunc fn first cap).run Tryz.prog w = .ok (.func fn first cap) w := fun _ _ _ _ => rfl
  have HA := Lib.hid ha
  have HB := Lib.hid hb
  obtain ⟨a, ca, rfl, -⟩ := ha.form
  obtain ⟨b, cb, rfl, -⟩ := hb.form
  have HD := Lib.hid hd
  clear ha hb hd
  go_enter Tryz.func90, Tryz.ntmps90
  go_wp2_with fail
  obtain ⟨W, hW⟩ : ∃ W, W = ((((w.alloc (.cells #[.int .i64 1] 3)).alloc (.cells #[.slice a xs.length ca] 23)).alloc (.cells #[.slice b ys.length cb] 23)).alloc (.cells #[.int .i64 cut] 3)).alloc (.cells #[.slice a xs.length ca, .slice b ys.length cb] 23) := ⟨_, rfl⟩
  rw [← hW]
  obtain ⟨hbl, hsz, c1, c2, c3, c4, c5, c6⟩ := boxes4 w _ _ _ _ _ _ _ _ _ _ _ W hW
  clear hW
  refine (two_two _ _ w W (divK 1 cut (Nl.val ys)) (Nl.val xs / Nl.val ys) (Nl.val xs % Nl.val ys) (w.heap.size + 1 + 1 + 1 + 1) _ _ xs ys hbl (by omega) c5 c6 HA.out HB.out (fun v1 v2 => ?_) (fun _ _ => by kernel_rfl)).mono ?_
  · refine quotient1_does (w.heap.size) _ _ _ _ cut W ⟨c1, c2, c3, c4, by omega, (HA.out.num hsx v1).below hbl, (HB.out.num hsy v2).below hbl, (validB_eq hsx v1).2, (validB_eq hsy v2).2, h1, h2⟩ (fun h0 hcb => fun w' hw' => HD.out v1 v2 h0 hcb w' (hbl.trans (hw'.mono hbl.size)))
  clear c1 c2 c3 c4 c5 c6 hbl hsz HD
  rintro e w1 ⟨c, hc, ⟨u, v, rfl, h2, h3⟩, hb1⟩
  have HR := Lib.hid (And.intro hc (And.intro h2 (And.intro h3 hb1)))
  clear hc h2 h3 hb1
  go_wp2_with fail
  refine bodyPost_ret (v := .tuple #[u, v, .int .i64 c]) (by simp [results, Tryz.results90, go_sem]) rfl ?_
  exact ⟨c, HR.out.1, ⟨u, v, rfl, HR.out.2.1, HR.out.2.2.1⟩, HR.out.2.2.2⟩

set_option maxHeartbeats 1000000 in
theorem quotient_of2 (va vb : Value) (xs ys : List Nat) (cut : Int) (w : World) (ha : At w va xs) (hb : At w vb ys) (hsx : Nl.Small xs) (hsy : Nl.Small ys) (h1 : -9223372036854775808 ≤ cut) (h2 : cut ≤ 9223372036854775807)
    (hd : validB xs = true → validB ys = true → Nl.val ys ≠ 0 → ∀ w', Below w.heap.size w w' → Calls Tryz.prog 150 #[va, vb, .int .i64 cut] w' fun e w'' => DivOk w' w'' e (Nl.val xs) (Nl.val ys)) :
    Calls Tryz.prog 90 #[.int .i64 2, va, vb, .int .i64 cut] w fun e w' => Pair2 w w' e xs ys (divK 2 cut (Nl.val ys)) (Nl.val xs / Nl.val ys) (Nl.val xs % Nl.val ys) := by
  have hmf : ∀ (fn : Fn) (first cap : Array Value) (w : World), (Instr.makeFunc fn first cap).run Tryz.prog w = .ok (.func fn first cap) w := fun _ _ _ _ => rfl
  have HA := Lib.hid ha
  have HB := Lib.hid hb
  obtain ⟨a, ca, rfl, -⟩ := ha.form
  obtain ⟨b, cb, rfl, -⟩ := hb.form
  have HD := Lib.hid hd
  clear ha hb hd
  go_enter Tryz.func90, Tryz.ntmps90
  go_wp2_with fail
  obtain ⟨W, hW⟩ : ∃ W, W = ((((w.alloc (.cells #[.int .i64 2] 3)).alloc (.cells #[.slice a xs.length ca] 23)).alloc (.cells #[.slice b ys.length cb] 23)).alloc (.cells #[.int .i64 cut] 3)).alloc (.cells #[.slice a xs.length ca, .slice b ys.length cb] 23) := ⟨_, rfl⟩
  rw [← hW]
  obtain ⟨hbl, hsz, c1, c2, c3, c4, c5, c6⟩ := boxes4 w _ _ _ _ _ _ _ _ _ _ _ W hW
  clear hW
  refine (two_two _ _ w W (divK 2 cut (Nl.val ys)) (Nl.val xs / Nl.val ys) (Nl.val xs % Nl.val ys) (w.heap.size + 1 + 1 + 1 + 1) _ _ xs ys hbl (by omega) c5 c6 HA.out HB.out (fun v1 v2 => ?_) (fun _ _ => by kernel_rfl)).mono ?_
  · refine quotient2_does (w.heap.size) _ _ _ _ cut W ⟨c1, c2, c3, c4, by omega, (HA.out.num hsx v1).below hbl, (HB.out.num hsy v2).below hbl, (validB_eq hsx v1).2, (validB_eq hsy v2).2, h1, h2⟩ (fun h0  => fun w' hw' => HD.out v1 v2 h0  w' (hbl.trans (hw'.mono hbl.size)))
  clear c1 c2 c3 c4 c5 c6 hbl hsz HD
  rintro e w1 ⟨c, hc, ⟨u, v, rfl, h2, h3⟩, hb1⟩
  have HR := Lib.hid (And.intro hc (And.intro h2 (And.intro h3 hb1)))
  clear hc h2 h3 hb1
  go_wp2_with fail
  refine bodyPost_ret (v := .tuple #[u, v, .int .i64 c]) (by simp [results, Tryz.results90, go_sem]) rfl ?_
  exact ⟨c, HR.out.1, ⟨u, v, rfl, HR.out.2.1, HR.out.2.2.1⟩, HR.out.2.2.2⟩

set_option maxHeartbeats 1000000 in
theorem div1_does (va vb : Value) (m n : Nat) (K : Nat) (w : World) (hK1 : w.cell? ⟨K, 0, none⟩ = some va) (hK2 : w.cell? ⟨K + 1, 0, none⟩ = some vb) (hl : K + 1 < w.heap.size) (ha : IsN w va m) (hb : IsN w vb n)
    (hla : (Nl.limbs m).length ≤ 1024) (hlb : (Nl.limbs n).length ≤ 1024)
    (hd : n ≠ 0 → ∀ w', Below w.heap.size w w' → Calls Tryz.prog 72 #[va, vb] w' fun e w'' => DivOk w' w'' e m n) : TwoDoes 71 #[.pointer (some ⟨K + 1, 0, none⟩), .pointer (some ⟨K, 0, none⟩)] w (divK 1 100 n) (m / n) (m % n) := by
  obtain ⟨k, hk⟩ : ∃ k : Int, k = divK 1 100 n := ⟨_, rfl⟩
  rw [← hk]
  have HK := Lib.hid hk
  clear hk
  intro W hW
  have k1 := (hW.cell (p := ⟨K, 0, none⟩) (show K < w.heap.size by omega)).trans hK1
  have k2 := (hW.cell (p := ⟨K + 1, 0, none⟩) hl).trans hK2
  have HD := Lib.hid fun h0 => fun w' (hw' : Below W.heap.size W w') => hd h0 w' (hW.trans (hw'.mono hW.size))
  have sla := Nl.limbs_mono (Nat.div_le_self m n)
  have slb : n ≠ 0 → (Nl.limbs (m % n)).length ≤ (Nl.limbs n).length := fun h => Nl.limbs_mono (Nat.le_of_lt (Nat.mod_lt _ (Nat.pos_of_ne_zero h)))
  obtain ⟨a, ca, rfl, -⟩ := ha.form
  obtain ⟨b, cb, rfl, -⟩ := hb.form
  have SL := Lib.hid (And.intro sla slb)
  clear hK1 hK2 ha hb hW hl hd sla slb
  by_cases hn : (Nl.limbs n).length = 0
  · have e0 : decide (0 < (Nl.limbs n).length) = false := by rw [decide_eq_false_iff_not]; omega
    have hk := HK.out
    rw [divK, if_neg (fun h => absurd h.2 (by decide)), if_pos (Nl.len_zero hn)] at hk
    have HK' := Lib.hid hk
    clear hk hn HK HD SL
    go_enter Tryz.func71, Tryz.ntmps71
    go_wp2_with (first | (go_at_call_of 61 (Value.bool true); refine (must_yes _ _).mono ?_; rintro e w' ⟨rfl, rfl⟩) | (go_at_call_of 61 (Value.bool false); refine (must_no _ _).mono ?_; rintro e w' ⟨rfl, rfl⟩))
    exact ⟨rfl, Below.refl _ _, .inr ⟨by rw [HK'.out]; decide, by rw [HK'.out]⟩⟩
  · have e0 : decide (0 < (Nl.limbs n).length) = true := by rw [decide_eq_true_eq]; omega
    have hn0 : n ≠ 0 := fun h => hn (by rw [h, Nl.limbs_zero]; rfl)
    have hk := HK.out
    rw [divK, if_neg (fun h => absurd h.2 (by decide)), if_neg hn0] at hk
    have HK' := Lib.hid hk
    have HN := Lib.hid hn0
    clear hk hn hn0 HK
    go_enter Tryz.func71, Tryz.ntmps71
    go_wp2_with (first | (go_at_call_of 61 (Value.bool true); refine (must_yes _ _).mono ?_; rintro e w' ⟨rfl, rfl⟩))
    refine (HD.out HN.out _ (Below.refl _ _)).mono ?_
    rintro e w2 ⟨⟨u, v, rfl, hu, hv⟩, hb2⟩
    have HU := Lib.hid hu
    have HV := Lib.hid hv
    have HB2 := Lib.hid hb2
    clear hu hv hb2
    go_wp2_with fail
    go_ret2
    exact ⟨HB2.out, .inl ⟨HK'.out, u, v, rfl, HU.out, HV.out, Nat.le_trans SL.out.1 hla, Nat.le_trans (SL.out.2 HN.out) hlb⟩⟩

set_option maxHeartbeats 1000000 in
theorem div_any (va vb : Value) (xs ys : List Nat) (w : World) (ha : At w va xs) (hb : At w vb ys) (hsx : Nl.Small xs) (hsy : Nl.Small ys)
    (hd : validB xs = true → validB ys = true → Nl.val ys ≠ 0 → ∀ w', Below w.heap.size w w' → Calls Tryz.prog 72 #[va, vb] w' fun e w'' => DivOk w' w'' e (Nl.val xs) (Nl.val ys)) :
    Calls Tryz.prog 31 #[va, vb] w fun e w' => Pair2 w w' e xs ys (divK 1 100 (Nl.val ys)) (Nl.val xs / Nl.val ys) (Nl.val xs % Nl.val ys) := by
  have hmf : ∀ (fn : Fn) (first cap : Array Value) (w : World), (Instr.makeFunc fn first cap).run Tryz.prog w = .ok (.func fn first cap) w := fun _ _ _ _ => rfl
  have HA := Lib.hid ha
  have HB := Lib.hid hb
  have HD := Lib.hid hd
  obtain ⟨a, ca, rfl, -⟩ := ha.form
  obtain ⟨b, cb, rfl, -⟩ := hb.form
  clear ha hb hd
  go_enter Tryz.func31, Tryz.ntmps31
  go_wp2_with fail
  obtain ⟨W, hW⟩ : ∃ W, W = ((w.alloc (.cells #[.slice a xs.length ca] 23)).alloc (.cells #[.slice b ys.length cb] 23)).alloc (.cells #[.slice a xs.length ca, .slice b ys.length cb] 23) := ⟨_, rfl⟩
  rw [← hW]
  obtain ⟨hbl, hsz, c1, c2, c3, c4⟩ := boxes2 w _ _ _ _ _ W hW
  clear hW
  refine (two_two _ _ w W (divK 1 100 (Nl.val ys)) (Nl.val xs / Nl.val ys) (Nl.val xs % Nl.val ys) (w.heap.size + 1 + 1) _ _ xs ys hbl (by omega) c3 c4 HA.out HB.out (fun v1 v2 => ?_) (fun _ _ => by kernel_rfl)).mono ?_
  · exact div1_does _ _ _ _ w.heap.size W c1 c2 (by omega) ((HA.out.num hsx v1).below hbl) ((HB.out.num hsy v2).below hbl) (validB_eq hsx v1).2 (validB_eq hsy v2).2 (fun h0 w' hw' => HD.out v1 v2 h0 w' (hbl.trans (hw'.mono hbl.size)))
  clear c1 c2 c3 c4 hbl hsz HD
  rintro e w1 ⟨c, hc, ⟨u, v, rfl, h2, h3⟩, hb1⟩
  have HR := Lib.hid (And.intro hc (And.intro h2 (And.intro h3 hb1)))
  clear hc h2 h3 hb1
  go_wp2_with fail
  refine bodyPost_ret (v := .tuple #[u, v, .int .i64 c]) (by simp [results, Tryz.results31, go_sem]) rfl ?_
  exact ⟨c, HR.out.1, ⟨u, v, rfl, HR.out.2.1, HR.out.2.2.1⟩, HR.out.2.2.2⟩

set_option maxHeartbeats 1000000 in
theorem long_any (va vb : Value) (xs ys : List Nat) (w : World) (ha : At w va xs) (hb : At w vb ys) (hsx : Nl.Small xs) (hsy : Nl.Small ys)
    (hd : validB xs = true → validB ys = true → Nl.val ys ≠ 0 → ∀ w', Below w.heap.size w w' → Calls Tryz.prog 108 #[va, vb] w' fun e w'' => DivOk w' w'' e (Nl.val xs) (Nl.val ys)) :
    Calls Tryz.prog 49 #[va, vb] w fun e w' => Pair2 w w' e xs ys (divK 0 0 (Nl.val ys)) (Nl.val xs / Nl.val ys) (Nl.val xs % Nl.val ys) := by
  have h := Lib.hid (quotient_of0 va vb xs ys 0 w ha hb hsx hsy (by decide) (by decide) (fun v1 v2 h0 w' hw => longRoad _ _ _ _ _ _ (hd v1 v2 h0 w' hw)))
  obtain ⟨a, ca, rfl, -⟩ := ha.form
  obtain ⟨b, cb, rfl, -⟩ := hb.form
  clear ha hb hd
  go_enter Tryz.func49, Tryz.ntmps49
  go_wp2_with fail
  refine h.out.mono ?_
  rintro e w1 ⟨c, hc, ⟨u, v, rfl, h2, h3⟩, hb1⟩
  have HR := Lib.hid (And.intro hc (And.intro h2 (And.intro h3 hb1)))
  clear hc h2 h3 hb1 h
  go_wp2_with fail
  refine bodyPost_ret (v := .tuple #[u, v, .int .i64 c]) (by simp [results, Tryz.results49, go_sem]) rfl ?_
  exact ⟨c, HR.out.1, ⟨u, v, rfl, HR.out.2.1, HR.out.2.2.1⟩, HR.out.2.2.2⟩

set_option maxHeartbeats 1000000 in
theorem newton_any (va vb : Value) (xs ys : List Nat) (w : World) (ha : At w va xs) (hb : At w vb ys) (hsx : Nl.Small xs) (hsy : Nl.Small ys)
    (hd : validB xs = true → validB ys = true → Nl.val ys ≠ 0 → ∀ w', Below w.heap.size w w' → Calls Tryz.prog 151 #[va, vb] w' fun e w'' => DivOk w' w'' e (Nl.val xs) (Nl.val ys)) :
    Calls Tryz.prog 50 #[va, vb] w fun e w' => Pair2 w w' e xs ys (divK 2 0 (Nl.val ys)) (Nl.val xs / Nl.val ys) (Nl.val xs % Nl.val ys) := by
  have h := Lib.hid (quotient_of2 va vb xs ys 0 w ha hb hsx hsy (by decide) (by decide) (fun v1 v2 h0 w' hw => newtonRoad _ _ _ _ _ _ (hd v1 v2 h0 w' hw)))
  obtain ⟨a, ca, rfl, -⟩ := ha.form
  obtain ⟨b, cb, rfl, -⟩ := hb.form
  clear ha hb hd
  go_enter Tryz.func50, Tryz.ntmps50
  go_wp2_with fail
  refine h.out.mono ?_
  rintro e w1 ⟨c, hc, ⟨u, v, rfl, h2, h3⟩, hb1⟩
  have HR := Lib.hid (And.intro hc (And.intro h2 (And.intro h3 hb1)))
  clear hc h2 h3 hb1 h
  go_wp2_with fail
  refine bodyPost_ret (v := .tuple #[u, v, .int .i64 c]) (by simp [results, Tryz.results50, go_sem]) rfl ?_
  exact ⟨c, HR.out.1, ⟨u, v, rfl, HR.out.2.1, HR.out.2.2.1⟩, HR.out.2.2.2⟩

set_option maxHeartbeats 1000000 in
theorem blocks_any (va vb : Value) (xs ys : List Nat) (cut : Int) (w : World) (ha : At w va xs) (hb : At w vb ys) (hsx : Nl.Small xs) (hsy : Nl.Small ys) (h1 : -9223372036854775808 ≤ cut) (h2 : cut ≤ 9223372036854775807)
    (hd : validB xs = true → validB ys = true → Nl.val ys ≠ 0 → cutB cut = true → ∀ w', Below w.heap.size w w' → Calls Tryz.prog 109 #[va, vb, .int .i64 cut] w' fun e w'' => DivOk w' w'' e (Nl.val xs) (Nl.val ys)) :
    Calls Tryz.prog 51 #[va, vb, .int .i64 cut] w fun e w' => Pair2 w w' e xs ys (divK 1 cut (Nl.val ys)) (Nl.val xs / Nl.val ys) (Nl.val xs % Nl.val ys) := by
  have h := Lib.hid (quotient_of1 va vb xs ys cut w ha hb hsx hsy h1 h2 hd)
  obtain ⟨a, ca, rfl, -⟩ := ha.form
  obtain ⟨b, cb, rfl, -⟩ := hb.form
  clear ha hb hd
  go_enter Tryz.func51, Tryz.ntmps51
  go_wp2_with fail
  refine h.out.mono ?_
  rintro e w1 ⟨c, hc, ⟨u, v, rfl, h2, h3⟩, hb1⟩
  have HR := Lib.hid (And.intro hc (And.intro h2 (And.intro h3 hb1)))
  clear hc h2 h3 hb1 h
  go_wp2_with fail
  refine bodyPost_ret (v := .tuple #[u, v, .int .i64 c]) (by simp [results, Tryz.results51, go_sem]) rfl ?_
  exact ⟨c, HR.out.1, ⟨u, v, rfl, HR.out.2.1, HR.out.2.2.1⟩, HR.out.2.2.2⟩

end Go.Proofs.YtfaledeidjmooaaGreat
