/-
  What the work of products does. What Mul, School and Karatsuba do. Conditions: those that each theorem names.
-/
import Derived.Test.YtkbghamkalidcaaGreatFormsAll
import Derived.Test.YtkbghamkalidcaaGreatValidAll
import Derived.Laws.EntriesVeiled
import Derived.Laws.Rows
import Derived.Deep.RegionWith
import Derived.Deep.Cut
namespace Go.Proofs.YtkbghamkalidcaaGreat
open Go.RowKit

/-- is a cut good? -/
def cutB (c : Int) : Bool := decide (2 ≤ c) && decide (c ≤ 1024)
theorem goodCut_any (c : Int) (w : World) (_h1 : -9223372036854775808 ≤ c) (_h2 : c ≤ 9223372036854775807) : Calls Tryz.prog 247 #[.int .i64 c] w fun e w' => e = .returned (.bool (cutB c)) ∧ w = w' := by
  by_cases hc : 2 ≤ c
  · have e0 : decide (2 ≤ c) = true := decide_eq_true hc
    have e1 : cutB c = decide (c ≤ 1024) := by rw [cutB, e0, Bool.true_and]
    rw [e1]
    obtain ⟨b, hb⟩ : ∃ b, b = decide (c ≤ 1024) := ⟨_, rfl⟩
    rw [← hb]
    have e2 : decide (c ≤ 1024) = b := hb.symm
    clear hb e1 hc
    go_enter Tryz.func247, Tryz.ntmps247
    go_wp2
    go_ret
    exact ⟨rfl, rfl⟩
  · have e0 : decide (2 ≤ c) = false := decide_eq_false hc
    have e1 : cutB c = false := by rw [cutB, e0, Bool.false_and]
    rw [e1]
    clear e1 hc
    go_enter Tryz.func247, Tryz.ntmps247
    go_wp2
    go_ret
    exact ⟨rfl, rfl⟩

theorem multipliers_any (w : World) : Calls Tryz.prog 246 #[] w fun e w' => e = .returned (.agg #[.bool false, .func (.func 264) #[] #[], .bool true, .func (.func 266) #[] #[]]) ∧ w' = w.alloc (.cells #[.bool false, .func (.func 264) #[] #[], .bool true, .func (.func 266) #[] #[]] 237) := by
  go_enter Tryz.func246, Tryz.ntmps246
  go_wp2
  refine bodyPost_ret (v := .agg #[.bool false, .func (.func 264) #[] #[], .bool true, .func (.func 266) #[] #[]]) (results_cell_row Tryz.results246 _ _ w.heap.size 237 _ (0, 0) (.array 2 236) rfl (heap_alloc_new _ _) (by kernel_rfl) rfl (by kernel_rfl)) rfl ?_
  exact ⟨rfl, rfl⟩

/-- what the work of a product sees -/
structure MulIn (w : World) (K : Nat) (road cut : Int) (va vb : Value) (m n : Nat) : Prop where
  c0 : w.cell? ⟨K, 0, none⟩ = some (.int .i64 road)
  c1 : w.cell? ⟨K + 1, 0, none⟩ = some va
  c2 : w.cell? ⟨K + 1 + 1, 0, none⟩ = some vb
  c3 : w.cell? ⟨K + 1 + 1 + 1, 0, none⟩ = some (.int .i64 cut)
  lt : K + 1 + 1 + 1 < w.heap.size
  ha : IsN w va m
  hb : IsN w vb n
  la : (Nl.limbs m).length ≤ 1024
  lb : (Nl.limbs n).length ≤ 1024
  h1 : -9223372036854775808 ≤ cut
  h2 : cut ≤ 9223372036854775807
theorem MulIn.below {w W : World} {K : Nat} {road cut : Int} {va vb : Value} {m n : Nat} (h : MulIn w K road cut va vb m n) (hW : Below w.heap.size w W) : MulIn W K road cut va vb m n := by
  have hl := h.lt
  refine ⟨?_, ?_, ?_, ?_, Nat.lt_of_lt_of_le hl hW.size, h.ha.below hW, h.hb.below hW, h.la, h.lb, h.h1, h.h2⟩
  · exact (hW.cell (p := ⟨K, 0, none⟩) (show K < w.heap.size by omega)).trans h.c0
  · exact (hW.cell (p := ⟨K + 1, 0, none⟩) (show K + 1 < w.heap.size by omega)).trans h.c1
  · exact (hW.cell (p := ⟨K + 1 + 1, 0, none⟩) (show K + 1 + 1 < w.heap.size by omega)).trans h.c2
  · exact (hW.cell (p := ⟨K + 1 + 1 + 1, 0, none⟩) hl).trans h.c3
/-- the error of a product -/
def mulK (road cut : Int) (m n : Nat) : Int := if road ≠ 0 ∧ cutB cut = false then 1 else if m = 0 ∨ n = 0 ∨ (Nl.limbs m).length + (Nl.limbs n).length ≤ 1025 then 0 else 2

/-- where the road lies -/
def RoadAt (W wx : World) (v : Value) (cuts : Bool) (F : FuncId) : Prop := ∃ g, v = .pointer (some ⟨g, 0, none⟩) ∧ wx.cell? ⟨g, 0, none⟩ = some (.bool cuts) ∧ wx.cell? ⟨g, 1, none⟩ = some (.func (.func F) #[] #[]) ∧ Below W.heap.size W wx
theorem roadAt_mk (W : World) (t t' : TypeId) (A : Array Value) (cuts : Bool) (F : FuncId) : RoadAt W ((W.alloc (.cells A t)).alloc (.cells #[.bool cuts, .func (.func F) #[] #[]] t')).drew (.pointer (some ⟨W.heap.size + 1, 0, none⟩)) cuts F := by
  have e : ((W.alloc (.cells A t)).alloc (.cells #[.bool cuts, .func (.func F) #[] #[]] t')).drew.heap[W.heap.size + 1]? = some (.cells #[.bool cuts, .func (.func F) #[] #[]] t' (0, 0)) := heap_alloc2_new W _ _
  refine ⟨_, rfl, cell_of_row _ _ 0 _ _ (0, 0) e, cell_of_row _ _ 1 _ _ (0, 0) e, ?_⟩
  · exact (((Below.refl _ _).alloc (Nat.le_refl _) _).alloc (by simp) _).drew
theorem roadAt_mk' (W : World) (t t' : TypeId) (A : Array Value) (cuts : Bool) (F : FuncId) : RoadAt W (((W.alloc (.cells #[.bool cuts, .func (.func F) #[] #[]] t'))).alloc (.cells A t)).drew (.pointer (some ⟨W.heap.size, 0, none⟩)) cuts F := by
  have e : (((W.alloc (.cells #[.bool cuts, .func (.func F) #[] #[]] t'))).alloc (.cells A t)).drew.heap[W.heap.size]? = some (.cells #[.bool cuts, .func (.func F) #[] #[]] t' (0, 0)) := heap_alloc2_old W _ _
  refine ⟨_, rfl, cell_of_row _ _ 0 _ _ (0, 0) e, cell_of_row _ _ 1 _ _ (0, 0) e, ?_⟩
  · exact (((Below.refl _ _).alloc (Nat.le_refl _) _).alloc (by simp) _).drew

set_option maxHeartbeats 1000000 in
theorem product1_does (K : Nat) (va vb : Value) (m n : Nat) (cut : Int) (w : World) (h : MulIn w K 1 cut va vb m n) :
    NatDoes 245 #[.pointer (some ⟨K, 0, none⟩), .pointer (some ⟨K + 1 + 1 + 1, 0, none⟩), .pointer (some ⟨K + 1, 0, none⟩), .pointer (some ⟨K + 1 + 1, 0, none⟩)] w (mulK 1 cut m n) (m * n) := by
  obtain ⟨k, hk⟩ : ∃ k : Int, k = mulK 1 cut m n := ⟨_, rfl⟩
  rw [← hk]
  have HK := Lib.hid hk
  clear hk
  intro W hW
  have H := Lib.hid (h.below hW)
  have k0 := H.out.c0
  have hKl : K < W.heap.size := by have := H.out.lt; omega
  have hKn : ¬ K = W.heap.size := by omega
  have hKn1 : ¬ K = W.heap.size + 1 := by omega
  clear hW h
  go_enter Tryz.func245, Tryz.ntmps245
  go_upto_region 1 with fail
  go_cut [5] from 6 (fun v5 wx => RoadAt W wx v5 true 266)
  case first =>
    have hix : ∀ w, (Instr.index 237 (.agg #[.bool false, .func (.func 264) #[] #[], .bool true, .func (.func 266) #[] #[]]) (.int .i64 1)).run Tryz.prog w = .ok (.agg #[.bool true, .func (.func 266) #[] #[]]) w := fun _ => by kernel_rfl
    go_region_with (go_at_call 246; refine (multipliers_any _).mono ?_; rintro e w1 ⟨rfl, rfl⟩)
    all_goals (go_wp2_with fail; go_meet; case rel => first | exact roadAt_mk .. | exact roadAt_mk' ..)
  case rest =>
    obtain ⟨g, rfl, g0, g1, gb⟩ := hcut
    have H2 := Lib.hid (H.out.below gb)
    have GB := Lib.hid gb
    have c1 := H2.out.c1
    have c2 := H2.out.c2
    have c3 := H2.out.c3
    obtain ⟨a, ca, rfl, -⟩ := H2.out.ha.form
    obtain ⟨b, cb, rfl, -⟩ := H2.out.hb.form
    have la := H2.out.la
    have lb := H2.out.lb
    have l1 := H2.out.h1
    have l2 := H2.out.h2
    clear gb k0 H hKl hKn hKn1
    by_cases hc : cutB cut = true
    · obtain ⟨cn, rfl⟩ : ∃ cn : Nat, cut = cn := ⟨cut.toNat, by simp [cutB] at hc; omega⟩
      have hc2 : 2 ≤ cn ∧ cn ≤ 1024 := by simp [cutB] at hc; omega
      have hg : Calls Tryz.prog 247 #[.int .i64 (cn : Int)] wc fun e w' => e = .returned (.bool true) ∧ wc = w' := by
        have := goodCut_any (cn : Int) wc l1 l2
        rwa [hc] at this
      have HG := Lib.hid hg
      have HC := Lib.hid hc
      clear hc hg
      by_cases hm : (Nl.limbs m).length = 0
      · have e0 : (((Nl.limbs m).length : Int) == 0) = true := by simp [hm]
        have hk := HK.out
        rw [mulK, if_neg (fun h => by rw [HC.out] at h; exact absurd h.2 (by decide)), if_pos (.inl (Nl.len_zero hm))] at hk
        have HK' := Lib.hid hk
        have HM := Lib.hid hm
        clear hk hm HK
        go_wp2_with (first | (go_at_call_of 55 (Value.bool true); refine (must_yes _ _).mono ?_; rintro e w' ⟨rfl, rfl⟩) | (go_at_call 247; refine HG.out.mono ?_; rintro e w' ⟨rfl, rfl⟩))
        refine (timesHalves_any _ _ m n cn _ H2.out.ha H2.out.hb (by omega) (by omega) (by omega) (by omega)).mono ?_
        rintro e w2 ⟨⟨v, rfl, hv⟩, hb2⟩
        have HV := Lib.hid hv
        have HB2 := Lib.hid hb2
        clear hv hb2
        go_wp2_with fail
        go_ret
        exact ⟨GB.out.trans (HB2.out.mono GB.out.size), .inl ⟨HK'.out, v, rfl, HV.out.at.at⟩⟩
      · have e0 : (((Nl.limbs m).length : Int) == 0) = false := by rw [beq_eq_false_iff_ne]; omega
        have hm0 : m ≠ 0 := fun h => hm (by rw [h, Nl.limbs_zero]; rfl)
        have HM := Lib.hid hm0
        clear hm hm0
        by_cases hn : (Nl.limbs n).length = 0
        · have e1 : (((Nl.limbs n).length : Int) == 0) = true := by simp [hn]
          have hk := HK.out
          rw [mulK, if_neg (fun h => by rw [HC.out] at h; exact absurd h.2 (by decide)), if_pos (.inr (.inl (Nl.len_zero hn)))] at hk
          have HK' := Lib.hid hk
          clear hk hn HK
          go_wp2_with (first | (go_at_call_of 55 (Value.bool true); refine (must_yes _ _).mono ?_; rintro e w' ⟨rfl, rfl⟩) | (go_at_call 247; refine HG.out.mono ?_; rintro e w' ⟨rfl, rfl⟩))
          refine (timesHalves_any _ _ m n cn _ H2.out.ha H2.out.hb (by omega) (by omega) (by omega) (by omega)).mono ?_
          rintro e w2 ⟨⟨v, rfl, hv⟩, hb2⟩
          have HV := Lib.hid hv
          have HB2 := Lib.hid hb2
          clear hv hb2
          go_wp2_with fail
          go_ret
          exact ⟨GB.out.trans (HB2.out.mono GB.out.size), .inl ⟨HK'.out, v, rfl, HV.out.at.at⟩⟩
        · have e1 : (((Nl.limbs n).length : Int) == 0) = false := by rw [beq_eq_false_iff_ne]; omega
          have hn0 : n ≠ 0 := fun h => hn (by rw [h, Nl.limbs_zero]; rfl)
          by_cases hs : (Nl.limbs m).length + (Nl.limbs n).length ≤ 1025
          · have e2 : decide (((Nl.limbs m).length : Int) + ((Nl.limbs n).length : Int) - 1 ≤ 1024) = true := by rw [decide_eq_true_eq]; omega
            have hk := HK.out
            rw [mulK, if_neg (fun h => by rw [HC.out] at h; exact absurd h.2 (by decide)), if_pos (.inr (.inr hs))] at hk
            have HK' := Lib.hid hk
            clear hk hn hn0 HK hs
            go_wp2_with (first | (go_at_call_of 55 (Value.bool true); refine (must_yes _ _).mono ?_; rintro e w' ⟨rfl, rfl⟩) | (go_at_call 247; refine HG.out.mono ?_; rintro e w' ⟨rfl, rfl⟩))
            refine (timesHalves_any _ _ m n cn _ H2.out.ha H2.out.hb (by omega) (by omega) (by omega) (by omega)).mono ?_
            rintro e w2 ⟨⟨v, rfl, hv⟩, hb2⟩
            have HV := Lib.hid hv
            have HB2 := Lib.hid hb2
            clear hv hb2
            go_wp2_with fail
            go_ret
            exact ⟨GB.out.trans (HB2.out.mono GB.out.size), .inl ⟨HK'.out, v, rfl, HV.out.at.at⟩⟩
          · have e2 : decide (((Nl.limbs m).length : Int) + ((Nl.limbs n).length : Int) - 1 ≤ 1024) = false := by rw [decide_eq_false_iff_not]; omega
            have hk := HK.out
            rw [mulK, if_neg (fun h => by rw [HC.out] at h; exact absurd h.2 (by decide)), if_neg (by have := HM.out; omega)] at hk
            have HK' := Lib.hid hk
            clear hk hn hn0 HK hs
            go_wp2_with (first | (go_at_call_of 55 (Value.bool true); refine (must_yes _ _).mono ?_; rintro e w' ⟨rfl, rfl⟩) | (go_at_call_of 55 (Value.bool false); refine (must_no _ _).mono ?_; rintro e w' ⟨rfl, rfl⟩) | (go_at_call 247; refine HG.out.mono ?_; rintro e w' ⟨rfl, rfl⟩))
            exact ⟨rfl, GB.out, .inr ⟨by rw [HK'.out]; decide, by rw [HK'.out]⟩⟩
    · have hc' : cutB cut = false := by simpa using hc
      have hg : Calls Tryz.prog 247 #[.int .i64 cut] wc fun e w' => e = .returned (.bool false) ∧ wc = w' := by
        have := goodCut_any cut wc l1 l2
        rwa [hc'] at this
      have HG := Lib.hid hg
      have hk := HK.out
      rw [mulK, if_pos ⟨by decide, hc'⟩] at hk
      have HK' := Lib.hid hk
      clear hk hc hc' hg HK
      go_wp2_with (first | (go_at_call_of 55 (Value.bool false); refine (must_no _ _).mono ?_; rintro e w' ⟨rfl, rfl⟩) | (go_at_call 247; refine HG.out.mono ?_; rintro e w' ⟨rfl, rfl⟩))
      exact ⟨rfl, GB.out, .inr ⟨by rw [HK'.out]; decide, by rw [HK'.out]⟩⟩



/-- four cells and a row of two numbers -/
theorem boxes4 (w : World) (a b c d x y : Value) (t1 t2 t3 t4 t5 : TypeId) (W : World)
    (hW : W = ((((w.alloc (.cells #[a] t1)).alloc (.cells #[b] t2)).alloc (.cells #[c] t3)).alloc (.cells #[d] t4)).alloc (.cells #[x, y] t5)) :
    Below w.heap.size w W ∧ W.heap.size = w.heap.size + 5 ∧ W.cell? ⟨w.heap.size, 0, none⟩ = some a ∧ W.cell? ⟨w.heap.size + 1, 0, none⟩ = some b ∧
      W.cell? ⟨w.heap.size + 1 + 1, 0, none⟩ = some c ∧ W.cell? ⟨w.heap.size + 1 + 1 + 1, 0, none⟩ = some d ∧
      W.cell? ⟨w.heap.size + 1 + 1 + 1 + 1, 0, none⟩ = some x ∧ W.cell? ⟨w.heap.size + 1 + 1 + 1 + 1, 1, none⟩ = some y := by
  obtain ⟨w1, h1⟩ : ∃ w1, w1 = w.alloc (.cells #[a] t1) := ⟨_, rfl⟩
  obtain ⟨w2, h2⟩ : ∃ w2, w2 = w1.alloc (.cells #[b] t2) := ⟨_, rfl⟩
  obtain ⟨w3, h3⟩ : ∃ w3, w3 = w2.alloc (.cells #[c] t3) := ⟨_, rfl⟩
  obtain ⟨w4, h4⟩ : ∃ w4, w4 = w3.alloc (.cells #[d] t4) := ⟨_, rfl⟩
  rw [← h1, ← h2, ← h3, ← h4] at hW
  have s1 : w1.heap.size = w.heap.size + 1 := by rw [h1]; simp
  have s2 : w2.heap.size = w.heap.size + 1 + 1 := by rw [h2]; simp [s1]
  have s3 : w3.heap.size = w.heap.size + 1 + 1 + 1 := by rw [h3]; simp [s2]
  have s4 : w4.heap.size = w.heap.size + 1 + 1 + 1 + 1 := by rw [h4]; simp [s3]
  have s5 : W.heap.size = w.heap.size + 5 := by rw [hW]; simp [s4]
  have b1 : Below w.heap.size w w1 := by rw [h1]; exact (Below.refl _ _).alloc (Nat.le_refl _) _
  have b2 : Below w1.heap.size w1 w2 := by rw [h2]; exact (Below.refl _ _).alloc (Nat.le_refl _) _
  have b3 : Below w2.heap.size w2 w3 := by rw [h3]; exact (Below.refl _ _).alloc (Nat.le_refl _) _
  have b4 : Below w3.heap.size w3 w4 := by rw [h4]; exact (Below.refl _ _).alloc (Nat.le_refl _) _
  have b5 : Below w4.heap.size w4 W := by rw [hW]; exact (Below.refl _ _).alloc (Nat.le_refl _) _
  have b45 : Below w3.heap.size w3 W := b4.trans (b5.mono (by omega))
  have b35 : Below w2.heap.size w2 W := b3.trans (b45.mono (by omega))
  have b25 : Below w1.heap.size w1 W := b2.trans (b35.mono (by omega))
  have e1 : w1.heap[w.heap.size]? = some (.cells #[a] t1 (0, 0)) := by rw [h1]; exact heap_alloc_new _ _
  have e2 : w2.heap[w.heap.size + 1]? = some (.cells #[b] t2 (0, 0)) := by rw [h2, ← s1]; exact heap_alloc_new _ _
  have e3 : w3.heap[w.heap.size + 1 + 1]? = some (.cells #[c] t3 (0, 0)) := by rw [h3, ← s2]; exact heap_alloc_new _ _
  have e4 : w4.heap[w.heap.size + 1 + 1 + 1]? = some (.cells #[d] t4 (0, 0)) := by rw [h4, ← s3]; exact heap_alloc_new _ _
  have e5 : W.heap[w.heap.size + 1 + 1 + 1 + 1]? = some (.cells #[x, y] t5 (0, 0)) := by rw [hW, ← s4]; exact heap_alloc_new _ _
  refine ⟨b1.trans (b25.mono (by omega)), s5, ?_, ?_, ?_, ?_, cell_of_row _ _ 0 _ _ (0, 0) e5, cell_of_row _ _ 1 _ _ (0, 0) e5⟩
  · exact (b25.cell (p := ⟨w.heap.size, 0, none⟩) (show w.heap.size < w1.heap.size by omega)).trans (cell_of_one e1)
  · exact (b35.cell (p := ⟨w.heap.size + 1, 0, none⟩) (show w.heap.size + 1 < w2.heap.size by omega)).trans (cell_of_one e2)
  · exact (b45.cell (p := ⟨w.heap.size + 1 + 1, 0, none⟩) (show w.heap.size + 1 + 1 < w3.heap.size by omega)).trans (cell_of_one e3)
  · exact (b5.cell (p := ⟨w.heap.size + 1 + 1 + 1, 0, none⟩) (show w.heap.size + 1 + 1 + 1 < w4.heap.size by omega)).trans (cell_of_one e4)

set_option maxHeartbeats 1000000 in
theorem product_of1 (va vb : Value) (xs ys : List Nat) (cut : Int) (w : World) (ha : At w va xs) (hb : At w vb ys) (hsx : Nl.Small xs) (hsy : Nl.Small ys) (h1 : -9223372036854775808 ≤ cut) (h2 : cut ≤ 9223372036854775807) :
    Calls Tryz.prog 224 #[.int .i64 1, va, vb, .int .i64 cut] w fun e w' => Res2 w w' e xs ys (mulK 1 cut (Nl.val xs) (Nl.val ys)) (Nl.val xs * Nl.val ys) := by
  have hmf : ∀ (fn : Fn) (first cap : Array Value) (w : World), (Instr.makeFunc fn first cap).run Tryz.prog w = .ok (.func fn first cap) w := fun _ _ _ _ => rfl
  have HA := Lib.hid ha
  have HB := Lib.hid hb
  obtain ⟨a, ca, rfl, -⟩ := ha.form
  obtain ⟨b, cb, rfl, -⟩ := hb.form
  clear ha hb
  go_enter Tryz.func224, Tryz.ntmps224
  go_wp2_with fail
  obtain ⟨W, hW⟩ : ∃ W, W = ((((w.alloc (.cells #[.int .i64 1] 3)).alloc (.cells #[.slice a xs.length ca] 23)).alloc (.cells #[.slice b ys.length cb] 23)).alloc (.cells #[.int .i64 cut] 3)).alloc (.cells #[.slice a xs.length ca, .slice b ys.length cb] 23) := ⟨_, rfl⟩
  rw [← hW]
  obtain ⟨hbl, hsz, c1, c2, c3, c4, c5, c6⟩ := boxes4 w _ _ _ _ _ _ _ _ _ _ _ W hW
  clear hW
  refine (one_two _ _ w W (mulK 1 cut (Nl.val xs) (Nl.val ys)) (Nl.val xs * Nl.val ys) (w.heap.size + 1 + 1 + 1 + 1) _ _ xs ys hbl (by omega) c5 c6 HA.out HB.out (fun v1 v2 => ?_) (fun _ _ => by kernel_rfl)).mono ?_
  · exact product1_does w.heap.size _ _ _ _ cut W ⟨c1, c2, c3, c4, by omega, (HA.out.num hsx v1).below hbl, (HB.out.num hsy v2).below hbl, (validB_eq hsx v1).2, (validB_eq hsy v2).2, h1, h2⟩
  clear c1 c2 c3 c4 c5 c6 hbl hsz
  rintro e w1 ⟨c, hc, ⟨v, rfl, h2, h3⟩, hb1⟩
  have HR := Lib.hid (And.intro hc (And.intro h2 (And.intro h3 hb1)))
  clear hc h2 h3 hb1
  go_wp2_with fail
  go_ret2
  exact ⟨c, HR.out.1, ⟨v, rfl, HR.out.2.1, HR.out.2.2.1⟩, HR.out.2.2.2⟩

set_option maxHeartbeats 1000000 in
theorem mul_any (va vb : Value) (xs ys : List Nat) (w : World) (ha : At w va xs) (hb : At w vb ys) (hsx : Nl.Small xs) (hsy : Nl.Small ys) :
    Calls Tryz.prog 179 #[va, vb] w fun e w' => Res2 w w' e xs ys (mulK 1 80 (Nl.val xs) (Nl.val ys)) (Nl.val xs * Nl.val ys) := by
  have h := Lib.hid (product_of1 va vb xs ys 80 w ha hb hsx hsy (by decide) (by decide))
  obtain ⟨a, ca, rfl, -⟩ := ha.form
  obtain ⟨b, cb, rfl, -⟩ := hb.form
  clear ha hb
  go_enter Tryz.func179, Tryz.ntmps179
  go_wp2_with fail
  refine h.out.mono ?_
  rintro e w1 ⟨c, hc, ⟨v, rfl, h2, h3⟩, hb1⟩
  have HR := Lib.hid (And.intro hc (And.intro h2 (And.intro h3 hb1)))
  clear hc h2 h3 hb1 h
  go_wp2_with fail
  go_ret2
  exact ⟨c, HR.out.1, ⟨v, rfl, HR.out.2.1, HR.out.2.2.1⟩, HR.out.2.2.2⟩

end Go.Proofs.YtkbghamkalidcaaGreat
