/-
  Strips of words of package whole: what they mean, and the lowest words of an integer. Conditions: those that each theorem names.
  The methods and, or, xor of package whole's pair of strips. Written by wip/tool/genpair.py. Conditions: those that each theorem names.
-/
import Derived.Test.YtkbghamkalidcaaGreatStripAll
import Derived.Test.YtkbghamkalidcaaGreatCountAll
import Derived.BigQuiet
namespace Go.Proofs.YtkbghamkalidcaaGreat
open Go.RowKit

theorem twos_limbs {m : Nat} {xs Z : List Nat} {n : Nat} (hx : xs.length = n) (hs : Nl.Small xs) (hneg : ¬ 2 * Nl.val xs < 4294967296 ^ n) (hz : Nl.val Z = (4294967296 ^ n - Nl.val xs) % 4294967296 ^ n) (hm : m = Nl.val Z) : sgn true m = Nl.twos (4294967296 ^ n) (Nl.val xs) := by
  have h1 := Nl.val_lt hs
  rw [hx] at h1
  rw [Nl.twos, if_neg hneg, sgn, if_pos rfl, hm, hz]
  obtain ⟨P, hP⟩ : ∃ P, P = 4294967296 ^ n := ⟨_, rfl⟩
  rw [← hP] at h1 hneg ⊢
  rw [Nat.mod_eq_of_lt (by omega)]
  omega

theorem wtrimmed_row (g n : Nat) (L : List Nat) (w : World) (hn : L.length = n) (hr : Row w g L) (hm : n ≤ 9223372036854775807) :
    Calls Tryz.prog 168 #[.slice (some ⟨g, 0, none⟩) n n] w fun e w' => e = .returned (.slice (some ⟨g, 0, none⟩) (Nl.trim L).length n) ∧ w = w' := by
  subst hn
  exact wtrimmed_cells g 0 _ L w (hr.cells fun i hi => ⟨by omega, by simp⟩) (Nat.le_refl _) hm
theorem only_block {g b : Nat} {w w' : World} {o : Option Obj} (h : Only g w w') (hb : w.heap[b]? = o) (hl : b < w.heap.size) (hne : b ≠ g) : w'.heap[b]? = o := (h.block b hl (by simpa using hne)).trans hb
set_option maxHeartbeats 2000000 in
theorem strip_integer (g k : Nat) (xs : List Nat) (w : World) (hn : xs.length = k + 1) (hr : Row w g xs) (hs : Nl.Small xs) (hcap : k + 1 ≤ 1000000) (B : Nat) (w0 : World) (hb : Below B w0 w) (hg : B ≤ g) (hB : B ≤ w.heap.size) :
    Calls Tryz.prog 120 #[.slice (some ⟨g, 0, none⟩) (k + 1) (k + 1)] w fun e w' => (∃ s p l c, e = .returned (.agg #[.bool s, .slice p l c]) ∧ IsI w' (.agg #[.bool s, .slice p l c]) (Nl.twos (4294967296 ^ (k + 1)) (Nl.val xs))) ∧ Below B w0 w' := by
  obtain ⟨W, hW⟩ : ∃ W, W = w.alloc (.cells #[.bool false, .slice none 0 0] 78) := ⟨_, rfl⟩
  have hbw : Below w.heap.size w W := by rw [hW]; exact below_one w _
  have hQ : W.heap[w.heap.size]? = some (.cells #[.bool false, .slice none 0 0] 78 (0, 0)) := by rw [hW]; exact heap_alloc_new _ _
  have hR : Row W g xs := hr.below hbw hr.lt
  obtain ⟨x, hx⟩ : ∃ x, x = xs.getD k 0 := ⟨_, rfl⟩
  have hx2 : x < 4294967296 := by rw [hx]; exact hs.getD k
  have htop := Nl.strip_top hs hn
  rw [← hx] at htop
  have cx := hR.cell (i := k) (by omega)
  rw [← hx] at cx
  have hne : g ≠ w.heap.size := Nat.ne_of_lt hr.lt
  have HN := Lib.hid (And.intro hn (And.intro hs htop))
  have HB := Lib.hid (And.intro (hb.trans (hbw.mono hB)) (And.intro hg hB))
  have HQ := Lib.hid (And.intro hQ hne)
  have HR := Lib.hid hR
  clear hn hs htop hb hg hB hne hbw hQ hR hr hx
  by_cases h0 : 2147483648 ≤ x
  · have e1 : ((x : Int) / 2147483648 == 1) = true := by rw [beq_iff_eq]; omega
    have H0 := Lib.hid (HN.out.2.2.1 h0)
    clear h0
    rw [hW] at cx
    go_enter Tryz.func120, Tryz.ntmps120
    go_wp2_with fail
    rw [← hW] at cx ⊢
    clear hW cx
    refine (negate_any g (k + 1) (k + 1) xs W HN.out.1 HR.out HN.out.2.1 (Nat.le_refl _) (by omega)).mono ?_
    rintro e w1 ⟨rfl, Z, hr1, ho1, hl1, hs1, hv1⟩
    have H1 := Lib.hid (And.intro hr1 (And.intro ho1 (And.intro hl1 (And.intro hs1 hv1))))
    clear hr1 ho1 hl1 hs1 hv1
    go_wp2_with fail
    refine (wtrimmed_row g (k + 1) Z w1 H1.out.2.2.1 H1.out.1 (by omega)).mono ?_
    rintro e wt ⟨rfl, rfl⟩
    obtain ⟨m, hm⟩ : ∃ m, m = Nl.val Z := ⟨_, rfl⟩
    have hAt := (Own.num (base := 0) (k := m) (Nat.zero_le g) H1.out.1 H1.out.2.2.1 (by omega) H1.out.2.2.2.1 hm.symm).at.at
    obtain ⟨l, hl⟩ : ∃ l, l = (Nl.trim Z).length := ⟨_, rfl⟩
    rw [← hl] at hAt ⊢
    have HA := Lib.hid (And.intro hAt hm)
    clear hAt hm hl
    go_wp2_with fail
    refine (signed_num true _ m w1 HA.out.1).mono ?_
    rintro e w2 ⟨⟨t, rfl, ht⟩, hb2⟩
    have BQ := (hb2.block _ (Nat.lt_of_lt_of_le (lt_of_block HQ.out.1) H1.out.2.1.size)).trans (only_block H1.out.2.1 HQ.out.1 (lt_of_block HQ.out.1) HQ.out.2.symm)
    have f0 := frozen_of_row _ _ 0 _ _ BQ
    have f1 := frozen_of_row _ _ 1 _ _ BQ
    have g0 := cell_of_row _ _ 0 _ _ (0, 0) BQ
    have g1 := cell_of_row _ _ 1 _ _ (0, 0) BQ
    have H2 := Lib.hid (And.intro BQ (And.intro ht hb2))
    clear BQ ht hb2
    go_wp2_with fail
    refine bodyPost_ret (v := .agg #[.bool t, .slice (some ⟨g, 0, none⟩) l (k + 1)]) (results_cell_row Tryz.results120 _ _ w.heap.size 78 _ (0, 0) _ rfl (ibox_set _ _ H2.out.1) Tryz.underlying78 rfl (by kernel_rfl)) rfl ?_
    refine ⟨⟨_, _, _, _, rfl, isI_mk (at_ibox _ _ (HA.out.1.below H2.out.2.2) H2.out.1) H2.out.2.1 ?_⟩, below_ibox ((below_of_only HB.out.1 H1.out.2.1 HB.out.2.1 (Nat.le_trans HB.out.2.2 (Nat.le_of_lt (lt_of_block HQ.out.1)))).trans (H2.out.2.2.mono ?_)) HB.out.2.2 _ _⟩
    · exact twos_limbs HN.out.1 HN.out.2.1 H0.out H1.out.2.2.2.2 HA.out.2
    · exact Nat.le_trans (Nat.le_trans HB.out.2.2 (Nat.le_of_lt (lt_of_block HQ.out.1))) H1.out.2.1.size
  · have e1 : ((x : Int) / 2147483648 == 1) = false := by rw [beq_eq_false_iff_ne]; omega
    have H0 := Lib.hid (show 2 * Nl.val xs < 4294967296 ^ (k + 1) from Decidable.not_not.1 (fun h => h0 (HN.out.2.2.2 h)))
    clear h0
    rw [hW] at cx
    go_enter Tryz.func120, Tryz.ntmps120
    go_wp2_with fail
    rw [← hW] at cx ⊢
    clear hW cx
    refine (wtrimmed_row g (k + 1) xs W HN.out.1 HR.out (by omega)).mono ?_
    rintro e wt ⟨rfl, rfl⟩
    obtain ⟨m, hm⟩ : ∃ m, m = Nl.val xs := ⟨_, rfl⟩
    have hAt := (Own.num (base := 0) (k := m) (Nat.zero_le g) HR.out HN.out.1 (by omega) HN.out.2.1 hm.symm).at.at
    obtain ⟨l, hl⟩ : ∃ l, l = (Nl.trim xs).length := ⟨_, rfl⟩
    rw [← hl] at hAt ⊢
    have HA := Lib.hid (And.intro hAt hm)
    clear hAt hm hl
    go_wp2_with fail
    refine (signed_num false _ m W HA.out.1).mono ?_
    rintro e w2 ⟨⟨t, rfl, ht⟩, hb2⟩
    have BQ := (hb2.block _ (lt_of_block HQ.out.1)).trans HQ.out.1
    have f0 := frozen_of_row _ _ 0 _ _ BQ
    have f1 := frozen_of_row _ _ 1 _ _ BQ
    have g0 := cell_of_row _ _ 0 _ _ (0, 0) BQ
    have g1 := cell_of_row _ _ 1 _ _ (0, 0) BQ
    have H2 := Lib.hid (And.intro BQ (And.intro ht hb2))
    clear BQ ht hb2
    go_wp2_with fail
    refine bodyPost_ret (v := .agg #[.bool t, .slice (some ⟨g, 0, none⟩) l (k + 1)]) (results_cell_row Tryz.results120 _ _ w.heap.size 78 _ (0, 0) _ rfl (ibox_set _ _ H2.out.1) Tryz.underlying78 rfl (by kernel_rfl)) rfl ?_
    refine ⟨⟨_, _, _, _, rfl, isI_mk (at_ibox _ _ (HA.out.1.below H2.out.2.2) H2.out.1) H2.out.2.1 ?_⟩, below_ibox (HB.out.1.trans (H2.out.2.2.mono ?_)) HB.out.2.2 _ _⟩
    · rw [Nl.twos, if_pos H0.out, HA.out.2]; rfl
    · exact Nat.le_trans HB.out.2.2 (Nat.le_of_lt (lt_of_block HQ.out.1))
theorem val_take_limbs (m n : Nat) : Nl.val ((Nl.limbs m).take n) = m % 4294967296 ^ n := by
  rw [← Nl.val_trim, Nl.limbs_take, Nl.val_limbs]
set_option maxHeartbeats 2000000 in
theorem lowest_any (va : Value) (a : Int) (n : Nat) (w : World) (ha : IsI w va a) (h1 : 1 ≤ n) (h2 : n ≤ 1000000) :
    Calls Tryz.prog 119 #[va, .int .i64 n] w fun e w' => ∃ g Z, e = .returned (.slice (some ⟨g, 0, none⟩) n n) ∧ w.heap.size ≤ g ∧ Row w' g Z ∧ Z.length = n ∧ Nl.Small Z ∧ Nl.val Z = Nl.low a (4294967296 ^ n) ∧ Below w.heap.size w w' := by
  obtain ⟨p, c, rfl, hu⟩ := ha.form
  obtain ⟨l, hl⟩ : ∃ l, l = (Nl.limbs a.natAbs).length := ⟨_, rfl⟩
  rw [← hl] at ha hu ⊢
  obtain ⟨s, hs⟩ : ∃ s, s = negB a := ⟨_, rfl⟩
  rw [← hs] at ha ⊢
  obtain ⟨V, hV⟩ : ∃ V, V = w.alloc (.cells #[.bool s, .slice p l c] 78) := ⟨_, rfl⟩
  have hbV : Below w.heap.size w V := by rw [hV]; exact below_one w _
  have hQ : V.heap[w.heap.size]? = some (.cells #[.bool s, .slice p l c] 78 (0, 0)) := by rw [hV]; exact heap_alloc_new _ _
  have hVs : V.heap.size = w.heap.size + 1 := by rw [hV]; simp
  have hmk := make_words 126 Tryz.underlying126 V n n (by omega) (by omega)
  obtain ⟨W, hW⟩ : ∃ W, W = V.alloc (.cells (vals (Nl.zeros n)).toArray 80) := ⟨_, rfl⟩
  have hbW : Below V.heap.size V W := by rw [hW]; exact below_one V _
  have hR : Row W V.heap.size (Nl.zeros n) := by rw [hW]; exact row_new V _
  have hQ2 := (hbW.block _ (lt_of_block hQ)).trans hQ
  have k0 := cell_of_row _ _ 0 _ _ (0, 0) hQ2
  have k1 := cell_of_row _ _ 1 _ _ (0, 0) hQ2
  simp only [List.getElem?_toArray, List.getElem?_cons_zero, List.getElem?_cons_succ] at k0 k1
  rw [hW] at k0 k1
  have hwl : W.heap.size = w.heap.size + 2 := by rw [hW]; simp [hVs]
  have hbb : Below w.heap.size w W := hbV.trans (hbW.mono hbV.size)
  have HU := Lib.hid (And.intro hl (hu.below hbb))
  have HS := Lib.hid hs
  have HQ := Lib.hid (And.intro hQ2 (And.intro hVs (And.intro hR hbb)))
  have HV0 := Lib.hid hbV
  clear ha hu hl hs hbV hQ hbW hR hQ2 hwl hbb hVs
  go_enter Tryz.func119, Tryz.ntmps119
  go_upto_region 1 with fail
  rw [← hV]
  clear hV
  go_wp2_with (with_reducible refine wp_copy rfl (.tmp 8) (.tmp 10) 126 23 rfl Tryz.underlying126 _ _ _ _ _ _ rfl rfl V.heap.size 0 (Nl.zeros n) ((Nl.limbs a.natAbs).take n) (row_new V _) ?_ ?_ ?_ V.heap.size V ?_ ?_ ?_)
  · rw [List.length_take, ← HU.out.1]; exact Nat.min_comm ..
  · intro h0
    try rw [List.length_take] at h0
    obtain ⟨b, f, rfl, -, hc⟩ := HU.out.2.cells (by omega)
    refine ⟨b, f, rfl, fun i hi => ?_⟩
    rw [List.length_take] at hi
    rw [← hW, hc i (by omega), List.getD_eq_getElem?_getD, List.getD_eq_getElem?_getD, List.getElem?_take, if_pos (by omega)]
  · rw [Nl.zeros_length, List.length_take]; omega
  · exact (Below.refl _ _).alloc (Nat.le_refl _) _
  · exact Nat.le_refl _
  intro w1 hr1 hb1
  rw [splice_zeros] at hr1
  obtain ⟨Z, hZ⟩ : ∃ Z, Z = (Nl.limbs a.natAbs).take n ++ Nl.zeros (n - ((Nl.limbs a.natAbs).take n).length) := ⟨_, rfl⟩
  rw [← hZ] at hr1
  have hZl : Z.length = n := by rw [hZ, List.length_append, Nl.zeros_length, List.length_take]; omega
  have hZs : Nl.Small Z := by rw [hZ]; exact Nl.small_pad ((Nl.limbs_small _).take n) _
  have hZv : Nl.val Z = a.natAbs % 4294967296 ^ n := by rw [hZ, Nl.val_pad, val_take_limbs]
  have hQ1 := (hb1.block w.heap.size (by rw [HQ.out.2.1]; exact Nat.lt_succ_self _)).trans (show V.heap[w.heap.size]? = some (.cells #[.bool s, .slice p l c] 78 (0, 0)) from (by
    have h3 := HQ.out.1
    rw [hW] at h3
    exact (Below.heap_alloc V _ _ (by rw [HQ.out.2.1]; exact Nat.lt_succ_self _)).symm.trans h3))
  have hbV : Below w.heap.size w w1 := HV0.out.trans (hb1.mono HV0.out.size)
  have HZ := Lib.hid (And.intro hr1.out (And.intro hZl (And.intro hZs (And.intro hZv hbV))))
  clear hr1 hZl hZs hZv hZ hmk k0 k1 hW hbV hb1
  have k0 := cell_of_row _ _ 0 _ _ (0, 0) hQ1
  clear hQ1
  have hg : w.heap.size ≤ V.heap.size := HV0.out.size
  cases s with
  | false =>
    go_wp2_with fail
    go_ret
    refine ⟨_, Z, rfl, hg, HZ.out.1, HZ.out.2.1, HZ.out.2.2.1, ?_, HZ.out.2.2.2.2⟩
    rw [HZ.out.2.2.2.1, show a = (a.natAbs : Int) by have := HS.out; rw [negB] at this; have := of_decide_eq_false this.symm; omega, Nl.low_pos _ _ (Nl.pow_pos n)]; rfl
  | true =>
    go_wp2_with fail
    refine (negate_any V.heap.size n n Z w1 HZ.out.2.1 HZ.out.1 HZ.out.2.2.1 (Nat.le_refl _) (by omega)).mono ?_
    rintro e w2 ⟨rfl, Y, hr1, ho1, hl1, hs1, hv1⟩
    have H1 := Lib.hid (And.intro hr1 (And.intro ho1 (And.intro hl1 (And.intro hs1 hv1))))
    clear hr1 ho1 hl1 hs1 hv1
    go_wp2_with fail
    go_ret
    refine ⟨_, Y, rfl, hg, H1.out.1, H1.out.2.2.1, H1.out.2.2.2.1, ?_, below_of_only HZ.out.2.2.2.2 H1.out.2.1 hg HZ.out.2.2.2.2.size⟩
    rw [H1.out.2.2.2.2, HZ.out.2.2.2.1, show a = -(a.natAbs : Int) by have := HS.out; rw [negB] at this; have := of_decide_eq_true this.symm; omega, Nl.low_neg _ _ (Nl.pow_pos n)]
    simp
end Go.Proofs.YtkbghamkalidcaaGreat

namespace Go.Proofs.YtkbghamkalidcaaGreat
open Go.RowKit

set_option maxHeartbeats 2000000 in
theorem pair_and (ga gb n k x y : Nat) (w : World) (hk : k < n) (ca : w.cell? ⟨ga, k, none⟩ = some (.int .u32 (x : Int))) (cb : w.cell? ⟨gb, k, none⟩ = some (.int .u32 (y : Int))) (la : ga < w.heap.size) (lb : gb < w.heap.size) (hx : x < 4294967296) (hy : y < 4294967296) (_hn : n ≤ 1000000) :
    Calls Tryz.prog 121 #[.agg #[.slice (some ⟨ga, 0, none⟩) n n, .slice (some ⟨gb, 0, none⟩) n n], .int .i64 k] w fun e w' => e = .returned (.int .u32 ((Nl.bop 1 x y : Nat) : Int)) ∧ Below w.heap.size w w' := by
  obtain ⟨W, hW⟩ : ∃ W, W = w.alloc (.cells #[.slice (some ⟨ga, 0, none⟩) n n, .slice (some ⟨gb, 0, none⟩) n n] 129) := ⟨_, rfl⟩
  have hb : Below w.heap.size w W := by rw [hW]; exact below_one w _
  have hP : W.heap[w.heap.size]? = some (.cells #[.slice (some ⟨ga, 0, none⟩) n n, .slice (some ⟨gb, 0, none⟩) n n] 129 (0, 0)) := by rw [hW]; exact heap_alloc_new _ _
  have k0 := cell_of_row _ _ 0 _ _ (0, 0) hP
  have k1 := cell_of_row _ _ 1 _ _ (0, 0) hP
  simp only [List.getElem?_toArray, List.getElem?_cons_zero, List.getElem?_cons_succ] at k0 k1
  have c1 := (hb.cell (p := ⟨ga, k, none⟩) la).trans ca
  have c2 := (hb.cell (p := ⟨gb, k, none⟩) lb).trans cb
  have HB := Lib.hid hb
  have HXY := Lib.hid (And.intro hx hy)
  have b1 : (0 : Int) ≤ (k : Int) := by omega
  have b2 : (k : Int) < (n : Int) := by omega
  have hval : bits .and .u32 (x : Int) (y : Int) = ((Nl.bop 1 x y : Nat) : Int) := by rw [u32_and_nat x y hx hy]; rfl
  have HV := Lib.hid hval
  clear hb hP ca cb la lb hx hy hval
  go_enter Tryz.func121, Tryz.ntmps121
  go_upto_region 1 with fail
  rw [← hW]
  clear hW
  go_quiet (fail)
  go_wp2_with fail
  go_ret
  exact ⟨by rw [HV.out]; rfl, HB.out.trans ((below_drewN W nq W.heap.size).mono HB.out.size)⟩
set_option maxHeartbeats 2000000 in
theorem pair_or (ga gb n k x y : Nat) (w : World) (hk : k < n) (ca : w.cell? ⟨ga, k, none⟩ = some (.int .u32 (x : Int))) (cb : w.cell? ⟨gb, k, none⟩ = some (.int .u32 (y : Int))) (la : ga < w.heap.size) (lb : gb < w.heap.size) (hx : x < 4294967296) (hy : y < 4294967296) (_hn : n ≤ 1000000) :
    Calls Tryz.prog 122 #[.agg #[.slice (some ⟨ga, 0, none⟩) n n, .slice (some ⟨gb, 0, none⟩) n n], .int .i64 k] w fun e w' => e = .returned (.int .u32 ((Nl.bop 2 x y : Nat) : Int)) ∧ Below w.heap.size w w' := by
  obtain ⟨W, hW⟩ : ∃ W, W = w.alloc (.cells #[.slice (some ⟨ga, 0, none⟩) n n, .slice (some ⟨gb, 0, none⟩) n n] 129) := ⟨_, rfl⟩
  have hb : Below w.heap.size w W := by rw [hW]; exact below_one w _
  have hP : W.heap[w.heap.size]? = some (.cells #[.slice (some ⟨ga, 0, none⟩) n n, .slice (some ⟨gb, 0, none⟩) n n] 129 (0, 0)) := by rw [hW]; exact heap_alloc_new _ _
  have k0 := cell_of_row _ _ 0 _ _ (0, 0) hP
  have k1 := cell_of_row _ _ 1 _ _ (0, 0) hP
  simp only [List.getElem?_toArray, List.getElem?_cons_zero, List.getElem?_cons_succ] at k0 k1
  have c1 := (hb.cell (p := ⟨ga, k, none⟩) la).trans ca
  have c2 := (hb.cell (p := ⟨gb, k, none⟩) lb).trans cb
  have HB := Lib.hid hb
  have HXY := Lib.hid (And.intro hx hy)
  have b1 : (0 : Int) ≤ (k : Int) := by omega
  have b2 : (k : Int) < (n : Int) := by omega
  have hval : bits .or .u32 (x : Int) (y : Int) = ((Nl.bop 2 x y : Nat) : Int) := by rw [u32_or_nat x y hx hy]; rfl
  have HV := Lib.hid hval
  clear hb hP ca cb la lb hx hy hval
  go_enter Tryz.func122, Tryz.ntmps122
  go_upto_region 1 with fail
  rw [← hW]
  clear hW
  go_quiet (fail)
  go_wp2_with fail
  go_ret
  exact ⟨by rw [HV.out]; rfl, HB.out.trans ((below_drewN W nq W.heap.size).mono HB.out.size)⟩
set_option maxHeartbeats 2000000 in
theorem pair_xor (ga gb n k x y : Nat) (w : World) (hk : k < n) (ca : w.cell? ⟨ga, k, none⟩ = some (.int .u32 (x : Int))) (cb : w.cell? ⟨gb, k, none⟩ = some (.int .u32 (y : Int))) (la : ga < w.heap.size) (lb : gb < w.heap.size) (hx : x < 4294967296) (hy : y < 4294967296) (_hn : n ≤ 1000000) :
    Calls Tryz.prog 123 #[.agg #[.slice (some ⟨ga, 0, none⟩) n n, .slice (some ⟨gb, 0, none⟩) n n], .int .i64 k] w fun e w' => e = .returned (.int .u32 ((Nl.bop 3 x y : Nat) : Int)) ∧ Below w.heap.size w w' := by
  obtain ⟨W, hW⟩ : ∃ W, W = w.alloc (.cells #[.slice (some ⟨ga, 0, none⟩) n n, .slice (some ⟨gb, 0, none⟩) n n] 129) := ⟨_, rfl⟩
  have hb : Below w.heap.size w W := by rw [hW]; exact below_one w _
  have hP : W.heap[w.heap.size]? = some (.cells #[.slice (some ⟨ga, 0, none⟩) n n, .slice (some ⟨gb, 0, none⟩) n n] 129 (0, 0)) := by rw [hW]; exact heap_alloc_new _ _
  have k0 := cell_of_row _ _ 0 _ _ (0, 0) hP
  have k1 := cell_of_row _ _ 1 _ _ (0, 0) hP
  simp only [List.getElem?_toArray, List.getElem?_cons_zero, List.getElem?_cons_succ] at k0 k1
  have c1 := (hb.cell (p := ⟨ga, k, none⟩) la).trans ca
  have c2 := (hb.cell (p := ⟨gb, k, none⟩) lb).trans cb
  have HB := Lib.hid hb
  have HXY := Lib.hid (And.intro hx hy)
  have b1 : (0 : Int) ≤ (k : Int) := by omega
  have b2 : (k : Int) < (n : Int) := by omega
  have hval : bits .xor .u32 (x : Int) (y : Int) = ((Nl.bop 3 x y : Nat) : Int) := by rw [u32_xor_nat x y hx hy]; rfl
  have HV := Lib.hid hval
  clear hb hP ca cb la lb hx hy hval
  go_enter Tryz.func123, Tryz.ntmps123
  go_upto_region 1 with fail
  rw [← hW]
  clear hW
  go_quiet (fail)
  go_wp2_with fail
  go_ret
  exact ⟨by rw [HV.out]; rfl, HB.out.trans ((below_drewN W nq W.heap.size).mono HB.out.size)⟩
end Go.Proofs.YtkbghamkalidcaaGreat
