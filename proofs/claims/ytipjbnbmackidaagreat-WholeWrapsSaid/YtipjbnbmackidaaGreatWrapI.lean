/-
  An integer cut to some bits. Conditions: those that each theorem names.
-/
import Derived.Test.YtipjbnbmackidaaGreatStripI
import Derived.Deep.Cut
namespace Go.Proofs.YtipjbnbmackidaaGreat
open Go.RowKit

theorem mask_word (x r : Nat) (hx : x < 4294967296) (hr : r < 32) : bits .and .u32 (x : Int) (IntKind.u32.wrap (IntKind.u32.wrap (2 ^ r) - 1)) = ((x % 2 ^ r : Nat) : Int) := by
  have h1 : (2 : Nat) ^ r ≤ 2 ^ 31 := Nat.pow_le_pow_right (by decide) (by omega)
  have h0 := Nat.two_pow_pos r
  have e1 : ((2 : Int) ^ r) = ((2 ^ r : Nat) : Int) := by rw [Int.natCast_pow]; rfl
  obtain ⟨P, hP⟩ : ∃ P, P = 2 ^ r := ⟨_, rfl⟩
  rw [e1, ← hP]
  rw [← hP] at h0 h1
  have e2 : IntKind.u32.wrap (IntKind.u32.wrap (P : Int) - 1) = ((P - 1 : Nat) : Int) := by rw [IntKind.wrap_u32, IntKind.wrap_u32]; omega
  rw [e2, u32_and_nat _ _ hx (by omega), hP, Nat.and_two_pow_sub_one_eq_mod]
theorem ones_word (x r : Nat) (_hx : x < 4294967296) (hr : r < 32) : bits .or .u32 ((x % 2 ^ r : Nat) : Int) (IntKind.u32.wrap (4294967295 * 2 ^ r)) = ((x % 2 ^ r + (4294967296 - 2 ^ r) : Nat) : Int) := by
  have h1 : (2 : Nat) ^ r ≤ 2 ^ 31 := Nat.pow_le_pow_right (by decide) (by omega)
  have h0 := Nat.two_pow_pos r
  have e1 : ((2 : Int) ^ r) = ((2 ^ r : Nat) : Int) := by rw [Int.natCast_pow]; rfl
  have hm := Nat.mod_lt x h0
  have h3 : 2 ^ r * 2 ^ (32 - r) = 4294967296 := by rw [← Nat.pow_add, show r + (32 - r) = 32 by omega]
  have e3 : 2 ^ r * (2 ^ (32 - r) - 1) + x % 2 ^ r = x % 2 ^ r ||| 2 ^ r * (2 ^ (32 - r) - 1) := by
    rw [Nat.or_comm, Nat.two_pow_add_eq_or_of_lt hm]
  have e4 : 2 ^ r * (2 ^ (32 - r) - 1) = 4294967296 - 2 ^ r := by rw [Nat.mul_sub, Nat.mul_one, h3]
  rw [e4] at e3
  have e2 : IntKind.u32.wrap (4294967295 * 2 ^ r) = ((4294967296 - 2 ^ r : Nat) : Int) := by
    rw [e1, IntKind.wrap_u32]
    obtain ⟨P, hP⟩ : ∃ P, P = 2 ^ r := ⟨_, rfl⟩
    rw [← hP] at h0 h1 ⊢
    have : (4294967295 * (P : Int)) = ((4294967296 - P : Nat) : Int) + 4294967296 * ((P : Int) - 1) := by omega
    rw [this, Int.add_mul_emod_self_left]; omega
  rw [e2, u32_or_nat _ _ (by omega) (by omega), ← e3, Nat.add_comm]
theorem bit_word (y r : Nat) (hy : y < 4294967296) (b : Nat) (h : y / 2 ^ r % 2 = b) : (bits BinOp.and IntKind.u32 ((y : Int) / 2 ^ r) 1 == 1) = decide (b = 1) := by
  have e1 : ((y : Int) / 2 ^ r) = ((y / 2 ^ r : Nat) : Int) := by rw [Int.natCast_ediv, Int.natCast_pow]; rfl
  have h2 := u32_and_nat (y / 2 ^ r) 1 (Nat.lt_of_le_of_lt (Nat.div_le_self _ _) hy) (by decide)
  rw [e1, show (1 : Int) = ((1 : Nat) : Int) from rfl, h2, show (y / 2 ^ r) &&& 1 = y / 2 ^ r % 2 from Nat.and_one_is_mod _, h]
  by_cases hb : b = 1
  · rw [decide_eq_true hb, hb]; rfl
  · rw [decide_eq_false hb, beq_eq_false_iff_ne]; omega
set_option maxRecDepth 4000 in
set_option maxHeartbeats 4000000 in
theorem wrapped_any (va : Value) (a : Int) (n : Nat) (sg : Bool) (w : World) (ha : IsI w va a) (h1 : 1 ≤ n) (h2 : n ≤ 4096) :
    Calls Tryz.prog 122 #[va, .int .i64 n, .bool sg] w fun e w' => (∃ s p l c, e = .returned (.agg #[.bool s, .slice p l c]) ∧ IsI w' (.agg #[.bool s, .slice p l c]) (Nl.wrapI a n sg)) ∧ Below w.heap.size w w' := by
  obtain ⟨p, c, rfl, hu⟩ := ha.form
  obtain ⟨l, hl⟩ : ∃ l, l = (Nl.limbs a.natAbs).length := ⟨_, rfl⟩
  rw [← hl] at ha hu ⊢
  obtain ⟨s, hs⟩ : ∃ s, s = negB a := ⟨_, rfl⟩
  rw [← hs] at ha ⊢
  obtain ⟨W, hW⟩ : ∃ W, W = (w.alloc (.cells #[.bool s, .slice p l c] 87)).alloc (.cells #[.bool false, .slice none 0 0] 87) := ⟨_, rfl⟩
  have hb : Below w.heap.size w W := by rw [hW]; exact two_new w _ _
  have hP : W.heap[w.heap.size]? = some (.cells #[.bool s, .slice p l c] 87 (0, 0)) := by rw [hW]; exact heap_alloc2_old w _ _
  have hQ : W.heap[w.heap.size + 1]? = some (.cells #[.bool false, .slice none 0 0] 87 (0, 0)) := by rw [hW]; exact heap_alloc2_new w _ _
  have c0 := cell_of_row _ _ 0 _ _ (0, 0) hP
  have c1 := cell_of_row _ _ 1 _ _ (0, 0) hP
  simp only [List.getElem?_toArray, List.getElem?_cons_zero, List.getElem?_cons_succ] at c0 c1
  obtain ⟨q, hq⟩ : ∃ q, q = n / 32 := ⟨_, rfl⟩
  obtain ⟨r, hr⟩ : ∃ r, r = n % 32 := ⟨_, rfl⟩
  obtain ⟨t, ht⟩ : ∃ t, t = n - 1 := ⟨_, rfl⟩
  obtain ⟨q', hq'⟩ : ∃ q', q' = t / 32 := ⟨_, rfl⟩
  obtain ⟨r', hr'⟩ : ∃ r', r' = t % 32 := ⟨_, rfl⟩
  have i1 : (n : Int) / 32 = (q : Int) := by omega
  have i2 : (n : Int) % 32 = (r : Int) := by omega
  have i3 : (n : Int) - 1 = (t : Int) := by omega
  have i4 : (t : Int) / 32 = (q' : Int) := by omega
  have i5 : (t : Int) % 32 = (r' : Int) := by omega
  have hr32 : r < 32 := by omega
  have hr32' : r' < 32 := by omega
  have hqq : q' ≤ q := by omega
  have hq3 : q ≤ 128 := by omega
  obtain ⟨m, hm⟩ : ∃ m, m = q + 1 := ⟨_, rfl⟩
  have i6 : (q : Int) + 1 = (m : Int) := by omega
  have hqm : q < m := by omega
  have hqm' : q' < m := by omega
  have hL := lowest_any _ a m W (ha.below hb) (by omega) (by omega)
  have HL := Lib.hid hL
  have HN := Lib.hid (show n = 32 * q + r ∧ t + 1 = n ∧ q' = t / 32 ∧ r' = t % 32 from ⟨by omega, by omega, hq', hr'⟩)
  have HB := Lib.hid (And.intro hb (And.intro hQ hm))
  clear ha hu hl hs hb hP hQ hL hq hr ht hq' hr' h1 hm
  rw [hW] at c0 c1
  go_enter Tryz.func122, Tryz.ntmps122
  go_wp2_with fail
  rw [← hW]
  clear hW c0 c1
  refine HL.out.mono ?_
  rintro e w1 ⟨g, xs, rfl, hg, hrow, hlen, hsm, hval, hb1⟩
  have HX := Lib.hid (And.intro hg (And.intro hrow (And.intro hlen (And.intro hsm (And.intro hval hb1)))))
  obtain ⟨x, hx⟩ : ∃ x, x = xs.getD q 0 := ⟨_, rfl⟩
  obtain ⟨y, hy⟩ : ∃ y, y = xs.getD q' 0 := ⟨_, rfl⟩
  have cx := hrow.cell (i := q) (by omega)
  have cy := hrow.cell (i := q') (by omega)
  have fx := hrow.free q
  rw [← hx] at cx
  rw [← hy] at cy
  have hx2 : x < 4294967296 := by rw [hx]; exact hsm.getD q
  have hy2 : y < 4294967296 := by rw [hy]; exact hsm.getD q'
  have HXY := Lib.hid (And.intro hx hy)
  clear hg hrow hlen hsm hval hb1 hx hy HL
  cases sg with
  | false =>
    go_wp2_with fail
    have HP := Lib.hid (show Row w1 g xs ∧ xs.length = q + 1 ∧ Nl.Small xs ∧ Below W.heap.size W w1 from ⟨HX.out.2.1, (show xs.length = q + 1 by rw [HX.out.2.2.1, HB.out.2.2]), HX.out.2.2.2.1, HX.out.2.2.2.2.2⟩)
    have b1 : (0 : Int) ≤ (q : Int) := by omega
    have b2 : (q : Int) < (m : Int) := by omega
    have b3 : (0 : Int) ≤ (r : Int) := by omega
    have b4 : (r : Int) < 32 := by omega
    have b5 : ¬ (r : Int) < 0 := by omega
    have b6 : IntKind.i64.wrap (q : Int) = (q : Int) := by rw [IntKind.wrap_i64]; omega
    have b8 : (n : Int).tmod 32 = (r : Int) := by rw [Int.tmod_eq_emod_of_nonneg (by omega)]; exact i2
    have b7 : IntKind.i64.wrap (r : Int) = (r : Int) := by rw [IntKind.wrap_i64]; omega
    clear i3 i4 i5 hqm' cy hr32' hqq i6
    go_region_with (fail)
    rw [mask_word x r hx2 hr32]
    obtain ⟨x1, hx1⟩ : ∃ y', y' = x % 2 ^ r := ⟨_, rfl⟩
    rw [← hx1]
    obtain ⟨w2, hw2⟩ : ∃ y', y' = (w1.setCell ⟨g, q, none⟩ (.int .u32 (x1 : Int))).drew := ⟨_, rfl⟩
    have H2 := Lib.hid (show Row w2 g (xs.set q x1) ∧ (xs.set q x1).length = q + 1 ∧ Nl.Small (xs.set q x1) ∧ Below W.heap.size W w2 ∧ x1 = x % 2 ^ r from ⟨by
      rw [hw2]; exact (HP.out.1.set q x1).below (below_drewN _ 1 (g + 1)) (Nat.lt_succ_self g), by rw [List.length_set]; exact HP.out.2.1, HP.out.2.2.1.set q (by rw [hx1]; exact Nat.lt_of_le_of_lt (Nat.mod_le _ _) hx2), by
      rw [hw2]; exact (HP.out.2.2.2.setCell (p := ⟨g, q, none⟩) HX.out.1 _).trans (below_drewN _ 1 _), hx1⟩)
    rw [← hw2]
    clear hw2 hx1
    clear b1 b2 b3 b4 b5 b6 b7 b8
    have hS := strip_integer g q (xs.set q x1) w2 H2.out.2.1 H2.out.1 H2.out.2.2.1 (by omega) w.heap.size w (HB.out.1.trans (H2.out.2.2.2.1.mono HB.out.1.size)) (Nat.le_trans HB.out.1.size HX.out.1) (Nat.le_trans HB.out.1.size H2.out.2.2.2.1.size)
    have hS2 := strip_integer g q (xs.set q x1) w2 H2.out.2.1 H2.out.1 H2.out.2.2.1 (by omega) W.heap.size W H2.out.2.2.2.1 HX.out.1 H2.out.2.2.2.1.size
    clear hS
    rw [← HB.out.2.2] at hS2
    have HS := Lib.hid hS2
    clear hS2 fx cx
    go_wp2_with fail
    refine HS.out.mono ?_
    rintro e w5 ⟨⟨s5, p5, l5, c5, rfl, hi5⟩, hb5⟩
    have BQ := (hb5.block _ (lt_of_block HB.out.2.1)).trans HB.out.2.1
    have f0 := frozen_of_row _ _ 0 _ _ BQ
    have f1 := frozen_of_row _ _ 1 _ _ BQ
    have g0 := cell_of_row _ _ 0 _ _ (0, 0) BQ
    have g1 := cell_of_row _ _ 1 _ _ (0, 0) BQ
    have H5 := Lib.hid (And.intro BQ (And.intro hi5 hb5))
    clear BQ hi5 hb5 HS
    go_wp2_with fail
    refine bodyPost_ret (v := .agg #[.bool s5, .slice p5 l5 c5]) (results_cell_row Tryz.results122 _ _ (w.heap.size + 1) 87 _ (0, 0) _ rfl (ibox_set (g := w.heap.size + 1) _ _ H5.out.1) Tryz.underlying87 rfl (by kernel_rfl)) rfl ?_
    refine ⟨⟨_, _, _, _, rfl, ?_⟩, below_ibox (HB.out.1.trans (H5.out.2.2.mono HB.out.1.size)) (g := w.heap.size + 1) (Nat.le_succ _) _ _⟩
    have hi := H5.out.2.1
    rw [HB.out.2.2] at hi
    rw [H2.out.2.2.2.2, HXY.out.1, Nl.wrap_cut HX.out.2.2.2.1 HP.out.2.1 hr32 (by rw [HX.out.2.2.2.2.1, HB.out.2.2]), Nl.wrap_plain (s := false) hr32 (fun h => absurd h.1 (by decide)), ← HN.out.1] at hi
    obtain ⟨v5, e5, hv5⟩ := hi
    exact ⟨v5, e5, at_ibox (g := w.heap.size + 1) _ _ hv5 H5.out.1⟩
  | true =>
    have htest := Nl.wrap_bit (a := a) (xs := xs) (k := q) (r := r) (n := t) HX.out.2.2.2.1 (by rw [HX.out.2.2.1, HB.out.2.2]) hr32 (by have := HN.out; omega) (by rw [HX.out.2.2.2.2.1, HB.out.2.2])
    rw [← HN.out.2.2.1, ← HN.out.2.2.2, ← HXY.out.2] at htest
    have HT := Lib.hid htest
    clear htest
    by_cases ho : y / 2 ^ r' % 2 = 1
    · have e3 := bit_word y r' hy2 1 (by rw [ho])
      have HO := Lib.hid (HT.out.1 ho)
      clear ho HT
      go_wp2_with fail
      have HP := Lib.hid (show Row w1 g xs ∧ xs.length = q + 1 ∧ Nl.Small xs ∧ Below W.heap.size W w1 from ⟨HX.out.2.1, (show xs.length = q + 1 by rw [HX.out.2.2.1, HB.out.2.2]), HX.out.2.2.2.1, HX.out.2.2.2.2.2⟩)
      have b1 : (0 : Int) ≤ (q : Int) := by omega
      have b2 : (q : Int) < (m : Int) := by omega
      have b3 : (0 : Int) ≤ (r : Int) := by omega
      have b4 : (r : Int) < 32 := by omega
      have b5 : ¬ (r : Int) < 0 := by omega
      have b6 : IntKind.i64.wrap (q : Int) = (q : Int) := by rw [IntKind.wrap_i64]; omega
      have b8 : (n : Int).tmod 32 = (r : Int) := by rw [Int.tmod_eq_emod_of_nonneg (by omega)]; exact i2
      have b7 : IntKind.i64.wrap (r : Int) = (r : Int) := by rw [IntKind.wrap_i64]; omega
      clear i3 i4 i5 hqm' cy hr32' hqq i6
      go_region_with (fail)
      rw [mask_word x r hx2 hr32]
      obtain ⟨x1, hx1⟩ : ∃ y', y' = x % 2 ^ r := ⟨_, rfl⟩
      rw [← hx1]
      obtain ⟨w2, hw2⟩ : ∃ y', y' = (w1.setCell ⟨g, q, none⟩ (.int .u32 (x1 : Int))).drew := ⟨_, rfl⟩
      have H2 := Lib.hid (show Row w2 g (xs.set q x1) ∧ (xs.set q x1).length = q + 1 ∧ Nl.Small (xs.set q x1) ∧ Below W.heap.size W w2 ∧ x1 = x % 2 ^ r from ⟨by
        rw [hw2]; exact (HP.out.1.set q x1).below (below_drewN _ 1 (g + 1)) (Nat.lt_succ_self g), by rw [List.length_set]; exact HP.out.2.1, HP.out.2.2.1.set q (by rw [hx1]; exact Nat.lt_of_le_of_lt (Nat.mod_le _ _) hx2), by
        rw [hw2]; exact (HP.out.2.2.2.setCell (p := ⟨g, q, none⟩) HX.out.1 _).trans (below_drewN _ 1 _), hx1⟩)
      rw [← hw2]
      clear hw2 hx1
      have cx := H2.out.1.cell (i := q) (by rw [H2.out.2.1]; exact Nat.lt_succ_self q)
      have fx := H2.out.1.free q
      rw [show (xs.set q x1).getD q 0 = x1 by rw [List.getD_eq_getElem?_getD, List.getElem?_set_self (by rw [HP.out.2.1]; exact Nat.lt_succ_self q)]; rfl] at cx
      go_wp2_with fail
      go_region_with (fail)
      rw [(by rw [H2.out.2.2.2.2]; exact ones_word x r hx2 hr32 : bits .or .u32 (x1 : Int) (IntKind.u32.wrap (4294967295 * 2 ^ r)) = ((x % 2 ^ r + (4294967296 - 2 ^ r) : Nat) : Int))]
      obtain ⟨x2, hx2⟩ : ∃ y', y' = x % 2 ^ r + (4294967296 - 2 ^ r) := ⟨_, rfl⟩
      rw [← hx2]
      obtain ⟨w3, hw3⟩ : ∃ y', y' = (w2.setCell ⟨g, q, none⟩ (.int .u32 (x2 : Int))).drew := ⟨_, rfl⟩
      have H3 := Lib.hid (show Row w3 g ((xs.set q x1).set q x2) ∧ ((xs.set q x1).set q x2).length = q + 1 ∧ Nl.Small ((xs.set q x1).set q x2) ∧ Below W.heap.size W w3 ∧ x2 = x % 2 ^ r + (4294967296 - 2 ^ r) from ⟨by
        rw [hw3]; exact (H2.out.1.set q x2).below (below_drewN _ 1 (g + 1)) (Nat.lt_succ_self g), by rw [List.length_set]; exact H2.out.2.1, H2.out.2.2.1.set q (by rw [hx2]; exact (by have h1 := Nat.mod_lt x (Nat.two_pow_pos r); have h2 : 2 ^ r ≤ 4294967296 := Nat.le_trans (Nat.pow_le_pow_right (by decide) (by omega : r ≤ 32)) (by decide); omega)), by
        rw [hw3]; exact (H2.out.2.2.2.1.setCell (p := ⟨g, q, none⟩) HX.out.1 _).trans (below_drewN _ 1 _), hx2⟩)
      rw [← hw3]
      clear hw3 hx2
      clear b1 b2 b3 b4 b5 b6 b7 b8
      have hS := strip_integer g q ((xs.set q x1).set q x2) w3 H3.out.2.1 H3.out.1 H3.out.2.2.1 (by omega) w.heap.size w (HB.out.1.trans (H3.out.2.2.2.1.mono HB.out.1.size)) (Nat.le_trans HB.out.1.size HX.out.1) (Nat.le_trans HB.out.1.size H3.out.2.2.2.1.size)
      have hS2 := strip_integer g q ((xs.set q x1).set q x2) w3 H3.out.2.1 H3.out.1 H3.out.2.2.1 (by omega) W.heap.size W H3.out.2.2.2.1 HX.out.1 H3.out.2.2.2.1.size
      clear hS
      rw [← HB.out.2.2] at hS2
      have HS := Lib.hid hS2
      clear hS2 fx cx
      go_wp2_with fail
      refine HS.out.mono ?_
      rintro e w5 ⟨⟨s5, p5, l5, c5, rfl, hi5⟩, hb5⟩
      have BQ := (hb5.block _ (lt_of_block HB.out.2.1)).trans HB.out.2.1
      have f0 := frozen_of_row _ _ 0 _ _ BQ
      have f1 := frozen_of_row _ _ 1 _ _ BQ
      have g0 := cell_of_row _ _ 0 _ _ (0, 0) BQ
      have g1 := cell_of_row _ _ 1 _ _ (0, 0) BQ
      have H5 := Lib.hid (And.intro BQ (And.intro hi5 hb5))
      clear BQ hi5 hb5 HS
      go_wp2_with fail
      refine bodyPost_ret (v := .agg #[.bool s5, .slice p5 l5 c5]) (results_cell_row Tryz.results122 _ _ (w.heap.size + 1) 87 _ (0, 0) _ rfl (ibox_set (g := w.heap.size + 1) _ _ H5.out.1) Tryz.underlying87 rfl (by kernel_rfl)) rfl ?_
      refine ⟨⟨_, _, _, _, rfl, ?_⟩, below_ibox (HB.out.1.trans (H5.out.2.2.mono HB.out.1.size)) (g := w.heap.size + 1) (Nat.le_succ _) _ _⟩
      have hi := H5.out.2.1
      rw [HB.out.2.2] at hi
      rw [H3.out.2.2.2.2, H2.out.2.2.2.2, List.set_set, HXY.out.1, Nl.wrap_ones HX.out.2.2.2.1 HP.out.2.1 hr32 (by rw [HX.out.2.2.2.2.1, HB.out.2.2]) ⟨rfl, HO.out⟩, ← HN.out.1] at hi
      obtain ⟨v5, e5, hv5⟩ := hi
      exact ⟨v5, e5, at_ibox (g := w.heap.size + 1) _ _ hv5 H5.out.1⟩
    · have e3 := bit_word y r' hy2 0 (by omega)
      have HO := Lib.hid (fun h => ho (HT.out.2 h))
      clear ho HT
      go_wp2_with fail
      have HP := Lib.hid (show Row w1 g xs ∧ xs.length = q + 1 ∧ Nl.Small xs ∧ Below W.heap.size W w1 from ⟨HX.out.2.1, (show xs.length = q + 1 by rw [HX.out.2.2.1, HB.out.2.2]), HX.out.2.2.2.1, HX.out.2.2.2.2.2⟩)
      have b1 : (0 : Int) ≤ (q : Int) := by omega
      have b2 : (q : Int) < (m : Int) := by omega
      have b3 : (0 : Int) ≤ (r : Int) := by omega
      have b4 : (r : Int) < 32 := by omega
      have b5 : ¬ (r : Int) < 0 := by omega
      have b6 : IntKind.i64.wrap (q : Int) = (q : Int) := by rw [IntKind.wrap_i64]; omega
      have b8 : (n : Int).tmod 32 = (r : Int) := by rw [Int.tmod_eq_emod_of_nonneg (by omega)]; exact i2
      have b7 : IntKind.i64.wrap (r : Int) = (r : Int) := by rw [IntKind.wrap_i64]; omega
      clear i3 i4 i5 hqm' cy hr32' hqq i6
      go_region_with (fail)
      rw [mask_word x r hx2 hr32]
      obtain ⟨x1, hx1⟩ : ∃ y', y' = x % 2 ^ r := ⟨_, rfl⟩
      rw [← hx1]
      obtain ⟨w2, hw2⟩ : ∃ y', y' = (w1.setCell ⟨g, q, none⟩ (.int .u32 (x1 : Int))).drew := ⟨_, rfl⟩
      have H2 := Lib.hid (show Row w2 g (xs.set q x1) ∧ (xs.set q x1).length = q + 1 ∧ Nl.Small (xs.set q x1) ∧ Below W.heap.size W w2 ∧ x1 = x % 2 ^ r from ⟨by
        rw [hw2]; exact (HP.out.1.set q x1).below (below_drewN _ 1 (g + 1)) (Nat.lt_succ_self g), by rw [List.length_set]; exact HP.out.2.1, HP.out.2.2.1.set q (by rw [hx1]; exact Nat.lt_of_le_of_lt (Nat.mod_le _ _) hx2), by
        rw [hw2]; exact (HP.out.2.2.2.setCell (p := ⟨g, q, none⟩) HX.out.1 _).trans (below_drewN _ 1 _), hx1⟩)
      rw [← hw2]
      clear hw2 hx1
      clear b1 b2 b3 b4 b5 b6 b7 b8
      have hS := strip_integer g q (xs.set q x1) w2 H2.out.2.1 H2.out.1 H2.out.2.2.1 (by omega) w.heap.size w (HB.out.1.trans (H2.out.2.2.2.1.mono HB.out.1.size)) (Nat.le_trans HB.out.1.size HX.out.1) (Nat.le_trans HB.out.1.size H2.out.2.2.2.1.size)
      have hS2 := strip_integer g q (xs.set q x1) w2 H2.out.2.1 H2.out.1 H2.out.2.2.1 (by omega) W.heap.size W H2.out.2.2.2.1 HX.out.1 H2.out.2.2.2.1.size
      clear hS
      rw [← HB.out.2.2] at hS2
      have HS := Lib.hid hS2
      clear hS2 fx cx
      go_wp2_with fail
      refine HS.out.mono ?_
      rintro e w5 ⟨⟨s5, p5, l5, c5, rfl, hi5⟩, hb5⟩
      have BQ := (hb5.block _ (lt_of_block HB.out.2.1)).trans HB.out.2.1
      have f0 := frozen_of_row _ _ 0 _ _ BQ
      have f1 := frozen_of_row _ _ 1 _ _ BQ
      have g0 := cell_of_row _ _ 0 _ _ (0, 0) BQ
      have g1 := cell_of_row _ _ 1 _ _ (0, 0) BQ
      have H5 := Lib.hid (And.intro BQ (And.intro hi5 hb5))
      clear BQ hi5 hb5 HS
      go_wp2_with fail
      refine bodyPost_ret (v := .agg #[.bool s5, .slice p5 l5 c5]) (results_cell_row Tryz.results122 _ _ (w.heap.size + 1) 87 _ (0, 0) _ rfl (ibox_set (g := w.heap.size + 1) _ _ H5.out.1) Tryz.underlying87 rfl (by kernel_rfl)) rfl ?_
      refine ⟨⟨_, _, _, _, rfl, ?_⟩, below_ibox (HB.out.1.trans (H5.out.2.2.mono HB.out.1.size)) (g := w.heap.size + 1) (Nat.le_succ _) _ _⟩
      have hi := H5.out.2.1
      rw [HB.out.2.2] at hi
      rw [H2.out.2.2.2.2, HXY.out.1, Nl.wrap_cut HX.out.2.2.2.1 HP.out.2.1 hr32 (by rw [HX.out.2.2.2.2.1, HB.out.2.2]), Nl.wrap_plain (s := true) hr32 (fun h => HO.out h.2), ← HN.out.1] at hi
      obtain ⟨v5, e5, hv5⟩ := hi
      exact ⟨v5, e5, at_ibox (g := w.heap.size + 1) _ _ hv5 H5.out.1⟩
end Go.Proofs.YtipjbnbmackidaaGreat
