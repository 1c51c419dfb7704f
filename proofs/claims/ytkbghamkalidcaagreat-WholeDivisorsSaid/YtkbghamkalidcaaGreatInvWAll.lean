/-
  What inverse of package whole does. Conditions: those that each theorem names.
  What Inverse of package whole does. Written by wip/tool/geninv.py. Conditions: those that each theorem names.
-/
import Derived.Test.YtkbghamkalidcaaGreatCdNAll
import Derived.Test.YtkbghamkalidcaaGreatWholeOps
namespace Go.Proofs.YtkbghamkalidcaaGreat
open Go.RowKit

theorem cG_nonneg (a b : Int) : 0 ≤ cG a b := by
  unfold cG
  split
  · omega
  · unfold gG; omega
theorem cmp_one_yes {g : Int} (h : g = 1) : cmpI ((g.natAbs : Nat) : Int) ((1 : Nat) : Int) = 0 := by rw [h]; rfl
theorem cmp_one_no {g : Int} (h0 : 0 ≤ g) (h : g ≠ 1) : (cmpI ((g.natAbs : Nat) : Int) ((1 : Nat) : Int) == 0) = false := by
  rw [beq_eq_false_iff_ne]
  unfold cmpI
  split
  · decide
  · split <;> omega
theorem at_wordI (w : World) (g : Nat) (hg : w.heap[g]? = some (.cells #[.int .u32 1] 80 (0, 0))) : At w (.slice (some ⟨g, 0, none⟩) 1 1) (Nl.limbs 1) := by
  rw [limbs_one (by decide) (by decide)]
  exact .inr ⟨g, 0, 1, rfl, trivial, Nat.le_refl _, by omega, lt_of_block hg, fun i hi => by
    have : i = 0 := by simp at hi; omega
    subst this
    exact cell_of_row _ _ 0 _ _ (0, 0) hg⟩

set_option maxRecDepth 10000 in
set_option maxHeartbeats 4000000 in
theorem inverse_any (va vm : Value) (a m : Int) (w : World) (ha : IsI w va a) (hm : IsI w vm m) (la : (Nl.limbs a.natAbs).length ≤ 50) (lm : (Nl.limbs m.natAbs).length ≤ 50) :
    Calls Tryz.prog 82 #[va, vm] w fun e w' => Below w.heap.size w w' ∧ ((cG a m = 1 ∧ ∃ v, e = .returned v ∧ IsI w' v (cX a m)) ∨ (cG a m ≠ 1 ∧ e = fault 5)) := by
  obtain ⟨p0, c0, rfl, u0⟩ := AtI.form ha
  obtain ⟨p1, c1, rfl, u1⟩ := AtI.form hm
  obtain ⟨s0, hs0⟩ : ∃ s, s = negB a := ⟨_, rfl⟩
  obtain ⟨s1, hs1⟩ : ∃ s, s = negB m := ⟨_, rfl⟩
  obtain ⟨l0, hl0⟩ : ∃ l, l = (Nl.limbs a.natAbs).length := ⟨_, rfl⟩
  obtain ⟨l1, hl1⟩ : ∃ l, l = (Nl.limbs m.natAbs).length := ⟨_, rfl⟩
  rw [← hs0, ← hl0] at ha ⊢
  rw [← hs1, ← hl1] at hm ⊢
  obtain ⟨W, hW⟩ : ∃ W, W = ((w.alloc (.cells #[.bool s0, .slice p0 l0 c0] 78)).alloc (.cells #[.bool s1, .slice p1 l1 c1] 78)).alloc (.cells #[.bool false, .slice none 0 0] 78) := ⟨_, rfl⟩
  have hb : Below w.heap.size w W := by rw [hW]; exact three_new w _ _ _
  have B2 : W.heap[w.heap.size + 1 + 1]? = some (.cells #[.bool false, .slice none 0 0] 78 (0, 0)) := by rw [hW]; exact al_at _ _ (by simp)
  have HC := Lib.hid (common_any _ _ a m W (ha.below hb) (hm.below hb) la lm)
  have HB := Lib.hid (And.intro hb B2)
  obtain ⟨G, hG⟩ : ∃ G, G = cG a m := ⟨_, rfl⟩
  have hG0 : 0 ≤ G := by rw [hG]; exact cG_nonneg a m
  rw [← hG] at HC ⊢
  have hGl : (Nl.limbs G.natAbs).length ≤ 1024 := by
    rw [hG]
    unfold cG
    split
    · exact Nat.le_trans la (by decide)
    · unfold gG
      rw [Int.natAbs_natCast]
      exact Nat.le_trans (wee_rows a.natAbs m.natAbs la lm).1.1 (by decide)
  have HG := Lib.hid (And.intro hG0 hGl)
  clear ha hm u0 u1 hb B2 hs0 hs1 hl0 hl1 hG hG0 hGl la lm
  go_enter Tryz.func82, Tryz.ntmps82
  go_wp2_with fail
  rw [← hW]
  clear hW
  refine HC.out.mono ?_
  rintro e w1 ⟨⟨u, v, y, rfl, hu, hv, hy⟩, hb1⟩
  obtain ⟨pu, cu, rfl, hua⟩ := AtI.form hu
  obtain ⟨pv, cv, rfl, -⟩ := AtI.form hv
  obtain ⟨py, cy, rfl, -⟩ := AtI.form hy
  obtain ⟨su, hsu⟩ : ∃ s, s = negB G := ⟨_, rfl⟩
  obtain ⟨lu, hlu⟩ : ∃ l, l = (Nl.limbs G.natAbs).length := ⟨_, rfl⟩
  obtain ⟨sv, hsv⟩ : ∃ s, s = negB (cX a m) := ⟨_, rfl⟩
  obtain ⟨lv, hlv⟩ : ∃ l, l = (Nl.limbs (cX a m).natAbs).length := ⟨_, rfl⟩
  obtain ⟨sy, hsy⟩ : ∃ s, s = negB (cY a m) := ⟨_, rfl⟩
  obtain ⟨ly, hly⟩ : ∃ l, l = (Nl.limbs (cY a m).natAbs).length := ⟨_, rfl⟩
  rw [← hsu, ← hlu, ← hsv, ← hlv, ← hsy, ← hly]
  rw [← hlu] at hua
  rw [← hsv, ← hlv] at hv
  obtain ⟨Z, hZ⟩ : ∃ Z, Z = (((w1.alloc (.cells #[.bool su, .slice pu lu cu] 78)).alloc (.cells #[.bool sv, .slice pv lv cv] 78)).alloc (.cells #[.bool sy, .slice py ly cy] 78)).alloc (.cells #[.int .u32 1] 80) := ⟨_, rfl⟩
  have hz : Below w1.heap.size w1 Z := by rw [hZ]; exact (three_new w1 _ _ _).alloc (by simp <;> omega) _
  have Z1 : Z.heap[w1.heap.size + 1]? = some (.cells #[.bool sv, .slice pv lv cv] 78 (0, 0)) := by rw [hZ]; exact al_keep _ _ (by simp <;> omega) (al_keep _ _ (by simp <;> omega) (al_at _ _ (by simp)))
  have Z3 : Z.heap[w1.heap.size + 1 + 1 + 1]? = some (.cells #[.int .u32 1] 80 (0, 0)) := by rw [hZ]; exact al_at _ _ (by simp)
  have Z9 := (hz.block _ (Nat.lt_of_lt_of_le (lt_of_block HB.out.2) hb1.size)).trans ((hb1.block _ (lt_of_block HB.out.2)).trans HB.out.2)
  have hne : w.heap.size + 1 + 1 < w1.heap.size := Nat.lt_of_lt_of_le (lt_of_block HB.out.2) hb1.size
  have HP := Lib.hid (compareNats_any (.slice pu lu cu) _ G.natAbs 1 Z (hua.below hz) (at_wordI Z _ Z3) HG.out.2 (Nat.le_trans (Nl.limbs_lt (show 1 < 4294967296 ^ 1 by decide)) (by decide)))
  have HZ := Lib.hid (And.intro Z1 (And.intro Z9 (And.intro (hv.below hz) (HB.out.1.trans ((hb1.trans (hz.mono hb1.size)).mono HB.out.1.size)))))
  clear hu hv hy hua hb1 hsu hlu hsv hlv hsy hly Z1 Z3 Z9 hz HC HB
  by_cases h1 : G = 1
  · have hc := cmp_one_yes h1
    rw [hc] at HP
    have H1 := Lib.hid h1
    clear h1 hc
    go_wp2_with fail
    rw [← hZ]
    clear hZ
    refine HP.out.mono ?_
    rintro e w' ⟨rfl, j, rfl⟩
    have dj : Below Z.heap.size Z (Z.drewN j) := below_drewN Z j _
    have k1 : (Z.drewN j).heap[w1.heap.size + 1]? = some (.cells #[.bool sv, .slice pv lv cv] 78 (0, 0)) := HZ.out.1
    have k2 : (Z.drewN j).heap[w.heap.size + 1 + 1]? = some (.cells #[.bool false, .slice none 0 0] 78 (0, 0)) := HZ.out.2.1
    have c0 := cell_of_row _ _ 0 _ _ (0, 0) k1
    have c1' := cell_of_row _ _ 1 _ _ (0, 0) k1
    have d0 := cell_of_row _ _ 0 _ _ (0, 0) k2
    have d1 := cell_of_row _ _ 1 _ _ (0, 0) k2
    simp only [List.getElem?_toArray, List.getElem?_cons_zero, List.getElem?_cons_succ] at c0 c1' d0 d1
    have f0 := frozen_of_row _ _ 0 _ _ k2
    have f1 := frozen_of_row _ _ 1 _ _ k2
    have HK := Lib.hid (And.intro k2 (And.intro (HZ.out.2.2.1.below dj) (HZ.out.2.2.2.trans (dj.mono HZ.out.2.2.2.size))))
    clear k1 k2 dj HZ HP
    go_wp2_with (go_at_call 55; refine (must_yes _ _).mono ?_; rintro e w' ⟨rfl, rfl⟩)
    refine bodyPost_ret (v := .agg #[.bool sv, .slice pv lv cv]) (results_cell_row Tryz.results82 _ _ (w.heap.size + 1 + 1) 78 _ (0, 0) _ rfl (ibox_set (g := w.heap.size + 1 + 1) _ _ HK.out.1) Tryz.underlying78 rfl (by kernel_rfl)) rfl ?_
    refine ⟨below_ibox HK.out.2.2 (g := w.heap.size + 1 + 1) (by omega) _ _, .inl ⟨H1.out, _, rfl, ?_⟩⟩
    obtain ⟨t, e, ht⟩ := HK.out.2.1
    exact ⟨t, e, at_ibox (g := w.heap.size + 1 + 1) _ _ ht HK.out.1⟩
  · have hc := cmp_one_no HG.out.1 h1
    obtain ⟨c, hcc⟩ : ∃ c, c = cmpI ((G.natAbs : Nat) : Int) ((1 : Nat) : Int) := ⟨_, rfl⟩
    rw [← hcc] at hc HP
    have H1 := Lib.hid h1
    clear h1 hcc
    go_wp2_with fail
    rw [← hZ]
    clear hZ
    refine HP.out.mono ?_
    rintro e w' ⟨rfl, j, rfl⟩
    have dj : Below Z.heap.size Z (Z.drewN j) := below_drewN Z j _
    have HK := Lib.hid (HZ.out.2.2.2.trans (dj.mono HZ.out.2.2.2.size))
    clear dj HZ HP
    go_wp2_with (go_at_call 55; refine (must_no _ _).mono ?_; rintro e w' ⟨rfl, rfl⟩)
    first
      | exact ⟨HK.out, .inr ⟨H1.out, rfl⟩⟩
      | exact ⟨rfl, HK.out, .inr ⟨H1.out, rfl⟩⟩
end Go.Proofs.YtkbghamkalidcaaGreat

namespace Go.Proofs.YtkbghamkalidcaaGreat
open Go.RowKit

theorem isI_len {w : World} {s : Bool} {p : Option Addr} {l c : Nat} {n : Int} (h : IsI w (.agg #[.bool s, .slice p l c]) n) : s = negB n ∧ l = (Nl.limbs n.natAbs).length := by
  obtain ⟨q, d, e, -⟩ := AtI.form h
  simp only [Value.agg.injEq, Array.mk.injEq, List.cons.injEq, Value.bool.injEq, Value.slice.injEq, and_true] at e
  exact ⟨e.1, e.2.2.1⟩
/-- what a call gives: an integer, or an error; k: the work's own error -/
def ResV (w w' : World) (e : Ending) (ok : Bool) (k n : Int) : Prop := ∃ c, c = (if ok = true then codeI k n else 1) ∧ WOut w w' e c n
noncomputable def invK (a m : Int) : Int := if m = 0 then 8 else if m < 0 then 1 else if cG a m = 1 then 0 else 5
set_option maxHeartbeats 2000000 in
theorem Inverse_1_does (s0 : Bool) (p0 : Option Addr) (l0 c0 : Nat) (a : Int) (s1 : Bool) (p1 : Option Addr) (l1 c1 : Nat) (b : Int) (K : Nat) (w : World) (h0 : BoxI w K s0 p0 l0 c0) (g0 : IsI w (.agg #[.bool s0, .slice p0 l0 c0]) a) (la : (Nl.limbs a.natAbs).length ≤ 50) (h1 : BoxI w (K + 1) s1 p1 l1 c1) (g1 : IsI w (.agg #[.bool s1, .slice p1 l1 c1]) b) (lb : (Nl.limbs b.natAbs).length ≤ 50) :
    IntDoes 81 #[.pointer (some ⟨K + 1, 0, none⟩), .pointer (some ⟨K, 0, none⟩)] w (invK a b) (cX a b) := by
  intro W hW
  obtain ⟨V, hV⟩ : ∃ V, V = W.alloc (.cells #[.bool false, .slice none 0 0] 78) := ⟨_, rfl⟩
  have hbV : Below W.heap.size W V := by rw [hV]; exact below_one W _
  have hQ : V.heap[W.heap.size]? = some (.cells #[.bool false, .slice none 0 0] 78 (0, 0)) := by rw [hV]; exact heap_alloc_new _ _
  have bh0 := (hbV.block _ (Nat.lt_of_lt_of_le (lt_of_block h0) hW.size)).trans ((hW.block _ (lt_of_block h0)).trans h0)
  have kh00 := cell_of_row _ _ 0 _ _ (0, 0) bh0
  have kh01 := cell_of_row _ _ 1 _ _ (0, 0) bh0
  have bh1 := (hbV.block _ (Nat.lt_of_lt_of_le (lt_of_block h1) hW.size)).trans ((hW.block _ (lt_of_block h1)).trans h1)
  have kh10 := cell_of_row _ _ 0 _ _ (0, 0) bh1
  have kh11 := cell_of_row _ _ 1 _ _ (0, 0) bh1
  simp only [List.getElem?_toArray, List.getElem?_cons_zero, List.getElem?_cons_succ] at kh00 kh01 kh10 kh11
  have HV := Lib.hid (And.intro hbV hQ)
  have hi0 := (g0.below hW).below hbV
  have hi1 := (g1.below hW).below hbV
  rw [hV] at kh00 kh01 kh10 kh11
  have hn := isI_len g1
  clear h0 h1 g0 g1 bh0 bh1 hW hbV hQ
  by_cases hz : b = 0
  · have HK := Lib.hid (show invK a b = 8 from if_pos hz)
    have hl0 : l1 = 0 := by rw [hn.2, hz]; show (Nl.limbs 0).length = 0; rw [Nl.limbs_zero]; rfl
    subst hl0
    clear hn hz hi0 hi1
    go_enter Tryz.func81, Tryz.ntmps81
    go_wp2_with (go_at_call 55; refine (must_no _ _).mono ?_; rintro e w' ⟨rfl, rfl⟩)
    rw [← hV]
    first
      | exact ⟨rfl, HV.out.1, .inr ⟨by rw [HK.out]; decide, by rw [HK.out]⟩⟩
      | exact ⟨HV.out.1, .inr ⟨by rw [HK.out]; decide, by rw [HK.out]⟩⟩
  · have hl1 : 0 < l1 := by rw [hn.2]; exact Nl.len_pos (by omega)
    have e1 : decide (0 < l1) = true := decide_eq_true hl1
    have e1' : decide ((l1 : Int) > 0) = true := decide_eq_true (by omega)
    by_cases hs : b < 0
    · have HK := Lib.hid (show invK a b = 1 by rw [invK, if_neg hz, if_pos hs])
      have hs1 : s1 = true := by rw [hn.1, negB, decide_eq_true hs]
      subst hs1
      clear hn hz hs hi0 hi1
      go_enter Tryz.func81, Tryz.ntmps81
      go_wp2_with (first
        | (go_at_call_of 55 (Value.int IntKind.i64 8); refine (must_yes _ _).mono ?_; rintro e w' ⟨rfl, rfl⟩)
        | (go_at_call_of 55 (Value.int IntKind.i64 1); refine (must_no _ _).mono ?_; rintro e w' ⟨rfl, rfl⟩))
      rw [← hV]
      first
        | exact ⟨rfl, HV.out.1, .inr ⟨by rw [HK.out]; decide, by rw [HK.out]⟩⟩
        | exact ⟨HV.out.1, .inr ⟨by rw [HK.out]; decide, by rw [HK.out]⟩⟩
    · have hs1 : s1 = false := by rw [hn.1, negB, decide_eq_false hs]
      subst hs1
      have HC := Lib.hid (inverse_any _ _ a b V hi0 hi1 la lb)
      have HZS := Lib.hid (And.intro hz hs)
      clear hn hz hs hi0 hi1
      go_enter Tryz.func81, Tryz.ntmps81
      go_wp2_with (go_at_call 55; refine (must_yes _ _).mono ?_; rintro e w' ⟨rfl, rfl⟩)
      rw [← hV]
      clear hV
      refine HC.out.mono ?_
      rintro e w1 ⟨hb1, ⟨hg, v, rfl, hi⟩ | ⟨hg, rfl⟩⟩
      · have HK := Lib.hid (show invK a b = 0 by rw [invK, if_neg (by have h := HZS.out; omega), if_neg (by have h := HZS.out; omega), if_pos hg])
        obtain ⟨a', c', rfl, -⟩ := AtI.form hi
        obtain ⟨t, ht⟩ : ∃ t, t = negB (cX a b) := ⟨_, rfl⟩
        obtain ⟨l', hl'⟩ : ∃ l, l = (Nl.limbs (cX a b).natAbs).length := ⟨_, rfl⟩
        rw [← ht, ← hl'] at hi ⊢
        clear kh00 kh01 kh10 kh11 ht hl' hg
        have BQ := (hb1.block _ (lt_of_block HV.out.2)).trans HV.out.2
        have f0 := frozen_of_row _ _ 0 _ _ BQ
        have f1 := frozen_of_row _ _ 1 _ _ BQ
        have g0 := cell_of_row _ _ 0 _ _ (0, 0) BQ
        have g1 := cell_of_row _ _ 1 _ _ (0, 0) BQ
        have HH := Lib.hid (And.intro hi (And.intro hb1 BQ))
        clear hi hb1 BQ HC
        go_wp2_with fail
        refine bodyPost_ret (v := .agg #[.bool t, .slice a' l' c']) (results_cell_row Tryz.results81 _ _ W.heap.size 78 _ (0, 0) _ rfl (ibox_set _ _ HH.out.2.2) Tryz.underlying78 rfl (by kernel_rfl)) rfl ?_
        refine ⟨below_ibox (HV.out.1.trans (HH.out.2.1.mono HV.out.1.size)) (Nat.le_refl _) _ _, .inl ⟨HK.out, _, rfl, ?_⟩⟩
        obtain ⟨v5, e5, hv5⟩ := HH.out.1
        exact ⟨v5, e5, at_ibox _ _ hv5 HH.out.2.2⟩

      · have HK := Lib.hid (show invK a b = 5 by rw [invK, if_neg (by have h := HZS.out; omega), if_neg (by have h := HZS.out; omega), if_neg hg])
        have HB := Lib.hid (HV.out.1.trans (hb1.mono HV.out.1.size))
        clear hg hb1
        first
          | exact ⟨rfl, HB.out, .inr ⟨by rw [HK.out]; decide, by rw [HK.out]⟩⟩
          | exact ⟨HB.out, .inr ⟨by rw [HK.out]; decide, by rw [HK.out]⟩⟩
          | (go_wp2_with fail; exact ⟨HB.out, .inr ⟨by rw [HK.out]; decide, by rw [HK.out]⟩⟩)
          | (go_simp; exact ⟨HB.out, .inr ⟨by rw [HK.out]; decide, by rw [HK.out]⟩⟩)

set_option maxHeartbeats 2000000 in
theorem wholeInverse_any (v0 : Value) (s0 : Bool) (xs0 : List Nat) (v1 : Value) (s1 : Bool) (xs1 : List Nat) (w : World) (h0 : AtI w v0 s0 xs0) (m0 : Nl.Small xs0) (h1 : AtI w v1 s1 xs1) (m1 : Nl.Small xs1) (l50 : (Nl.limbs (sgn s0 (Nl.val xs0)).natAbs).length ≤ 50) (k50 : (Nl.limbs (sgn s1 (Nl.val xs1)).natAbs).length ≤ 50) :
    Calls Tryz.prog 32 #[v0, v1] w fun e w' => ResV w w' e (validI s0 xs0 && validI s1 xs1) (invK (sgn s0 (Nl.val xs0)) (sgn s1 (Nl.val xs1))) (cX (sgn s0 (Nl.val xs0)) (sgn s1 (Nl.val xs1))) := by
  have hmf : ∀ (fn : Fn) (first cap : Array Value) (w : World), (Instr.makeFunc fn first cap).run Tryz.prog w = .ok (.func fn first cap) w := fun _ _ _ _ => rfl
  obtain ⟨p0, c0, rfl, u0⟩ := h0.form
  obtain ⟨p1, c1, rfl, u1⟩ := h1.form
  obtain ⟨W, hW⟩ : ∃ W, W = ((((w.alloc (.cells #[.bool s0, .slice p0 xs0.length c0] 25)).alloc (.cells #[.bool s1, .slice p1 xs1.length c1] 25)).alloc (.cells #[.bool false, .slice none 0 0] 25)).alloc (.cells #[.bool s0, .slice p0 xs0.length c0, .bool s1, .slice p1 xs1.length c1] 25)) := ⟨_, rfl⟩
  have hb : Below w.heap.size w W := by rw [hW]; exact (((((Below.refl _ _).alloc (by simp <;> omega) _).alloc (by simp <;> omega) _).alloc (by simp <;> omega) _).alloc (by simp <;> omega) _)
  have hs : W.heap.size = w.heap.size + 4 := by rw [hW]; simp
  have B0 : W.heap[w.heap.size + 0]? = some (.cells #[.bool s0, .slice p0 xs0.length c0] 25 (0, 0)) := by rw [hW]; exact al_keep _ _ (by simp <;> omega) (al_keep _ _ (by simp <;> omega) (al_keep _ _ (by simp <;> omega) (al_at _ _ (by simp))))
  have B1 : W.heap[w.heap.size + 1]? = some (.cells #[.bool s1, .slice p1 xs1.length c1] 25 (0, 0)) := by rw [hW]; exact al_keep _ _ (by simp <;> omega) (al_keep _ _ (by simp <;> omega) (al_at _ _ (by simp)))
  have B2 : W.heap[w.heap.size + 2]? = some (.cells #[.bool false, .slice none 0 0] 25 (0, 0)) := by rw [hW]; exact al_keep _ _ (by simp <;> omega) (al_at _ _ (by simp))
  have B3 : W.heap[w.heap.size + 3]? = some (.cells #[.bool s0, .slice p0 xs0.length c0, .bool s1, .slice p1 xs1.length c1] 25 (0, 0)) := by rw [hW]; exact al_at _ _ (by simp)
  have HO := Lib.hid (ione_any 81 #[.pointer (some ⟨w.heap.size + 1, 0, none⟩), .pointer (some ⟨w.heap.size, 0, none⟩)] W (invK (sgn s0 (Nl.val xs0)) (sgn s1 (Nl.val xs1))) (cX (sgn s0 (Nl.val xs0)) (sgn s1 (Nl.val xs1))) (w.heap.size + 3) [(s0, .slice p0 xs0.length c0, xs0), (s1, .slice p1 xs1.length c1, xs1)] (givenI_two (w.heap.size + 3) B3 (u0.below hb) (u1.below hb)) (by omega) (by simp) (fun hall => by
    have o0 := isI_of_ok (u0.below hb) m0 (hall (s0, .slice p0 xs0.length c0, xs0) (by simp))
    have o1 := isI_of_ok (u1.below hb) m1 (hall (s1, .slice p1 xs1.length c1, xs1) (by simp))
    exact Inverse_1_does _ _ _ _ _ _ _ _ _ _ w.heap.size W B0 o0.1 l50 B1 o1.1 k50) (fun _ _ => by kernel_rfl))
  have HB := Lib.hid (And.intro hb (And.intro hs B2))
  clear h0 u0 m0 h1 u1 m1 hb hs B0 B1 B2 B3
  go_enter Tryz.func32, Tryz.ntmps32
  go_wp2_with fail
  rw [← hW]
  clear hW
  refine HO.out.mono ?_
  rintro e w1 ⟨c, hc, ⟨v, rfl, h2, h3⟩, hb1⟩
  have hform : ∃ t p l cp, v = .agg #[.bool t, .slice p l cp] := by
    by_cases h0 : c = 0
    · obtain ⟨pp, cc, rfl, -⟩ := (h2 h0).form
      exact ⟨_, _, _, _, rfl⟩
    · rw [h3 h0]; exact ⟨_, _, _, _, rfl⟩
  obtain ⟨t, p, l, cp, rfl⟩ := hform
  have BQ := (hb1.block _ (lt_of_block HB.out.2.2)).trans HB.out.2.2
  have f0 := frozen_of_row _ _ 0 _ _ BQ
  have f1 := frozen_of_row _ _ 1 _ _ BQ
  have g0 := cell_of_row _ _ 0 _ _ (0, 0) BQ
  have g1 := cell_of_row _ _ 1 _ _ (0, 0) BQ
  have HR := Lib.hid (And.intro hc (And.intro h2 (And.intro h3 (And.intro hb1 BQ))))
  clear hc h2 h3 hb1 BQ HO
  go_wp2_with fail
  refine bodyPost_ret (v := .tuple #[.agg #[.bool t, .slice p l cp], .int .i64 c]) (results_int1 Tryz.results32 _ _ (w.heap.size + 2) _ _ rfl rfl (load_int (ibox_set (g := w.heap.size + 2) _ _ HR.out.2.2.2.2))) rfl ?_
  refine ⟨c, ?_, ⟨_, rfl, fun h0 => ?_, HR.out.2.2.1⟩, below_ibox (HB.out.1.trans (HR.out.2.2.2.1.mono HB.out.1.size)) (g := w.heap.size + 2) (by omega) _ _⟩
  · rcases HR.out.1 with ⟨hall, h1⟩ | ⟨⟨q, hq, h5⟩, h1⟩
    · rw [h1, if_pos (by rw [Bool.and_eq_true]; exact ⟨hall (s0, .slice p0 xs0.length c0, xs0) (by simp), hall (s1, .slice p1 xs1.length c1, xs1) (by simp)⟩)]
    · rw [h1, if_neg]
      intro hok
      rw [Bool.and_eq_true] at hok; simp only [List.mem_cons, List.not_mem_nil, or_false] at hq; rcases hq with rfl | rfl; exact Bool.noConfusion (h5.symm.trans hok.1); exact Bool.noConfusion (h5.symm.trans hok.2)
  · obtain ⟨u, hu1, hu2⟩ := HR.out.2.1 h0
    simp only [Value.agg.injEq, Array.mk.injEq, List.cons.injEq, Value.bool.injEq, and_true] at hu1
    obtain ⟨rfl, rfl⟩ := hu1
    exact AtI.mk (at_ibox (g := w.heap.size + 2) _ _ hu2 HR.out.2.2.2.2)
end Go.Proofs.YtkbghamkalidcaaGreat
