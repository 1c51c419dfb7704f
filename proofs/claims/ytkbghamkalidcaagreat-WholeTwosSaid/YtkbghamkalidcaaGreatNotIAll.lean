/-
  What Shl does. Conditions: those that each theorem names.
  nat.Shl, once more, for texts that are shared with another claim. Conditions: those that each theorem names.
  An integer times a power of 2, where the result fits. Conditions: those that each theorem names.
  nat.Shr, once more, for texts that are shared with another claim. Conditions: those that each theorem names.
  Not of an integer. Conditions: those that each theorem names.
-/
import Derived.Test.YtkbghamkalidcaaGreatRefAll
import Derived.BigQuiet
import Derived.Deep.RegionWith
import Derived.Deep.Cut
import Derived.Deep.RegionHeld3
import Derived.Test.YtkbghamkalidcaaGreatIntSums
import Derived.Test.YtkbghamkalidcaaGreatLawSumsAll
namespace Go.Proofs.YtkbghamkalidcaaGreat
open Go.RowKit

/-- the error of a shift to the left -/
def shlK (m : Nat) (n : Int) : Int := if 0 ≤ n then (if m = 0 ∨ n.toNat + nbits m ≤ 32768 then 0 else 2) else 1

theorem shiftedLeft_zero (va : Value) (m : Nat) (hz : m = 0) (n : Int) (w : World) (ha : IsN w va m) :
    Calls Tryz.prog 172 #[va, .int .i64 n] w fun e w' => (∃ v, e = .returned v ∧ IsN w' v m) ∧ Below w.heap.size w w' := by
  subst hz
  have HA := Lib.hid ha
  rw [IsN, Nl.limbs_zero] at ha
  obtain ⟨a, ca, rfl, -⟩ := ha.form
  clear ha
  go_enter Tryz.func172, Tryz.ntmps172
  go_wp2_with fail
  go_ret
  exact ⟨⟨_, rfl, HA.out⟩, Below.refl _ _⟩

set_option maxHeartbeats 1000000 in
theorem shl1_does (va : Value) (m : Nat) (n : Int) (K : Nat) (w : World) (hK1 : w.cell? ⟨K, 0, none⟩ = some va) (hK2 : w.cell? ⟨K + 1, 0, none⟩ = some (.int .i64 n)) (hl : K + 1 < w.heap.size) (ha : IsN w va m)
    (hla : (Nl.limbs m).length ≤ 1024) (hn : -9223372036854775808 ≤ n) (hn2 : n ≤ 9223372036854775807) : NatDoes 170 #[.pointer (some ⟨K, 0, none⟩), .pointer (some ⟨K + 1, 0, none⟩)] w (shlK m n) (m * 2 ^ n.toNat) := by
  obtain ⟨k, hk⟩ : ∃ k : Int, k = shlK m n := ⟨_, rfl⟩
  rw [← hk]
  have HK := Lib.hid hk
  clear hk
  intro W hW
  have k1 := (hW.cell (p := ⟨K, 0, none⟩) (show K < w.heap.size by omega)).trans hK1
  have k2 := (hW.cell (p := ⟨K + 1, 0, none⟩) hl).trans hK2
  have ha' := ha.below hW
  have hbits : ∀ k, Calls Tryz.prog 171 #[va] (W.drewN k) fun e w' => e = .returned (.int .i64 (nbits m : Nat)) ∧ w' = W.drewN k := fun k => (bits_any va m _ (ha'.below (below_drewN ..)) (by omega)).mono fun _ _ h => ⟨h.1, h.2.symm⟩
  have HB := Lib.hid hbits
  clear hbits
  have h3 := nbits_len m
  obtain ⟨a, ca, rfl, -⟩ := ha'.form
  have HA := Lib.hid ha'
  clear hK1 hK2 ha hW ha' hl
  by_cases h0 : 0 ≤ n
  · have e0 : decide (0 ≤ n) = true := decide_eq_true h0
    have hk := HK.out
    rw [shlK, if_pos h0] at hk
    have HK' := Lib.hid hk
    clear hk HK
    obtain ⟨j, rfl⟩ : ∃ j : Nat, n = j := ⟨n.toNat, by omega⟩
    rw [Int.toNat_natCast] at HK' ⊢
    by_cases hz : m = 0
    · have hk := HK'.out
      rw [if_pos (.inl hz)] at hk
      have HK2 := Lib.hid hk
      have e1 : (((Nl.limbs m).length : Int) == 0) = true := by rw [hz, Nl.limbs_zero]; rfl
      have HZ := Lib.hid hz
      clear hk hz HK' HB h3
      go_enter Tryz.func170, Tryz.ntmps170
      go_wp2_with (go_at_call_of 55 (Value.bool true); refine (must_yes _ _).mono ?_; rintro e w' ⟨rfl, rfl⟩)
      go_quiet ((go_at_call 55; exact Calls.quiet_of_same ((must_yes _ _).mono fun _ _ h => ⟨h.1, h.2.symm⟩)))
      go_wp2_with fail
      refine (shiftedLeft_zero _ m HZ.out j _ (HA.out.below (below_drewN ..))).mono ?_
      rintro e w2 ⟨⟨v, rfl, hv⟩, hb2⟩
      have HV := Lib.hid hv
      have HB2 := Lib.hid ((below_drewN W nq W.heap.size).trans hb2)
      clear hv hb2 e0 k1 k2
      go_wp2_with fail
      go_ret
      exact ⟨HB2.out, .inl ⟨HK2.out, v, rfl, by rw [show m * 2 ^ j = m by rw [HZ.out, Nat.zero_mul]]; exact HV.out⟩⟩
    · have e1 : (((Nl.limbs m).length : Int) == 0) = false := by have := Nl.len_pos hz; rw [beq_eq_false_iff_ne]; omega
      obtain ⟨b, hb⟩ : ∃ b, b = nbits m := ⟨_, rfl⟩
      have HBB := HB.out
      rw [← hb] at HBB h3
      have hk := HK'.out
      rw [← hb] at hk
      have HB' := Lib.hid HBB
      clear HBB HB hb
      by_cases hf : j + b ≤ 32768
      · have e2 : decide ((j : Int) ≤ 32768 - (b : Int)) = true := by rw [decide_eq_true_eq]; omega
        rw [if_pos (.inr hf)] at hk
        have HK2 := Lib.hid hk
        clear hk
        go_enter Tryz.func170, Tryz.ntmps170
        go_wp2_with (go_at_call_of 55 (Value.bool true); refine (must_yes _ _).mono ?_; rintro e w' ⟨rfl, rfl⟩)
        go_quiet ((first
          | (go_at_call 171; exact Calls.quiet_of_same (HB'.out _))
          | (go_at_call 55; exact Calls.quiet_of_same ((must_yes _ _).mono fun _ _ h => ⟨h.1, h.2.symm⟩))))
        go_wp2_with fail
        refine (shiftedLeft_any _ m j _ (HA.out.below (below_drewN ..)) (by omega) (by omega)).mono ?_
        rintro e w2 ⟨⟨v, rfl, hv⟩, hb2⟩
        have HV := Lib.hid hv
        have HB2 := Lib.hid ((below_drewN W nq W.heap.size).trans hb2)
        clear hv hb2 e0 k1 k2
        go_wp2_with fail
        go_ret
        exact ⟨HB2.out, .inl ⟨HK2.out, v, rfl, HV.out⟩⟩
      · have hw : IntKind.i64.wrap (32768 - (b : Int)) = 32768 - b := by rw [IntKind.wrap_i64]; omega
        have e2 : decide ((j : Int) ≤ 32768 - (b : Int)) = false := by rw [decide_eq_false_iff_not]; omega
        rw [if_neg (fun h => by rcases h with h | h; exact hz h; exact hf h)] at hk
        have HK2 := Lib.hid hk
        clear hk
        go_enter Tryz.func170, Tryz.ntmps170
        go_wp2_with (go_at_call_of 55 (Value.bool true); refine (must_yes _ _).mono ?_; rintro e w' ⟨rfl, rfl⟩)
        go_region_with (first
          | (go_at_call 171; refine (HB'.out 1).mono ?_; rintro e w' ⟨rfl, rfl⟩)
          | (go_at_call 55; refine (must_no _ _).mono ?_; rintro e w' ⟨rfl, rfl⟩; refine (fun (_ : wpAny Tryz.prog .any #[] (fun _ _ _ => True) 0 #[] { tmps := #[], defers := [] } W) => ⟨rfl, below_drewN W 1 _, .inr ⟨by rw [HK2.out]; decide, by rw [HK2.out]⟩⟩) ?_))
        all_goals trivial
  · have e0 : decide (0 ≤ n) = false := decide_eq_false h0
    have hk := HK.out
    rw [shlK, if_neg h0] at hk
    have HK' := Lib.hid hk
    clear hk HK
    go_enter Tryz.func170, Tryz.ntmps170
    go_wp2_with (go_at_call 55; refine (must_no _ _).mono ?_; rintro e w' ⟨rfl, rfl⟩)
    exact ⟨rfl, Below.refl _ _, .inr ⟨by rw [HK'.out]; decide, by rw [HK'.out]⟩⟩

end Go.Proofs.YtkbghamkalidcaaGreat

namespace Go.Proofs.YtkbghamkalidcaaGreat
open Go.RowKit

/-- what a call on one number gives: a number, or an error -/
def Res1X (w w' : World) (e : Ending) (xs : List Nat) (k : Int) (m : Nat) : Prop :=
  ∃ c, ((validB xs = true ∧ c = codeOf k m) ∨ (validB xs = false ∧ c = 1)) ∧ NatOut w w' e c m
theorem given_oneX {w : World} {B : Nat} {va : Value} {xs : List Nat} (h1 : w.cell? ⟨B, 0, none⟩ = some va) (ha : At w va xs) : Given w B [(va, xs)] := by
  intro i hi
  have : i = 0 := by simp at hi; omega
  subst this
  exact ⟨h1, ha⟩

theorem one_oneX (G : FuncId) (caps : Array Value) (w W : World) (k : Int) (m B : Nat) (va : Value) (xs : List Nat) (hb0 : Below w.heap.size w W) (hBl : B < W.heap.size)
    (h1 : W.cell? ⟨B, 0, none⟩ = some va) (ha : At w va xs)
    (h : validB xs = true → NatDoes G caps W k m) (hF : ∀ args w, (callFunc G args).run Tryz.prog w = .ok (.enter G args) w) :
    Calls Tryz.prog 169 #[.func (.func G) #[] caps, .slice (some ⟨B, 0, none⟩) 1 1] W fun e w' => Res1X w w' e xs k m := by
  refine (one_any G caps W k m (some ⟨B, 0, none⟩) B [(va, xs)] (by simp) (fun _ => ⟨rfl, hBl⟩) (given_oneX h1 (ha.below hb0)) (fun hv => h (hv _ (.head _))) hF).mono ?_
  rintro e w' ⟨c, hc, ho⟩
  refine ⟨c, ?_, ho.mono hb0⟩
  rcases hc with ⟨hv, rfl⟩ | ⟨⟨p, hp, hv⟩, rfl⟩
  · exact .inl ⟨hv _ (.head _), rfl⟩
  · refine .inr ⟨?_, rfl⟩
    simp at hp
    subst hp
    exact hv
theorem boxes3X (w : World) (va vb : Value) (t t' t'' : TypeId) (W : World) (hW : W = ((w.alloc (.cells #[va] t)).alloc (.cells #[vb] t')).alloc (.cells #[va] t'')) :
    Below w.heap.size w W ∧ W.heap.size = w.heap.size + 3 ∧ W.cell? ⟨w.heap.size, 0, none⟩ = some va ∧ W.cell? ⟨w.heap.size + 1, 0, none⟩ = some vb ∧
      W.cell? ⟨w.heap.size + 1 + 1, 0, none⟩ = some va := by
  have e1 : W.heap[w.heap.size]? = some (.cells #[va] t (0, 0)) := by
    rw [hW]; exact (Below.heap_alloc _ _ _ (by simp; omega)).trans (heap_alloc2_old w _ _)
  have e2 : W.heap[w.heap.size + 1]? = some (.cells #[vb] t' (0, 0)) := by
    rw [hW]; exact (Below.heap_alloc _ _ _ (by simp)).trans (heap_alloc2_new w _ _)
  have e3 : W.heap[w.heap.size + 1 + 1]? = some (.cells #[va] t'' (0, 0)) := by
    rw [hW]
    have := heap_alloc_new ((w.alloc (.cells #[va] t)).alloc (.cells #[vb] t')) (.cells #[va] t'')
    simpa using this
  refine ⟨?_, ?_, cell_of_one e1, cell_of_one e2, cell_of_one e3⟩
  · rw [hW]; exact (((Below.refl _ _).alloc (Nat.le_refl _) _).alloc (by simp) _).alloc (by simp; omega) _
  · rw [hW]; simp
set_option maxHeartbeats 1000000 in
theorem shlX_any (va : Value) (xs : List Nat) (n : Int) (w : World) (ha : At w va xs) (hsx : Nl.Small xs) (hn : -9223372036854775808 ≤ n) (hn2 : n ≤ 9223372036854775807) :
    Calls Tryz.prog 126 #[va, .int .i64 n] w fun e w' => Res1X w w' e xs (shlK (Nl.val xs) n) (Nl.val xs * 2 ^ n.toNat) := by
  have hmf : ∀ (fn : Fn) (first cap : Array Value) (w : World), (Instr.makeFunc fn first cap).run Tryz.prog w = .ok (.func fn first cap) w := fun _ _ _ _ => rfl
  have HA := Lib.hid ha
  obtain ⟨a, ca, rfl, -⟩ := ha.form
  clear ha
  go_enter Tryz.func126, Tryz.ntmps126
  go_wp2_with fail
  obtain ⟨W, hW⟩ : ∃ W, W = ((w.alloc (.cells #[.slice a xs.length ca] 23)).alloc (.cells #[.int .i64 n] 3)).alloc (.cells #[.slice a xs.length ca] 23) := ⟨_, rfl⟩
  rw [← hW]
  obtain ⟨hbl, hsz, c1, c2, c3⟩ := boxes3X w _ _ _ _ _ W hW
  clear hW
  refine (one_oneX _ _ w W (shlK (Nl.val xs) n) (Nl.val xs * 2 ^ n.toNat) (w.heap.size + 1 + 1) _ xs hbl (by omega) c3 HA.out (fun h1 => ?_) (fun _ _ => by kernel_rfl)).mono ?_
  · exact shl1_does _ _ n w.heap.size W c1 c2 (by omega) ((HA.out.num hsx h1).below hbl) (validB_eq hsx h1).2 hn hn2
  clear c1 c2 c3 hbl hsz
  rintro e w1 ⟨c, hc, ⟨v, rfl, h2, h3⟩, hb1⟩
  have HR := Lib.hid (And.intro hc (And.intro h2 (And.intro h3 hb1)))
  clear hc h2 h3 hb1
  go_wp2_with fail
  go_ret2
  exact ⟨c, HR.out.1, ⟨v, rfl, HR.out.2.1, HR.out.2.2.1⟩, HR.out.2.2.2⟩
end Go.Proofs.YtkbghamkalidcaaGreat

namespace Go.Proofs.YtkbghamkalidcaaGreat
open Go.RowKit

theorem Res1X.of {w w' : World} {e : Ending} {m r : Nat} {k : Int} (h : Res1X w w' e (Nl.limbs m) k r) (hm : (Nl.limbs m).length ≤ 1024) : NatOut w w' e (codeOf k r) r := by
  obtain ⟨c, ⟨_, rfl⟩ | ⟨h1, _⟩, ho⟩ := h
  · exact ho
  · rw [validB_limbs hm] at h1
    cases h1
theorem shl_yes (va : Value) (m n : Nat) (w : World) (ha : At w va (Nl.limbs m)) (hm : (Nl.limbs m).length ≤ 1024) (hn : n ≤ 9223372036854775807) (hf : m = 0 ∨ n + nbits m ≤ 32768) (hl : (Nl.limbs (m * 2 ^ n)).length ≤ 1024) :
    Calls Tryz.prog 126 #[va, .int .i64 n] w fun e w' => OneN w w' e (m * 2 ^ n) := by
  have h := shlX_any va _ (n : Int) w ha (Nl.limbs_small m) (by omega) (by omega)
  rw [Nl.val_limbs, Int.toNat_natCast] at h
  exact h.mono fun e w' h => natOut_yes (h.of hm) (by rw [shlK, if_pos (by omega), Int.toNat_natCast, if_pos hf, codeOf, if_neg (by decide), if_pos hl])
theorem shl_fitsK {m n K : Nat} (hf : n + nbits m ≤ 32 * K) : (Nl.limbs (m * 2 ^ n)).length ≤ K := by
  refine Nl.limbs_lt ?_
  rw [pow32]
  refine Nat.lt_of_lt_of_le (Nat.mul_lt_mul_of_pos_right (lt_nbits m) (Nat.two_pow_pos n)) ?_
  rw [← Nat.pow_add]
  exact Nat.pow_le_pow_right (by decide) (by omega)
theorem shl_fits {m n : Nat} (hf : n + nbits m ≤ 32768) : (Nl.limbs (m * 2 ^ n)).length ≤ 1024 := shl_fitsK (by omega)
theorem shl_sgn (a : Int) (n : Nat) : (a * ((2 ^ n : Nat) : Int)).natAbs = a.natAbs * 2 ^ n ∧ sgn (negB a) (a.natAbs * 2 ^ n) = a * ((2 ^ n : Nat) : Int) := by
  obtain ⟨h1, h2⟩ := prod_sgn a ((2 ^ n : Nat) : Int)
  rw [Int.natAbs_natCast] at h1 h2
  have h3 : negB ((2 ^ n : Nat) : Int) = false := by rw [negB]; exact decide_eq_false (Int.not_lt.mpr (Int.natCast_nonneg _))
  rw [h3] at h2
  refine ⟨h1, ?_⟩
  rw [← h2]; cases negB a <;> rfl
set_option maxHeartbeats 2000000 in
theorem shifted_fit (va : Value) (a : Int) (n : Nat) (w : World) (ha : IsI w va a) (la : fitI a) (hn : n ≤ 32768) (hf : n + nbits a.natAbs ≤ 32768) :
    Calls Tryz.prog 60 #[va, .int .i64 n] w fun e w' => (∃ s p l c, e = .returned (.agg #[.bool s, .slice p l c]) ∧ IsI w' (.agg #[.bool s, .slice p l c]) (a * ((2 ^ n : Nat) : Int))) ∧ Below w.heap.size w w' := by
  obtain ⟨p0, c0, rfl, hu⟩ := ha.form
  obtain ⟨l0, hl0⟩ : ∃ l0, l0 = (Nl.limbs a.natAbs).length := ⟨_, rfl⟩
  rw [← hl0] at hu ⊢
  obtain ⟨s0, hs0⟩ : ∃ s0, s0 = negB a := ⟨_, rfl⟩
  rw [← hs0]
  have hsg := (shl_sgn a n).2
  rw [← hs0] at hsg
  have HSG := Lib.hid hsg
  obtain ⟨W, hW⟩ : ∃ W, W = (w.alloc (.cells #[.bool s0, .slice p0 l0 c0] 78)).alloc (.cells #[.bool false, .slice none 0 0] 78) := ⟨_, rfl⟩
  have hb : Below w.heap.size w W := by rw [hW]; exact two_new w _ _
  have hP : W.heap[w.heap.size]? = some (.cells #[.bool s0, .slice p0 l0 c0] 78 (0, 0)) := by rw [hW]; exact heap_alloc2_old w _ _
  have hQ : W.heap[w.heap.size + 1]? = some (.cells #[.bool false, .slice none 0 0] 78 (0, 0)) := by rw [hW]; exact heap_alloc2_new w _ _
  have bW := hb.trans (below_drewN W 1 w.heap.size)
  have HOP := Lib.hid (shl_yes _ _ n W.drew (hu.below bW) la (by omega) (.inr hf) (shl_fits hf))
  have k00 := cell_of_row _ _ 0 _ _ (0, 0) hP
  have k01 := cell_of_row _ _ 1 _ _ (0, 0) hP
  simp only [List.getElem?_toArray, List.getElem?_cons_zero, List.getElem?_cons_succ] at k00 k01
  have hK0 : w.heap.size < W.heap.size := lt_of_block hP
  have hK1 : w.heap.size + 1 < W.heap.size := lt_of_block hQ
  have n1 : ¬ w.heap.size = w.heap.size + 1 := by omega
  have n2 : ¬ w.heap.size + 1 = w.heap.size := by omega
  have t0 : decide ((n : Int) ≥ 0) = true := decide_eq_true (by omega)
  have HB := Lib.hid (And.intro hb hQ)
  clear ha hu hb hP hQ bW hl0 hs0 hsg la hf
  go_enter Tryz.func60, Tryz.ntmps60
  go_upto_region 1 with fail
  rw [← hW]
  clear hW
  go_wp2_with fail
  go_region_held3 (fun w' => w'.cell? ⟨w.heap.size, 0, none⟩ = some (.bool s0) ∧ w'.cell? ⟨w.heap.size, 1, none⟩ = some (.slice p0 l0 c0))
    (first
      | go_keep
      | assumption)
    (first
      | (go_at_call 126; refine HOP.out.mono ?_; rintro e w2 ⟨⟨p2, n2, c2, rfl, hat2⟩, hb2⟩; have d00 := (hb2.cell (p := ⟨w.heap.size, 0, none⟩) hK0).trans k00; have d01 := (hb2.cell (p := ⟨w.heap.size, 1, none⟩) hK0).trans k01)
      | (go_at_call 125; refine (found_yes _ _ _ _).mono ?_; rintro e w3 ⟨rfl, rfl⟩)
      | (go_at_call 124; refine (signed_num _ _ _ _ hat2).mono ?_; rintro e w4 ⟨⟨t, rfl, ht⟩, hb4⟩; have e00 := (hb4.cell (p := ⟨w.heap.size, 0, none⟩) (Nat.lt_of_lt_of_le hK0 hb2.size)).trans d00; have e01 := (hb4.cell (p := ⟨w.heap.size, 1, none⟩) (Nat.lt_of_lt_of_le hK0 hb2.size)).trans d01; have BQ := (hb4.block (w.heap.size + 1) (Nat.lt_of_lt_of_le hK1 hb2.size)).trans ((hb2.block (w.heap.size + 1) hK1).trans HB.out.2); have f0 := frozen_of_row _ _ 0 _ _ BQ; have f1 := frozen_of_row _ _ 1 _ _ BQ; have g0 := cell_of_row _ _ 0 _ _ (0, 0) BQ; have g1 := cell_of_row _ _ 1 _ _ (0, 0) BQ; have HQ := Lib.hid (And.intro BQ (And.intro ht (And.intro hat2 (And.intro hb2 hb4)))); clear BQ ht))
  clear hb2 hb4 hat2
  go_wp2_with fail
  refine bodyPost_ret (v := .agg #[.bool t, .slice p2 n2 c2]) (results_cell_row Tryz.results60 _ _ (w.heap.size + 1) 78 _ (0, 0) _ rfl (ibox_set (g := w.heap.size + 1) _ _ HQ.out.1) Tryz.underlying78 rfl (by kernel_rfl)) rfl ?_
  refine ⟨⟨_, _, _, _, rfl, isI_mk (at_ibox (g := w.heap.size + 1) _ _ (HQ.out.2.2.1.below HQ.out.2.2.2.2) HQ.out.1) HQ.out.2.1 HSG.out⟩, below_ibox ((HB.out.1.trans (below_drewN W 1 w.heap.size)).trans ((HQ.out.2.2.2.1.trans (HQ.out.2.2.2.2.mono HQ.out.2.2.2.1.size)).mono HB.out.1.size)) (g := w.heap.size + 1) (Nat.le_succ _) _ _⟩
end Go.Proofs.YtkbghamkalidcaaGreat

namespace Go.Proofs.YtkbghamkalidcaaGreat
open Go.RowKit

/-- the error of a shift to the right -/
def shrKX (_m : Nat) (n : Int) : Int := if 0 ≤ n then 0 else 1
set_option maxHeartbeats 1000000 in
theorem shr1_doesX (va : Value) (m : Nat) (n : Int) (K : Nat) (w : World) (hK1 : w.cell? ⟨K, 0, none⟩ = some va) (hK2 : w.cell? ⟨K + 1, 0, none⟩ = some (.int .i64 n)) (hl : K + 1 < w.heap.size) (ha : IsN w va m)
    (hla : (Nl.limbs m).length ≤ 1024) (hn : -9223372036854775808 ≤ n) (hn2 : n ≤ 9223372036854775807) : NatDoes 173 #[.pointer (some ⟨K + 1, 0, none⟩), .pointer (some ⟨K, 0, none⟩)] w (shrKX m n) (m / 2 ^ n.toNat) := by
  obtain ⟨k, hk⟩ : ∃ k : Int, k = shrKX m n := ⟨_, rfl⟩
  rw [← hk]
  have HK := Lib.hid hk
  clear hk
  intro W hW
  have k1 := (hW.cell (p := ⟨K, 0, none⟩) (show K < w.heap.size by omega)).trans hK1
  have k2 := (hW.cell (p := ⟨K + 1, 0, none⟩) hl).trans hK2
  have ha' := ha.below hW
  obtain ⟨a, ca, rfl, -⟩ := ha'.form
  have HA := Lib.hid ha'
  clear hK1 hK2 ha hW ha' hl
  by_cases h0 : 0 ≤ n
  · have e0 : decide (0 ≤ n) = true := decide_eq_true h0
    have hk := HK.out
    rw [shrKX, if_pos h0] at hk
    have HK' := Lib.hid hk
    clear hk HK
    obtain ⟨j, rfl⟩ : ∃ j : Nat, n = j := ⟨n.toNat, by omega⟩
    rw [Int.toNat_natCast]
    go_enter Tryz.func173, Tryz.ntmps173
    go_wp2_with (go_at_call 55; refine (must_yes _ _).mono ?_; rintro e w' ⟨rfl, rfl⟩)
    refine (shiftedRight_any _ m j _ HA.out (by omega) (by omega)).mono ?_
    rintro e w2 ⟨⟨v, rfl, hv⟩, hb2⟩
    have HV := Lib.hid hv
    have HB2 := Lib.hid hb2
    clear hv hb2 e0 k1 k2
    go_wp2_with fail
    go_ret
    exact ⟨HB2.out, .inl ⟨HK'.out, v, rfl, HV.out⟩⟩
  · have e0 : decide (0 ≤ n) = false := decide_eq_false h0
    have hk := HK.out
    rw [shrKX, if_neg h0] at hk
    have HK' := Lib.hid hk
    clear hk HK
    go_enter Tryz.func173, Tryz.ntmps173
    go_wp2_with (go_at_call 55; refine (must_no _ _).mono ?_; rintro e w' ⟨rfl, rfl⟩)
    exact ⟨rfl, Below.refl _ _, .inr ⟨by rw [HK'.out]; decide, by rw [HK'.out]⟩⟩
set_option maxHeartbeats 1000000 in
theorem shrX_any (va : Value) (xs : List Nat) (n : Int) (w : World) (ha : At w va xs) (hsx : Nl.Small xs) (hn : -9223372036854775808 ≤ n) (hn2 : n ≤ 9223372036854775807) :
    Calls Tryz.prog 127 #[va, .int .i64 n] w fun e w' => Res1X w w' e xs (shrKX (Nl.val xs) n) (Nl.val xs / 2 ^ n.toNat) := by
  have hmf : ∀ (fn : Fn) (first cap : Array Value) (w : World), (Instr.makeFunc fn first cap).run Tryz.prog w = .ok (.func fn first cap) w := fun _ _ _ _ => rfl
  have HA := Lib.hid ha
  obtain ⟨a, ca, rfl, -⟩ := ha.form
  clear ha
  go_enter Tryz.func127, Tryz.ntmps127
  go_wp2_with fail
  obtain ⟨W, hW⟩ : ∃ W, W = ((w.alloc (.cells #[.slice a xs.length ca] 23)).alloc (.cells #[.int .i64 n] 3)).alloc (.cells #[.slice a xs.length ca] 23) := ⟨_, rfl⟩
  rw [← hW]
  obtain ⟨hbl, hsz, c1, c2, c3⟩ := boxes3X w _ _ _ _ _ W hW
  clear hW
  refine (one_oneX _ _ w W (shrKX (Nl.val xs) n) (Nl.val xs / 2 ^ n.toNat) (w.heap.size + 1 + 1) _ xs hbl (by omega) c3 HA.out (fun h1 => ?_) (fun _ _ => by kernel_rfl)).mono ?_
  · exact shr1_doesX _ _ n w.heap.size W c1 c2 (by omega) ((HA.out.num hsx h1).below hbl) (validB_eq hsx h1).2 hn hn2
  clear c1 c2 c3 hbl hsz
  rintro e w1 ⟨c, hc, ⟨v, rfl, h2, h3⟩, hb1⟩
  have HR := Lib.hid (And.intro hc (And.intro h2 (And.intro h3 hb1)))
  clear hc h2 h3 hb1
  go_wp2_with fail
  go_ret2
  exact ⟨c, HR.out.1, ⟨v, rfl, HR.out.2.1, HR.out.2.2.1⟩, HR.out.2.2.2⟩

end Go.Proofs.YtkbghamkalidcaaGreat

namespace Go.Proofs.YtkbghamkalidcaaGreat
open Go.RowKit

theorem fit_one : fitI 1 := by rw [fitI, show Nl.limbs (1 : Int).natAbs = [1] from limbs_one (by decide) (by decide)]; decide
set_option maxHeartbeats 2000000 in
theorem not_fit (va : Value) (a : Int) (w : World) (ha : IsI w va a) (la : fitI a) (hf : fitI (a + 1)) :
    Calls Tryz.prog 49 #[va] w fun e w' => (∃ s p l c, e = .returned (.agg #[.bool s, .slice p l c]) ∧ IsI w' (.agg #[.bool s, .slice p l c]) (-1 - a)) ∧ Below w.heap.size w w' := by
  obtain ⟨p0, c0, rfl, hu⟩ := ha.form
  obtain ⟨l0, hl0⟩ : ∃ l0, l0 = (Nl.limbs a.natAbs).length := ⟨_, rfl⟩
  rw [← hl0] at ha ⊢
  obtain ⟨s0, hs0⟩ : ∃ s0, s0 = negB a := ⟨_, rfl⟩
  rw [← hs0] at ha ⊢
  obtain ⟨W, hW⟩ : ∃ W, W = (w.alloc (.cells #[.bool s0, .slice p0 l0 c0] 78)).alloc (.cells #[.bool false, .slice none 0 0] 78) := ⟨_, rfl⟩
  have hb : Below w.heap.size w W := by rw [hW]; exact two_new w _ _
  have hP : W.heap[w.heap.size]? = some (.cells #[.bool s0, .slice p0 l0 c0] 78 (0, 0)) := by rw [hW]; exact heap_alloc2_old w _ _
  have hQ : W.heap[w.heap.size + 1]? = some (.cells #[.bool false, .slice none 0 0] 78 (0, 0)) := by rw [hW]; exact heap_alloc2_new w _ _
  have k00 := cell_of_row _ _ 0 _ _ (0, 0) hP
  have k01 := cell_of_row _ _ 1 _ _ (0, 0) hP
  simp only [List.getElem?_toArray, List.getElem?_cons_zero, List.getElem?_cons_succ] at k00 k01
  have hK0 : w.heap.size < W.heap.size := lt_of_block hP
  have hK1 : w.heap.size + 1 < W.heap.size := lt_of_block hQ
  have HB := Lib.hid (And.intro hb hQ)
  have HA := Lib.hid (ha.below hb)
  have HF := Lib.hid (And.intro la hf)
  have z0 : ∀ w', Below W.heap.size W w' → w'.cell? ⟨w.heap.size, 0, none⟩ = some (.bool s0) := fun w' h => (h.cell (p := ⟨w.heap.size, 0, none⟩) hK0).trans k00
  have z1 : ∀ w', Below W.heap.size W w' → w'.cell? ⟨w.heap.size, 1, none⟩ = some (.slice p0 l0 c0) := fun w' h => (h.cell (p := ⟨w.heap.size, 1, none⟩) hK0).trans k01
  have hrr : Below W.heap.size W W := Below.refl _ _
  clear ha hu hb hP hQ hl0 hs0 la hf k00 k01
  go_enter Tryz.func49, Tryz.ntmps49
  go_upto_region 1 with fail
  rw [← hW]
  clear hW
  have k00 := z0 _ hrr
  have k01 := z1 _ hrr
  have n1 : ¬ w.heap.size = w.heap.size + 1 := by omega
  have n2 : ¬ w.heap.size + 1 = w.heap.size := by omega
  go_region_held3 (fun w' => w'.cell? ⟨w.heap.size, 0, none⟩ = some (.bool s0) ∧ w'.cell? ⟨w.heap.size, 1, none⟩ = some (.slice p0 l0 c0))
    (first
      | go_keep
      | assumption)
    (first
      | (go_at_call 52; refine (fromInt_any 1 _ ⟨by decide, by decide⟩).mono ?_; rintro e w2 ⟨⟨v2, rfl, h2⟩, hb2⟩; have bel2 := below_on (D := W) (by first | assumption | exact below_drew0 _) hb2; have d00 := z0 _ bel2; have d01 := z1 _ bel2; clear hb2)
      | (go_at_call 109; refine (plus_yes _ _ a 1 _ (HA.out.below (by first | assumption | exact below_drew1 (by assumption))) (by first | exact h2 | exact IsI.below h2 (below_drew0 _)) HF.out.1 fit_one HF.out.2).mono ?_; rintro e w4 ⟨hb4, v4, rfl, h4⟩; have bel4 := below_on (D := W) (by first | assumption | exact below_drew1 (by assumption)) hb4; have e00 := z0 _ bel4; have e01 := z1 _ bel4; clear hb4)
      | (go_at_call 110; refine (opposite_any _ (a + 1) _ (by first | exact h4 | exact IsI.below h4 (below_drew0 _))).mono ?_; rintro e w6 ⟨⟨v6, rfl, h6⟩, hb6⟩; obtain ⟨p6, c6, rfl, -⟩ := AtI.form h6; have bel6 := below_on (D := W) (by first | assumption | exact below_drew1 (by assumption)) hb6; have r00 := z0 _ bel6; have r01 := z1 _ bel6; have BQ := (bel6.block _ hK1).trans HB.out.2; have f0 := frozen_of_row _ _ 0 _ _ BQ; have f1 := frozen_of_row _ _ 1 _ _ BQ; have g0 := cell_of_row _ _ 0 _ _ (0, 0) BQ; have g1 := cell_of_row _ _ 1 _ _ (0, 0) BQ; have HQ := Lib.hid (And.intro BQ (And.intro h6 bel6)); clear BQ hb6))
  clear bel2 bel4 bel6 h2 h4 h6
  go_wp2_with fail
  refine bodyPost_ret (v := .agg #[.bool (negB (-(a + 1))), .slice p6 (Nl.limbs (a + 1).natAbs).length c6]) (results_cell_row Tryz.results49 _ _ (w.heap.size + 1) 78 _ (0, 0) _ rfl (ibox_set (g := w.heap.size + 1) _ _ HQ.out.1) Tryz.underlying78 rfl (by kernel_rfl)) rfl ?_
  refine ⟨⟨_, _, _, _, rfl, ?_⟩, below_ibox (HB.out.1.trans (HQ.out.2.2.mono HB.out.1.size)) (g := w.heap.size + 1) (Nat.le_succ _) _ _⟩
  have hi := HQ.out.2.1
  rw [show (-(a + 1)).natAbs = (a + 1).natAbs by omega] at hi
  rw [show -1 - a = -(a + 1) by omega]
  obtain ⟨v5, e5, hv5⟩ := hi
  exact ⟨v5, e5, at_ibox (g := w.heap.size + 1) _ _ hv5 HQ.out.1⟩
end Go.Proofs.YtkbghamkalidcaaGreat
