/-
  What the reference of integers does: Of, Same, Valid, Opposite, Sgn; and the law's small. Conditions: those that each theorem names.
  What the reference of integers does: Same, Opposite, Sgn. Conditions: those that each theorem names.
  What the reference's Mul does. Conditions: those that each theorem names.
  What the reference's Plus, Minus and Times of integers do. Written by wip/tool/genref2.py. Conditions: those that each theorem names.
  What the reference's limited, Neg, Add, Sub, Mul, Sign and Cmp of integers do, and the law's got. Conditions: those that each theorem names.
  What the reference's Neg, Add, Sub, Mul, Sign and Cmp of integers do. Written by wip/tool/genref2e.py. Conditions: those that each theorem names.
  WholeSums returns true for any two integers, if its self-test does. Written by wip/tool/genlaw2.py. Conditions: those that each theorem names.
-/
import Derived.Test.YtkbghamkalidcaaGreatCdNAll
import Derived.Test.YtkbghamkalidcaaGreatRefTrim
import Derived.Test.YtkbghamkalidcaaGreatEucMAll
namespace Go.Proofs.YtkbghamkalidcaaGreat
open Go.RowKit

theorem refTrim_any (v : Value) (m : Nat) (w : World) (h : At w v (Nl.limbs m)) (hl : (Nl.limbs m).length ≤ 1000000) :
    Calls Tryz.prog 130 #[v] w fun e w' => (∃ p n c, e = .returned (.slice p n c) ∧ At w' (.slice p n c) (Nl.limbs m)) ∧ Below w.heap.size w w' := by
  have ht : Nl.trim (Nl.limbs m) = Nl.limbs m := by rw [Nl.trim_eq (Nl.limbs_small m), Nl.val_limbs]
  have hgen : ∀ (e : Ending) (w' : World), (∃ v, e = .returned v ∧ AtP (w.heap.size ≤ ·) w' v (Nl.limbs m)) ∧ Below w.heap.size w w' → (∃ p n c, e = .returned (.slice p n c) ∧ At w' (.slice p n c) (Nl.limbs m)) ∧ Below w.heap.size w w' := by
    rintro e w' ⟨⟨v, rfl, hv⟩, hb⟩
    obtain ⟨p, c, rfl, -⟩ := hv.form
    exact ⟨⟨p, _, c, rfl, hv.at⟩, hb⟩
  rcases h with ⟨rfl, h⟩ | ⟨b, off, cap, rfl, -, hc, hm, hb, hx⟩
  · refine (refTrim_nil w).mono fun e w' h' => hgen e w' ?_
    rw [h]; exact h'
  · have := refTrim_cells b off cap (Nl.limbs m) w hx hc hm hb hl
    rw [ht] at this
    exact this.mono hgen

set_option maxHeartbeats 1000000 in
theorem ref2Of_any (s : Bool) (v : Value) (m : Nat) (w : World) (h : At w v (Nl.limbs m)) (hl : (Nl.limbs m).length ≤ 1000000) :
    Calls Tryz.prog 66 #[.bool s, v] w fun e w' => (∃ t p n c, e = .returned (.agg #[.bool t, .slice p n c]) ∧ IsI w' (.agg #[.bool t, .slice p n c]) (sgn s m)) ∧ Below w.heap.size w w' := by
  obtain ⟨W, hW⟩ : ∃ W, W = w.alloc (.cells #[.bool false, .slice none 0 0] 25) := ⟨_, rfl⟩
  have hb : Below w.heap.size w W := by rw [hW]; exact below_one w _
  have hQ : W.heap[w.heap.size]? = some (.cells #[.bool false, .slice none 0 0] 25 (0, 0)) := by rw [hW]; exact heap_alloc_new _ _
  have HT := Lib.hid (refTrim_any v m W (h.below hb) hl)
  have HB := Lib.hid (And.intro hb hQ)
  obtain ⟨a, c, rfl, -⟩ := h.form
  obtain ⟨l, hl'⟩ : ∃ l, l = (Nl.limbs m).length := ⟨_, rfl⟩
  have hsg : negB (sgn s m) = (s && decide (0 < l)) := by
    rw [sgn_neg]
    by_cases h0 : 0 < m
    · rw [decide_eq_true h0, decide_eq_true (by rw [hl']; exact Nl.len_pos (by omega))]
    · rw [decide_eq_false h0, decide_eq_false (fun h => h0 (Nat.pos_of_ne_zero fun h1 => by rw [hl', h1, Nl.limbs_zero] at h; exact absurd h (by decide)))]
  have HSG := Lib.hid hsg
  rw [← hl'] at HT ⊢
  clear h hl hb hQ hl' hsg
  obtain ⟨t, ht⟩ : ∃ t, t = (s && decide (0 < l)) := ⟨_, rfl⟩
  have hcase : (s = false ∧ t = false) ∨ (s = true ∧ decide (0 < l) = true ∧ t = true) ∨ (s = true ∧ decide (0 < l) = false ∧ t = false) := by
    rw [ht]
    cases s
    · exact .inl ⟨rfl, rfl⟩
    · cases hd : decide (0 < l)
      · exact .inr (.inr ⟨rfl, rfl, rfl⟩)
      · exact .inr (.inl ⟨rfl, rfl, rfl⟩)
  have HTE := Lib.hid ht
  clear ht
  rcases hcase with ⟨rfl, rfl⟩ | ⟨rfl, e0, rfl⟩ | ⟨rfl, e0, rfl⟩
  · go_enter Tryz.func66, Tryz.ntmps66
    go_upto_region 1 with fail
    rw [← hW]
    clear hW
    go_wp2_with fail
    refine HT.out.mono ?_
    rintro e w1 ⟨⟨p, n, c1, rfl, hat⟩, hb1⟩
    have BQ := (hb1.block _ (lt_of_block HB.out.2)).trans HB.out.2
    have f0 := frozen_of_row _ _ 0 _ _ BQ
    have f1 := frozen_of_row _ _ 1 _ _ BQ
    have g0 := cell_of_row _ _ 0 _ _ (0, 0) BQ
    have g1 := cell_of_row _ _ 1 _ _ (0, 0) BQ
    have HZ := Lib.hid (And.intro hat (And.intro hb1 BQ))
    clear hat hb1 BQ HT
    go_wp2_with fail
    refine bodyPost_ret (v := .agg #[.bool false, .slice p n c1]) (results_cell_row Tryz.results66 _ _ w.heap.size 25 _ (0, 0) _ rfl (ibox_set _ _ HZ.out.2.2) Tryz.underlying25 rfl (by kernel_rfl)) rfl ?_
    exact ⟨⟨_, _, _, _, rfl, isI_mk (at_ibox _ _ HZ.out.1 HZ.out.2.2) (by rw [HSG.out, ← HTE.out]) rfl⟩, below_ibox (HB.out.1.trans (HZ.out.2.1.mono HB.out.1.size)) (Nat.le_refl _) _ _⟩
  · go_enter Tryz.func66, Tryz.ntmps66
    go_upto_region 1 with fail
    rw [← hW]
    clear hW
    go_wp2_with fail
    refine HT.out.mono ?_
    rintro e w1 ⟨⟨p, n, c1, rfl, hat⟩, hb1⟩
    have BQ := (hb1.block _ (lt_of_block HB.out.2)).trans HB.out.2
    have f0 := frozen_of_row _ _ 0 _ _ BQ
    have f1 := frozen_of_row _ _ 1 _ _ BQ
    have g0 := cell_of_row _ _ 0 _ _ (0, 0) BQ
    have g1 := cell_of_row _ _ 1 _ _ (0, 0) BQ
    have HZ := Lib.hid (And.intro hat (And.intro hb1 BQ))
    clear hat hb1 BQ HT
    go_wp2_with fail
    refine bodyPost_ret (v := .agg #[.bool true, .slice p n c1]) (results_cell_row Tryz.results66 _ _ w.heap.size 25 _ (0, 0) _ rfl (ibox_set _ _ HZ.out.2.2) Tryz.underlying25 rfl (by kernel_rfl)) rfl ?_
    exact ⟨⟨_, _, _, _, rfl, isI_mk (at_ibox _ _ HZ.out.1 HZ.out.2.2) (by rw [HSG.out, ← HTE.out]) rfl⟩, below_ibox (HB.out.1.trans (HZ.out.2.1.mono HB.out.1.size)) (Nat.le_refl _) _ _⟩
  · go_enter Tryz.func66, Tryz.ntmps66
    go_upto_region 1 with fail
    rw [← hW]
    clear hW
    go_wp2_with fail
    refine HT.out.mono ?_
    rintro e w1 ⟨⟨p, n, c1, rfl, hat⟩, hb1⟩
    have BQ := (hb1.block _ (lt_of_block HB.out.2)).trans HB.out.2
    have f0 := frozen_of_row _ _ 0 _ _ BQ
    have f1 := frozen_of_row _ _ 1 _ _ BQ
    have g0 := cell_of_row _ _ 0 _ _ (0, 0) BQ
    have g1 := cell_of_row _ _ 1 _ _ (0, 0) BQ
    have HZ := Lib.hid (And.intro hat (And.intro hb1 BQ))
    clear hat hb1 BQ HT
    go_wp2_with fail
    refine bodyPost_ret (v := .agg #[.bool false, .slice p n c1]) (results_cell_row Tryz.results66 _ _ w.heap.size 25 _ (0, 0) _ rfl (ibox_set _ _ HZ.out.2.2) Tryz.underlying25 rfl (by kernel_rfl)) rfl ?_
    exact ⟨⟨_, _, _, _, rfl, isI_mk (at_ibox _ _ HZ.out.1 HZ.out.2.2) (by rw [HSG.out, ← HTE.out]) rfl⟩, below_ibox (HB.out.1.trans (HZ.out.2.1.mono HB.out.1.size)) (Nat.le_refl _) _ _⟩

end Go.Proofs.YtkbghamkalidcaaGreat

namespace Go.Proofs.YtkbghamkalidcaaGreat
open Go.RowKit

set_option maxHeartbeats 1000000 in
theorem ref2Same_any (va vb : Value) (s t : Bool) (xs ys : List Nat) (w : World) (ha : AtI w va s xs) (hb : AtI w vb t ys) :
    Calls Tryz.prog 34 #[va, vb] w fun e w' => e = .returned (.bool ((s == t) && sameB xs ys)) ∧ Below w.heap.size w w' := by
  obtain ⟨p0, c0, rfl, hu⟩ := ha.form
  obtain ⟨p1, c1, rfl, hv⟩ := hb.form
  obtain ⟨W, hW⟩ : ∃ W, W = (w.alloc (.cells #[.bool s, .slice p0 xs.length c0] 25)).alloc (.cells #[.bool t, .slice p1 ys.length c1] 25) := ⟨_, rfl⟩
  have hbW : Below w.heap.size w W := by rw [hW]; exact two_new w _ _
  have B0 : W.heap[w.heap.size]? = some (.cells #[.bool s, .slice p0 xs.length c0] 25 (0, 0)) := by rw [hW]; exact heap_alloc2_old w _ _
  have B1 : W.heap[w.heap.size + 1]? = some (.cells #[.bool t, .slice p1 ys.length c1] 25 (0, 0)) := by rw [hW]; exact heap_alloc2_new w _ _
  have k00 := cell_of_row _ _ 0 _ _ (0, 0) B0
  have k01 := cell_of_row _ _ 1 _ _ (0, 0) B0
  have k10 := cell_of_row _ _ 0 _ _ (0, 0) B1
  have k11 := cell_of_row _ _ 1 _ _ (0, 0) B1
  simp only [List.getElem?_toArray, List.getElem?_cons_zero, List.getElem?_cons_succ] at k00 k01 k10 k11
  have HS := Lib.hid (same_any _ _ xs ys W (hu.below hbW) (hv.below hbW))
  have HB := Lib.hid hbW
  obtain ⟨b, hbb⟩ : ∃ b, b = sameB xs ys := ⟨_, rfl⟩
  rw [← hbb] at HS ⊢
  clear ha hb hu hv hbW B0 B1 hbb
  by_cases hst : s = t
  · subst hst
    rw [show (s == s) = true by simp, Bool.true_and]
    cases s
    all_goals
      go_enter Tryz.func34, Tryz.ntmps34
      go_upto_region 1 with fail
      rw [← hW]
      clear hW
      go_wp2_with (go_at_call 87; refine HS.out.mono ?_; rintro e w' ⟨rfl, j, rfl⟩)
      go_ret
      exact ⟨rfl, HB.out.trans (below_drewN W j _)⟩
  · have hne : (s == t) = false := by simpa using hst
    rw [hne, Bool.false_and]
    cases s <;> cases t
    · exact absurd rfl hst
    · clear hst hne
      go_enter Tryz.func34, Tryz.ntmps34
      go_upto_region 1 with fail
      rw [← hW]
      clear hW
      go_wp2_with (go_at_call 87; refine HS.out.mono ?_; rintro e w' ⟨rfl, j, rfl⟩)
      go_ret
      exact ⟨rfl, HB.out⟩
    · clear hst hne
      go_enter Tryz.func34, Tryz.ntmps34
      go_upto_region 1 with fail
      rw [← hW]
      clear hW
      go_wp2_with (go_at_call 87; refine HS.out.mono ?_; rintro e w' ⟨rfl, j, rfl⟩)
      go_ret
      exact ⟨rfl, HB.out⟩
    · exact absurd rfl hst

end Go.Proofs.YtkbghamkalidcaaGreat

namespace Go.Proofs.YtkbghamkalidcaaGreat
open Go.RowKit

theorem getD_append_right' {A Y : List Nat} {k j : Nat} (hA : A.length = k) : (A ++ Y).getD (k + j) 0 = Y.getD j 0 := by
  subst hA
  rw [List.getD_eq_getElem?_getD, List.getD_eq_getElem?_getD, List.getElem?_append_right (by omega)]
  congr 2; omega
theorem set_append_right' {A Y : List Nat} {k j y : Nat} (hA : A.length = k) : (A ++ Y).set (k + j) y = A ++ Y.set j y := by
  subst hA
  rw [List.set_append_right _ _ (by omega)]
  congr 2; omega

end Go.Proofs.YtkbghamkalidcaaGreat

namespace Go.Proofs.YtkbghamkalidcaaGreat
open Go.RowKit

theorem isI_box {w : World} {g : Nat} {T : TypeId} {s t : Bool} {p q : Option Addr} {l c m d : Nat} {n : Int} (h : IsI w (.agg #[.bool t, .slice q m d]) n) (hbx : w.heap[g]? = some (.cells #[.bool s, .slice p l c] T (0, 0))) :
    IsI ((w.setCell ⟨g, 0, none⟩ (.bool t)).setCell ⟨g, 1, none⟩ (.slice q m d)) (.agg #[.bool t, .slice q m d]) n := by
  obtain ⟨u, hu1, hu2⟩ := h
  simp only [Value.agg.injEq, Array.mk.injEq, List.cons.injEq, Value.bool.injEq, and_true] at hu1
  obtain ⟨rfl, rfl⟩ := hu1
  exact AtI.mk (at_ibox _ _ hu2 hbx)
end Go.Proofs.YtkbghamkalidcaaGreat

namespace Go.Proofs.YtkbghamkalidcaaGreat
open Go.RowKit

theorem sameB_refl (xs : List Nat) : sameB xs xs = true := decide_eq_true rfl
/-- what the reference gives: an integer, or an error -/
instance (n : Int) : Decidable (fitI n) := inferInstanceAs (Decidable (_ ≤ _))
def GotV (w : World) (k : Int) (n : Int) (s : Bool) (p : Option Addr) (l c : Nat) : Prop := (k = 0 → IsI w (.agg #[.bool s, .slice p l c]) n) ∧ (k ≠ 0 → s = false ∧ p = none ∧ l = 0 ∧ c = 0)
end Go.Proofs.YtkbghamkalidcaaGreat

namespace Go.Proofs.YtkbghamkalidcaaGreat
open Go.RowKit

theorem at_of {w : World} {s : Bool} {p : Option Addr} {l c : Nat} {xs : List Nat} (h : AtI w (.agg #[.bool s, .slice p l c]) s xs) : At w (.slice p l c) xs := by
  obtain ⟨u, hu1, hu2⟩ := h
  simp only [Value.agg.injEq, Array.mk.injEq, List.cons.injEq, and_true, true_and] at hu1
  rw [hu1]; exact hu2
end Go.Proofs.YtkbghamkalidcaaGreat

namespace Go.Proofs.YtkbghamkalidcaaGreat
open Go.RowKit

/-- the error of a call -/
def kOf (ok : Bool) (n : Int) : Int := if ok = true then codeI 0 n else 1
theorem GotV.below {w w' : World} {k n : Int} {s : Bool} {p : Option Addr} {l c : Nat} (h : GotV w k n s p l c) (hb : Below w.heap.size w w') : GotV w' k n s p l c := ⟨fun h0 => (h.1 h0).below hb, h.2⟩
theorem res_got {w w' : World} {e : Ending} {ok : Bool} {n : Int} (h : ResI w w' e ok n) : (∃ s p l c, e = .returned (.tuple #[.agg #[.bool s, .slice p l c], .int .i64 (kOf ok n)]) ∧ GotV w' (kOf ok n) n s p l c) ∧ Below w.heap.size w w' := by
  obtain ⟨k, hk, ⟨v, rfl, h1, h2⟩, hb⟩ := h
  have hk' : k = kOf ok n := hk
  subst hk'
  refine ⟨?_, hb⟩
  by_cases h0 : kOf ok n = 0
  · obtain ⟨a, c, rfl, -⟩ := AtI.form (h1 h0)
    exact ⟨_, _, _, _, rfl, fun _ => h1 h0, fun h => absurd h0 h⟩
  · rw [h2 h0]
    exact ⟨_, _, _, _, rfl, fun h => absurd h h0, fun _ => ⟨rfl, rfl, rfl, rfl⟩⟩
theorem below_drew0 (D : World) : Below D.heap.size D D.drew := below_drewN D 1 _
theorem below_drew1 {D w : World} (h : Below D.heap.size D w) : Below D.heap.size D w.drew := h.trans (below_drewN w 1 _)
theorem below_on {D w w' : World} (h : Below D.heap.size D w) (h' : Below w.heap.size w w') : Below D.heap.size D w' := h.trans (h'.mono h.size)
/-- what the self-test does -/
def Awake : Prop := ∀ w : World, Calls Tryz.prog 11 #[] w fun e w' => e = .returned (.bool true) ∧ Below w.heap.size w w'

end Go.Proofs.YtkbghamkalidcaaGreat
