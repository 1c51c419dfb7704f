/-
  The methods of integers of package whole: sums and differences. Conditions: those that each theorem names.
  What count of package whole does, and sign, compare, int and fromInt. Conditions: those that each theorem names.
-/
import Derived.Test.YtkbghamkalidcaaGreatWork
import Derived.Deep.RegionHeld3
namespace Go.Proofs.YtkbghamkalidcaaGreat
open Go.RowKit

theorem found_yes (a : Option Addr) (n c : Nat) (w : World) : Calls Tryz.prog 125 #[.slice a n c, .int .i64 0] w fun e w' => e = .returned (.slice a n c) ∧ w = w' := by
  go_enter Tryz.func125, Tryz.ntmps125
  go_wp2_with (go_at_call 55; refine (must_yes _ _).mono ?_; rintro e w' ⟨rfl, rfl⟩)
  go_ret
  exact ⟨rfl, rfl⟩
theorem found_no (a : Option Addr) (n c : Nat) (k : Int) (hk : k ≠ 0) (w : World) : Calls Tryz.prog 125 #[.slice a n c, .int .i64 k] w fun e w' => e = fault k ∧ w = w' := by
  have e0 : ((k : Int) == 0) = false := by rw [beq_eq_false_iff_ne]; exact hk
  go_enter Tryz.func125, Tryz.ntmps125
  go_wp2_with (go_at_call 55; refine (must_no _ _).mono ?_; rintro e w' ⟨rfl, rfl⟩)
  first
    | exact ⟨rfl, rfl⟩
    | exact ⟨rfl, rfl, rfl⟩

theorem natOut_yes {w w' : World} {e : Ending} {c : Int} {m : Nat} (h : NatOut w w' e c m) (hc : c = 0) : (∃ a n cp, e = .returned (.tuple #[.slice a n cp, .int .i64 0]) ∧ At w' (.slice a n cp) (Nl.limbs m)) ∧ Below w.heap.size w w' := by
  obtain ⟨⟨v, rfl, h2, h3⟩, h4⟩ := h
  have h5 := (h2 hc).at.at
  obtain ⟨a, cp, rfl, -⟩ := h5.form
  exact ⟨⟨a, _, cp, by rw [hc], h5⟩, h4⟩
theorem natOut_no {w w' : World} {e : Ending} {c : Int} {m : Nat} (h : NatOut w w' e c m) (hc : c ≠ 0) : e = .returned (.tuple #[.slice none 0 0, .int .i64 c]) ∧ Below w.heap.size w w' := by
  obtain ⟨⟨v, rfl, h2, h3⟩, h4⟩ := h
  rw [h3 hc]; exact ⟨rfl, h4⟩
theorem Res2.of {w w' : World} {e : Ending} {m n r : Nat} {k : Int} (h : Res2 w w' e (Nl.limbs m) (Nl.limbs n) k r) (hm : (Nl.limbs m).length ≤ 1024) (hn : (Nl.limbs n).length ≤ 1024) : NatOut w w' e (codeOf k r) r := by
  obtain ⟨c, ⟨_, _, rfl⟩ | ⟨h1, _⟩, ho⟩ := h
  · exact ho
  · rw [validB_limbs hm, validB_limbs hn] at h1
    rcases h1 with h | h <;> cases h

/-- what a call gives that gives one number -/
def OneN (w w' : World) (e : Ending) (m : Nat) : Prop := (∃ a n cp, e = .returned (.tuple #[.slice a n cp, .int .i64 0]) ∧ At w' (.slice a n cp) (Nl.limbs m)) ∧ Below w.heap.size w w'
def NoN (w w' : World) (e : Ending) (k : Int) : Prop := e = .returned (.tuple #[.slice none 0 0, .int .i64 k]) ∧ Below w.heap.size w w'
theorem add_yes (va vb : Value) (m n : Nat) (w : World) (ha : At w va (Nl.limbs m)) (hb : At w vb (Nl.limbs n)) (hm : (Nl.limbs m).length ≤ 1024) (hn : (Nl.limbs n).length ≤ 1024) (hf : (Nl.limbs (m + n)).length ≤ 1024) :
    Calls Tryz.prog 142 #[va, vb] w fun e w' => OneN w w' e (m + n) := by
  have h := add_any va vb _ _ w ha hb (Nl.limbs_small m) (Nl.limbs_small n)
  rw [Nl.val_limbs, Nl.val_limbs] at h
  exact h.mono fun e w' h => natOut_yes (h.of hm hn) (by rw [codeOf, if_neg (by decide), if_pos hf])
theorem add_no (va vb : Value) (m n : Nat) (w : World) (ha : At w va (Nl.limbs m)) (hb : At w vb (Nl.limbs n)) (hm : (Nl.limbs m).length ≤ 1024) (hn : (Nl.limbs n).length ≤ 1024) (hf : ¬ (Nl.limbs (m + n)).length ≤ 1024) :
    Calls Tryz.prog 142 #[va, vb] w fun e w' => NoN w w' e 2 := by
  have h := add_any va vb _ _ w ha hb (Nl.limbs_small m) (Nl.limbs_small n)
  rw [Nl.val_limbs, Nl.val_limbs] at h
  refine h.mono fun e w' h => ?_
  have hc : codeOf 0 (m + n) = 2 := by rw [codeOf, if_neg (by decide), if_neg hf]
  have := natOut_no (h.of hm hn) (by rw [hc]; decide)
  rwa [hc] at this
theorem sub_yes (va vb : Value) (m n : Nat) (w : World) (ha : At w va (Nl.limbs m)) (hb : At w vb (Nl.limbs n)) (hm : (Nl.limbs m).length ≤ 1024) (hle : n ≤ m) :
    Calls Tryz.prog 143 #[va, vb] w fun e w' => OneN w w' e (m - n) := by
  have h := sub_any va vb _ _ w ha hb (Nl.limbs_small m) (Nl.limbs_small n)
  rw [Nl.val_limbs, Nl.val_limbs] at h
  exact h.mono fun e w' h => natOut_yes (h.of hm (Nat.le_trans (Nl.limbs_mono hle) hm)) (by rw [subK, if_pos hle, codeOf, if_neg (by decide), if_pos (Nat.le_trans (Nl.len_sub m n) hm)])
theorem len_mul_ge {m n : Nat} (hm : m ≠ 0) (hn : n ≠ 0) : (Nl.limbs m).length + (Nl.limbs n).length ≤ (Nl.limbs (m * n)).length + 1 := by
  have h1 := Nl.limbs_le hm
  have h2 := Nl.limbs_le hn
  have h3 := Nl.len_pos hm
  have h4 := Nl.len_pos hn
  apply Classical.byContradiction
  intro hc
  have h5 : m * n < 4294967296 ^ ((Nl.limbs m).length - 1 + ((Nl.limbs n).length - 1)) := Nat.lt_of_lt_of_le (Nl.lt_limbs (m * n)) (Nl.pow_le (by omega))
  rw [Nat.pow_add] at h5
  have h6 := Nat.mul_le_mul h1 h2
  omega
theorem mul_yes (va vb : Value) (m n : Nat) (w : World) (ha : At w va (Nl.limbs m)) (hb : At w vb (Nl.limbs n)) (hm : (Nl.limbs m).length ≤ 1024) (hn : (Nl.limbs n).length ≤ 1024) (hf : (Nl.limbs (m * n)).length ≤ 1024) :
    Calls Tryz.prog 179 #[va, vb] w fun e w' => OneN w w' e (m * n) := by
  have h := mul_any va vb _ _ w ha hb (Nl.limbs_small m) (Nl.limbs_small n)
  rw [Nl.val_limbs, Nl.val_limbs] at h
  refine h.mono fun e w' h => natOut_yes (h.of hm hn) ?_
  rw [mulK, if_neg (by decide), if_pos, codeOf, if_neg (by decide), if_pos hf]
  by_cases h1 : m = 0
  · exact .inl h1
  · by_cases h2 : n = 0
    · exact .inr (.inl h2)
    · exact .inr (.inr (by have := len_mul_ge h1 h2; omega))
theorem mul_no (va vb : Value) (m n : Nat) (w : World) (ha : At w va (Nl.limbs m)) (hb : At w vb (Nl.limbs n)) (hm : (Nl.limbs m).length ≤ 1024) (hn : (Nl.limbs n).length ≤ 1024) (hf : ¬ (Nl.limbs (m * n)).length ≤ 1024) :
    Calls Tryz.prog 179 #[va, vb] w fun e w' => NoN w w' e 2 := by
  have h := mul_any va vb _ _ w ha hb (Nl.limbs_small m) (Nl.limbs_small n)
  rw [Nl.val_limbs, Nl.val_limbs] at h
  refine h.mono fun e w' h => ?_
  have hc : codeOf (mulK 1 80 m n) (m * n) = 2 := by
    rw [mulK, if_neg (by decide)]
    split
    · rw [codeOf, if_neg (by decide), if_neg hf]
    · rfl
  have := natOut_no (h.of hm hn) (by rw [hc]; decide)
  rwa [hc] at this

theorem compareNats_any (va vb : Value) (m n : Nat) (w : World) (ha : At w va (Nl.limbs m)) (hb : At w vb (Nl.limbs n)) (hm : (Nl.limbs m).length ≤ 1024) (hn : (Nl.limbs n).length ≤ 1024) :
    Calls Tryz.prog 144 #[va, vb] w fun e w' => e = .returned (.int .i64 (cmpI m n)) ∧ ∃ j, w' = w.drewN j := by
  have V1 := valid_any va _ w ha
  have V2 := valid_any vb _ w hb
  rw [validB_limbs hm] at V1
  rw [validB_limbs hn] at V2
  have HV1 := Lib.hid V1
  have HV2 := Lib.hid V2
  have HC := Lib.hid (compare_any va vb m n w ha hb)
  obtain ⟨a, ca, rfl, -⟩ := ha.form
  obtain ⟨b, cb, rfl, -⟩ := hb.form
  clear ha hb V1 V2
  have HCC : Hid (Calls Tryz.prog 196 #[.slice a (Nl.limbs m).length ca, .slice b (Nl.limbs n).length cb] w fun e w' => e = .returned (.tuple #[.int .i64 (cmpI m n), .int .i64 0]) ∧ ∃ j, w' = w.drewN j) := by
    go_enter Tryz.func196, Tryz.ntmps196
    go_wp2_with fail
    refine HV1.out.mono ?_
    rintro e w' ⟨rfl, rfl⟩
    go_wp2_with fail
    refine HV2.out.mono ?_
    rintro e w' ⟨rfl, rfl⟩
    go_wp2_with fail
    refine HC.out.mono ?_
    rintro e w' ⟨rfl, k, hk⟩
    have HK := Lib.hid hk
    clear hk
    go_wp2_with fail
    go_ret2
    exact ⟨rfl, k, HK.out⟩
  clear HV1 HV2 HC
  go_enter Tryz.func144, Tryz.ntmps144
  go_wp2_with fail
  refine HCC.out.mono ?_
  rintro e w' ⟨rfl, k, hk⟩
  have HK := Lib.hid hk
  clear hk
  go_wp2_with (go_at_call 55; refine (must_yes _ _).mono ?_; rintro e w' ⟨rfl, rfl⟩)
  go_ret
  exact ⟨rfl, k, HK.out⟩

/-- what a piece of work on integers gives: an integer that fits, or the error 2 -/
def fitI (n : Int) : Prop := (Nl.limbs n.natAbs).length ≤ 1024
def IDoes (w w' : World) (e : Ending) (n : Int) : Prop := Below w.heap.size w w' ∧ ((fitI n ∧ ∃ v, e = .returned v ∧ IsI w' v n) ∨ (¬ fitI n ∧ e = fault 2))

theorem opposite_any (v : Value) (n : Int) (w : World) (h : IsI w v n) :
    Calls Tryz.prog 110 #[v] w fun e w' => (∃ u, e = .returned u ∧ IsI w' u (-n)) ∧ Below w.heap.size w w' := by
  obtain ⟨a, c, rfl, hu⟩ := h.form
  obtain ⟨W, hW⟩ : ∃ W, W = (w.alloc (.cells #[.bool (negB n), .slice a (Nl.limbs n.natAbs).length c] 78)).alloc (.cells #[.bool false, .slice none 0 0] 78) := ⟨_, rfl⟩
  have hb : Below w.heap.size w W := by rw [hW]; exact two_new w _ _
  have hQ : W.heap[w.heap.size + 1]? = some (.cells #[.bool false, .slice none 0 0] 78 (0, 0)) := by rw [hW]; exact heap_alloc2_new w _ _
  have HS := Lib.hid (signed_any (!negB n) _ _ W (hu.below hb))
  have HW := Lib.hid (And.intro hb (And.intro hQ hu))
  have hneg : (!negB n && decide (0 < (Nl.limbs n.natAbs).length)) = negB (-n) := by
    rw [negB, negB]
    by_cases h0 : n = 0
    · subst h0; rw [show ((0 : Int)).natAbs = 0 from rfl, Nl.limbs_zero]; rfl
    · have := Nl.len_pos (n := n.natAbs) (by omega)
      rw [decide_eq_true this, Bool.and_true]
      by_cases h1 : n < 0
      · rw [decide_eq_true h1, decide_eq_false (by omega)]; rfl
      · rw [decide_eq_false h1, decide_eq_true (by omega)]; rfl
  have HN := Lib.hid (And.intro hneg (show (-n).natAbs = n.natAbs by omega))
  clear h hu hb hQ hneg
  go_enter Tryz.func110, Tryz.ntmps110
  go_wp2_with fail
  rw [← hW]
  clear hW
  refine HS.out.mono ?_
  rintro e w1 ⟨rfl, hb1⟩
  rw [HN.out.1]
  have B1 := Lib.hid (HW.out.1.trans (hb1.mono HW.out.1.size))
  have BQ := Lib.hid ((hb1.block _ (lt_of_block HW.out.2.1)).trans HW.out.2.1)
  have f0 := frozen_of_row _ _ 0 _ _ BQ.out
  have f1 := frozen_of_row _ _ 1 _ _ BQ.out
  have g0 := cell_of_row _ _ 0 _ _ (0, 0) BQ.out
  have g1 := cell_of_row _ _ 1 _ _ (0, 0) BQ.out
  clear hb1 HS
  go_wp2_with fail
  refine bodyPost_ret (v := .agg #[.bool (negB (-n)), .slice a (Nl.limbs n.natAbs).length c]) (results_cell_row Tryz.results110 _ _ (w.heap.size + 1) 78 _ (0, 0) _ rfl (ibox_set _ _ BQ.out) Tryz.underlying78 rfl (by kernel_rfl)) rfl ?_
  refine ⟨⟨_, rfl, ?_⟩, below_ibox B1.out (Nat.le_succ _) _ _⟩
  rw [IsI, HN.out.2]
  exact AtI.mk (at_ibox _ _ (HW.out.2.2.below B1.out) BQ.out)

/-- three blocks: two integers, and a result -/
structure Three (w W : World) (x y : Value × Value) (t u : TypeId) : Prop where
  below : Below w.heap.size w W
  size : W.heap.size = w.heap.size + 3
  a : W.heap[w.heap.size]? = some (.cells #[x.1, x.2] t (0, 0))
  b : W.heap[w.heap.size + 1]? = some (.cells #[y.1, y.2] t (0, 0))
  r : W.heap[w.heap.size + 2]? = some (.cells #[.bool false, .slice none 0 0] u (0, 0))
theorem three_mk (w W : World) (x1 x2 y1 y2 : Value) (t u : TypeId) (hW : W = ((w.alloc (.cells #[x1, x2] t)).alloc (.cells #[y1, y2] t)).alloc (.cells #[.bool false, .slice none 0 0] u)) : Three w W (x1, x2) (y1, y2) t u := by
  refine ⟨by rw [hW]; exact three_new w _ _ _, by rw [hW]; simp, ?_, ?_, ?_⟩
  · rw [hW]; exact (Below.heap_alloc _ _ _ (by simp; omega)).trans (heap_alloc2_old w _ _)
  · rw [hW]; exact (Below.heap_alloc _ _ _ (by simp)).trans (heap_alloc2_new w _ _)
  · rw [hW]
    have := heap_alloc_new ((w.alloc (.cells #[x1, x2] t)).alloc (.cells #[y1, y2] t)) (.cells #[.bool false, .slice none 0 0] u)
    simpa using this

end Go.Proofs.YtkbghamkalidcaaGreat

namespace Go.Proofs.YtkbghamkalidcaaGreat
open Go.RowKit

/-- what a piece of work makes: a number, or one of the package's errors -/
def CntDoes (G : FuncId) (caps : Array Value) (w : World) (k : Int) (x : Int) : Prop := ∀ W, Below w.heap.size w W → Calls Tryz.prog G caps W fun e w' => Below W.heap.size W w' ∧
  ((k = 0 ∧ e = .returned (.int .i64 x)) ∨ (k ≠ 0 ∧ e = fault k))
theorem CntDoes.mono {G : FuncId} {caps : Array Value} {w W : World} {k : Int} {x : Int} (h : CntDoes G caps w k x) (hb : Below w.heap.size w W) : CntDoes G caps W k x :=
  fun V hV => h V (hb.trans (hV.mono hb.size))

/-- what ToUint gives of a number -/
theorem wordOf_yes (v : Value) (m : Nat) (w : World) (h : At w v (Nl.limbs m)) (hm : m < 18446744073709551616) :
    Calls Tryz.prog 166 #[v] w fun e w' => e = .returned (.int .u64 m) ∧ w = w' := by
  have hl : (Nl.limbs m).length ≤ 2 := Nl.limbs_lt (by omega)
  have H := toUint_any v _ w h (Nl.limbs_small m)
  rw [uintV, uintC, if_pos ⟨validB_limbs (by omega), hl⟩, if_pos (validB_limbs (by omega)), if_pos hl, Nl.val_limbs] at H
  have HH := Lib.hid H
  obtain ⟨a, c, rfl, -⟩ := h.form
  clear H h hl
  go_enter Tryz.func166, Tryz.ntmps166
  go_wp2_with fail
  refine HH.out.mono ?_
  rintro e w' ⟨rfl, rfl⟩
  go_wp2_with (go_at_call 55; refine (must_yes _ _).mono ?_; rintro e w' ⟨rfl, rfl⟩)
  go_ret
  exact ⟨rfl, rfl⟩
end Go.Proofs.YtkbghamkalidcaaGreat
