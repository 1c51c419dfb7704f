/-
  What sign, compare, int, fromInt and minus of package whole do. Conditions: those that each theorem names.
-/
import Derived.Test.YtkbghamkalidcaaGreatCountAll
import Derived.Test.YtkbghamkalidcaaGreatIntSums
namespace Go.Proofs.YtkbghamkalidcaaGreat
open Go.RowKit

def sgnI (n : Int) : Int := if n < 0 then -1 else if n = 0 then 0 else 1
theorem isign_any (v : Value) (n : Int) (w : World) (h : IsI w v n) :
    Calls Tryz.prog 136 #[v] w fun e w' => e = .returned (.int .i64 (sgnI n)) ∧ Below w.heap.size w w' := by
  obtain ⟨a, c, rfl, hu⟩ := h.form
  obtain ⟨l, hl⟩ : ∃ l, l = (Nl.limbs n.natAbs).length := ⟨_, rfl⟩
  have hl0 : l = 0 ↔ n = 0 := by rw [hl, limbs_nil]; omega
  rw [← hl]
  clear h hu hl
  by_cases h1 : n < 0
  · rw [show negB n = true from decide_eq_true h1, sgnI, if_pos h1]
    clear h1 hl0
    go_enter Tryz.func136, Tryz.ntmps136
    go_wp2_with fail
    go_ret
    exact ⟨rfl, below_one w _⟩
  · rw [show negB n = false from decide_eq_false h1, sgnI, if_neg h1]
    by_cases h2 : n = 0
    · rw [if_pos h2]
      have e0 : ((l : Int) == 0) = true := by rw [beq_iff_eq]; have := hl0.2 h2; omega
      clear h1 hl0 h2
      go_enter Tryz.func136, Tryz.ntmps136
      go_wp2_with fail
      go_ret
      exact ⟨rfl, below_one w _⟩
    · rw [if_neg h2]
      have e0 : ((l : Int) == 0) = false := by rw [beq_eq_false_iff_ne]; intro h; exact h2 (hl0.1 (by omega))
      clear h1 hl0 h2
      go_enter Tryz.func136, Tryz.ntmps136
      go_wp2_with fail
      go_ret
      exact ⟨rfl, below_one w _⟩

/-- does it fit in an int? -/
def isInt (n : Int) : Prop := -9223372036854775808 ≤ n ∧ n ≤ 9223372036854775807
instance (n : Int) : Decidable (isInt n) := inferInstanceAs (Decidable (_ ∧ _))
set_option maxHeartbeats 1000000 in
theorem fromInt_any (n : Int) (w : World) (hn : isInt n) :
    Calls Tryz.prog 52 #[.int .i64 n] w fun e w' => (∃ v, e = .returned v ∧ IsI w' v n) ∧ Below w.heap.size w w' := by
  obtain ⟨h1, h2⟩ := hn
  obtain ⟨m, hm⟩ : ∃ m, m = n.natAbs := ⟨_, rfl⟩
  obtain ⟨W, hW⟩ : ∃ W, W = w.alloc (.cells #[.bool false, .slice none 0 0] 78) := ⟨_, rfl⟩
  have hbW : Below w.heap.size w W := by rw [hW]; exact below_one w _
  have hQ : W.heap[w.heap.size]? = some (.cells #[.bool false, .slice none 0 0] 78 (0, 0)) := by rw [hW]; exact heap_alloc_new _ _
  have HF := Lib.hid (natFromUint_any m W (by omega))
  have HW := Lib.hid (And.intro hbW (And.intro hQ hm))
  by_cases hneg : n < 0
  · have e0 : decide (n < 0) = true := decide_eq_true hneg
    have e3 : IntKind.u64.wrap (-(IntKind.u64.wrap n)) = (m : Int) := by rw [IntKind.wrap_u64, IntKind.wrap_u64]; omega
    have HS := Lib.hid (show negB n = true from decide_eq_true hneg)
    clear hbW hQ hneg h1 h2 hm
    go_enter Tryz.func52, Tryz.ntmps52
    go_wp2_with fail
    rw [← hW]
    refine HF.out.mono ?_
    rintro e w1 ⟨⟨v, rfl, hv⟩, hb1⟩
    obtain ⟨a, c, rfl, -⟩ := hv.at.form
    have BQ := (hb1.block _ (lt_of_block HW.out.2.1)).trans HW.out.2.1
    have f0 := frozen_of_row _ _ 0 _ _ BQ
    have f1 := frozen_of_row _ _ 1 _ _ BQ
    have g0 := cell_of_row _ _ 0 _ _ (0, 0) BQ
    have g1 := cell_of_row _ _ 1 _ _ (0, 0) BQ
    have HH := Lib.hid (And.intro hv.at.at (And.intro hb1 BQ))
    clear hv hb1 BQ HF
    go_wp2_with fail
    refine bodyPost_ret (v := .agg #[.bool true, .slice a (Nl.limbs m).length c]) (results_cell_row Tryz.results52 _ _ w.heap.size 78 _ (0, 0) _ rfl (ibox_set _ _ HH.out.2.2) Tryz.underlying78 rfl (by kernel_rfl)) rfl ?_
    refine ⟨⟨_, rfl, ?_⟩, below_ibox (HW.out.1.trans (HH.out.2.1.mono HW.out.1.size)) (Nat.le_refl _) _ _⟩
    rw [IsI, HS.out, ← HW.out.2.2]
    exact AtI.mk (at_ibox _ _ HH.out.1 HH.out.2.2)
  · have e0 : decide (n < 0) = false := decide_eq_false hneg
    have e3 : IntKind.u64.wrap n = (m : Int) := by rw [IntKind.wrap_u64]; omega
    have HS := Lib.hid (show negB n = false from decide_eq_false hneg)
    clear hbW hQ hneg h1 h2 hm
    go_enter Tryz.func52, Tryz.ntmps52
    go_wp2_with fail
    rw [← hW]
    refine HF.out.mono ?_
    rintro e w1 ⟨⟨v, rfl, hv⟩, hb1⟩
    obtain ⟨a, c, rfl, -⟩ := hv.at.form
    have BQ := (hb1.block _ (lt_of_block HW.out.2.1)).trans HW.out.2.1
    have f0 := frozen_of_row _ _ 0 _ _ BQ
    have f1 := frozen_of_row _ _ 1 _ _ BQ
    have g0 := cell_of_row _ _ 0 _ _ (0, 0) BQ
    have g1 := cell_of_row _ _ 1 _ _ (0, 0) BQ
    have HH := Lib.hid (And.intro hv.at.at (And.intro hb1 BQ))
    clear hv hb1 BQ HF
    go_wp2_with fail
    refine bodyPost_ret (v := .agg #[.bool false, .slice a (Nl.limbs m).length c]) (results_cell_row Tryz.results52 _ _ w.heap.size 78 _ (0, 0) _ rfl (ibox_set _ _ HH.out.2.2) Tryz.underlying78 rfl (by kernel_rfl)) rfl ?_
    refine ⟨⟨_, rfl, ?_⟩, below_ibox (HW.out.1.trans (HH.out.2.1.mono HW.out.1.size)) (Nat.le_refl _) _ _⟩
    rw [IsI, HS.out, ← HW.out.2.2]
    exact AtI.mk (at_ibox _ _ HH.out.1 HH.out.2.2)

theorem wholeFromInt_any (n : Int) (w : World) (hn : isInt n) :
    Calls Tryz.prog 18 #[.int .i64 n] w fun e w' => (∃ v, e = .returned v ∧ IsI w' v n) ∧ Below w.heap.size w w' := by
  obtain ⟨W, hW⟩ : ∃ W, W = w.alloc (.cells #[.bool false, .slice none 0 0] 25) := ⟨_, rfl⟩
  have hbW : Below w.heap.size w W := by rw [hW]; exact below_one w _
  have hQ : W.heap[w.heap.size]? = some (.cells #[.bool false, .slice none 0 0] 25 (0, 0)) := by rw [hW]; exact heap_alloc_new _ _
  have HF := Lib.hid (fromInt_any n W hn)
  have HW := Lib.hid (And.intro hbW hQ)
  clear hbW hQ
  go_enter Tryz.func18, Tryz.ntmps18
  go_wp2_with fail
  rw [← hW]
  refine HF.out.mono ?_
  rintro e w1 ⟨⟨v, rfl, hv⟩, hb1⟩
  obtain ⟨a, c, rfl, hu⟩ := AtI.form hv
  have BQ := (hb1.block _ (lt_of_block HW.out.2)).trans HW.out.2
  have f0 := frozen_of_row _ _ 0 _ _ BQ
  have f1 := frozen_of_row _ _ 1 _ _ BQ
  have g0 := cell_of_row _ _ 0 _ _ (0, 0) BQ
  have g1 := cell_of_row _ _ 1 _ _ (0, 0) BQ
  have HH := Lib.hid (And.intro hu (And.intro hb1 BQ))
  clear hv hu hb1 BQ HF
  go_wp2_with fail
  refine bodyPost_ret (v := .agg #[.bool (negB n), .slice a (Nl.limbs n.natAbs).length c]) (results_cell_row Tryz.results18 _ _ w.heap.size 25 _ (0, 0) _ rfl (ibox_set _ _ HH.out.2.2) Tryz.underlying25 rfl (by kernel_rfl)) rfl ?_
  exact ⟨⟨_, rfl, AtI.mk (at_ibox _ _ HH.out.1 HH.out.2.2)⟩, below_ibox (HW.out.1.trans (HH.out.2.1.mono HW.out.1.size)) (Nat.le_refl _) _ _⟩
end Go.Proofs.YtkbghamkalidcaaGreat
