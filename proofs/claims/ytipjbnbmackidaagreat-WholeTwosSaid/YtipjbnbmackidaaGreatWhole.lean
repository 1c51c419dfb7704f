/-
  What sign, compare, int, fromInt and minus of package whole do. Conditions: those that each theorem names.
-/
import Derived.Test.YtipjbnbmackidaaGreatCountAll
import Derived.Test.YtipjbnbmackidaaGreatIntSums
namespace Go.Proofs.YtipjbnbmackidaaGreat
open Go.RowKit

theorem cmpI_nats {a b : Int} (ha : ¬ a < 0) (hb : ¬ b < 0) : cmpI (a.natAbs : Int) (b.natAbs : Int) = cmpI a b := by
  rw [show ((a.natAbs : Nat) : Int) = a by omega, show ((b.natAbs : Nat) : Int) = b by omega]
theorem cmpI_negs {a b : Int} (ha : a < 0) (hb : b < 0) : cmpI (b.natAbs : Int) (a.natAbs : Int) = cmpI a b := by
  rw [show ((a.natAbs : Nat) : Int) = -a by omega, show ((b.natAbs : Nat) : Int) = -b by omega, cmpI, cmpI]
  split <;> split <;> (try split) <;> (try split) <;> omega
set_option maxHeartbeats 1000000 in
theorem icompare_any (va vb : Value) (a b : Int) (w : World) (ha : IsI w va a) (hb : IsI w vb b) (la : fitI a) (lb : fitI b) :
    Calls Tryz.prog 78 #[va, vb] w fun e w' => e = .returned (.int .i64 (cmpI a b)) ∧ Below w.heap.size w w' := by
  obtain ⟨p0, c0, rfl, hu⟩ := ha.form
  obtain ⟨p1, c1, rfl, hv⟩ := hb.form
  obtain ⟨l0, hl0⟩ : ∃ l0, l0 = (Nl.limbs a.natAbs).length := ⟨_, rfl⟩
  obtain ⟨l1, hl1⟩ : ∃ l1, l1 = (Nl.limbs b.natAbs).length := ⟨_, rfl⟩
  rw [← hl0] at hu ⊢
  rw [← hl1] at hv ⊢
  obtain ⟨W, hW⟩ : ∃ W, W = (w.alloc (.cells #[.bool (negB a), .slice p0 l0 c0] 87)).alloc (.cells #[.bool (negB b), .slice p1 l1 c1] 87) := ⟨_, rfl⟩
  have hbW : Below w.heap.size w W := by rw [hW]; exact two_new w _ _
  have HW := Lib.hid hbW
  by_cases h1 : a < 0
  · by_cases h2 : b < 0
    · have HC := Lib.hid (compareNats_any _ _ _ _ W (hv.below hbW) (hu.below hbW) lb la)
      have HE := Lib.hid (cmpI_negs h1 h2)
      rw [show negB a = true from decide_eq_true h1, show negB b = true from decide_eq_true h2] at hW ⊢
      clear ha hb hu hv la lb hl0 hl1 hbW h1 h2
      go_enter Tryz.func78, Tryz.ntmps78
      go_wp2_with fail
      rw [← hW]
      refine HC.out.mono ?_
      rintro e w1 ⟨rfl, j, rfl⟩
      rw [HE.out]
      go_wp2_with fail
      go_ret
      exact ⟨rfl, by rw [← hW]; exact HW.out.trans (below_drewN W j _)⟩
    · have HE := Lib.hid (show cmpI a b = -1 by rw [cmpI, if_pos (by omega)])
      rw [show negB a = true from decide_eq_true h1, show negB b = false from decide_eq_false h2] at hW ⊢
      clear ha hb hu hv la lb hl0 hl1 hbW h1 h2
      rw [HE.out]
      go_enter Tryz.func78, Tryz.ntmps78
      go_wp2_with fail
      go_ret
      rw [← hW]
      exact ⟨rfl, HW.out⟩
  · by_cases h2 : b < 0
    · have HE := Lib.hid (show cmpI a b = 1 by rw [cmpI, if_neg (by omega), if_pos (by omega)])
      rw [show negB a = false from decide_eq_false h1, show negB b = true from decide_eq_true h2] at hW ⊢
      clear ha hb hu hv la lb hl0 hl1 hbW h1 h2
      rw [HE.out]
      go_enter Tryz.func78, Tryz.ntmps78
      go_wp2_with fail
      go_ret
      rw [← hW]
      exact ⟨rfl, HW.out⟩
    · have HC := Lib.hid (compareNats_any _ _ _ _ W (hu.below hbW) (hv.below hbW) la lb)
      have HE := Lib.hid (cmpI_nats h1 h2)
      rw [show negB a = false from decide_eq_false h1, show negB b = false from decide_eq_false h2] at hW ⊢
      clear ha hb hu hv la lb hl0 hl1 hbW h1 h2
      go_enter Tryz.func78, Tryz.ntmps78
      go_wp2_with fail
      rw [← hW]
      refine HC.out.mono ?_
      rintro e w1 ⟨rfl, j, rfl⟩
      rw [HE.out]
      go_wp2_with fail
      go_ret
      exact ⟨rfl, by rw [← hW]; exact HW.out.trans (below_drewN W j _)⟩

/-- does it fit in an int? -/
def isInt (n : Int) : Prop := -9223372036854775808 ≤ n ∧ n ≤ 9223372036854775807
instance (n : Int) : Decidable (isInt n) := inferInstanceAs (Decidable (_ ∧ _))
set_option maxHeartbeats 1000000 in
theorem fromInt_any (n : Int) (w : World) (hn : isInt n) :
    Calls Tryz.prog 83 #[.int .i64 n] w fun e w' => (∃ v, e = .returned v ∧ IsI w' v n) ∧ Below w.heap.size w w' := by
  obtain ⟨h1, h2⟩ := hn
  obtain ⟨m, hm⟩ : ∃ m, m = n.natAbs := ⟨_, rfl⟩
  obtain ⟨W, hW⟩ : ∃ W, W = w.alloc (.cells #[.bool false, .slice none 0 0] 87) := ⟨_, rfl⟩
  have hbW : Below w.heap.size w W := by rw [hW]; exact below_one w _
  have hQ : W.heap[w.heap.size]? = some (.cells #[.bool false, .slice none 0 0] 87 (0, 0)) := by rw [hW]; exact heap_alloc_new _ _
  have HF := Lib.hid (natFromUint_any m W (by omega))
  have HW := Lib.hid (And.intro hbW (And.intro hQ hm))
  by_cases hneg : n < 0
  · have e0 : decide (n < 0) = true := decide_eq_true hneg
    have e3 : IntKind.u64.wrap (-(IntKind.u64.wrap n)) = (m : Int) := by rw [IntKind.wrap_u64, IntKind.wrap_u64]; omega
    have HS := Lib.hid (show negB n = true from decide_eq_true hneg)
    clear hbW hQ hneg h1 h2 hm
    go_enter Tryz.func83, Tryz.ntmps83
    go_wp2_with fail
    rw [← hW]
    refine HF.out.mono ?_
    rintro e w1 ⟨⟨v, rfl, hv⟩, hb1⟩
    obtain ⟨a, c, rfl, -⟩ := hv.at.form
    have BQ := (hb1.block _ (lt_of_block HW.out.2.1)).trans HW.out.2.1
    have f0 := frozen_of_row _ _ 0 _ _ BQ
    have f1 := frozen_of_row _ _ 1 _ _ BQ
    have g0 := cell_of_row _ _ 0 _ _ (0, 0) BQ
    have g1 := cell_of_row _ _ 1 _ _ (0, 0) BQ
    have HH := Lib.hid (And.intro hv.at.at (And.intro hb1 BQ))
    clear hv hb1 BQ HF
    go_wp2_with fail
    refine bodyPost_ret (v := .agg #[.bool true, .slice a (Nl.limbs m).length c]) (results_cell_row Tryz.results83 _ _ w.heap.size 87 _ (0, 0) _ rfl (ibox_set _ _ HH.out.2.2) Tryz.underlying87 rfl (by kernel_rfl)) rfl ?_
    refine ⟨⟨_, rfl, ?_⟩, below_ibox (HW.out.1.trans (HH.out.2.1.mono HW.out.1.size)) (Nat.le_refl _) _ _⟩
    rw [IsI, HS.out, ← HW.out.2.2]
    exact AtI.mk (at_ibox _ _ HH.out.1 HH.out.2.2)
  · have e0 : decide (n < 0) = false := decide_eq_false hneg
    have e3 : IntKind.u64.wrap n = (m : Int) := by rw [IntKind.wrap_u64]; omega
    have HS := Lib.hid (show negB n = false from decide_eq_false hneg)
    clear hbW hQ hneg h1 h2 hm
    go_enter Tryz.func83, Tryz.ntmps83
    go_wp2_with fail
    rw [← hW]
    refine HF.out.mono ?_
    rintro e w1 ⟨⟨v, rfl, hv⟩, hb1⟩
    obtain ⟨a, c, rfl, -⟩ := hv.at.form
    have BQ := (hb1.block _ (lt_of_block HW.out.2.1)).trans HW.out.2.1
    have f0 := frozen_of_row _ _ 0 _ _ BQ
    have f1 := frozen_of_row _ _ 1 _ _ BQ
    have g0 := cell_of_row _ _ 0 _ _ (0, 0) BQ
    have g1 := cell_of_row _ _ 1 _ _ (0, 0) BQ
    have HH := Lib.hid (And.intro hv.at.at (And.intro hb1 BQ))
    clear hv hb1 BQ HF
    go_wp2_with fail
    refine bodyPost_ret (v := .agg #[.bool false, .slice a (Nl.limbs m).length c]) (results_cell_row Tryz.results83 _ _ w.heap.size 87 _ (0, 0) _ rfl (ibox_set _ _ HH.out.2.2) Tryz.underlying87 rfl (by kernel_rfl)) rfl ?_
    refine ⟨⟨_, rfl, ?_⟩, below_ibox (HW.out.1.trans (HH.out.2.1.mono HW.out.1.size)) (Nat.le_refl _) _ _⟩
    rw [IsI, HS.out, ← HW.out.2.2]
    exact AtI.mk (at_ibox _ _ HH.out.1 HH.out.2.2)

theorem wholeFromInt_any (n : Int) (w : World) (hn : isInt n) :
    Calls Tryz.prog 28 #[.int .i64 n] w fun e w' => (∃ v, e = .returned v ∧ IsI w' v n) ∧ Below w.heap.size w w' := by
  obtain ⟨W, hW⟩ : ∃ W, W = w.alloc (.cells #[.bool false, .slice none 0 0] 25) := ⟨_, rfl⟩
  have hbW : Below w.heap.size w W := by rw [hW]; exact below_one w _
  have hQ : W.heap[w.heap.size]? = some (.cells #[.bool false, .slice none 0 0] 25 (0, 0)) := by rw [hW]; exact heap_alloc_new _ _
  have HF := Lib.hid (fromInt_any n W hn)
  have HW := Lib.hid (And.intro hbW hQ)
  clear hbW hQ
  go_enter Tryz.func28, Tryz.ntmps28
  go_wp2_with fail
  rw [← hW]
  refine HF.out.mono ?_
  rintro e w1 ⟨⟨v, rfl, hv⟩, hb1⟩
  obtain ⟨a, c, rfl, hu⟩ := AtI.form hv
  have BQ := (hb1.block _ (lt_of_block HW.out.2)).trans HW.out.2
  have f0 := frozen_of_row _ _ 0 _ _ BQ
  have f1 := frozen_of_row _ _ 1 _ _ BQ
  have g0 := cell_of_row _ _ 0 _ _ (0, 0) BQ
  have g1 := cell_of_row _ _ 1 _ _ (0, 0) BQ
  have HH := Lib.hid (And.intro hu (And.intro hb1 BQ))
  clear hv hu hb1 BQ HF
  go_wp2_with fail
  refine bodyPost_ret (v := .agg #[.bool (negB n), .slice a (Nl.limbs n.natAbs).length c]) (results_cell_row Tryz.results28 _ _ w.heap.size 25 _ (0, 0) _ rfl (ibox_set _ _ HH.out.2.2) Tryz.underlying25 rfl (by kernel_rfl)) rfl ?_
  exact ⟨⟨_, rfl, AtI.mk (at_ibox _ _ HH.out.1 HH.out.2.2)⟩, below_ibox (HW.out.1.trans (HH.out.2.1.mono HW.out.1.size)) (Nat.le_refl _) _ _⟩
end Go.Proofs.YtipjbnbmackidaaGreat
