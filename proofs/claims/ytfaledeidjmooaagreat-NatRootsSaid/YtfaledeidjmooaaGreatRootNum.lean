/-
  What Root does for a valid number. Conditions: those that each theorem names.
-/
import Derived.Test.YtfaledeidjmooaaGreatNewton
import Derived.Test.YtfaledeidjmooaaGreatGcd
namespace Go.Proofs.YtfaledeidjmooaaGreat
open Go.RowKit

theorem nbits_words {m n : Nat} (h : (Nl.limbs m).length ≤ n) : nbits m ≤ 32 * n := by
  by_cases h0 : m = 0
  · rw [h0, nbits_zero]; omega
  · obtain ⟨k, x, hk, -, hx0, hx, hnb⟩ := top_word h0
    have := Lib.bitLen_le x 32 (by omega) (by omega)
    omega

theorem root_num (va : Value) (m n q : Nat) (w : World) (ha : At w va (Nl.limbs m)) (hm : (Nl.limbs m).length ≤ 1024) (hn : 1 ≤ n) (hn2 : n ≤ 9223372036854775807) (hq : IsRoot n m q) :
    Calls Tryz.prog 36 #[va, .int .i64 n] w fun e w' => ∃ u v, e = .returned (.tuple #[u, v, .int .i64 0]) ∧ At w' u (Nl.limbs q) ∧ At w' v (Nl.limbs (m - q ^ n)) ∧ Below w.heap.size w w' := by
  have hqm : q ≤ m := Nat.le_trans (Nat.le_self_pow (by omega) q) hq.1
  have h := root_any va (Nl.limbs m) q (m - q ^ n) (n : Int) w ha (fun _ => Nat.le_trans (Nl.limbs_mono hqm) hm) (fun _ => Nat.le_trans (Nl.limbs_mono (Nat.sub_le _ _)) hm)
    (fun _ _ w' hw => rootAndRest_of va m n q w' (ha.below hw) hm hn hn2 hq (fun h2 hnb w2 hw2 => by
      have hb := nbits_words hm
      exact root_all va m n w2 ((ha.below hw).below hw2) (fun h => by rw [h, nbits_zero] at hnb; omega) hm h2 (by omega)))
  refine h.mono ?_
  rintro e w' ⟨c, hc, ⟨u, v, rfl, h2, h3⟩, hb⟩
  have hc0 : c = 0 := by
    rcases hc with ⟨-, h⟩ | ⟨h, -⟩
    · rw [h, rootK, if_pos (by omega)]
    · rw [validB_limbs hm] at h; exact absurd h (by decide)
  subst hc0
  exact ⟨u, v, rfl, (h2 rfl).1.at.at, (h2 rfl).2.at.at, hb⟩

theorem at_one (w : World) (t : TypeId) : At (w.alloc (.cells #[.int .u32 1] t)) (.slice (some ⟨w.heap.size, 0, none⟩) 1 1) (Nl.limbs 1) := by
  rw [limbs_one (by decide) (by decide)]
  refine .inr ⟨w.heap.size, 0, 1, rfl, trivial, by simp, by simp, by simp, fun i hi => ?_⟩
  obtain rfl : i = 0 := by simp at hi; omega
  exact cell_of_row _ _ 0 _ _ (0, 0) (heap_alloc_new _ _)
end Go.Proofs.YtfaledeidjmooaaGreat
