/-
  What Div, Long and Blocks do, for all numbers. Div and Mul of valid numbers; the law's numbers of two and of one list. Conditions: those that each theorem names.
-/
import Derived.Test.YtfaledeidjmooaaGreatBlocks
import Derived.Test.YtfaledeidjmooaaGreatDiv
import Derived.Test.YtfaledeidjmooaaGreatNumbers
namespace Go.Proofs.YtfaledeidjmooaaGreat
open Go.RowKit


theorem div_all (va vb : Value) (xs ys : List Nat) (w : World) (ha : At w va xs) (hb : At w vb ys) (hsx : Nl.Small xs) (hsy : Nl.Small ys) :
    Calls Tryz.prog 31 #[va, vb] w fun e w' => Pair2 w w' e xs ys (divK 1 100 (Nl.val ys)) (Nl.val xs / Nl.val ys) (Nl.val xs % Nl.val ys) :=
  div_any va vb xs ys w ha hb hsx hsy fun v1 v2 h0 w' hw => over_all va vb _ _ w' ((ha.num hsx v1).below hw) ((hb.num hsy v2).below hw) (Nat.le_trans (validB_eq hsx v1).2 (by decide)) (Nat.le_trans (validB_eq hsy v2).2 (by decide)) (Nat.pos_of_ne_zero h0)
theorem long_all (va vb : Value) (xs ys : List Nat) (w : World) (ha : At w va xs) (hb : At w vb ys) (hsx : Nl.Small xs) (hsy : Nl.Small ys) :
    Calls Tryz.prog 49 #[va, vb] w fun e w' => Pair2 w w' e xs ys (divK 0 0 (Nl.val ys)) (Nl.val xs / Nl.val ys) (Nl.val xs % Nl.val ys) :=
  long_any va vb xs ys w ha hb hsx hsy fun v1 v2 h0 w' hw => overElements_any va vb _ _ w' ((ha.num hsx v1).below hw) ((hb.num hsy v2).below hw) (Nat.le_trans (validB_eq hsx v1).2 (by decide)) (Nat.pos_of_ne_zero h0)
theorem blocks_all (va vb : Value) (xs ys : List Nat) (cut : Int) (w : World) (ha : At w va xs) (hb : At w vb ys) (hsx : Nl.Small xs) (hsy : Nl.Small ys) (h1 : -9223372036854775808 ≤ cut) (h2 : cut ≤ 9223372036854775807) :
    Calls Tryz.prog 51 #[va, vb, .int .i64 cut] w fun e w' => Pair2 w w' e xs ys (divK 1 cut (Nl.val ys)) (Nl.val xs / Nl.val ys) (Nl.val xs % Nl.val ys) :=
  blocks_any va vb xs ys cut w ha hb hsx hsy h1 h2 fun v1 v2 h0 hc w' hw => by
    obtain ⟨c, hcc, hc2⟩ : ∃ c : Nat, cut = c ∧ 2 ≤ c := by
      rw [cutB] at hc
      simp at hc
      exact ⟨cut.toNat, by omega, by omega⟩
    subst hcc
    exact overBlocks_any va vb _ _ c w' ((ha.num hsx v1).below hw) ((hb.num hsy v2).below hw) (Nat.le_trans (validB_eq hsx v1).2 (by decide)) (Nat.le_trans (validB_eq hsy v2).2 (by decide)) hc2 (Nat.pos_of_ne_zero h0)

theorem Pair2.gives {w w' : World} {e : Ending} {xs ys : List Nat} {k : Int} {q r : Nat} (h : Pair2 w w' e xs ys k q r) :
    ∃ c : Int, c = (if (validB xs && validB ys) = true then k else 1) ∧ Gives2 w w' e c (if c = 0 then Nl.limbs q else []) (if c = 0 then Nl.limbs r else []) := by
  obtain ⟨c, hc, ⟨u, v, rfl, h2, h3⟩, h4⟩ := h
  have hcc : c = (if (validB xs && validB ys) = true then k else 1) := by
    rcases hc with ⟨h1, h2, h3⟩ | ⟨h1, h3⟩
    · rw [h1, h2, if_pos (show (true && true) = true from rfl), h3]
    · rw [if_neg, h3]
      rcases h1 with h | h <;> rw [h] <;> simp
  refine ⟨c, hcc, u, v, rfl, ?_, ?_, h4⟩
  · by_cases h0 : c = 0
    · rw [if_pos h0]; exact (h2 h0).1.at.at
    · rw [if_neg h0]; exact .inl ⟨(h3 h0).1, rfl⟩
  · by_cases h0 : c = 0
    · rw [if_pos h0]; exact (h2 h0).2.at.at
    · rw [if_neg h0]; exact .inl ⟨(h3 h0).2, rfl⟩

/-- a call that gives two numbers without an error -/
def GivesN2 (w w' : World) (e : Ending) (q r : Nat) : Prop := ∃ u v, e = .returned (.tuple #[u, v, .int .i64 0]) ∧ At w' u (Nl.limbs q) ∧ At w' v (Nl.limbs r) ∧ Below w.heap.size w w'
theorem div_num (va vb : Value) (m n : Nat) (w : World) (ha : At w va (Nl.limbs m)) (hb : At w vb (Nl.limbs n)) (hm : (Nl.limbs m).length ≤ 1024) (hn : (Nl.limbs n).length ≤ 1024) (h0 : n ≠ 0) :
    Calls Tryz.prog 31 #[va, vb] w fun e w' => GivesN2 w w' e (m / n) (m % n) := by
  have h := div_all va vb _ _ w ha hb (Nl.limbs_small m) (Nl.limbs_small n)
  rw [Nl.val_limbs, Nl.val_limbs] at h
  refine h.mono ?_
  rintro e w' hp
  obtain ⟨c, hc, u, v, he, hu, hv, hb⟩ := hp.gives
  rw [validB_limbs hm, validB_limbs hn, if_pos (show (true && true) = true from rfl), divK, if_neg (fun h => absurd h.2 (by decide)), if_neg h0] at hc
  subst hc
  rw [if_pos rfl] at hu hv
  exact ⟨u, v, he, hu, hv, hb⟩

theorem len_mul_le {m n : Nat} (hm : m ≠ 0) (hn : n ≠ 0) : (Nl.limbs m).length + (Nl.limbs n).length ≤ (Nl.limbs (m * n)).length + 1 := by
  have h1 := Nl.limbs_le hm
  have h2 := Nl.limbs_le hn
  have h3 := Nl.len_pos hm
  have h4 := Nl.len_pos hn
  apply Classical.byContradiction
  intro hc
  have h5 : m * n < 4294967296 ^ ((Nl.limbs m).length - 1 + ((Nl.limbs n).length - 1)) := Nat.lt_of_lt_of_le (Nl.lt_limbs (m * n)) (Nl.pow_le (by omega))
  rw [Nat.pow_add] at h5
  have h6 := Nat.mul_le_mul h1 h2
  omega
/-- a product of valid numbers: its error, and its words -/
def mulC (m n : Nat) : Int := if (Nl.limbs (m * n)).length ≤ 1024 then 0 else 2
theorem mul_gen (va vb : Value) (m n : Nat) (w : World) (ha : At w va (Nl.limbs m)) (hb : At w vb (Nl.limbs n)) (hm : (Nl.limbs m).length ≤ 1024) (hn : (Nl.limbs n).length ≤ 1024) :
    Calls Tryz.prog 27 #[va, vb] w fun e w' => Gives w w' e (mulC m n) (if mulC m n = 0 then Nl.limbs (m * n) else []) := by
  have h := mul_any va vb _ _ w ha hb (Nl.limbs_small m) (Nl.limbs_small n)
  rw [Nl.val_limbs, Nl.val_limbs] at h
  refine h.mono ?_
  rintro e w' hr
  have hg := hr.gives
  have hk : mulK 1 80 m n = if m = 0 ∨ n = 0 ∨ (Nl.limbs m).length + (Nl.limbs n).length ≤ 1025 then 0 else 2 := by
    rw [mulK, if_neg (fun h => absurd h.2 (by decide))]
  have e0 : errOf (validB (Nl.limbs m) && validB (Nl.limbs n)) (mulK 1 80 m n) (m * n) = mulC m n := by
    rw [validB_limbs hm, validB_limbs hn, hk]
    show errOf true _ _ = _
    rw [errOf_ok, mulC]
    by_cases h1 : m = 0 ∨ n = 0 ∨ (Nl.limbs m).length + (Nl.limbs n).length ≤ 1025
    · rw [if_pos h1, codeOf, if_neg (by decide)]
    · rw [if_neg h1, codeOf, if_pos (by decide), if_neg]
      intro h2
      have := len_mul_le (m := m) (n := n) (fun h => h1 (.inl h)) (fun h => h1 (.inr (.inl h)))
      exact h1 (.inr (.inr (by omega)))
  rw [numOf, e0] at hg
  exact hg
theorem mul_fits (va vb : Value) (m n : Nat) (w : World) (ha : At w va (Nl.limbs m)) (hb : At w vb (Nl.limbs n)) (hm : (Nl.limbs m).length ≤ 1024) (hn : (Nl.limbs n).length ≤ 1024) (hf : (Nl.limbs (m * n)).length ≤ 1024) :
    Calls Tryz.prog 27 #[va, vb] w fun e w' => GivesN w w' e (m * n) := by
  refine (mul_gen va vb m n w ha hb hm hn).mono ?_
  rintro e w' ⟨v, he, hv, hb⟩
  rw [show mulC m n = 0 by rw [mulC, if_pos hf]] at he hv
  exact ⟨v, he, hv, hb⟩
/-- a sum of valid numbers: its error, and its words -/
def addC (m n : Nat) : Int := if (Nl.limbs (m + n)).length ≤ 1024 then 0 else 2
theorem add_gen (va vb : Value) (m n : Nat) (w : World) (ha : At w va (Nl.limbs m)) (hb : At w vb (Nl.limbs n)) (hm : (Nl.limbs m).length ≤ 1024) (hn : (Nl.limbs n).length ≤ 1024) :
    Calls Tryz.prog 19 #[va, vb] w fun e w' => Gives w w' e (addC m n) (if addC m n = 0 then Nl.limbs (m + n) else []) := by
  have h := add_any va vb _ _ w ha hb (Nl.limbs_small m) (Nl.limbs_small n)
  rw [Nl.val_limbs, Nl.val_limbs] at h
  refine h.mono ?_
  rintro e w' hr
  have hg := hr.gives
  have e0 : errOf (validB (Nl.limbs m) && validB (Nl.limbs n)) 0 (m + n) = addC m n := by
    rw [validB_limbs hm, validB_limbs hn]
    show errOf true _ _ = _
    rw [errOf_ok, codeOf, addC, if_neg (by decide)]
  rw [numOf, e0] at hg
  exact hg
theorem add_fits (va vb : Value) (m n : Nat) (w : World) (ha : At w va (Nl.limbs m)) (hb : At w vb (Nl.limbs n)) (hm : (Nl.limbs m).length ≤ 1024) (hn : (Nl.limbs n).length ≤ 1024) (hf : (Nl.limbs (m + n)).length ≤ 1024) :
    Calls Tryz.prog 19 #[va, vb] w fun e w' => GivesN w w' e (m + n) := by
  refine (add_gen va vb m n w ha hb hm hn).mono ?_
  rintro e w' ⟨v, he, hv, hb⟩
  rw [show addC m n = 0 by rw [addC, if_pos hf]] at he hv
  exact ⟨v, he, hv, hb⟩

theorem given_two' {w : World} {va vb : Value} {xs ys : List Nat} (ha : At w va xs) (hb : At w vb ys) : Given (w.alloc (.cells #[va, vb] 23)) w.heap.size [(va, xs), (vb, ys)] := by
  have hbl := below_new w (.cells #[va, vb] 23)
  have e : (w.alloc (.cells #[va, vb] 23)).heap[w.heap.size]? = some (.cells #[va, vb] 23 (0, 0)) := heap_alloc_new _ _
  intro i hi
  have : i = 0 ∨ i = 1 := by simp at hi; omega
  rcases this with rfl | rfl
  · exact ⟨cell_of_row _ _ 0 _ _ (0, 0) e, ha.below hbl⟩
  · exact ⟨cell_of_row _ _ 1 _ _ (0, 0) e, hb.below hbl⟩
theorem given_one' {w : World} {va : Value} {xs : List Nat} (ha : At w va xs) : Given (w.alloc (.cells #[va] 23)) w.heap.size [(va, xs)] := by
  have hbl := below_new w (.cells #[va] 23)
  have e : (w.alloc (.cells #[va] 23)).heap[w.heap.size]? = some (.cells #[va] 23 (0, 0)) := heap_alloc_new _ _
  intro i hi
  have : i = 0 := by simp at hi; omega
  subst this
  exact ⟨cell_of_row _ _ 0 _ _ (0, 0) e, ha.below hbl⟩
theorem numbers_two (va vb : Value) (xs ys : List Nat) (most : Nat) (w : World) (ha : At w va xs) (hb : At w vb ys) (hm : most ≤ 1000000) :
    Calls Tryz.prog 52 #[.int .i64 most, .slice (some ⟨w.heap.size, 0, none⟩) 2 2] (w.alloc (.cells #[va, vb] 23)) fun e w' => e = .returned (.bool (numB most xs && numB most ys)) ∧ w.alloc (.cells #[va, vb] 23) = w' := by
  have h := numbers_any most w.heap.size [(va, xs), (vb, ys)] _ (given_two' ha hb) (by simp) hm
  simpa using h
theorem numbers_one (va : Value) (xs : List Nat) (most : Nat) (w : World) (ha : At w va xs) (hm : most ≤ 1000000) :
    Calls Tryz.prog 52 #[.int .i64 most, .slice (some ⟨w.heap.size, 0, none⟩) 1 1] (w.alloc (.cells #[va] 23)) fun e w' => e = .returned (.bool (numB most xs)) ∧ w.alloc (.cells #[va] 23) = w' := by
  have h := numbers_any most w.heap.size [(va, xs)] _ (given_one' ha) (by simp) hm
  simpa using h
theorem numB_yes {most m : Nat} (h : (Nl.limbs m).length ≤ most) (hm : most ≤ 1024) : numB most (Nl.limbs m) = true := by
  rw [numB, validB_limbs (by omega), decide_eq_true h]; rfl
end Go.Proofs.YtfaledeidjmooaaGreat
