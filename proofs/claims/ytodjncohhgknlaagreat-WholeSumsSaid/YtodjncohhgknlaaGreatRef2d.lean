/-
  What the reference's limited, Neg, Add, Sub, Mul, Sign and Cmp of integers do, and the law's got. Conditions: those that each theorem names.
-/
import Derived.Test.YtodjncohhgknlaaGreatRef2c
import Derived.Test.YtodjncohhgknlaaGreatGcdI
namespace Go.Proofs.YtodjncohhgknlaaGreat
open Go.RowKit

theorem sameB_refl (xs : List Nat) : sameB xs xs = true := decide_eq_true rfl
/-- what the reference gives: an integer, or an error -/
instance (n : Int) : Decidable (fitI n) := inferInstanceAs (Decidable (_ ≤ _))
def GotV (w : World) (k : Int) (n : Int) (s : Bool) (p : Option Addr) (l c : Nat) : Prop := (k = 0 → IsI w (.agg #[.bool s, .slice p l c]) n) ∧ (k ≠ 0 → s = false ∧ p = none ∧ l = 0 ∧ c = 0)
def GotI (w w' : World) (e : Ending) (k : Int) (n : Int) : Prop := Below w.heap.size w w' ∧ ∃ s p l c, e = .returned (.agg #[.bool s, .slice p l c, .int .i64 k]) ∧ GotV w' k n s p l c
theorem got_set {w : World} {g : Nat} {T : TypeId} {a b c : Value} (a' b' c' : Value) (h : w.heap[g]? = some (.cells #[a, b, c] T (0, 0))) : (((w.setCell ⟨g, 0, none⟩ a').setCell ⟨g, 1, none⟩ b').setCell ⟨g, 2, none⟩ c').heap[g]? = some (.cells #[a', b', c'] T (0, 0)) := row_set a' b' c' h
theorem at_set32 {q : Nat → Prop} {w : World} {g j : Nat} {T : TypeId} {cs : Array Value} {v : Value} {xs : List Nat} (u : Value) (h : AtP q w v xs) (hbx : w.heap[g]? = some (.cells cs T (0, 0))) (hcs : ∀ (i : Nat) (x : Int), cs[i]? ≠ some (.int .u32 x)) : AtP q (w.setCell ⟨g, j, none⟩ u) v xs := by
  rcases h with h | ⟨b, off, cap, h1, h2, h3, h4, h5, h6⟩
  · exact .inl h
  · refine .inr ⟨b, off, cap, h1, h2, h3, h4, by simpa [World.setCell] using h5, fun i hi => ?_⟩
    have hc := h6 i hi
    by_cases hb : b = g
    · subst hb
      rw [cell_of_row w b (off + i) _ _ _ hbx] at hc
      exact absurd hc (hcs _ _)
    · exact (Only.setCell g j u w).cell hc (by simpa using hb)
theorem isI_three {w : World} {g : Nat} {T : TypeId} {s t : Bool} {p q : Option Addr} {l c m d : Nat} {j k : Int} {n : Int} (h : IsI w (.agg #[.bool t, .slice q m d]) n) (hbx : w.heap[g]? = some (.cells #[.bool s, .slice p l c, .int .i64 j] T (0, 0))) :
    IsI (((w.setCell ⟨g, 0, none⟩ (.bool t)).setCell ⟨g, 1, none⟩ (.slice q m d)).setCell ⟨g, 2, none⟩ (.int .i64 k)) (.agg #[.bool t, .slice q m d]) n := by
  obtain ⟨u, hu1, hu2⟩ := h
  simp only [Value.agg.injEq, Array.mk.injEq, List.cons.injEq, Value.bool.injEq, and_true] at hu1
  obtain ⟨rfl, rfl⟩ := hu1
  have n1 : ∀ (s : Bool) (p : Option Addr) (l c : Nat) (j : Int) (i : Nat) (x : Int), (#[Value.bool s, Value.slice p l c, Value.int .i64 j] : Array Value)[i]? ≠ some (.int .u32 x) := fun s p l c j i x => by
    match i with
    | 0 => simp
    | 1 => simp
    | 2 => simp
    | j + 3 => simp
  have h1 := heap_setCell_same w g 0 _ _ (.bool (negB n)) hbx
  have h2 := heap_setCell_same _ g 1 _ _ (.slice q m d) h1
  exact AtI.mk (at_set32 _ (at_set32 _ (at_set32 _ hu2 hbx (n1 _ _ _ _ _)) h1 (n1 _ _ _ _ _)) h2 (n1 _ _ _ _ _))

theorem fits_num (v : Value) (n : Int) (w : World) (h : At w v (Nl.limbs n.natAbs)) : Calls Tryz.prog 155 #[v] w fun e w' => e = .returned (.bool (decide (fitI n))) ∧ w = w' := fits_any v _ w h

set_option maxHeartbeats 1000000 in
theorem limited_law (v : Value) (n : Int) (w : World) (h : IsI w v n) :
    Calls Tryz.prog 97 #[v] w fun e w' => GotI w w' e (codeI 0 n) n := by
  obtain ⟨a, c, rfl, hu⟩ := h.form
  obtain ⟨W, hW⟩ : ∃ W, W = (w.alloc (.cells #[.bool (negB n), .slice a (Nl.limbs n.natAbs).length c] 25)).alloc (.cells #[.bool false, .slice none 0 0, .int .i64 0] 41) := ⟨_, rfl⟩
  have hb : Below w.heap.size w W := by rw [hW]; exact two_new w _ _
  have hP : W.heap[w.heap.size]? = some (.cells #[.bool (negB n), .slice a (Nl.limbs n.natAbs).length c] 25 (0, 0)) := by rw [hW]; exact heap_alloc2_old w _ _
  have hQ : W.heap[w.heap.size + 1]? = some (.cells #[.bool false, .slice none 0 0, .int .i64 0] 41 (0, 0)) := by rw [hW]; exact heap_alloc2_new w _ _
  have k0 := cell_of_row _ _ 0 _ _ (0, 0) hP
  have k1 := cell_of_row _ _ 1 _ _ (0, 0) hP
  have g0 := cell_of_row _ _ 0 _ _ (0, 0) hQ
  have g1 := cell_of_row _ _ 1 _ _ (0, 0) hQ
  have g2 := cell_of_row _ _ 2 _ _ (0, 0) hQ
  simp only [List.getElem?_toArray, List.getElem?_cons_zero, List.getElem?_cons_succ] at k0 k1 g0 g1 g2
  have f0 := frozen_of_row _ _ 0 _ _ hQ
  have f1 := frozen_of_row _ _ 1 _ _ hQ
  have f2 := frozen_of_row _ _ 2 _ _ hQ
  have HF := fits_num _ n W (hu.below hb)
  have HB := Lib.hid (And.intro hb (And.intro hQ (AtI.mk (s := negB n) (hu.below hb))))
  by_cases hf : fitI n
  · rw [decide_eq_true hf] at HF
    have HC := Lib.hid (codeI_fit hf)
    have HF' := Lib.hid HF
    clear h hu hb hP hQ HF hf
    rw [HC.out]
    go_enter Tryz.func97, Tryz.ntmps97
    go_upto_region 1 with fail
    rw [← hW]
    clear hW
    go_wp2_with (go_at_call 155; refine HF'.out.mono ?_; rintro e w' ⟨rfl, rfl⟩)
    refine bodyPost_ret (v := .agg #[.bool (negB n), .slice a (Nl.limbs n.natAbs).length c, .int .i64 0]) (results_cell_row Tryz.results97 _ _ (w.heap.size + 1) 41 _ (0, 0) _ rfl (got_set _ _ _ HB.out.2.1) Tryz.underlying41 rfl (by kernel_rfl)) rfl ?_
    exact ⟨below_row HB.out.1 (Nat.le_succ _) _ _ _, _, _, _, _, rfl, fun _ => isI_three HB.out.2.2 HB.out.2.1, fun h => absurd rfl h⟩
  · rw [decide_eq_false hf] at HF
    have HC := Lib.hid (codeI_no hf)
    have HF' := Lib.hid HF
    clear h hu hb hP hQ HF hf
    rw [HC.out]
    go_enter Tryz.func97, Tryz.ntmps97
    go_upto_region 1 with fail
    rw [← hW]
    clear hW
    go_wp2_with (go_at_call 155; refine HF'.out.mono ?_; rintro e w' ⟨rfl, rfl⟩)
    refine bodyPost_ret (v := .agg #[.bool false, .slice none 0 0, .int .i64 2]) (results_cell_row Tryz.results97 _ _ (w.heap.size + 1) 41 _ (0, 0) _ rfl (got_set _ _ _ HB.out.2.1) Tryz.underlying41 rfl (by kernel_rfl)) rfl ?_
    exact ⟨below_row HB.out.1 (Nat.le_succ _) _ _ _, _, _, _, _, rfl, fun h => absurd h (by decide), fun _ => ⟨rfl, rfl, rfl, rfl⟩⟩

set_option maxHeartbeats 1000000 in
/-- two results that are the same -/
theorem got_yes (s t : Bool) (p q : Option Addr) (l c m d : Nat) (k : Int) (n : Int) (w : World) (h1 : GotV w k n s p l c) (h2 : GotV w k n t q m d) :
    Calls Tryz.prog 34 #[.agg #[.bool s, .slice p l c], .int .i64 k, .agg #[.bool t, .slice q m d, .int .i64 k]] w fun e w' => e = .returned (.bool true) ∧ Below w.heap.size w w' := by
  obtain ⟨W, hW⟩ : ∃ W, W = (w.alloc (.cells #[.bool s, .slice p l c] 25)).alloc (.cells #[.bool t, .slice q m d, .int .i64 k] 41) := ⟨_, rfl⟩
  have hb : Below w.heap.size w W := by rw [hW]; exact two_new w _ _
  have hP : W.heap[w.heap.size]? = some (.cells #[.bool s, .slice p l c] 25 (0, 0)) := by rw [hW]; exact heap_alloc2_old w _ _
  have hQ : W.heap[w.heap.size + 1]? = some (.cells #[.bool t, .slice q m d, .int .i64 k] 41 (0, 0)) := by rw [hW]; exact heap_alloc2_new w _ _
  have hsame : Calls Tryz.prog 27 #[.agg #[.bool s, .slice p l c], .agg #[.bool t, .slice q m d]] W fun e w' => e = .returned (.bool true) ∧ Below W.heap.size W w' := by
    by_cases h0 : k = 0
    · have a1 := (h1.1 h0).below hb
      have a2 := (h2.1 h0).below hb
      have e1 := a1
      obtain ⟨u1, x1, y1⟩ := a1
      obtain ⟨u2, x2, y2⟩ := a2
      simp only [Value.agg.injEq, Array.mk.injEq, List.cons.injEq, Value.bool.injEq, and_true] at x1 x2
      obtain ⟨rfl, rfl⟩ := x1
      obtain ⟨rfl, rfl⟩ := x2
      have := ref2Same_any _ _ (negB n) (negB n) _ _ W (AtI.mk y1) (AtI.mk y2)
      rwa [sameB_refl, show (negB n == negB n) = true by simp] at this
    · obtain ⟨rfl, rfl, rfl, rfl⟩ := h1.2 h0
      obtain ⟨rfl, rfl, rfl, rfl⟩ := h2.2 h0
      exact ref2Same_any _ _ false false [] [] W (AtI.mk (.inl ⟨rfl, rfl⟩)) (AtI.mk (.inl ⟨rfl, rfl⟩))
  have HS := Lib.hid hsame
  have k0 := cell_of_row _ _ 0 _ _ (0, 0) hP
  have k1 := cell_of_row _ _ 1 _ _ (0, 0) hP
  have g0 := cell_of_row _ _ 0 _ _ (0, 0) hQ
  have g1 := cell_of_row _ _ 1 _ _ (0, 0) hQ
  have g2 := cell_of_row _ _ 2 _ _ (0, 0) hQ
  simp only [List.getElem?_toArray, List.getElem?_cons_zero, List.getElem?_cons_succ] at k0 k1 g0 g1 g2
  have HB := Lib.hid hb
  clear h1 h2 hb hP hQ hsame
  go_enter Tryz.func34, Tryz.ntmps34
  go_upto_region 1 with fail
  rw [← hW]
  clear hW
  go_wp2_with fail
  refine HS.out.mono ?_
  rintro e w1 ⟨rfl, hb1⟩
  have HB1 := Lib.hid (HB.out.trans (hb1.mono HB.out.size))
  clear hb1 HS
  go_wp2_with fail
  go_ret
  exact ⟨rfl, HB1.out⟩
end Go.Proofs.YtodjncohhgknlaaGreat
