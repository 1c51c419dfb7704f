/-
  What Mul, School and Karatsuba do. Conditions: those that each theorem names.
-/
import Derived.Test.YtikgfdkaikpmhaaGreatMul
namespace Go.Proofs.YtikgfdkaikpmhaaGreat
open Go.RowKit

/-- four cells and a row of two numbers -/
theorem boxes4 (w : World) (a b c d x y : Value) (t1 t2 t3 t4 t5 : TypeId) (W : World)
    (hW : W = ((((w.alloc (.cells #[a] t1)).alloc (.cells #[b] t2)).alloc (.cells #[c] t3)).alloc (.cells #[d] t4)).alloc (.cells #[x, y] t5)) :
    Below w.heap.size w W ∧ W.heap.size = w.heap.size + 5 ∧ W.cell? ⟨w.heap.size, 0, none⟩ = some a ∧ W.cell? ⟨w.heap.size + 1, 0, none⟩ = some b ∧
      W.cell? ⟨w.heap.size + 1 + 1, 0, none⟩ = some c ∧ W.cell? ⟨w.heap.size + 1 + 1 + 1, 0, none⟩ = some d ∧
      W.cell? ⟨w.heap.size + 1 + 1 + 1 + 1, 0, none⟩ = some x ∧ W.cell? ⟨w.heap.size + 1 + 1 + 1 + 1, 1, none⟩ = some y := by
  obtain ⟨w1, h1⟩ : ∃ w1, w1 = w.alloc (.cells #[a] t1) := ⟨_, rfl⟩
  obtain ⟨w2, h2⟩ : ∃ w2, w2 = w1.alloc (.cells #[b] t2) := ⟨_, rfl⟩
  obtain ⟨w3, h3⟩ : ∃ w3, w3 = w2.alloc (.cells #[c] t3) := ⟨_, rfl⟩
  obtain ⟨w4, h4⟩ : ∃ w4, w4 = w3.alloc (.cells #[d] t4) := ⟨_, rfl⟩
  rw [← h1, ← h2, ← h3, ← h4] at hW
  have s1 : w1.heap.size = w.heap.size + 1 := by rw [h1]; simp
  have s2 : w2.heap.size = w.heap.size + 1 + 1 := by rw [h2]; simp [s1]
  have s3 : w3.heap.size = w.heap.size + 1 + 1 + 1 := by rw [h3]; simp [s2]
  have s4 : w4.heap.size = w.heap.size + 1 + 1 + 1 + 1 := by rw [h4]; simp [s3]
  have s5 : W.heap.size = w.heap.size + 5 := by rw [hW]; simp [s4]
  have b1 : Below w.heap.size w w1 := by rw [h1]; exact (Below.refl _ _).alloc (Nat.le_refl _) _
  have b2 : Below w1.heap.size w1 w2 := by rw [h2]; exact (Below.refl _ _).alloc (Nat.le_refl _) _
  have b3 : Below w2.heap.size w2 w3 := by rw [h3]; exact (Below.refl _ _).alloc (Nat.le_refl _) _
  have b4 : Below w3.heap.size w3 w4 := by rw [h4]; exact (Below.refl _ _).alloc (Nat.le_refl _) _
  have b5 : Below w4.heap.size w4 W := by rw [hW]; exact (Below.refl _ _).alloc (Nat.le_refl _) _
  have b45 : Below w3.heap.size w3 W := b4.trans (b5.mono (by omega))
  have b35 : Below w2.heap.size w2 W := b3.trans (b45.mono (by omega))
  have b25 : Below w1.heap.size w1 W := b2.trans (b35.mono (by omega))
  have e1 : w1.heap[w.heap.size]? = some (.cells #[a] t1 (0, 0)) := by rw [h1]; exact heap_alloc_new _ _
  have e2 : w2.heap[w.heap.size + 1]? = some (.cells #[b] t2 (0, 0)) := by rw [h2, ← s1]; exact heap_alloc_new _ _
  have e3 : w3.heap[w.heap.size + 1 + 1]? = some (.cells #[c] t3 (0, 0)) := by rw [h3, ← s2]; exact heap_alloc_new _ _
  have e4 : w4.heap[w.heap.size + 1 + 1 + 1]? = some (.cells #[d] t4 (0, 0)) := by rw [h4, ← s3]; exact heap_alloc_new _ _
  have e5 : W.heap[w.heap.size + 1 + 1 + 1 + 1]? = some (.cells #[x, y] t5 (0, 0)) := by rw [hW, ← s4]; exact heap_alloc_new _ _
  refine ⟨b1.trans (b25.mono (by omega)), s5, ?_, ?_, ?_, ?_, cell_of_row _ _ 0 _ _ (0, 0) e5, cell_of_row _ _ 1 _ _ (0, 0) e5⟩
  · exact (b25.cell (p := ⟨w.heap.size, 0, none⟩) (show w.heap.size < w1.heap.size by omega)).trans (cell_of_one e1)
  · exact (b35.cell (p := ⟨w.heap.size + 1, 0, none⟩) (show w.heap.size + 1 < w2.heap.size by omega)).trans (cell_of_one e2)
  · exact (b45.cell (p := ⟨w.heap.size + 1 + 1, 0, none⟩) (show w.heap.size + 1 + 1 < w3.heap.size by omega)).trans (cell_of_one e3)
  · exact (b5.cell (p := ⟨w.heap.size + 1 + 1 + 1, 0, none⟩) (show w.heap.size + 1 + 1 + 1 < w4.heap.size by omega)).trans (cell_of_one e4)

set_option maxHeartbeats 1000000 in
theorem product_of0 (va vb : Value) (xs ys : List Nat) (cut : Int) (w : World) (ha : At w va xs) (hb : At w vb ys) (hsx : Nl.Small xs) (hsy : Nl.Small ys) (h1 : -9223372036854775808 ≤ cut) (h2 : cut ≤ 9223372036854775807) :
    Calls Tryz.prog 67 #[.int .i64 0, va, vb, .int .i64 cut] w fun e w' => Res2 w w' e xs ys (mulK 0 cut (Nl.val xs) (Nl.val ys)) (Nl.val xs * Nl.val ys) := by
  have hmf : ∀ (fn : Fn) (first cap : Array Value) (w : World), (Instr.makeFunc fn first cap).run Tryz.prog w = .ok (.func fn first cap) w := fun _ _ _ _ => rfl
  have HA := Lib.hid ha
  have HB := Lib.hid hb
  obtain ⟨a, ca, rfl, -⟩ := ha.form
  obtain ⟨b, cb, rfl, -⟩ := hb.form
  clear ha hb
  go_enter Tryz.func67, Tryz.ntmps67
  go_wp2_with fail
  obtain ⟨W, hW⟩ : ∃ W, W = ((((w.alloc (.cells #[.int .i64 0] 3)).alloc (.cells #[.slice a xs.length ca] 23)).alloc (.cells #[.slice b ys.length cb] 23)).alloc (.cells #[.int .i64 cut] 3)).alloc (.cells #[.slice a xs.length ca, .slice b ys.length cb] 23) := ⟨_, rfl⟩
  rw [← hW]
  obtain ⟨hbl, hsz, c1, c2, c3, c4, c5, c6⟩ := boxes4 w _ _ _ _ _ _ _ _ _ _ _ W hW
  clear hW
  refine (one_two _ _ w W (mulK 0 cut (Nl.val xs) (Nl.val ys)) (Nl.val xs * Nl.val ys) (w.heap.size + 1 + 1 + 1 + 1) _ _ xs ys hbl (by omega) c5 c6 HA.out HB.out (fun v1 v2 => ?_) (fun _ _ => by kernel_rfl)).mono ?_
  · exact product0_does w.heap.size _ _ _ _ cut W ⟨c1, c2, c3, c4, by omega, (HA.out.num hsx v1).below hbl, (HB.out.num hsy v2).below hbl, (validB_eq hsx v1).2, (validB_eq hsy v2).2, h1, h2⟩
  clear c1 c2 c3 c4 c5 c6 hbl hsz
  rintro e w1 ⟨c, hc, ⟨v, rfl, h2, h3⟩, hb1⟩
  have HR := Lib.hid (And.intro hc (And.intro h2 (And.intro h3 hb1)))
  clear hc h2 h3 hb1
  go_wp2_with fail
  go_ret2
  exact ⟨c, HR.out.1, ⟨v, rfl, HR.out.2.1, HR.out.2.2.1⟩, HR.out.2.2.2⟩

set_option maxHeartbeats 1000000 in
theorem product_of1 (va vb : Value) (xs ys : List Nat) (cut : Int) (w : World) (ha : At w va xs) (hb : At w vb ys) (hsx : Nl.Small xs) (hsy : Nl.Small ys) (h1 : -9223372036854775808 ≤ cut) (h2 : cut ≤ 9223372036854775807) :
    Calls Tryz.prog 67 #[.int .i64 1, va, vb, .int .i64 cut] w fun e w' => Res2 w w' e xs ys (mulK 1 cut (Nl.val xs) (Nl.val ys)) (Nl.val xs * Nl.val ys) := by
  have hmf : ∀ (fn : Fn) (first cap : Array Value) (w : World), (Instr.makeFunc fn first cap).run Tryz.prog w = .ok (.func fn first cap) w := fun _ _ _ _ => rfl
  have HA := Lib.hid ha
  have HB := Lib.hid hb
  obtain ⟨a, ca, rfl, -⟩ := ha.form
  obtain ⟨b, cb, rfl, -⟩ := hb.form
  clear ha hb
  go_enter Tryz.func67, Tryz.ntmps67
  go_wp2_with fail
  obtain ⟨W, hW⟩ : ∃ W, W = ((((w.alloc (.cells #[.int .i64 1] 3)).alloc (.cells #[.slice a xs.length ca] 23)).alloc (.cells #[.slice b ys.length cb] 23)).alloc (.cells #[.int .i64 cut] 3)).alloc (.cells #[.slice a xs.length ca, .slice b ys.length cb] 23) := ⟨_, rfl⟩
  rw [← hW]
  obtain ⟨hbl, hsz, c1, c2, c3, c4, c5, c6⟩ := boxes4 w _ _ _ _ _ _ _ _ _ _ _ W hW
  clear hW
  refine (one_two _ _ w W (mulK 1 cut (Nl.val xs) (Nl.val ys)) (Nl.val xs * Nl.val ys) (w.heap.size + 1 + 1 + 1 + 1) _ _ xs ys hbl (by omega) c5 c6 HA.out HB.out (fun v1 v2 => ?_) (fun _ _ => by kernel_rfl)).mono ?_
  · exact product1_does w.heap.size _ _ _ _ cut W ⟨c1, c2, c3, c4, by omega, (HA.out.num hsx v1).below hbl, (HB.out.num hsy v2).below hbl, (validB_eq hsx v1).2, (validB_eq hsy v2).2, h1, h2⟩
  clear c1 c2 c3 c4 c5 c6 hbl hsz
  rintro e w1 ⟨c, hc, ⟨v, rfl, h2, h3⟩, hb1⟩
  have HR := Lib.hid (And.intro hc (And.intro h2 (And.intro h3 hb1)))
  clear hc h2 h3 hb1
  go_wp2_with fail
  go_ret2
  exact ⟨c, HR.out.1, ⟨v, rfl, HR.out.2.1, HR.out.2.2.1⟩, HR.out.2.2.2⟩

set_option maxHeartbeats 1000000 in
theorem mul_any (va vb : Value) (xs ys : List Nat) (w : World) (ha : At w va xs) (hb : At w vb ys) (hsx : Nl.Small xs) (hsy : Nl.Small ys) :
    Calls Tryz.prog 27 #[va, vb] w fun e w' => Res2 w w' e xs ys (mulK 1 80 (Nl.val xs) (Nl.val ys)) (Nl.val xs * Nl.val ys) := by
  have h := Lib.hid (product_of1 va vb xs ys 80 w ha hb hsx hsy (by decide) (by decide))
  obtain ⟨a, ca, rfl, -⟩ := ha.form
  obtain ⟨b, cb, rfl, -⟩ := hb.form
  clear ha hb
  go_enter Tryz.func27, Tryz.ntmps27
  go_wp2_with fail
  refine h.out.mono ?_
  rintro e w1 ⟨c, hc, ⟨v, rfl, h2, h3⟩, hb1⟩
  have HR := Lib.hid (And.intro hc (And.intro h2 (And.intro h3 hb1)))
  clear hc h2 h3 hb1 h
  go_wp2_with fail
  go_ret2
  exact ⟨c, HR.out.1, ⟨v, rfl, HR.out.2.1, HR.out.2.2.1⟩, HR.out.2.2.2⟩

set_option maxHeartbeats 1000000 in
theorem school_any (va vb : Value) (xs ys : List Nat) (w : World) (ha : At w va xs) (hb : At w vb ys) (hsx : Nl.Small xs) (hsy : Nl.Small ys) :
    Calls Tryz.prog 46 #[va, vb] w fun e w' => Res2 w w' e xs ys (mulK 0 0 (Nl.val xs) (Nl.val ys)) (Nl.val xs * Nl.val ys) := by
  have h := Lib.hid (product_of0 va vb xs ys 0 w ha hb hsx hsy (by decide) (by decide))
  obtain ⟨a, ca, rfl, -⟩ := ha.form
  obtain ⟨b, cb, rfl, -⟩ := hb.form
  clear ha hb
  go_enter Tryz.func46, Tryz.ntmps46
  go_wp2_with fail
  refine h.out.mono ?_
  rintro e w1 ⟨c, hc, ⟨v, rfl, h2, h3⟩, hb1⟩
  have HR := Lib.hid (And.intro hc (And.intro h2 (And.intro h3 hb1)))
  clear hc h2 h3 hb1 h
  go_wp2_with fail
  go_ret2
  exact ⟨c, HR.out.1, ⟨v, rfl, HR.out.2.1, HR.out.2.2.1⟩, HR.out.2.2.2⟩

set_option maxHeartbeats 1000000 in
theorem karatsuba_any (va vb : Value) (xs ys : List Nat) (cut : Int) (w : World) (ha : At w va xs) (hb : At w vb ys) (hsx : Nl.Small xs) (hsy : Nl.Small ys) (h1 : -9223372036854775808 ≤ cut) (h2 : cut ≤ 9223372036854775807) :
    Calls Tryz.prog 47 #[va, vb, .int .i64 cut] w fun e w' => Res2 w w' e xs ys (mulK 1 cut (Nl.val xs) (Nl.val ys)) (Nl.val xs * Nl.val ys) := by
  have h := Lib.hid (product_of1 va vb xs ys cut w ha hb hsx hsy h1 h2)
  obtain ⟨a, ca, rfl, -⟩ := ha.form
  obtain ⟨b, cb, rfl, -⟩ := hb.form
  clear ha hb
  go_enter Tryz.func47, Tryz.ntmps47
  go_wp2_with fail
  refine h.out.mono ?_
  rintro e w1 ⟨c, hc, ⟨v, rfl, h2, h3⟩, hb1⟩
  have HR := Lib.hid (And.intro hc (And.intro h2 (And.intro h3 hb1)))
  clear hc h2 h3 hb1 h
  go_wp2_with fail
  go_ret2
  exact ⟨c, HR.out.1, ⟨v, rfl, HR.out.2.1, HR.out.2.2.1⟩, HR.out.2.2.2⟩

end Go.Proofs.YtikgfdkaikpmhaaGreat
