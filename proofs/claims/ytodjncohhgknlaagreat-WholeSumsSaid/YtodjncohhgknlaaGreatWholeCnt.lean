/-
  What ToInt, Sign and Cmp of package whole do. Written by wip/tool/gencnt.py. Conditions: those that each theorem names.
-/
import Derived.Test.YtodjncohhgknlaaGreatWholeOps
namespace Go.Proofs.YtodjncohhgknlaaGreat
open Go.RowKit

def intK (n : Int) : Int := if isInt n then 0 else 3
theorem iint_does (v : Value) (n : Int) (w : World) (h : IsI w v n) (hf : fitI n) :
    Calls Tryz.prog 72 #[v] w fun e w' => Below w.heap.size w w' ∧ ((intK n = 0 ∧ e = .returned (.int .i64 n)) ∨ (intK n ≠ 0 ∧ e = fault (intK n))) := by
  by_cases hn : isInt n
  · exact (iint_yes v n w h hn).mono fun e w' h => ⟨h.2, .inl ⟨by rw [intK, if_pos hn], h.1⟩⟩
  · exact (iint_no v n w h hf hn).mono fun e w' h => ⟨h.2, .inr ⟨by rw [intK, if_neg hn]; decide, by rw [intK, if_neg hn]; exact h.1⟩⟩
theorem isign_does (v : Value) (n : Int) (w : World) (h : IsI w v n) (_hf : fitI n) :
    Calls Tryz.prog 75 #[v] w fun e w' => Below w.heap.size w w' ∧ (((0 : Int) = 0 ∧ e = .returned (.int .i64 (sgnI n))) ∨ ((0 : Int) ≠ 0 ∧ e = fault 0)) :=
  (isign_any v n w h).mono fun _ _ h => ⟨h.2, .inl ⟨rfl, h.1⟩⟩
theorem icompare_does (va vb : Value) (a b : Int) (w : World) (ha : IsI w va a) (hb : IsI w vb b) (la : fitI a) (lb : fitI b) :
    Calls Tryz.prog 78 #[va, vb] w fun e w' => Below w.heap.size w w' ∧ (((0 : Int) = 0 ∧ e = .returned (.int .i64 (cmpI a b))) ∨ ((0 : Int) ≠ 0 ∧ e = fault 0)) :=
  (icompare_any va vb a b w ha hb la lb).mono fun _ _ h => ⟨h.2, .inl ⟨rfl, h.1⟩⟩

/-- what a call gives: a number, or an error -/
def ResC (w w' : World) (e : Ending) (ok : Bool) (k x : Int) : Prop := ∃ c, c = (if ok = true then k else 1) ∧ CntOut w w' e c x
set_option maxHeartbeats 1000000 in
theorem ToInt_1_does (s0 : Bool) (p0 : Option Addr) (l0 c0 : Nat) (a : Int) (K : Nat) (w : World) (h0 : BoxI w (K) s0 p0 l0 c0) (g0 : IsI w (.agg #[.bool s0, .slice p0 l0 c0]) a) (f0 : fitI a) :
    CntDoes 71 #[.pointer (some ⟨K, 0, none⟩)] w (intK a) (a) := by
  intro W hW
  have b0 := (hW.block (K) (lt_of_block h0)).trans h0
  have k00 := cell_of_row _ _ 0 _ _ (0, 0) b0
  have k01 := cell_of_row _ _ 1 _ _ (0, 0) b0
  simp only [List.getElem?_toArray, List.getElem?_cons_zero, List.getElem?_cons_succ] at k00 k01
  have hc := iint_does _ a W (g0.below hW) f0
  obtain ⟨k, hk⟩ : ∃ k : Int, k = intK a := ⟨_, rfl⟩
  obtain ⟨x, hx⟩ : ∃ x : Int, x = a := ⟨_, rfl⟩
  rw [← hk, ← hx] at hc ⊢
  have HC := Lib.hid hc
  clear h0 g0 f0 b0 hW hc hk hx
  go_enter Tryz.func71, Tryz.ntmps71
  go_wp2_with fail
  refine HC.out.mono ?_
  rintro e w1 ⟨hb1, ⟨hf, rfl⟩ | ⟨hf, rfl⟩⟩
  · have HH := Lib.hid (And.intro hb1 hf)
    clear hb1 hf HC
    go_wp2_with fail
    go_ret
    exact ⟨HH.out.1, .inl ⟨HH.out.2, rfl⟩⟩
  · first
      | exact ⟨rfl, hb1, .inr ⟨hf, rfl⟩⟩
      | exact ⟨hb1, .inr ⟨hf, rfl⟩⟩

set_option maxHeartbeats 1000000 in
theorem wholeToInt_any (v0 : Value) (s0 : Bool) (xs : List Nat) (w : World) (h0 : AtI w v0 s0 xs) (m0 : Nl.Small xs) :
    Calls Tryz.prog 19 #[v0] w fun e w' => ResC w w' e (validI s0 xs) (intK (sgn s0 (Nl.val xs))) ((sgn s0 (Nl.val xs))) := by
  have hmf : ∀ (fn : Fn) (first cap : Array Value) (w : World), (Instr.makeFunc fn first cap).run Tryz.prog w = .ok (.func fn first cap) w := fun _ _ _ _ => rfl
  obtain ⟨p0, c0, rfl, u0⟩ := h0.form
  obtain ⟨W, hW⟩ : ∃ W, W = (w.alloc (.cells #[.bool s0, .slice p0 xs.length c0] 25)).alloc (.cells #[.bool s0, .slice p0 xs.length c0] 25) := ⟨_, rfl⟩
  have hb : Below w.heap.size w W := by rw [hW]; exact (((Below.refl _ _).alloc (by simp <;> omega) _).alloc (by simp <;> omega) _)
  have hs : W.heap.size = w.heap.size + 2 := by rw [hW]; simp
  have B0 : W.heap[w.heap.size + 0]? = some (.cells #[.bool s0, .slice p0 xs.length c0] 25 (0, 0)) := by rw [hW]; exact al_keep _ _ (by simp <;> omega) (al_at _ _ (by simp))
  have B1 : W.heap[w.heap.size + 1]? = some (.cells #[.bool s0, .slice p0 xs.length c0] 25 (0, 0)) := by rw [hW]; exact al_at _ _ (by simp)
  have HO := Lib.hid (icount_any 71 #[.pointer (some ⟨w.heap.size, 0, none⟩)] W (intK (sgn s0 (Nl.val xs))) ((sgn s0 (Nl.val xs))) (w.heap.size + 1) [(s0, .slice p0 xs.length c0, xs)] (givenI_one (w.heap.size + 1) B1 (u0.below hb)) (by omega) (by simp) (fun hall => by
    have o0 := isI_of_ok (u0.below hb) m0 (hall (s0, .slice p0 xs.length c0, xs) (by simp))
    exact ToInt_1_does _ _ _ _ _ w.heap.size W B0 o0.1 o0.2) (fun _ _ => by kernel_rfl))
  have HB := Lib.hid hb
  clear h0 u0 m0 hb hs B0 B1
  go_enter Tryz.func19, Tryz.ntmps19
  go_wp2_with fail
  rw [← hW]
  clear hW
  refine HO.out.mono ?_
  rintro e w1 ⟨c, hc, rfl, hb1⟩
  have HR := Lib.hid (And.intro hc hb1)
  clear hc hb1 HO
  obtain ⟨y, hy⟩ : ∃ y : Int, y = if c = 0 then (sgn s0 (Nl.val xs)) else 0 := ⟨_, rfl⟩
  rw [← hy]
  have HY := Lib.hid hy
  clear hy
  go_wp2_with fail
  go_ret2
  refine ⟨c, ?_, by rw [← HY.out]; rfl, HB.out.trans (HR.out.2.mono HB.out.size)⟩
  rcases HR.out.1 with ⟨hall, h1⟩ | ⟨⟨q, hq, h5⟩, h1⟩
  · rw [h1, if_pos (by exact hall (s0, .slice p0 xs.length c0, xs) (by simp))]
  · rw [h1, if_neg]
    intro hok
    simp only [List.mem_singleton] at hq; subst hq; exact Bool.noConfusion (h5.symm.trans hok)

set_option maxHeartbeats 1000000 in
theorem Sign_1_does (s0 : Bool) (p0 : Option Addr) (l0 c0 : Nat) (a : Int) (K : Nat) (w : World) (h0 : BoxI w (K) s0 p0 l0 c0) (g0 : IsI w (.agg #[.bool s0, .slice p0 l0 c0]) a) (f0 : fitI a) :
    CntDoes 74 #[.pointer (some ⟨K, 0, none⟩)] w (0) (sgnI a) := by
  intro W hW
  have b0 := (hW.block (K) (lt_of_block h0)).trans h0
  have k00 := cell_of_row _ _ 0 _ _ (0, 0) b0
  have k01 := cell_of_row _ _ 1 _ _ (0, 0) b0
  simp only [List.getElem?_toArray, List.getElem?_cons_zero, List.getElem?_cons_succ] at k00 k01
  have hc := isign_does _ a W (g0.below hW) f0
  obtain ⟨x, hx⟩ : ∃ x : Int, x = sgnI a := ⟨_, rfl⟩
  rw [← hx] at hc ⊢
  have HC := Lib.hid hc
  clear h0 g0 f0 b0 hW hc hx
  go_enter Tryz.func74, Tryz.ntmps74
  go_wp2_with fail
  refine HC.out.mono ?_
  rintro e w1 ⟨hb1, ⟨hf, rfl⟩ | ⟨hf, rfl⟩⟩
  · have HH := Lib.hid (And.intro hb1 hf)
    clear hb1 hf HC
    go_wp2_with fail
    go_ret
    exact ⟨HH.out.1, .inl ⟨HH.out.2, rfl⟩⟩
  · first
      | exact ⟨rfl, hb1, .inr ⟨hf, rfl⟩⟩
      | exact ⟨hb1, .inr ⟨hf, rfl⟩⟩

set_option maxHeartbeats 1000000 in
theorem wholeSign_any (v0 : Value) (s0 : Bool) (xs : List Nat) (w : World) (h0 : AtI w v0 s0 xs) (m0 : Nl.Small xs) :
    Calls Tryz.prog 21 #[v0] w fun e w' => ResC w w' e (validI s0 xs) (0) (sgnI (sgn s0 (Nl.val xs))) := by
  have hmf : ∀ (fn : Fn) (first cap : Array Value) (w : World), (Instr.makeFunc fn first cap).run Tryz.prog w = .ok (.func fn first cap) w := fun _ _ _ _ => rfl
  obtain ⟨p0, c0, rfl, u0⟩ := h0.form
  obtain ⟨W, hW⟩ : ∃ W, W = (w.alloc (.cells #[.bool s0, .slice p0 xs.length c0] 25)).alloc (.cells #[.bool s0, .slice p0 xs.length c0] 25) := ⟨_, rfl⟩
  have hb : Below w.heap.size w W := by rw [hW]; exact (((Below.refl _ _).alloc (by simp <;> omega) _).alloc (by simp <;> omega) _)
  have hs : W.heap.size = w.heap.size + 2 := by rw [hW]; simp
  have B0 : W.heap[w.heap.size + 0]? = some (.cells #[.bool s0, .slice p0 xs.length c0] 25 (0, 0)) := by rw [hW]; exact al_keep _ _ (by simp <;> omega) (al_at _ _ (by simp))
  have B1 : W.heap[w.heap.size + 1]? = some (.cells #[.bool s0, .slice p0 xs.length c0] 25 (0, 0)) := by rw [hW]; exact al_at _ _ (by simp)
  have HO := Lib.hid (icount_any 74 #[.pointer (some ⟨w.heap.size, 0, none⟩)] W (0) (sgnI (sgn s0 (Nl.val xs))) (w.heap.size + 1) [(s0, .slice p0 xs.length c0, xs)] (givenI_one (w.heap.size + 1) B1 (u0.below hb)) (by omega) (by simp) (fun hall => by
    have o0 := isI_of_ok (u0.below hb) m0 (hall (s0, .slice p0 xs.length c0, xs) (by simp))
    exact Sign_1_does _ _ _ _ _ w.heap.size W B0 o0.1 o0.2) (fun _ _ => by kernel_rfl))
  have HB := Lib.hid hb
  clear h0 u0 m0 hb hs B0 B1
  go_enter Tryz.func21, Tryz.ntmps21
  go_wp2_with fail
  rw [← hW]
  clear hW
  refine HO.out.mono ?_
  rintro e w1 ⟨c, hc, rfl, hb1⟩
  have HR := Lib.hid (And.intro hc hb1)
  clear hc hb1 HO
  obtain ⟨y, hy⟩ : ∃ y : Int, y = if c = 0 then sgnI (sgn s0 (Nl.val xs)) else 0 := ⟨_, rfl⟩
  rw [← hy]
  have HY := Lib.hid hy
  clear hy
  go_wp2_with fail
  go_ret2
  refine ⟨c, ?_, by rw [← HY.out]; rfl, HB.out.trans (HR.out.2.mono HB.out.size)⟩
  rcases HR.out.1 with ⟨hall, h1⟩ | ⟨⟨q, hq, h5⟩, h1⟩
  · rw [h1, if_pos (by exact hall (s0, .slice p0 xs.length c0, xs) (by simp))]
  · rw [h1, if_neg]
    intro hok
    simp only [List.mem_singleton] at hq; subst hq; exact Bool.noConfusion (h5.symm.trans hok)

set_option maxHeartbeats 1000000 in
theorem Cmp_1_does (s0 : Bool) (p0 : Option Addr) (l0 c0 : Nat) (a : Int) (s1 : Bool) (p1 : Option Addr) (l1 c1 : Nat) (b : Int) (K : Nat) (w : World) (h0 : BoxI w (K) s0 p0 l0 c0) (g0 : IsI w (.agg #[.bool s0, .slice p0 l0 c0]) a) (f0 : fitI a) (h1 : BoxI w (K + 1) s1 p1 l1 c1) (g1 : IsI w (.agg #[.bool s1, .slice p1 l1 c1]) b) (f1 : fitI b) :
    CntDoes 77 #[.pointer (some ⟨K, 0, none⟩), .pointer (some ⟨K + 1, 0, none⟩)] w (0) (cmpI a b) := by
  intro W hW
  have b0 := (hW.block (K) (lt_of_block h0)).trans h0
  have k00 := cell_of_row _ _ 0 _ _ (0, 0) b0
  have k01 := cell_of_row _ _ 1 _ _ (0, 0) b0
  have b1 := (hW.block (K + 1) (lt_of_block h1)).trans h1
  have k10 := cell_of_row _ _ 0 _ _ (0, 0) b1
  have k11 := cell_of_row _ _ 1 _ _ (0, 0) b1
  simp only [List.getElem?_toArray, List.getElem?_cons_zero, List.getElem?_cons_succ] at k00 k01 k10 k11
  have hc := icompare_does _ _ a b W (g0.below hW) (g1.below hW) f0 f1
  obtain ⟨x, hx⟩ : ∃ x : Int, x = cmpI a b := ⟨_, rfl⟩
  rw [← hx] at hc ⊢
  have HC := Lib.hid hc
  clear h0 g0 f0 b0 h1 g1 f1 b1 hW hc hx
  go_enter Tryz.func77, Tryz.ntmps77
  go_wp2_with fail
  refine HC.out.mono ?_
  rintro e w1 ⟨hb1, ⟨hf, rfl⟩ | ⟨hf, rfl⟩⟩
  · have HH := Lib.hid (And.intro hb1 hf)
    clear hb1 hf HC
    go_wp2_with fail
    go_ret
    exact ⟨HH.out.1, .inl ⟨HH.out.2, rfl⟩⟩
  · first
      | exact ⟨rfl, hb1, .inr ⟨hf, rfl⟩⟩
      | exact ⟨hb1, .inr ⟨hf, rfl⟩⟩

set_option maxHeartbeats 1000000 in
theorem wholeCmp_any (v0 : Value) (s0 : Bool) (xs : List Nat) (v1 : Value) (s1 : Bool) (ys : List Nat) (w : World) (h0 : AtI w v0 s0 xs) (m0 : Nl.Small xs) (h1 : AtI w v1 s1 ys) (m1 : Nl.Small ys) :
    Calls Tryz.prog 23 #[v0, v1] w fun e w' => ResC w w' e (validI s0 xs && validI s1 ys) (0) (cmpI (sgn s0 (Nl.val xs)) (sgn s1 (Nl.val ys))) := by
  have hmf : ∀ (fn : Fn) (first cap : Array Value) (w : World), (Instr.makeFunc fn first cap).run Tryz.prog w = .ok (.func fn first cap) w := fun _ _ _ _ => rfl
  obtain ⟨p0, c0, rfl, u0⟩ := h0.form
  obtain ⟨p1, c1, rfl, u1⟩ := h1.form
  obtain ⟨W, hW⟩ : ∃ W, W = ((w.alloc (.cells #[.bool s0, .slice p0 xs.length c0] 25)).alloc (.cells #[.bool s1, .slice p1 ys.length c1] 25)).alloc (.cells #[.bool s0, .slice p0 xs.length c0, .bool s1, .slice p1 ys.length c1] 25) := ⟨_, rfl⟩
  have hb : Below w.heap.size w W := by rw [hW]; exact ((((Below.refl _ _).alloc (by simp <;> omega) _).alloc (by simp <;> omega) _).alloc (by simp <;> omega) _)
  have hs : W.heap.size = w.heap.size + 3 := by rw [hW]; simp
  have B0 : W.heap[w.heap.size + 0]? = some (.cells #[.bool s0, .slice p0 xs.length c0] 25 (0, 0)) := by rw [hW]; exact al_keep _ _ (by simp <;> omega) (al_keep _ _ (by simp <;> omega) (al_at _ _ (by simp)))
  have B1 : W.heap[w.heap.size + 1]? = some (.cells #[.bool s1, .slice p1 ys.length c1] 25 (0, 0)) := by rw [hW]; exact al_keep _ _ (by simp <;> omega) (al_at _ _ (by simp))
  have B2 : W.heap[w.heap.size + 2]? = some (.cells #[.bool s0, .slice p0 xs.length c0, .bool s1, .slice p1 ys.length c1] 25 (0, 0)) := by rw [hW]; exact al_at _ _ (by simp)
  have HO := Lib.hid (icount_any 77 #[.pointer (some ⟨w.heap.size, 0, none⟩), .pointer (some ⟨w.heap.size + 1, 0, none⟩)] W (0) (cmpI (sgn s0 (Nl.val xs)) (sgn s1 (Nl.val ys))) (w.heap.size + 2) [(s0, .slice p0 xs.length c0, xs), (s1, .slice p1 ys.length c1, ys)] (givenI_two (w.heap.size + 2) B2 (u0.below hb) (u1.below hb)) (by omega) (by simp) (fun hall => by
    have o0 := isI_of_ok (u0.below hb) m0 (hall (s0, .slice p0 xs.length c0, xs) (by simp))
    have o1 := isI_of_ok (u1.below hb) m1 (hall (s1, .slice p1 ys.length c1, ys) (by simp))
    exact Cmp_1_does _ _ _ _ _ _ _ _ _ _ w.heap.size W B0 o0.1 o0.2 B1 o1.1 o1.2) (fun _ _ => by kernel_rfl))
  have HB := Lib.hid hb
  clear h0 u0 m0 h1 u1 m1 hb hs B0 B1 B2
  go_enter Tryz.func23, Tryz.ntmps23
  go_wp2_with fail
  rw [← hW]
  clear hW
  refine HO.out.mono ?_
  rintro e w1 ⟨c, hc, rfl, hb1⟩
  have HR := Lib.hid (And.intro hc hb1)
  clear hc hb1 HO
  obtain ⟨y, hy⟩ : ∃ y : Int, y = if c = 0 then cmpI (sgn s0 (Nl.val xs)) (sgn s1 (Nl.val ys)) else 0 := ⟨_, rfl⟩
  rw [← hy]
  have HY := Lib.hid hy
  clear hy
  go_wp2_with fail
  go_ret2
  refine ⟨c, ?_, by rw [← HY.out]; rfl, HB.out.trans (HR.out.2.mono HB.out.size)⟩
  rcases HR.out.1 with ⟨hall, h1⟩ | ⟨⟨q, hq, h5⟩, h1⟩
  · rw [h1, if_pos (by rw [Bool.and_eq_true]; exact ⟨hall (s0, .slice p0 xs.length c0, xs) (by simp), hall (s1, .slice p1 ys.length c1, ys) (by simp)⟩)]
  · rw [h1, if_neg]
    intro hok
    rw [Bool.and_eq_true] at hok; simp only [List.mem_cons, List.not_mem_nil, or_false] at hq; rcases hq with rfl | rfl; exact Bool.noConfusion (h5.symm.trans hok.1); exact Bool.noConfusion (h5.symm.trans hok.2)

end Go.Proofs.YtodjncohhgknlaaGreat
