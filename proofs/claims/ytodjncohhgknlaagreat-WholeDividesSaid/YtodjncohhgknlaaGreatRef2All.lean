/-
  What ToInt, Sign and Cmp of package whole do. Written by wip/tool/gencnt.py. Conditions: those that each theorem names.
  What the reference of integers does: Of, Same, Valid, Opposite, Sgn; and the law's small. Conditions: those that each theorem names.
-/
import Derived.Test.YtodjncohhgknlaaGreatWholeOps
namespace Go.Proofs.YtodjncohhgknlaaGreat
open Go.RowKit

def intK (n : Int) : Int := if isInt n then 0 else 3
theorem iint_does (v : Value) (n : Int) (w : World) (h : IsI w v n) (hf : fitI n) :
    Calls Tryz.prog 72 #[v] w fun e w' => Below w.heap.size w w' ∧ ((intK n = 0 ∧ e = .returned (.int .i64 n)) ∨ (intK n ≠ 0 ∧ e = fault (intK n))) := by
  by_cases hn : isInt n
  · exact (iint_yes v n w h hn).mono fun e w' h => ⟨h.2, .inl ⟨by rw [intK, if_pos hn], h.1⟩⟩
  · exact (iint_no v n w h hf hn).mono fun e w' h => ⟨h.2, .inr ⟨by rw [intK, if_neg hn]; decide, by rw [intK, if_neg hn]; exact h.1⟩⟩
theorem isign_does (v : Value) (n : Int) (w : World) (h : IsI w v n) (_hf : fitI n) :
    Calls Tryz.prog 75 #[v] w fun e w' => Below w.heap.size w w' ∧ (((0 : Int) = 0 ∧ e = .returned (.int .i64 (sgnI n))) ∨ ((0 : Int) ≠ 0 ∧ e = fault 0)) :=
  (isign_any v n w h).mono fun _ _ h => ⟨h.2, .inl ⟨rfl, h.1⟩⟩
theorem icompare_does (va vb : Value) (a b : Int) (w : World) (ha : IsI w va a) (hb : IsI w vb b) (la : fitI a) (lb : fitI b) :
    Calls Tryz.prog 78 #[va, vb] w fun e w' => Below w.heap.size w w' ∧ (((0 : Int) = 0 ∧ e = .returned (.int .i64 (cmpI a b))) ∨ ((0 : Int) ≠ 0 ∧ e = fault 0)) :=
  (icompare_any va vb a b w ha hb la lb).mono fun _ _ h => ⟨h.2, .inl ⟨rfl, h.1⟩⟩

/-- what a call gives: a number, or an error -/
def ResC (w w' : World) (e : Ending) (ok : Bool) (k x : Int) : Prop := ∃ c, c = (if ok = true then k else 1) ∧ CntOut w w' e c x
set_option maxHeartbeats 1000000 in
theorem ToInt_1_does (s0 : Bool) (p0 : Option Addr) (l0 c0 : Nat) (a : Int) (K : Nat) (w : World) (h0 : BoxI w (K) s0 p0 l0 c0) (g0 : IsI w (.agg #[.bool s0, .slice p0 l0 c0]) a) (f0 : fitI a) :
    CntDoes 71 #[.pointer (some ⟨K, 0, none⟩)] w (intK a) (a) := by
  intro W hW
  have b0 := (hW.block (K) (lt_of_block h0)).trans h0
  have k00 := cell_of_row _ _ 0 _ _ (0, 0) b0
  have k01 := cell_of_row _ _ 1 _ _ (0, 0) b0
  simp only [List.getElem?_toArray, List.getElem?_cons_zero, List.getElem?_cons_succ] at k00 k01
  have hc := iint_does _ a W (g0.below hW) f0
  obtain ⟨k, hk⟩ : ∃ k : Int, k = intK a := ⟨_, rfl⟩
  obtain ⟨x, hx⟩ : ∃ x : Int, x = a := ⟨_, rfl⟩
  rw [← hk, ← hx] at hc ⊢
  have HC := Lib.hid hc
  clear h0 g0 f0 b0 hW hc hk hx
  go_enter Tryz.func71, Tryz.ntmps71
  go_wp2_with fail
  refine HC.out.mono ?_
  rintro e w1 ⟨hb1, ⟨hf, rfl⟩ | ⟨hf, rfl⟩⟩
  · have HH := Lib.hid (And.intro hb1 hf)
    clear hb1 hf HC
    go_wp2_with fail
    go_ret
    exact ⟨HH.out.1, .inl ⟨HH.out.2, rfl⟩⟩
  · first
      | exact ⟨rfl, hb1, .inr ⟨hf, rfl⟩⟩
      | exact ⟨hb1, .inr ⟨hf, rfl⟩⟩

set_option maxHeartbeats 1000000 in
theorem wholeToInt_any (v0 : Value) (s0 : Bool) (xs : List Nat) (w : World) (h0 : AtI w v0 s0 xs) (m0 : Nl.Small xs) :
    Calls Tryz.prog 19 #[v0] w fun e w' => ResC w w' e (validI s0 xs) (intK (sgn s0 (Nl.val xs))) ((sgn s0 (Nl.val xs))) := by
  have hmf : ∀ (fn : Fn) (first cap : Array Value) (w : World), (Instr.makeFunc fn first cap).run Tryz.prog w = .ok (.func fn first cap) w := fun _ _ _ _ => rfl
  obtain ⟨p0, c0, rfl, u0⟩ := h0.form
  obtain ⟨W, hW⟩ : ∃ W, W = (w.alloc (.cells #[.bool s0, .slice p0 xs.length c0] 25)).alloc (.cells #[.bool s0, .slice p0 xs.length c0] 25) := ⟨_, rfl⟩
  have hb : Below w.heap.size w W := by rw [hW]; exact (((Below.refl _ _).alloc (by simp <;> omega) _).alloc (by simp <;> omega) _)
  have hs : W.heap.size = w.heap.size + 2 := by rw [hW]; simp
  have B0 : W.heap[w.heap.size + 0]? = some (.cells #[.bool s0, .slice p0 xs.length c0] 25 (0, 0)) := by rw [hW]; exact al_keep _ _ (by simp <;> omega) (al_at _ _ (by simp))
  have B1 : W.heap[w.heap.size + 1]? = some (.cells #[.bool s0, .slice p0 xs.length c0] 25 (0, 0)) := by rw [hW]; exact al_at _ _ (by simp)
  have HO := Lib.hid (icount_any 71 #[.pointer (some ⟨w.heap.size, 0, none⟩)] W (intK (sgn s0 (Nl.val xs))) ((sgn s0 (Nl.val xs))) (w.heap.size + 1) [(s0, .slice p0 xs.length c0, xs)] (givenI_one (w.heap.size + 1) B1 (u0.below hb)) (by omega) (by simp) (fun hall => by
    have o0 := isI_of_ok (u0.below hb) m0 (hall (s0, .slice p0 xs.length c0, xs) (by simp))
    exact ToInt_1_does _ _ _ _ _ w.heap.size W B0 o0.1 o0.2) (fun _ _ => by kernel_rfl))
  have HB := Lib.hid hb
  clear h0 u0 m0 hb hs B0 B1
  go_enter Tryz.func19, Tryz.ntmps19
  go_wp2_with fail
  rw [← hW]
  clear hW
  refine HO.out.mono ?_
  rintro e w1 ⟨c, hc, rfl, hb1⟩
  have HR := Lib.hid (And.intro hc hb1)
  clear hc hb1 HO
  obtain ⟨y, hy⟩ : ∃ y : Int, y = if c = 0 then (sgn s0 (Nl.val xs)) else 0 := ⟨_, rfl⟩
  rw [← hy]
  have HY := Lib.hid hy
  clear hy
  go_wp2_with fail
  go_ret2
  refine ⟨c, ?_, by rw [← HY.out]; rfl, HB.out.trans (HR.out.2.mono HB.out.size)⟩
  rcases HR.out.1 with ⟨hall, h1⟩ | ⟨⟨q, hq, h5⟩, h1⟩
  · rw [h1, if_pos (by exact hall (s0, .slice p0 xs.length c0, xs) (by simp))]
  · rw [h1, if_neg]
    intro hok
    simp only [List.mem_singleton] at hq; subst hq; exact Bool.noConfusion (h5.symm.trans hok)

set_option maxHeartbeats 1000000 in
theorem Sign_1_does (s0 : Bool) (p0 : Option Addr) (l0 c0 : Nat) (a : Int) (K : Nat) (w : World) (h0 : BoxI w (K) s0 p0 l0 c0) (g0 : IsI w (.agg #[.bool s0, .slice p0 l0 c0]) a) (f0 : fitI a) :
    CntDoes 74 #[.pointer (some ⟨K, 0, none⟩)] w (0) (sgnI a) := by
  intro W hW
  have b0 := (hW.block (K) (lt_of_block h0)).trans h0
  have k00 := cell_of_row _ _ 0 _ _ (0, 0) b0
  have k01 := cell_of_row _ _ 1 _ _ (0, 0) b0
  simp only [List.getElem?_toArray, List.getElem?_cons_zero, List.getElem?_cons_succ] at k00 k01
  have hc := isign_does _ a W (g0.below hW) f0
  obtain ⟨x, hx⟩ : ∃ x : Int, x = sgnI a := ⟨_, rfl⟩
  rw [← hx] at hc ⊢
  have HC := Lib.hid hc
  clear h0 g0 f0 b0 hW hc hx
  go_enter Tryz.func74, Tryz.ntmps74
  go_wp2_with fail
  refine HC.out.mono ?_
  rintro e w1 ⟨hb1, ⟨hf, rfl⟩ | ⟨hf, rfl⟩⟩
  · have HH := Lib.hid (And.intro hb1 hf)
    clear hb1 hf HC
    go_wp2_with fail
    go_ret
    exact ⟨HH.out.1, .inl ⟨HH.out.2, rfl⟩⟩
  · first
      | exact ⟨rfl, hb1, .inr ⟨hf, rfl⟩⟩
      | exact ⟨hb1, .inr ⟨hf, rfl⟩⟩

set_option maxHeartbeats 1000000 in
theorem wholeSign_any (v0 : Value) (s0 : Bool) (xs : List Nat) (w : World) (h0 : AtI w v0 s0 xs) (m0 : Nl.Small xs) :
    Calls Tryz.prog 21 #[v0] w fun e w' => ResC w w' e (validI s0 xs) (0) (sgnI (sgn s0 (Nl.val xs))) := by
  have hmf : ∀ (fn : Fn) (first cap : Array Value) (w : World), (Instr.makeFunc fn first cap).run Tryz.prog w = .ok (.func fn first cap) w := fun _ _ _ _ => rfl
  obtain ⟨p0, c0, rfl, u0⟩ := h0.form
  obtain ⟨W, hW⟩ : ∃ W, W = (w.alloc (.cells #[.bool s0, .slice p0 xs.length c0] 25)).alloc (.cells #[.bool s0, .slice p0 xs.length c0] 25) := ⟨_, rfl⟩
  have hb : Below w.heap.size w W := by rw [hW]; exact (((Below.refl _ _).alloc (by simp <;> omega) _).alloc (by simp <;> omega) _)
  have hs : W.heap.size = w.heap.size + 2 := by rw [hW]; simp
  have B0 : W.heap[w.heap.size + 0]? = some (.cells #[.bool s0, .slice p0 xs.length c0] 25 (0, 0)) := by rw [hW]; exact al_keep _ _ (by simp <;> omega) (al_at _ _ (by simp))
  have B1 : W.heap[w.heap.size + 1]? = some (.cells #[.bool s0, .slice p0 xs.length c0] 25 (0, 0)) := by rw [hW]; exact al_at _ _ (by simp)
  have HO := Lib.hid (icount_any 74 #[.pointer (some ⟨w.heap.size, 0, none⟩)] W (0) (sgnI (sgn s0 (Nl.val xs))) (w.heap.size + 1) [(s0, .slice p0 xs.length c0, xs)] (givenI_one (w.heap.size + 1) B1 (u0.below hb)) (by omega) (by simp) (fun hall => by
    have o0 := isI_of_ok (u0.below hb) m0 (hall (s0, .slice p0 xs.length c0, xs) (by simp))
    exact Sign_1_does _ _ _ _ _ w.heap.size W B0 o0.1 o0.2) (fun _ _ => by kernel_rfl))
  have HB := Lib.hid hb
  clear h0 u0 m0 hb hs B0 B1
  go_enter Tryz.func21, Tryz.ntmps21
  go_wp2_with fail
  rw [← hW]
  clear hW
  refine HO.out.mono ?_
  rintro e w1 ⟨c, hc, rfl, hb1⟩
  have HR := Lib.hid (And.intro hc hb1)
  clear hc hb1 HO
  obtain ⟨y, hy⟩ : ∃ y : Int, y = if c = 0 then sgnI (sgn s0 (Nl.val xs)) else 0 := ⟨_, rfl⟩
  rw [← hy]
  have HY := Lib.hid hy
  clear hy
  go_wp2_with fail
  go_ret2
  refine ⟨c, ?_, by rw [← HY.out]; rfl, HB.out.trans (HR.out.2.mono HB.out.size)⟩
  rcases HR.out.1 with ⟨hall, h1⟩ | ⟨⟨q, hq, h5⟩, h1⟩
  · rw [h1, if_pos (by exact hall (s0, .slice p0 xs.length c0, xs) (by simp))]
  · rw [h1, if_neg]
    intro hok
    simp only [List.mem_singleton] at hq; subst hq; exact Bool.noConfusion (h5.symm.trans hok)

set_option maxHeartbeats 1000000 in
theorem Cmp_1_does (s0 : Bool) (p0 : Option Addr) (l0 c0 : Nat) (a : Int) (s1 : Bool) (p1 : Option Addr) (l1 c1 : Nat) (b : Int) (K : Nat) (w : World) (h0 : BoxI w (K) s0 p0 l0 c0) (g0 : IsI w (.agg #[.bool s0, .slice p0 l0 c0]) a) (f0 : fitI a) (h1 : BoxI w (K + 1) s1 p1 l1 c1) (g1 : IsI w (.agg #[.bool s1, .slice p1 l1 c1]) b) (f1 : fitI b) :
    CntDoes 77 #[.pointer (some ⟨K, 0, none⟩), .pointer (some ⟨K + 1, 0, none⟩)] w (0) (cmpI a b) := by
  intro W hW
  have b0 := (hW.block (K) (lt_of_block h0)).trans h0
  have k00 := cell_of_row _ _ 0 _ _ (0, 0) b0
  have k01 := cell_of_row _ _ 1 _ _ (0, 0) b0
  have b1 := (hW.block (K + 1) (lt_of_block h1)).trans h1
  have k10 := cell_of_row _ _ 0 _ _ (0, 0) b1
  have k11 := cell_of_row _ _ 1 _ _ (0, 0) b1
  simp only [List.getElem?_toArray, List.getElem?_cons_zero, List.getElem?_cons_succ] at k00 k01 k10 k11
  have hc := icompare_does _ _ a b W (g0.below hW) (g1.below hW) f0 f1
  obtain ⟨x, hx⟩ : ∃ x : Int, x = cmpI a b := ⟨_, rfl⟩
  rw [← hx] at hc ⊢
  have HC := Lib.hid hc
  clear h0 g0 f0 b0 h1 g1 f1 b1 hW hc hx
  go_enter Tryz.func77, Tryz.ntmps77
  go_wp2_with fail
  refine HC.out.mono ?_
  rintro e w1 ⟨hb1, ⟨hf, rfl⟩ | ⟨hf, rfl⟩⟩
  · have HH := Lib.hid (And.intro hb1 hf)
    clear hb1 hf HC
    go_wp2_with fail
    go_ret
    exact ⟨HH.out.1, .inl ⟨HH.out.2, rfl⟩⟩
  · first
      | exact ⟨rfl, hb1, .inr ⟨hf, rfl⟩⟩
      | exact ⟨hb1, .inr ⟨hf, rfl⟩⟩

set_option maxHeartbeats 1000000 in
theorem wholeCmp_any (v0 : Value) (s0 : Bool) (xs : List Nat) (v1 : Value) (s1 : Bool) (ys : List Nat) (w : World) (h0 : AtI w v0 s0 xs) (m0 : Nl.Small xs) (h1 : AtI w v1 s1 ys) (m1 : Nl.Small ys) :
    Calls Tryz.prog 23 #[v0, v1] w fun e w' => ResC w w' e (validI s0 xs && validI s1 ys) (0) (cmpI (sgn s0 (Nl.val xs)) (sgn s1 (Nl.val ys))) := by
  have hmf : ∀ (fn : Fn) (first cap : Array Value) (w : World), (Instr.makeFunc fn first cap).run Tryz.prog w = .ok (.func fn first cap) w := fun _ _ _ _ => rfl
  obtain ⟨p0, c0, rfl, u0⟩ := h0.form
  obtain ⟨p1, c1, rfl, u1⟩ := h1.form
  obtain ⟨W, hW⟩ : ∃ W, W = ((w.alloc (.cells #[.bool s0, .slice p0 xs.length c0] 25)).alloc (.cells #[.bool s1, .slice p1 ys.length c1] 25)).alloc (.cells #[.bool s0, .slice p0 xs.length c0, .bool s1, .slice p1 ys.length c1] 25) := ⟨_, rfl⟩
  have hb : Below w.heap.size w W := by rw [hW]; exact ((((Below.refl _ _).alloc (by simp <;> omega) _).alloc (by simp <;> omega) _).alloc (by simp <;> omega) _)
  have hs : W.heap.size = w.heap.size + 3 := by rw [hW]; simp
  have B0 : W.heap[w.heap.size + 0]? = some (.cells #[.bool s0, .slice p0 xs.length c0] 25 (0, 0)) := by rw [hW]; exact al_keep _ _ (by simp <;> omega) (al_keep _ _ (by simp <;> omega) (al_at _ _ (by simp)))
  have B1 : W.heap[w.heap.size + 1]? = some (.cells #[.bool s1, .slice p1 ys.length c1] 25 (0, 0)) := by rw [hW]; exact al_keep _ _ (by simp <;> omega) (al_at _ _ (by simp))
  have B2 : W.heap[w.heap.size + 2]? = some (.cells #[.bool s0, .slice p0 xs.length c0, .bool s1, .slice p1 ys.length c1] 25 (0, 0)) := by rw [hW]; exact al_at _ _ (by simp)
  have HO := Lib.hid (icount_any 77 #[.pointer (some ⟨w.heap.size, 0, none⟩), .pointer (some ⟨w.heap.size + 1, 0, none⟩)] W (0) (cmpI (sgn s0 (Nl.val xs)) (sgn s1 (Nl.val ys))) (w.heap.size + 2) [(s0, .slice p0 xs.length c0, xs), (s1, .slice p1 ys.length c1, ys)] (givenI_two (w.heap.size + 2) B2 (u0.below hb) (u1.below hb)) (by omega) (by simp) (fun hall => by
    have o0 := isI_of_ok (u0.below hb) m0 (hall (s0, .slice p0 xs.length c0, xs) (by simp))
    have o1 := isI_of_ok (u1.below hb) m1 (hall (s1, .slice p1 ys.length c1, ys) (by simp))
    exact Cmp_1_does _ _ _ _ _ _ _ _ _ _ w.heap.size W B0 o0.1 o0.2 B1 o1.1 o1.2) (fun _ _ => by kernel_rfl))
  have HB := Lib.hid hb
  clear h0 u0 m0 h1 u1 m1 hb hs B0 B1 B2
  go_enter Tryz.func23, Tryz.ntmps23
  go_wp2_with fail
  rw [← hW]
  clear hW
  refine HO.out.mono ?_
  rintro e w1 ⟨c, hc, rfl, hb1⟩
  have HR := Lib.hid (And.intro hc hb1)
  clear hc hb1 HO
  obtain ⟨y, hy⟩ : ∃ y : Int, y = if c = 0 then cmpI (sgn s0 (Nl.val xs)) (sgn s1 (Nl.val ys)) else 0 := ⟨_, rfl⟩
  rw [← hy]
  have HY := Lib.hid hy
  clear hy
  go_wp2_with fail
  go_ret2
  refine ⟨c, ?_, by rw [← HY.out]; rfl, HB.out.trans (HR.out.2.mono HB.out.size)⟩
  rcases HR.out.1 with ⟨hall, h1⟩ | ⟨⟨q, hq, h5⟩, h1⟩
  · rw [h1, if_pos (by rw [Bool.and_eq_true]; exact ⟨hall (s0, .slice p0 xs.length c0, xs) (by simp), hall (s1, .slice p1 ys.length c1, ys) (by simp)⟩)]
  · rw [h1, if_neg]
    intro hok
    rw [Bool.and_eq_true] at hok; simp only [List.mem_cons, List.not_mem_nil, or_false] at hq; rcases hq with rfl | rfl; exact Bool.noConfusion (h5.symm.trans hok.1); exact Bool.noConfusion (h5.symm.trans hok.2)

end Go.Proofs.YtodjncohhgknlaaGreat

namespace Go.Proofs.YtodjncohhgknlaaGreat
open Go.RowKit

theorem refTrim_any (v : Value) (m : Nat) (w : World) (h : At w v (Nl.limbs m)) (hl : (Nl.limbs m).length ≤ 1000000) :
    Calls Tryz.prog 147 #[v] w fun e w' => (∃ p n c, e = .returned (.slice p n c) ∧ At w' (.slice p n c) (Nl.limbs m)) ∧ Below w.heap.size w w' := by
  have ht : Nl.trim (Nl.limbs m) = Nl.limbs m := by rw [Nl.trim_eq (Nl.limbs_small m), Nl.val_limbs]
  have hgen : ∀ (e : Ending) (w' : World), (∃ v, e = .returned v ∧ AtP (w.heap.size ≤ ·) w' v (Nl.limbs m)) ∧ Below w.heap.size w w' → (∃ p n c, e = .returned (.slice p n c) ∧ At w' (.slice p n c) (Nl.limbs m)) ∧ Below w.heap.size w w' := by
    rintro e w' ⟨⟨v, rfl, hv⟩, hb⟩
    obtain ⟨p, c, rfl, -⟩ := hv.form
    exact ⟨⟨p, _, c, rfl, hv.at⟩, hb⟩
  rcases h with ⟨rfl, h⟩ | ⟨b, off, cap, rfl, -, hc, hm, hb, hx⟩
  · refine (refTrim_nil w).mono fun e w' h' => hgen e w' ?_
    rw [h]; exact h'
  · have := refTrim_cells b off cap (Nl.limbs m) w hx hc hm hb hl
    rw [ht] at this
    exact this.mono hgen

set_option maxHeartbeats 1000000 in
theorem ref2Of_any (s : Bool) (v : Value) (m : Nat) (w : World) (h : At w v (Nl.limbs m)) (hl : (Nl.limbs m).length ≤ 1000000) :
    Calls Tryz.prog 84 #[.bool s, v] w fun e w' => (∃ t p n c, e = .returned (.agg #[.bool t, .slice p n c]) ∧ IsI w' (.agg #[.bool t, .slice p n c]) (sgn s m)) ∧ Below w.heap.size w w' := by
  obtain ⟨W, hW⟩ : ∃ W, W = w.alloc (.cells #[.bool false, .slice none 0 0] 25) := ⟨_, rfl⟩
  have hb : Below w.heap.size w W := by rw [hW]; exact below_one w _
  have hQ : W.heap[w.heap.size]? = some (.cells #[.bool false, .slice none 0 0] 25 (0, 0)) := by rw [hW]; exact heap_alloc_new _ _
  have HT := Lib.hid (refTrim_any v m W (h.below hb) hl)
  have HB := Lib.hid (And.intro hb hQ)
  obtain ⟨a, c, rfl, -⟩ := h.form
  obtain ⟨l, hl'⟩ : ∃ l, l = (Nl.limbs m).length := ⟨_, rfl⟩
  have hsg : negB (sgn s m) = (s && decide (0 < l)) := by
    rw [sgn_neg]
    by_cases h0 : 0 < m
    · rw [decide_eq_true h0, decide_eq_true (by rw [hl']; exact Nl.len_pos (by omega))]
    · rw [decide_eq_false h0, decide_eq_false (fun h => h0 (Nat.pos_of_ne_zero fun h1 => by rw [hl', h1, Nl.limbs_zero] at h; exact absurd h (by decide)))]
  have HSG := Lib.hid hsg
  rw [← hl'] at HT ⊢
  clear h hl hb hQ hl' hsg
  obtain ⟨t, ht⟩ : ∃ t, t = (s && decide (0 < l)) := ⟨_, rfl⟩
  have hcase : (s = false ∧ t = false) ∨ (s = true ∧ decide (0 < l) = true ∧ t = true) ∨ (s = true ∧ decide (0 < l) = false ∧ t = false) := by
    rw [ht]
    cases s
    · exact .inl ⟨rfl, rfl⟩
    · cases hd : decide (0 < l)
      · exact .inr (.inr ⟨rfl, rfl, rfl⟩)
      · exact .inr (.inl ⟨rfl, rfl, rfl⟩)
  have HTE := Lib.hid ht
  clear ht
  rcases hcase with ⟨rfl, rfl⟩ | ⟨rfl, e0, rfl⟩ | ⟨rfl, e0, rfl⟩
  · go_enter Tryz.func84, Tryz.ntmps84
    go_upto_region 1 with fail
    rw [← hW]
    clear hW
    go_wp2_with fail
    refine HT.out.mono ?_
    rintro e w1 ⟨⟨p, n, c1, rfl, hat⟩, hb1⟩
    have BQ := (hb1.block _ (lt_of_block HB.out.2)).trans HB.out.2
    have f0 := frozen_of_row _ _ 0 _ _ BQ
    have f1 := frozen_of_row _ _ 1 _ _ BQ
    have g0 := cell_of_row _ _ 0 _ _ (0, 0) BQ
    have g1 := cell_of_row _ _ 1 _ _ (0, 0) BQ
    have HZ := Lib.hid (And.intro hat (And.intro hb1 BQ))
    clear hat hb1 BQ HT
    go_wp2_with fail
    refine bodyPost_ret (v := .agg #[.bool false, .slice p n c1]) (results_cell_row Tryz.results84 _ _ w.heap.size 25 _ (0, 0) _ rfl (ibox_set _ _ HZ.out.2.2) Tryz.underlying25 rfl (by kernel_rfl)) rfl ?_
    exact ⟨⟨_, _, _, _, rfl, isI_mk (at_ibox _ _ HZ.out.1 HZ.out.2.2) (by rw [HSG.out, ← HTE.out]) rfl⟩, below_ibox (HB.out.1.trans (HZ.out.2.1.mono HB.out.1.size)) (Nat.le_refl _) _ _⟩
  · go_enter Tryz.func84, Tryz.ntmps84
    go_upto_region 1 with fail
    rw [← hW]
    clear hW
    go_wp2_with fail
    refine HT.out.mono ?_
    rintro e w1 ⟨⟨p, n, c1, rfl, hat⟩, hb1⟩
    have BQ := (hb1.block _ (lt_of_block HB.out.2)).trans HB.out.2
    have f0 := frozen_of_row _ _ 0 _ _ BQ
    have f1 := frozen_of_row _ _ 1 _ _ BQ
    have g0 := cell_of_row _ _ 0 _ _ (0, 0) BQ
    have g1 := cell_of_row _ _ 1 _ _ (0, 0) BQ
    have HZ := Lib.hid (And.intro hat (And.intro hb1 BQ))
    clear hat hb1 BQ HT
    go_wp2_with fail
    refine bodyPost_ret (v := .agg #[.bool true, .slice p n c1]) (results_cell_row Tryz.results84 _ _ w.heap.size 25 _ (0, 0) _ rfl (ibox_set _ _ HZ.out.2.2) Tryz.underlying25 rfl (by kernel_rfl)) rfl ?_
    exact ⟨⟨_, _, _, _, rfl, isI_mk (at_ibox _ _ HZ.out.1 HZ.out.2.2) (by rw [HSG.out, ← HTE.out]) rfl⟩, below_ibox (HB.out.1.trans (HZ.out.2.1.mono HB.out.1.size)) (Nat.le_refl _) _ _⟩
  · go_enter Tryz.func84, Tryz.ntmps84
    go_upto_region 1 with fail
    rw [← hW]
    clear hW
    go_wp2_with fail
    refine HT.out.mono ?_
    rintro e w1 ⟨⟨p, n, c1, rfl, hat⟩, hb1⟩
    have BQ := (hb1.block _ (lt_of_block HB.out.2)).trans HB.out.2
    have f0 := frozen_of_row _ _ 0 _ _ BQ
    have f1 := frozen_of_row _ _ 1 _ _ BQ
    have g0 := cell_of_row _ _ 0 _ _ (0, 0) BQ
    have g1 := cell_of_row _ _ 1 _ _ (0, 0) BQ
    have HZ := Lib.hid (And.intro hat (And.intro hb1 BQ))
    clear hat hb1 BQ HT
    go_wp2_with fail
    refine bodyPost_ret (v := .agg #[.bool false, .slice p n c1]) (results_cell_row Tryz.results84 _ _ w.heap.size 25 _ (0, 0) _ rfl (ibox_set _ _ HZ.out.2.2) Tryz.underlying25 rfl (by kernel_rfl)) rfl ?_
    exact ⟨⟨_, _, _, _, rfl, isI_mk (at_ibox _ _ HZ.out.1 HZ.out.2.2) (by rw [HSG.out, ← HTE.out]) rfl⟩, below_ibox (HB.out.1.trans (HZ.out.2.1.mono HB.out.1.size)) (Nat.le_refl _) _ _⟩

theorem small_law (v : Value) (s : Bool) (xs : List Nat) (k : Nat) (w : World) (h : AtI w v s xs) :
    Calls Tryz.prog 17 #[v, .int .i64 k] w fun e w' => e = .returned (.bool (decide (xs.length ≤ k))) ∧ Below w.heap.size w w' := by
  obtain ⟨a, c, rfl, -⟩ := h.form
  obtain ⟨l, hl⟩ : ∃ l, l = xs.length := ⟨_, rfl⟩
  rw [← hl]
  clear h hl
  obtain ⟨b, hb⟩ : ∃ b, b = decide (l ≤ k) := ⟨_, rfl⟩
  rw [← hb]
  have e2 : decide (l ≤ k) = b := hb.symm
  clear hb
  go_enter Tryz.func17, Tryz.ntmps17
  go_wp2_with fail
  go_ret
  exact ⟨rfl, below_one w _⟩

set_option maxHeartbeats 1000000 in
theorem ref2Valid_any (v : Value) (s : Bool) (xs : List Nat) (w : World) (h : AtI w v s xs) :
    Calls Tryz.prog 26 #[v] w fun e w' => e = .returned (.bool (validI s xs)) ∧ Below w.heap.size w w' := by
  obtain ⟨a, c, rfl, hu⟩ := h.form
  obtain ⟨W, hW⟩ : ∃ W, W = w.alloc (.cells #[.bool s, .slice a xs.length c] 25) := ⟨_, rfl⟩
  have hb : Below w.heap.size w W := by rw [hW]; exact below_one w _
  have hP : W.heap[w.heap.size]? = some (.cells #[.bool s, .slice a xs.length c] 25 (0, 0)) := by rw [hW]; exact heap_alloc_new _ _
  have c0 := cell_of_row _ _ 0 _ _ (0, 0) hP
  have c1 := cell_of_row _ _ 1 _ _ (0, 0) hP
  simp only [List.getElem?_toArray, List.getElem?_cons_zero, List.getElem?_cons_succ] at c0 c1
  have HV := Lib.hid (refValid_any _ xs W (hu.below hb))
  have HB := Lib.hid hb
  obtain ⟨l, hl⟩ : ∃ l, l = xs.length := ⟨_, rfl⟩
  have hvi : validI s xs = (validB xs && (!s || decide (0 < l))) := by
    rw [validI, hl]
    cases s
    · rfl
    · by_cases h0 : xs.length = 0
      · rw [decide_eq_true h0, decide_eq_false (by omega)]; rfl
      · rw [decide_eq_false h0, decide_eq_true (by omega)]; rfl
  rw [hvi]
  rw [← hl] at hW c1 HV ⊢
  obtain ⟨vb, hvb⟩ : ∃ vb, vb = validB xs := ⟨_, rfl⟩
  rw [← hvb] at HV ⊢
  obtain ⟨d, hd⟩ : ∃ d, d = decide (0 < l) := ⟨_, rfl⟩
  rw [← hd]
  have e0 : decide (0 < l) = d := hd.symm
  clear h hu hb hP hvi hvb hd hl
  cases vb with
  | false =>
    go_enter Tryz.func26, Tryz.ntmps26
    go_upto_region 1 with fail
    rw [← hW]
    clear hW
    go_wp2_with (go_at_call 81; refine HV.out.mono ?_; rintro e w' ⟨rfl, rfl⟩)
    go_ret
    exact ⟨rfl, HB.out⟩
  | true =>
    cases s with
    | false =>
      go_enter Tryz.func26, Tryz.ntmps26
      go_upto_region 1 with fail
      rw [← hW]
      clear hW
      go_wp2_with (go_at_call 81; refine HV.out.mono ?_; rintro e w' ⟨rfl, rfl⟩)
      go_ret
      exact ⟨rfl, HB.out⟩
    | true =>
      go_enter Tryz.func26, Tryz.ntmps26
      go_upto_region 1 with fail
      rw [← hW]
      clear hW
      go_wp2_with (go_at_call 81; refine HV.out.mono ?_; rintro e w' ⟨rfl, rfl⟩)
      go_ret
      exact ⟨rfl, HB.out⟩
end Go.Proofs.YtodjncohhgknlaaGreat
