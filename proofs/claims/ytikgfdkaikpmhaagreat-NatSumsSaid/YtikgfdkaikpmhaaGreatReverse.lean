/-
  What slices.Reverse does. Conditions: those that each theorem names.
-/
import Derived.Test.YtikgfdkaikpmhaaGreatRange
import Derived.BigRegion
namespace Go.Proofs.YtikgfdkaikpmhaaGreat
open Go.RowKit

/-- the cells of a row of bytes -/
def bvals (L : List Nat) : List Value := L.map fun x : Nat => Value.int .u8 (x : Int)
theorem bvals_length (L : List Nat) : (bvals L).length = L.length := by simp [bvals]
theorem bvals_get {L : List Nat} {i : Nat} (h : i < L.length) : (bvals L)[i]? = some (.int .u8 ((L.getD i 0 : Nat) : Int)) := by simp [bvals, h]
theorem bvals_set (xs : List Nat) (k y : Nat) : bvals (xs.set k y) = (bvals xs).set k (.int .u8 (y : Int)) := by simp [bvals, List.map_set]
theorem bvals_snoc (zs : List Nat) (z : Nat) : bvals (zs ++ [z]) = bvals zs ++ [.int .u8 (z : Int)] := by simp [bvals]

/-- the first k and the last k elements are in their new places -/
def Turned (L C : List Nat) (k : Nat) : Prop := C.length = L.length ∧ ∀ i, i < L.length → C.getD i 0 = if i < k ∨ L.length ≤ i + k then L.getD (L.length - 1 - i) 0 else L.getD i 0
theorem turned_start (L : List Nat) : Turned L L 0 := ⟨rfl, fun i hi => by rw [if_neg (by omega)]⟩
theorem getD_set (C : List Nat) (k y i : Nat) (hk : k < C.length) : (C.set k y).getD i 0 = if i = k then y else C.getD i 0 := by
  simp only [List.getD_eq_getElem?_getD, List.getElem?_set]
  by_cases h : k = i
  · subst h; simp [hk]
  · rw [if_neg h, if_neg (fun e => h e.symm)]
theorem turned_next {L C : List Nat} {k : Nat} (h : Turned L C k) (hk : k + (k + 1) < L.length) : Turned L ((C.set k (C.getD (L.length - 1 - k) 0)).set (L.length - 1 - k) (C.getD k 0)) (k + 1) := by
  obtain ⟨h1, h2⟩ := h
  refine ⟨by simp [h1], fun i hi => ?_⟩
  rw [getD_set _ _ _ _ (by simp [h1]; omega), getD_set _ _ _ _ (by omega), h2 k (by omega), h2 (L.length - 1 - k) (by omega), h2 i hi]
  rw [if_neg (show ¬ (k < k ∨ L.length ≤ k + k) by omega), if_neg (show ¬ (L.length - 1 - k < k ∨ L.length ≤ L.length - 1 - k + k) by omega)]
  by_cases e1 : i = L.length - 1 - k
  · rw [if_pos e1, if_pos (by omega), e1]; congr 1; omega
  · rw [if_neg e1]
    by_cases e2 : i = k
    · rw [if_pos e2, if_pos (by omega), e2]
    · rw [if_neg e2]
      by_cases e3 : i < k ∨ L.length ≤ i + k
      · rw [if_pos e3, if_pos (by omega)]
      · rw [if_neg e3, if_neg (by omega)]
theorem turned_end {L C : List Nat} {k : Nat} (h : Turned L C k) (hk : L.length ≤ k + (k + 1)) : C = L.reverse := by
  obtain ⟨h1, h2⟩ := h
  apply List.ext_getElem
  · simp [h1]
  · intro i hi hj
    have hiL : i < L.length := by omega
    have e := h2 i hiL
    rw [List.getD_eq_getElem?_getD, List.getElem?_eq_getElem hi] at e
    simp only [Option.getD_some] at e
    rw [e, List.getElem_reverse]
    have key : L.getD (L.length - 1 - i) 0 = L[L.length - 1 - i]'(by omega) := by
      rw [List.getD_eq_getElem?_getD, List.getElem?_eq_getElem (by omega)]; rfl
    by_cases c : i < k ∨ L.length ≤ i + k
    · rw [if_pos c, key]
    · rw [if_neg c, ← key]; congr 1; omega

set_option maxHeartbeats 2000000 in
theorem reverse_any (base g n cap : Nat) (L : List Nat) (w : World) (hL : L.length = n) (h : w.ownsRow base 5 1 (.slice (some ⟨g, 0, none⟩) n cap) n (bvals L)) (hn : n ≤ 1000000) (hnc : n ≤ cap) (hcm : cap ≤ 9223372036854775807) :
    Calls Tryz.prog 116 #[.slice (some ⟨g, 0, none⟩) n cap] w fun e w' => (∃ v, e = .returned v) ∧ w'.ownsRow base 5 1 (.slice (some ⟨g, 0, none⟩) n cap) n (bvals L.reverse) ∧ w.grownBy w' (some g) := by
  have HW := Lib.hid (And.intro h (World.grownBy.refl w (some g)))
  have HL := Lib.hid hL
  clear h hL
  go_enter Tryz.func116, Tryz.ntmps116
  go_wp2
  go_loopw [2, 3] (fun i j wr => ∃ (k : Nat) (C : List Nat), i = .int .i64 k ∧ j = .int .i64 ((n : Int) - 1 - k) ∧ k ≤ n ∧ Hid (Turned L C k) ∧ Hid (wr.ownsRow base 5 1 (.slice (some ⟨g, 0, none⟩) n cap) n (bvals C) ∧ w.grownBy wr (some g))) (fun i _ _ => n - (intOf i).toNat)
  case atStart => exact ⟨0, L, rfl, by go_num, by omega, turned_start L, HW.out⟩
  case round =>
    obtain ⟨k, C, rfl, rfl, hk, ht, ho⟩ := hrel
    by_cases hlt : k + (k + 1) < n
    · have t0 : decide ((k : Int) < (n : Int) - 1 - k) = true := by rw [decide_eq_true_eq]; omega
      obtain ⟨j, hj⟩ : ∃ j, j = n - 1 - k := ⟨_, rfl⟩
      rw [show (n : Int) - 1 - k = (j : Int) by omega] at t0 ⊢
      have t0' : decide (k < j) = true := by rw [decide_eq_true_eq]; omega
      have hjn : j < n := by omega
      have hkn : k < n := by omega
      have hkj : ¬ k = j := by omega
      obtain ⟨x, hx⟩ : ∃ x, x = C.getD k 0 := ⟨_, rfl⟩
      obtain ⟨y, hy⟩ : ∃ y, y = C.getD j 0 := ⟨_, rfl⟩
      have c1 := (ho.out.1.cellAt k (by omega)).trans (bvals_get (by rw [ht.out.1, HL.out]; omega))
      have c2 := (ho.out.1.cellAt j (by omega)).trans (bvals_get (by rw [ht.out.1, HL.out]; omega))
      rw [← hx] at c1
      rw [← hy] at c2
      have f1 := ho.out.1.frozenAt k
      have f2 := ho.out.1.frozenAt j
      have HX := Lib.hid (And.intro hx (And.intro hy hj))
      clear hx hy hj
      go_wp2
      go_region
      go_wp2
      go_roundw
      case rel =>
        refine ⟨k + 1, (C.set k y).set j x, by go_num, ?_, by omega, ?_, ?_⟩
        · have := HX.out.2.2
          rw [show (j : Int) - 1 = (n : Int) - 1 - ((k + 1 : Nat) : Int) by omega]
        · have := turned_next ht.out (by rw [HL.out]; exact hlt)
          rw [HL.out, ← HX.out.2.2, ← HX.out.1, ← HX.out.2.1] at this
          exact this
        · rw [bvals_set, bvals_set]
          have h1 := ho.out.1.stored k (.int .u8 (y : Int))
          have h2 := h1.1.stored j (.int .u8 (x : Int))
          exact ⟨h2.1.drew, grown_trans ho.out.2 (grown_trans h1.2 (grown_trans h2.2 (grown_of_below (Below.refl _ _).drew)))⟩
      case measure => simp [intOf] <;> omega
    · have t0 : decide ((k : Int) < (n : Int) - 1 - k) = false := by rw [decide_eq_false_iff_not]; omega
      have he := Lib.hid (turned_end ht.out (by rw [HL.out]; omega))
      go_wp2
      go_end0
      refine ⟨⟨_, rfl⟩, ?_⟩
      rw [← he.out]
      exact ho.out
end Go.Proofs.YtikgfdkaikpmhaaGreat
