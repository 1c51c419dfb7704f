/-
  What Valid does. Conditions: those that each theorem names.
-/
import Derived.Test.YtfaledeidjmooaaGreatOver
namespace Go.Proofs.YtfaledeidjmooaaGreat
open Go.RowKit

/-- does a list stand for a natural number? -/
def validB (xs : List Nat) : Bool := decide (xs.length ≤ 1024) && (xs.getLast? != some 0)
theorem validB_norm {xs : List Nat} (hs : Nl.Small xs) (h : validB xs = true) : ∃ m, xs = Nl.limbs m ∧ (Nl.limbs m).length ≤ 1024 := by
  simp only [validB, Bool.and_eq_true, decide_eq_true_eq, bne_iff_ne] at h
  refine ⟨Nl.val xs, (Nl.limbs_val ⟨hs, h.2⟩).symm, ?_⟩
  rw [Nl.limbs_val ⟨hs, h.2⟩]; exact h.1
theorem validB_limbs {m : Nat} (h : (Nl.limbs m).length ≤ 1024) : validB (Nl.limbs m) = true := by
  simp only [validB, Bool.and_eq_true, decide_eq_true_eq, bne_iff_ne]
  exact ⟨h, Nl.limbs_last m⟩
theorem validB_long {xs : List Nat} (h : 1024 < xs.length) : validB xs = false := by
  simp only [validB, Bool.and_eq_false_iff, decide_eq_false_iff_not]; left; omega
theorem getLast_getD {xs : List Nat} (h : 0 < xs.length) : xs.getLast? = some (xs.getD (xs.length - 1) 0) := by
  rw [List.getLast?_eq_getElem?]
  simp [show xs.length - 1 < xs.length by omega]

set_option maxHeartbeats 1000000 in
theorem valid_any (v : Value) (xs : List Nat) (w : World) (h : At w v xs) :
    Calls Tryz.prog 56 #[v] w fun e w' => e = .returned (.bool (validB xs)) ∧ w = w' := by
  by_cases hl : xs.length ≤ 1024
  · have hl' : decide ((xs.length : Int) ≤ 1024) = true := by simp; omega
    by_cases h0 : xs.length = 0
    · have e0 : ((xs.length : Int) == 0) = true := by simp [h0]
      have hx : xs = [] := List.eq_nil_of_length_eq_zero h0
      have hb : validB xs = true := by rw [hx]; rfl
      rw [hb]
      obtain ⟨a, ca, rfl, -⟩ := h.form
      clear h hx hb h0 hl
      go_enter Tryz.func56, Tryz.ntmps56
      go_wp2
      go_ret
      exact ⟨rfl, rfl⟩
    · have e0 : ((xs.length : Int) == 0) = false := by rw [beq_eq_false_iff_ne]; omega
      rcases h with ⟨rfl, rfl⟩ | ⟨b, off, cap, rfl, -, hc, hm, hb, hx⟩
      · simp at h0
      have c0 := hx (xs.length - 1) (by omega)
      have hla := getLast_getD (xs := xs) (by omega)
      obtain ⟨x, ex⟩ : ∃ x, xs.getD (xs.length - 1) 0 = x := ⟨_, rfl⟩
      rw [ex] at c0 hla
      have hv : validB xs = !(x == 0) := by
        rw [validB, hla, decide_eq_true hl, Bool.true_and]
        simp [bne]
      rw [hv]
      have hpos : 1 ≤ xs.length := by omega
      clear hx hla ex hv h0
      by_cases hx0 : x = 0
      · have t0 : ((x : Int) != 0) = false := by simp [hx0]
        have t1 : (!(x == 0)) = false := by simp [hx0]
        rw [t1]
        clear t1 hx0
        go_enter Tryz.func56, Tryz.ntmps56
        go_wp2
        go_ret
        exact ⟨rfl, rfl⟩
      · have t0 : ((x : Int) != 0) = true := by rw [bne_iff_ne]; omega
        have t1 : (!(x == 0)) = true := by simp [hx0]
        rw [t1]
        clear t1 hx0
        go_enter Tryz.func56, Tryz.ntmps56
        go_wp2
        go_ret
        exact ⟨rfl, rfl⟩
  · have hl' : decide ((xs.length : Int) ≤ 1024) = false := by simp; omega
    rw [validB_long (by omega)]
    obtain ⟨a, ca, rfl, -⟩ := h.form
    clear h hl
    go_enter Tryz.func56, Tryz.ntmps56
    go_wp2
    go_ret
    exact ⟨rfl, rfl⟩
end Go.Proofs.YtfaledeidjmooaaGreat
