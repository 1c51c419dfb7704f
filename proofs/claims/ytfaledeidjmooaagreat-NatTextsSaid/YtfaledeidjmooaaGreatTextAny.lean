/-
  Text of all valid numbers, and that Parse undoes it. Conditions: those that each theorem names.
-/
import Derived.Test.YtfaledeidjmooaaGreatParseAny
import Derived.Test.YtfaledeidjmooaaGreatSane
namespace Go.Proofs.YtfaledeidjmooaaGreat
open Go.RowKit

theorem textOf_zero : textOf 0 = ⟨#[48]⟩ := rfl
set_option maxHeartbeats 1000000 in
theorem text_zero (va : Value) (w : World) (ha : IsN w va 0) : Calls Tryz.prog 85 #[va] w fun e w' => e = .returned (.string (textOf 0)) ∧ Below w.heap.size w w' := by
  rw [IsN, Nl.limbs_zero] at ha
  obtain ⟨a, ca, rfl, -⟩ := ha.form
  clear ha
  rw [textOf_zero]
  go_enter_defers Tryz.func85, Tryz.ntmps85
  go_wp2_with fail
  simp [bodyPostD, Leaves, settle, results, Tryz.results85, go_sem]
  exact Below.refl _ _

theorem digits_len10 : ∀ (k m : Nat), m < 10 ^ k → (digitsL m).length ≤ k
  | 0, m, h => by
    have : m = 0 := by have : m < 1 := h; omega
    rw [this, digitsL_zero]; simp
  | k + 1, m, h => by
    by_cases h0 : m = 0
    · rw [h0, digitsL_zero]; simp
    · rw [digitsL_pos h0]
      have := digits_len10 k (m / 10) (by rw [Nat.pow_succ] at h; omega)
      simp; omega
theorem digits_all (m : Nat) : (digitsL m).all isDig = true := by
  induction m using Nat.strongRecOn with
  | ind m ih =>
    by_cases h0 : m = 0
    · rw [h0, digitsL_zero]; rfl
    · rw [digitsL_pos h0, List.all_cons, ih (m / 10) (by omega), Bool.and_true, isDig, decide_eq_true (by omega), decide_eq_true (by omega)]; rfl
theorem digits_dec (m : Nat) : decL (digitsL m).reverse = m := by
  induction m using Nat.strongRecOn with
  | ind m ih =>
    by_cases h0 : m = 0
    · rw [h0, digitsL_zero]; rfl
    · rw [digitsL_pos h0, List.reverse_cons, decL_snoc, ih (m / 10) (by omega)]; omega
theorem digits_first (m : Nat) (h0 : m ≠ 0) : (digitsL m).reverse.getD 0 0 ≠ 48 := by
  induction m using Nat.strongRecOn with
  | ind m ih =>
    rw [digitsL_pos h0, List.reverse_cons]
    by_cases h1 : m / 10 = 0
    · rw [h1, digitsL_zero]; simp; omega
    · have h2 := ih (m / 10) (by omega) h1
      have hl : 0 < (digitsL (m / 10)).reverse.length := by rw [List.length_reverse, digitsL_pos h1]; simp
      rw [List.getD_eq_getElem?_getD, List.getElem?_append_left hl]
      rw [List.getD_eq_getElem?_getD] at h2
      exact h2

theorem dl_textOf {m : Nat} : dl (textOf m) = if m = 0 then [48] else (digitsL m).reverse := by
  have h : ∀ l : List Nat, (∀ x, x ∈ l → x < 256) → (l.map UInt8.ofNat).map UInt8.toNat = l := by
    intro l hl
    rw [List.map_map]
    conv => rhs; rw [← List.map_id l]
    apply List.map_congr_left
    intro x hx
    show (UInt8.ofNat x).toNat = x
    rw [UInt8.toNat_ofNat']
    exact Nat.mod_eq_of_lt (hl x hx)
  rw [dl, textOf]
  apply h
  intro x hx
  by_cases h0 : m = 0
  · rw [if_pos h0] at hx; simp at hx; omega
  · rw [if_neg h0] at hx; exact digits_small (List.mem_reverse.1 hx)
theorem text_num (m : Nat) : isNum (dl (textOf m)) = true ∧ decL (dl (textOf m)) = m := by
  rw [dl_textOf]
  by_cases h0 : m = 0
  · rw [if_pos h0, h0]; exact ⟨by decide, by decide⟩
  · rw [if_neg h0]
    refine ⟨?_, digits_dec m⟩
    have h1 : (digitsL m).reverse.all isDig = true := by rw [List.all_reverse]; exact digits_all m
    have h2 : (digitsL m).reverse ≠ [] := by rw [digitsL_pos h0]; simp
    rw [isNum, h1, decide_eq_true h2, decide_eq_true (digits_first m h0)]; simp
theorem digits_le {m K k : Nat} (h : (Nl.limbs m).length ≤ K) (hk : 32 * K ≤ 3 * k) : (digitsL m).length ≤ k := by
  have h1 : m < 4294967296 ^ K := Nat.lt_of_lt_of_le (Nl.lt_limbs m) (Nl.pow_le h)
  rw [pow32] at h1
  have h2 : (2 : Nat) ^ (32 * K) ≤ 2 ^ (3 * k) := Nat.pow_le_pow_right (by decide) hk
  rw [Nat.pow_mul 2 3 k] at h2
  exact digits_len10 k m (Nat.lt_of_lt_of_le h1 (Nat.le_trans h2 (Nat.pow_le_pow_left (by decide) _)))
theorem text_size {m : Nat} (h : (Nl.limbs m).length ≤ 1024) : (textOf m).size ≤ 20000 := by
  rw [← dl_length, dl_textOf]
  by_cases h0 : m = 0
  · rw [if_pos h0]; simp
  · rw [if_neg h0, List.length_reverse]
    have := digits_le (k := 10923) h (by decide)
    omega
end Go.Proofs.YtfaledeidjmooaaGreat
