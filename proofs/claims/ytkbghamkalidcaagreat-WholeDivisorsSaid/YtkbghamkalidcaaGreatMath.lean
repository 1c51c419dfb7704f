/-
  Numbers as lists of words. Conditions: those that each theorem names.
-/
namespace Go.Proofs.YtkbghamkalidcaaGreat.Nl
/-! Numbers as lists of words, the least significant first. -/
def val : List Nat → Nat
  | [] => 0
  | x :: xs => x + 4294967296 * val xs

theorem getD_lt {xs : List Nat} {k : Nat} (h : k < xs.length) : xs.getD k 0 = xs[k] := by simp [h]
theorem getD_ge {xs : List Nat} {k : Nat} (h : xs.length ≤ k) : xs.getD k 0 = 0 := by simp [h]

def Small (xs : List Nat) : Prop := ∀ x, x ∈ xs → x < 4294967296

theorem small_nil : Small [] := fun _ h => by cases h
theorem small_cons {x : Nat} {xs : List Nat} : Small (x :: xs) ↔ x < 4294967296 ∧ Small xs := by
  constructor
  · intro h; exact ⟨h x (by simp), fun y hy => h y (by simp [hy])⟩
  · rintro ⟨h, g⟩ y hy
    rcases List.mem_cons.1 hy with rfl | hy
    · exact h
    · exact g y hy
theorem small_append {xs ys : List Nat} : Small (xs ++ ys) ↔ Small xs ∧ Small ys := by
  constructor
  · intro h; exact ⟨fun y hy => h y (by simp [hy]), fun y hy => h y (by simp [hy])⟩
  · rintro ⟨h, g⟩ y hy
    rcases List.mem_append.1 hy with hy | hy
    · exact h y hy
    · exact g y hy
theorem Small.take {xs : List Nat} (h : Small xs) (k : Nat) : Small (xs.take k) := fun y hy => h y (List.mem_of_mem_take hy)
theorem Small.drop {xs : List Nat} (h : Small xs) (k : Nat) : Small (xs.drop k) := fun y hy => h y (List.mem_of_mem_drop hy)
theorem Small.getD {xs : List Nat} (h : Small xs) (k : Nat) : xs.getD k 0 < 4294967296 := by
  by_cases hk : k < xs.length
  · rw [getD_lt hk]; exact h _ (List.getElem_mem hk)
  · rw [getD_ge (by omega)]; omega
theorem Small.set {xs : List Nat} (h : Small xs) (k : Nat) {y : Nat} (hy : y < 4294967296) : Small (xs.set k y) := by
  intro z hz
  rcases List.mem_or_eq_of_mem_set hz with hz | rfl
  · exact h z hz
  · exact hy
def zeros (n : Nat) : List Nat := List.replicate n 0
theorem zeros_length (n : Nat) : (zeros n).length = n := by simp [zeros]
theorem small_replicate (n : Nat) : Small (zeros n) := by
  intro x hx; rw [zeros, List.mem_replicate] at hx; omega

@[simp] theorem val_nil : val [] = 0 := rfl
@[simp] theorem val_cons (x : Nat) (xs : List Nat) : val (x :: xs) = x + 4294967296 * val xs := rfl

theorem val_append (xs ys : List Nat) : val (xs ++ ys) = val xs + 4294967296 ^ xs.length * val ys := by
  induction xs with
  | nil => simp
  | cons x xs ih => simp only [List.cons_append, val_cons, ih, List.length_cons, Nat.pow_succ, Nat.mul_add, Nat.add_assoc]; rw [Nat.mul_comm (4294967296 ^ xs.length) 4294967296, Nat.mul_assoc]

theorem val_lt {xs : List Nat} (h : Small xs) : val xs < 4294967296 ^ xs.length := by
  induction xs with
  | nil => simp
  | cons x xs ih =>
    have ⟨h1, h2⟩ := small_cons.1 h
    have := ih h2
    simp only [val_cons, List.length_cons, Nat.pow_succ]
    omega

theorem val_replicate (n : Nat) : val (zeros n) = 0 := by
  unfold zeros
  induction n with
  | zero => rfl
  | succ n ih => simp [List.replicate_succ, ih]

theorem val_take_drop (xs : List Nat) (k : Nat) (h : k ≤ xs.length) : val (xs.take k) + 4294967296 ^ k * val (xs.drop k) = val xs := by
  have := val_append (xs.take k) (xs.drop k)
  rw [List.take_append_drop, List.length_take, Nat.min_eq_left h] at this
  exact this.symm

theorem val_take_succ (xs : List Nat) (k : Nat) (h : k < xs.length) : val (xs.take (k + 1)) = val (xs.take k) + 4294967296 ^ k * xs.getD k 0 := by
  rw [List.take_succ_eq_append_getElem h, val_append, List.length_take, Nat.min_eq_left (by omega), getD_lt h]
  simp

theorem val_drop_succ (xs : List Nat) (k : Nat) (h : k < xs.length) : val (xs.drop k) = xs.getD k 0 + 4294967296 * val (xs.drop (k + 1)) := by
  rw [List.drop_eq_getElem_cons h, val_cons, getD_lt h]

/-- no zero at the end -/
def Norm (xs : List Nat) : Prop := Small xs ∧ xs.getLast? ≠ some 0

/-- the words of a number -/
def limbs (n : Nat) : List Nat := if n = 0 then [] else n % 4294967296 :: limbs (n / 4294967296)
decreasing_by omega

theorem limbs_zero : limbs 0 = [] := by rw [limbs]; simp
theorem limbs_pos {n : Nat} (h : n ≠ 0) : limbs n = n % 4294967296 :: limbs (n / 4294967296) := by rw [limbs]; simp [h]

theorem val_limbs (n : Nat) : val (limbs n) = n := by
  induction n using Nat.strongRecOn with
  | ind n ih =>
    by_cases h : n = 0
    · subst h; rw [limbs_zero]; rfl
    · rw [limbs_pos h, val_cons, ih _ (by omega)]; omega

theorem limbs_small (n : Nat) : Small (limbs n) := by
  induction n using Nat.strongRecOn with
  | ind n ih =>
    by_cases h : n = 0
    · subst h; rw [limbs_zero]; exact small_nil
    · rw [limbs_pos h]; exact small_cons.2 ⟨by omega, ih _ (by omega)⟩

theorem limbs_eq_nil {n : Nat} : limbs n = [] ↔ n = 0 := by
  constructor
  · intro h; have := val_limbs n; rw [h] at this; exact this.symm
  · rintro rfl; exact limbs_zero

theorem limbs_last (n : Nat) : (limbs n).getLast? ≠ some 0 := by
  induction n using Nat.strongRecOn with
  | ind n ih =>
    by_cases h : n = 0
    · subst h; rw [limbs_zero]; simp
    · rw [limbs_pos h, List.getLast?_cons]
      by_cases hd : n / 4294967296 = 0
      · rw [hd, limbs_zero]; simp; omega
      · have := ih _ (by omega : n / 4294967296 < n)
        cases hl : limbs (n / 4294967296) with
        | nil => exact absurd (limbs_eq_nil.1 hl) hd
        | cons y ys =>
          rw [hl] at this
          rw [List.getLast?_cons] at this
          simp only [List.getLast?_cons, Option.getD_some]
          exact this

/-- a list without a zero at the end is the words of its number -/
theorem limbs_val {xs : List Nat} (h : Norm xs) : limbs (val xs) = xs := by
  induction xs with
  | nil => exact limbs_zero
  | cons x xs ih =>
    obtain ⟨hs, hl⟩ := h
    have ⟨h1, h2⟩ := small_cons.1 hs
    have hn : val (x :: xs) ≠ 0 := by
      intro h0
      rw [val_cons] at h0
      have hx : x = 0 := by omega
      have hv : val xs = 0 := by omega
      have : Norm xs := by
        refine ⟨h2, fun hz => hl ?_⟩
        rw [List.getLast?_cons, hz]; rfl
      have hxs := ih this
      rw [hv, limbs_zero] at hxs
      subst hxs; subst hx
      simp at hl
    have hnx : Norm xs ∨ xs = [] := by
      cases hxs : xs with
      | nil => exact .inr rfl
      | cons y ys =>
        refine .inl ⟨hxs ▸ h2, fun hz => hl ?_⟩
        rw [hxs, List.getLast?_cons, hz]; rfl
    have hnx : Norm xs := by
      rcases hnx with h | rfl
      · exact h
      · exact ⟨small_nil, by simp⟩
    rw [limbs_pos hn, val_cons]
    have e1 : (x + 4294967296 * val xs) % 4294967296 = x := by omega
    have e2 : (x + 4294967296 * val xs) / 4294967296 = val xs := by omega
    rw [e1, e2, ih hnx]

/-- the zeros at the end struck -/
def trim : List Nat → List Nat
  | [] => []
  | x :: xs => if x = 0 ∧ trim xs = [] then [] else x :: trim xs

theorem val_trim (xs : List Nat) : val (trim xs) = val xs := by
  induction xs with
  | nil => rfl
  | cons x xs ih =>
    unfold trim
    by_cases h : x = 0 ∧ trim xs = []
    · rw [if_pos h, val_cons, ← ih, h.2, h.1]; rfl
    · rw [if_neg h, val_cons, val_cons, ih]

theorem trim_norm {xs : List Nat} (h : Small xs) : Norm (trim xs) := by
  induction xs with
  | nil => exact ⟨small_nil, by simp [trim]⟩
  | cons x xs ih =>
    have ⟨h1, h2⟩ := small_cons.1 h
    obtain ⟨i1, i2⟩ := ih h2
    unfold trim
    by_cases hh : x = 0 ∧ trim xs = []
    · rw [if_pos hh]; exact ⟨small_nil, by simp⟩
    · rw [if_neg hh]
      refine ⟨small_cons.2 ⟨h1, i1⟩, ?_⟩
      rw [List.getLast?_cons]
      cases ht : trim xs with
      | nil => simp [ht] at hh ⊢; exact hh
      | cons y ys => 
        rw [ht, List.getLast?_cons] at i2
        simpa [List.getLast?_cons] using i2

theorem trim_eq {xs : List Nat} (h : Small xs) : trim xs = limbs (val xs) := by
  rw [← val_trim, limbs_val (trim_norm h)]

theorem trim_snoc_zero (xs : List Nat) : trim (xs ++ [0]) = trim xs := by
  induction xs with
  | nil => rfl
  | cons x xs ih => simp only [List.cons_append, trim, ih]
theorem trim_snoc {x : Nat} (h : x ≠ 0) (xs : List Nat) : trim (xs ++ [x]) = xs ++ [x] := by
  induction xs with
  | nil => simp [trim, h]
  | cons y xs ih => simp only [List.cons_append, trim, ih]; simp
theorem trim_take_zero {xs : List Nat} {k : Nat} (hk : k < xs.length) (h : xs.getD k 0 = 0) : trim (xs.take (k + 1)) = trim (xs.take k) := by
  rw [List.take_succ_eq_append_getElem hk, ← getD_lt hk, h, trim_snoc_zero]
theorem trim_take_some {xs : List Nat} {k : Nat} (hk : k < xs.length) (h : xs.getD k 0 ≠ 0) : (trim (xs.take (k + 1))).length = k + 1 := by
  rw [List.take_succ_eq_append_getElem hk, ← getD_lt hk, trim_snoc h]; simp; omega
theorem trim_prefix (xs : List Nat) : trim xs = xs.take (trim xs).length := by
  induction xs with
  | nil => rfl
  | cons x xs ih =>
    unfold trim
    by_cases h : x = 0 ∧ trim xs = []
    · rw [if_pos h]; rfl
    · rw [if_neg h]; simp only [List.length_cons, List.take_succ_cons]; rw [← ih]
theorem trim_length (xs : List Nat) : (trim xs).length ≤ xs.length := by
  have := congrArg List.length (trim_prefix xs)
  rw [List.length_take] at this; omega

theorem limbs_lt {n k : Nat} (h : n < 4294967296 ^ k) : (limbs n).length ≤ k := by
  induction k generalizing n with
  | zero => simp at h; subst h; simp [limbs_zero]
  | succ k ih =>
    by_cases h0 : n = 0
    · subst h0; simp [limbs_zero]
    · rw [limbs_pos h0]
      have : n / 4294967296 < 4294967296 ^ k := by
        rw [Nat.pow_succ] at h; omega
      have := ih this
      simp; omega

theorem lt_limbs (n : Nat) : n < 4294967296 ^ (limbs n).length := by
  have := val_lt (limbs_small n); rw [val_limbs] at this; exact this

theorem limbs_le {n : Nat} (h : n ≠ 0) : 4294967296 ^ ((limbs n).length - 1) ≤ n := by
  apply Classical.byContradiction
  intro hc
  have := limbs_lt (Nat.lt_of_not_le hc)
  have : limbs n ≠ [] := fun hn => h (limbs_eq_nil.1 hn)
  have : 0 < (limbs n).length := List.length_pos_iff.2 this
  omega

theorem limbs_mono {m n : Nat} (h : m ≤ n) : (limbs m).length ≤ (limbs n).length :=
  limbs_lt (Nat.lt_of_le_of_lt h (lt_limbs n))

theorem pow_le {a b : Nat} (h : a ≤ b) : 4294967296 ^ a ≤ 4294967296 ^ b := Nat.pow_le_pow_right (by decide) h
theorem pow_pos (a : Nat) : 0 < 4294967296 ^ a := Nat.pow_pos (by decide)

/-- equal above k, the word at k less: the number is less -/
theorem val_less {xs ys : List Nat} {k : Nat} (hx : Small xs) (hk : k < xs.length) (hl : xs.length = ys.length) (hd : xs.drop (k + 1) = ys.drop (k + 1)) (h : xs.getD k 0 < ys.getD k 0) : val xs < val ys := by
  rw [← val_take_drop xs k (by omega), ← val_take_drop ys k (by omega), val_drop_succ xs k hk, val_drop_succ ys k (by omega), hd]
  have h1 := val_lt (hx.take k)
  rw [List.length_take, Nat.min_eq_left (by omega)] at h1
  have h2 : 4294967296 ^ k * (xs.getD k 0 + 4294967296 * val (ys.drop (k + 1))) + 4294967296 ^ k ≤ 4294967296 ^ k * (ys.getD k 0 + 4294967296 * val (ys.drop (k + 1))) := by
    rw [← Nat.mul_succ]
    exact Nat.mul_le_mul_left _ (by omega)
  omega

theorem limbs_shorter {m n : Nat} (h : (limbs m).length < (limbs n).length) : m < n := by
  apply Classical.byContradiction
  intro hc
  have := limbs_mono (Nat.le_of_not_lt hc)
  omega
theorem limbs_inj {m n : Nat} (h : limbs m = limbs n) : m = n := by rw [← val_limbs m, h, val_limbs]

theorem val_take_set (xs : List Nat) (k y : Nat) (h : k < xs.length) : val ((xs.set k y).take (k + 1)) = val (xs.take k) + 4294967296 ^ k * y := by
  rw [val_take_succ _ _ (by simpa using h), List.take_set_of_le (Nat.le_refl k)]
  simp [h]
theorem drop_set_succ (xs : List Nat) (k y : Nat) : (xs.set k y).drop (k + 1) = xs.drop (k + 1) := by
  rw [List.drop_set_of_lt (by omega)]
theorem getD_of_drop {xs ys : List Nat} {k : Nat} (h : xs.drop k = ys.drop k) : xs.getD k 0 = ys.getD k 0 := by
  have := congrArg (fun l : List Nat => l[0]?) h
  simpa using congrArg (Option.getD · 0) this
theorem drop_succ_of {xs ys : List Nat} {k : Nat} (h : xs.drop k = ys.drop k) : xs.drop (k + 1) = ys.drop (k + 1) := by
  rw [← List.drop_drop, ← List.drop_drop, h]
theorem set_mid {A Z C : List Nat} {i y : Nat} (hi : i < Z.length) : (A ++ (Z ++ C)).set (A.length + i) y = A ++ (Z.set i y ++ C) := by
  rw [List.set_append_right _ _ (by omega), List.set_append_left _ _ (by omega)]
  simp
theorem getD_mid {A Z C : List Nat} {i : Nat} (hi : i < Z.length) : (A ++ (Z ++ C)).getD (A.length + i) 0 = Z.getD i 0 := by
  simp [List.getElem?_append_right, List.getElem?_append_left, hi]

/-- one step of a sum -/
theorem add_step {Z Z' : List Nat} {k c s Y Y' : Nat} (hl : Z'.length = Z.length) (hk : k < Z.length) (hd : Z'.drop k = Z.drop k) (hv : val (Z'.take k) + 4294967296 ^ k * c = val (Z.take k) + Y)
    (y : Nat) (hy : Y' = Y + 4294967296 ^ k * y) (hs : s = Z'.getD k 0 + y + c) :
    val ((Z'.set k (s % 4294967296)).take (k + 1)) + 4294967296 ^ (k + 1) * (s / 4294967296) = val (Z.take (k + 1)) + Y' := by
  rw [val_take_set _ _ _ (by omega), val_take_succ _ _ hk, hy, ← getD_of_drop hd, Nat.pow_succ, Nat.mul_assoc, Nat.add_assoc, ← Nat.mul_add, Nat.mod_add_div, hs]
  rw [Nat.mul_add, Nat.mul_add]
  omega
/-- one step of a difference -/
theorem sub_step {Z Z' : List Nat} {k c s c' Y Y' : Nat} (hl : Z'.length = Z.length) (hk : k < Z.length) (hd : Z'.drop k = Z.drop k) (hv : val (Z'.take k) + Y = val (Z.take k) + 4294967296 ^ k * c)
    (y : Nat) (hy : Y' = Y + 4294967296 ^ k * y) (hs : s + y + c = Z'.getD k 0 + 4294967296 * c') :
    val ((Z'.set k s).take (k + 1)) + Y' = val (Z.take (k + 1)) + 4294967296 ^ (k + 1) * c' := by
  rw [val_take_set _ _ _ (by omega), val_take_succ _ _ hk, hy, ← getD_of_drop hd, Nat.pow_succ, Nat.mul_assoc]
  have : 4294967296 ^ k * s + 4294967296 ^ k * y + 4294967296 ^ k * c = 4294967296 ^ k * Z'.getD k 0 + 4294967296 ^ k * (4294967296 * c') := by
    rw [← Nat.mul_add, ← Nat.mul_add, ← Nat.mul_add, hs]
  omega
theorem val_take_all {xs : List Nat} {k : Nat} (h : xs.length ≤ k) : val (xs.take k) = val xs := by rw [List.take_of_length_le h]

theorem val_pad (xs : List Nat) (n : Nat) : val (xs ++ zeros n) = val xs := by rw [val_append, val_replicate]; simp
theorem small_pad {xs : List Nat} (h : Small xs) (n : Nat) : Small (xs ++ zeros n) := small_append.2 ⟨h, small_replicate n⟩
theorem len_add (m n : Nat) : (limbs (m + n)).length ≤ max (limbs m).length (limbs n).length + 1 := by
  apply limbs_lt
  have h1 := lt_limbs m
  have h2 := lt_limbs n
  have h3 : 4294967296 ^ (limbs m).length ≤ 4294967296 ^ max (limbs m).length (limbs n).length := pow_le (Nat.le_max_left _ _)
  have h4 : 4294967296 ^ (limbs n).length ≤ 4294967296 ^ max (limbs m).length (limbs n).length := pow_le (Nat.le_max_right _ _)
  rw [Nat.pow_succ]
  omega
theorem len_mul (m n : Nat) : (limbs (m * n)).length ≤ (limbs m).length + (limbs n).length := by
  apply limbs_lt
  rw [Nat.pow_add]
  exact Nat.mul_lt_mul'' (lt_limbs m) (lt_limbs n)
theorem len_pos {n : Nat} (h : n ≠ 0) : 0 < (limbs n).length := List.length_pos_iff.2 (fun e => h (limbs_eq_nil.1 e))
theorem len_zero {n : Nat} (h : (limbs n).length = 0) : n = 0 := limbs_eq_nil.1 (List.eq_nil_of_length_eq_zero h)

theorem limbs_drop (m k : Nat) : (limbs m).drop k = limbs (m / 4294967296 ^ k) := by
  induction k generalizing m with
  | zero => simp
  | succ k ih =>
    by_cases h : m = 0
    · subst h; simp [limbs_zero]
    · rw [limbs_pos h, List.drop_succ_cons, ih, Nat.pow_succ, Nat.div_div_eq_div_mul, Nat.mul_comm 4294967296]
theorem limbs_take (m k : Nat) : trim ((limbs m).take k) = limbs (m % 4294967296 ^ k) := by
  rw [trim_eq ((limbs_small m).take k)]
  congr 1
  by_cases h : k ≤ (limbs m).length
  · have h1 := val_take_drop (limbs m) k h
    rw [val_limbs] at h1
    have h2 := val_lt ((limbs_small m).take k)
    rw [List.length_take, Nat.min_eq_left h] at h2
    have h3 : (val ((limbs m).take k) + 4294967296 ^ k * val ((limbs m).drop k)) % 4294967296 ^ k = val ((limbs m).take k) := by rw [Nat.add_mul_mod_self_left, Nat.mod_eq_of_lt h2]
    rw [h1] at h3
    exact h3.symm
  · rw [List.take_of_length_le (by omega), val_limbs, Nat.mod_eq_of_lt]
    exact Nat.lt_of_lt_of_le (lt_limbs m) (pow_le (by omega))
theorem len_sub (m n : Nat) : (limbs (m - n)).length ≤ (limbs m).length := limbs_mono (Nat.sub_le _ _)
end Go.Proofs.YtkbghamkalidcaaGreat.Nl
