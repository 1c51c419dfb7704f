/-
  And, Or and Xor of numbers and of strips. Conditions: those that each theorem names.
  Operations on bits of integers: whatever the strip, and bit by bit. Conditions: those that each theorem names.
  Strips of words of package whole: trimmed, negate, integer, lowest. Conditions: those that each theorem names.
  Strips of words of package whole: what they mean, and the lowest words of an integer. Conditions: those that each theorem names.
  The methods and, or, xor of package whole's pair of strips. Written by wip/tool/genpair.py. Conditions: those that each theorem names.
-/
import Derived.Test.YtipjbnbmackidaaGreatStripMAll
import Derived.Test.YtipjbnbmackidaaGreatMinusAll
import Derived.Test.YtipjbnbmackidaaGreatCountAll
import Derived.BigQuiet
namespace Go.Proofs.YtipjbnbmackidaaGreat.Nl

theorem bits_sum : ∀ x y : Nat, (x &&& y) + (x ||| y) = x + y ∧ (x ^^^ y) + (x &&& y) = (x ||| y) := by
  intro x
  induction x using Nat.strongRecOn with
  | _ x ih =>
    intro y
    by_cases hx : x = 0
    · subst hx; simp
    · obtain ⟨h1, h2⟩ := ih (x / 2) (by omega) (y / 2)
      have a1 := @Nat.and_div_two x y
      have a2 := @Nat.or_div_two x y
      have a3 := @Nat.xor_div_two x y
      have b1 := @Nat.and_mod_two_eq_one x y
      have b2 := @Nat.or_mod_two_eq_one x y
      have b3 := @Nat.xor_mod_two_eq_one x y
      rw [← a1, ← a2] at h1
      rw [← a1, ← a2, ← a3] at h2
      obtain ⟨p, hp⟩ : ∃ p, p = x &&& y := ⟨_, rfl⟩
      obtain ⟨q, hq⟩ : ∃ q, q = x ||| y := ⟨_, rfl⟩
      obtain ⟨r, hr⟩ : ∃ r, r = x ^^^ y := ⟨_, rfl⟩
      rw [← hp] at b1
      rw [← hq] at b2
      rw [← hr] at b3
      rw [← hp, ← hq] at h1
      rw [← hp, ← hq, ← hr] at h2
      rw [← hp, ← hq, ← hr]
      omega
theorem join_and (a b : Nat) {x y n : Nat} (hx : x < 2 ^ n) (hy : y < 2 ^ n) : (2 ^ n * a + x) &&& (2 ^ n * b + y) = 2 ^ n * (a &&& b) + (x &&& y) := by
  refine Nat.eq_of_testBit_eq fun i => ?_
  rw [Nat.testBit_and, Nat.testBit_two_pow_mul_add _ hx, Nat.testBit_two_pow_mul_add _ hy, Nat.testBit_two_pow_mul_add _ (Nat.and_lt_two_pow _ hy)]
  split <;> rw [Nat.testBit_and]
theorem join_or (a b : Nat) {x y n : Nat} (hx : x < 2 ^ n) (hy : y < 2 ^ n) : (2 ^ n * a + x) ||| (2 ^ n * b + y) = 2 ^ n * (a ||| b) + (x ||| y) := by
  refine Nat.eq_of_testBit_eq fun i => ?_
  rw [Nat.testBit_or, Nat.testBit_two_pow_mul_add _ hx, Nat.testBit_two_pow_mul_add _ hy, Nat.testBit_two_pow_mul_add _ (Nat.or_lt_two_pow hx hy)]
  split <;> rw [Nat.testBit_or]
theorem join_xor (a b : Nat) {x y n : Nat} (hx : x < 2 ^ n) (hy : y < 2 ^ n) : (2 ^ n * a + x) ^^^ (2 ^ n * b + y) = 2 ^ n * (a ^^^ b) + (x ^^^ y) := by
  refine Nat.eq_of_testBit_eq fun i => ?_
  rw [Nat.testBit_xor, Nat.testBit_two_pow_mul_add _ hx, Nat.testBit_two_pow_mul_add _ hy, Nat.testBit_two_pow_mul_add _ (Nat.xor_lt_two_pow hx hy)]
  split <;> rw [Nat.testBit_xor]
/-- the operation with a number: 1 And, 2 Or, 3 Xor -/
def bop (k : Nat) (x y : Nat) : Nat := if k = 1 then x &&& y else if k = 2 then x ||| y else x ^^^ y
theorem bop_join (k a b : Nat) {x y n : Nat} (hx : x < 2 ^ n) (hy : y < 2 ^ n) : bop k (2 ^ n * a + x) (2 ^ n * b + y) = 2 ^ n * bop k a b + bop k x y := by
  unfold bop
  split
  · exact join_and a b hx hy
  · split
    · exact join_or a b hx hy
    · exact join_xor a b hx hy
theorem bop_lt (k : Nat) {x y n : Nat} (hx : x < 2 ^ n) (hy : y < 2 ^ n) : bop k x y < 2 ^ n := by
  unfold bop
  split
  · exact Nat.and_lt_two_pow _ hy
  · split
    · exact Nat.or_lt_two_pow hx hy
    · exact Nat.xor_lt_two_pow hx hy
theorem bop_zero (k : Nat) : bop k 0 0 = 0 := by unfold bop; split <;> (try split) <;> rfl
theorem bop_take (k : Nat) {xs ys : List Nat} (hx : Small xs) (hy : Small ys) (hl : xs.length = ys.length) : val (List.zipWith (bop k) xs ys) = bop k (val xs) (val ys) := by
  induction xs generalizing ys with
  | nil => cases ys with
    | nil => exact (bop_zero k).symm
    | cons y ys => simp at hl
  | cons x xs ih => cases ys with
    | nil => simp at hl
    | cons y ys =>
      rw [small_cons] at hx hy
      rw [List.zipWith_cons_cons, val, val, val, ih hx.2 hy.2 (by simpa using hl), Nat.add_comm x, Nat.add_comm y, Nat.add_comm (bop k x y), show 4294967296 = 2 ^ 32 from rfl, bop_join k _ _ (show x < 2 ^ 32 from hx.1) (show y < 2 ^ 32 from hy.1)]
/-- what an operation gives for integers, seen through strips of P -/
def bopI (k : Nat) (a b : Int) (n : Nat) : Int := twos (2 ^ n) (bop k (low a (2 ^ n)) (low b (2 ^ n)))
/-- an integer between the bounds is what its strip means -/
theorem twos_low {a : Int} {P : Nat} (hP : 0 < P) (h1 : 2 * a < P) (h2 : -(P : Int) ≤ 2 * a) : twos P (low a P) = a := by
  by_cases h : a < 0
  · have h3 : low a P = (a + P).toNat := by
      have : low a P = ((a + P).toNat) := low_of (by omega) (-1) (by omega)
      exact this
    rw [h3, twos]
    split <;> omega
  · have h3 : low a P = a.toNat := low_of (by omega) 0 (by omega)
    rw [h3, twos]
    split <;> omega
/-- the bit of an integer at a place -/
def bitI (a : Int) (i : Nat) : Nat := low (a / ((2 ^ i : Nat) : Int)) 2
theorem bop_bits (k x y i : Nat) : (bop k x y).testBit i = (if k = 1 then x.testBit i && y.testBit i else if k = 2 then x.testBit i || y.testBit i else x.testBit i ^^ y.testBit i) := by
  unfold bop
  split
  · exact Nat.testBit_and ..
  · split
    · exact Nat.testBit_or ..
    · exact Nat.testBit_xor ..
end Go.Proofs.YtipjbnbmackidaaGreat.Nl

namespace Go.Proofs.YtipjbnbmackidaaGreat.Nl

/-- an integer between the bounds of a strip -/
def inside (a : Int) (n : Nat) : Prop := 2 * a < ((2 ^ n : Nat) : Int) ∧ -((2 ^ n : Nat) : Int) ≤ 2 * a
theorem inside_low {a : Int} {n : Nat} (h : inside a n) : (0 ≤ a ∧ (low a (2 ^ n) : Int) = a) ∨ (a < 0 ∧ (low a (2 ^ n) : Int) = a + ((2 ^ n : Nat) : Int)) := by
  obtain ⟨h1, h2⟩ := h
  obtain ⟨P, hP⟩ : ∃ P, P = 2 ^ n := ⟨_, rfl⟩
  rw [← hP] at h1 h2 ⊢
  by_cases h0 : a < 0
  · right
    refine ⟨h0, ?_⟩
    have : low a P = (a + P).toNat := low_of (by omega) (-1) (by omega)
    rw [this]; omega
  · left
    refine ⟨by omega, ?_⟩
    have : low a P = a.toNat := low_of (by omega) 0 (by omega)
    rw [this]; omega
theorem twos_twos {n v : Nat} (hn : 0 < n) (hv : v < 2 ^ n) : inside (twos (2 ^ n) v) n ∧ low (twos (2 ^ n) v) (2 ^ n) = v := by
  have h2 : 2 ^ n = 2 * 2 ^ (n - 1) := by rw [Nat.mul_comm, ← Nat.pow_succ]; congr 1; omega
  rw [inside, twos]
  obtain ⟨P, hP⟩ : ∃ P, P = 2 ^ n := ⟨_, rfl⟩
  rw [← hP] at hv h2 ⊢
  split
  · exact ⟨⟨by omega, by omega⟩, low_of hv 0 (by omega)⟩
  · exact ⟨⟨by omega, by omega⟩, low_of hv (-1) (by omega)⟩
theorem top_bit {n v : Nat} (hv : v < 2 ^ (n + 1)) : v.testBit n = decide (2 ^ (n + 1) ≤ 2 * v) := by
  rw [Nat.testBit_eq_decide_div_mod_eq]
  have h1 := Nat.two_pow_pos n
  rw [Nat.pow_succ] at hv ⊢
  obtain ⟨P, hP⟩ : ∃ P, P = 2 ^ n := ⟨_, rfl⟩
  rw [← hP] at hv h1 ⊢
  by_cases h : P ≤ v
  · rw [show v / P = 1 from by rw [Nat.div_eq_iff h1]; omega, decide_eq_true (by omega), decide_eq_true (by omega)]
  · rw [Nat.div_eq_of_lt (by omega), decide_eq_false (by omega), decide_eq_false (by omega)]
/-- a strip that is longer by one bit -/
theorem low_succ {a : Int} {n : Nat} (h : inside a n) : inside a (n + 1) ∧ low a (2 ^ (n + 1)) = 2 ^ n * (if a < 0 then 1 else 0) + low a (2 ^ n) := by
  have h1 : inside a (n + 1) := by
    obtain ⟨h1, h2⟩ := h
    rw [inside, Nat.pow_succ]
    obtain ⟨P, hP⟩ : ∃ P, P = 2 ^ n := ⟨_, rfl⟩
    rw [← hP] at h1 h2 ⊢
    omega
  refine ⟨h1, ?_⟩
  have h2 := inside_low h
  have h3 := inside_low h1
  rw [Nat.pow_succ] at h3 ⊢
  obtain ⟨P, hP⟩ : ∃ P, P = 2 ^ n := ⟨_, rfl⟩
  rw [← hP] at h2 h3 ⊢
  split <;> omega
theorem neg_top {a : Int} {n : Nat} (hn : 0 < n) (h : inside a n) : (low a (2 ^ n)).testBit (n - 1) = decide (a < 0) := by
  obtain ⟨m, rfl⟩ : ∃ m, n = m + 1 := ⟨n - 1, by omega⟩
  have h1 := inside_low h
  rw [Nat.add_sub_cancel, top_bit (low_lt _ _ (Nat.two_pow_pos _))]
  obtain ⟨h2, h3⟩ := h
  obtain ⟨P, hP⟩ : ∃ P, P = 2 ^ (m + 1) := ⟨_, rfl⟩
  rw [← hP] at h1 h2 h3 ⊢
  rw [decide_eq_decide]; omega
def bopB (k : Nat) (x y : Bool) : Bool := if k = 1 then x && y else if k = 2 then x || y else x ^^ y
theorem bop_one (k : Nat) (x y : Bool) : bop k (if x = true then 1 else 0) (if y = true then 1 else 0) = if bopB k x y = true then 1 else 0 := by
  by_cases h1 : k = 1
  · subst h1; cases x <;> cases y <;> rfl
  · by_cases h2 : k = 2
    · subst h2; cases x <;> cases y <;> rfl
    · unfold bop bopB
      rw [if_neg h1, if_neg h2, if_neg h1, if_neg h2]
      cases x <;> cases y <;> rfl
theorem bop_test (k x y i : Nat) : (bop k x y).testBit i = bopB k (x.testBit i) (y.testBit i) := by
  rw [bop_bits]; rfl
theorem bopI_inside {k : Nat} {a b : Int} {n : Nat} (hn : 0 < n) : inside (bopI k a b n) n ∧ low (bopI k a b n) (2 ^ n) = bop k (low a (2 ^ n)) (low b (2 ^ n)) :=
  twos_twos hn (bop_lt k (low_lt _ _ (Nat.two_pow_pos _)) (low_lt _ _ (Nat.two_pow_pos _)))
theorem bopI_succ {k : Nat} {a b : Int} {n : Nat} (hn : 0 < n) (ha : inside a n) (hb : inside b n) : bopI k a b (n + 1) = bopI k a b n := by
  obtain ⟨-, h1⟩ := low_succ ha
  obtain ⟨-, h2⟩ := low_succ hb
  have la := low_lt a _ (Nat.two_pow_pos n)
  have lb := low_lt b _ (Nat.two_pow_pos n)
  have h3 := neg_top hn ha
  have h4 := neg_top hn hb
  obtain ⟨u, hu⟩ : ∃ u, u = low a (2 ^ n) := ⟨_, rfl⟩
  obtain ⟨v, hv⟩ : ∃ v, v = low b (2 ^ n) := ⟨_, rfl⟩
  rw [← hu] at h1 h3 la
  rw [← hv] at h2 h4 lb
  have hd : ∀ a : Int, (if a < 0 then 1 else 0 : Nat) = if decide (a < 0) = true then 1 else 0 := fun a => by by_cases h : a < 0 <;> simp [h]
  rw [bopI, bopI, h1, h2, ← hu, ← hv, bop_join k _ _ la lb, hd a, hd b, bop_one, ← h3, ← h4, ← bop_test]
  have hw := bop_lt k la lb
  obtain ⟨w, hw'⟩ : ∃ w, w = bop k u v := ⟨_, rfl⟩
  rw [← hw'] at hw ⊢
  obtain ⟨m, rfl⟩ : ∃ m, n = m + 1 := ⟨n - 1, by omega⟩
  rw [Nat.add_sub_cancel, top_bit hw, twos, twos, Nat.pow_succ 2 (m + 1)]
  obtain ⟨P, hP⟩ : ∃ P, P = 2 ^ (m + 1) := ⟨_, rfl⟩
  rw [← hP] at hw ⊢
  by_cases h : P ≤ 2 * w
  · rw [decide_eq_true h, if_pos rfl, if_neg (by omega), if_neg (by omega)]; omega
  · rw [decide_eq_false h]
    simp only [Bool.false_eq_true, if_false, Nat.mul_zero, Nat.zero_add]
    rw [if_pos (by omega), if_pos (by omega)]
theorem inside_le {a : Int} {n m : Nat} (h : inside a n) (hm : n ≤ m) : inside a m := by
  obtain ⟨d, rfl⟩ : ∃ d, m = n + d := ⟨m - n, by omega⟩
  clear hm
  induction d with
  | zero => exact h
  | succ d ih => exact (low_succ ih).1
theorem bopI_le {k : Nat} {a b : Int} {n m : Nat} (hn : 0 < n) (ha : inside a n) (hb : inside b n) (hm : n ≤ m) : bopI k a b m = bopI k a b n := by
  obtain ⟨d, rfl⟩ : ∃ d, m = n + d := ⟨m - n, by omega⟩
  clear hm
  induction d with
  | zero => rfl
  | succ d ih => rw [← Nat.add_assoc, bopI_succ (by omega) (inside_le ha (Nat.le_add_right _ _)) (inside_le hb (Nat.le_add_right _ _)), ih]
theorem twos_eq {n v : Nat} (hn : 0 < n) (hv : v < 2 ^ n) : twos (2 ^ n) v = (v : Int) - (if v.testBit (n - 1) = true then ((2 ^ n : Nat) : Int) else 0) := by
  obtain ⟨m, rfl⟩ : ∃ m, n = m + 1 := ⟨n - 1, by omega⟩
  rw [Nat.add_sub_cancel, top_bit hv, twos]
  by_cases h : 2 ^ (m + 1) ≤ 2 * v
  · rw [decide_eq_true h, if_pos rfl, if_neg (by omega)]
  · rw [decide_eq_false h]
    simp only [Bool.false_eq_true, if_false]
    rw [if_pos (by omega)]; omega
/-- And and Or add up to the sum; Xor is Or less And -/
theorem bopI_sums {a b : Int} {n : Nat} (hn : 0 < n) (ha : inside a n) (hb : inside b n) : bopI 1 a b n + bopI 2 a b n = a + b ∧ bopI 3 a b n = bopI 2 a b n - bopI 1 a b n := by
  have la := low_lt a _ (Nat.two_pow_pos n)
  have lb := low_lt b _ (Nat.two_pow_pos n)
  have ea : twos (2 ^ n) (low a (2 ^ n)) = a := twos_low (Nat.two_pow_pos n) ha.1 ha.2
  have eb : twos (2 ^ n) (low b (2 ^ n)) = b := twos_low (Nat.two_pow_pos n) hb.1 hb.2
  rw [twos_eq hn la] at ea
  rw [twos_eq hn lb] at eb
  rw [bopI, bopI, bopI, twos_eq hn (bop_lt 1 la lb), twos_eq hn (bop_lt 2 la lb), twos_eq hn (bop_lt 3 la lb), bop_test, bop_test, bop_test]
  obtain ⟨u, hu⟩ : ∃ u, u = low a (2 ^ n) := ⟨_, rfl⟩
  obtain ⟨v, hv⟩ : ∃ v, v = low b (2 ^ n) := ⟨_, rfl⟩
  rw [← hu] at ea ⊢
  rw [← hv] at eb ⊢
  obtain ⟨s1, s2⟩ := bits_sum u v
  have e1 : bop 1 u v = u &&& v := rfl
  have e2 : bop 2 u v = u ||| v := rfl
  have e3 : bop 3 u v = u ^^^ v := rfl
  rw [e1, e2, e3]
  obtain ⟨P, hP⟩ : ∃ P, P = 2 ^ n := ⟨_, rfl⟩
  rw [← hP] at ea eb ⊢
  have f1 : ∀ x y, bopB 1 x y = (x && y) := fun _ _ => rfl
  have f2 : ∀ x y, bopB 2 x y = (x || y) := fun _ _ => rfl
  have f3 : ∀ x y, bopB 3 x y = (x ^^ y) := fun _ _ => rfl
  rw [f1, f2, f3]
  cases hx : u.testBit (n - 1) <;> cases hy : v.testBit (n - 1) <;> rw [hx] at ea <;> rw [hy] at eb <;> simp only [Bool.and_false, Bool.and_true, Bool.or_false, Bool.or_true, Bool.xor_false, Bool.xor_true, Bool.not_true, Bool.not_false, if_true, if_false, Bool.false_eq_true] at ea eb ⊢ <;> omega
theorem not_inside {a : Int} {n : Nat} (hn : 0 < n) (h : inside a n) : inside (-1 - a) n ∧ low (-1 - a) (2 ^ n) = 2 ^ n - (low a (2 ^ n) + 1) := by
  have h2 : 2 ^ n = 2 * 2 ^ (n - 1) := by rw [Nat.mul_comm, ← Nat.pow_succ]; congr 1; omega
  have h1 : inside (-1 - a) n := by
    obtain ⟨h1, h3⟩ := h
    rw [inside]
    obtain ⟨P, hP⟩ : ∃ P, P = 2 ^ n := ⟨_, rfl⟩
    rw [← hP] at h1 h2 h3 ⊢
    omega
  refine ⟨h1, ?_⟩
  have h3 := inside_low h
  have h4 := inside_low h1
  have h5 := low_lt a _ (Nat.two_pow_pos n)
  obtain ⟨P, hP⟩ : ∃ P, P = 2 ^ n := ⟨_, rfl⟩
  rw [← hP] at h3 h4 h5 ⊢
  omega
/-- Not turns And into Or -/
theorem bopI_not {a b : Int} {n : Nat} (hn : 0 < n) (ha : inside a n) (hb : inside b n) : bopI 2 (-1 - a) (-1 - b) n = -1 - bopI 1 a b n := by
  have la := low_lt a _ (Nat.two_pow_pos n)
  have lb := low_lt b _ (Nat.two_pow_pos n)
  obtain ⟨ia, ea⟩ := not_inside hn ha
  obtain ⟨ib, eb⟩ := not_inside hn hb
  obtain ⟨ic, ec⟩ := bopI_inside (k := 1) (a := a) (b := b) hn
  obtain ⟨id, ed⟩ := not_inside hn ic
  obtain ⟨ie, ee⟩ := bopI_inside (k := 2) (a := -1 - a) (b := -1 - b) hn
  have h1 : low (bopI 2 (-1 - a) (-1 - b) n) (2 ^ n) = low (-1 - bopI 1 a b n) (2 ^ n) := by
    rw [ed, ec, ee, ea, eb]
    refine Nat.eq_of_testBit_eq fun i => ?_
    rw [bop_test, Nat.testBit_two_pow_sub_succ la, Nat.testBit_two_pow_sub_succ lb, Nat.testBit_two_pow_sub_succ (bop_lt 1 la lb), bop_test]
    have f1 : ∀ x y, bopB 1 x y = (x && y) := fun _ _ => rfl
    have f2 : ∀ x y, bopB 2 x y = (x || y) := fun _ _ => rfl
    rw [f1, f2]
    cases decide (i < n) <;> cases Nat.testBit (low a (2 ^ n)) i <;> cases Nat.testBit (low b (2 ^ n)) i <;> rfl
  rw [← twos_low (Nat.two_pow_pos n) ie.1 ie.2, ← twos_low (Nat.two_pow_pos n) id.1 id.2, h1]
/-- the bit of an integer at a place below the strip's end -/
theorem bitI_low {a : Int} {n i : Nat} (hi : i < n) : bitI a i = if (low a (2 ^ n)).testBit i = true then 1 else 0 := by
  have h1 : 2 ^ n = 2 ^ i * (2 * 2 ^ (n - i - 1)) := by rw [Nat.mul_comm 2, ← Nat.pow_succ, ← Nat.pow_add]; congr 1; omega
  have h2 := low_eq a (2 ^ n) (Nat.two_pow_pos n)
  have h3 := Int.emod_add_mul_ediv a ((2 ^ n : Nat) : Int)
  rw [← h2] at h3
  have hp := Nat.two_pow_pos i
  obtain ⟨v, hv⟩ : ∃ v, v = low a (2 ^ n) := ⟨_, rfl⟩
  rw [← hv] at h3 ⊢
  obtain ⟨q, hq⟩ : ∃ q, q = a / ((2 ^ n : Nat) : Int) := ⟨_, rfl⟩
  rw [← hq, h1] at h3
  obtain ⟨P, hP⟩ : ∃ P, P = 2 ^ i := ⟨_, rfl⟩
  obtain ⟨D, hD⟩ : ∃ D, D = 2 ^ (n - i - 1) := ⟨_, rfl⟩
  rw [← hD, ← hP] at h3
  rw [Nat.testBit_eq_decide_div_mod_eq, bitI, ← hP]
  rw [← hP] at hp
  have h4 : a / (P : Int) = ((v / P : Nat) : Int) + (2 : Int) * ((D : Int) * q) := by
    rw [← h3, Int.natCast_mul, Int.mul_assoc, Int.add_mul_ediv_left _ _ (by omega), Int.natCast_ediv, Int.natCast_mul, Int.mul_assoc]; rfl
  rw [low_of (a := a / (P : Int)) (P := 2) (v := v / P % 2) (Nat.mod_lt _ (by decide)) (((v / P / 2 : Nat) : Int) + (D : Int) * q) (by omega)]
  by_cases h : v / P % 2 = 1
  · rw [decide_eq_true h, if_pos rfl, h]
  · rw [decide_eq_false h, if_neg (by decide)]; omega
theorem bits_bop {k : Nat} {a b : Int} {n i : Nat} (hi : i < n) : bitI (bopI k a b n) i = if bopB k (decide (bitI a i = 1)) (decide (bitI b i = 1)) = true then 1 else 0 := by
  rw [bitI_low hi, (bopI_inside (by omega)).2, bop_test, bitI_low (a := a) hi, bitI_low (a := b) hi]
  cases Nat.testBit (low a (2 ^ n)) i <;> cases Nat.testBit (low b (2 ^ n)) i <;> rfl
theorem bits_not {a : Int} {n i : Nat} (hi : i < n) (h : inside a n) : bitI (-1 - a) i = 1 - bitI a i := by
  rw [bitI_low hi, bitI_low hi, (not_inside (by omega) h).2, Nat.testBit_two_pow_sub_succ (low_lt _ _ (Nat.two_pow_pos n)), decide_eq_true hi]
  cases Nat.testBit (low a (2 ^ n)) i <;> rfl
theorem bitI_two (a : Int) (i : Nat) : bitI a i = 0 ∨ bitI a i = 1 := by
  have := low_lt (a / ((2 ^ i : Nat) : Int)) 2 (by decide)
  rw [bitI]; omega
end Go.Proofs.YtipjbnbmackidaaGreat.Nl

namespace Go.Proofs.YtipjbnbmackidaaGreat
open Go.RowKit

theorem wtrimmed_cells (b off cap : Nat) (xs : List Nat) (w : World) (h : Cells w b off xs) (hc : xs.length ≤ cap) (hm : cap ≤ 9223372036854775807) :
    Calls Tryz.prog 227 #[.slice (some ⟨b, off, none⟩) xs.length cap] w fun e w' => e = .returned (.slice (some ⟨b, off, none⟩) (Nl.trim xs).length cap) ∧ w = w' := by
  go_enter Tryz.func227, Tryz.ntmps227
  go_wp2
  go_loop [3] (fun n => ∃ k : Nat, k ≤ xs.length ∧ n = .int .i64 k ∧ Hid (Nl.trim (xs.take k) = Nl.trim xs)) (fun n => (intOf n).toNat)
  case atStart => exact ⟨xs.length, Nat.le_refl _, rfl, by simp [Hid]⟩
  case round =>
    obtain ⟨k, hk, rfl, ht⟩ := hrel
    cases k with
    | zero =>
      go_wp2
      go_ret
      have := ht.out
      rw [List.take_zero] at this
      rw [← this]
      exact ⟨rfl, rfl⟩
    | succ k =>
      obtain ⟨x, hx⟩ : ∃ x, x = xs.getD k 0 := ⟨_, rfl⟩
      have hcell := h k (by omega)
      rw [← hx] at hcell
      have Hx := Lib.hid hx
      clear hx
      by_cases hz : x = 0
      · have hz1 : ((x : Int) == 0) = true := by rw [beq_iff_eq]; omega
        have HZ := Lib.hid hz
        clear hz
        go_wp2
        go_round
        case rel => exact ⟨k, by omega, by go_num, by rw [Hid, ← Nl.trim_take_zero (by omega) (by rw [← Hx.out, HZ.out])]; exact ht.out⟩
        case measure => simp [intOf] <;> omega
      · have hz1 : ((x : Int) == 0) = false := by rw [beq_eq_false_iff_ne]; omega
        go_wp2
        go_ret
        rw [← ht.out, Nl.trim_take_some (by omega) (by rw [← Hx.out]; exact hz)]
        exact ⟨rfl, rfl⟩
/-- the complement of a word -/
theorem not_word (x : Nat) (hx : x < 4294967296) : bits .xor .u32 IntKind.u32.max (x : Int) = ((4294967296 - 1 - x : Nat) : Int) := by
  have em : IntKind.u32.max = ((4294967295 : Nat) : Int) := rfl
  rw [em, u32_xor_nat _ _ (by decide) hx]
  congr 1
  refine Nat.eq_of_testBit_eq fun i => ?_
  rw [show (4294967296 : Nat) - 1 - x = 2 ^ 32 - (x + 1) by omega, Nat.testBit_two_pow_sub_succ (show x < 2 ^ 32 from hx), Nat.testBit_xor, show (4294967295 : Nat) = 2 ^ 32 - 1 from rfl, Nat.testBit_two_pow_sub_one]
  by_cases h : i < 32
  · rw [decide_eq_true h]; cases x.testBit i <;> rfl
  · rw [decide_eq_false h, Nat.testBit_lt_two_pow (Nat.lt_of_lt_of_le hx (show 4294967296 ≤ 2 ^ i from Nat.pow_le_pow_right (n := 2) (by decide) (show 32 ≤ i by omega)))]; rfl

theorem add32_zero (y c : Nat) (hy : y < 4294967296) (hc : c < 4294967296) (w : World) :
    Calls Tryz.prog 265 #[.int .u32 y, .int .u32 0, .int .u32 c] w fun e w' => e = .returned (.tuple #[.int .u32 (((y + c) % 4294967296 : Nat) : Int), .int .u32 (((y + c) / 4294967296 : Nat) : Int)]) ∧ w = w' :=
  add32 y 0 c hy (by decide) hc w
set_option maxHeartbeats 1000000 in
theorem negate_any (g n cap : Nat) (xs : List Nat) (w : World) (hn : xs.length = n) (hr : Row w g xs) (hs : Nl.Small xs) (hl : n ≤ cap) (hcap : cap ≤ 9223372036854775807) :
    Calls Tryz.prog 226 #[.slice (some ⟨g, 0, none⟩) n cap] w fun e w' => e = .returned (.tuple #[]) ∧
      ∃ Z, Row w' g Z ∧ Only g w w' ∧ Z.length = n ∧ Nl.Small Z ∧ Nl.val Z = (4294967296 ^ n - Nl.val xs) % 4294967296 ^ n := by
  have HR := Lib.hid hr
  have HN := Lib.hid hn
  clear hr hn
  go_enter Tryz.func226, Tryz.ntmps226
  go_wp2
  go_loopw [2, 7] (fun c i wr => ∃ (k : Nat) (d : Nat) (Z : List Nat), k ≤ n ∧ i = .int .i64 k ∧ c = .int .u32 (d : Int) ∧ d < 2 ∧ Hid (Row wr g Z) ∧ Hid (Only g w wr) ∧ Hid (Z.length = n) ∧ Hid (Nl.Small Z) ∧ Hid (Z.drop k = xs.drop k) ∧
      Hid (Nl.val (Z.take k) + 4294967296 ^ k * d + Nl.val (xs.take k) = 4294967296 ^ k)) (fun _ i _ => (n - (intOf i).toNat))
  case atStart => exact ⟨0, 1, xs, by omega, rfl, rfl, by omega, HR, Only.refl g w, HN, hs, rfl, by simp [Hid]⟩
  case round =>
    obtain ⟨k, d, Z, hk, rfl, rfl, hd, hrow, honly, hlen, hsm, hdr, hv⟩ := hrel
    by_cases hlt : k < n
    · obtain ⟨x, hx⟩ : ∃ x, x = Z.getD k 0 := ⟨_, rfl⟩
      have hx2 : x < 4294967296 := by rw [hx]; exact hsm.out.getD k
      have cx := hrow.out.cell (i := k) (by rw [hlen.out]; omega)
      rw [← hx] at cx
      have fx := hrow.out.free k
      obtain ⟨y, hy⟩ : ∃ y, y = 4294967296 - 1 - x := ⟨_, rfl⟩
      have nx := not_word x hx2
      rw [← hy] at nx
      have Hx := Lib.hid (And.intro hx hy)
      have hy2 : y < 4294967296 := by omega
      have h32 := fun w' => add32_zero y d hy2 (by omega) w'
      rw [← nx] at h32
      have H32 := Lib.hid h32
      clear hx hy nx h32
      go_wp2_with (go_at_call 265; refine (H32.out _).mono ?_; rintro e w' ⟨rfl, rfl⟩)
      go_roundw
      case rel =>
        have hkx : k < xs.length := by rw [HN.out]; exact hlt
        have hx' : x = xs.getD k 0 := by rw [Hx.out.1]; exact Nl.getD_of_drop hdr.out
        refine ⟨k + 1, (y + d) / 4294967296, Z.set k ((y + d) % 4294967296), by omega, by go_num, rfl, by omega, hrow.out.set _ _, grown_trans honly.out (Only.setCell g _ _ _), ?_, ?_, ?_, ?_⟩
        · rw [Hid, List.length_set]; exact hlen.out
        · exact hsm.out.set _ (Nat.mod_lt _ (by decide))
        · rw [Hid, Nl.drop_set_succ]; exact Nl.drop_succ_of hdr.out
        · exact Nl.neg_step (by rw [hlen.out, HN.out]) hkx hv.out (by rw [← hx']; exact hx2) (by rw [← hx', ← Hx.out.2]; omega)
      case measure => simp [intOf] <;> omega
    · obtain rfl : k = n := by omega
      go_wp2
      go_end0
      refine ⟨rfl, Z, hrow.out, honly.out, hlen.out, hsm.out, ?_⟩
      have h := Nl.neg_end (xs := xs) (Z := Z) (c := d) hsm.out (by rw [hlen.out, HN.out]) (by rw [HN.out]; exact hv.out)
      rw [HN.out] at h
      exact h
end Go.Proofs.YtipjbnbmackidaaGreat

namespace Go.Proofs.YtipjbnbmackidaaGreat
open Go.RowKit

theorem twos_limbs {m : Nat} {xs Z : List Nat} {n : Nat} (hx : xs.length = n) (hs : Nl.Small xs) (hneg : ¬ 2 * Nl.val xs < 4294967296 ^ n) (hz : Nl.val Z = (4294967296 ^ n - Nl.val xs) % 4294967296 ^ n) (hm : m = Nl.val Z) : sgn true m = Nl.twos (4294967296 ^ n) (Nl.val xs) := by
  have h1 := Nl.val_lt hs
  rw [hx] at h1
  rw [Nl.twos, if_neg hneg, sgn, if_pos rfl, hm, hz]
  obtain ⟨P, hP⟩ : ∃ P, P = 4294967296 ^ n := ⟨_, rfl⟩
  rw [← hP] at h1 hneg ⊢
  rw [Nat.mod_eq_of_lt (by omega)]
  omega

theorem wtrimmed_row (g n : Nat) (L : List Nat) (w : World) (hn : L.length = n) (hr : Row w g L) (hm : n ≤ 9223372036854775807) :
    Calls Tryz.prog 227 #[.slice (some ⟨g, 0, none⟩) n n] w fun e w' => e = .returned (.slice (some ⟨g, 0, none⟩) (Nl.trim L).length n) ∧ w = w' := by
  subst hn
  exact wtrimmed_cells g 0 _ L w (hr.cells fun i hi => ⟨by omega, by simp⟩) (Nat.le_refl _) hm
theorem only_block {g b : Nat} {w w' : World} {o : Option Obj} (h : Only g w w') (hb : w.heap[b]? = o) (hl : b < w.heap.size) (hne : b ≠ g) : w'.heap[b]? = o := (h.block b hl (by simpa using hne)).trans hb
set_option maxHeartbeats 2000000 in
theorem strip_integer (g k : Nat) (xs : List Nat) (w : World) (hn : xs.length = k + 1) (hr : Row w g xs) (hs : Nl.Small xs) (hcap : k + 1 ≤ 1000000) (B : Nat) (w0 : World) (hb : Below B w0 w) (hg : B ≤ g) (hB : B ≤ w.heap.size) :
    Calls Tryz.prog 175 #[.slice (some ⟨g, 0, none⟩) (k + 1) (k + 1)] w fun e w' => (∃ s p l c, e = .returned (.agg #[.bool s, .slice p l c]) ∧ IsI w' (.agg #[.bool s, .slice p l c]) (Nl.twos (4294967296 ^ (k + 1)) (Nl.val xs))) ∧ Below B w0 w' := by
  obtain ⟨W, hW⟩ : ∃ W, W = w.alloc (.cells #[.bool false, .slice none 0 0] 87) := ⟨_, rfl⟩
  have hbw : Below w.heap.size w W := by rw [hW]; exact below_one w _
  have hQ : W.heap[w.heap.size]? = some (.cells #[.bool false, .slice none 0 0] 87 (0, 0)) := by rw [hW]; exact heap_alloc_new _ _
  have hR : Row W g xs := hr.below hbw hr.lt
  obtain ⟨x, hx⟩ : ∃ x, x = xs.getD k 0 := ⟨_, rfl⟩
  have hx2 : x < 4294967296 := by rw [hx]; exact hs.getD k
  have htop := Nl.strip_top hs hn
  rw [← hx] at htop
  have cx := hR.cell (i := k) (by omega)
  rw [← hx] at cx
  have hne : g ≠ w.heap.size := Nat.ne_of_lt hr.lt
  have HN := Lib.hid (And.intro hn (And.intro hs htop))
  have HB := Lib.hid (And.intro (hb.trans (hbw.mono hB)) (And.intro hg hB))
  have HQ := Lib.hid (And.intro hQ hne)
  have HR := Lib.hid hR
  clear hn hs htop hb hg hB hne hbw hQ hR hr hx
  by_cases h0 : 2147483648 ≤ x
  · have e1 : ((x : Int) / 2147483648 == 1) = true := by rw [beq_iff_eq]; omega
    have H0 := Lib.hid (HN.out.2.2.1 h0)
    clear h0
    rw [hW] at cx
    go_enter Tryz.func175, Tryz.ntmps175
    go_wp2_with fail
    rw [← hW] at cx ⊢
    clear hW cx
    refine (negate_any g (k + 1) (k + 1) xs W HN.out.1 HR.out HN.out.2.1 (Nat.le_refl _) (by omega)).mono ?_
    rintro e w1 ⟨rfl, Z, hr1, ho1, hl1, hs1, hv1⟩
    have H1 := Lib.hid (And.intro hr1 (And.intro ho1 (And.intro hl1 (And.intro hs1 hv1))))
    clear hr1 ho1 hl1 hs1 hv1
    go_wp2_with fail
    refine (wtrimmed_row g (k + 1) Z w1 H1.out.2.2.1 H1.out.1 (by omega)).mono ?_
    rintro e wt ⟨rfl, rfl⟩
    obtain ⟨m, hm⟩ : ∃ m, m = Nl.val Z := ⟨_, rfl⟩
    have hAt := (Own.num (base := 0) (k := m) (Nat.zero_le g) H1.out.1 H1.out.2.2.1 (by omega) H1.out.2.2.2.1 hm.symm).at.at
    obtain ⟨l, hl⟩ : ∃ l, l = (Nl.trim Z).length := ⟨_, rfl⟩
    rw [← hl] at hAt ⊢
    have HA := Lib.hid (And.intro hAt hm)
    clear hAt hm hl
    go_wp2_with fail
    refine (signed_num true _ m w1 HA.out.1).mono ?_
    rintro e w2 ⟨⟨t, rfl, ht⟩, hb2⟩
    have BQ := (hb2.block _ (Nat.lt_of_lt_of_le (lt_of_block HQ.out.1) H1.out.2.1.size)).trans (only_block H1.out.2.1 HQ.out.1 (lt_of_block HQ.out.1) HQ.out.2.symm)
    have f0 := frozen_of_row _ _ 0 _ _ BQ
    have f1 := frozen_of_row _ _ 1 _ _ BQ
    have g0 := cell_of_row _ _ 0 _ _ (0, 0) BQ
    have g1 := cell_of_row _ _ 1 _ _ (0, 0) BQ
    have H2 := Lib.hid (And.intro BQ (And.intro ht hb2))
    clear BQ ht hb2
    go_wp2_with fail
    refine bodyPost_ret (v := .agg #[.bool t, .slice (some ⟨g, 0, none⟩) l (k + 1)]) (results_cell_row Tryz.results175 _ _ w.heap.size 87 _ (0, 0) _ rfl (ibox_set _ _ H2.out.1) Tryz.underlying87 rfl (by kernel_rfl)) rfl ?_
    refine ⟨⟨_, _, _, _, rfl, isI_mk (at_ibox _ _ (HA.out.1.below H2.out.2.2) H2.out.1) H2.out.2.1 ?_⟩, below_ibox ((below_of_only HB.out.1 H1.out.2.1 HB.out.2.1 (Nat.le_trans HB.out.2.2 (Nat.le_of_lt (lt_of_block HQ.out.1)))).trans (H2.out.2.2.mono ?_)) HB.out.2.2 _ _⟩
    · exact twos_limbs HN.out.1 HN.out.2.1 H0.out H1.out.2.2.2.2 HA.out.2
    · exact Nat.le_trans (Nat.le_trans HB.out.2.2 (Nat.le_of_lt (lt_of_block HQ.out.1))) H1.out.2.1.size
  · have e1 : ((x : Int) / 2147483648 == 1) = false := by rw [beq_eq_false_iff_ne]; omega
    have H0 := Lib.hid (show 2 * Nl.val xs < 4294967296 ^ (k + 1) from Decidable.not_not.1 (fun h => h0 (HN.out.2.2.2 h)))
    clear h0
    rw [hW] at cx
    go_enter Tryz.func175, Tryz.ntmps175
    go_wp2_with fail
    rw [← hW] at cx ⊢
    clear hW cx
    refine (wtrimmed_row g (k + 1) xs W HN.out.1 HR.out (by omega)).mono ?_
    rintro e wt ⟨rfl, rfl⟩
    obtain ⟨m, hm⟩ : ∃ m, m = Nl.val xs := ⟨_, rfl⟩
    have hAt := (Own.num (base := 0) (k := m) (Nat.zero_le g) HR.out HN.out.1 (by omega) HN.out.2.1 hm.symm).at.at
    obtain ⟨l, hl⟩ : ∃ l, l = (Nl.trim xs).length := ⟨_, rfl⟩
    rw [← hl] at hAt ⊢
    have HA := Lib.hid (And.intro hAt hm)
    clear hAt hm hl
    go_wp2_with fail
    refine (signed_num false _ m W HA.out.1).mono ?_
    rintro e w2 ⟨⟨t, rfl, ht⟩, hb2⟩
    have BQ := (hb2.block _ (lt_of_block HQ.out.1)).trans HQ.out.1
    have f0 := frozen_of_row _ _ 0 _ _ BQ
    have f1 := frozen_of_row _ _ 1 _ _ BQ
    have g0 := cell_of_row _ _ 0 _ _ (0, 0) BQ
    have g1 := cell_of_row _ _ 1 _ _ (0, 0) BQ
    have H2 := Lib.hid (And.intro BQ (And.intro ht hb2))
    clear BQ ht hb2
    go_wp2_with fail
    refine bodyPost_ret (v := .agg #[.bool t, .slice (some ⟨g, 0, none⟩) l (k + 1)]) (results_cell_row Tryz.results175 _ _ w.heap.size 87 _ (0, 0) _ rfl (ibox_set _ _ H2.out.1) Tryz.underlying87 rfl (by kernel_rfl)) rfl ?_
    refine ⟨⟨_, _, _, _, rfl, isI_mk (at_ibox _ _ (HA.out.1.below H2.out.2.2) H2.out.1) H2.out.2.1 ?_⟩, below_ibox (HB.out.1.trans (H2.out.2.2.mono ?_)) HB.out.2.2 _ _⟩
    · rw [Nl.twos, if_pos H0.out, HA.out.2]; rfl
    · exact Nat.le_trans HB.out.2.2 (Nat.le_of_lt (lt_of_block HQ.out.1))
theorem val_take_limbs (m n : Nat) : Nl.val ((Nl.limbs m).take n) = m % 4294967296 ^ n := by
  rw [← Nl.val_trim, Nl.limbs_take, Nl.val_limbs]
set_option maxHeartbeats 2000000 in
theorem lowest_any (va : Value) (a : Int) (n : Nat) (w : World) (ha : IsI w va a) (h1 : 1 ≤ n) (h2 : n ≤ 1000000) :
    Calls Tryz.prog 174 #[va, .int .i64 n] w fun e w' => ∃ g Z, e = .returned (.slice (some ⟨g, 0, none⟩) n n) ∧ w.heap.size ≤ g ∧ Row w' g Z ∧ Z.length = n ∧ Nl.Small Z ∧ Nl.val Z = Nl.low a (4294967296 ^ n) ∧ Below w.heap.size w w' := by
  obtain ⟨p, c, rfl, hu⟩ := ha.form
  obtain ⟨l, hl⟩ : ∃ l, l = (Nl.limbs a.natAbs).length := ⟨_, rfl⟩
  rw [← hl] at ha hu ⊢
  obtain ⟨s, hs⟩ : ∃ s, s = negB a := ⟨_, rfl⟩
  rw [← hs] at ha ⊢
  obtain ⟨V, hV⟩ : ∃ V, V = w.alloc (.cells #[.bool s, .slice p l c] 87) := ⟨_, rfl⟩
  have hbV : Below w.heap.size w V := by rw [hV]; exact below_one w _
  have hQ : V.heap[w.heap.size]? = some (.cells #[.bool s, .slice p l c] 87 (0, 0)) := by rw [hV]; exact heap_alloc_new _ _
  have hVs : V.heap.size = w.heap.size + 1 := by rw [hV]; simp
  have hmk := make_words 169 Tryz.underlying169 V n n (by omega) (by omega)
  obtain ⟨W, hW⟩ : ∃ W, W = V.alloc (.cells (vals (Nl.zeros n)).toArray 77) := ⟨_, rfl⟩
  have hbW : Below V.heap.size V W := by rw [hW]; exact below_one V _
  have hR : Row W V.heap.size (Nl.zeros n) := by rw [hW]; exact row_new V _
  have hQ2 := (hbW.block _ (lt_of_block hQ)).trans hQ
  have k0 := cell_of_row _ _ 0 _ _ (0, 0) hQ2
  have k1 := cell_of_row _ _ 1 _ _ (0, 0) hQ2
  simp only [List.getElem?_toArray, List.getElem?_cons_zero, List.getElem?_cons_succ] at k0 k1
  rw [hW] at k0 k1
  have hwl : W.heap.size = w.heap.size + 2 := by rw [hW]; simp [hVs]
  have hbb : Below w.heap.size w W := hbV.trans (hbW.mono hbV.size)
  have HU := Lib.hid (And.intro hl (hu.below hbb))
  have HS := Lib.hid hs
  have HQ := Lib.hid (And.intro hQ2 (And.intro hVs (And.intro hR hbb)))
  have HV0 := Lib.hid hbV
  clear ha hu hl hs hbV hQ hbW hR hQ2 hwl hbb hVs
  go_enter Tryz.func174, Tryz.ntmps174
  go_upto_region 1 with fail
  rw [← hV]
  clear hV
  go_wp2_with (with_reducible refine wp_copy rfl (.tmp 8) (.tmp 10) 169 23 rfl Tryz.underlying169 _ _ _ _ _ _ rfl rfl V.heap.size 0 (Nl.zeros n) ((Nl.limbs a.natAbs).take n) (row_new V _) ?_ ?_ ?_ V.heap.size V ?_ ?_ ?_)
  · rw [List.length_take, ← HU.out.1]; exact Nat.min_comm ..
  · intro h0
    try rw [List.length_take] at h0
    obtain ⟨b, f, rfl, -, hc⟩ := HU.out.2.cells (by omega)
    refine ⟨b, f, rfl, fun i hi => ?_⟩
    rw [List.length_take] at hi
    rw [← hW, hc i (by omega), List.getD_eq_getElem?_getD, List.getD_eq_getElem?_getD, List.getElem?_take, if_pos (by omega)]
  · rw [Nl.zeros_length, List.length_take]; omega
  · exact (Below.refl _ _).alloc (Nat.le_refl _) _
  · exact Nat.le_refl _
  intro w1 hr1 hb1
  rw [splice_zeros] at hr1
  obtain ⟨Z, hZ⟩ : ∃ Z, Z = (Nl.limbs a.natAbs).take n ++ Nl.zeros (n - ((Nl.limbs a.natAbs).take n).length) := ⟨_, rfl⟩
  rw [← hZ] at hr1
  have hZl : Z.length = n := by rw [hZ, List.length_append, Nl.zeros_length, List.length_take]; omega
  have hZs : Nl.Small Z := by rw [hZ]; exact Nl.small_pad ((Nl.limbs_small _).take n) _
  have hZv : Nl.val Z = a.natAbs % 4294967296 ^ n := by rw [hZ, Nl.val_pad, val_take_limbs]
  have hQ1 := (hb1.block w.heap.size (by rw [HQ.out.2.1]; exact Nat.lt_succ_self _)).trans (show V.heap[w.heap.size]? = some (.cells #[.bool s, .slice p l c] 87 (0, 0)) from (by
    have h3 := HQ.out.1
    rw [hW] at h3
    exact (Below.heap_alloc V _ _ (by rw [HQ.out.2.1]; exact Nat.lt_succ_self _)).symm.trans h3))
  have hbV : Below w.heap.size w w1 := HV0.out.trans (hb1.mono HV0.out.size)
  have HZ := Lib.hid (And.intro hr1.out (And.intro hZl (And.intro hZs (And.intro hZv hbV))))
  clear hr1 hZl hZs hZv hZ hmk k0 k1 hW hbV hb1
  have k0 := cell_of_row _ _ 0 _ _ (0, 0) hQ1
  clear hQ1
  have hg : w.heap.size ≤ V.heap.size := HV0.out.size
  cases s with
  | false =>
    go_wp2_with fail
    go_ret
    refine ⟨_, Z, rfl, hg, HZ.out.1, HZ.out.2.1, HZ.out.2.2.1, ?_, HZ.out.2.2.2.2⟩
    rw [HZ.out.2.2.2.1, show a = (a.natAbs : Int) by have := HS.out; rw [negB] at this; have := of_decide_eq_false this.symm; omega, Nl.low_pos _ _ (Nl.pow_pos n)]; rfl
  | true =>
    go_wp2_with fail
    refine (negate_any V.heap.size n n Z w1 HZ.out.2.1 HZ.out.1 HZ.out.2.2.1 (Nat.le_refl _) (by omega)).mono ?_
    rintro e w2 ⟨rfl, Y, hr1, ho1, hl1, hs1, hv1⟩
    have H1 := Lib.hid (And.intro hr1 (And.intro ho1 (And.intro hl1 (And.intro hs1 hv1))))
    clear hr1 ho1 hl1 hs1 hv1
    go_wp2_with fail
    go_ret
    refine ⟨_, Y, rfl, hg, H1.out.1, H1.out.2.2.1, H1.out.2.2.2.1, ?_, below_of_only HZ.out.2.2.2.2 H1.out.2.1 hg HZ.out.2.2.2.2.size⟩
    rw [H1.out.2.2.2.2, HZ.out.2.2.2.1, show a = -(a.natAbs : Int) by have := HS.out; rw [negB] at this; have := of_decide_eq_true this.symm; omega, Nl.low_neg _ _ (Nl.pow_pos n)]
    simp
end Go.Proofs.YtipjbnbmackidaaGreat

namespace Go.Proofs.YtipjbnbmackidaaGreat
open Go.RowKit

set_option maxHeartbeats 2000000 in
theorem pair_and (ga gb n k x y : Nat) (w : World) (hk : k < n) (ca : w.cell? ⟨ga, k, none⟩ = some (.int .u32 (x : Int))) (cb : w.cell? ⟨gb, k, none⟩ = some (.int .u32 (y : Int))) (la : ga < w.heap.size) (lb : gb < w.heap.size) (hx : x < 4294967296) (hy : y < 4294967296) (hn : n ≤ 1000000) :
    Calls Tryz.prog 176 #[.agg #[.slice (some ⟨ga, 0, none⟩) n n, .slice (some ⟨gb, 0, none⟩) n n], .int .i64 k] w fun e w' => e = .returned (.int .u32 ((Nl.bop 1 x y : Nat) : Int)) ∧ Below w.heap.size w w' := by
  obtain ⟨W, hW⟩ : ∃ W, W = w.alloc (.cells #[.slice (some ⟨ga, 0, none⟩) n n, .slice (some ⟨gb, 0, none⟩) n n] 172) := ⟨_, rfl⟩
  have hb : Below w.heap.size w W := by rw [hW]; exact below_one w _
  have hP : W.heap[w.heap.size]? = some (.cells #[.slice (some ⟨ga, 0, none⟩) n n, .slice (some ⟨gb, 0, none⟩) n n] 172 (0, 0)) := by rw [hW]; exact heap_alloc_new _ _
  have k0 := cell_of_row _ _ 0 _ _ (0, 0) hP
  have k1 := cell_of_row _ _ 1 _ _ (0, 0) hP
  simp only [List.getElem?_toArray, List.getElem?_cons_zero, List.getElem?_cons_succ] at k0 k1
  have c1 := (hb.cell (p := ⟨ga, k, none⟩) la).trans ca
  have c2 := (hb.cell (p := ⟨gb, k, none⟩) lb).trans cb
  have HB := Lib.hid hb
  have HXY := Lib.hid (And.intro hx hy)
  have b1 : (0 : Int) ≤ (k : Int) := by omega
  have b2 : (k : Int) < (n : Int) := by omega
  have hval : bits .and .u32 (x : Int) (y : Int) = ((Nl.bop 1 x y : Nat) : Int) := by rw [u32_and_nat x y hx hy]; rfl
  have HV := Lib.hid hval
  clear hb hP ca cb la lb hx hy hval
  go_enter Tryz.func176, Tryz.ntmps176
  go_upto_region 1 with fail
  rw [← hW]
  clear hW
  go_quiet (fail)
  go_wp2_with fail
  go_ret
  exact ⟨by rw [HV.out]; rfl, HB.out.trans ((below_drewN W nq W.heap.size).mono HB.out.size)⟩
set_option maxHeartbeats 2000000 in
theorem pair_or (ga gb n k x y : Nat) (w : World) (hk : k < n) (ca : w.cell? ⟨ga, k, none⟩ = some (.int .u32 (x : Int))) (cb : w.cell? ⟨gb, k, none⟩ = some (.int .u32 (y : Int))) (la : ga < w.heap.size) (lb : gb < w.heap.size) (hx : x < 4294967296) (hy : y < 4294967296) (hn : n ≤ 1000000) :
    Calls Tryz.prog 177 #[.agg #[.slice (some ⟨ga, 0, none⟩) n n, .slice (some ⟨gb, 0, none⟩) n n], .int .i64 k] w fun e w' => e = .returned (.int .u32 ((Nl.bop 2 x y : Nat) : Int)) ∧ Below w.heap.size w w' := by
  obtain ⟨W, hW⟩ : ∃ W, W = w.alloc (.cells #[.slice (some ⟨ga, 0, none⟩) n n, .slice (some ⟨gb, 0, none⟩) n n] 172) := ⟨_, rfl⟩
  have hb : Below w.heap.size w W := by rw [hW]; exact below_one w _
  have hP : W.heap[w.heap.size]? = some (.cells #[.slice (some ⟨ga, 0, none⟩) n n, .slice (some ⟨gb, 0, none⟩) n n] 172 (0, 0)) := by rw [hW]; exact heap_alloc_new _ _
  have k0 := cell_of_row _ _ 0 _ _ (0, 0) hP
  have k1 := cell_of_row _ _ 1 _ _ (0, 0) hP
  simp only [List.getElem?_toArray, List.getElem?_cons_zero, List.getElem?_cons_succ] at k0 k1
  have c1 := (hb.cell (p := ⟨ga, k, none⟩) la).trans ca
  have c2 := (hb.cell (p := ⟨gb, k, none⟩) lb).trans cb
  have HB := Lib.hid hb
  have HXY := Lib.hid (And.intro hx hy)
  have b1 : (0 : Int) ≤ (k : Int) := by omega
  have b2 : (k : Int) < (n : Int) := by omega
  have hval : bits .or .u32 (x : Int) (y : Int) = ((Nl.bop 2 x y : Nat) : Int) := by rw [u32_or_nat x y hx hy]; rfl
  have HV := Lib.hid hval
  clear hb hP ca cb la lb hx hy hval
  go_enter Tryz.func177, Tryz.ntmps177
  go_upto_region 1 with fail
  rw [← hW]
  clear hW
  go_quiet (fail)
  go_wp2_with fail
  go_ret
  exact ⟨by rw [HV.out]; rfl, HB.out.trans ((below_drewN W nq W.heap.size).mono HB.out.size)⟩
set_option maxHeartbeats 2000000 in
theorem pair_xor (ga gb n k x y : Nat) (w : World) (hk : k < n) (ca : w.cell? ⟨ga, k, none⟩ = some (.int .u32 (x : Int))) (cb : w.cell? ⟨gb, k, none⟩ = some (.int .u32 (y : Int))) (la : ga < w.heap.size) (lb : gb < w.heap.size) (hx : x < 4294967296) (hy : y < 4294967296) (hn : n ≤ 1000000) :
    Calls Tryz.prog 178 #[.agg #[.slice (some ⟨ga, 0, none⟩) n n, .slice (some ⟨gb, 0, none⟩) n n], .int .i64 k] w fun e w' => e = .returned (.int .u32 ((Nl.bop 3 x y : Nat) : Int)) ∧ Below w.heap.size w w' := by
  obtain ⟨W, hW⟩ : ∃ W, W = w.alloc (.cells #[.slice (some ⟨ga, 0, none⟩) n n, .slice (some ⟨gb, 0, none⟩) n n] 172) := ⟨_, rfl⟩
  have hb : Below w.heap.size w W := by rw [hW]; exact below_one w _
  have hP : W.heap[w.heap.size]? = some (.cells #[.slice (some ⟨ga, 0, none⟩) n n, .slice (some ⟨gb, 0, none⟩) n n] 172 (0, 0)) := by rw [hW]; exact heap_alloc_new _ _
  have k0 := cell_of_row _ _ 0 _ _ (0, 0) hP
  have k1 := cell_of_row _ _ 1 _ _ (0, 0) hP
  simp only [List.getElem?_toArray, List.getElem?_cons_zero, List.getElem?_cons_succ] at k0 k1
  have c1 := (hb.cell (p := ⟨ga, k, none⟩) la).trans ca
  have c2 := (hb.cell (p := ⟨gb, k, none⟩) lb).trans cb
  have HB := Lib.hid hb
  have HXY := Lib.hid (And.intro hx hy)
  have b1 : (0 : Int) ≤ (k : Int) := by omega
  have b2 : (k : Int) < (n : Int) := by omega
  have hval : bits .xor .u32 (x : Int) (y : Int) = ((Nl.bop 3 x y : Nat) : Int) := by rw [u32_xor_nat x y hx hy]; rfl
  have HV := Lib.hid hval
  clear hb hP ca cb la lb hx hy hval
  go_enter Tryz.func178, Tryz.ntmps178
  go_upto_region 1 with fail
  rw [← hW]
  clear hW
  go_quiet (fail)
  go_wp2_with fail
  go_ret
  exact ⟨by rw [HV.out]; rfl, HB.out.trans ((below_drewN W nq W.heap.size).mono HB.out.size)⟩
end Go.Proofs.YtipjbnbmackidaaGreat
