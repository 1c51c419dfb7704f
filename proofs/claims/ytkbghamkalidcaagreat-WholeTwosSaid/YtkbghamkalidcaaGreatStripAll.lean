/-
  Operations on bits of integers: whatever the strip, and bit by bit. Conditions: those that each theorem names.
  Strips of words of package whole: trimmed, negate, integer, lowest. Conditions: those that each theorem names.
-/
import Derived.Test.YtkbghamkalidcaaGreatBitMAll
import Derived.Test.YtkbghamkalidcaaGreatMinusAll
namespace Go.Proofs.YtkbghamkalidcaaGreat.Nl

/-- an integer between the bounds of a strip -/
def inside (a : Int) (n : Nat) : Prop := 2 * a < ((2 ^ n : Nat) : Int) ∧ -((2 ^ n : Nat) : Int) ≤ 2 * a
theorem inside_low {a : Int} {n : Nat} (h : inside a n) : (0 ≤ a ∧ (low a (2 ^ n) : Int) = a) ∨ (a < 0 ∧ (low a (2 ^ n) : Int) = a + ((2 ^ n : Nat) : Int)) := by
  obtain ⟨h1, h2⟩ := h
  obtain ⟨P, hP⟩ : ∃ P, P = 2 ^ n := ⟨_, rfl⟩
  rw [← hP] at h1 h2 ⊢
  by_cases h0 : a < 0
  · right
    refine ⟨h0, ?_⟩
    have : low a P = (a + P).toNat := low_of (by omega) (-1) (by omega)
    rw [this]; omega
  · left
    refine ⟨by omega, ?_⟩
    have : low a P = a.toNat := low_of (by omega) 0 (by omega)
    rw [this]; omega
theorem twos_twos {n v : Nat} (hn : 0 < n) (hv : v < 2 ^ n) : inside (twos (2 ^ n) v) n ∧ low (twos (2 ^ n) v) (2 ^ n) = v := by
  have h2 : 2 ^ n = 2 * 2 ^ (n - 1) := by rw [Nat.mul_comm, ← Nat.pow_succ]; congr 1; omega
  rw [inside, twos]
  obtain ⟨P, hP⟩ : ∃ P, P = 2 ^ n := ⟨_, rfl⟩
  rw [← hP] at hv h2 ⊢
  split
  · exact ⟨⟨by omega, by omega⟩, low_of hv 0 (by omega)⟩
  · exact ⟨⟨by omega, by omega⟩, low_of hv (-1) (by omega)⟩
theorem top_bit {n v : Nat} (hv : v < 2 ^ (n + 1)) : v.testBit n = decide (2 ^ (n + 1) ≤ 2 * v) := by
  rw [Nat.testBit_eq_decide_div_mod_eq]
  have h1 := Nat.two_pow_pos n
  rw [Nat.pow_succ] at hv ⊢
  obtain ⟨P, hP⟩ : ∃ P, P = 2 ^ n := ⟨_, rfl⟩
  rw [← hP] at hv h1 ⊢
  by_cases h : P ≤ v
  · rw [show v / P = 1 from by rw [Nat.div_eq_iff h1]; omega, decide_eq_true (by omega), decide_eq_true (by omega)]
  · rw [Nat.div_eq_of_lt (by omega), decide_eq_false (by omega), decide_eq_false (by omega)]
/-- a strip that is longer by one bit -/
theorem low_succ {a : Int} {n : Nat} (h : inside a n) : inside a (n + 1) ∧ low a (2 ^ (n + 1)) = 2 ^ n * (if a < 0 then 1 else 0) + low a (2 ^ n) := by
  have h1 : inside a (n + 1) := by
    obtain ⟨h1, h2⟩ := h
    rw [inside, Nat.pow_succ]
    obtain ⟨P, hP⟩ : ∃ P, P = 2 ^ n := ⟨_, rfl⟩
    rw [← hP] at h1 h2 ⊢
    omega
  refine ⟨h1, ?_⟩
  have h2 := inside_low h
  have h3 := inside_low h1
  rw [Nat.pow_succ] at h3 ⊢
  obtain ⟨P, hP⟩ : ∃ P, P = 2 ^ n := ⟨_, rfl⟩
  rw [← hP] at h2 h3 ⊢
  split <;> omega
theorem neg_top {a : Int} {n : Nat} (hn : 0 < n) (h : inside a n) : (low a (2 ^ n)).testBit (n - 1) = decide (a < 0) := by
  obtain ⟨m, rfl⟩ : ∃ m, n = m + 1 := ⟨n - 1, by omega⟩
  have h1 := inside_low h
  rw [Nat.add_sub_cancel, top_bit (low_lt _ _ (Nat.two_pow_pos _))]
  obtain ⟨h2, h3⟩ := h
  obtain ⟨P, hP⟩ : ∃ P, P = 2 ^ (m + 1) := ⟨_, rfl⟩
  rw [← hP] at h1 h2 h3 ⊢
  rw [decide_eq_decide]; omega
def bopB (k : Nat) (x y : Bool) : Bool := if k = 1 then x && y else if k = 2 then x || y else x ^^ y
theorem bop_one (k : Nat) (x y : Bool) : bop k (if x = true then 1 else 0) (if y = true then 1 else 0) = if bopB k x y = true then 1 else 0 := by
  by_cases h1 : k = 1
  · subst h1; cases x <;> cases y <;> rfl
  · by_cases h2 : k = 2
    · subst h2; cases x <;> cases y <;> rfl
    · unfold bop bopB
      rw [if_neg h1, if_neg h2, if_neg h1, if_neg h2]
      cases x <;> cases y <;> rfl
theorem bop_test (k x y i : Nat) : (bop k x y).testBit i = bopB k (x.testBit i) (y.testBit i) := by
  rw [bop_bits]; rfl
theorem bopI_inside {k : Nat} {a b : Int} {n : Nat} (hn : 0 < n) : inside (bopI k a b n) n ∧ low (bopI k a b n) (2 ^ n) = bop k (low a (2 ^ n)) (low b (2 ^ n)) :=
  twos_twos hn (bop_lt k (low_lt _ _ (Nat.two_pow_pos _)) (low_lt _ _ (Nat.two_pow_pos _)))
theorem bopI_succ {k : Nat} {a b : Int} {n : Nat} (hn : 0 < n) (ha : inside a n) (hb : inside b n) : bopI k a b (n + 1) = bopI k a b n := by
  obtain ⟨-, h1⟩ := low_succ ha
  obtain ⟨-, h2⟩ := low_succ hb
  have la := low_lt a _ (Nat.two_pow_pos n)
  have lb := low_lt b _ (Nat.two_pow_pos n)
  have h3 := neg_top hn ha
  have h4 := neg_top hn hb
  obtain ⟨u, hu⟩ : ∃ u, u = low a (2 ^ n) := ⟨_, rfl⟩
  obtain ⟨v, hv⟩ : ∃ v, v = low b (2 ^ n) := ⟨_, rfl⟩
  rw [← hu] at h1 h3 la
  rw [← hv] at h2 h4 lb
  have hd : ∀ a : Int, (if a < 0 then 1 else 0 : Nat) = if decide (a < 0) = true then 1 else 0 := fun a => by by_cases h : a < 0 <;> simp [h]
  rw [bopI, bopI, h1, h2, ← hu, ← hv, bop_join k _ _ la lb, hd a, hd b, bop_one, ← h3, ← h4, ← bop_test]
  have hw := bop_lt k la lb
  obtain ⟨w, hw'⟩ : ∃ w, w = bop k u v := ⟨_, rfl⟩
  rw [← hw'] at hw ⊢
  obtain ⟨m, rfl⟩ : ∃ m, n = m + 1 := ⟨n - 1, by omega⟩
  rw [Nat.add_sub_cancel, top_bit hw, twos, twos, Nat.pow_succ 2 (m + 1)]
  obtain ⟨P, hP⟩ : ∃ P, P = 2 ^ (m + 1) := ⟨_, rfl⟩
  rw [← hP] at hw ⊢
  by_cases h : P ≤ 2 * w
  · rw [decide_eq_true h, if_pos rfl, if_neg (by omega), if_neg (by omega)]; omega
  · rw [decide_eq_false h]
    simp only [Bool.false_eq_true, if_false, Nat.mul_zero, Nat.zero_add]
    rw [if_pos (by omega), if_pos (by omega)]
theorem inside_le {a : Int} {n m : Nat} (h : inside a n) (hm : n ≤ m) : inside a m := by
  obtain ⟨d, rfl⟩ : ∃ d, m = n + d := ⟨m - n, by omega⟩
  clear hm
  induction d with
  | zero => exact h
  | succ d ih => exact (low_succ ih).1
theorem bopI_le {k : Nat} {a b : Int} {n m : Nat} (hn : 0 < n) (ha : inside a n) (hb : inside b n) (hm : n ≤ m) : bopI k a b m = bopI k a b n := by
  obtain ⟨d, rfl⟩ : ∃ d, m = n + d := ⟨m - n, by omega⟩
  clear hm
  induction d with
  | zero => rfl
  | succ d ih => rw [← Nat.add_assoc, bopI_succ (by omega) (inside_le ha (Nat.le_add_right _ _)) (inside_le hb (Nat.le_add_right _ _)), ih]
theorem twos_eq {n v : Nat} (hn : 0 < n) (hv : v < 2 ^ n) : twos (2 ^ n) v = (v : Int) - (if v.testBit (n - 1) = true then ((2 ^ n : Nat) : Int) else 0) := by
  obtain ⟨m, rfl⟩ : ∃ m, n = m + 1 := ⟨n - 1, by omega⟩
  rw [Nat.add_sub_cancel, top_bit hv, twos]
  by_cases h : 2 ^ (m + 1) ≤ 2 * v
  · rw [decide_eq_true h, if_pos rfl, if_neg (by omega)]
  · rw [decide_eq_false h]
    simp only [Bool.false_eq_true, if_false]
    rw [if_pos (by omega)]; omega
/-- And and Or add up to the sum; Xor is Or less And -/
theorem bopI_sums {a b : Int} {n : Nat} (hn : 0 < n) (ha : inside a n) (hb : inside b n) : bopI 1 a b n + bopI 2 a b n = a + b ∧ bopI 3 a b n = bopI 2 a b n - bopI 1 a b n := by
  have la := low_lt a _ (Nat.two_pow_pos n)
  have lb := low_lt b _ (Nat.two_pow_pos n)
  have ea : twos (2 ^ n) (low a (2 ^ n)) = a := twos_low (Nat.two_pow_pos n) ha.1 ha.2
  have eb : twos (2 ^ n) (low b (2 ^ n)) = b := twos_low (Nat.two_pow_pos n) hb.1 hb.2
  rw [twos_eq hn la] at ea
  rw [twos_eq hn lb] at eb
  rw [bopI, bopI, bopI, twos_eq hn (bop_lt 1 la lb), twos_eq hn (bop_lt 2 la lb), twos_eq hn (bop_lt 3 la lb), bop_test, bop_test, bop_test]
  obtain ⟨u, hu⟩ : ∃ u, u = low a (2 ^ n) := ⟨_, rfl⟩
  obtain ⟨v, hv⟩ : ∃ v, v = low b (2 ^ n) := ⟨_, rfl⟩
  rw [← hu] at ea ⊢
  rw [← hv] at eb ⊢
  obtain ⟨s1, s2⟩ := bits_sum u v
  have e1 : bop 1 u v = u &&& v := rfl
  have e2 : bop 2 u v = u ||| v := rfl
  have e3 : bop 3 u v = u ^^^ v := rfl
  rw [e1, e2, e3]
  obtain ⟨P, hP⟩ : ∃ P, P = 2 ^ n := ⟨_, rfl⟩
  rw [← hP] at ea eb ⊢
  have f1 : ∀ x y, bopB 1 x y = (x && y) := fun _ _ => rfl
  have f2 : ∀ x y, bopB 2 x y = (x || y) := fun _ _ => rfl
  have f3 : ∀ x y, bopB 3 x y = (x ^^ y) := fun _ _ => rfl
  rw [f1, f2, f3]
  cases hx : u.testBit (n - 1) <;> cases hy : v.testBit (n - 1) <;> rw [hx] at ea <;> rw [hy] at eb <;> simp only [Bool.and_false, Bool.and_true, Bool.or_false, Bool.or_true, Bool.xor_false, Bool.xor_true, Bool.not_true, Bool.not_false, if_true, if_false, Bool.false_eq_true] at ea eb ⊢ <;> omega
theorem not_inside {a : Int} {n : Nat} (hn : 0 < n) (h : inside a n) : inside (-1 - a) n ∧ low (-1 - a) (2 ^ n) = 2 ^ n - (low a (2 ^ n) + 1) := by
  have h2 : 2 ^ n = 2 * 2 ^ (n - 1) := by rw [Nat.mul_comm, ← Nat.pow_succ]; congr 1; omega
  have h1 : inside (-1 - a) n := by
    obtain ⟨h1, h3⟩ := h
    rw [inside]
    obtain ⟨P, hP⟩ : ∃ P, P = 2 ^ n := ⟨_, rfl⟩
    rw [← hP] at h1 h2 h3 ⊢
    omega
  refine ⟨h1, ?_⟩
  have h3 := inside_low h
  have h4 := inside_low h1
  have h5 := low_lt a _ (Nat.two_pow_pos n)
  obtain ⟨P, hP⟩ : ∃ P, P = 2 ^ n := ⟨_, rfl⟩
  rw [← hP] at h3 h4 h5 ⊢
  omega
/-- Not turns And into Or -/
theorem bopI_not {a b : Int} {n : Nat} (hn : 0 < n) (ha : inside a n) (hb : inside b n) : bopI 2 (-1 - a) (-1 - b) n = -1 - bopI 1 a b n := by
  have la := low_lt a _ (Nat.two_pow_pos n)
  have lb := low_lt b _ (Nat.two_pow_pos n)
  obtain ⟨ia, ea⟩ := not_inside hn ha
  obtain ⟨ib, eb⟩ := not_inside hn hb
  obtain ⟨ic, ec⟩ := bopI_inside (k := 1) (a := a) (b := b) hn
  obtain ⟨id, ed⟩ := not_inside hn ic
  obtain ⟨ie, ee⟩ := bopI_inside (k := 2) (a := -1 - a) (b := -1 - b) hn
  have h1 : low (bopI 2 (-1 - a) (-1 - b) n) (2 ^ n) = low (-1 - bopI 1 a b n) (2 ^ n) := by
    rw [ed, ec, ee, ea, eb]
    refine Nat.eq_of_testBit_eq fun i => ?_
    rw [bop_test, Nat.testBit_two_pow_sub_succ la, Nat.testBit_two_pow_sub_succ lb, Nat.testBit_two_pow_sub_succ (bop_lt 1 la lb), bop_test]
    have f1 : ∀ x y, bopB 1 x y = (x && y) := fun _ _ => rfl
    have f2 : ∀ x y, bopB 2 x y = (x || y) := fun _ _ => rfl
    rw [f1, f2]
    cases decide (i < n) <;> cases Nat.testBit (low a (2 ^ n)) i <;> cases Nat.testBit (low b (2 ^ n)) i <;> rfl
  rw [← twos_low (Nat.two_pow_pos n) ie.1 ie.2, ← twos_low (Nat.two_pow_pos n) id.1 id.2, h1]
/-- the bit of an integer at a place below the strip's end -/
theorem bitI_low {a : Int} {n i : Nat} (hi : i < n) : bitI a i = if (low a (2 ^ n)).testBit i = true then 1 else 0 := by
  have h1 : 2 ^ n = 2 ^ i * (2 * 2 ^ (n - i - 1)) := by rw [Nat.mul_comm 2, ← Nat.pow_succ, ← Nat.pow_add]; congr 1; omega
  have h2 := low_eq a (2 ^ n) (Nat.two_pow_pos n)
  have h3 := Int.emod_add_mul_ediv a ((2 ^ n : Nat) : Int)
  rw [← h2] at h3
  have hp := Nat.two_pow_pos i
  obtain ⟨v, hv⟩ : ∃ v, v = low a (2 ^ n) := ⟨_, rfl⟩
  rw [← hv] at h3 ⊢
  obtain ⟨q, hq⟩ : ∃ q, q = a / ((2 ^ n : Nat) : Int) := ⟨_, rfl⟩
  rw [← hq, h1] at h3
  obtain ⟨P, hP⟩ : ∃ P, P = 2 ^ i := ⟨_, rfl⟩
  obtain ⟨D, hD⟩ : ∃ D, D = 2 ^ (n - i - 1) := ⟨_, rfl⟩
  rw [← hD, ← hP] at h3
  rw [Nat.testBit_eq_decide_div_mod_eq, bitI, ← hP]
  rw [← hP] at hp
  have h4 : a / (P : Int) = ((v / P : Nat) : Int) + (2 : Int) * ((D : Int) * q) := by
    rw [← h3, Int.natCast_mul, Int.mul_assoc, Int.add_mul_ediv_left _ _ (by omega), Int.natCast_ediv, Int.natCast_mul, Int.mul_assoc]; rfl
  rw [low_of (a := a / (P : Int)) (P := 2) (v := v / P % 2) (Nat.mod_lt _ (by decide)) (((v / P / 2 : Nat) : Int) + (D : Int) * q) (by omega)]
  by_cases h : v / P % 2 = 1
  · rw [decide_eq_true h, if_pos rfl, h]
  · rw [decide_eq_false h, if_neg (by decide)]; omega
theorem bits_bop {k : Nat} {a b : Int} {n i : Nat} (hi : i < n) : bitI (bopI k a b n) i = if bopB k (decide (bitI a i = 1)) (decide (bitI b i = 1)) = true then 1 else 0 := by
  rw [bitI_low hi, (bopI_inside (by omega)).2, bop_test, bitI_low (a := a) hi, bitI_low (a := b) hi]
  cases Nat.testBit (low a (2 ^ n)) i <;> cases Nat.testBit (low b (2 ^ n)) i <;> rfl
theorem bits_not {a : Int} {n i : Nat} (hi : i < n) (h : inside a n) : bitI (-1 - a) i = 1 - bitI a i := by
  rw [bitI_low hi, bitI_low hi, (not_inside (by omega) h).2, Nat.testBit_two_pow_sub_succ (low_lt _ _ (Nat.two_pow_pos n)), decide_eq_true hi]
  cases Nat.testBit (low a (2 ^ n)) i <;> rfl
theorem bitI_two (a : Int) (i : Nat) : bitI a i = 0 ∨ bitI a i = 1 := by
  have := low_lt (a / ((2 ^ i : Nat) : Int)) 2 (by decide)
  rw [bitI]; omega
end Go.Proofs.YtkbghamkalidcaaGreat.Nl

namespace Go.Proofs.YtkbghamkalidcaaGreat
open Go.RowKit

theorem wtrimmed_cells (b off cap : Nat) (xs : List Nat) (w : World) (h : Cells w b off xs) (hc : xs.length ≤ cap) (hm : cap ≤ 9223372036854775807) :
    Calls Tryz.prog 168 #[.slice (some ⟨b, off, none⟩) xs.length cap] w fun e w' => e = .returned (.slice (some ⟨b, off, none⟩) (Nl.trim xs).length cap) ∧ w = w' := by
  go_enter Tryz.func168, Tryz.ntmps168
  go_wp2
  go_loop [3] (fun n => ∃ k : Nat, k ≤ xs.length ∧ n = .int .i64 k ∧ Hid (Nl.trim (xs.take k) = Nl.trim xs)) (fun n => (intOf n).toNat)
  case atStart => exact ⟨xs.length, Nat.le_refl _, rfl, by simp [Hid]⟩
  case round =>
    obtain ⟨k, hk, rfl, ht⟩ := hrel
    cases k with
    | zero =>
      go_wp2
      go_ret
      have := ht.out
      rw [List.take_zero] at this
      rw [← this]
      exact ⟨rfl, rfl⟩
    | succ k =>
      obtain ⟨x, hx⟩ : ∃ x, x = xs.getD k 0 := ⟨_, rfl⟩
      have hcell := h k (by omega)
      rw [← hx] at hcell
      have Hx := Lib.hid hx
      clear hx
      by_cases hz : x = 0
      · have hz1 : ((x : Int) == 0) = true := by rw [beq_iff_eq]; omega
        have HZ := Lib.hid hz
        clear hz
        go_wp2
        go_round
        case rel => exact ⟨k, by omega, by go_num, by rw [Hid, ← Nl.trim_take_zero (by omega) (by rw [← Hx.out, HZ.out])]; exact ht.out⟩
        case measure => simp [intOf] <;> omega
      · have hz1 : ((x : Int) == 0) = false := by rw [beq_eq_false_iff_ne]; omega
        go_wp2
        go_ret
        rw [← ht.out, Nl.trim_take_some (by omega) (by rw [← Hx.out]; exact hz)]
        exact ⟨rfl, rfl⟩
/-- the complement of a word -/
theorem not_word (x : Nat) (hx : x < 4294967296) : bits .xor .u32 IntKind.u32.max (x : Int) = ((4294967296 - 1 - x : Nat) : Int) := by
  have em : IntKind.u32.max = ((4294967295 : Nat) : Int) := rfl
  rw [em, u32_xor_nat _ _ (by decide) hx]
  congr 1
  refine Nat.eq_of_testBit_eq fun i => ?_
  rw [show (4294967296 : Nat) - 1 - x = 2 ^ 32 - (x + 1) by omega, Nat.testBit_two_pow_sub_succ (show x < 2 ^ 32 from hx), Nat.testBit_xor, show (4294967295 : Nat) = 2 ^ 32 - 1 from rfl, Nat.testBit_two_pow_sub_one]
  by_cases h : i < 32
  · rw [decide_eq_true h]; cases x.testBit i <;> rfl
  · rw [decide_eq_false h, Nat.testBit_lt_two_pow (Nat.lt_of_lt_of_le hx (show 4294967296 ≤ 2 ^ i from Nat.pow_le_pow_right (n := 2) (by decide) (show 32 ≤ i by omega)))]; rfl

theorem add32_zero (y c : Nat) (hy : y < 4294967296) (hc : c < 4294967296) (w : World) :
    Calls Tryz.prog 219 #[.int .u32 y, .int .u32 0, .int .u32 c] w fun e w' => e = .returned (.tuple #[.int .u32 (((y + c) % 4294967296 : Nat) : Int), .int .u32 (((y + c) / 4294967296 : Nat) : Int)]) ∧ w = w' :=
  add32 y 0 c hy (by decide) hc w
set_option maxHeartbeats 1000000 in
theorem negate_any (g n cap : Nat) (xs : List Nat) (w : World) (hn : xs.length = n) (hr : Row w g xs) (hs : Nl.Small xs) (hl : n ≤ cap) (hcap : cap ≤ 9223372036854775807) :
    Calls Tryz.prog 167 #[.slice (some ⟨g, 0, none⟩) n cap] w fun e w' => e = .returned (.tuple #[]) ∧
      ∃ Z, Row w' g Z ∧ Only g w w' ∧ Z.length = n ∧ Nl.Small Z ∧ Nl.val Z = (4294967296 ^ n - Nl.val xs) % 4294967296 ^ n := by
  have HR := Lib.hid hr
  have HN := Lib.hid hn
  clear hr hn
  go_enter Tryz.func167, Tryz.ntmps167
  go_wp2
  go_loopw [2, 7] (fun c i wr => ∃ (k : Nat) (d : Nat) (Z : List Nat), k ≤ n ∧ i = .int .i64 k ∧ c = .int .u32 (d : Int) ∧ d < 2 ∧ Hid (Row wr g Z) ∧ Hid (Only g w wr) ∧ Hid (Z.length = n) ∧ Hid (Nl.Small Z) ∧ Hid (Z.drop k = xs.drop k) ∧
      Hid (Nl.val (Z.take k) + 4294967296 ^ k * d + Nl.val (xs.take k) = 4294967296 ^ k)) (fun _ i _ => (n - (intOf i).toNat))
  case atStart => exact ⟨0, 1, xs, by omega, rfl, rfl, by omega, HR, Only.refl g w, HN, hs, rfl, by simp [Hid]⟩
  case round =>
    obtain ⟨k, d, Z, hk, rfl, rfl, hd, hrow, honly, hlen, hsm, hdr, hv⟩ := hrel
    by_cases hlt : k < n
    · obtain ⟨x, hx⟩ : ∃ x, x = Z.getD k 0 := ⟨_, rfl⟩
      have hx2 : x < 4294967296 := by rw [hx]; exact hsm.out.getD k
      have cx := hrow.out.cell (i := k) (by rw [hlen.out]; omega)
      rw [← hx] at cx
      have fx := hrow.out.free k
      obtain ⟨y, hy⟩ : ∃ y, y = 4294967296 - 1 - x := ⟨_, rfl⟩
      have nx := not_word x hx2
      rw [← hy] at nx
      have Hx := Lib.hid (And.intro hx hy)
      have hy2 : y < 4294967296 := by omega
      have h32 := fun w' => add32_zero y d hy2 (by omega) w'
      rw [← nx] at h32
      have H32 := Lib.hid h32
      clear hx hy nx h32
      go_wp2_with (go_at_call 219; refine (H32.out _).mono ?_; rintro e w' ⟨rfl, rfl⟩)
      go_roundw
      case rel =>
        have hkx : k < xs.length := by rw [HN.out]; exact hlt
        have hx' : x = xs.getD k 0 := by rw [Hx.out.1]; exact Nl.getD_of_drop hdr.out
        refine ⟨k + 1, (y + d) / 4294967296, Z.set k ((y + d) % 4294967296), by omega, by go_num, rfl, by omega, hrow.out.set _ _, grown_trans honly.out (Only.setCell g _ _ _), ?_, ?_, ?_, ?_⟩
        · rw [Hid, List.length_set]; exact hlen.out
        · exact hsm.out.set _ (Nat.mod_lt _ (by decide))
        · rw [Hid, Nl.drop_set_succ]; exact Nl.drop_succ_of hdr.out
        · exact Nl.neg_step (by rw [hlen.out, HN.out]) hkx hv.out (by rw [← hx']; exact hx2) (by rw [← hx', ← Hx.out.2]; omega)
      case measure => simp [intOf] <;> omega
    · obtain rfl : k = n := by omega
      go_wp2
      go_end0
      refine ⟨rfl, Z, hrow.out, honly.out, hlen.out, hsm.out, ?_⟩
      have h := Nl.neg_end (xs := xs) (Z := Z) (c := d) hsm.out (by rw [hlen.out, HN.out]) (by rw [HN.out]; exact hv.out)
      rw [HN.out] at h
      exact h
end Go.Proofs.YtkbghamkalidcaaGreat
