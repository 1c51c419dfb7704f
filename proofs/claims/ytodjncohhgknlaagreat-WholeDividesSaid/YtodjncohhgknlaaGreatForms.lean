/-
  What Zeros, Bits, ToUint and the reference's Bits and Zeros do. Conditions: those that each theorem names.
-/
import Derived.Test.YtodjncohhgknlaaGreatAdd
import Derived.Test.YtodjncohhgknlaaGreatSmall
import Derived.Test.YtodjncohhgknlaaGreatCompareAll
import Derived.Lib.TrailingZeros
namespace Go.Proofs.YtodjncohhgknlaaGreat
open Go.RowKit

/-- 2 divides m just k times -/
def IsTz (m k : Nat) : Prop := ∃ j, m = 2 ^ k * (2 * j + 1)
theorem isTz_le {m a b : Nat} (ha : IsTz m a) (hb : IsTz m b) : a ≤ b := by
  obtain ⟨i, hi⟩ := ha
  obtain ⟨j, hj⟩ := hb
  apply Classical.byContradiction
  intro hc
  obtain ⟨d, rfl⟩ : ∃ d, a = b + (d + 1) := ⟨a - b - 1, by omega⟩
  rw [hi, Nat.pow_add, Nat.mul_assoc] at hj
  have h1 := Nat.eq_of_mul_eq_mul_left (Nat.two_pow_pos b) hj
  rw [Nat.pow_succ, Nat.mul_comm (2 ^ d) 2, Nat.mul_assoc] at h1
  omega
theorem isTz_uniq {m a b : Nat} (ha : IsTz m a) (hb : IsTz m b) : a = b := Nat.le_antisymm (isTz_le ha hb) (isTz_le hb ha)
theorem isTz_pos {m k : Nat} (h : IsTz m k) : m ≠ 0 := by
  obtain ⟨j, hj⟩ := h
  rw [hj]
  exact Nat.mul_ne_zero (Nat.ne_of_gt (Nat.two_pow_pos k)) (by omega)
/-- how often 2 divides m; 0 for 0 -/
def tzn (m : Nat) : Nat := if m = 0 then 0 else Lib.ctzFrom (nbits m) m
theorem tzn_spec {m : Nat} (h0 : m ≠ 0) : IsTz m (tzn m) ∧ tzn m < nbits m := by
  obtain ⟨j, hj, hk⟩ := Lib.ctzFrom_spec (nbits m) m (Nat.pos_of_ne_zero h0) (lt_nbits m)
  rw [tzn, if_neg h0]
  exact ⟨⟨j, hj⟩, hk⟩
theorem tzn_of {m k : Nat} (h : IsTz m k) : k = tzn m := isTz_uniq h (tzn_spec (isTz_pos h)).1
/-- words that are 0, and one that is not -/
theorem isTz_words {m i x k : Nat} {xs : List Nat} (hv : Nl.val xs = m) (hi : i < xs.length) (h0 : Nl.val (xs.take i) = 0) (hx : x = xs.getD i 0) (hk : k < 32) (ht : IsTz x k) : IsTz m (32 * i + k) := by
  obtain ⟨j, hj⟩ := ht
  have h1 := Nl.val_take_drop xs i (by omega)
  rw [h0, Nat.zero_add, Nl.val_drop_succ xs i hi, ← hx, hv, pow32] at h1
  obtain ⟨R, hR⟩ : ∃ R, R = Nl.val (xs.drop (i + 1)) := ⟨_, rfl⟩
  rw [← hR, hj] at h1
  refine ⟨j + 2 ^ (31 - k) * R, ?_⟩
  have e : (4294967296 : Nat) = 2 ^ k * (2 * 2 ^ (31 - k)) := by
    rw [← Nat.pow_succ', ← Nat.pow_add, show k + (31 - k).succ = 32 by omega]
  rw [← h1, e, Nat.pow_add, Nat.mul_assoc (2 ^ (32 * i)) (2 ^ k)]
  congr 1
  rw [Nat.mul_assoc (2 ^ k) (2 * 2 ^ (31 - k)) R, ← Nat.mul_add]
  congr 1
  rw [Nat.mul_assoc 2 (2 ^ (31 - k)) R, Nat.mul_add]
  omega

/-- the table of math/bits -/
def TabAt (w : World) : Prop := (∀ i, i < 32 → w.cell? ⟨0, i, none⟩ = some (.int .u8 ((Lib.deBruijn32tab.getD i 0 : Nat) : Int))) ∧ 0 < w.heap.size
theorem TabAt.below {w w' : World} (h : TabAt w) (hb : Below w.heap.size w w') : TabAt w' :=
  ⟨fun i hi => (hb.cell (p := ⟨0, i, none⟩) h.2).trans (h.1 i hi), Nat.lt_of_lt_of_le h.2 hb.size⟩

/-- a call that answers with an int and an error, and changes nothing -/
def IntOut (w w' : World) (e : Ending) (k : IntKind) (x c : Int) : Prop := e = .returned (.tuple #[.int k x, .int .i64 c]) ∧ w' = w
theorem natBits_any (va : Value) (xs : List Nat) (w : World) (ha : At w va xs) (hs : Nl.Small xs) :
    Calls Tryz.prog 264 #[va] w fun e w' => IntOut w w' e .i64 (if validB xs = true then (nbits (Nl.val xs) : Int) else 0) (if validB xs = true then 0 else 1) := by
  have V := valid_any va xs w ha
  cases hv : validB xs with
  | true =>
    rw [hv] at V
    have HV := Lib.hid V
    have hle := validB_eq hs hv
    have hz := bits_any va (Nl.val xs) w (by rw [IsN, ← hle.1]; exact ha) (by omega)
    have HZ := Lib.hid hz
    obtain ⟨a, ca, rfl, -⟩ := ha.form
    clear ha V hv hle hz
    go_enter Tryz.func264, Tryz.ntmps264
    go_wp2_with (go_at_call 80; refine HV.out.mono ?_; rintro e w' ⟨rfl, rfl⟩)
    go_at_call 229
    refine HZ.out.mono ?_
    rintro e w' ⟨rfl, rfl⟩
    go_wp2_with fail
    go_ret2
    exact ⟨rfl, rfl⟩
  | false =>
    rw [hv] at V
    have HV := Lib.hid V
    obtain ⟨a, ca, rfl, -⟩ := ha.form
    clear ha V hv
    go_enter Tryz.func264, Tryz.ntmps264
    go_wp2_with (go_at_call 80; refine HV.out.mono ?_; rintro e w' ⟨rfl, rfl⟩)
    go_ret2
    exact ⟨rfl, rfl⟩
/-- what ToUint answers, and its error -/
def uintV (xs : List Nat) : Int := if validB xs = true ∧ xs.length ≤ 2 then (Nl.val xs : Int) else 0
def uintC (xs : List Nat) : Int := if validB xs = true then (if xs.length ≤ 2 then 0 else 3) else 1
theorem toUint_any (va : Value) (xs : List Nat) (w : World) (ha : At w va xs) (hs : Nl.Small xs) :
    Calls Tryz.prog 190 #[va] w fun e w' => IntOut w w' e .u64 (uintV xs) (uintC xs) := by
  have V := valid_any va xs w ha
  cases hv : validB xs with
  | true =>
    rw [hv] at V
    have HV := Lib.hid V
    have hle := validB_eq hs hv
    by_cases h2 : xs.length ≤ 2
    · have e1 : decide ((xs.length : Int) > 2) = false := decide_eq_false (by omega)
      have hm : Nl.val xs < 18446744073709551616 := by
        have h1 := Nl.val_lt hs
        have h3 := Nl.pow_le h2
        have h4 : 4294967296 ^ 2 = 18446744073709551616 := by decide
        omega
      have hz := uint_any va (Nl.val xs) w (by rw [IsN, ← hle.1]; exact ha) hm
      have HZ := Lib.hid hz
      have HR := Lib.hid (show uintV xs = (Nl.val xs : Int) ∧ uintC xs = 0 from ⟨by rw [uintV, if_pos ⟨hv, h2⟩], by rw [uintC, if_pos hv, if_pos h2]⟩)
      obtain ⟨a, ca, rfl, -⟩ := ha.form
      clear ha V hv hle hz hm h2
      go_enter Tryz.func190, Tryz.ntmps190
      go_wp2_with (go_at_call 80; refine HV.out.mono ?_; rintro e w' ⟨rfl, rfl⟩)
      go_at_call 240
      refine HZ.out.mono ?_
      rintro e w' ⟨rfl, rfl⟩
      go_wp2_with fail
      go_ret2
      rw [IntOut, HR.out.1, HR.out.2]
      exact ⟨rfl, rfl⟩
    · have e1 : decide ((xs.length : Int) > 2) = true := decide_eq_true (by omega)
      have HR := Lib.hid (show uintV xs = 0 ∧ uintC xs = 3 from ⟨by rw [uintV, if_neg (fun h => h2 h.2)], by rw [uintC, if_pos hv, if_neg h2]⟩)
      obtain ⟨a, ca, rfl, -⟩ := ha.form
      clear ha V hv hle h2
      go_enter Tryz.func190, Tryz.ntmps190
      go_wp2_with (go_at_call 80; refine HV.out.mono ?_; rintro e w' ⟨rfl, rfl⟩)
      go_ret2
      rw [IntOut, HR.out.1, HR.out.2]
      exact ⟨rfl, rfl⟩
  | false =>
    rw [hv] at V
    have HV := Lib.hid V
    have HR := Lib.hid (show uintV xs = 0 ∧ uintC xs = 1 from ⟨by rw [uintV, if_neg (fun h => by rw [hv] at h; exact absurd h.1 (by decide))], by rw [uintC, if_neg (by rw [hv]; decide)]⟩)
    obtain ⟨a, ca, rfl, -⟩ := ha.form
    clear ha V hv
    go_enter Tryz.func190, Tryz.ntmps190
    go_wp2_with (go_at_call 80; refine HV.out.mono ?_; rintro e w' ⟨rfl, rfl⟩)
    go_ret2
    rw [IntOut, HR.out.1, HR.out.2]
    exact ⟨rfl, rfl⟩
/-- Cmp of any two lists -/
def CmpGen (w w' : World) (e : Ending) (x c : Int) : Prop := e = .returned (.tuple #[.int .i64 x, .int .i64 c]) ∧ Below w.heap.size w w'
theorem cmp_gen (va vb : Value) (xs ys : List Nat) (w : World) (ha : At w va xs) (hb : At w vb ys) (hsx : Nl.Small xs) (hsy : Nl.Small ys) :
    Calls Tryz.prog 191 #[va, vb] w fun e w' => CmpGen w w' e (if validB xs = true ∧ validB ys = true then cmpI (Nl.val xs) (Nl.val ys) else 0) (if validB xs = true ∧ validB ys = true then 0 else 1) := by
  have V1 := valid_any va xs w ha
  have V2 := valid_any vb ys w hb
  by_cases hv1 : validB xs = true
  · rw [hv1] at V1
    have HV1 := Lib.hid V1
    by_cases hv2 : validB ys = true
    · rw [hv2] at V2
      have HV2 := Lib.hid V2
      rw [if_pos ⟨hv1, hv2⟩, if_pos ⟨hv1, hv2⟩]
      have hc := compare_any va vb (Nl.val xs) (Nl.val ys) w (by rw [← (validB_eq hsx hv1).1]; exact ha) (by rw [← (validB_eq hsy hv2).1]; exact hb)
      have HC := Lib.hid hc
      obtain ⟨a, ca, rfl, -⟩ := ha.form
      obtain ⟨b, cb, rfl, -⟩ := hb.form
      clear ha hb V1 V2 hv1 hv2 hc
      go_enter Tryz.func191, Tryz.ntmps191
      go_wp2_with fail
      refine HV1.out.mono ?_
      rintro e w' ⟨rfl, rfl⟩
      go_wp2_with fail
      refine HV2.out.mono ?_
      rintro e w' ⟨rfl, rfl⟩
      go_wp2_with fail
      go_at_call 198
      refine HC.out.mono ?_
      rintro e w' ⟨rfl, k, hk⟩
      have HK := Lib.hid hk
      clear hk
      go_wp2_with fail
      go_ret2
      exact ⟨rfl, by rw [HK.out]; exact below_drewN _ _ _⟩
    · rw [show validB ys = false by simpa using hv2] at V2
      have HV2 := Lib.hid V2
      rw [if_neg (fun h => hv2 h.2), if_neg (fun h => hv2 h.2)]
      obtain ⟨a, ca, rfl, -⟩ := ha.form
      obtain ⟨b, cb, rfl, -⟩ := hb.form
      clear ha hb V1 V2 hv1 hv2
      go_enter Tryz.func191, Tryz.ntmps191
      go_wp2_with fail
      refine HV1.out.mono ?_
      rintro e w' ⟨rfl, rfl⟩
      go_wp2_with fail
      refine HV2.out.mono ?_
      rintro e w' ⟨rfl, rfl⟩
      go_wp2_with fail
      go_ret2
      exact ⟨rfl, Below.refl _ _⟩
  · rw [show validB xs = false by simpa using hv1] at V1
    have HV1 := Lib.hid V1
    rw [if_neg (fun h => hv1 h.1), if_neg (fun h => hv1 h.1)]
    obtain ⟨a, ca, rfl, -⟩ := ha.form
    obtain ⟨b, cb, rfl, -⟩ := hb.form
    clear ha hb V1 V2 hv1
    go_enter Tryz.func191, Tryz.ntmps191
    go_wp2_with fail
    refine HV1.out.mono ?_
    rintro e w' ⟨rfl, rfl⟩
    go_wp2_with fail
    go_ret2
    exact ⟨rfl, Below.refl _ _⟩
end Go.Proofs.YtodjncohhgknlaaGreat
