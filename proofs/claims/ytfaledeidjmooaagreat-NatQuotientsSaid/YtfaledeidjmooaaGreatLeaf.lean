/-
  What must and trimmed do. What bits.Add32, Sub32, cmp.Compare, wordOf and fromUint do. Conditions: those that each theorem names.
-/
import Derived.Test.YtfaledeidjmooaaGreatProg
import Derived.Test.YtfaledeidjmooaaGreatMem
import Derived.WalkSpells
import Derived.Lib.Hide
import Derived.WalkLawsBesides
namespace Go.Proofs.YtfaledeidjmooaaGreat
open Go.RowKit

theorem must_yes (e : Int) (w : World) : Calls Tryz.prog 61 #[.bool true, .int .i64 e] w fun e w' => e = .returned (.tuple #[]) ∧ w = w' := by
  go_enter Tryz.func61, Tryz.ntmps61
  go_wp2
  go_end0
  exact ⟨rfl, rfl⟩
theorem failAt_any (e a : Int) (w : World) : Calls Tryz.prog 97 #[.int .i64 e, .int .i64 a] w fun x w' => x = .panicked [{ v := .iface 130 (.agg #[.int .i64 e, .int .i64 a]), recovered := false }] ∧ w = w' := by
  go_enter Tryz.func97, Tryz.ntmps97
  go_wp2
  exact ⟨rfl, rfl, rfl⟩
theorem must_no (e : Int) (w : World) : Calls Tryz.prog 61 #[.bool false, .int .i64 e] w fun x w' => x = .panicked [{ v := .iface 130 (.agg #[.int .i64 e, .int .i64 0]), recovered := false }] ∧ w = w' := by
  go_enter Tryz.func61, Tryz.ntmps61
  go_wp2_with (go_at_call 97; refine (failAt_any _ _ _).mono ?_; rintro e w' ⟨rfl, rfl⟩)
  exact ⟨rfl, rfl, rfl⟩

theorem trimmed_cells (b off cap : Nat) (xs : List Nat) (w : World) (h : Cells w b off xs) (hc : xs.length ≤ cap) (hm : cap ≤ 9223372036854775807) :
    Calls Tryz.prog 96 #[.slice (some ⟨b, off, none⟩) xs.length cap] w fun e w' => e = .returned (.slice (some ⟨b, off, none⟩) (Nl.trim xs).length cap) ∧ w = w' := by
  go_enter Tryz.func96, Tryz.ntmps96
  go_wp2
  go_loop [3] (fun n => ∃ k : Nat, k ≤ xs.length ∧ n = .int .i64 k ∧ Hid (Nl.trim (xs.take k) = Nl.trim xs)) (fun n => (intOf n).toNat)
  case atStart => exact ⟨xs.length, Nat.le_refl _, rfl, by simp [Hid]⟩
  case round =>
    obtain ⟨k, hk, rfl, ht⟩ := hrel
    cases k with
    | zero =>
      go_wp2
      go_ret
      have := ht.out
      rw [List.take_zero] at this
      rw [← this]
      exact ⟨rfl, rfl⟩
    | succ k =>
      obtain ⟨x, hx⟩ : ∃ x, x = xs.getD k 0 := ⟨_, rfl⟩
      have hcell := h k (by omega)
      rw [← hx] at hcell
      have Hx := Lib.hid hx
      clear hx
      by_cases hz : x = 0
      · have hz1 : ((x : Int) == 0) = true := by rw [beq_iff_eq]; omega
        have HZ := Lib.hid hz
        clear hz
        go_wp2
        go_round
        case rel => exact ⟨k, by omega, by go_num, by rw [Hid, ← Nl.trim_take_zero (by omega) (by rw [← Hx.out, HZ.out])]; exact ht.out⟩
        case measure => simp [intOf] <;> omega
      · have hz1 : ((x : Int) == 0) = false := by rw [beq_eq_false_iff_ne]; omega
        go_wp2
        go_ret
        rw [← ht.out, Nl.trim_take_some (by omega) (by rw [← Hx.out]; exact hz)]
        exact ⟨rfl, rfl⟩


theorem ret_int {k : IntKind} {a b : Int} (h : a = b) : Ending.returned (.int k a) = .returned (.int k b) := by rw [h]
theorem ret_two {k l : IntKind} {a b c d : Int} (h : a = b) (h' : c = d) : Ending.returned (.tuple #[.int k a, .int l c]) = .returned (.tuple #[.int k b, .int l d]) := by rw [h, h']
theorem ret_bool {a b : Bool} (h : a = b) : Ending.returned (.bool a) = .returned (.bool b) := by rw [h]
def cmpI (a b : Int) : Int := if a < b then -1 else if b < a then 1 else 0

theorem isNaN_int (a : Int) (w : World) : Calls Tryz.prog 126 #[.int .i64 a] w fun e w' => e = .returned (.bool false) ∧ w = w' := by
  have h : (a != a) = false := by simp
  go_enter Tryz.func126, Tryz.ntmps126
  go_wp2
  go_ret
  exact ⟨by first | rfl | simp, rfl⟩
theorem isNaN_u32 (a : Int) (w : World) : Calls Tryz.prog 127 #[.int .u32 a] w fun e w' => e = .returned (.bool false) ∧ w = w' := by
  go_enter Tryz.func127, Tryz.ntmps127
  go_wp2
  go_ret
  exact ⟨by first | rfl | simp, rfl⟩

theorem compare_int (a b : Int) (w : World) : Calls Tryz.prog 98 #[.int .i64 a, .int .i64 b] w fun e w' => e = .returned (.int .i64 (cmpI a b)) ∧ w = w' := by
  go_enter Tryz.func98, Tryz.ntmps98
  go_wp2_with (go_at_call 126; refine (isNaN_int _ _).mono ?_; rintro e w' ⟨rfl, rfl⟩)
  all_goals go_ret
  · have h : a < b := by assumption
    exact ⟨ret_int (by rw [cmpI, if_pos h]), rfl⟩
  · have h : b ≤ a := by assumption
    have h2 : b < a := by assumption
    exact ⟨ret_int (by rw [cmpI, if_neg (by omega), if_pos h2]), rfl⟩
  · have h : b ≤ a := by assumption
    have h2 : a ≤ b := by assumption
    exact ⟨ret_int (by rw [cmpI, if_neg (by omega), if_neg (by omega)]), rfl⟩
theorem compare_u32 (a b : Int) (w : World) : Calls Tryz.prog 99 #[.int .u32 a, .int .u32 b] w fun e w' => e = .returned (.int .i64 (cmpI a b)) ∧ w = w' := by
  go_enter Tryz.func99, Tryz.ntmps99
  go_wp2_with (go_at_call 127; refine (isNaN_u32 _ _).mono ?_; rintro e w' ⟨rfl, rfl⟩)
  all_goals go_ret
  · have h : a < b := by assumption
    exact ⟨ret_int (by rw [cmpI, if_pos h]), rfl⟩
  · have h : b ≤ a := by assumption
    have h2 : b < a := by assumption
    exact ⟨ret_int (by rw [cmpI, if_neg (by omega), if_pos h2]), rfl⟩
  · have h : b ≤ a := by assumption
    have h2 : a ≤ b := by assumption
    exact ⟨ret_int (by rw [cmpI, if_neg (by omega), if_neg (by omega)]), rfl⟩

theorem add32 (x y c : Nat) (hx : x < 4294967296) (hy : y < 4294967296) (hc : c < 4294967296) (w : World) :
    Calls Tryz.prog 125 #[.int .u32 x, .int .u32 y, .int .u32 c] w fun e w' => e = .returned (.tuple #[.int .u32 (((x + y + c) % 4294967296 : Nat) : Int), .int .u32 (((x + y + c) / 4294967296 : Nat) : Int)]) ∧ w = w' := by
  go_enter Tryz.func125, Tryz.ntmps125
  go_wp2
  go_ret2
  exact ⟨ret_two (by omega) (by omega), rfl⟩

/-- the borrow -/
def bor (x y c : Nat) : Nat := if x < y + c then 1 else 0
theorem bor_lt (x y c : Nat) : bor x y c < 2 := by unfold bor; split <;> omega
theorem bor_bits (x y c d : Nat) (hx : x < 4294967296) (hy : y < 4294967296) (hc : c < 2) (hd : d = (x + 4294967296 + 4294967296 - y - c) % 4294967296) :
    (((4294967295 ^^^ x) &&& y) ||| ((4294967295 ^^^ (x ^^^ y)) &&& d)) / 2147483648 = bor x y c := by
  have h31 : ∀ n : Nat, n / 2147483648 = n >>> 31 := fun n => by rw [Nat.shiftRight_eq_div_pow]
  have hd' : d < 4294967296 := by omega
  rw [h31, Nat.shiftRight_or_distrib, Nat.shiftRight_and_distrib, Nat.shiftRight_and_distrib, Nat.shiftRight_xor_distrib, Nat.shiftRight_xor_distrib, Nat.shiftRight_xor_distrib]
  simp only [← h31]
  obtain ⟨a, ha⟩ : ∃ a, a = x / 2147483648 := ⟨_, rfl⟩
  obtain ⟨b, hb⟩ : ∃ b, b = y / 2147483648 := ⟨_, rfl⟩
  obtain ⟨e, he⟩ : ∃ e, e = d / 2147483648 := ⟨_, rfl⟩
  rw [← ha, ← hb, ← he]
  have a2 : a = 0 ∨ a = 1 := by omega
  have b2 : b = 0 ∨ b = 1 := by omega
  have e2 : e = 0 ∨ e = 1 := by omega
  unfold bor
  rcases a2 with rfl | rfl <;> rcases b2 with rfl | rfl <;> rcases e2 with rfl | rfl <;> simp <;> omega

theorem sub32 (x y c : Nat) (hx : x < 4294967296) (hy : y < 4294967296) (hc : c < 2) (w : World) :
    Calls Tryz.prog 128 #[.int .u32 x, .int .u32 y, .int .u32 c] w fun e w' => e = .returned (.tuple #[.int .u32 (((x + 4294967296 + 4294967296 - y - c) % 4294967296 : Nat) : Int), .int .u32 ((bor x y c : Nat) : Int)]) ∧ w = w' := by
  go_enter Tryz.func128, Tryz.ntmps128
  go_wp2
  all_goals go_ret2
  all_goals refine ⟨ret_two (by omega) ?_, rfl⟩
  all_goals
    obtain ⟨d, hd⟩ : ∃ d : Nat, d = (x + 4294967296 + 4294967296 - y - c) % 4294967296 := ⟨_, rfl⟩
    have e1 : ((x : Int) - (y : Int) - (c : Int)) % 4294967296 = (d : Int) := by omega
    have em : IntKind.u32.max = ((4294967295 : Nat) : Int) := rfl
    have hxy : (x ^^^ y) < 4294967296 := Nat.xor_lt_two_pow (n := 32) hx hy
    have hnx : (4294967295 ^^^ x) < 4294967296 := Nat.xor_lt_two_pow (n := 32) (by decide) hx
    have hnxy : (4294967295 ^^^ (x ^^^ y)) < 4294967296 := Nat.xor_lt_two_pow (n := 32) (by decide) hxy
    have hd' : d < 4294967296 := by omega
    rw [e1, em, u32_xor_nat _ _ (by decide) hx, u32_xor_nat _ _ hx hy, u32_xor_nat _ _ (by decide) hxy, u32_and_nat _ _ hnx hy, u32_and_nat _ _ hnxy hd', u32_or_nat _ _ (Nat.and_lt_two_pow (n := 32) _ hy) (Nat.and_lt_two_pow (n := 32) _ hd'), ← bor_bits x y c d hx hy hc hd]
    omega
theorem wordOf_any (x : Nat) (w : World) : Calls Tryz.prog 104 #[.int .u32 x] w fun e w' => e = .returned (.slice (some ⟨w.heap.size, 0, none⟩) (Nl.trim [x]).length 1) ∧ w.alloc (.cells #[.int .u32 x] 59) = w' := by
  go_enter Tryz.func104, Tryz.ntmps104
  go_wp2_with fail
  refine (trimmed_cells w.heap.size 0 1 [x] _ ?_ (by simp) (by simp)).mono ?_
  · intro i hi
    match i, hi with
    | 0, _ => simp
  rintro e w' ⟨rfl, rfl⟩
  go_wp2
  go_ret
  exact ⟨rfl, rfl⟩
theorem fromUint_any (x : Nat) (w : World) (_hx : x < 18446744073709551616) : Calls Tryz.prog 91 #[.int .u64 x] w fun e w' => e = .returned (.slice (some ⟨w.heap.size, 0, none⟩) (Nl.trim [x % 4294967296, x / 4294967296]).length 2) ∧ w.alloc (.cells #[.int .u32 ((x % 4294967296 : Nat) : Int), .int .u32 ((x / 4294967296 : Nat) : Int)] 59) = w' := by
  go_enter Tryz.func91, Tryz.ntmps91
  go_wp2_with fail
  refine (trimmed_cells w.heap.size 0 2 [x % 4294967296, x / 4294967296] _ ?_ (by simp) (by simp)).mono ?_
  · intro i hi
    match i, hi with
    | 0, _ => simp
    | 1, _ => simp
  rintro e w' ⟨rfl, rfl⟩
  go_wp2
  go_ret
  exact ⟨rfl, rfl⟩
end Go.Proofs.YtfaledeidjmooaaGreat
