/-
  And, Or and Xor of numbers and of strips. Conditions: those that each theorem names.
  Operations on bits of integers: whatever the strip, and bit by bit. Conditions: those that each theorem names.
  Strips of words of package whole: trimmed, negate, integer, lowest. Conditions: those that each theorem names.
-/
import Derived.Test.YtipjbnbmackidaaGreatStripM
import Derived.Test.YtipjbnbmackidaaGreatMinusAll
namespace Go.Proofs.YtipjbnbmackidaaGreat.Nl

end Go.Proofs.YtipjbnbmackidaaGreat.Nl

namespace Go.Proofs.YtipjbnbmackidaaGreat.Nl

end Go.Proofs.YtipjbnbmackidaaGreat.Nl

namespace Go.Proofs.YtipjbnbmackidaaGreat
open Go.RowKit

theorem wtrimmed_cells (b off cap : Nat) (xs : List Nat) (w : World) (h : Cells w b off xs) (hc : xs.length ≤ cap) (hm : cap ≤ 9223372036854775807) :
    Calls Tryz.prog 227 #[.slice (some ⟨b, off, none⟩) xs.length cap] w fun e w' => e = .returned (.slice (some ⟨b, off, none⟩) (Nl.trim xs).length cap) ∧ w = w' := by
  go_enter Tryz.func227, Tryz.ntmps227
  go_wp2
  go_loop [3] (fun n => ∃ k : Nat, k ≤ xs.length ∧ n = .int .i64 k ∧ Hid (Nl.trim (xs.take k) = Nl.trim xs)) (fun n => (intOf n).toNat)
  case atStart => exact ⟨xs.length, Nat.le_refl _, rfl, by simp [Hid]⟩
  case round =>
    obtain ⟨k, hk, rfl, ht⟩ := hrel
    cases k with
    | zero =>
      go_wp2
      go_ret
      have := ht.out
      rw [List.take_zero] at this
      rw [← this]
      exact ⟨rfl, rfl⟩
    | succ k =>
      obtain ⟨x, hx⟩ : ∃ x, x = xs.getD k 0 := ⟨_, rfl⟩
      have hcell := h k (by omega)
      rw [← hx] at hcell
      have Hx := Lib.hid hx
      clear hx
      by_cases hz : x = 0
      · have hz1 : ((x : Int) == 0) = true := by rw [beq_iff_eq]; omega
        have HZ := Lib.hid hz
        clear hz
        go_wp2
        go_round
        case rel => exact ⟨k, by omega, by go_num, by rw [Hid, ← Nl.trim_take_zero (by omega) (by rw [← Hx.out, HZ.out])]; exact ht.out⟩
        case measure => simp [intOf] <;> omega
      · have hz1 : ((x : Int) == 0) = false := by rw [beq_eq_false_iff_ne]; omega
        go_wp2
        go_ret
        rw [← ht.out, Nl.trim_take_some (by omega) (by rw [← Hx.out]; exact hz)]
        exact ⟨rfl, rfl⟩
/-- the complement of a word -/
theorem not_word (x : Nat) (hx : x < 4294967296) : bits .xor .u32 IntKind.u32.max (x : Int) = ((4294967296 - 1 - x : Nat) : Int) := by
  have em : IntKind.u32.max = ((4294967295 : Nat) : Int) := rfl
  rw [em, u32_xor_nat _ _ (by decide) hx]
  congr 1
  refine Nat.eq_of_testBit_eq fun i => ?_
  rw [show (4294967296 : Nat) - 1 - x = 2 ^ 32 - (x + 1) by omega, Nat.testBit_two_pow_sub_succ (show x < 2 ^ 32 from hx), Nat.testBit_xor, show (4294967295 : Nat) = 2 ^ 32 - 1 from rfl, Nat.testBit_two_pow_sub_one]
  by_cases h : i < 32
  · rw [decide_eq_true h]; cases x.testBit i <;> rfl
  · rw [decide_eq_false h, Nat.testBit_lt_two_pow (Nat.lt_of_lt_of_le hx (show 4294967296 ≤ 2 ^ i from Nat.pow_le_pow_right (n := 2) (by decide) (show 32 ≤ i by omega)))]; rfl

theorem add32_zero (y c : Nat) (hy : y < 4294967296) (hc : c < 4294967296) (w : World) :
    Calls Tryz.prog 265 #[.int .u32 y, .int .u32 0, .int .u32 c] w fun e w' => e = .returned (.tuple #[.int .u32 (((y + c) % 4294967296 : Nat) : Int), .int .u32 (((y + c) / 4294967296 : Nat) : Int)]) ∧ w = w' :=
  add32 y 0 c hy (by decide) hc w
set_option maxHeartbeats 1000000 in
theorem negate_any (g n cap : Nat) (xs : List Nat) (w : World) (hn : xs.length = n) (hr : Row w g xs) (hs : Nl.Small xs) (hl : n ≤ cap) (hcap : cap ≤ 9223372036854775807) :
    Calls Tryz.prog 226 #[.slice (some ⟨g, 0, none⟩) n cap] w fun e w' => e = .returned (.tuple #[]) ∧
      ∃ Z, Row w' g Z ∧ Only g w w' ∧ Z.length = n ∧ Nl.Small Z ∧ Nl.val Z = (4294967296 ^ n - Nl.val xs) % 4294967296 ^ n := by
  have HR := Lib.hid hr
  have HN := Lib.hid hn
  clear hr hn
  go_enter Tryz.func226, Tryz.ntmps226
  go_wp2
  go_loopw [2, 7] (fun c i wr => ∃ (k : Nat) (d : Nat) (Z : List Nat), k ≤ n ∧ i = .int .i64 k ∧ c = .int .u32 (d : Int) ∧ d < 2 ∧ Hid (Row wr g Z) ∧ Hid (Only g w wr) ∧ Hid (Z.length = n) ∧ Hid (Nl.Small Z) ∧ Hid (Z.drop k = xs.drop k) ∧
      Hid (Nl.val (Z.take k) + 4294967296 ^ k * d + Nl.val (xs.take k) = 4294967296 ^ k)) (fun _ i _ => (n - (intOf i).toNat))
  case atStart => exact ⟨0, 1, xs, by omega, rfl, rfl, by omega, HR, Only.refl g w, HN, hs, rfl, by simp [Hid]⟩
  case round =>
    obtain ⟨k, d, Z, hk, rfl, rfl, hd, hrow, honly, hlen, hsm, hdr, hv⟩ := hrel
    by_cases hlt : k < n
    · obtain ⟨x, hx⟩ : ∃ x, x = Z.getD k 0 := ⟨_, rfl⟩
      have hx2 : x < 4294967296 := by rw [hx]; exact hsm.out.getD k
      have cx := hrow.out.cell (i := k) (by rw [hlen.out]; omega)
      rw [← hx] at cx
      have fx := hrow.out.free k
      obtain ⟨y, hy⟩ : ∃ y, y = 4294967296 - 1 - x := ⟨_, rfl⟩
      have nx := not_word x hx2
      rw [← hy] at nx
      have Hx := Lib.hid (And.intro hx hy)
      have hy2 : y < 4294967296 := by omega
      have h32 := fun w' => add32_zero y d hy2 (by omega) w'
      rw [← nx] at h32
      have H32 := Lib.hid h32
      clear hx hy nx h32
      go_wp2_with (go_at_call 265; refine (H32.out _).mono ?_; rintro e w' ⟨rfl, rfl⟩)
      go_roundw
      case rel =>
        have hkx : k < xs.length := by rw [HN.out]; exact hlt
        have hx' : x = xs.getD k 0 := by rw [Hx.out.1]; exact Nl.getD_of_drop hdr.out
        refine ⟨k + 1, (y + d) / 4294967296, Z.set k ((y + d) % 4294967296), by omega, by go_num, rfl, by omega, hrow.out.set _ _, grown_trans honly.out (Only.setCell g _ _ _), ?_, ?_, ?_, ?_⟩
        · rw [Hid, List.length_set]; exact hlen.out
        · exact hsm.out.set _ (Nat.mod_lt _ (by decide))
        · rw [Hid, Nl.drop_set_succ]; exact Nl.drop_succ_of hdr.out
        · exact Nl.neg_step (by rw [hlen.out, HN.out]) hkx hv.out (by rw [← hx']; exact hx2) (by rw [← hx', ← Hx.out.2]; omega)
      case measure => simp [intOf] <;> omega
    · obtain rfl : k = n := by omega
      go_wp2
      go_end0
      refine ⟨rfl, Z, hrow.out, honly.out, hlen.out, hsm.out, ?_⟩
      have h := Nl.neg_end (xs := xs) (Z := Z) (c := d) hsm.out (by rw [hlen.out, HN.out]) (by rw [HN.out]; exact hv.out)
      rw [HN.out] at h
      exact h
end Go.Proofs.YtipjbnbmackidaaGreat
