/-
  What the reference's Bits does. Conditions: those that the theorem names.
-/
import Derived.Test.YtfaledeidjmooaaGreatBits
import Derived.Test.YtfaledeidjmooaaGreatRef
namespace Go.Proofs.YtfaledeidjmooaaGreat
open Go.RowKit

theorem refBits_any (va : Value) (m : Nat) (w : World) (ha : IsN w va m) (hl : (Nl.limbs m).length ≤ 1000000) :
    Calls Tryz.prog 76 #[va] w fun e w' => e = .returned (.int .i64 (nbits m : Nat)) ∧ w = w' := by
  by_cases h0 : m = 0
  · subst h0
    rw [IsN, Nl.limbs_zero] at ha
    obtain ⟨a, ca, rfl, -⟩ := ha.form
    go_enter Tryz.func76, Tryz.ntmps76
    go_wp2
    go_ret
    exact ⟨rfl, rfl⟩
  · obtain ⟨k, x, hk, ex, hx0, hw, hn⟩ := top_word h0
    rcases ha with ⟨rfl, h⟩ | ⟨b, off, cap, rfl, -, hc, hm, hb, hx⟩
    · rw [h] at hk; simp at hk
    have c0 := hx k (by omega)
    rw [ex] at c0
    rw [hk] at hc hl ⊢
    have hb8 : Lib.bitLen x ≤ 32 := Lib.bitLen_le x 32 (by omega) (by omega)
    have HN := Lib.hid hn
    clear hx hn ex h0 hx0 hk
    have t0 : (((k : Int) + 1) == 0) = false := by rw [beq_eq_false_iff_ne]; omega
    go_enter Tryz.func76, Tryz.ntmps76
    go_wp2_with fail
    go_loopw [4, 5] (fun b y wr => ∃ B Y : Nat, b = .int .i64 B ∧ y = .int .u32 Y ∧ Y < 4294967296 ∧ B ≤ 32 * k + 32 ∧ Hid (B + Lib.bitLen Y = nbits m) ∧ wr = w) (fun _ y _ => (intOf y).toNat)
    case atStart => exact ⟨32 * k, x, by go_num, rfl, hw, by omega, HN.out.symm, rfl⟩
    case round =>
      obtain ⟨B, Y, rfl, rfl, hY, hB, hv, rfl⟩ := hrel
      by_cases hy0 : Y = 0
      · have t1 : decide ((Y : Int) > 0) = false := decide_eq_false (by omega)
        have t2 : decide (0 < Y) = false := decide_eq_false (by omega)
        have HR := Lib.hid (show B = nbits m by
          have h1 := hv.out
          rw [hy0] at h1
          exact h1)
        clear hy0
        go_wp2_with fail
        go_ret
        exact ⟨ret_int (by rw [HR.out]), rfl⟩
      · have t1 : decide ((Y : Int) > 0) = true := decide_eq_true (by omega)
        have t2 : decide (0 < Y) = true := decide_eq_true (by omega)
        have h3 := Lib.bitLen_half Y hy0 (by omega)
        have h4 : Lib.bitLen Y ≤ 32 := Lib.bitLen_le Y 32 (by omega) (by omega)
        have HR := Lib.hid (show B + 1 + Lib.bitLen (Y / 2) = nbits m by have := hv.out; omega)
        have hB2 : B + 1 ≤ 32 * k + 32 := by
          have h5 := hv.out
          have h6 := HN.out
          omega
        clear h3 h4
        go_wp2_with fail
        go_roundw
        case rel => exact ⟨B + 1, Y / 2, by go_num, by go_num, by omega, hB2, HR.out, trivial⟩
        case measure => simp [intOf] <;> omega
end Go.Proofs.YtfaledeidjmooaaGreat
