/-
  What must and trimmed do. Conditions: those that each theorem names.
-/
import Derived.Test.YtikgfdkaikpmhaaGreatProg
import Derived.Test.YtikgfdkaikpmhaaGreatMem
import Derived.WalkSpells
import Derived.Lib.Hide
import Derived.WalkLawsBesides
namespace Go.Proofs.YtikgfdkaikpmhaaGreat
open Go.RowKit

theorem must_yes (e : Int) (w : World) : Calls Tryz.prog 61 #[.bool true, .int .i64 e] w fun e w' => e = .returned (.tuple #[]) ∧ w = w' := by
  go_enter Tryz.func61, Tryz.ntmps61
  go_wp2
  go_end0
  exact ⟨rfl, rfl⟩
theorem must_no (e : Int) (w : World) : Calls Tryz.prog 61 #[.bool false, .int .i64 e] w fun x w' => x = .panicked [{ v := .iface 26 (.int .i64 e), recovered := false }] ∧ w = w' := by
  go_enter Tryz.func61, Tryz.ntmps61
  go_wp2
  exact ⟨rfl, rfl, rfl⟩

theorem trimmed_cells (b off cap : Nat) (xs : List Nat) (w : World) (h : Cells w b off xs) (hc : xs.length ≤ cap) (hm : cap ≤ 9223372036854775807) :
    Calls Tryz.prog 94 #[.slice (some ⟨b, off, none⟩) xs.length cap] w fun e w' => e = .returned (.slice (some ⟨b, off, none⟩) (Nl.trim xs).length cap) ∧ w = w' := by
  go_enter Tryz.func94, Tryz.ntmps94
  go_wp2
  go_loop [3] (fun n => ∃ k : Nat, k ≤ xs.length ∧ n = .int .i64 k ∧ Hid (Nl.trim (xs.take k) = Nl.trim xs)) (fun n => (intOf n).toNat)
  case atStart => exact ⟨xs.length, Nat.le_refl _, rfl, by simp [Hid]⟩
  case round =>
    obtain ⟨k, hk, rfl, ht⟩ := hrel
    cases k with
    | zero =>
      go_wp2
      go_ret
      have := ht.out
      rw [List.take_zero] at this
      rw [← this]
      exact ⟨rfl, rfl⟩
    | succ k =>
      obtain ⟨x, hx⟩ : ∃ x, x = xs.getD k 0 := ⟨_, rfl⟩
      have hcell := h k (by omega)
      rw [← hx] at hcell
      have Hx := Lib.hid hx
      clear hx
      by_cases hz : x = 0
      · have hz1 : ((x : Int) == 0) = true := by rw [beq_iff_eq]; omega
        have HZ := Lib.hid hz
        clear hz
        go_wp2
        go_round
        case rel => exact ⟨k, by omega, by go_num, by rw [Hid, ← Nl.trim_take_zero (by omega) (by rw [← Hx.out, HZ.out])]; exact ht.out⟩
        case measure => simp [intOf] <;> omega
      · have hz1 : ((x : Int) == 0) = false := by rw [beq_eq_false_iff_ne]; omega
        go_wp2
        go_ret
        rw [← ht.out, Nl.trim_take_some (by omega) (by rw [← Hx.out]; exact hz)]
        exact ⟨rfl, rfl⟩
end Go.Proofs.YtikgfdkaikpmhaaGreat
