/-
  What Parse does with 007. Conditions: those that each theorem names.
-/
import Derived.Test.YtfaledeidjmooaaGreatRefTrim
namespace Go.Proofs.YtfaledeidjmooaaGreat
open Go.RowKit

theorem numeral_007 (w : World) : Calls Tryz.prog 87 #[.string { data := #[48, 48, 55] }] w fun e w' => e = .returned (.bool false) ∧ w = w' := by
  go_enter Tryz.func87, Tryz.ntmps87
  go_wp2
  go_loop [3, 6] (fun _ i => ∃ k : Nat, k ≤ 3 ∧ i = .int .i64 k) (fun _ i => 3 - (intOf i).toNat)
  case atStart => exact ⟨0, by omega, rfl⟩
  case round =>
    obtain ⟨k, hk, rfl⟩ := hrel
    have hk4 : k = 0 ∨ k = 1 ∨ k = 2 ∨ k = 3 := by omega
    rcases hk4 with rfl | rfl | rfl | rfl
    · go_wp2
      go_round
      case rel => exact ⟨1, by omega, rfl⟩
      case measure => simp [intOf]
    · go_wp2
      go_round
      case rel => exact ⟨2, by omega, rfl⟩
      case measure => simp [intOf]
    · go_wp2
      go_round
      case rel => exact ⟨3, by omega, rfl⟩
      case measure => simp [intOf]
    · go_wp2
      go_ret
      exact ⟨rfl, rfl⟩

set_option maxHeartbeats 1000000 in
theorem parse1_007 (K : Nat) (w : World) (hK : w.cell? ⟨K, 0, none⟩ = some (.string { data := #[48, 48, 55] })) (hl : K < w.heap.size) : NatDoes 86 #[.pointer (some ⟨K, 0, none⟩)] w 6 0 := by
  intro W hW
  have k1 := (hW.cell (p := ⟨K, 0, none⟩) hl).trans hK
  clear hK hW hl
  go_enter Tryz.func86, Tryz.ntmps86
  go_wp2_with (first
    | (go_at_call_of 61 (Value.bool true); refine (must_yes _ _).mono ?_; rintro e w' ⟨rfl, rfl⟩)
    | (go_at_call_of 61 (Value.bool false); refine (must_no _ _).mono ?_; rintro e w' ⟨rfl, rfl⟩)
    | (go_at_call 87; refine (numeral_007 _).mono ?_; rintro e w' ⟨rfl, rfl⟩))
  exact ⟨rfl, Below.refl _ _, .inr ⟨by decide, rfl⟩⟩

set_option maxHeartbeats 1000000 in
theorem parse_007 (w : World) : Calls Tryz.prog 43 #[.string { data := #[48, 48, 55] }] w fun e w' => (∃ v, e = .returned (.tuple #[v, .int .i64 6])) ∧ Below w.heap.size w w' := by
  have hmf : ∀ (fn : Fn) (first cap : Array Value) (w : World), (Instr.makeFunc fn first cap).run Tryz.prog w = .ok (.func fn first cap) w := fun _ _ _ _ => rfl
  go_enter Tryz.func43, Tryz.ntmps43
  go_wp2_with fail
  obtain ⟨W, hW⟩ : ∃ W, W = w.alloc (.cells #[.string { data := #[48, 48, 55] }] 9) := ⟨_, rfl⟩
  rw [← hW]
  have hbl : Below w.heap.size w W := by rw [hW]; exact (Below.refl _ _).alloc (Nat.le_refl _) _
  have c1 : W.cell? ⟨w.heap.size, 0, none⟩ = some (.string { data := #[48, 48, 55] }) := by rw [hW]; exact cell_of_one (heap_alloc_new _ _)
  have hsz : w.heap.size < W.heap.size := by rw [hW]; simp
  clear hW
  refine (one_any _ _ W 6 0 none 0 [] (by simp) (fun h => absurd h (by simp)) (fun i hi => absurd hi (by simp)) (fun _ => parse1_007 w.heap.size W c1 hsz) (fun _ _ => by kernel_rfl)).mono ?_
  rintro e w1 ⟨c, hc, ⟨v, rfl, h2, h3⟩, hb1⟩
  have hc6 : c = 6 := by
    rcases hc with ⟨-, h⟩ | ⟨⟨p, hp, -⟩, -⟩
    · rw [h]; rfl
    · cases hp
  subst hc6
  have HR := Lib.hid (hbl.trans (hb1.mono hbl.size))
  clear hc h2 h3 hb1 c1 hsz hbl
  go_wp2_with fail
  go_ret2
  exact ⟨⟨v, rfl⟩, HR.out⟩
end Go.Proofs.YtfaledeidjmooaaGreat
