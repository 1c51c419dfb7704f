/-
  What slices.Clone does. Conditions: those that each theorem names.
-/
import Derived.Test.YtikgfdkaikpmhaaGreatDivOwn
namespace Go.Proofs.YtikgfdkaikpmhaaGreat
open Go.RowKit

theorem owns_short {base : Nat} {w : World} {g n cap : Nat} {xs : List Nat} (h : w.ownsRow base 59 1 (.slice (some ⟨g, 0, none⟩) n cap) n (vals xs)) (k : Nat) (hk : k ≤ n) :
    w.ownsRow base 59 1 (.slice (some ⟨g, 0, none⟩) k cap) k (vals (xs.take k)) := by
  have hl := h.1
  rw [vals_length] at hl
  rcases h.2 with ⟨h', _⟩ | ⟨g', cap', cur, h', hb, hg, hnc, hcm, hcs, htake⟩
  · simp at h'
  · simp only [Value.slice.injEq, Option.some.injEq, Addr.mk.injEq, and_true, true_and] at h'
    obtain ⟨rfl, rfl⟩ := h'
    refine ⟨by rw [vals_length, List.length_take]; omega, .inr ⟨g, cap, cur, rfl, hb, hg, by omega, hcm, hcs, ?_⟩⟩
    rw [vals_take, ← htake, List.take_take, Nat.min_eq_left (by omega), Nat.mul_one]
theorem owns_slice {base : Nat} {w : World} {v : Value} {n : Nat} {L : List Value} {e : TypeId} (h : w.ownsRow base e 1 v n L) (hn : 0 < n) : ∃ g cap, v = .slice (some ⟨g, 0, none⟩) n cap ∧ base ≤ g ∧ g < w.heap.size ∧ n ≤ cap ∧ cap ≤ 9223372036854775807 := by
  rcases h.2 with ⟨_, h'⟩ | ⟨g', cap', cur, rfl, hb, hg, hnc, hcm, _⟩
  · omega
  · exact ⟨g', cap', rfl, hb, lt_of_block hg, hnc, by simp only [maxLen] at hcm; omega⟩

set_option maxHeartbeats 1000000 in
/-- a copy of a number that is not empty -/
theorem clone_any (v : Value) (xs : List Nat) (w : World) (h : At w v xs) (h0 : 0 < xs.length) (hl : xs.length ≤ 1000000) :
    Calls Tryz.prog 138 #[v] w fun e w' => (∃ v, e = .returned v ∧ w'.ownsRow w.heap.size 59 1 v xs.length (vals xs)) ∧ Below w.heap.size w w' := by
  obtain ⟨i0, hi, hz0, hz1, hz2⟩ := info_parts infoWord4
  have HI := Lib.hid (And.intro hi (And.intro hz0 (And.intro hz1 hz2)))
  clear hi hz0 hz1 hz2
  rcases h with ⟨rfl, rfl⟩ | ⟨b, off, cap, rfl, -, hc, hm, hb, hx⟩
  · simp at h0
  have HC := Lib.hid (show Cells w b off xs from hx)
  have HL := Lib.hid (And.intro h0 (And.intro hl hc))
  clear hx hl
  have hnil : ∀ W, (binOp .eql 69 (.slice (some ⟨b, off, none⟩) xs.length cap) (.slice none 0 0)).run Tryz.prog W = .ok (.bool false) W := fun W => by kernel_rfl
  go_enter Tryz.func138, Tryz.ntmps138
  go_wp2_with (at_builtin; refine wpList_append_own _ rfl (.tmp 5) (.tmp 6) 69 rfl w.heap.size 59 i0 (.int .u32 0) 1 4 Tryz.underlying69 HI.out.1 HI.out.2.1 HI.out.2.2.1 HI.out.2.2.2 rfl (by decide) (.slice (some ⟨w.heap.size, 0, none⟩) 0 0) 0 [] rfl (owns_empty w) ⟨b, off, none⟩ xs.length cap (vals xs) rfl ?_ ?_ ?_ ?_ ?_ ?_ ?_)
  · rw [vals_length, Nat.mul_one]
  · intro j u hu
    have := vals_cells (HC.out.alloc hb (.cells #[] 59)) xs.length j u
    rw [List.take_of_length_le (Nat.le_refl _)] at this
    exact this hu
  · intro u hu
    obtain ⟨x, _, rfl⟩ := List.mem_map.1 hu
    rfl
  · have := HL.out.2.1; simp only [maxLen]; omega
  · have := HL.out.2.1; omega
  · simp
  intro v' w1 ho hg _
  have HO := Lib.hid ho
  have h1 : Below w.heap.size w (w.alloc (.cells #[] 59)) := (Below.refl _ _).alloc (Nat.le_refl _) _
  have hbl : Below w.heap.size w w1 := by
    refine ⟨hg.os, hg.tape, hg.output, Nat.le_trans h1.size hg.size, fun q hq => ?_⟩
    rw [← h1.block q hq]
    exact hg.block q (by simp; omega) (by
      intro h
      have : q = w.heap.size := by simpa [Value.ownBlock] using h
      omega)
  have HB := Lib.hid hbl
  clear ho hg hbl h1
  go_wp2_with fail
  go_ret
  exact ⟨⟨v', rfl, HO.out⟩, HB.out⟩
end Go.Proofs.YtikgfdkaikpmhaaGreat
