/-
  What decrease does to a number that was just made. Conditions: those that each theorem names.
-/
import Derived.Test.YtfaledeidjmooaaGreatPairs
import Derived.Test.YtfaledeidjmooaaGreatJoined
import Derived.Test.YtfaledeidjmooaaGreatShift
import Derived.Laws.EntriesVeiled
import Derived.Deep.RegionHeld3
namespace Go.Proofs.YtfaledeidjmooaaGreat
open Go.RowKit

theorem decrease_nil (vb : Value) (w : World) (hb : At w vb []) :
    Calls Tryz.prog 100 #[.slice none 0 0, vb] w fun e w' => e = .returned (.tuple #[]) ∧ w = w' := by
  obtain ⟨b, cb, rfl, -⟩ := hb.form
  clear hb
  go_enter Tryz.func100, Tryz.ntmps100
  go_wp2
  go_rounds 1
  go_rounds 1
  go_end0
  exact ⟨rfl, rfl⟩

theorem Own.split {base : Nat} {w : World} {v : Value} {xs : List Nat} (h : Own base w v xs) : (v = .slice none 0 0 ∧ xs = []) ∨
    ∃ g L C, v = .slice (some ⟨g, 0, none⟩) xs.length L ∧ base ≤ g ∧ Row w g (xs ++ C) ∧ xs.length ≤ L ∧ L ≤ 9223372036854775807 ∧ (xs ++ C).length = L := by
  rcases h with h | ⟨g, L, h1, h2, h3, h4, h5, h6⟩
  · exact .inl h
  · refine .inr ⟨g, L.length, L.drop xs.length, h1, h2, ?_, h5, h6, ?_⟩
    · have h7 := List.take_append_drop xs.length L
      rw [h4] at h7
      rw [h7]; exact h3
    · rw [List.length_append, List.length_drop]; omega
theorem Own.mk {base : Nat} {w : World} {g L n : Nat} {xs C : List Nat} (hn : xs.length = n) (hb : base ≤ g) (hr : Row w g (xs ++ C)) (hL : L ≤ 9223372036854775807) (hl : (xs ++ C).length = L) :
    Own base w (.slice (some ⟨g, 0, none⟩) n L) xs := by
  subst hn; subst hl
  exact .inr ⟨g, _, rfl, hb, hr, List.take_left' rfl, by simp, hL⟩

/-- a difference in place, in a block that the call itself made -/
theorem decrease_own (base : Nat) (va vb : Value) (xs ys : List Nat) (w : World) (ha : Own base w va xs) (hb : AtP (· < base) w vb ys) (hx : Nl.Small xs) (hy : Nl.Small ys) (hl : ys.length ≤ xs.length) (hB : base ≤ w.heap.size) :
    Calls Tryz.prog 100 #[va, vb] w fun e w' => e = .returned (.tuple #[]) ∧ ∃ Z c, Own base w' va Z ∧ Z.length = xs.length ∧ Nl.Small Z ∧ Nl.val Z + Nl.val ys = Nl.val xs + 4294967296 ^ xs.length * c ∧ Below base w w' := by
  rcases ha.split with ⟨rfl, rfl⟩ | ⟨g, L, C, rfl, h1, h2, h3, h4, h5⟩
  · have hy0 : ys = [] := List.eq_nil_of_length_eq_zero (by simpa using hl)
    subst hy0
    refine (decrease_nil vb w hb.at).mono ?_
    rintro e w' ⟨rfl, rfl⟩
    exact ⟨rfl, [], 0, .inl ⟨rfl, rfl⟩, rfl, Nl.small_nil, by simp, Below.refl _ _⟩
  · refine (decrease_any g 0 L [] xs C ys vb w (by simpa using h2) rfl hx hy (hb.mono fun b _ hb => Nat.ne_of_lt (Nat.lt_of_lt_of_le hb h1)) hl h3 h4).mono ?_
    rintro e w' ⟨rfl, Z, c, ⟨r1, r2⟩, r3, r4, r5⟩
    refine ⟨rfl, Z, c, Own.mk r3 h1 (by simpa using r1) h4 (by rw [List.length_append, r3, ← List.length_append, h5]), r3, r4, r5, below_of_only (Below.refl _ _) r2 h1 hB⟩
end Go.Proofs.YtfaledeidjmooaaGreat
