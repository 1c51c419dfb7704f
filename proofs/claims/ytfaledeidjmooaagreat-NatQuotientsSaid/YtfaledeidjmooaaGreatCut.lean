/-
  What above, below and trimmed do. Conditions: those that each theorem names.
-/
import Derived.Test.YtfaledeidjmooaaGreatPlus
import Derived.Handy
namespace Go.Proofs.YtfaledeidjmooaaGreat
open Go.RowKit

theorem AtP.cut {p : Nat → Prop} {w : World} {b off cap k n : Nat} {xs : List Nat} (hp : p b) (hc : xs.length ≤ cap) (hm : cap ≤ 9223372036854775807) (hb : b < w.heap.size) (hx : Cells w b off xs) (hk : k ≤ xs.length) (hn : n = xs.length - k) :
    AtP p w (.slice (some ⟨b, off + k, none⟩) n (cap - k)) (xs.drop k) := by
  refine .inr ⟨b, off + k, cap - k, by simp [hn], hp, by simp; omega, by omega, hb, fun i hi => ?_⟩
  rw [List.length_drop] at hi
  have := hx (k + i) (by omega)
  rw [Nat.add_assoc, this]
  simp
theorem AtP.empty {p : Nat → Prop} {w : World} {b off cap n : Nat} {xs : List Nat} (hp : p b) (hm : cap ≤ 9223372036854775807) (hb : b < w.heap.size) (hx : xs = []) (hn : n = 0) :
    AtP p w (.slice (some ⟨b, off, none⟩) n cap) xs := by
  subst hx; subst hn
  exact .inr ⟨b, off, cap, rfl, hp, by simp, hm, hb, fun i hi => by simp at hi⟩
theorem above_any (p : Nat → Prop) (va : Value) (xs : List Nat) (k : Nat) (w : World) (ha : AtP p w va xs) (hkm : k ≤ 9223372036854775807) :
    Calls Tryz.prog 116 #[va, .int .i64 k] w fun e w' => (∃ v, e = .returned v ∧ AtP p w' v (xs.drop k)) ∧ w = w' := by
  rcases ha with ⟨rfl, rfl⟩ | ⟨b, off, cap, rfl, hp, hc, hm, hb, hx⟩
  · go_enter Tryz.func116, Tryz.ntmps116
    go_wp2
    all_goals go_ret
    all_goals exact ⟨⟨_, rfl, .inl ⟨rfl, by simp⟩⟩, rfl⟩
  · by_cases hk : k ≤ xs.length
    · have hmin : min (k : Int) (xs.length : Int) = k := by omega
      go_enter Tryz.func116, Tryz.ntmps116
      go_wp2
      · go_ret
        exact ⟨⟨_, rfl, AtP.empty hp (by omega) hb (List.drop_of_length_le (by omega)) (by omega)⟩, rfl⟩
      · go_ret
        exact ⟨⟨_, rfl, AtP.cut hp hc hm hb hx hk rfl⟩, rfl⟩
    · have hmin : min (k : Int) (xs.length : Int) = xs.length := by omega
      go_enter Tryz.func116, Tryz.ntmps116
      go_wp2
      · go_ret
        exact ⟨⟨_, rfl, AtP.empty hp (by omega) hb (List.drop_of_length_le (by omega)) (by omega)⟩, rfl⟩
      · go_ret
        exact ⟨⟨_, rfl, AtP.empty hp (by omega) hb (List.drop_of_length_le (by omega)) (by omega)⟩, rfl⟩
theorem AtP.trim {p : Nat → Prop} {w : World} {b off cap : Nat} {xs : List Nat} (hp : p b) (hc : xs.length ≤ cap) (hm : cap ≤ 9223372036854775807) (hb : b < w.heap.size) (hx : Cells w b off xs) :
    AtP p w (.slice (some ⟨b, off, none⟩) (Nl.trim xs).length cap) (Nl.trim xs) := by
  have hl := Nl.trim_length xs
  refine .inr ⟨b, off, cap, rfl, hp, by omega, hm, hb, fun i hi => ?_⟩
  rw [hx i (by omega)]
  conv => rhs; rw [Nl.trim_prefix]
  simp [hi]
theorem trimmed_any (p : Nat → Prop) (va : Value) (xs : List Nat) (w : World) (ha : AtP p w va xs) :
    Calls Tryz.prog 96 #[va] w fun e w' => (∃ v, e = .returned v ∧ AtP p w' v (Nl.trim xs)) ∧ w = w' := by
  rcases ha with ⟨rfl, rfl⟩ | ⟨b, off, cap, rfl, hp, hc, hm, hb, hx⟩
  · go_enter Tryz.func96, Tryz.ntmps96
    go_wp2
    go_rounds 1
    all_goals go_ret
    all_goals exact ⟨⟨_, rfl, .inl ⟨rfl, rfl⟩⟩, rfl⟩
  · refine (trimmed_cells b off cap xs w hx hc hm).mono ?_
    rintro e w' ⟨rfl, rfl⟩
    exact ⟨⟨_, rfl, AtP.trim hp hc hm hb hx⟩, rfl⟩
theorem trimmed_len (b off n cap : Nat) (xs : List Nat) (w : World) (hn : xs.length = n) (h : Cells w b off xs) (hc : n ≤ cap) (hm : cap ≤ 9223372036854775807) :
    Calls Tryz.prog 96 #[.slice (some ⟨b, off, none⟩) n cap] w fun e w' => e = .returned (.slice (some ⟨b, off, none⟩) (Nl.trim xs).length cap) ∧ w = w' := by
  subst hn; exact trimmed_cells b off cap xs w h hc hm
theorem Cells.take {w : World} {b off : Nat} {xs : List Nat} (h : Cells w b off xs) (k : Nat) : Cells w b off (xs.take k) := by
  intro i hi
  rw [List.length_take] at hi
  rw [h i (by omega)]
  simp [List.getElem?_take]
  rw [if_pos (by omega)]
theorem below_any (p : Nat → Prop) (va : Value) (xs : List Nat) (k : Nat) (w : World) (ha : AtP p w va xs) (hkm : k ≤ 9223372036854775807) :
    Calls Tryz.prog 140 #[va, .int .i64 k] w fun e w' => (∃ v, e = .returned v ∧ AtP p w' v (Nl.trim (xs.take k))) ∧ w = w' := by
  rcases ha with ⟨rfl, rfl⟩ | ⟨b, off, cap, rfl, hp, hc, hm, hb, hx⟩
  · cases k with
    | zero =>
      go_enter Tryz.func140, Tryz.ntmps140
      go_wp2_with fail
      refine (trimmed_any p (.slice none 0 0) [] _ (.inl ⟨rfl, rfl⟩)).mono ?_
      rintro e w' ⟨⟨v, rfl, hv⟩, rfl⟩
      go_wp2_with fail
      go_ret
      exact ⟨⟨_, rfl, by simpa using hv⟩, rfl⟩
    | succ k =>
      have h0 : (0 : Int) < ((k + 1 : Nat) : Int) := by omega
      go_enter Tryz.func140, Tryz.ntmps140
      go_wp2_with fail
      refine (trimmed_any p (.slice none 0 0) [] _ (.inl ⟨rfl, rfl⟩)).mono ?_
      rintro e w' ⟨⟨v, rfl, hv⟩, rfl⟩
      go_wp2_with fail
      go_ret
      exact ⟨⟨_, rfl, by simpa using hv⟩, rfl⟩
  · by_cases hk : k ≤ xs.length
    · have hmin : min (k : Int) (xs.length : Int) = k := by omega
      go_enter Tryz.func140, Tryz.ntmps140
      have hl : (xs.take k).length = k := by simp; omega
      have HL := Lib.hid hl
      clear hl
      go_wp2_with fail
      refine (trimmed_len b off k cap (xs.take k) w HL.out (hx.take k) (by omega) hm).mono ?_
      rintro e w' ⟨rfl, rfl⟩
      go_wp2_with fail
      go_ret
      exact ⟨⟨_, rfl, AtP.trim hp (by rw [HL.out]; omega) hm hb (hx.take k)⟩, rfl⟩
    · have hmin : min (k : Int) (xs.length : Int) = xs.length := by omega
      go_enter Tryz.func140, Tryz.ntmps140
      go_wp2_with fail
      refine (trimmed_len b off _ cap xs w rfl hx (by omega) hm).mono ?_
      rintro e w' ⟨rfl, rfl⟩
      go_wp2_with fail
      go_ret
      refine ⟨⟨_, rfl, ?_⟩, rfl⟩
      rw [List.take_of_length_le (by omega)]
      exact AtP.trim hp (by omega) hm hb hx

/-- cuts of numbers -/
theorem above_num (p : Nat → Prop) (va : Value) (m k : Nat) (w : World) (ha : AtP p w va (Nl.limbs m)) (hkm : k ≤ 9223372036854775807) :
    Calls Tryz.prog 116 #[va, .int .i64 k] w fun e w' => (∃ v, e = .returned v ∧ AtP p w' v (Nl.limbs (m / 4294967296 ^ k))) ∧ w = w' := by
  rw [← Nl.limbs_drop]; exact above_any p va _ k w ha hkm
theorem below_num (p : Nat → Prop) (va : Value) (m k : Nat) (w : World) (ha : AtP p w va (Nl.limbs m)) (hkm : k ≤ 9223372036854775807) :
    Calls Tryz.prog 140 #[va, .int .i64 k] w fun e w' => (∃ v, e = .returned v ∧ AtP p w' v (Nl.limbs (m % 4294967296 ^ k))) ∧ w = w' := by
  rw [← Nl.limbs_take]; exact below_any p va _ k w ha hkm
end Go.Proofs.YtfaledeidjmooaaGreat
