/-
  What above, below and trimmed do. Conditions: those that each theorem names.
  What bits, belowTwo, spare and uint do. Conditions: those that each theorem names.
-/
import Derived.Test.YtkbghamkalidcaaGreatMinusAll
import Derived.Handy
namespace Go.Proofs.YtkbghamkalidcaaGreat
open Go.RowKit

theorem AtP.cut {p : Nat → Prop} {w : World} {b off cap k n : Nat} {xs : List Nat} (hp : p b) (hc : xs.length ≤ cap) (hm : cap ≤ 9223372036854775807) (hb : b < w.heap.size) (hx : Cells w b off xs) (hk : k ≤ xs.length) (hn : n = xs.length - k) :
    AtP p w (.slice (some ⟨b, off + k, none⟩) n (cap - k)) (xs.drop k) := by
  refine .inr ⟨b, off + k, cap - k, by simp [hn], hp, by simp; omega, by omega, hb, fun i hi => ?_⟩
  rw [List.length_drop] at hi
  have := hx (k + i) (by omega)
  rw [Nat.add_assoc, this]
  simp
theorem AtP.empty {p : Nat → Prop} {w : World} {b off cap n : Nat} {xs : List Nat} (hp : p b) (hm : cap ≤ 9223372036854775807) (hb : b < w.heap.size) (hx : xs = []) (hn : n = 0) :
    AtP p w (.slice (some ⟨b, off, none⟩) n cap) xs := by
  subst hx; subst hn
  exact .inr ⟨b, off, cap, rfl, hp, by simp, hm, hb, fun i hi => by simp at hi⟩
theorem above_any (p : Nat → Prop) (va : Value) (xs : List Nat) (k : Nat) (w : World) (ha : AtP p w va xs) (hkm : k ≤ 9223372036854775807) :
    Calls Tryz.prog 223 #[va, .int .i64 k] w fun e w' => (∃ v, e = .returned v ∧ AtP p w' v (xs.drop k)) ∧ w = w' := by
  rcases ha with ⟨rfl, rfl⟩ | ⟨b, off, cap, rfl, hp, hc, hm, hb, hx⟩
  · go_enter Tryz.func223, Tryz.ntmps223
    go_wp2
    all_goals go_ret
    all_goals exact ⟨⟨_, rfl, .inl ⟨rfl, by simp⟩⟩, rfl⟩
  · by_cases hk : k ≤ xs.length
    · have hmin : min (k : Int) (xs.length : Int) = k := by omega
      go_enter Tryz.func223, Tryz.ntmps223
      go_wp2
      · go_ret
        exact ⟨⟨_, rfl, AtP.empty hp (by omega) hb (List.drop_of_length_le (by omega)) (by omega)⟩, rfl⟩
      · go_ret
        exact ⟨⟨_, rfl, AtP.cut hp hc hm hb hx hk rfl⟩, rfl⟩
    · have hmin : min (k : Int) (xs.length : Int) = xs.length := by omega
      go_enter Tryz.func223, Tryz.ntmps223
      go_wp2
      · go_ret
        exact ⟨⟨_, rfl, AtP.empty hp (by omega) hb (List.drop_of_length_le (by omega)) (by omega)⟩, rfl⟩
      · go_ret
        exact ⟨⟨_, rfl, AtP.empty hp (by omega) hb (List.drop_of_length_le (by omega)) (by omega)⟩, rfl⟩
theorem AtP.trim {p : Nat → Prop} {w : World} {b off cap : Nat} {xs : List Nat} (hp : p b) (hc : xs.length ≤ cap) (hm : cap ≤ 9223372036854775807) (hb : b < w.heap.size) (hx : Cells w b off xs) :
    AtP p w (.slice (some ⟨b, off, none⟩) (Nl.trim xs).length cap) (Nl.trim xs) := by
  have hl := Nl.trim_length xs
  refine .inr ⟨b, off, cap, rfl, hp, by omega, hm, hb, fun i hi => ?_⟩
  rw [hx i (by omega)]
  conv => rhs; rw [Nl.trim_prefix]
  simp [hi]
theorem trimmed_any (p : Nat → Prop) (va : Value) (xs : List Nat) (w : World) (ha : AtP p w va xs) :
    Calls Tryz.prog 216 #[va] w fun e w' => (∃ v, e = .returned v ∧ AtP p w' v (Nl.trim xs)) ∧ w = w' := by
  rcases ha with ⟨rfl, rfl⟩ | ⟨b, off, cap, rfl, hp, hc, hm, hb, hx⟩
  · go_enter Tryz.func216, Tryz.ntmps216
    go_wp2
    go_rounds 1
    all_goals go_ret
    all_goals exact ⟨⟨_, rfl, .inl ⟨rfl, rfl⟩⟩, rfl⟩
  · refine (trimmed_cells b off cap xs w hx hc hm).mono ?_
    rintro e w' ⟨rfl, rfl⟩
    exact ⟨⟨_, rfl, AtP.trim hp hc hm hb hx⟩, rfl⟩
theorem trimmed_len (b off n cap : Nat) (xs : List Nat) (w : World) (hn : xs.length = n) (h : Cells w b off xs) (hc : n ≤ cap) (hm : cap ≤ 9223372036854775807) :
    Calls Tryz.prog 216 #[.slice (some ⟨b, off, none⟩) n cap] w fun e w' => e = .returned (.slice (some ⟨b, off, none⟩) (Nl.trim xs).length cap) ∧ w = w' := by
  subst hn; exact trimmed_cells b off cap xs w h hc hm
theorem Cells.take {w : World} {b off : Nat} {xs : List Nat} (h : Cells w b off xs) (k : Nat) : Cells w b off (xs.take k) := by
  intro i hi
  rw [List.length_take] at hi
  rw [h i (by omega)]
  simp [List.getElem?_take]
  rw [if_pos (by omega)]
theorem below_any (p : Nat → Prop) (va : Value) (xs : List Nat) (k : Nat) (w : World) (ha : AtP p w va xs) (hkm : k ≤ 9223372036854775807) :
    Calls Tryz.prog 254 #[va, .int .i64 k] w fun e w' => (∃ v, e = .returned v ∧ AtP p w' v (Nl.trim (xs.take k))) ∧ w = w' := by
  rcases ha with ⟨rfl, rfl⟩ | ⟨b, off, cap, rfl, hp, hc, hm, hb, hx⟩
  · cases k with
    | zero =>
      go_enter Tryz.func254, Tryz.ntmps254
      go_wp2_with fail
      refine (trimmed_any p (.slice none 0 0) [] _ (.inl ⟨rfl, rfl⟩)).mono ?_
      rintro e w' ⟨⟨v, rfl, hv⟩, rfl⟩
      go_wp2_with fail
      go_ret
      exact ⟨⟨_, rfl, by simpa using hv⟩, rfl⟩
    | succ k =>
      have h0 : (0 : Int) < ((k + 1 : Nat) : Int) := by omega
      go_enter Tryz.func254, Tryz.ntmps254
      go_wp2_with fail
      refine (trimmed_any p (.slice none 0 0) [] _ (.inl ⟨rfl, rfl⟩)).mono ?_
      rintro e w' ⟨⟨v, rfl, hv⟩, rfl⟩
      go_wp2_with fail
      go_ret
      exact ⟨⟨_, rfl, by simpa using hv⟩, rfl⟩
  · by_cases hk : k ≤ xs.length
    · have hmin : min (k : Int) (xs.length : Int) = k := by omega
      go_enter Tryz.func254, Tryz.ntmps254
      have hl : (xs.take k).length = k := by simp; omega
      have HL := Lib.hid hl
      clear hl
      go_wp2_with fail
      refine (trimmed_len b off k cap (xs.take k) w HL.out (hx.take k) (by omega) hm).mono ?_
      rintro e w' ⟨rfl, rfl⟩
      go_wp2_with fail
      go_ret
      exact ⟨⟨_, rfl, AtP.trim hp (by rw [HL.out]; omega) hm hb (hx.take k)⟩, rfl⟩
    · have hmin : min (k : Int) (xs.length : Int) = xs.length := by omega
      go_enter Tryz.func254, Tryz.ntmps254
      go_wp2_with fail
      refine (trimmed_len b off _ cap xs w rfl hx (by omega) hm).mono ?_
      rintro e w' ⟨rfl, rfl⟩
      go_wp2_with fail
      go_ret
      refine ⟨⟨_, rfl, ?_⟩, rfl⟩
      rw [List.take_of_length_le (by omega)]
      exact AtP.trim hp (by omega) hm hb hx

/-- cuts of numbers -/
theorem above_num (p : Nat → Prop) (va : Value) (m k : Nat) (w : World) (ha : AtP p w va (Nl.limbs m)) (hkm : k ≤ 9223372036854775807) :
    Calls Tryz.prog 223 #[va, .int .i64 k] w fun e w' => (∃ v, e = .returned v ∧ AtP p w' v (Nl.limbs (m / 4294967296 ^ k))) ∧ w = w' := by
  rw [← Nl.limbs_drop]; exact above_any p va _ k w ha hkm
theorem below_num (p : Nat → Prop) (va : Value) (m k : Nat) (w : World) (ha : AtP p w va (Nl.limbs m)) (hkm : k ≤ 9223372036854775807) :
    Calls Tryz.prog 254 #[va, .int .i64 k] w fun e w' => (∃ v, e = .returned v ∧ AtP p w' v (Nl.limbs (m % 4294967296 ^ k))) ∧ w = w' := by
  rw [← Nl.limbs_take]; exact below_any p va _ k w ha hkm
end Go.Proofs.YtkbghamkalidcaaGreat

namespace Go.Proofs.YtkbghamkalidcaaGreat
open Go.RowKit

theorem wordOf_num (x : Nat) (w : World) (hx : x < 4294967296) : Calls Tryz.prog 232 #[.int .u32 x] w fun e w' => (∃ v, e = .returned v ∧ Own w.heap.size w' v (Nl.limbs x)) ∧ Below w.heap.size w w' := by
  refine (wordOf_any x w).mono ?_
  rintro e w' ⟨rfl, rfl⟩
  have hr : Row (w.alloc (.cells #[.int .u32 x] 80)) w.heap.size [x] := row_new w [x]
  refine ⟨⟨_, rfl, Own.num (Nat.le_refl _) hr rfl (by omega) (by simp [Nl.Small]; exact hx) (by simp)⟩, (Below.refl _ _).alloc (Nat.le_refl _) _⟩
theorem fromUint_num (x : Nat) (w : World) (hx : x < 18446744073709551616) : Calls Tryz.prog 163 #[.int .u64 x] w fun e w' => (∃ v, e = .returned v ∧ Own w.heap.size w' v (Nl.limbs x)) ∧ Below w.heap.size w w' := by
  refine (fromUint_any x w hx).mono ?_
  rintro e w' ⟨rfl, rfl⟩
  have hr : Row (w.alloc (.cells #[.int .u32 ((x % 4294967296 : Nat) : Int), .int .u32 ((x / 4294967296 : Nat) : Int)] 80)) w.heap.size [x % 4294967296, x / 4294967296] := row_new w [x % 4294967296, x / 4294967296]
  refine ⟨⟨_, rfl, Own.num (Nat.le_refl _) hr rfl (by omega) (by simp [Nl.Small]; omega) (by simp; omega)⟩, (Below.refl _ _).alloc (Nat.le_refl _) _⟩

theorem bits_any (va : Value) (m : Nat) (w : World) (ha : IsN w va m) (hl : (Nl.limbs m).length ≤ 1000000) :
    Calls Tryz.prog 171 #[va] w fun e w' => e = .returned (.int .i64 (nbits m : Nat)) ∧ w = w' := by
  by_cases h0 : m = 0
  · subst h0
    rw [IsN, Nl.limbs_zero] at ha
    obtain ⟨a, ca, rfl, -⟩ := ha.form
    go_enter Tryz.func171, Tryz.ntmps171
    go_wp2
    go_ret
    exact ⟨rfl, rfl⟩
  · have hp := Nl.len_pos h0
    obtain ⟨hn, hx0⟩ := nbits_limbs h0
    rcases ha with ⟨rfl, h⟩ | ⟨b, off, cap, rfl, -, hc, hm, hb, hx⟩
    · rw [h] at hp; simp at hp
    obtain ⟨k, hk⟩ : ∃ k, (Nl.limbs m).length = k + 1 := ⟨(Nl.limbs m).length - 1, by omega⟩
    have hw := (Nl.limbs_small m).getD ((Nl.limbs m).length - 1)
    rw [hk, show k + 1 - 1 = k from by omega] at hn hx0 hw
    have c0 := hx k (by omega)
    obtain ⟨x, ex⟩ : ∃ x, (Nl.limbs m).getD k 0 = x := ⟨_, rfl⟩
    rw [ex] at hn hx0 c0 hw
    rw [hk] at hc
    rw [hk]
    have HN := Lib.hid hn
    have hb8 : Lib.bitLen x ≤ 64 := Lib.bitLen_le x 64 (by omega) (by omega)
    clear hx hn ex hp h0 hx0
    have t0 : (((k : Int) + 1) == 0) = false := by rw [beq_eq_false_iff_ne]; omega
    rw [hk] at hl
    clear hk
    go_enter Tryz.func171, Tryz.ntmps171
    go_wp2_with (go_at_call 222; refine (len32 _ _ (by omega) (by omega)).mono ?_; rintro e w' ⟨rfl, rfl⟩)
    go_ret
    refine ⟨ret_int ?_, rfl⟩
    rw [HN.out]
    first | omega | (simp; omega) | trace_state
theorem lz32 (x : Int) (w : World) (h0 : 0 ≤ x) (h1 : x ≤ 4294967295) :
    Calls Tryz.prog 268 #[.int .u32 x] w fun e w' => e = .returned (.int .i64 (32 - Lib.bitLen x.toNat)) ∧ w = w' := by
  have hb := Lib.bitLen_le x.toNat 32 (by omega) (by omega)
  go_enter Tryz.func268, Tryz.ntmps268
  go_wp2_with (go_at_call 222; refine (len32 _ _ (by omega) (by omega)).mono ?_; rintro e w' ⟨rfl, rfl⟩)
  go_ret
  exact ⟨rfl, rfl⟩
/-- the first word of a number that is not 0 -/
theorem top_word {m : Nat} (h0 : m ≠ 0) : ∃ k x, (Nl.limbs m).length = k + 1 ∧ (Nl.limbs m).getD k 0 = x ∧ x ≠ 0 ∧ x < 4294967296 ∧ nbits m = 32 * k + Lib.bitLen x := by
  have hp := Nl.len_pos h0
  obtain ⟨hn, hx0⟩ := nbits_limbs h0
  obtain ⟨k, hk⟩ : ∃ k, (Nl.limbs m).length = k + 1 := ⟨(Nl.limbs m).length - 1, by omega⟩
  rw [hk, show k + 1 - 1 = k from by omega] at hn hx0
  exact ⟨k, _, hk, rfl, hx0, (Nl.limbs_small m).getD k, hn⟩
theorem spare_any (va : Value) (m : Nat) (w : World) (ha : IsN w va m) (hl : (Nl.limbs m).length ≤ 1000000) (h0 : m ≠ 0) :
    Calls Tryz.prog 249 #[va] w fun e w' => e = .returned (.int .i64 ((32 * (Nl.limbs m).length - nbits m : Nat) : Int)) ∧ w = w' := by
  obtain ⟨k, x, hk, ex, hx0, hw, hn⟩ := top_word h0
  have hb8 : Lib.bitLen x ≤ 32 := Lib.bitLen_le x 32 (by omega) (by omega)
  rcases ha with ⟨rfl, h⟩ | ⟨b, off, cap, rfl, -, hc, hm, hb, hx⟩
  · rw [h] at hk; simp at hk
  have c0 := hx k (by omega)
  rw [ex] at c0
  rw [hk] at hc hl ⊢
  have HN := Lib.hid hn
  clear hx hn ex h0 hx0 hk
  go_enter Tryz.func249, Tryz.ntmps249
  go_wp2_with (go_at_call 268; refine (lz32 _ _ (by omega) (by omega)).mono ?_; rintro e w' ⟨rfl, rfl⟩)
  go_ret
  refine ⟨ret_int ?_, rfl⟩
  rw [HN.out]
  omega

set_option maxHeartbeats 1000000 in
theorem uint_any (va : Value) (m : Nat) (w : World) (ha : IsN w va m) (hm : m < 18446744073709551616) :
    Calls Tryz.prog 243 #[va] w fun e w' => e = .returned (.int .u64 m) ∧ w = w' := by
  by_cases h0 : m = 0
  · subst h0
    rw [IsN, Nl.limbs_zero] at ha
    obtain ⟨a, ca, rfl, -⟩ := ha.form
    go_enter Tryz.func243, Tryz.ntmps243
    go_wp2
    go_rounds 1
    go_ret
    exact ⟨rfl, rfl⟩
  by_cases h1 : m < 4294967296
  · have hl : Nl.limbs m = [m] := by rw [Nl.limbs_pos h0, show m / 4294967296 = 0 from by omega, Nl.limbs_zero, Nat.mod_eq_of_lt h1]
    rw [IsN, hl] at ha
    rcases ha with ⟨rfl, h⟩ | ⟨b, off, cap, rfl, -, hc, hm, hb, hx⟩
    · simp at h
    have c0 := hx 0 (by simp)
    simp only [Nat.add_zero, List.getD_cons_zero] at c0
    clear hx hl h0
    go_enter Tryz.func243, Tryz.ntmps243
    go_wp2
    go_rounds 2
    go_ret
    refine ⟨ret_int ?_, rfl⟩
    rw [show (0 : Int) = ((0 : Nat) : Int) from rfl, u64_or_nat 0 m (by decide) (by omega), Nat.zero_or]
  · have hl : Nl.limbs m = [m % 4294967296, m / 4294967296] := by rw [Nl.limbs_pos h0, Nl.limbs_pos (by omega), show m / 4294967296 / 4294967296 = 0 from by omega, Nl.limbs_zero, Nat.mod_eq_of_lt (show m / 4294967296 < 4294967296 by omega)]
    rw [IsN, hl] at ha
    rcases ha with ⟨rfl, h⟩ | ⟨b, off, cap, rfl, -, hc, hm', hb, hx⟩
    · simp at h
    have c0 := hx 0 (by simp)
    have c1 := hx 1 (by simp)
    simp only [Nat.add_zero, List.getD_cons_zero, List.getD_cons_succ] at c0 c1
    obtain ⟨x, ex⟩ : ∃ x, m % 4294967296 = x := ⟨_, rfl⟩
    obtain ⟨y, ey⟩ : ∃ y, m / 4294967296 = y := ⟨_, rfl⟩
    have hx2 : x < 4294967296 := by omega
    have hy2 : y < 4294967296 := by omega
    have em : m = x + 4294967296 * y := by omega
    rw [ex] at c0
    rw [ey] at c1
    have EM := Lib.hid em
    clear hx hl h0 ex ey em h1 hm
    go_enter Tryz.func243, Tryz.ntmps243
    go_wp2
    go_rounds 3
    go_ret
    refine ⟨ret_int ?_, rfl⟩
    rw [show (0 : Int) = ((0 : Nat) : Int) from rfl, u64_or_nat 0 x (by decide) (by omega), Nat.zero_or, show (y : Int) * 4294967296 = ((y * 4294967296 : Nat) : Int) from by omega,
      u64_or_nat x _ (by omega) (by omega), Nat.or_comm, nat_join 32 _ _ (by omega) (by omega), EM.out]
    omega
end Go.Proofs.YtkbghamkalidcaaGreat
