/-
  What minus, limited and kept do. Conditions: those that each theorem names.
  What above, below and trimmed do. Conditions: those that each theorem names.
-/
import Derived.Test.YtodjncohhgknlaaGreatBitsAll
import Derived.Handy
namespace Go.Proofs.YtodjncohhgknlaaGreat
open Go.RowKit

set_option maxHeartbeats 1000000 in
theorem minus_any (va vb : Value) (m n : Nat) (w : World) (ha : IsN w va m) (hb : IsN w vb n) (hla : (Nl.limbs m).length ≤ 1000000) (hle : n ≤ m) :
    Calls Tryz.prog 199 #[va, vb] w fun e w' => (∃ v, e = .returned v ∧ IsN w' v (m - n)) ∧ Below w.heap.size w w' := by
  have hlb : (Nl.limbs n).length ≤ (Nl.limbs m).length := Nl.limbs_mono hle
  have HA := Lib.hid ha
  have HB := Lib.hid hb
  obtain ⟨a, ca, rfl, -⟩ := ha.form
  obtain ⟨b, cb, rfl, -⟩ := hb.form
  clear ha hb
  have hmk := make_words 191 Tryz.underlying191 w ((Nl.limbs m).length) ((Nl.limbs m).length) (by omega) (by omega)
  by_cases hz : (Nl.limbs n).length = 0
  · have e0 : (((Nl.limbs n).length : Int) == 0) = true := by simp [hz]
    have HZ := Lib.hid hz
    clear hz hmk
    go_enter Tryz.func199, Tryz.ntmps199
    go_wp2_with fail
    go_ret
    refine ⟨⟨_, rfl, ?_⟩, Below.refl _ _⟩
    rw [Nl.len_zero HZ.out, Nat.sub_zero]
    exact HA.out
  · have e0 : (((Nl.limbs n).length : Int) == 0) = false := by rw [beq_eq_false_iff_ne]; omega
    clear hz
    go_enter Tryz.func199, Tryz.ntmps199
    go_wp2_with (with_reducible refine wp_copy rfl (.tmp 13) (.tmp 14) 191 191 rfl Tryz.underlying191 _ _ _ _ _ _ rfl rfl w.heap.size 0 (Nl.zeros ((Nl.limbs m).length)) (Nl.limbs m) (row_new w _) ?_ ?_ ?_ w.heap.size w ?_ ?_ ?_)
    · exact (Nat.min_eq_left (by omega)).symm
    · intro h0
      obtain ⟨b', f', h1, -, h2⟩ := (HA.out.alloc _).cells h0
      exact ⟨b', f', h1, h2⟩
    · rw [Nl.zeros_length]; omega
    · exact (Below.refl _ _).alloc (Nat.le_refl _) _
    · exact Nat.le_refl _
    intro w1 hr1 hb1
    rw [splice_zeros, Nat.sub_self, show Nl.zeros 0 = [] from rfl, List.append_nil] at hr1
    clear hmk
    go_wp2_with fail
    have hop : AtP (· ≠ w.heap.size) w1 (.slice b (Nl.limbs n).length cb) (Nl.limbs n) := ((HB.out.mono fun b hb _ => (Nat.ne_of_lt hb : b ≠ w.heap.size)).below hb1)
    refine (decrease_at w.heap.size _ _ (Nl.limbs m) (Nl.limbs n) _ w1 rfl hr1.out (Nl.limbs_small _) (Nl.limbs_small _) hop (by omega) (Nat.le_refl _) (by omega)).mono ?_
    rintro e w2 ⟨rfl, Z', c, hr2, ho2, hl2, hs2, hv2⟩
    have HL2 := Lib.hid hl2
    have HV2 := Lib.hid hv2
    clear hl2 hv2
    go_wp2_with fail
    refine (trimmed_row _ _ Z' w2 HL2.out hr2 (by omega)).mono ?_
    rintro e w3 ⟨rfl, rfl⟩
    go_wp2_with fail
    go_ret
    have hb2 := below_of_only hb1 ho2 (Nat.le_refl _) hb1.size
    refine ⟨⟨_, rfl, (Own.num (k := m - n) (Nat.le_refl _) hr2 HL2.out (by omega) hs2 ?_).at.at⟩, hb2⟩
    have h1 := HV2.out
    rw [Nl.val_limbs, Nl.val_limbs] at h1
    have h2 := Nl.val_lt hs2
    rw [HL2.out] at h2
    rcases Nat.eq_zero_or_pos c with rfl | hc
    · omega
    · have h3 : 4294967296 ^ (Nl.limbs m).length * 1 ≤ 4294967296 ^ (Nl.limbs m).length * c := Nat.mul_le_mul_left _ hc
      omega

theorem limited_yes (v : Value) (m : Nat) (w : World) (h : IsN w v m) (hl : (Nl.limbs m).length ≤ 1024) :
    Calls Tryz.prog 242 #[v] w fun e w' => e = .returned v ∧ w = w' := by
  obtain ⟨a, ca, rfl, -⟩ := h.form
  clear h
  have hl' : decide (((Nl.limbs m).length : Int) ≤ 1024) = true := by simp; omega
  go_enter Tryz.func242, Tryz.ntmps242
  go_wp2_with (go_at_call 103; refine (must_yes _ _).mono ?_; rintro e w' ⟨rfl, rfl⟩)
  go_ret
  exact ⟨rfl, rfl⟩
theorem limited_no (v : Value) (m : Nat) (w : World) (h : IsN w v m) (hl : 1024 < (Nl.limbs m).length) :
    Calls Tryz.prog 242 #[v] w fun e w' => e = .panicked [{ v := .iface 182 (.agg #[.int .i64 2, .int .i64 0]), recovered := false }] ∧ w = w' := by
  obtain ⟨a, ca, rfl, -⟩ := h.form
  clear h
  have hl' : decide (((Nl.limbs m).length : Int) ≤ 1024) = false := by simp; omega
  go_enter Tryz.func242, Tryz.ntmps242
  go_wp2_with (go_at_call 103; refine (must_no _ _).mono ?_; rintro e w' ⟨rfl, rfl⟩)
  exact ⟨rfl, rfl, rfl⟩

set_option maxHeartbeats 1000000 in
theorem kept_yes (va : Value) (m : Nat) (w : World) (ha : IsN w va m) (hl : (Nl.limbs m).length ≤ 1024) :
    Calls Tryz.prog 193 #[va] w fun e w' => (∃ v, e = .returned v ∧ Own w.heap.size w' v (Nl.limbs m)) ∧ Below w.heap.size w w' := by
  have HA := Lib.hid ha
  obtain ⟨a, ca, rfl, -⟩ := ha.form
  clear ha
  have hmk := make_words 23 Tryz.underlying23 w ((Nl.limbs m).length) ((Nl.limbs m).length) (by omega) (by omega)
  by_cases hz : (Nl.limbs m).length = 0
  · have e0 : (((Nl.limbs m).length : Int) == 0) = true := by simp [hz]
    have HZ := Lib.hid hz
    clear hz hmk
    go_enter Tryz.func193, Tryz.ntmps193
    go_wp2_with fail
    refine (limited_yes _ m _ HA.out (by omega)).mono ?_
    rintro e w' ⟨rfl, rfl⟩
    go_wp2_with fail
    go_ret
    refine ⟨⟨_, rfl, ?_⟩, Below.refl _ _⟩
    rw [Nl.len_zero HZ.out, Nl.limbs_zero]
    exact .inl ⟨rfl, rfl⟩
  · have e0 : (((Nl.limbs m).length : Int) == 0) = false := by rw [beq_eq_false_iff_ne]; omega
    clear hz
    go_enter Tryz.func193, Tryz.ntmps193
    go_wp2_with fail
    refine (limited_yes _ m _ HA.out (by omega)).mono ?_
    rintro e w' ⟨rfl, rfl⟩
    go_wp2_with (with_reducible refine wp_copy rfl (.tmp 11) (.tmp 12) 23 191 rfl Tryz.underlying23 _ _ _ _ _ _ rfl rfl w.heap.size 0 (Nl.zeros ((Nl.limbs m).length)) (Nl.limbs m) (row_new w _) ?_ ?_ ?_ w.heap.size w ?_ ?_ ?_)
    · exact (Nat.min_eq_left (by omega)).symm
    · intro h0
      obtain ⟨b', f', h1, -, h2⟩ := (HA.out.alloc _).cells h0
      exact ⟨b', f', h1, h2⟩
    · rw [Nl.zeros_length]; omega
    · exact (Below.refl _ _).alloc (Nat.le_refl _) _
    · exact Nat.le_refl _
    intro w1 hr1 hb1
    rw [splice_zeros, Nat.sub_self, show Nl.zeros 0 = [] from rfl, List.append_nil] at hr1
    clear hmk
    go_wp2_with fail
    go_ret
    exact ⟨⟨_, rfl, .inr ⟨_, _, rfl, Nat.le_refl _, hr1.out, List.take_of_length_le (Nat.le_refl _), Nat.le_refl _, by omega⟩⟩, hb1⟩
theorem kept_no (v : Value) (m : Nat) (w : World) (h : IsN w v m) (hl : 1024 < (Nl.limbs m).length) :
    Calls Tryz.prog 193 #[v] w fun e w' => e = .panicked [{ v := .iface 182 (.agg #[.int .i64 2, .int .i64 0]), recovered := false }] ∧ w = w' := by
  have HA := Lib.hid h
  obtain ⟨a, ca, rfl, -⟩ := h.form
  clear h
  go_enter Tryz.func193, Tryz.ntmps193
  go_wp2_with fail
  refine (limited_no _ m _ HA.out (by omega)).mono ?_
  rintro e w' ⟨rfl, rfl⟩
  exact ⟨rfl, rfl, rfl⟩
end Go.Proofs.YtodjncohhgknlaaGreat

namespace Go.Proofs.YtodjncohhgknlaaGreat
open Go.RowKit

theorem AtP.cut {p : Nat → Prop} {w : World} {b off cap k n : Nat} {xs : List Nat} (hp : p b) (hc : xs.length ≤ cap) (hm : cap ≤ 9223372036854775807) (hb : b < w.heap.size) (hx : Cells w b off xs) (hk : k ≤ xs.length) (hn : n = xs.length - k) :
    AtP p w (.slice (some ⟨b, off + k, none⟩) n (cap - k)) (xs.drop k) := by
  refine .inr ⟨b, off + k, cap - k, by simp [hn], hp, by simp; omega, by omega, hb, fun i hi => ?_⟩
  rw [List.length_drop] at hi
  have := hx (k + i) (by omega)
  rw [Nat.add_assoc, this]
  simp
theorem AtP.empty {p : Nat → Prop} {w : World} {b off cap n : Nat} {xs : List Nat} (hp : p b) (hm : cap ≤ 9223372036854775807) (hb : b < w.heap.size) (hx : xs = []) (hn : n = 0) :
    AtP p w (.slice (some ⟨b, off, none⟩) n cap) xs := by
  subst hx; subst hn
  exact .inr ⟨b, off, cap, rfl, hp, by simp, hm, hb, fun i hi => by simp at hi⟩
theorem above_any (p : Nat → Prop) (va : Value) (xs : List Nat) (k : Nat) (w : World) (ha : AtP p w va xs) (hkm : k ≤ 9223372036854775807) :
    Calls Tryz.prog 267 #[va, .int .i64 k] w fun e w' => (∃ v, e = .returned v ∧ AtP p w' v (xs.drop k)) ∧ w = w' := by
  rcases ha with ⟨rfl, rfl⟩ | ⟨b, off, cap, rfl, hp, hc, hm, hb, hx⟩
  · go_enter Tryz.func267, Tryz.ntmps267
    go_wp2
    all_goals go_ret
    all_goals exact ⟨⟨_, rfl, .inl ⟨rfl, by simp⟩⟩, rfl⟩
  · by_cases hk : k ≤ xs.length
    · have hmin : min (k : Int) (xs.length : Int) = k := by omega
      go_enter Tryz.func267, Tryz.ntmps267
      go_wp2
      · go_ret
        exact ⟨⟨_, rfl, AtP.empty hp (by omega) hb (List.drop_of_length_le (by omega)) (by omega)⟩, rfl⟩
      · go_ret
        exact ⟨⟨_, rfl, AtP.cut hp hc hm hb hx hk rfl⟩, rfl⟩
    · have hmin : min (k : Int) (xs.length : Int) = xs.length := by omega
      go_enter Tryz.func267, Tryz.ntmps267
      go_wp2
      · go_ret
        exact ⟨⟨_, rfl, AtP.empty hp (by omega) hb (List.drop_of_length_le (by omega)) (by omega)⟩, rfl⟩
      · go_ret
        exact ⟨⟨_, rfl, AtP.empty hp (by omega) hb (List.drop_of_length_le (by omega)) (by omega)⟩, rfl⟩
theorem AtP.trim {p : Nat → Prop} {w : World} {b off cap : Nat} {xs : List Nat} (hp : p b) (hc : xs.length ≤ cap) (hm : cap ≤ 9223372036854775807) (hb : b < w.heap.size) (hx : Cells w b off xs) :
    AtP p w (.slice (some ⟨b, off, none⟩) (Nl.trim xs).length cap) (Nl.trim xs) := by
  have hl := Nl.trim_length xs
  refine .inr ⟨b, off, cap, rfl, hp, by omega, hm, hb, fun i hi => ?_⟩
  rw [hx i (by omega)]
  conv => rhs; rw [Nl.trim_prefix]
  simp [hi]
theorem trimmed_any (p : Nat → Prop) (va : Value) (xs : List Nat) (w : World) (ha : AtP p w va xs) :
    Calls Tryz.prog 241 #[va] w fun e w' => (∃ v, e = .returned v ∧ AtP p w' v (Nl.trim xs)) ∧ w = w' := by
  rcases ha with ⟨rfl, rfl⟩ | ⟨b, off, cap, rfl, hp, hc, hm, hb, hx⟩
  · go_enter Tryz.func241, Tryz.ntmps241
    go_wp2
    go_rounds 1
    all_goals go_ret
    all_goals exact ⟨⟨_, rfl, .inl ⟨rfl, rfl⟩⟩, rfl⟩
  · refine (trimmed_cells b off cap xs w hx hc hm).mono ?_
    rintro e w' ⟨rfl, rfl⟩
    exact ⟨⟨_, rfl, AtP.trim hp hc hm hb hx⟩, rfl⟩
theorem trimmed_len (b off n cap : Nat) (xs : List Nat) (w : World) (hn : xs.length = n) (h : Cells w b off xs) (hc : n ≤ cap) (hm : cap ≤ 9223372036854775807) :
    Calls Tryz.prog 241 #[.slice (some ⟨b, off, none⟩) n cap] w fun e w' => e = .returned (.slice (some ⟨b, off, none⟩) (Nl.trim xs).length cap) ∧ w = w' := by
  subst hn; exact trimmed_cells b off cap xs w h hc hm
theorem Cells.take {w : World} {b off : Nat} {xs : List Nat} (h : Cells w b off xs) (k : Nat) : Cells w b off (xs.take k) := by
  intro i hi
  rw [List.length_take] at hi
  rw [h i (by omega)]
  simp [List.getElem?_take]
  rw [if_pos (by omega)]
theorem below_any (p : Nat → Prop) (va : Value) (xs : List Nat) (k : Nat) (w : World) (ha : AtP p w va xs) (hkm : k ≤ 9223372036854775807) :
    Calls Tryz.prog 282 #[va, .int .i64 k] w fun e w' => (∃ v, e = .returned v ∧ AtP p w' v (Nl.trim (xs.take k))) ∧ w = w' := by
  rcases ha with ⟨rfl, rfl⟩ | ⟨b, off, cap, rfl, hp, hc, hm, hb, hx⟩
  · cases k with
    | zero =>
      go_enter Tryz.func282, Tryz.ntmps282
      go_wp2_with fail
      refine (trimmed_any p (.slice none 0 0) [] _ (.inl ⟨rfl, rfl⟩)).mono ?_
      rintro e w' ⟨⟨v, rfl, hv⟩, rfl⟩
      go_wp2_with fail
      go_ret
      exact ⟨⟨_, rfl, by simpa using hv⟩, rfl⟩
    | succ k =>
      have h0 : (0 : Int) < ((k + 1 : Nat) : Int) := by omega
      go_enter Tryz.func282, Tryz.ntmps282
      go_wp2_with fail
      refine (trimmed_any p (.slice none 0 0) [] _ (.inl ⟨rfl, rfl⟩)).mono ?_
      rintro e w' ⟨⟨v, rfl, hv⟩, rfl⟩
      go_wp2_with fail
      go_ret
      exact ⟨⟨_, rfl, by simpa using hv⟩, rfl⟩
  · by_cases hk : k ≤ xs.length
    · have hmin : min (k : Int) (xs.length : Int) = k := by omega
      go_enter Tryz.func282, Tryz.ntmps282
      have hl : (xs.take k).length = k := by simp; omega
      have HL := Lib.hid hl
      clear hl
      go_wp2_with fail
      refine (trimmed_len b off k cap (xs.take k) w HL.out (hx.take k) (by omega) hm).mono ?_
      rintro e w' ⟨rfl, rfl⟩
      go_wp2_with fail
      go_ret
      exact ⟨⟨_, rfl, AtP.trim hp (by rw [HL.out]; omega) hm hb (hx.take k)⟩, rfl⟩
    · have hmin : min (k : Int) (xs.length : Int) = xs.length := by omega
      go_enter Tryz.func282, Tryz.ntmps282
      go_wp2_with fail
      refine (trimmed_len b off _ cap xs w rfl hx (by omega) hm).mono ?_
      rintro e w' ⟨rfl, rfl⟩
      go_wp2_with fail
      go_ret
      refine ⟨⟨_, rfl, ?_⟩, rfl⟩
      rw [List.take_of_length_le (by omega)]
      exact AtP.trim hp (by omega) hm hb hx

/-- cuts of numbers -/
theorem above_num (p : Nat → Prop) (va : Value) (m k : Nat) (w : World) (ha : AtP p w va (Nl.limbs m)) (hkm : k ≤ 9223372036854775807) :
    Calls Tryz.prog 267 #[va, .int .i64 k] w fun e w' => (∃ v, e = .returned v ∧ AtP p w' v (Nl.limbs (m / 4294967296 ^ k))) ∧ w = w' := by
  rw [← Nl.limbs_drop]; exact above_any p va _ k w ha hkm
theorem below_num (p : Nat → Prop) (va : Value) (m k : Nat) (w : World) (ha : AtP p w va (Nl.limbs m)) (hkm : k ≤ 9223372036854775807) :
    Calls Tryz.prog 282 #[va, .int .i64 k] w fun e w' => (∃ v, e = .returned v ∧ AtP p w' v (Nl.limbs (m % 4294967296 ^ k))) ∧ w = w' := by
  rw [← Nl.limbs_take]; exact below_any p va _ k w ha hkm
end Go.Proofs.YtodjncohhgknlaaGreat
