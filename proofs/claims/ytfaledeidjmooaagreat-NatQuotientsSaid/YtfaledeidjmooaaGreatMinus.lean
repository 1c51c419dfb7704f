/-
  What minus, limited and kept do. Conditions: those that each theorem names.
-/
import Derived.Test.YtfaledeidjmooaaGreatPlus
namespace Go.Proofs.YtfaledeidjmooaaGreat
open Go.RowKit

set_option maxHeartbeats 1000000 in
theorem minus_any (va vb : Value) (m n : Nat) (w : World) (ha : IsN w va m) (hb : IsN w vb n) (hla : (Nl.limbs m).length ≤ 1000000) (hle : n ≤ m) :
    Calls Tryz.prog 63 #[va, vb] w fun e w' => (∃ v, e = .returned v ∧ IsN w' v (m - n)) ∧ Below w.heap.size w w' := by
  have hlb : (Nl.limbs n).length ≤ (Nl.limbs m).length := Nl.limbs_mono hle
  have HA := Lib.hid ha
  have HB := Lib.hid hb
  obtain ⟨a, ca, rfl, -⟩ := ha.form
  obtain ⟨b, cb, rfl, -⟩ := hb.form
  clear ha hb
  have hmk := make_words 69 Tryz.underlying69 w ((Nl.limbs m).length) ((Nl.limbs m).length) (by omega) (by omega)
  by_cases hz : (Nl.limbs n).length = 0
  · have e0 : (((Nl.limbs n).length : Int) == 0) = true := by simp [hz]
    have HZ := Lib.hid hz
    clear hz hmk
    go_enter Tryz.func63, Tryz.ntmps63
    go_wp2_with fail
    go_ret
    refine ⟨⟨_, rfl, ?_⟩, Below.refl _ _⟩
    rw [Nl.len_zero HZ.out, Nat.sub_zero]
    exact HA.out
  · have e0 : (((Nl.limbs n).length : Int) == 0) = false := by rw [beq_eq_false_iff_ne]; omega
    clear hz
    go_enter Tryz.func63, Tryz.ntmps63
    go_wp2_with (with_reducible refine wp_copy rfl (.tmp 13) (.tmp 14) 69 69 rfl Tryz.underlying69 _ _ _ _ _ _ rfl rfl w.heap.size 0 (Nl.zeros ((Nl.limbs m).length)) (Nl.limbs m) (row_new w _) ?_ ?_ ?_ w.heap.size w ?_ ?_ ?_)
    · exact (Nat.min_eq_left (by omega)).symm
    · intro h0
      obtain ⟨b', f', h1, -, h2⟩ := (HA.out.alloc _).cells h0
      exact ⟨b', f', h1, h2⟩
    · rw [Nl.zeros_length]; omega
    · exact (Below.refl _ _).alloc (Nat.le_refl _) _
    · exact Nat.le_refl _
    intro w1 hr1 hb1
    rw [splice_zeros, Nat.sub_self, show Nl.zeros 0 = [] from rfl, List.append_nil] at hr1
    clear hmk
    go_wp2_with fail
    have hop : AtP (· ≠ w.heap.size) w1 (.slice b (Nl.limbs n).length cb) (Nl.limbs n) := ((HB.out.mono fun b hb _ => (Nat.ne_of_lt hb : b ≠ w.heap.size)).below hb1)
    refine (decrease_at w.heap.size _ _ (Nl.limbs m) (Nl.limbs n) _ w1 rfl hr1.out (Nl.limbs_small _) (Nl.limbs_small _) hop (by omega) (Nat.le_refl _) (by omega)).mono ?_
    rintro e w2 ⟨rfl, Z', c, hr2, ho2, hl2, hs2, hv2⟩
    have HL2 := Lib.hid hl2
    have HV2 := Lib.hid hv2
    clear hl2 hv2
    go_wp2_with fail
    refine (trimmed_row _ _ Z' w2 HL2.out hr2 (by omega)).mono ?_
    rintro e w3 ⟨rfl, rfl⟩
    go_wp2_with fail
    go_ret
    have hb2 := below_of_only hb1 ho2 (Nat.le_refl _) hb1.size
    refine ⟨⟨_, rfl, (Own.num (k := m - n) (Nat.le_refl _) hr2 HL2.out (by omega) hs2 ?_).at.at⟩, hb2⟩
    have h1 := HV2.out
    rw [Nl.val_limbs, Nl.val_limbs] at h1
    have h2 := Nl.val_lt hs2
    rw [HL2.out] at h2
    rcases Nat.eq_zero_or_pos c with rfl | hc
    · omega
    · have h3 : 4294967296 ^ (Nl.limbs m).length * 1 ≤ 4294967296 ^ (Nl.limbs m).length * c := Nat.mul_le_mul_left _ hc
      omega

theorem limited_yes (v : Value) (m : Nat) (w : World) (h : IsN w v m) (hl : (Nl.limbs m).length ≤ 1024) :
    Calls Tryz.prog 120 #[v] w fun e w' => e = .returned v ∧ w = w' := by
  obtain ⟨a, ca, rfl, -⟩ := h.form
  clear h
  have hl' : decide (((Nl.limbs m).length : Int) ≤ 1024) = true := by simp; omega
  go_enter Tryz.func120, Tryz.ntmps120
  go_wp2_with (go_at_call 61; refine (must_yes _ _).mono ?_; rintro e w' ⟨rfl, rfl⟩)
  go_ret
  exact ⟨rfl, rfl⟩
theorem limited_no (v : Value) (m : Nat) (w : World) (h : IsN w v m) (hl : 1024 < (Nl.limbs m).length) :
    Calls Tryz.prog 120 #[v] w fun e w' => e = .panicked [{ v := .iface 130 (.agg #[.int .i64 2, .int .i64 0]), recovered := false }] ∧ w = w' := by
  obtain ⟨a, ca, rfl, -⟩ := h.form
  clear h
  have hl' : decide (((Nl.limbs m).length : Int) ≤ 1024) = false := by simp; omega
  go_enter Tryz.func120, Tryz.ntmps120
  go_wp2_with (go_at_call 61; refine (must_no _ _).mono ?_; rintro e w' ⟨rfl, rfl⟩)
  exact ⟨rfl, rfl, rfl⟩

set_option maxHeartbeats 1000000 in
theorem kept_yes (va : Value) (m : Nat) (w : World) (ha : IsN w va m) (hl : (Nl.limbs m).length ≤ 1024) :
    Calls Tryz.prog 92 #[va] w fun e w' => (∃ v, e = .returned v ∧ Own w.heap.size w' v (Nl.limbs m)) ∧ Below w.heap.size w w' := by
  have HA := Lib.hid ha
  obtain ⟨a, ca, rfl, -⟩ := ha.form
  clear ha
  have hmk := make_words 23 Tryz.underlying23 w ((Nl.limbs m).length) ((Nl.limbs m).length) (by omega) (by omega)
  by_cases hz : (Nl.limbs m).length = 0
  · have e0 : (((Nl.limbs m).length : Int) == 0) = true := by simp [hz]
    have HZ := Lib.hid hz
    clear hz hmk
    go_enter Tryz.func92, Tryz.ntmps92
    go_wp2_with fail
    refine (limited_yes _ m _ HA.out (by omega)).mono ?_
    rintro e w' ⟨rfl, rfl⟩
    go_wp2_with fail
    go_ret
    refine ⟨⟨_, rfl, ?_⟩, Below.refl _ _⟩
    rw [Nl.len_zero HZ.out, Nl.limbs_zero]
    exact .inl ⟨rfl, rfl⟩
  · have e0 : (((Nl.limbs m).length : Int) == 0) = false := by rw [beq_eq_false_iff_ne]; omega
    clear hz
    go_enter Tryz.func92, Tryz.ntmps92
    go_wp2_with fail
    refine (limited_yes _ m _ HA.out (by omega)).mono ?_
    rintro e w' ⟨rfl, rfl⟩
    go_wp2_with (with_reducible refine wp_copy rfl (.tmp 11) (.tmp 12) 23 69 rfl Tryz.underlying23 _ _ _ _ _ _ rfl rfl w.heap.size 0 (Nl.zeros ((Nl.limbs m).length)) (Nl.limbs m) (row_new w _) ?_ ?_ ?_ w.heap.size w ?_ ?_ ?_)
    · exact (Nat.min_eq_left (by omega)).symm
    · intro h0
      obtain ⟨b', f', h1, -, h2⟩ := (HA.out.alloc _).cells h0
      exact ⟨b', f', h1, h2⟩
    · rw [Nl.zeros_length]; omega
    · exact (Below.refl _ _).alloc (Nat.le_refl _) _
    · exact Nat.le_refl _
    intro w1 hr1 hb1
    rw [splice_zeros, Nat.sub_self, show Nl.zeros 0 = [] from rfl, List.append_nil] at hr1
    clear hmk
    go_wp2_with fail
    go_ret
    exact ⟨⟨_, rfl, .inr ⟨_, _, rfl, Nat.le_refl _, hr1.out, List.take_of_length_le (Nat.le_refl _), Nat.le_refl _, by omega⟩⟩, hb1⟩
theorem kept_no (v : Value) (m : Nat) (w : World) (h : IsN w v m) (hl : 1024 < (Nl.limbs m).length) :
    Calls Tryz.prog 92 #[v] w fun e w' => e = .panicked [{ v := .iface 130 (.agg #[.int .i64 2, .int .i64 0]), recovered := false }] ∧ w = w' := by
  have HA := Lib.hid h
  obtain ⟨a, ca, rfl, -⟩ := h.form
  clear h
  go_enter Tryz.func92, Tryz.ntmps92
  go_wp2_with fail
  refine (limited_no _ m _ HA.out (by omega)).mono ?_
  rintro e w' ⟨rfl, rfl⟩
  exact ⟨rfl, rfl, rfl⟩
end Go.Proofs.YtfaledeidjmooaaGreat
