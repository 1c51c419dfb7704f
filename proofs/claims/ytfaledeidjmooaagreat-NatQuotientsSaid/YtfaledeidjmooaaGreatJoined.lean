/-
  What joined does. Conditions: those that each theorem names.
-/
import Derived.Test.YtfaledeidjmooaaGreatSmall
namespace Go.Proofs.YtfaledeidjmooaaGreat
open Go.RowKit

theorem limbs_join {lo a k : Nat} (ha : a ≠ 0) (hl : (Nl.limbs lo).length ≤ k) :
    Nl.limbs lo ++ (Nl.zeros (k - (Nl.limbs lo).length) ++ Nl.limbs a) = Nl.limbs (lo + 4294967296 ^ k * a) := by
  have hv : Nl.val (Nl.limbs lo ++ (Nl.zeros (k - (Nl.limbs lo).length) ++ Nl.limbs a)) = lo + 4294967296 ^ k * a := by
    rw [Nl.val_append, Nl.val_append, Nl.val_replicate, Nl.val_limbs, Nl.val_limbs, Nl.zeros_length, Nat.zero_add, ← Nat.mul_assoc, ← Nat.pow_add, show (Nl.limbs lo).length + (k - (Nl.limbs lo).length) = k from by omega]
  rw [← hv]
  refine (Nl.limbs_val ⟨Nl.small_append.2 ⟨Nl.limbs_small _, Nl.small_append.2 ⟨Nl.small_replicate _, Nl.limbs_small _⟩⟩, ?_⟩).symm
  rw [← List.append_assoc, List.getLast?_append]
  have h1 := Nl.limbs_last a
  cases h : (Nl.limbs a).getLast? with
  | none => rw [List.getLast?_eq_none_iff] at h; exact absurd (Nl.limbs_eq_nil.1 h) ha
  | some x => rw [h] at h1; simpa using h1

theorem splice_join (k : Nat) (lo a : List Nat) (h : lo.length ≤ k) : splice (lo ++ Nl.zeros (k + a.length - lo.length)) k a = lo ++ (Nl.zeros (k - lo.length) ++ a) := by
  have h1 : (lo ++ Nl.zeros (k + a.length - lo.length)).take k = lo ++ Nl.zeros (k - lo.length) := by
    rw [List.take_append, List.take_of_length_le h]
    simp only [Nl.zeros, List.take_replicate]
    rw [Nat.min_eq_left (by omega)]
  have h2 : (lo ++ Nl.zeros (k + a.length - lo.length)).drop (k + a.length) = [] := by
    apply List.drop_of_length_le
    rw [List.length_append, Nl.zeros_length]; omega
  rw [splice, h1, h2, List.append_nil, List.append_assoc]

set_option maxHeartbeats 1000000 in
theorem joined_any (va vl : Value) (a lo k : Nat) (w : World) (ha : IsN w va a) (hlo : IsN w vl lo) (hla : (Nl.limbs a).length ≤ 1000000) (hk : k ≤ 1000000) (hl : (Nl.limbs lo).length ≤ k) :
    Calls Tryz.prog 139 #[va, vl, .int .i64 k] w fun e w' => (∃ v, e = .returned v ∧ IsN w' v (lo + 4294967296 ^ k * a)) ∧ Below w.heap.size w w' := by
  have HA := Lib.hid ha
  have HL := Lib.hid hlo
  obtain ⟨aa, ca, rfl, -⟩ := ha.form
  obtain ⟨al, cl, rfl, -⟩ := hlo.form
  clear ha hlo
  by_cases hz : (Nl.limbs a).length = 0
  · have e0 : (((Nl.limbs a).length : Int) == 0) = true := by simp [hz]
    have HZ := Lib.hid hz
    clear hz
    go_enter Tryz.func139, Tryz.ntmps139
    go_wp2_with fail
    go_ret
    refine ⟨⟨_, rfl, ?_⟩, Below.refl _ _⟩
    rw [Nl.len_zero HZ.out, Nat.mul_zero, Nat.add_zero]
    exact HL.out
  have e0 : (((Nl.limbs a).length : Int) == 0) = false := by rw [beq_eq_false_iff_ne]; omega
  have ha0 : a ≠ 0 := by rintro rfl; rw [Nl.limbs_zero] at hz; exact hz rfl
  have hpos : 0 < (Nl.limbs a).length := by omega
  have hmk := make_words 69 Tryz.underlying69 w ((k : Int) + (Nl.limbs a).length) (k + (Nl.limbs a).length) (by omega) (by omega)
  have HZ := Lib.hid ha0
  clear hz ha0
  go_enter Tryz.func139, Tryz.ntmps139
  go_wp2_with (with_reducible refine wp_copy rfl (.tmp 17) (.tmp 18) 69 69 rfl Tryz.underlying69 _ _ _ _ _ _ rfl rfl w.heap.size 0 (Nl.zeros (k + (Nl.limbs a).length)) (Nl.limbs lo) (row_new w _) ?_ ?_ ?_ w.heap.size w ?_ ?_ ?_)
  · exact (Nat.min_eq_left (by omega)).symm
  · intro h0
    obtain ⟨b', f', h1, -, h2⟩ := (HL.out.alloc _).cells h0
    exact ⟨b', f', h1, h2⟩
  · rw [Nl.zeros_length]; omega
  · exact (Below.refl _ _).alloc (Nat.le_refl _) _
  · exact Nat.le_refl _
  intro w1 hr1 hb1
  rw [splice_zeros] at hr1
  clear hmk
  have hle : (Nl.limbs lo ++ Nl.zeros (k + (Nl.limbs a).length - (Nl.limbs lo).length)).length = k + (Nl.limbs a).length := by rw [List.length_append, Nl.zeros_length]; omega
  obtain ⟨Z, hZ⟩ : ∃ Z, Z = Nl.limbs lo ++ Nl.zeros (k + (Nl.limbs a).length - (Nl.limbs lo).length) := ⟨_, rfl⟩
  rw [← hZ] at hr1 hle
  have HZZ := Lib.hid hZ
  have HLE := Lib.hid hle
  clear hZ hle
  have hA1 : IsN w1 (.slice aa (Nl.limbs a).length ca) a := HA.out.below hb1
  have HA1 := Lib.hid hA1
  clear hA1
  have hcap : ¬ (Nl.limbs a = []) := by intro h; rw [h] at hpos; simp at hpos
  go_wp2_with (with_reducible refine wp_copy rfl (.tmp 22) (.tmp 23) 69 69 rfl Tryz.underlying69 _ _ _ _ _ _ rfl rfl w.heap.size k Z (Nl.limbs a) hr1.out ?_ ?_ ?_ w.heap.size w hb1 ?_ ?_)
  · exact (Nat.min_self _).symm
  · obtain ⟨b', f', h1, -, h2⟩ := HA1.out.cells hpos
    exact ⟨b', f', h1, h2⟩
  · rw [HLE.out]; omega
  · exact Nat.le_refl _
  intro w2 hr2 hb2
  rw [HZZ.out, splice_join _ _ _ hl, limbs_join HZ.out hl] at hr2
  have hl2 : (Nl.limbs (lo + 4294967296 ^ k * a)).length = k + (Nl.limbs a).length := by
    rw [← limbs_join HZ.out hl, List.length_append, List.length_append, Nl.zeros_length]; omega
  clear hr1
  have HL2 := Lib.hid hl2
  clear hl2
  go_wp2_with fail
  go_ret
  have hfin : Own w.heap.size w2 (.slice (some ⟨w.heap.size, 0, none⟩) (Nl.limbs (lo + 4294967296 ^ k * a)).length (Nl.limbs (lo + 4294967296 ^ k * a)).length) (Nl.limbs (lo + 4294967296 ^ k * a)) :=
    .inr ⟨_, _, rfl, Nat.le_refl _, hr2.out, List.take_of_length_le (Nat.le_refl _), Nat.le_refl _, by rw [HL2.out]; omega⟩
  rw [HL2.out] at hfin
  exact ⟨⟨_, rfl, hfin.at.at⟩, hb2⟩
end Go.Proofs.YtfaledeidjmooaaGreat
