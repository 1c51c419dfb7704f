/-
  plus, minus, joined and shiftedRight, with the blocks in which a result lies. Conditions: those that each theorem names. (Text by wip/tool/genfresh.py.)
-/
import Derived.Test.YtkbghamkalidcaaGreatDivideAll
import Derived.Test.YtkbghamkalidcaaGreatMinusAll
namespace Go.Proofs.YtkbghamkalidcaaGreat
open Go.RowKit

set_option maxHeartbeats 1000000 in
theorem plus_in (p : Nat → Prop) (va vb : Value) (m n : Nat) (w : World) (hp : ∀ b, w.heap.size ≤ b → p b) (ha : AtP p w va (Nl.limbs m)) (hb : AtP p w vb (Nl.limbs n)) (hla : (Nl.limbs m).length ≤ 1000000) (hlb : (Nl.limbs n).length ≤ 1000000) :
    Calls Tryz.prog 192 #[va, vb] w fun e w' => (∃ v, e = .returned v ∧ AtP p w' v (Nl.limbs (m + n))) ∧ Below w.heap.size w w' := by
  have HPP := Lib.hid hp
  clear hp
  have HA := Lib.hid ha
  have HB := Lib.hid hb
  obtain ⟨a, ca, rfl, -⟩ := ha.form
  obtain ⟨b, cb, rfl, -⟩ := hb.form
  clear ha hb
  by_cases hlt : (Nl.limbs m).length < (Nl.limbs n).length
  · have hmk := make_words 183 Tryz.underlying183 w ((Nl.limbs n).length + 1) ((Nl.limbs n).length + 1) (by omega) (by omega)
    by_cases hz : (Nl.limbs m).length = 0
    · have e0 : (((Nl.limbs m).length : Int) == 0) = true := by simp [hz]
      have HZ := Lib.hid hz
      clear hz hmk
      go_enter Tryz.func192, Tryz.ntmps192
      go_wp2_with fail
      go_ret
      refine ⟨⟨_, rfl, ?_⟩, Below.refl _ _⟩
      rw [Nl.len_zero HZ.out, Nat.zero_add]
      exact HB.out
    · have e0 : (((Nl.limbs m).length : Int) == 0) = false := by rw [beq_eq_false_iff_ne]; omega
      clear hz
      go_enter Tryz.func192, Tryz.ntmps192
      go_wp2_with (with_reducible refine wp_copy rfl (.tmp 21) (.tmp 22) 183 183 rfl Tryz.underlying183 _ _ _ _ _ _ rfl rfl w.heap.size 0 (Nl.zeros ((Nl.limbs n).length + 1)) (Nl.limbs n) (row_new w _) ?_ ?_ ?_ w.heap.size w ?_ ?_ ?_)
      · exact (Nat.min_eq_left (by omega)).symm
      · intro h0
        obtain ⟨b', f', h1, -, h2⟩ := (HB.out.alloc _).cells h0
        exact ⟨b', f', h1, h2⟩
      · rw [Nl.zeros_length]; omega
      · exact (Below.refl _ _).alloc (Nat.le_refl _) _
      · exact Nat.le_refl _
      intro w1 hr1 hb1
      rw [splice_zeros] at hr1
      obtain ⟨Z, hZ⟩ : ∃ Z, Z = Nl.limbs n ++ Nl.zeros ((Nl.limbs n).length + 1 - (Nl.limbs n).length) := ⟨_, rfl⟩
      rw [← hZ] at hr1
      have hZl : Z.length = (Nl.limbs n).length + 1 := by rw [hZ, List.length_append, Nl.zeros_length]; omega
      have hZs : Nl.Small Z := by rw [hZ]; exact Nl.small_pad (Nl.limbs_small _) _
      have hZv : Nl.val Z = n := by rw [hZ, Nl.val_pad, Nl.val_limbs]
      have HL := Lib.hid hZl
      have HV := Lib.hid hZv
      clear hZ hZl hZv hmk
      go_wp2_with fail
      have hop : AtP (· ≠ w.heap.size) w1 (.slice a (Nl.limbs m).length ca) (Nl.limbs m) := ((HA.out.mono fun b hb _ => (Nat.ne_of_lt hb : b ≠ w.heap.size)).below hb1)
      refine (increase_at w.heap.size _ _ Z (Nl.limbs m) _ w1 HL.out hr1.out hZs (Nl.limbs_small _) hop (by omega) (Nat.le_refl _) (by omega)).mono ?_
      rintro e w2 ⟨rfl, Z', c, hr2, ho2, hl2, hs2, hv2⟩
      have HL2 := Lib.hid hl2
      have HV2 := Lib.hid hv2
      clear hl2 hv2
      go_wp2_with fail
      refine (trimmed_row _ _ Z' w2 HL2.out hr2 (by omega)).mono ?_
      rintro e w3 ⟨rfl, rfl⟩
      go_wp2_with fail
      go_ret
      have hb2 := below_of_only hb1 ho2 (Nat.le_refl _) hb1.size
      refine ⟨⟨_, rfl, (Own.num (k := m + n) (Nat.le_refl _) hr2 HL2.out (by omega) hs2 ?_).at.mono fun b _ h => HPP.out b h⟩, hb2⟩
      have h1 := HV2.out
      rw [HV.out, Nl.val_limbs] at h1
      have h2 := Nl.lt_limbs n
      have h3 := Nl.lt_limbs m
      have h4 : 4294967296 ^ (Nl.limbs m).length ≤ 4294967296 ^ (Nl.limbs n).length := Nl.pow_le (by omega)
      have h5 := carry_none h1 (by rw [Nat.pow_succ]; omega) rfl
      omega
  · have hmk := make_words 183 Tryz.underlying183 w ((Nl.limbs m).length + 1) ((Nl.limbs m).length + 1) (by omega) (by omega)
    by_cases hz : (Nl.limbs n).length = 0
    · have e0 : (((Nl.limbs n).length : Int) == 0) = true := by simp [hz]
      have HZ := Lib.hid hz
      clear hz hmk
      go_enter Tryz.func192, Tryz.ntmps192
      go_wp2_with fail
      go_ret
      refine ⟨⟨_, rfl, ?_⟩, Below.refl _ _⟩
      rw [Nl.len_zero HZ.out, Nat.add_zero]
      exact HA.out
    · have e0 : (((Nl.limbs n).length : Int) == 0) = false := by rw [beq_eq_false_iff_ne]; omega
      clear hz
      go_enter Tryz.func192, Tryz.ntmps192
      go_wp2_with (with_reducible refine wp_copy rfl (.tmp 21) (.tmp 22) 183 183 rfl Tryz.underlying183 _ _ _ _ _ _ rfl rfl w.heap.size 0 (Nl.zeros ((Nl.limbs m).length + 1)) (Nl.limbs m) (row_new w _) ?_ ?_ ?_ w.heap.size w ?_ ?_ ?_)
      · exact (Nat.min_eq_left (by omega)).symm
      · intro h0
        obtain ⟨b', f', h1, -, h2⟩ := (HA.out.alloc _).cells h0
        exact ⟨b', f', h1, h2⟩
      · rw [Nl.zeros_length]; omega
      · exact (Below.refl _ _).alloc (Nat.le_refl _) _
      · exact Nat.le_refl _
      intro w1 hr1 hb1
      rw [splice_zeros] at hr1
      obtain ⟨Z, hZ⟩ : ∃ Z, Z = Nl.limbs m ++ Nl.zeros ((Nl.limbs m).length + 1 - (Nl.limbs m).length) := ⟨_, rfl⟩
      rw [← hZ] at hr1
      have hZl : Z.length = (Nl.limbs m).length + 1 := by rw [hZ, List.length_append, Nl.zeros_length]; omega
      have hZs : Nl.Small Z := by rw [hZ]; exact Nl.small_pad (Nl.limbs_small _) _
      have hZv : Nl.val Z = m := by rw [hZ, Nl.val_pad, Nl.val_limbs]
      have HL := Lib.hid hZl
      have HV := Lib.hid hZv
      clear hZ hZl hZv hmk
      go_wp2_with fail
      have hop : AtP (· ≠ w.heap.size) w1 (.slice b (Nl.limbs n).length cb) (Nl.limbs n) := ((HB.out.mono fun b hb _ => (Nat.ne_of_lt hb : b ≠ w.heap.size)).below hb1)
      refine (increase_at w.heap.size _ _ Z (Nl.limbs n) _ w1 HL.out hr1.out hZs (Nl.limbs_small _) hop (by omega) (Nat.le_refl _) (by omega)).mono ?_
      rintro e w2 ⟨rfl, Z', c, hr2, ho2, hl2, hs2, hv2⟩
      have HL2 := Lib.hid hl2
      have HV2 := Lib.hid hv2
      clear hl2 hv2
      go_wp2_with fail
      refine (trimmed_row _ _ Z' w2 HL2.out hr2 (by omega)).mono ?_
      rintro e w3 ⟨rfl, rfl⟩
      go_wp2_with fail
      go_ret
      have hb2 := below_of_only hb1 ho2 (Nat.le_refl _) hb1.size
      refine ⟨⟨_, rfl, (Own.num (k := m + n) (Nat.le_refl _) hr2 HL2.out (by omega) hs2 ?_).at.mono fun b _ h => HPP.out b h⟩, hb2⟩
      have h1 := HV2.out
      rw [HV.out, Nl.val_limbs] at h1
      have h2 := Nl.lt_limbs m
      have h3 := Nl.lt_limbs n
      have h4 : 4294967296 ^ (Nl.limbs n).length ≤ 4294967296 ^ (Nl.limbs m).length := Nl.pow_le (by omega)
      have h5 := carry_none h1 (by rw [Nat.pow_succ]; omega) rfl
      omega
set_option maxHeartbeats 1000000 in
theorem minus_in (p : Nat → Prop) (va vb : Value) (m n : Nat) (w : World) (hp : ∀ b, w.heap.size ≤ b → p b) (ha : AtP p w va (Nl.limbs m)) (hb : AtP p w vb (Nl.limbs n)) (hla : (Nl.limbs m).length ≤ 1000000) (hle : n ≤ m) :
    Calls Tryz.prog 195 #[va, vb] w fun e w' => (∃ v, e = .returned v ∧ AtP p w' v (Nl.limbs (m - n))) ∧ Below w.heap.size w w' := by
  have HPP := Lib.hid hp
  clear hp
  have hlb : (Nl.limbs n).length ≤ (Nl.limbs m).length := Nl.limbs_mono hle
  have HA := Lib.hid ha
  have HB := Lib.hid hb
  obtain ⟨a, ca, rfl, -⟩ := ha.form
  obtain ⟨b, cb, rfl, -⟩ := hb.form
  clear ha hb
  have hmk := make_words 183 Tryz.underlying183 w ((Nl.limbs m).length) ((Nl.limbs m).length) (by omega) (by omega)
  by_cases hz : (Nl.limbs n).length = 0
  · have e0 : (((Nl.limbs n).length : Int) == 0) = true := by simp [hz]
    have HZ := Lib.hid hz
    clear hz hmk
    go_enter Tryz.func195, Tryz.ntmps195
    go_wp2_with fail
    go_ret
    refine ⟨⟨_, rfl, ?_⟩, Below.refl _ _⟩
    rw [Nl.len_zero HZ.out, Nat.sub_zero]
    exact HA.out
  · have e0 : (((Nl.limbs n).length : Int) == 0) = false := by rw [beq_eq_false_iff_ne]; omega
    clear hz
    go_enter Tryz.func195, Tryz.ntmps195
    go_wp2_with (with_reducible refine wp_copy rfl (.tmp 13) (.tmp 14) 183 183 rfl Tryz.underlying183 _ _ _ _ _ _ rfl rfl w.heap.size 0 (Nl.zeros ((Nl.limbs m).length)) (Nl.limbs m) (row_new w _) ?_ ?_ ?_ w.heap.size w ?_ ?_ ?_)
    · exact (Nat.min_eq_left (by omega)).symm
    · intro h0
      obtain ⟨b', f', h1, -, h2⟩ := (HA.out.alloc _).cells h0
      exact ⟨b', f', h1, h2⟩
    · rw [Nl.zeros_length]; omega
    · exact (Below.refl _ _).alloc (Nat.le_refl _) _
    · exact Nat.le_refl _
    intro w1 hr1 hb1
    rw [splice_zeros, Nat.sub_self, show Nl.zeros 0 = [] from rfl, List.append_nil] at hr1
    clear hmk
    go_wp2_with fail
    have hop : AtP (· ≠ w.heap.size) w1 (.slice b (Nl.limbs n).length cb) (Nl.limbs n) := ((HB.out.mono fun b hb _ => (Nat.ne_of_lt hb : b ≠ w.heap.size)).below hb1)
    refine (decrease_at w.heap.size _ _ (Nl.limbs m) (Nl.limbs n) _ w1 rfl hr1.out (Nl.limbs_small _) (Nl.limbs_small _) hop (by omega) (Nat.le_refl _) (by omega)).mono ?_
    rintro e w2 ⟨rfl, Z', c, hr2, ho2, hl2, hs2, hv2⟩
    have HL2 := Lib.hid hl2
    have HV2 := Lib.hid hv2
    clear hl2 hv2
    go_wp2_with fail
    refine (trimmed_row _ _ Z' w2 HL2.out hr2 (by omega)).mono ?_
    rintro e w3 ⟨rfl, rfl⟩
    go_wp2_with fail
    go_ret
    have hb2 := below_of_only hb1 ho2 (Nat.le_refl _) hb1.size
    refine ⟨⟨_, rfl, (Own.num (k := m - n) (Nat.le_refl _) hr2 HL2.out (by omega) hs2 ?_).at.mono fun b _ h => HPP.out b h⟩, hb2⟩
    have h1 := HV2.out
    rw [Nl.val_limbs, Nl.val_limbs] at h1
    have h2 := Nl.val_lt hs2
    rw [HL2.out] at h2
    rcases Nat.eq_zero_or_pos c with rfl | hc
    · omega
    · have h3 : 4294967296 ^ (Nl.limbs m).length * 1 ≤ 4294967296 ^ (Nl.limbs m).length * c := Nat.mul_le_mul_left _ hc
      omega

set_option maxHeartbeats 1000000 in
theorem joined_in (p : Nat → Prop) (va vl : Value) (a lo k : Nat) (w : World) (hp : ∀ b, w.heap.size ≤ b → p b) (ha : AtP p w va (Nl.limbs a)) (hlo : AtP p w vl (Nl.limbs lo)) (hla : (Nl.limbs a).length ≤ 1000000) (hk : k ≤ 1000000) (hl : (Nl.limbs lo).length ≤ k) :
    Calls Tryz.prog 253 #[va, vl, .int .i64 k] w fun e w' => (∃ v, e = .returned v ∧ AtP p w' v (Nl.limbs (lo + 4294967296 ^ k * a))) ∧ Below w.heap.size w w' := by
  have HPP := Lib.hid hp
  clear hp
  have HA := Lib.hid ha
  have HL := Lib.hid hlo
  obtain ⟨aa, ca, rfl, -⟩ := ha.form
  obtain ⟨al, cl, rfl, -⟩ := hlo.form
  clear ha hlo
  by_cases hz : (Nl.limbs a).length = 0
  · have e0 : (((Nl.limbs a).length : Int) == 0) = true := by simp [hz]
    have HZ := Lib.hid hz
    clear hz
    go_enter Tryz.func253, Tryz.ntmps253
    go_wp2_with fail
    go_ret
    refine ⟨⟨_, rfl, ?_⟩, Below.refl _ _⟩
    rw [Nl.len_zero HZ.out, Nat.mul_zero, Nat.add_zero]
    exact HL.out
  have e0 : (((Nl.limbs a).length : Int) == 0) = false := by rw [beq_eq_false_iff_ne]; omega
  have ha0 : a ≠ 0 := by rintro rfl; rw [Nl.limbs_zero] at hz; exact hz rfl
  have hpos : 0 < (Nl.limbs a).length := by omega
  have hmk := make_words 183 Tryz.underlying183 w ((k : Int) + (Nl.limbs a).length) (k + (Nl.limbs a).length) (by omega) (by omega)
  have HZ := Lib.hid ha0
  clear hz ha0
  go_enter Tryz.func253, Tryz.ntmps253
  go_wp2_with (with_reducible refine wp_copy rfl (.tmp 17) (.tmp 18) 183 183 rfl Tryz.underlying183 _ _ _ _ _ _ rfl rfl w.heap.size 0 (Nl.zeros (k + (Nl.limbs a).length)) (Nl.limbs lo) (row_new w _) ?_ ?_ ?_ w.heap.size w ?_ ?_ ?_)
  · exact (Nat.min_eq_left (by omega)).symm
  · intro h0
    obtain ⟨b', f', h1, -, h2⟩ := (HL.out.alloc _).cells h0
    exact ⟨b', f', h1, h2⟩
  · rw [Nl.zeros_length]; omega
  · exact (Below.refl _ _).alloc (Nat.le_refl _) _
  · exact Nat.le_refl _
  intro w1 hr1 hb1
  rw [splice_zeros] at hr1
  clear hmk
  have hle : (Nl.limbs lo ++ Nl.zeros (k + (Nl.limbs a).length - (Nl.limbs lo).length)).length = k + (Nl.limbs a).length := by rw [List.length_append, Nl.zeros_length]; omega
  obtain ⟨Z, hZ⟩ : ∃ Z, Z = Nl.limbs lo ++ Nl.zeros (k + (Nl.limbs a).length - (Nl.limbs lo).length) := ⟨_, rfl⟩
  rw [← hZ] at hr1 hle
  have HZZ := Lib.hid hZ
  have HLE := Lib.hid hle
  clear hZ hle
  have hA1 : AtP p w1 (.slice aa (Nl.limbs a).length ca) (Nl.limbs a) := HA.out.below hb1
  have HA1 := Lib.hid hA1
  clear hA1
  have hcap : ¬ (Nl.limbs a = []) := by intro h; rw [h] at hpos; simp at hpos
  go_wp2_with (with_reducible refine wp_copy rfl (.tmp 22) (.tmp 23) 183 183 rfl Tryz.underlying183 _ _ _ _ _ _ rfl rfl w.heap.size k Z (Nl.limbs a) hr1.out ?_ ?_ ?_ w.heap.size w hb1 ?_ ?_)
  · exact (Nat.min_self _).symm
  · obtain ⟨b', f', h1, -, h2⟩ := HA1.out.cells hpos
    exact ⟨b', f', h1, h2⟩
  · rw [HLE.out]; omega
  · exact Nat.le_refl _
  intro w2 hr2 hb2
  rw [HZZ.out, splice_join _ _ _ hl, limbs_join HZ.out hl] at hr2
  have hl2 : (Nl.limbs (lo + 4294967296 ^ k * a)).length = k + (Nl.limbs a).length := by
    rw [← limbs_join HZ.out hl, List.length_append, List.length_append, Nl.zeros_length]; omega
  clear hr1
  have HL2 := Lib.hid hl2
  clear hl2
  go_wp2_with fail
  go_ret
  have hfin : Own w.heap.size w2 (.slice (some ⟨w.heap.size, 0, none⟩) (Nl.limbs (lo + 4294967296 ^ k * a)).length (Nl.limbs (lo + 4294967296 ^ k * a)).length) (Nl.limbs (lo + 4294967296 ^ k * a)) :=
    .inr ⟨_, _, rfl, Nat.le_refl _, hr2.out, List.take_of_length_le (Nat.le_refl _), Nat.le_refl _, by rw [HL2.out]; omega⟩
  rw [HL2.out] at hfin
  exact ⟨⟨_, rfl, hfin.at.mono fun b _ h => HPP.out b h⟩, hb2⟩
set_option maxHeartbeats 1000000 in
theorem shiftedRight_in (p : Nat → Prop) (va : Value) (m n : Nat) (w : World) (hp : ∀ b, w.heap.size ≤ b → p b) (ha : AtP p w va (Nl.limbs m)) (hla : (Nl.limbs m).length ≤ 1000000) (hn : n ≤ 9223372036854775807) :
    Calls Tryz.prog 174 #[va, .int .i64 n] w fun e w' => (∃ v, e = .returned v ∧ AtP p w' v (Nl.limbs (m / 2 ^ n))) ∧ Below w.heap.size w w' := by
  have HPP := Lib.hid hp
  clear hp
  obtain ⟨q, hq⟩ : ∃ q, q = n / 32 := ⟨_, rfl⟩
  obtain ⟨r, hr⟩ : ∃ r, r = n % 32 := ⟨_, rfl⟩
  have hr32 : r < 32 := by omega
  have q1 : (n : Int) / 32 = (q : Int) := by omega
  have r1 : (n : Int) % 32 = (r : Int) := by omega
  have hq2 : q ≤ 9223372036854775807 := by omega
  have HN := Lib.hid (show n = 32 * q + r from by omega)
  obtain ⟨M, hM⟩ : ∃ M, M = m / 4294967296 ^ q := ⟨_, rfl⟩
  have hMn : M / 2 ^ r = m / 2 ^ n := by rw [hM, pow32, Nat.div_div_eq_div_mul, ← Nat.pow_add, ← HN.out]
  have hlM : (Nl.limbs M).length ≤ 1000000 := Nat.le_trans (Nl.limbs_mono (by rw [hM]; exact Nat.div_le_self _ _)) hla
  have hab := above_num p va m q w ha hq2
  rw [← hM] at hab
  have HAB := Lib.hid hab
  have HM := Lib.hid hMn
  clear hq hr hn hab hM hMn ha
  go_enter Tryz.func174, Tryz.ntmps174
  go_wp2_with fail
  refine HAB.out.mono ?_
  rintro e w' ⟨⟨v, rfl, hv⟩, rfl⟩
  have HA := Lib.hid (show AtP p w v (Nl.limbs M) from hv)
  obtain ⟨a, ca, rfl, fa⟩ := hv.form
  have FA := Lib.hid fa
  clear hv fa
  by_cases hr0 : r = 0
  · subst hr0
    go_wp2_with fail
    go_ret
    refine ⟨⟨_, rfl, ?_⟩, Below.refl _ _⟩
    rw [← HM.out, Nat.pow_zero, Nat.div_one]
    exact HA.out
  have e1 : ((r : Int) == 0) = false := by rw [beq_eq_false_iff_ne]; omega
  have hmk := make_words 183 Tryz.underlying183 w (Nl.limbs M).length ((Nl.limbs M).length) (by omega) (by omega)
  clear hr0
  go_wp2_with fail
  clear hmk
  have hrow := row_new w (Nl.zeros ((Nl.limbs M).length))
  have hb0 : Below w.heap.size w (w.alloc (.cells (vals (Nl.zeros ((Nl.limbs M).length))).toArray 80)) := (Below.refl _ _).alloc (Nat.le_refl _) _
  have HR := Lib.hid hrow
  have HB := Lib.hid hb0
  clear hrow hb0
  go_loopw [8, 9] (fun c i wr => ∃ (k : Nat) (d : Nat) (Z' : List Nat), k ≤ (Nl.limbs M).length ∧ i = .int .i64 ((k : Int) - 1) ∧ c = .int .u32 (d : Int) ∧ d < 4294967296 ∧ Hid (d = Nl.val ((Nl.limbs M).drop k) % 2 ^ r * 2 ^ (32 - r)) ∧ Hid (Row wr w.heap.size Z') ∧ Hid (Below w.heap.size w wr) ∧ Hid (Z'.length = (Nl.limbs M).length) ∧ Hid (Nl.Small Z') ∧
      Hid (Nl.val (Z'.drop k) = Nl.val ((Nl.limbs M).drop k) / 2 ^ r)) (fun _ i _ => (intOf i + 1).toNat)
  case atStart => exact ⟨(Nl.limbs M).length, 0, _, Nat.le_refl _, rfl, rfl, by omega, by simp [Hid], HR, HB, by rw [Hid, Nl.zeros_length], Nl.small_replicate _, by rw [Hid, zeros_drop, Nl.val_replicate]; simp⟩
  case round =>
    obtain ⟨k, d, Z', hk, rfl, rfl, hd, hdr, hrow, hbel, hlen, hsm, hv⟩ := hrel
    cases k with
    | zero =>
      go_wp2_with fail
      refine (trimmed_row _ _ _ wr hlen.out hrow.out (by omega)).mono ?_
      rintro e w2 ⟨rfl, rfl⟩
      go_wp2_with fail
      go_ret
      refine ⟨⟨_, rfl, (Own.num (k := m / 2 ^ n) (Nat.le_refl _) hrow.out hlen.out (by omega) hsm.out ?_).at.mono fun b _ h => HPP.out b h⟩, hbel.out⟩
      have := hv.out
      rw [List.drop_zero, List.drop_zero, Nl.val_limbs, HM.out] at this
      exact this
    | succ k =>
      rw [show ((k + 1 : Nat) : Int) - 1 = (k : Int) from by omega]
      rcases FA.out with fb | ⟨bb, ob, rfl, -, hcb, -, hbb, hcy⟩
      · rw [fb] at hk; simp at hk
      obtain ⟨x, hx⟩ : ∃ x, x = (Nl.limbs M).getD k 0 := ⟨_, rfl⟩
      have hx2 : x < 4294967296 := by rw [hx]; exact (Nl.limbs_small M).getD k
      have cx : wr.cell? ⟨bb, ob + k, none⟩ = some (.int .u32 (x : Int)) := by rw [hx]; exact (hbel.out.cell (p := ⟨bb, ob + k, none⟩) hbb).trans (hcy k hk)
      obtain ⟨y, hy⟩ : ∃ y, y = Z'.getD k 0 := ⟨_, rfl⟩
      have cz := hrow.out.cell (i := k) (by rw [hlen.out]; omega)
      have fz := hrow.out.free k
      rw [← hy] at cz
      have Hx := Lib.hid hx
      clear hx hy hcy
      go_wp2
      go_roundw
      case rel =>
        obtain ⟨V, hV⟩ : ∃ V, V = Nl.val ((Nl.limbs M).drop (k + 1)) := ⟨_, rfl⟩
        have hVk : Nl.val ((Nl.limbs M).drop k) = x + 4294967296 * V := by rw [Nl.val_drop_succ _ _ hk, ← Hx.out, ← hV]
        obtain ⟨s1, s2, s3, s4⟩ := shr_word (V := V) hx2 (show r ≤ 32 by omega)
        have hdr := hdr.out
        have hv := hv.out
        rw [← hV] at hdr hv
        have e2 : bits BinOp.or IntKind.u32 ((x : Int) / 2 ^ r) (d : Int) = ((x / 2 ^ r + V % 2 ^ r * 2 ^ (32 - r) : Nat) : Int) := by
          rw [← s1, ← hdr, ← u32_or_nat _ _ (Nat.lt_of_le_of_lt (Nat.div_le_self _ _) hx2) hd]
          congr 1
        have e3 : (x : Int) * 2 ^ (32 - r) % 4294967296 = ((x * 2 ^ (32 - r) % 4294967296 : Nat) : Int) := by
          rw [Int.natCast_emod]; rfl
        rw [e2, e3]
        refine ⟨k, _, Z'.set k (x / 2 ^ r + V % 2 ^ r * 2 ^ (32 - r)), by omega, rfl, rfl, Nat.mod_lt _ (by decide), ?_, hrow.out.set _ _, hbel.out.setCell (Nat.le_refl _) _, ?_, ?_, ?_⟩
        · rw [Hid, s4, hVk]
        · simpa [Hid] using hlen.out
        · exact hsm.out.set _ s2
        · rw [Hid, Nl.val_drop_succ _ _ (by rw [List.length_set, hlen.out]; omega), Nl.drop_set_succ, hv, hVk, ← s3]
          rw [getD_set_self _ _ _ (by rw [hlen.out]; omega)]
      case measure => simp [intOf] <;> omega
end Go.Proofs.YtkbghamkalidcaaGreat
