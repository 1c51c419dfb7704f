/-
  What joined does. Conditions: those that each theorem names.
  What shiftedLeft does. What shiftedRight does. Conditions: those that each theorem names.
  What decrease does to a number that was just made. Conditions: those that each theorem names.
  What divide does. Conditions: those that each theorem names.
-/
import Derived.Test.YtkbghamkalidcaaGreatSmallAll
import Derived.Test.YtkbghamkalidcaaGreatPairs
import Derived.Laws.EntriesVeiled
import Derived.Deep.RegionHeld3
namespace Go.Proofs.YtkbghamkalidcaaGreat
open Go.RowKit

theorem limbs_join {lo a k : Nat} (ha : a ≠ 0) (hl : (Nl.limbs lo).length ≤ k) :
    Nl.limbs lo ++ (Nl.zeros (k - (Nl.limbs lo).length) ++ Nl.limbs a) = Nl.limbs (lo + 4294967296 ^ k * a) := by
  have hv : Nl.val (Nl.limbs lo ++ (Nl.zeros (k - (Nl.limbs lo).length) ++ Nl.limbs a)) = lo + 4294967296 ^ k * a := by
    rw [Nl.val_append, Nl.val_append, Nl.val_replicate, Nl.val_limbs, Nl.val_limbs, Nl.zeros_length, Nat.zero_add, ← Nat.mul_assoc, ← Nat.pow_add, show (Nl.limbs lo).length + (k - (Nl.limbs lo).length) = k from by omega]
  rw [← hv]
  refine (Nl.limbs_val ⟨Nl.small_append.2 ⟨Nl.limbs_small _, Nl.small_append.2 ⟨Nl.small_replicate _, Nl.limbs_small _⟩⟩, ?_⟩).symm
  rw [← List.append_assoc, List.getLast?_append]
  have h1 := Nl.limbs_last a
  cases h : (Nl.limbs a).getLast? with
  | none => rw [List.getLast?_eq_none_iff] at h; exact absurd (Nl.limbs_eq_nil.1 h) ha
  | some x => rw [h] at h1; simpa using h1

theorem splice_join (k : Nat) (lo a : List Nat) (h : lo.length ≤ k) : splice (lo ++ Nl.zeros (k + a.length - lo.length)) k a = lo ++ (Nl.zeros (k - lo.length) ++ a) := by
  have h1 : (lo ++ Nl.zeros (k + a.length - lo.length)).take k = lo ++ Nl.zeros (k - lo.length) := by
    rw [List.take_append, List.take_of_length_le h]
    simp only [Nl.zeros, List.take_replicate]
    rw [Nat.min_eq_left (by omega)]
  have h2 : (lo ++ Nl.zeros (k + a.length - lo.length)).drop (k + a.length) = [] := by
    apply List.drop_of_length_le
    rw [List.length_append, Nl.zeros_length]; omega
  rw [splice, h1, h2, List.append_nil, List.append_assoc]

set_option maxHeartbeats 1000000 in
theorem joined_any (va vl : Value) (a lo k : Nat) (w : World) (ha : IsN w va a) (hlo : IsN w vl lo) (hla : (Nl.limbs a).length ≤ 1000000) (hk : k ≤ 1000000) (hl : (Nl.limbs lo).length ≤ k) :
    Calls Tryz.prog 253 #[va, vl, .int .i64 k] w fun e w' => (∃ v, e = .returned v ∧ IsN w' v (lo + 4294967296 ^ k * a)) ∧ Below w.heap.size w w' := by
  have HA := Lib.hid ha
  have HL := Lib.hid hlo
  obtain ⟨aa, ca, rfl, -⟩ := ha.form
  obtain ⟨al, cl, rfl, -⟩ := hlo.form
  clear ha hlo
  by_cases hz : (Nl.limbs a).length = 0
  · have e0 : (((Nl.limbs a).length : Int) == 0) = true := by simp [hz]
    have HZ := Lib.hid hz
    clear hz
    go_enter Tryz.func253, Tryz.ntmps253
    go_wp2_with fail
    go_ret
    refine ⟨⟨_, rfl, ?_⟩, Below.refl _ _⟩
    rw [Nl.len_zero HZ.out, Nat.mul_zero, Nat.add_zero]
    exact HL.out
  have e0 : (((Nl.limbs a).length : Int) == 0) = false := by rw [beq_eq_false_iff_ne]; omega
  have ha0 : a ≠ 0 := by rintro rfl; rw [Nl.limbs_zero] at hz; exact hz rfl
  have hpos : 0 < (Nl.limbs a).length := by omega
  have hmk := make_words 183 Tryz.underlying183 w ((k : Int) + (Nl.limbs a).length) (k + (Nl.limbs a).length) (by omega) (by omega)
  have HZ := Lib.hid ha0
  clear hz ha0
  go_enter Tryz.func253, Tryz.ntmps253
  go_wp2_with (with_reducible refine wp_copy rfl (.tmp 17) (.tmp 18) 183 183 rfl Tryz.underlying183 _ _ _ _ _ _ rfl rfl w.heap.size 0 (Nl.zeros (k + (Nl.limbs a).length)) (Nl.limbs lo) (row_new w _) ?_ ?_ ?_ w.heap.size w ?_ ?_ ?_)
  · exact (Nat.min_eq_left (by omega)).symm
  · intro h0
    obtain ⟨b', f', h1, -, h2⟩ := (HL.out.alloc _).cells h0
    exact ⟨b', f', h1, h2⟩
  · rw [Nl.zeros_length]; omega
  · exact (Below.refl _ _).alloc (Nat.le_refl _) _
  · exact Nat.le_refl _
  intro w1 hr1 hb1
  rw [splice_zeros] at hr1
  clear hmk
  have hle : (Nl.limbs lo ++ Nl.zeros (k + (Nl.limbs a).length - (Nl.limbs lo).length)).length = k + (Nl.limbs a).length := by rw [List.length_append, Nl.zeros_length]; omega
  obtain ⟨Z, hZ⟩ : ∃ Z, Z = Nl.limbs lo ++ Nl.zeros (k + (Nl.limbs a).length - (Nl.limbs lo).length) := ⟨_, rfl⟩
  rw [← hZ] at hr1 hle
  have HZZ := Lib.hid hZ
  have HLE := Lib.hid hle
  clear hZ hle
  have hA1 : IsN w1 (.slice aa (Nl.limbs a).length ca) a := HA.out.below hb1
  have HA1 := Lib.hid hA1
  clear hA1
  have hcap : ¬ (Nl.limbs a = []) := by intro h; rw [h] at hpos; simp at hpos
  go_wp2_with (with_reducible refine wp_copy rfl (.tmp 22) (.tmp 23) 183 183 rfl Tryz.underlying183 _ _ _ _ _ _ rfl rfl w.heap.size k Z (Nl.limbs a) hr1.out ?_ ?_ ?_ w.heap.size w hb1 ?_ ?_)
  · exact (Nat.min_self _).symm
  · obtain ⟨b', f', h1, -, h2⟩ := HA1.out.cells hpos
    exact ⟨b', f', h1, h2⟩
  · rw [HLE.out]; omega
  · exact Nat.le_refl _
  intro w2 hr2 hb2
  rw [HZZ.out, splice_join _ _ _ hl, limbs_join HZ.out hl] at hr2
  have hl2 : (Nl.limbs (lo + 4294967296 ^ k * a)).length = k + (Nl.limbs a).length := by
    rw [← limbs_join HZ.out hl, List.length_append, List.length_append, Nl.zeros_length]; omega
  clear hr1
  have HL2 := Lib.hid hl2
  clear hl2
  go_wp2_with fail
  go_ret
  have hfin : Own w.heap.size w2 (.slice (some ⟨w.heap.size, 0, none⟩) (Nl.limbs (lo + 4294967296 ^ k * a)).length (Nl.limbs (lo + 4294967296 ^ k * a)).length) (Nl.limbs (lo + 4294967296 ^ k * a)) :=
    .inr ⟨_, _, rfl, Nat.le_refl _, hr2.out, List.take_of_length_le (Nat.le_refl _), Nat.le_refl _, by rw [HL2.out]; omega⟩
  rw [HL2.out] at hfin
  exact ⟨⟨_, rfl, hfin.at.at⟩, hb2⟩
end Go.Proofs.YtkbghamkalidcaaGreat

namespace Go.Proofs.YtkbghamkalidcaaGreat
open Go.RowKit

theorem two32 {r : Nat} (hr : r ≤ 32) : 4294967296 = 2 ^ (32 - r) * 2 ^ r := by rw [← Nat.pow_add, Nat.sub_add_cancel hr]
theorem shl_word {x r d : Nat} (hx : x < 4294967296) (hr : r ≤ 32) (hd : d < 2 ^ r) :
    (x * 2 ^ r % 4294967296) ||| d = x % 2 ^ (32 - r) * 2 ^ r + d ∧ x % 2 ^ (32 - r) * 2 ^ r + d < 4294967296 ∧ x / 2 ^ (32 - r) < 2 ^ r ∧
      x % 2 ^ (32 - r) * 2 ^ r + d + 4294967296 * (x / 2 ^ (32 - r)) = x * 2 ^ r + d := by
  have hW := two32 hr
  have e : x * 2 ^ r % 4294967296 = x % 2 ^ (32 - r) * 2 ^ r := by
    rw [hW, Nat.mul_mod_mul_right]
  rw [e]
  have p1 := Nat.two_pow_pos (32 - r)
  have m1 := Nat.mod_lt x p1
  have hs : x % 2 ^ (32 - r) * 2 ^ r + d < 4294967296 := by
    have : (x % 2 ^ (32 - r) + 1) * 2 ^ r ≤ 2 ^ (32 - r) * 2 ^ r := Nat.mul_le_mul_right _ m1
    rw [Nat.add_mul, Nat.one_mul, ← hW] at this
    omega
  refine ⟨nat_join r _ _ (Nat.mul_mod_left _ _) hd, hs, ?_, ?_⟩
  · exact Nat.div_lt_of_lt_mul (by rw [← hW]; exact hx)
  · have h1 := Nat.mod_add_div x (2 ^ (32 - r))
    have h2 : x * 2 ^ r = (x % 2 ^ (32 - r) + 2 ^ (32 - r) * (x / 2 ^ (32 - r))) * 2 ^ r := by rw [h1]
    have h3 : 2 ^ (32 - r) * (x / 2 ^ (32 - r)) * 2 ^ r = 4294967296 * (x / 2 ^ (32 - r)) := by rw [hW, Nat.mul_right_comm]
    rw [h2, Nat.add_mul, h3]
    omega
theorem zeros_drop (n k : Nat) : (Nl.zeros n).drop k = Nl.zeros (n - k) := by simp [Nl.zeros]
theorem zeros_take_val (n k : Nat) : Nl.val ((Nl.zeros n).take k) = 0 := by
  have : (Nl.zeros n).take k = Nl.zeros (min k n) := by simp [Nl.zeros, List.take_replicate]
  rw [this, Nl.val_replicate]
theorem shl_step {xs Z' : List Nat} {q r k d n s d' x : Nat} (hn : n = 32 * q + r) (hk : k < xs.length) (hx : x = xs.getD k 0) (hz : q + k < Z'.length)
    (hs : s + 4294967296 * d' = x * 2 ^ r + d) (hv : Nl.val (Z'.take (q + k)) + 4294967296 ^ (q + k) * d = Nl.val (xs.take k) * 2 ^ n) :
    Nl.val ((Z'.set (q + k) s).take (q + (k + 1))) + 4294967296 ^ (q + (k + 1)) * d' = Nl.val (xs.take (k + 1)) * 2 ^ n := by
  rw [← Nat.add_assoc, Nl.val_take_set _ _ _ hz, Nl.val_take_succ _ _ hk, ← hx, Nat.add_mul, ← hv]
  have e : 4294967296 ^ k * x * 2 ^ n = 4294967296 ^ (q + k) * (x * 2 ^ r) := by
    rw [hn, Nat.pow_add 2, ← pow32, Nat.pow_add]
    simp only [Nat.mul_assoc, Nat.mul_comm, Nat.mul_left_comm]
  rw [e, Nat.pow_succ, Nat.mul_assoc]
  have : 4294967296 ^ (q + k) * (s + 4294967296 * d') = 4294967296 ^ (q + k) * (x * 2 ^ r + d) := by rw [hs]
  rw [Nat.mul_add, Nat.mul_add] at this
  omega

set_option maxHeartbeats 1000000 in
theorem shiftedLeft_any (va : Value) (m n : Nat) (w : World) (ha : IsN w va m) (hla : (Nl.limbs m).length ≤ 1000000) (hn : n ≤ 64000000) :
    Calls Tryz.prog 172 #[va, .int .i64 n] w fun e w' => (∃ v, e = .returned v ∧ IsN w' v (m * 2 ^ n)) ∧ Below w.heap.size w w' := by
  have HA := Lib.hid ha
  obtain ⟨a, ca, rfl, fa⟩ := ha.form
  have FA := Lib.hid fa
  clear ha fa
  by_cases hz : (Nl.limbs m).length = 0
  · have e0 : (((Nl.limbs m).length : Int) == 0) = true := by simp [hz]
    have HZ := Lib.hid hz
    clear hz
    go_enter Tryz.func172, Tryz.ntmps172
    go_wp2_with fail
    go_ret
    refine ⟨⟨_, rfl, ?_⟩, Below.refl _ _⟩
    have hm := Nl.len_zero HZ.out
    have := HA.out
    rw [hm, Nat.zero_mul]
    rw [hm] at this
    exact this
  have e0 : (((Nl.limbs m).length : Int) == 0) = false := by rw [beq_eq_false_iff_ne]; omega
  by_cases hn0 : n = 0
  · subst hn0
    clear hz
    go_enter Tryz.func172, Tryz.ntmps172
    go_wp2_with fail
    go_ret
    refine ⟨⟨_, rfl, ?_⟩, Below.refl _ _⟩
    rw [Nat.pow_zero, Nat.mul_one]
    exact HA.out
  have e1 : ((n : Int) == 0) = false := by rw [beq_eq_false_iff_ne]; omega
  obtain ⟨q, hq⟩ : ∃ q, q = n / 32 := ⟨_, rfl⟩
  obtain ⟨r, hr⟩ : ∃ r, r = n % 32 := ⟨_, rfl⟩
  have hr32 : r < 32 := by omega
  have q1 : (n : Int) / 32 = (q : Int) := by omega
  have r1 : (n : Int) % 32 = (r : Int) := by omega
  have hq2 : q ≤ 2000000 := by omega
  have HN := Lib.hid (show n = 32 * q + r from by omega)
  have hmk := make_words 183 Tryz.underlying183 w ((q : Int) + (Nl.limbs m).length + 1) (q + (Nl.limbs m).length + 1) (by omega) (by omega)
  clear hz hn0 hq hr hn
  go_enter Tryz.func172, Tryz.ntmps172
  go_wp2_with fail
  clear hmk
  have hrow := row_new w (Nl.zeros (q + (Nl.limbs m).length + 1))
  have hb0 : Below w.heap.size w (w.alloc (.cells (vals (Nl.zeros (q + (Nl.limbs m).length + 1))).toArray 80)) := (Below.refl _ _).alloc (Nat.le_refl _) _
  have HR := Lib.hid hrow
  have HB := Lib.hid hb0
  clear hrow hb0
  go_loopw [8, 31] (fun c i wr => ∃ (k : Nat) (d : Nat) (Z' : List Nat), k ≤ (Nl.limbs m).length ∧ i = .int .i64 k ∧ c = .int .u32 (d : Int) ∧ d < 4294967296 ∧ Hid (d < 2 ^ r) ∧ Hid (Row wr w.heap.size Z') ∧ Hid (Below w.heap.size w wr) ∧ Hid (Z'.length = q + (Nl.limbs m).length + 1) ∧ Hid (Nl.Small Z') ∧
      Hid (Z'.drop (q + k) = Nl.zeros ((Nl.limbs m).length + 1 - k)) ∧ Hid (Nl.val (Z'.take (q + k)) + 4294967296 ^ (q + k) * d = Nl.val ((Nl.limbs m).take k) * 2 ^ n)) (fun _ i _ => ((Nl.limbs m).length - (intOf i).toNat))
  case atStart => exact ⟨0, 0, _, by omega, rfl, rfl, by omega, Nat.two_pow_pos r, HR, HB, by rw [Hid, Nl.zeros_length], Nl.small_replicate _, by rw [Hid, zeros_drop]; congr 1; omega, by simp [Hid, zeros_take_val]⟩
  case round =>
    obtain ⟨k, d, Z', hk, rfl, rfl, hd, hdr, hrow, hbel, hlen, hsm, hdz, hv⟩ := hrel
    by_cases hlt : k < (Nl.limbs m).length
    · rcases FA.out with fb | ⟨bb, ob, rfl, -, hcb, -, hbb, hcy⟩
      · rw [fb] at hlt; simp at hlt
      obtain ⟨x, hx⟩ : ∃ x, x = (Nl.limbs m).getD k 0 := ⟨_, rfl⟩
      have hx2 : x < 4294967296 := by rw [hx]; exact (Nl.limbs_small m).getD k
      have cx : wr.cell? ⟨bb, ob + k, none⟩ = some (.int .u32 (x : Int)) := by rw [hx]; exact (hbel.out.cell (p := ⟨bb, ob + k, none⟩) hbb).trans (hcy k hlt)
      obtain ⟨y, hy⟩ : ∃ y, y = Z'.getD (q + k) 0 := ⟨_, rfl⟩
      have cz := hrow.out.cell (i := q + k) (by rw [hlen.out]; omega)
      have fz := hrow.out.free (q + k)
      rw [← hy] at cz
      have Hx := Lib.hid hx
      clear hx hy hcy
      go_wp2
      go_roundw
      case rel =>
        obtain ⟨s1, s2, s3, s4⟩ := shl_word hx2 (by omega) hdr.out
        have e2 : bits BinOp.or IntKind.u32 ((x : Int) * 2 ^ r % 4294967296) (d : Int) = ((x % 2 ^ (32 - r) * 2 ^ r + d : Nat) : Int) := by
          rw [← s1, ← u32_or_nat _ _ (Nat.mod_lt _ (by decide)) hd]
          congr 1
        have e3 : (x : Int) / 2 ^ (32 - r) = ((x / 2 ^ (32 - r) : Nat) : Int) := by
          rw [Int.natCast_ediv]; rfl
        rw [e2, e3]
        refine ⟨k + 1, _, Z'.set (q + k) (x % 2 ^ (32 - r) * 2 ^ r + d), by omega, by go_num, rfl, ?_, s3, hrow.out.set _ _, hbel.out.setCell (Nat.le_refl _) _, ?_, ?_, ?_, ?_⟩
        · exact Nat.lt_of_le_of_lt (Nat.div_le_self _ _) hx2
        · simpa [Hid] using hlen.out
        · exact hsm.out.set _ s2
        · rw [Hid, ← Nat.add_assoc, Nl.drop_set_succ, ← List.drop_drop, hdz.out, zeros_drop]; congr 1
        · exact shl_step HN.out hlt Hx.out (by rw [hlen.out]; omega) s4 hv.out
      case measure => simp [intOf] <;> omega
    · obtain ⟨y, hy⟩ : ∃ y, y = Z'.getD (q + (Nl.limbs m).length) 0 := ⟨_, rfl⟩
      have cz := hrow.out.cell (i := q + (Nl.limbs m).length) (by rw [hlen.out]; omega)
      have fz := hrow.out.free (q + (Nl.limbs m).length)
      rw [← hy] at cz
      clear hy
      obtain ⟨w1, hw1⟩ : ∃ w1, w1 = wr.setCell ⟨w.heap.size, q + (Nl.limbs m).length, none⟩ (.int .u32 (d : Int)) := ⟨_, rfl⟩
      go_wp2_with fail
      rw [← hw1]
      have hr1 : Row w1 w.heap.size (Z'.set (q + (Nl.limbs m).length) d) := by rw [hw1]; exact hrow.out.set _ _
      have hb1 : Below w.heap.size w w1 := by rw [hw1]; exact hbel.out.setCell (Nat.le_refl _) _
      have hl1 : (Z'.set (q + (Nl.limbs m).length) d).length = q + (Nl.limbs m).length + 1 := by rw [List.length_set]; exact hlen.out
      refine (trimmed_row _ _ _ w1 hl1 hr1 (by omega)).mono ?_
      rintro e w2 ⟨rfl, rfl⟩
      clear hw1
      have HL1 := Lib.hid hl1
      clear hl1
      go_wp2_with fail
      go_ret
      refine ⟨⟨_, rfl, (Own.num (k := m * 2 ^ n) (Nat.le_refl _) hr1 HL1.out (by omega) (hsm.out.set _ hd) ?_).at.at⟩, hb1⟩
      have hv := hv.out
      have hk' : k = (Nl.limbs m).length := by omega
      subst hk'
      rw [Nl.val_take_all (xs := Nl.limbs m) (Nat.le_refl _), Nl.val_limbs] at hv
      rw [← hv, ← Nl.val_take_set _ _ _ (by rw [hlen.out]; omega), Nl.val_take_all (by rw [List.length_set, hlen.out]; omega)]


theorem getD_set_self (xs : List Nat) (k y : Nat) (h : k < xs.length) : (xs.set k y).getD k 0 = y := by simp [h]
theorem shr_word {x r V : Nat} (hx : x < 4294967296) (hr : r ≤ 32) :
    (x / 2 ^ r) ||| (V % 2 ^ r * 2 ^ (32 - r)) = x / 2 ^ r + V % 2 ^ r * 2 ^ (32 - r) ∧ x / 2 ^ r + V % 2 ^ r * 2 ^ (32 - r) < 4294967296 ∧
      x / 2 ^ r + V % 2 ^ r * 2 ^ (32 - r) + 4294967296 * (V / 2 ^ r) = (x + 4294967296 * V) / 2 ^ r ∧ x * 2 ^ (32 - r) % 4294967296 = (x + 4294967296 * V) % 2 ^ r * 2 ^ (32 - r) := by
  have hW := two32 hr
  have hW' : 4294967296 = 2 ^ r * 2 ^ (32 - r) := by rw [Nat.mul_comm]; exact hW
  have p1 := Nat.two_pow_pos r
  have m1 := Nat.mod_lt V p1
  have hd : x / 2 ^ r < 2 ^ (32 - r) := Nat.div_lt_of_lt_mul (by rw [← hW']; exact hx)
  refine ⟨?_, ?_, ?_, ?_⟩
  · rw [Nat.or_comm, nat_join (32 - r) _ _ (Nat.mul_mod_left _ _) hd, Nat.add_comm]
  · have : (V % 2 ^ r + 1) * 2 ^ (32 - r) ≤ 2 ^ r * 2 ^ (32 - r) := Nat.mul_le_mul_right _ m1
    rw [Nat.add_mul, Nat.one_mul, ← hW'] at this
    omega
  · have e : x + 4294967296 * V = x + 2 ^ r * (2 ^ (32 - r) * V) := by rw [← Nat.mul_assoc, ← hW']
    rw [e, Nat.add_mul_div_left _ _ p1]
    have h1 := Nat.mod_add_div V (2 ^ r)
    have h2 : 2 ^ (32 - r) * V = 2 ^ (32 - r) * (V % 2 ^ r + 2 ^ r * (V / 2 ^ r)) := by rw [h1]
    rw [h2, Nat.mul_add, ← Nat.mul_assoc, ← hW, Nat.mul_comm (2 ^ (32 - r)) (V % 2 ^ r)]
    omega
  · have e : x + 4294967296 * V = x + 2 ^ r * (2 ^ (32 - r) * V) := by rw [← Nat.mul_assoc, ← hW']
    rw [e, Nat.add_mul_mod_self_left]
    conv => lhs; rw [hW']
    rw [Nat.mul_mod_mul_right]

set_option maxHeartbeats 1000000 in
theorem shiftedRight_any (va : Value) (m n : Nat) (w : World) (ha : IsN w va m) (hla : (Nl.limbs m).length ≤ 1000000) (hn : n ≤ 9223372036854775807) :
    Calls Tryz.prog 174 #[va, .int .i64 n] w fun e w' => (∃ v, e = .returned v ∧ IsN w' v (m / 2 ^ n)) ∧ Below w.heap.size w w' := by
  obtain ⟨q, hq⟩ : ∃ q, q = n / 32 := ⟨_, rfl⟩
  obtain ⟨r, hr⟩ : ∃ r, r = n % 32 := ⟨_, rfl⟩
  have hr32 : r < 32 := by omega
  have q1 : (n : Int) / 32 = (q : Int) := by omega
  have r1 : (n : Int) % 32 = (r : Int) := by omega
  have hq2 : q ≤ 9223372036854775807 := by omega
  have HN := Lib.hid (show n = 32 * q + r from by omega)
  obtain ⟨M, hM⟩ : ∃ M, M = m / 4294967296 ^ q := ⟨_, rfl⟩
  have hMn : M / 2 ^ r = m / 2 ^ n := by rw [hM, pow32, Nat.div_div_eq_div_mul, ← Nat.pow_add, ← HN.out]
  have hlM : (Nl.limbs M).length ≤ 1000000 := Nat.le_trans (Nl.limbs_mono (by rw [hM]; exact Nat.div_le_self _ _)) hla
  have hab := above_num (fun _ => True) va m q w ha hq2
  rw [← hM] at hab
  have HAB := Lib.hid hab
  have HM := Lib.hid hMn
  clear hq hr hn hab hM hMn ha
  go_enter Tryz.func174, Tryz.ntmps174
  go_wp2_with fail
  refine HAB.out.mono ?_
  rintro e w' ⟨⟨v, rfl, hv⟩, rfl⟩
  have HA := Lib.hid (show IsN w v M from hv)
  obtain ⟨a, ca, rfl, fa⟩ := hv.form
  have FA := Lib.hid fa
  clear hv fa
  by_cases hr0 : r = 0
  · subst hr0
    go_wp2_with fail
    go_ret
    refine ⟨⟨_, rfl, ?_⟩, Below.refl _ _⟩
    rw [← HM.out, Nat.pow_zero, Nat.div_one]
    exact HA.out
  have e1 : ((r : Int) == 0) = false := by rw [beq_eq_false_iff_ne]; omega
  have hmk := make_words 183 Tryz.underlying183 w (Nl.limbs M).length ((Nl.limbs M).length) (by omega) (by omega)
  clear hr0
  go_wp2_with fail
  clear hmk
  have hrow := row_new w (Nl.zeros ((Nl.limbs M).length))
  have hb0 : Below w.heap.size w (w.alloc (.cells (vals (Nl.zeros ((Nl.limbs M).length))).toArray 80)) := (Below.refl _ _).alloc (Nat.le_refl _) _
  have HR := Lib.hid hrow
  have HB := Lib.hid hb0
  clear hrow hb0
  go_loopw [8, 9] (fun c i wr => ∃ (k : Nat) (d : Nat) (Z' : List Nat), k ≤ (Nl.limbs M).length ∧ i = .int .i64 ((k : Int) - 1) ∧ c = .int .u32 (d : Int) ∧ d < 4294967296 ∧ Hid (d = Nl.val ((Nl.limbs M).drop k) % 2 ^ r * 2 ^ (32 - r)) ∧ Hid (Row wr w.heap.size Z') ∧ Hid (Below w.heap.size w wr) ∧ Hid (Z'.length = (Nl.limbs M).length) ∧ Hid (Nl.Small Z') ∧
      Hid (Nl.val (Z'.drop k) = Nl.val ((Nl.limbs M).drop k) / 2 ^ r)) (fun _ i _ => (intOf i + 1).toNat)
  case atStart => exact ⟨(Nl.limbs M).length, 0, _, Nat.le_refl _, rfl, rfl, by omega, by simp [Hid], HR, HB, by rw [Hid, Nl.zeros_length], Nl.small_replicate _, by rw [Hid, zeros_drop, Nl.val_replicate]; simp⟩
  case round =>
    obtain ⟨k, d, Z', hk, rfl, rfl, hd, hdr, hrow, hbel, hlen, hsm, hv⟩ := hrel
    cases k with
    | zero =>
      go_wp2_with fail
      refine (trimmed_row _ _ _ wr hlen.out hrow.out (by omega)).mono ?_
      rintro e w2 ⟨rfl, rfl⟩
      go_wp2_with fail
      go_ret
      refine ⟨⟨_, rfl, (Own.num (k := m / 2 ^ n) (Nat.le_refl _) hrow.out hlen.out (by omega) hsm.out ?_).at.at⟩, hbel.out⟩
      have := hv.out
      rw [List.drop_zero, List.drop_zero, Nl.val_limbs, HM.out] at this
      exact this
    | succ k =>
      rw [show ((k + 1 : Nat) : Int) - 1 = (k : Int) from by omega]
      rcases FA.out with fb | ⟨bb, ob, rfl, -, hcb, -, hbb, hcy⟩
      · rw [fb] at hk; simp at hk
      obtain ⟨x, hx⟩ : ∃ x, x = (Nl.limbs M).getD k 0 := ⟨_, rfl⟩
      have hx2 : x < 4294967296 := by rw [hx]; exact (Nl.limbs_small M).getD k
      have cx : wr.cell? ⟨bb, ob + k, none⟩ = some (.int .u32 (x : Int)) := by rw [hx]; exact (hbel.out.cell (p := ⟨bb, ob + k, none⟩) hbb).trans (hcy k hk)
      obtain ⟨y, hy⟩ : ∃ y, y = Z'.getD k 0 := ⟨_, rfl⟩
      have cz := hrow.out.cell (i := k) (by rw [hlen.out]; omega)
      have fz := hrow.out.free k
      rw [← hy] at cz
      have Hx := Lib.hid hx
      clear hx hy hcy
      go_wp2
      go_roundw
      case rel =>
        obtain ⟨V, hV⟩ : ∃ V, V = Nl.val ((Nl.limbs M).drop (k + 1)) := ⟨_, rfl⟩
        have hVk : Nl.val ((Nl.limbs M).drop k) = x + 4294967296 * V := by rw [Nl.val_drop_succ _ _ hk, ← Hx.out, ← hV]
        obtain ⟨s1, s2, s3, s4⟩ := shr_word (V := V) hx2 (show r ≤ 32 by omega)
        have hdr := hdr.out
        have hv := hv.out
        rw [← hV] at hdr hv
        have e2 : bits BinOp.or IntKind.u32 ((x : Int) / 2 ^ r) (d : Int) = ((x / 2 ^ r + V % 2 ^ r * 2 ^ (32 - r) : Nat) : Int) := by
          rw [← s1, ← hdr, ← u32_or_nat _ _ (Nat.lt_of_le_of_lt (Nat.div_le_self _ _) hx2) hd]
          congr 1
        have e3 : (x : Int) * 2 ^ (32 - r) % 4294967296 = ((x * 2 ^ (32 - r) % 4294967296 : Nat) : Int) := by
          rw [Int.natCast_emod]; rfl
        rw [e2, e3]
        refine ⟨k, _, Z'.set k (x / 2 ^ r + V % 2 ^ r * 2 ^ (32 - r)), by omega, rfl, rfl, Nat.mod_lt _ (by decide), ?_, hrow.out.set _ _, hbel.out.setCell (Nat.le_refl _) _, ?_, ?_, ?_⟩
        · rw [Hid, s4, hVk]
        · simpa [Hid] using hlen.out
        · exact hsm.out.set _ s2
        · rw [Hid, Nl.val_drop_succ _ _ (by rw [List.length_set, hlen.out]; omega), Nl.drop_set_succ, hv, hVk, ← s3]
          rw [getD_set_self _ _ _ (by rw [hlen.out]; omega)]
      case measure => simp [intOf] <;> omega
end Go.Proofs.YtkbghamkalidcaaGreat

namespace Go.Proofs.YtkbghamkalidcaaGreat
open Go.RowKit

theorem decrease_nil (vb : Value) (w : World) (hb : At w vb []) :
    Calls Tryz.prog 231 #[.slice none 0 0, vb] w fun e w' => e = .returned (.tuple #[]) ∧ w = w' := by
  obtain ⟨b, cb, rfl, -⟩ := hb.form
  clear hb
  go_enter Tryz.func231, Tryz.ntmps231
  go_wp2
  go_rounds 1
  go_rounds 1
  go_end0
  exact ⟨rfl, rfl⟩

theorem Own.split {base : Nat} {w : World} {v : Value} {xs : List Nat} (h : Own base w v xs) : (v = .slice none 0 0 ∧ xs = []) ∨
    ∃ g L C, v = .slice (some ⟨g, 0, none⟩) xs.length L ∧ base ≤ g ∧ Row w g (xs ++ C) ∧ xs.length ≤ L ∧ L ≤ 9223372036854775807 ∧ (xs ++ C).length = L := by
  rcases h with h | ⟨g, L, h1, h2, h3, h4, h5, h6⟩
  · exact .inl h
  · refine .inr ⟨g, L.length, L.drop xs.length, h1, h2, ?_, h5, h6, ?_⟩
    · have h7 := List.take_append_drop xs.length L
      rw [h4] at h7
      rw [h7]; exact h3
    · rw [List.length_append, List.length_drop]; omega
theorem Own.mk {base : Nat} {w : World} {g L n : Nat} {xs C : List Nat} (hn : xs.length = n) (hb : base ≤ g) (hr : Row w g (xs ++ C)) (hL : L ≤ 9223372036854775807) (hl : (xs ++ C).length = L) :
    Own base w (.slice (some ⟨g, 0, none⟩) n L) xs := by
  subst hn; subst hl
  exact .inr ⟨g, _, rfl, hb, hr, List.take_left' rfl, by simp, hL⟩

/-- a difference in place, in a block that the call itself made -/
theorem decrease_own (base : Nat) (va vb : Value) (xs ys : List Nat) (w : World) (ha : Own base w va xs) (hb : AtP (· < base) w vb ys) (hx : Nl.Small xs) (hy : Nl.Small ys) (hl : ys.length ≤ xs.length) (hB : base ≤ w.heap.size) :
    Calls Tryz.prog 231 #[va, vb] w fun e w' => e = .returned (.tuple #[]) ∧ ∃ Z c, Own base w' va Z ∧ Z.length = xs.length ∧ Nl.Small Z ∧ Nl.val Z + Nl.val ys = Nl.val xs + 4294967296 ^ xs.length * c ∧ Below base w w' := by
  rcases ha.split with ⟨rfl, rfl⟩ | ⟨g, L, C, rfl, h1, h2, h3, h4, h5⟩
  · have hy0 : ys = [] := List.eq_nil_of_length_eq_zero (by simpa using hl)
    subst hy0
    refine (decrease_nil vb w hb.at).mono ?_
    rintro e w' ⟨rfl, rfl⟩
    exact ⟨rfl, [], 0, .inl ⟨rfl, rfl⟩, rfl, Nl.small_nil, by simp, Below.refl _ _⟩
  · refine (decrease_any g 0 L [] xs C ys vb w (by simpa using h2) rfl hx hy (hb.mono fun b _ hb => Nat.ne_of_lt (Nat.lt_of_lt_of_le hb h1)) hl h3 h4).mono ?_
    rintro e w' ⟨rfl, Z, c, ⟨r1, r2⟩, r3, r4, r5⟩
    refine ⟨rfl, Z, c, Own.mk r3 h1 (by simpa using r1) h4 (by rw [List.length_append, r3, ← List.length_append, h5]), r3, r4, r5, below_of_only (Below.refl _ _) r2 h1 hB⟩
end Go.Proofs.YtkbghamkalidcaaGreat

namespace Go.Proofs.YtkbghamkalidcaaGreat
open Go.RowKit

theorem getD_left {Z C : List Nat} {i : Nat} (h : i < Z.length) : (Z ++ C).getD i 0 = Z.getD i 0 := by
  have := Nl.getD_mid (A := []) (C := C) h
  simpa using this
theorem set_left {Z C : List Nat} {i y : Nat} (h : i < Z.length) : (Z ++ C).set i y = Z.set i y ++ C := by rw [List.set_append_left _ _ h]
theorem div_step {x r d V Q : Nat} (hV : V = d * Q + r) : x + 4294967296 * V = d * ((r * 4294967296 + x) / d + 4294967296 * Q) + (r * 4294967296 + x) % d := by
  have h := Nat.div_add_mod (r * 4294967296 + x) d
  rw [Nat.mul_add, hV, Nat.mul_left_comm d 4294967296 Q]
  omega

set_option maxHeartbeats 1000000 in
theorem divide_any (g n cap d : Nat) (Z C : List Nat) (w : World) (hn : Z.length = n) (hr : Row w g (Z ++ C)) (hZ : Nl.Small Z) (hzl : n ≤ cap) (hcap : cap ≤ 9223372036854775807) (hd : 0 < d) (hd2 : d < 4294967296) :
    Calls Tryz.prog 267 #[.slice (some ⟨g, 0, none⟩) n cap, .int .u32 d] w fun e w' => e = .returned (.int .u32 ((Nl.val Z % d : Nat) : Int)) ∧
      ∃ Z', Row w' g (Z' ++ C) ∧ Only g w w' ∧ Z'.length = n ∧ Nl.Small Z' ∧ Nl.val Z' = Nl.val Z / d := by
  have hM := Lib.hid (show Row w g (Z ++ C) ∧ Only g w w from ⟨hr, Only.refl g w⟩)
  have HNN := Lib.hid hn
  clear hr hn
  go_enter Tryz.func267, Tryz.ntmps267
  go_wp2
  go_loopw [5, 6] (fun c i wr => ∃ (k r : Nat) (Z' : List Nat), k ≤ n ∧ i = .int .i64 ((k : Int) - 1) ∧ c = .int .u64 (r : Int) ∧ r < d ∧ Hid (Row wr g (Z' ++ C) ∧ Only g w wr) ∧ Hid (Z'.length = n) ∧ Hid (Nl.Small Z') ∧ Hid (Z'.take k = Z.take k) ∧
      Hid (Nl.val (Z.drop k) = d * Nl.val (Z'.drop k) + r)) (fun _ i _ => (intOf i + 1).toNat)
  case atStart => exact ⟨n, 0, Z, Nat.le_refl _, rfl, rfl, hd, hM, HNN, hZ, rfl, by rw [Hid, List.drop_of_length_le (by rw [HNN.out]; omega)]; simp⟩
  case round =>
    obtain ⟨k, r, Z', hk, rfl, rfl, hrd, hm, hlen, hsm, htk, hv⟩ := hrel
    cases k with
    | zero =>
      go_wp2
      go_ret
      have hv := hv.out
      rw [List.drop_zero, List.drop_zero] at hv
      refine ⟨ret_int ?_, Z', hm.out.1, hm.out.2, hlen.out, hsm.out, ?_⟩
      · rw [hv, Nat.mul_add_mod, Nat.mod_eq_of_lt hrd]
      · rw [hv, Nat.mul_add_div hd, Nat.div_eq_of_lt hrd, Nat.add_zero]
    | succ k =>
      rw [show ((k + 1 : Nat) : Int) - 1 = (k : Int) from by omega]
      obtain ⟨x, hx⟩ : ∃ x, x = Z'.getD k 0 := ⟨_, rfl⟩
      have hx2 : x < 4294967296 := by rw [hx]; exact hsm.out.getD k
      have cx := hm.out.1.cell (i := k) (by rw [List.length_append, hlen.out]; omega)
      rw [getD_left (by rw [hlen.out]; omega), ← hx] at cx
      have fx := hm.out.1.free k
      have Hx := Lib.hid hx
      clear hx
      obtain ⟨s, hs⟩ : ∃ s, s = r * 4294967296 + x := ⟨_, rfl⟩
      have hb : bits BinOp.or IntKind.u64 ((r : Int) * 4294967296) (x : Int) = (s : Int) := by
        rw [show (r : Int) * 4294967296 = ((r * 4294967296 : Nat) : Int) from by omega, u64_or_nat _ _ (by omega) (by omega), nat_join 32 _ _ (by omega) (by omega), hs]
      have hs1 : s < 18446744073709551616 := by omega
      have hq : s / d < 4294967296 := Nat.div_lt_of_lt_mul (by
        have : (r + 1) * 4294967296 ≤ d * 4294967296 := Nat.mul_le_mul_right _ hrd
        omega)
      have hdz : ¬ ((d : Int) = 0) := by omega
      have hw : IntKind.u64.wrap ((s : Int) / (d : Int)) % 4294967296 = ((s / d : Nat) : Int) := by
        rw [IntKind.wrap_u64, show (s : Int) / (d : Int) = ((s / d : Nat) : Int) from rfl]
        generalize s / d = q at hq ⊢
        omega
      have HW := Lib.hid hw
      clear hw
      have HS := Lib.hid hs
      have HQ := Lib.hid hq
      clear hs hq
      go_wp2
      go_roundw
      case rel =>
        rw [HW.out, show (s : Int) % (d : Int) = ((s % d : Nat) : Int) from rfl]
        have hkl : k < Z'.length := by rw [hlen.out]; omega
        refine ⟨k, s % d, Z'.set k (s / d), by omega, rfl, rfl, Nat.mod_lt _ hd, ?_, ?_, ?_, ?_, ?_⟩
        · refine ⟨?_, grown_trans hm.out.2 (Only.setCell g _ _ _)⟩
          rw [← set_left hkl]; exact hm.out.1.set _ _
        · rw [Hid, List.length_set]; exact hlen.out
        · exact hsm.out.set _ HQ.out
        · rw [Hid, List.take_set_of_le (Nat.le_refl k)]
          have := congrArg (List.take k) htk.out
          rw [List.take_take, List.take_take, Nat.min_eq_left (by omega)] at this
          exact this
        · have hzx : Z.getD k 0 = x := by
            have := congrArg (fun l : List Nat => l.getD k 0) htk.out
            simp only [List.getD_eq_getElem?_getD, List.getElem?_take] at this
            rw [if_pos (by omega), if_pos (by omega)] at this
            rw [Hx.out]
            simpa using this.symm
          rw [Hid, Nl.val_drop_succ _ _ (by rw [HNN.out]; omega), hzx, Nl.val_drop_succ (Z'.set k (s / d)) _ (by rw [List.length_set]; exact hkl), Nl.drop_set_succ, HS.out]
          rw [show (Z'.set k ((r * 4294967296 + x) / d)).getD k 0 = (r * 4294967296 + x) / d from by simp [hkl]]
          exact div_step hv.out
      case measure => simp [intOf] <;> omega
end Go.Proofs.YtkbghamkalidcaaGreat
