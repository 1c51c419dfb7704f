/-
  What increaseTimes and timesPairs do. Conditions: those that each theorem names.
-/
import Derived.Test.YtkbghamkalidcaaGreatSmallAll
namespace Go.Proofs.YtkbghamkalidcaaGreat
open Go.RowKit

/-- one step of a sum of products -/
theorem mul_step {Z Z' ys : List Nat} {k c x y s : Nat} (hl : Z'.length = Z.length) (hk : k < Z.length) (hky : k < ys.length) (hd : Z'.drop k = Z.drop k) (hy : y = ys.getD k 0)
    (hv : Nl.val (Z'.take k) + 4294967296 ^ k * c = Nl.val (Z.take k) + x * Nl.val (ys.take k)) (hs : s = x * y + Z'.getD k 0 + c) :
    Nl.val ((Z'.set k (s % 4294967296)).take (k + 1)) + 4294967296 ^ (k + 1) * (s / 4294967296) = Nl.val (Z.take (k + 1)) + x * Nl.val (ys.take (k + 1)) := by
  rw [Nl.val_take_set _ _ _ (by omega), Nl.val_take_succ _ _ hk, Nl.val_take_succ _ _ hky, ← Nl.getD_of_drop hd, Nat.pow_succ, Nat.mul_assoc, Nat.add_assoc, ← Nat.mul_add, Nat.mod_add_div, hs, ← hy]
  rw [Nat.mul_add, Nat.mul_add, Nat.mul_add, Nat.mul_left_comm x]
  omega

set_option maxHeartbeats 1000000 in
theorem increaseTimes_any (g off n cap x : Nat) (A Z C ys : List Nat) (vb : Value) (w : World) (hn : Z.length = n) (hr : Row w g (A ++ (Z ++ C))) (ho : off = A.length) (hZ : Nl.Small Z) (hys : Nl.Small ys)
    (hb : AtP (· ≠ g) w vb ys) (hl : ys.length ≤ n) (hzl : n ≤ cap) (_hcap : cap ≤ 9223372036854775807) (hx : x < 4294967296) :
    Calls Tryz.prog 271 #[.slice (some ⟨g, off, none⟩) n cap, vb, .int .u32 x] w fun e w' =>
      ∃ Z' c, e = .returned (.int .u32 ((c : Nat) : Int)) ∧ c < 4294967296 ∧ Mid w w' g A Z' C ∧ Z'.length = n ∧ Nl.Small Z' ∧ Z'.drop ys.length = Z.drop ys.length ∧
        Nl.val (Z'.take ys.length) + 4294967296 ^ ys.length * c = Nl.val (Z.take ys.length) + x * Nl.val ys := by
  have hM := Lib.hid (show Mid w w g A Z C from ⟨hr, Only.refl g w⟩)
  have HO := Lib.hid ho
  have HNN := Lib.hid hn
  have sb := hb.short
  obtain ⟨b, cb, rfl, fb⟩ := hb.form
  have FB := Lib.hid fb
  clear hr ho hb fb hn
  go_enter Tryz.func271, Tryz.ntmps271
  go_wp2
  go_loopw [7, 17] (fun c i wr => ∃ (k : Nat) (d : Nat) (Z' : List Nat), k ≤ ys.length ∧ i = .int .i64 k ∧ c = .int .u64 (d : Int) ∧ d < 4294967296 ∧ Hid (Mid w wr g A Z' C) ∧ Hid (Z'.length = Z.length) ∧ Hid (Nl.Small Z') ∧ Hid (Z'.drop k = Z.drop k) ∧
      Hid (Nl.val (Z'.take k) + 4294967296 ^ k * d = Nl.val (Z.take k) + x * Nl.val (ys.take k))) (fun _ i _ => (ys.length - (intOf i).toNat))
  case atStart => exact ⟨0, 0, Z, by omega, rfl, rfl, by omega, hM, rfl, hZ, rfl, by simp [Hid]⟩
  case round =>
    obtain ⟨k, d, Z', hk, rfl, rfl, hd, hm, hlen, hsm, hdr, hv⟩ := hrel
    by_cases hlt : k < ys.length
    · obtain ⟨y, hy⟩ : ∃ y, y = ys.getD k 0 := ⟨_, rfl⟩
      obtain ⟨z, hz⟩ : ∃ z, z = Z'.getD k 0 := ⟨_, rfl⟩
      have hz2 : z < 4294967296 := by rw [hz]; exact hsm.out.getD k
      have hy2 : y < 4294967296 := by rw [hy]; exact hys.getD k
      have cx := hm.out.cell HO.out (i := k) (by rw [hlen.out, HNN.out]; omega)
      rw [← hz] at cx
      have fx := hm.out.1.free (off + k)
      rcases FB.out with fb | ⟨bb, ob, rfl, hbg, hcb, -, hbb, hcy⟩
      · rw [fb] at hlt; simp at hlt
      have cy : wr.cell? ⟨bb, ob + k, none⟩ = some (.int .u32 (y : Int)) := by rw [hy]; exact hm.out.2.cell (hcy k hlt) (by simpa using hbg)
      have hp : x * y ≤ 4294967295 * 4294967295 := Nat.mul_le_mul (by omega) (by omega)
      have hpi : (x : Int) * (y : Int) = ((x * y : Nat) : Int) := by rw [Int.natCast_mul]
      obtain ⟨p, hpp⟩ : ∃ p, p = x * y := ⟨_, rfl⟩
      rw [← hpp] at hp hpi
      have Hz := Lib.hid hz
      have Hy := Lib.hid hy
      have Hp := Lib.hid hpp
      clear hz hy hcy hpp
      go_wp2
      go_roundw
      case rel =>
        have hs : p + z + d = x * y + Z'.getD k 0 + d := by rw [← Hz.out, Hp.out]
        refine ⟨k + 1, (p + z + d) / 4294967296, Z'.set k ((p + z + d) % 4294967296), by omega, by go_num, by go_num, by omega, hm.out.set HO.out (by rw [hlen.out, HNN.out]; omega) _, ?_, ?_, ?_, ?_⟩
        · simpa [Hid] using hlen.out
        · exact hsm.out.set _ (by omega)
        · rw [Hid, Nl.drop_set_succ]; exact Nl.drop_succ_of hdr.out
        · exact mul_step hlen.out (by rw [HNN.out]; omega) hlt hdr.out Hy.out hv.out hs
      case measure => simp [intOf] <;> omega
    · go_wp2
      go_ret
      refine ⟨Z', d, rfl, hd, hm.out, by rw [hlen.out, HNN.out], hsm.out, ?_, ?_⟩
      · have := hdr.out
        rw [show k = ys.length from by omega] at this
        exact this
      · have := hv.out
        rw [show k = ys.length from by omega, List.take_of_length_le (Nat.le_refl ys.length)] at this
        exact this

theorem zeros_drop' (n k : Nat) : (Nl.zeros n).drop k = Nl.zeros (n - k) := by simp [Nl.zeros]
/-- one round of a product: k words of the one number are done -/
theorem pair_step {Z Z' xs : List Nat} {k l c x n : Nat} (hk : k < xs.length) (hx : x = xs.getD k 0) (hZl : k + l < Z.length) (hz : Z.drop (k + l) = Nl.zeros (Z.length - (k + l)))
    (hl' : Z'.length = (Z.drop k).length) (hd : Z'.drop l = (Z.drop k).drop l) (hv : Nl.val (Z'.take l) + 4294967296 ^ l * c = Nl.val ((Z.drop k).take l) + x * n) (hV : Nl.val Z = Nl.val (xs.take k) * n) :
    Nl.val ((Z.take k ++ Z').set (k + l) c) = Nl.val (xs.take (k + 1)) * n ∧ ((Z.take k ++ Z').set (k + l) c).drop (k + 1 + l) = Nl.zeros (Z.length - (k + 1 + l)) := by
  have hk1 : k ≤ Z.length := by omega
  have hlk : (Z.take k).length = k := by rw [List.length_take, Nat.min_eq_left hk1]
  have hl2 : Z'.length = Z.length - k := by rw [hl', List.length_drop]
  have e1 : (Z.take k ++ Z').set (k + l) c = Z.take k ++ Z'.set l c := by
    rw [List.set_append_right _ _ (by omega), hlk, Nat.add_sub_cancel_left]
  have hzz : (Z.drop k).drop l = Nl.zeros (Z.length - (k + l)) := by rw [List.drop_drop, hz]
  have hdz : (Z'.set l c).drop (l + 1) = Nl.zeros (Z.length - (k + 1 + l)) := by
    rw [Nl.drop_set_succ, ← List.drop_drop, hd, hzz, zeros_drop']
    congr 1; omega
  have hv2 : Nl.val (Z'.set l c) = Nl.val ((Z.drop k).take l) + x * n := by
    have h1 := Nl.val_take_drop (Z'.set l c) (l + 1) (by rw [List.length_set]; omega)
    rw [hdz, Nl.val_replicate, Nat.mul_zero, Nat.add_zero, Nl.val_take_set _ _ _ (by omega)] at h1
    rw [← h1, hv]
  have hv3 : Nl.val Z = Nl.val (Z.take k) + 4294967296 ^ k * Nl.val ((Z.drop k).take l) := by
    rw [← Nl.val_take_drop Z k hk1]
    congr 2
    have h1 := Nl.val_take_drop (Z.drop k) l (by rw [List.length_drop]; omega)
    rw [hzz, Nl.val_replicate, Nat.mul_zero, Nat.add_zero] at h1
    exact h1.symm
  constructor
  · rw [e1, Nl.val_append, hlk, hv2, Nl.val_take_succ _ _ hk, ← hx, Nat.add_mul, ← hV, hv3, Nat.mul_add, Nat.mul_assoc, Nat.add_assoc]
  · rw [e1, List.drop_append, List.drop_of_length_le (by omega), List.nil_append, hlk, show k + 1 + l - k = l + 1 from by omega, hdz]

set_option maxHeartbeats 2000000 in
theorem timesPairs_any (va vb : Value) (m n : Nat) (w : World) (ha : IsN w va m) (hb : IsN w vb n) (hla : (Nl.limbs m).length ≤ 1000000) (hlb : (Nl.limbs n).length ≤ 1000000) :
    Calls Tryz.prog 265 #[va, vb] w fun e w' => (∃ v, e = .returned v ∧ Own w.heap.size w' v (Nl.limbs (m * n))) ∧ Below w.heap.size w w' := by
  have HA := Lib.hid ha
  have HB := Lib.hid hb
  obtain ⟨a, ca, rfl, fa⟩ := ha.form
  obtain ⟨b, cb, rfl, fb⟩ := hb.form
  have FXm := Lib.hid fa
  have FXn := Lib.hid fb
  clear ha hb fa fb
  by_cases hgt : (Nl.limbs n).length < (Nl.limbs m).length
  · by_cases hz : (Nl.limbs n).length = 0
    · have e0 : (((Nl.limbs n).length : Int) == 0) = true := by simp [hz]
      have HZ := Lib.hid hz
      clear hz
      go_enter Tryz.func265, Tryz.ntmps265
      go_wp2_with fail
      go_ret
      refine ⟨⟨_, rfl, .inl ⟨rfl, ?_⟩⟩, Below.refl _ _⟩
      rw [Nl.len_zero HZ.out, Nat.mul_zero, Nl.limbs_zero]
    have e0 : (((Nl.limbs n).length : Int) == 0) = false := by rw [beq_eq_false_iff_ne]; omega
    have hmk := make_words 183 Tryz.underlying183 w ((Nl.limbs n).length + (Nl.limbs m).length) ((Nl.limbs n).length + (Nl.limbs m).length) (by omega) (by omega)
    have hpos : 0 < (Nl.limbs m).length := by omega
    clear hz
    go_enter Tryz.func265, Tryz.ntmps265
    go_wp2_with fail
    clear hmk
    have hrow := row_new w (Nl.zeros ((Nl.limbs n).length + (Nl.limbs m).length))
    have hb0 : Below w.heap.size w (w.alloc (.cells (vals (Nl.zeros ((Nl.limbs n).length + (Nl.limbs m).length))).toArray 80)) := (Below.refl _ _).alloc (Nat.le_refl _) _
    have HR := Lib.hid hrow
    have HBL := Lib.hid hb0
    clear hrow hb0
    go_loopw [26] (fun i wr => ∃ (k : Nat) (Z : List Nat), k ≤ (Nl.limbs n).length ∧ i = .int .i64 k ∧ Hid (Row wr w.heap.size Z) ∧ Hid (Below w.heap.size w wr) ∧ Hid (Z.length = (Nl.limbs n).length + (Nl.limbs m).length) ∧ Hid (Nl.Small Z) ∧
        Hid (Z.drop (k + (Nl.limbs m).length) = Nl.zeros (Z.length - (k + (Nl.limbs m).length))) ∧ Hid (Nl.val Z = Nl.val ((Nl.limbs n).take k) * m)) (fun i _ => ((Nl.limbs n).length - (intOf i).toNat))
    case atStart => exact ⟨0, _, by omega, rfl, HR, HBL, Nl.zeros_length _, Nl.small_replicate _, by rw [Hid, zeros_drop', Nl.zeros_length], by simp [Hid, Nl.val_replicate]⟩
    case round =>
      obtain ⟨k, Z, hk, rfl, hrow, hbel, hlen, hsm, hdz, hv⟩ := hrel
      by_cases hlt : k < (Nl.limbs n).length
      · rcases FXn.out with fb | ⟨bb, ob, rfl, -, hcb, -, hbb, hcy⟩
        · rw [fb] at hlt; simp at hlt
        obtain ⟨x, hx⟩ : ∃ x, x = (Nl.limbs n).getD k 0 := ⟨_, rfl⟩
        have hx2 : x < 4294967296 := by rw [hx]; exact (Nl.limbs_small n).getD k
        have cx : wr.cell? ⟨bb, ob + k, none⟩ = some (.int .u32 (x : Int)) := by rw [hx]; exact (hbel.out.cell (p := ⟨bb, ob + k, none⟩) hbb).trans (hcy k hlt)
        have Hx := Lib.hid hx
        clear hx hcy
        have hcap : ¬ ((Nl.limbs n).length + (Nl.limbs m).length = k) := by omega
        go_wp2_with fail
        have hop : AtP (· ≠ w.heap.size) wr (.slice a (Nl.limbs m).length ca) (Nl.limbs m) := ((HA.out.mono fun b hb _ => (Nat.ne_of_lt hb : b ≠ w.heap.size)).below hbel.out)
        refine (increaseTimes_any w.heap.size k _ _ x (Z.take k) (Z.drop k) [] (Nl.limbs m) _ wr ?_ ?_ ?_ (hsm.out.drop k) (Nl.limbs_small _) hop ?_ (Nat.le_refl _) ?_ hx2).mono ?_
        · rw [List.length_drop, hlen.out]
        · rw [List.append_nil, List.take_append_drop]; exact hrow.out
        · rw [List.length_take, hlen.out]; omega
        · omega
        · omega
        rintro e w2 ⟨Z', c, rfl, hc, ⟨hr2, ho2⟩, hl2, hs2, hd2, hv2⟩
        rw [List.append_nil] at hr2
        have hll : (Z.take k ++ Z').length = (Nl.limbs n).length + (Nl.limbs m).length := by rw [List.length_append, List.length_take, hlen.out, hl2]; omega
        obtain ⟨y, hy⟩ : ∃ y, y = (Z.take k ++ Z').getD (k + (Nl.limbs m).length) 0 := ⟨_, rfl⟩
        have cz := hr2.cell (i := k + (Nl.limbs m).length) (by rw [hll]; omega)
        have fz := hr2.free (k + (Nl.limbs m).length)
        rw [← hy] at cz
        have hb2 := Lib.hid (below_of_only hbel.out ho2 (Nat.le_refl _) hbel.out.size)
        have HR2 := Lib.hid hr2
        have HL2 := Lib.hid hl2
        have HD2 := Lib.hid hd2
        have HV2 := Lib.hid hv2
        have HLL := Lib.hid hll
        clear hy hr2 ho2 hl2 hd2 hv2 hll hop
        go_wp2_with fail
        go_roundw
        case rel =>
          have hst := pair_step (Z := Z) (Z' := Z') (xs := Nl.limbs n) (k := k) (l := (Nl.limbs m).length) (c := c) (x := x) (n := m) hlt Hx.out (by rw [hlen.out]; omega) hdz.out (by rw [HL2.out, List.length_drop, hlen.out]) HD2.out (by have := HV2.out; rw [Nl.val_limbs] at this; exact this) hv.out
          refine ⟨k + 1, _, by omega, by go_num, HR2.out.set _ _, hb2.out.setCell (Nat.le_refl _) _, ?_, ?_, ?_, ?_⟩
          · rw [Hid, List.length_set]; exact HLL.out
          · exact (Nl.small_append.2 ⟨hsm.out.take k, hs2⟩).set _ hc
          · rw [Hid, hst.2, List.length_set, HLL.out, hlen.out]
          · exact hst.1
        case measure => simp [intOf] <;> omega
      · go_wp2_with fail
        refine (trimmed_row _ _ Z wr hlen.out hrow.out (by omega)).mono ?_
        rintro e w3 ⟨rfl, rfl⟩
        go_wp2_with fail
        go_ret
        refine ⟨⟨_, rfl, Own.num (k := m * n) (Nat.le_refl _) hrow.out hlen.out (by omega) hsm.out ?_⟩, hbel.out⟩
        have := hv.out
        rw [List.take_of_length_le (by omega), Nl.val_limbs] at this
        rw [this]; exact Nat.mul_comm _ _
  · have hgt2 : ¬ (((Nl.limbs n).length : Int) < ((Nl.limbs m).length : Int)) := by omega
    by_cases hz : (Nl.limbs m).length = 0
    · have e0 : (((Nl.limbs m).length : Int) == 0) = true := by simp [hz]
      have HZ := Lib.hid hz
      clear hz
      go_enter Tryz.func265, Tryz.ntmps265
      go_wp2_with fail
      go_ret
      refine ⟨⟨_, rfl, .inl ⟨rfl, ?_⟩⟩, Below.refl _ _⟩
      rw [Nl.len_zero HZ.out, Nat.zero_mul, Nl.limbs_zero]
    have e0 : (((Nl.limbs m).length : Int) == 0) = false := by rw [beq_eq_false_iff_ne]; omega
    have hmk := make_words 183 Tryz.underlying183 w ((Nl.limbs m).length + (Nl.limbs n).length) ((Nl.limbs m).length + (Nl.limbs n).length) (by omega) (by omega)
    have hpos : 0 < (Nl.limbs n).length := by omega
    clear hz
    go_enter Tryz.func265, Tryz.ntmps265
    go_wp2_with fail
    clear hmk
    have hrow := row_new w (Nl.zeros ((Nl.limbs m).length + (Nl.limbs n).length))
    have hb0 : Below w.heap.size w (w.alloc (.cells (vals (Nl.zeros ((Nl.limbs m).length + (Nl.limbs n).length))).toArray 80)) := (Below.refl _ _).alloc (Nat.le_refl _) _
    have HR := Lib.hid hrow
    have HBL := Lib.hid hb0
    clear hrow hb0
    go_loopw [26] (fun i wr => ∃ (k : Nat) (Z : List Nat), k ≤ (Nl.limbs m).length ∧ i = .int .i64 k ∧ Hid (Row wr w.heap.size Z) ∧ Hid (Below w.heap.size w wr) ∧ Hid (Z.length = (Nl.limbs m).length + (Nl.limbs n).length) ∧ Hid (Nl.Small Z) ∧
        Hid (Z.drop (k + (Nl.limbs n).length) = Nl.zeros (Z.length - (k + (Nl.limbs n).length))) ∧ Hid (Nl.val Z = Nl.val ((Nl.limbs m).take k) * n)) (fun i _ => ((Nl.limbs m).length - (intOf i).toNat))
    case atStart => exact ⟨0, _, by omega, rfl, HR, HBL, Nl.zeros_length _, Nl.small_replicate _, by rw [Hid, zeros_drop', Nl.zeros_length], by simp [Hid, Nl.val_replicate]⟩
    case round =>
      obtain ⟨k, Z, hk, rfl, hrow, hbel, hlen, hsm, hdz, hv⟩ := hrel
      by_cases hlt : k < (Nl.limbs m).length
      · rcases FXm.out with fb | ⟨bb, ob, rfl, -, hcb, -, hbb, hcy⟩
        · rw [fb] at hlt; simp at hlt
        obtain ⟨x, hx⟩ : ∃ x, x = (Nl.limbs m).getD k 0 := ⟨_, rfl⟩
        have hx2 : x < 4294967296 := by rw [hx]; exact (Nl.limbs_small m).getD k
        have cx : wr.cell? ⟨bb, ob + k, none⟩ = some (.int .u32 (x : Int)) := by rw [hx]; exact (hbel.out.cell (p := ⟨bb, ob + k, none⟩) hbb).trans (hcy k hlt)
        have Hx := Lib.hid hx
        clear hx hcy
        have hcap : ¬ ((Nl.limbs m).length + (Nl.limbs n).length = k) := by omega
        go_wp2_with fail
        have hop : AtP (· ≠ w.heap.size) wr (.slice b (Nl.limbs n).length cb) (Nl.limbs n) := ((HB.out.mono fun b hb _ => (Nat.ne_of_lt hb : b ≠ w.heap.size)).below hbel.out)
        refine (increaseTimes_any w.heap.size k _ _ x (Z.take k) (Z.drop k) [] (Nl.limbs n) _ wr ?_ ?_ ?_ (hsm.out.drop k) (Nl.limbs_small _) hop ?_ (Nat.le_refl _) ?_ hx2).mono ?_
        · rw [List.length_drop, hlen.out]
        · rw [List.append_nil, List.take_append_drop]; exact hrow.out
        · rw [List.length_take, hlen.out]; omega
        · omega
        · omega
        rintro e w2 ⟨Z', c, rfl, hc, ⟨hr2, ho2⟩, hl2, hs2, hd2, hv2⟩
        rw [List.append_nil] at hr2
        have hll : (Z.take k ++ Z').length = (Nl.limbs m).length + (Nl.limbs n).length := by rw [List.length_append, List.length_take, hlen.out, hl2]; omega
        obtain ⟨y, hy⟩ : ∃ y, y = (Z.take k ++ Z').getD (k + (Nl.limbs n).length) 0 := ⟨_, rfl⟩
        have cz := hr2.cell (i := k + (Nl.limbs n).length) (by rw [hll]; omega)
        have fz := hr2.free (k + (Nl.limbs n).length)
        rw [← hy] at cz
        have hb2 := Lib.hid (below_of_only hbel.out ho2 (Nat.le_refl _) hbel.out.size)
        have HR2 := Lib.hid hr2
        have HL2 := Lib.hid hl2
        have HD2 := Lib.hid hd2
        have HV2 := Lib.hid hv2
        have HLL := Lib.hid hll
        clear hy hr2 ho2 hl2 hd2 hv2 hll hop
        go_wp2_with fail
        go_roundw
        case rel =>
          have hst := pair_step (Z := Z) (Z' := Z') (xs := Nl.limbs m) (k := k) (l := (Nl.limbs n).length) (c := c) (x := x) (n := n) hlt Hx.out (by rw [hlen.out]; omega) hdz.out (by rw [HL2.out, List.length_drop, hlen.out]) HD2.out (by have := HV2.out; rw [Nl.val_limbs] at this; exact this) hv.out
          refine ⟨k + 1, _, by omega, by go_num, HR2.out.set _ _, hb2.out.setCell (Nat.le_refl _) _, ?_, ?_, ?_, ?_⟩
          · rw [Hid, List.length_set]; exact HLL.out
          · exact (Nl.small_append.2 ⟨hsm.out.take k, hs2⟩).set _ hc
          · rw [Hid, hst.2, List.length_set, HLL.out, hlen.out]
          · exact hst.1
        case measure => simp [intOf] <;> omega
      · go_wp2_with fail
        refine (trimmed_row _ _ Z wr hlen.out hrow.out (by omega)).mono ?_
        rintro e w3 ⟨rfl, rfl⟩
        go_wp2_with fail
        go_ret
        refine ⟨⟨_, rfl, Own.num (k := m * n) (Nat.le_refl _) hrow.out hlen.out (by omega) hsm.out ?_⟩, hbel.out⟩
        have := hv.out
        rw [List.take_of_length_le (by omega), Nl.val_limbs] at this
        rw [this]
end Go.Proofs.YtkbghamkalidcaaGreat
