/-
  What the reference's Sub and Cmp do. Conditions: those that each theorem names.
-/
import Derived.Test.YtikgfdkaikpmhaaGreatRefAdd
namespace Go.Proofs.YtikgfdkaikpmhaaGreat
open Go.RowKit

/-- one element of a difference -/
theorem sub_next {xs ys zs : List Nat} {k d s e : Nat} (hl : zs.length = k) (hv : Nl.val (xs.take k) + 4294967296 ^ k * d = Nl.val zs + Nl.val (ys.take k)) (hs : s + ys.getD k 0 + d = xs.getD k 0 + 4294967296 * e) :
    Nl.val (xs.take (k + 1)) + 4294967296 ^ (k + 1) * e = Nl.val (zs ++ [s]) + Nl.val (ys.take (k + 1)) := by
  rw [val_snoc, Nl.val_take_next, Nl.val_take_next, hl, Nat.pow_succ, Nat.mul_assoc]
  have h2 : 4294967296 ^ k * (s + ys.getD k 0 + d) = 4294967296 ^ k * (xs.getD k 0 + 4294967296 * e) := by rw [hs]
  rw [Nat.mul_add, Nat.mul_add, Nat.mul_add] at h2
  omega
theorem sub_word {x y d p q : Nat} (hx : x < 4294967296) (hy : y < 4294967296) (hd : d ≤ 1) (hp : p = (x + 18446744073709551616 - y) % 18446744073709551616) (hq : q = (p + 18446744073709551616 - d) % 18446744073709551616) :
    q % 4294967296 + y + d = x + 4294967296 * (q / 9223372036854775808) ∧ q / 9223372036854775808 ≤ 1 := by
  omega
theorem sub_end {xs ys zs : List Nat} {d : Nat} (hz : Nl.Small zs) (hl : zs.length = xs.length) (hyl : ys.length ≤ xs.length) (hle : Nl.val ys ≤ Nl.val xs)
    (hv : Nl.val (xs.take xs.length) + 4294967296 ^ xs.length * d = Nl.val zs + Nl.val (ys.take xs.length)) : Nl.trim zs = Nl.limbs (Nl.val xs - Nl.val ys) := by
  rw [List.take_of_length_le (Nat.le_refl _), List.take_of_length_le hyl] at hv
  have h1 : Nl.val zs < 4294967296 ^ xs.length := by rw [← hl]; exact Nl.val_lt hz
  have h3 : d = 0 := by
    refine Nat.eq_zero_of_not_pos fun h => ?_
    have : 4294967296 ^ xs.length * 1 ≤ 4294967296 ^ xs.length * d := Nat.mul_le_mul_left _ h
    omega
  rw [h3, Nat.mul_zero, Nat.add_zero] at hv
  rw [Nl.trim_eq hz, hv, Nat.add_sub_cancel]

theorem Nl.val_ext : ∀ (xs ys : List Nat), (∀ j, xs.getD j 0 = ys.getD j 0) → Nl.val xs = Nl.val ys
  | [], [], _ => rfl
  | x :: xs, [], h => by
    have h0 := h 0
    have := Nl.val_ext xs [] fun j => by simpa using h (j + 1)
    simp at h0 this
    rw [Nl.val_cons, this, h0]; rfl
  | [], y :: ys, h => by
    have h0 := h 0
    have := Nl.val_ext [] ys fun j => by simpa using h (j + 1)
    simp at h0 this
    rw [Nl.val_cons, ← this, ← h0]; rfl
  | x :: xs, y :: ys, h => by
    have h0 := h 0
    have := Nl.val_ext xs ys fun j => by simpa using h (j + 1)
    simp at h0
    rw [Nl.val_cons, Nl.val_cons, this, h0]
theorem getD_drop (xs : List Nat) (k j : Nat) : (xs.drop k).getD j 0 = xs.getD (k + j) 0 := by
  simp [List.getD_eq_getElem?_getD, List.getElem?_drop]
theorem Nl.val_split (xs : List Nat) (k : Nat) : Nl.val xs = Nl.val (xs.take k) + 4294967296 ^ k * (xs.getD k 0 + 4294967296 * Nl.val (xs.drop (k + 1))) := by
  by_cases h : k < xs.length
  · rw [← Nl.val_take_drop xs k (by omega), Nl.val_drop_succ xs k h]
  · rw [List.take_of_length_le (by omega), List.getD_eq_getElem?_getD, List.getElem?_eq_none (by omega), List.drop_eq_nil_of_le (by omega)]
    simp
theorem Nl.val_take_lt {xs : List Nat} (h : Nl.Small xs) (k : Nat) : Nl.val (xs.take k) < 4294967296 ^ k :=
  Nat.lt_of_lt_of_le (Nl.val_lt (h.take k)) (Nat.pow_le_pow_right (by decide) (List.length_take_le _ _))
/-- what is greater at the first place where two numbers differ is greater -/
theorem less_at {xs ys : List Nat} {k : Nat} (hx : Nl.Small xs) (hd : ∀ j, k + 1 ≤ j → xs.getD j 0 = ys.getD j 0) (h : xs.getD k 0 < ys.getD k 0) : Nl.val xs < Nl.val ys := by
  rw [Nl.val_split xs k, Nl.val_split ys k]
  have e : Nl.val (xs.drop (k + 1)) = Nl.val (ys.drop (k + 1)) := Nl.val_ext _ _ fun j => by rw [getD_drop, getD_drop]; exact hd _ (by omega)
  have h1 := Nl.val_take_lt hx k
  rw [e]
  have h2 : 4294967296 ^ k * (xs.getD k 0 + 4294967296 * Nl.val (ys.drop (k + 1)) + 1) ≤ 4294967296 ^ k * (ys.getD k 0 + 4294967296 * Nl.val (ys.drop (k + 1))) := Nat.mul_le_mul_left _ (by omega)
  rw [Nat.mul_add _ _ 1, Nat.mul_one] at h2
  omega

set_option maxHeartbeats 2000000 in
theorem refSub_any (va vb : Value) (xs ys : List Nat) (w : World) (ha : At w va xs) (hb : At w vb ys) (hsx : Nl.Small xs) (hsy : Nl.Small ys) (hla : xs.length ≤ 900000) (hlb : ys.length ≤ xs.length) (hle : Nl.val ys ≤ Nl.val xs) :
    Calls Tryz.prog 26 #[va, vb] w fun e w' => (∃ v, e = .returned v ∧ IsN w' v (Nl.val xs - Nl.val ys)) ∧ Below w.heap.size w w' := by
  obtain ⟨i0, hi, hz0, hz1, hz2⟩ := info_parts infoWord4
  have HI := Lib.hid (And.intro hi (And.intro hz0 (And.intro hz1 hz2)))
  have HA := Lib.hid ha
  have HB := Lib.hid hb
  have HLE := Lib.hid hle
  obtain ⟨a, ca, rfl, -⟩ := ha.form
  obtain ⟨b, cb, rfl, -⟩ := hb.form
  clear ha hb hi hz0 hz1 hz2 hle
  go_enter Tryz.func26, Tryz.ntmps26
  go_wp2_with fail
  go_loopw [5, 6, 7] (fun v c i wr => ∃ (k d : Nat) (zs : List Nat), k ≤ xs.length ∧ i = .int .i64 k ∧ c = .int .u64 (d : Int) ∧ d ≤ 1 ∧ zs.length = k ∧ Hid (Nl.Small zs) ∧ Hid (wr.ownsRow w.heap.size 59 1 v k (vals zs)) ∧ Hid (Below w.heap.size w wr) ∧
      Hid (Nl.val (xs.take k) + 4294967296 ^ k * d = Nl.val zs + Nl.val (ys.take k))) (fun _ _ i _ => (xs.length - (intOf i).toNat))
  case atStart => exact ⟨0, 0, [], by omega, rfl, rfl, by omega, rfl, Nl.small_nil, World.ownsRow_nil _ _ _ _, Below.refl _ _, by simp [Hid]⟩
  case round =>
    obtain ⟨k, d, zs, hk, rfl, rfl, hd, hlz, hsm, ho, hbel, hv⟩ := hrel
    by_cases hlt : k < xs.length
    · have t1 : decide (k < xs.length) = true := decide_eq_true hlt
      obtain ⟨x, hx⟩ : ∃ x, x = xs.getD k 0 := ⟨_, rfl⟩
      obtain ⟨y, hy⟩ : ∃ y, y = ys.getD k 0 := ⟨_, rfl⟩
      have hx2 : x < 4294967296 := by rw [hx]; exact hsx.getD k
      have hy2 : y < 4294967296 := by rw [hy]; exact hsy.getD k
      have hca := at_any _ xs k wr (HA.out.below hbel.out) hsx
      have hcb := at_any _ ys k wr (HB.out.below hbel.out) hsy
      rw [← hx] at hca
      rw [← hy] at hcb
      have HCA := Lib.hid hca
      have HCB := Lib.hid hcb
      have HX := Lib.hid (And.intro hx hy)
      clear hca hcb hx hy
      obtain ⟨p, hp⟩ : ∃ p, p = (x + 18446744073709551616 - y) % 18446744073709551616 := ⟨_, rfl⟩
      obtain ⟨q, hq⟩ : ∃ q, q = (p + 18446744073709551616 - d) % 18446744073709551616 := ⟨_, rfl⟩
      have hsw := sub_word hx2 hy2 hd hp hq
      have hp2 : p < 18446744073709551616 := by omega
      have hq2 : q < 18446744073709551616 := by omega
      have hw1 : IntKind.u64.wrap ((x : Int) - y) = (p : Int) := by rw [IntKind.wrap_u64]; omega
      have hw2 : IntKind.u64.wrap ((p : Int) - d) = (q : Int) := by rw [IntKind.wrap_u64]; omega
      have HW := Lib.hid hsw
      clear hsw hp hq
      go_wp2_with (first
        | (go_at_call_of 64 (Value.slice a xs.length ca); refine HCA.out.mono ?_; rintro e w' ⟨rfl, rfl⟩)
        | (go_at_call_of 64 (Value.slice b ys.length cb); refine HCB.out.mono ?_; rintro e w' ⟨rfl, rfl⟩)
        | (at_builtin; refine wpList_append_own _ rfl (.tmp 24) (.tmp 27) 23 rfl w.heap.size 59 i0 (.int .u32 0) 1 4 Tryz.underlying23 HI.out.1 HI.out.2.1 HI.out.2.2.1 HI.out.2.2.2 rfl (by decide) _ k (vals zs) rfl (ho.out.alloc _) ⟨wr.heap.size, 0, none⟩ 1 1 [.int .u32 ((q : Int) % 4294967296)] rfl rfl ?_ ?_ ?_ ?_ ?_ ?_))
      · intro j u hj
        exact one_new_cell hj
      · intro u hu
        simp at hu
        rw [hu]; rfl
      · simp only [maxLen]; omega
      · omega
      · have := hbel.out.size; simp; omega
      intro v' w1 ho' hg' _
      rw [show (q : Int) % 4294967296 = ((q % 4294967296 : Nat) : Int) by omega, ← vals_snoc] at ho'
      have hbel' := grow_below hbel.out ho.out hg'
      have HO := Lib.hid ho'
      have HBel := Lib.hid hbel'
      clear ho' hg' hbel' ho
      go_wp2_with fail
      go_roundw
      case rel =>
        refine ⟨k + 1, q / 9223372036854775808, zs ++ [q % 4294967296], by omega, by go_num, by go_num, HW.out.2, by simp [hlz], small_snoc hsm.out (by omega), HO.out, HBel.out, ?_⟩
        refine sub_next hlz hv.out ?_
        rw [← HX.out.1, ← HX.out.2]
        exact HW.out.1
      case measure => simp [intOf] <;> omega
    · have t1 : decide (k < xs.length) = false := decide_eq_false hlt
      have hkk : k = xs.length := by omega
      have ho1 := ho.out
      rw [← hlz] at ho1
      have htr := Lib.hid (refTrim_owns w.heap.size _ zs wr ho1 (by omega))
      have HE := Lib.hid (sub_end hsm.out (by rw [hlz, hkk]) hlb HLE.out (by rw [← hkk]; exact hv.out))
      clear ho1 hkk
      go_wp2_with fail
      refine htr.out.mono ?_
      rintro e w2 ⟨⟨u, rfl, hu⟩, hb2⟩
      rw [HE.out] at hu
      have HU := Lib.hid hu
      have HB2 := Lib.hid (hbel.out.trans (hb2.mono hbel.out.size))
      clear hu hb2
      go_wp2_with fail
      go_ret
      exact ⟨⟨u, rfl, HU.out.at⟩, HB2.out⟩

set_option maxHeartbeats 2000000 in
theorem refCmp_any (va vb : Value) (xs ys : List Nat) (w : World) (ha : At w va xs) (hb : At w vb ys) (hsx : Nl.Small xs) (hsy : Nl.Small ys) (hla : xs.length ≤ 900000) (hlb : ys.length ≤ 900000) :
    Calls Tryz.prog 23 #[va, vb] w fun e w' => e = .returned (.int .i64 (cmpI (Nl.val xs) (Nl.val ys))) ∧ w = w' := by
  have HA := Lib.hid ha
  have HB := Lib.hid hb
  obtain ⟨a, ca, rfl, -⟩ := ha.form
  obtain ⟨b, cb, rfl, -⟩ := hb.form
  clear ha hb
  obtain ⟨K, hK⟩ : ∃ K, K = max xs.length ys.length := ⟨_, rfl⟩
  have hmax : max (xs.length : Int) (ys.length : Int) = (K : Int) := by omega
  have hK1 : xs.length ≤ K := by omega
  have hK2 : ys.length ≤ K := by omega
  have hK3 : K ≤ 900000 := by omega
  clear hK
  go_enter Tryz.func23, Tryz.ntmps23
  go_wp2_with fail
  go_loop [5] (fun i => ∃ k : Nat, k ≤ K ∧ i = .int .i64 ((k : Int) - 1) ∧ Hid (∀ j, k ≤ j → xs.getD j 0 = ys.getD j 0)) (fun i => (intOf i + 1).toNat)
  case atStart =>
    refine ⟨K, Nat.le_refl _, by rw [← hmax], fun j hj => ?_⟩
    rw [List.getD_eq_getElem?_getD, List.getD_eq_getElem?_getD, List.getElem?_eq_none (by omega), List.getElem?_eq_none (by omega)]
  case round =>
    obtain ⟨k, hk, rfl, hd⟩ := hrel
    cases k with
    | zero =>
      have he := Lib.hid (Nl.val_ext xs ys fun j => hd.out j (Nat.zero_le _))
      go_wp2_with fail
      go_ret
      exact ⟨ret_int (by rw [he.out, cmpI_eq]), rfl⟩
    | succ k =>
      rw [show ((k + 1 : Nat) : Int) - 1 = (k : Int) from by omega]
      obtain ⟨x, hx⟩ : ∃ x, x = xs.getD k 0 := ⟨_, rfl⟩
      obtain ⟨y, hy⟩ : ∃ y, y = ys.getD k 0 := ⟨_, rfl⟩
      have hca := at_any _ xs k w HA.out hsx
      have hcb := at_any _ ys k w HB.out hsy
      rw [← hx] at hca
      rw [← hy] at hcb
      have HCA := Lib.hid hca
      have HCB := Lib.hid hcb
      have HX := Lib.hid (And.intro hx hy)
      clear hca hcb hx hy
      by_cases h1 : x < y
      · have t1 : decide (x < y) = true := decide_eq_true h1
        have hl := Lib.hid (less_at hsx (fun j hj => hd.out j hj) (by rw [← HX.out.1, ← HX.out.2]; exact h1))
        clear h1
        go_wp2_with (first
          | (go_at_call_of 64 (Value.slice a xs.length ca); refine HCA.out.mono ?_; rintro e w' ⟨rfl, rfl⟩)
          | (go_at_call_of 64 (Value.slice b ys.length cb); refine HCB.out.mono ?_; rintro e w' ⟨rfl, rfl⟩))
        go_ret
        exact ⟨ret_int (by rw [cmpI_lt (by have := hl.out; omega)]), rfl⟩
      · have t1 : decide (x < y) = false := decide_eq_false h1
        by_cases h2 : y < x
        · have t2 : decide (y < x) = true := decide_eq_true h2
          have hl := Lib.hid (less_at hsy (fun j hj => (hd.out j hj).symm) (by rw [← HX.out.1, ← HX.out.2]; exact h2))
          clear h1 h2
          go_wp2_with (first
            | (go_at_call_of 64 (Value.slice a xs.length ca); refine HCA.out.mono ?_; rintro e w' ⟨rfl, rfl⟩)
            | (go_at_call_of 64 (Value.slice b ys.length cb); refine HCB.out.mono ?_; rintro e w' ⟨rfl, rfl⟩))
          go_ret
          exact ⟨ret_int (by rw [cmpI_gt (by have := hl.out; omega)]), rfl⟩
        · have t2 : decide (y < x) = false := decide_eq_false h2
          have he := Lib.hid (show x = y by omega)
          clear h1 h2
          go_wp2_with (first
            | (go_at_call_of 64 (Value.slice a xs.length ca); refine HCA.out.mono ?_; rintro e w' ⟨rfl, rfl⟩)
            | (go_at_call_of 64 (Value.slice b ys.length cb); refine HCB.out.mono ?_; rintro e w' ⟨rfl, rfl⟩))
          go_round
          case rel =>
            refine ⟨k, by omega, by go_num, fun j hj => ?_⟩
            by_cases hjk : j = k
            · subst hjk; rw [← HX.out.1, ← HX.out.2]; exact he.out
            · exact hd.out j (by omega)
          case measure => simp [intOf] <;> omega
end Go.Proofs.YtikgfdkaikpmhaaGreat
