/-
  What the reference's Add does. Conditions: those that each theorem names.
-/
import Derived.Test.YtikgfdkaikpmhaaGreatRefTrim
namespace Go.Proofs.YtikgfdkaikpmhaaGreat
open Go.RowKit

theorem Nl.val_take_next (xs : List Nat) (k : Nat) : Nl.val (xs.take (k + 1)) = Nl.val (xs.take k) + 4294967296 ^ k * xs.getD k 0 := by
  by_cases h : k < xs.length
  · exact Nl.val_take_succ xs k h
  · rw [List.take_of_length_le (by omega), List.take_of_length_le (by omega), List.getD_eq_getElem?_getD, List.getElem?_eq_none (by omega)]
    simp
theorem val_snoc (zs : List Nat) (z : Nat) : Nl.val (zs ++ [z]) = Nl.val zs + 4294967296 ^ zs.length * z := by
  rw [Nl.val_append]; simp
theorem small_snoc {zs : List Nat} {z : Nat} (h : Nl.Small zs) (hz : z < 4294967296) : Nl.Small (zs ++ [z]) :=
  Nl.small_append.2 ⟨h, fun x hx => by simp at hx; omega⟩
theorem vals_snoc (zs : List Nat) (z : Nat) : vals (zs ++ [z]) = vals zs ++ [.int .u32 (z : Int)] := by simp [vals]

/-- one element of a sum -/
theorem sum_next {xs ys zs : List Nat} {k c : Nat} (hl : zs.length = k) (hv : Nl.val zs + 4294967296 ^ k * c = Nl.val (xs.take k) + Nl.val (ys.take k)) :
    Nl.val (zs ++ [(xs.getD k 0 + ys.getD k 0 + c) % 4294967296]) + 4294967296 ^ (k + 1) * ((xs.getD k 0 + ys.getD k 0 + c) / 4294967296) = Nl.val (xs.take (k + 1)) + Nl.val (ys.take (k + 1)) := by
  rw [val_snoc, Nl.val_take_next, Nl.val_take_next, hl, Nat.pow_succ, Nat.mul_assoc]
  have h := Nat.mod_add_div (xs.getD k 0 + ys.getD k 0 + c) 4294967296
  have h2 : 4294967296 ^ k * ((xs.getD k 0 + ys.getD k 0 + c) % 4294967296) + 4294967296 ^ k * (4294967296 * ((xs.getD k 0 + ys.getD k 0 + c) / 4294967296)) = 4294967296 ^ k * (xs.getD k 0 + ys.getD k 0 + c) := by
    rw [← Nat.mul_add, h]
  rw [Nat.mul_add, Nat.mul_add] at h2
  omega
theorem sum_end {xs ys zs : List Nat} {c K : Nat} (hx : Nl.Small xs) (hy : Nl.Small ys) (hz : Nl.Small zs) (hxl : xs.length ≤ K) (hyl : ys.length ≤ K) (hl : zs.length = K + 1)
    (hv : Nl.val zs + 4294967296 ^ (K + 1) * c = Nl.val (xs.take (K + 1)) + Nl.val (ys.take (K + 1))) : Nl.trim zs = Nl.limbs (Nl.val xs + Nl.val ys) := by
  rw [List.take_of_length_le (by omega), List.take_of_length_le (by omega)] at hv
  have h1 : Nl.val xs < 4294967296 ^ K := Nat.lt_of_lt_of_le (Nl.val_lt hx) (Nat.pow_le_pow_right (by decide) hxl)
  have h2 : Nl.val ys < 4294967296 ^ K := Nat.lt_of_lt_of_le (Nl.val_lt hy) (Nat.pow_le_pow_right (by decide) hyl)
  have h3 : c = 0 := by
    refine Nat.eq_zero_of_not_pos fun h => ?_
    have : 4294967296 ^ (K + 1) * 1 ≤ 4294967296 ^ (K + 1) * c := Nat.mul_le_mul_left _ h
    rw [Nat.pow_succ] at this hv
    omega
  rw [h3, Nat.mul_zero, Nat.add_zero] at hv
  rw [Nl.trim_eq hz, hv]

theorem refTrim_owns (base : Nat) (v : Value) (zs : List Nat) (w : World) (h : w.ownsRow base 59 1 v zs.length (vals zs)) (hl : zs.length ≤ 1000000) :
    Calls Tryz.prog 66 #[v] w fun e w' => (∃ v, e = .returned v ∧ AtP (w.heap.size ≤ ·) w' v (Nl.trim zs)) ∧ Below w.heap.size w w' := by
  rcases atP_of_owns h with ⟨rfl, rfl⟩ | ⟨b, off, cap, rfl, -, hc, hm, hb, hx⟩
  · exact refTrim_nil w
  · exact refTrim_cells b off cap zs w hx hc hm hb hl

theorem one_new_cell {w : World} {v u : Value} {t : TypeId} {j : Nat} (hj : [v][j]? = some u) : (w.alloc (.cells #[v] t)).cell? (Addr.add ⟨w.heap.size, 0, none⟩ j) = some u := by
  have h0 : j = 0 := by
    have := (List.getElem?_eq_some_iff.1 hj).1
    simp at this; exact this
  subst h0
  simp at hj
  rw [← hj]
  show (w.alloc (.cells #[v] t)).cell? ⟨w.heap.size, 0, none⟩ = some v
  exact cell_of_one (heap_alloc_new w _)
/-- behind an append to a slice of one's own -/
theorem grow_below {w wr w1 : World} {v : Value} {o : Obj} {e : TypeId} {size n : Nat} {xs : List Value} (hb : Below w.heap.size w wr) (ho : wr.ownsRow w.heap.size e size v n xs) (hg : (wr.alloc o).grownBy w1 v.ownBlock) : Below w.heap.size w w1 := by
  have h1 : Below wr.heap.size wr (wr.alloc o) := (Below.refl _ _).alloc (Nat.le_refl _) _
  have h2 := hb.trans (h1.mono hb.size)
  refine ⟨hg.os.trans h2.os, hg.tape.trans h2.tape, hg.output.trans h2.output, Nat.le_trans h2.size hg.size, fun q hq => ?_⟩
  rw [← h2.block q hq]
  refine hg.block q (Nat.lt_of_lt_of_le hq h2.size) ?_
  obtain ⟨_, ⟨rfl, _⟩ | ⟨g, cap, cur, rfl, hbg, _⟩⟩ := ho
  · intro h; cases h
  · intro h
    have : q = g := by simpa [Value.ownBlock] using h
    omega

set_option maxHeartbeats 2000000 in
theorem refAdd_any (va vb : Value) (xs ys : List Nat) (w : World) (ha : At w va xs) (hb : At w vb ys) (hsx : Nl.Small xs) (hsy : Nl.Small ys) (hla : xs.length ≤ 900000) (hlb : ys.length ≤ 900000) :
    Calls Tryz.prog 25 #[va, vb] w fun e w' => (∃ v, e = .returned v ∧ IsN w' v (Nl.val xs + Nl.val ys)) ∧ Below w.heap.size w w' := by
  obtain ⟨i0, hi, hz0, hz1, hz2⟩ := info_parts infoWord4
  have HI := Lib.hid (And.intro hi (And.intro hz0 (And.intro hz1 hz2)))
  have HA := Lib.hid ha
  have HB := Lib.hid hb
  obtain ⟨a, ca, rfl, -⟩ := ha.form
  obtain ⟨b, cb, rfl, -⟩ := hb.form
  clear ha hb hi hz0 hz1 hz2
  obtain ⟨K, hK⟩ : ∃ K, K = max xs.length ys.length := ⟨_, rfl⟩
  have hmax : max (xs.length : Int) (ys.length : Int) = (K : Int) := by omega
  have hK1 : xs.length ≤ K := by omega
  have hK2 : ys.length ≤ K := by omega
  have hK3 : K ≤ 900000 := by omega
  clear hK
  go_enter Tryz.func25, Tryz.ntmps25
  go_wp2_with fail
  go_loopw [5, 6, 7] (fun v c i wr => ∃ (k d : Nat) (zs : List Nat), k ≤ K + 1 ∧ i = .int .i64 k ∧ c = .int .u64 (d : Int) ∧ d ≤ 1 ∧ zs.length = k ∧ Hid (Nl.Small zs) ∧ Hid (wr.ownsRow w.heap.size 59 1 v k (vals zs)) ∧ Hid (Below w.heap.size w wr) ∧
      Hid (Nl.val zs + 4294967296 ^ k * d = Nl.val (xs.take k) + Nl.val (ys.take k))) (fun _ _ i _ => (K + 1 - (intOf i).toNat))
  case atStart => exact ⟨0, 0, [], by omega, rfl, rfl, by omega, rfl, Nl.small_nil, World.ownsRow_nil _ _ _ _, Below.refl _ _, by simp [Hid]⟩
  case round =>
    obtain ⟨k, d, zs, hk, rfl, rfl, hd, hlz, hsm, ho, hbel, hv⟩ := hrel
    by_cases hlt : k ≤ K
    · have t0 : decide ((k : Int) ≤ max (xs.length : Int) (ys.length : Int)) = true := by rw [decide_eq_true_eq, hmax]; omega
      have t1 : decide (k ≤ K) = true := decide_eq_true hlt
      obtain ⟨x, hx⟩ : ∃ x, x = xs.getD k 0 := ⟨_, rfl⟩
      obtain ⟨y, hy⟩ : ∃ y, y = ys.getD k 0 := ⟨_, rfl⟩
      have hx2 : x < 4294967296 := by rw [hx]; exact hsx.getD k
      have hy2 : y < 4294967296 := by rw [hy]; exact hsy.getD k
      have hca := at_any _ xs k wr (HA.out.below hbel.out) hsx
      have hcb := at_any _ ys k wr (HB.out.below hbel.out) hsy
      rw [← hx] at hca
      rw [← hy] at hcb
      have HCA := Lib.hid hca
      have HCB := Lib.hid hcb
      have HX := Lib.hid (And.intro hx hy)
      clear hca hcb hx hy
      have e1 : ((x : Int) + y + d) % 4294967296 = (((x + y + d) % 4294967296 : Nat) : Int) := by omega
      have e2 : ((x : Int) + y + d) / 4294967296 = (((x + y + d) / 4294967296 : Nat) : Int) := by omega
      have HE := Lib.hid (And.intro e1 e2)
      clear e1 e2
      go_wp2_with (first
        | (go_at_call_of 64 (Value.slice a xs.length ca); refine HCA.out.mono ?_; rintro e w' ⟨rfl, rfl⟩)
        | (go_at_call_of 64 (Value.slice b ys.length cb); refine HCB.out.mono ?_; rintro e w' ⟨rfl, rfl⟩)
        | (at_builtin; refine wpList_append_own _ rfl (.tmp 27) (.tmp 30) 23 rfl w.heap.size 59 i0 (.int .u32 0) 1 4 Tryz.underlying23 HI.out.1 HI.out.2.1 HI.out.2.2.1 HI.out.2.2.2 rfl (by decide) _ k (vals zs) rfl (ho.out.alloc _) ⟨wr.heap.size, 0, none⟩ 1 1 [.int .u32 (((x : Int) + y + d) % 4294967296)] rfl rfl ?_ ?_ ?_ ?_ ?_ ?_))
      · intro j u hj
        exact one_new_cell hj
      · intro u hu
        simp at hu
        rw [hu]; rfl
      · simp only [maxLen]; omega
      · omega
      · have := hbel.out.size; simp; omega
      intro v' w1 ho' hg' _
      rw [HE.out.1, ← vals_snoc] at ho'
      have hbel' := grow_below hbel.out ho.out hg'
      have HO := Lib.hid ho'
      have HBel := Lib.hid hbel'
      clear ho' hg' hbel' ho
      go_wp2_with fail
      go_roundw
      case rel =>
        refine ⟨k + 1, (x + y + d) / 4294967296, zs ++ [(x + y + d) % 4294967296], by omega, by go_num, ?_, by omega, by simp [hlz], small_snoc hsm.out (by omega), HO.out, HBel.out, ?_⟩
        · rw [← HE.out.2]
        · have := sum_next hlz hv.out
          rw [← HX.out.1, ← HX.out.2] at this
          exact this
      case measure => simp [intOf] <;> omega
    · have t0 : decide ((k : Int) ≤ max (xs.length : Int) (ys.length : Int)) = false := by rw [decide_eq_false_iff_not, hmax]; omega
      have hkk : k = K + 1 := by omega
      have ho1 := ho.out
      rw [← hlz] at ho1
      have htr := Lib.hid (refTrim_owns w.heap.size _ zs wr ho1 (by omega))
      have HE := Lib.hid (sum_end hsx hsy hsm.out hK1 hK2 (by rw [hlz, hkk]) (by rw [← hkk]; exact hv.out))
      clear ho1 hkk
      go_wp2_with fail
      refine htr.out.mono ?_
      rintro e w2 ⟨⟨u, rfl, hu⟩, hb2⟩
      rw [HE.out] at hu
      have HU := Lib.hid hu
      have HB2 := Lib.hid (hbel.out.trans (hb2.mono hbel.out.size))
      clear hu hb2
      go_wp2_with fail
      go_ret
      exact ⟨⟨u, rfl, HU.out.at⟩, HB2.out⟩
end Go.Proofs.YtikgfdkaikpmhaaGreat
