/-
  What the reference's Trim does. What the reference's Add does. What the reference's Sub and Cmp do. What the reference's Of and the law's is do. Conditions: those that each theorem names.
-/
import Derived.Test.YtkbghamkalidcaaGreatRefAll
import Derived.Laws.AppendOwn
import Derived.OwnWalk
namespace Go.Proofs.YtkbghamkalidcaaGreat
open Go.RowKit

theorem atP_of_owns {base : Nat} {w : World} {v : Value} {xs : List Nat} (h : w.ownsRow base 80 1 v xs.length (vals xs)) : AtP (base ≤ ·) w v xs := by
  obtain ⟨_, ⟨rfl, h2⟩ | ⟨g, cap, cur, rfl, hb, hg, hc, hm, hs, ht⟩⟩ := h
  · exact .inl ⟨rfl, List.eq_nil_of_length_eq_zero h2⟩
  · refine .inr ⟨g, 0, cap, rfl, hb, hc, by simp only [maxLen] at hm; omega, lt_of_block hg, fun i hi => ?_⟩
    rw [Nat.zero_add]
    refine cell_of_row w g i cur _ _ hg |>.trans ?_
    have h1 : (cur.toList.take (xs.length * 1))[i]? = (vals xs)[i]? := by rw [ht]
    rw [List.getElem?_take, if_pos (by omega), vals_get hi] at h1
    rw [← h1]
    simp
theorem vals_take (xs : List Nat) (k : Nat) : vals (xs.take k) = (vals xs).take k := by simp [vals, List.map_take]
theorem infoWord4 : (Tryz.prog.info? 80).map (fun i => (i.zero, i.size, i.bytes)) = some (some (.int .u32 0), 1, 4) := infoWord

theorem owns_empty (w : World) : (w.alloc (.cells #[] 80)).ownsRow w.heap.size 80 1 (.slice (some ⟨w.heap.size, 0, none⟩) 0 0) 0 [] :=
  ⟨rfl, .inr ⟨w.heap.size, 0, #[], rfl, Nat.le_refl _, heap_alloc_new _ _, Nat.le_refl _, by simp [maxLen], rfl, rfl⟩⟩
theorem Cells.alloc {w : World} {b off : Nat} {xs : List Nat} (h : Cells w b off xs) (hb : b < w.heap.size) (o : Obj) : Cells (w.alloc o) b off xs :=
  h.below ((Below.refl _ _).alloc (Nat.le_refl _) _) hb
theorem vals_cells {w : World} {b off : Nat} {xs : List Nat} (h : Cells w b off xs) (k : Nat) (j : Nat) (u : Value) (hu : (vals (xs.take k))[j]? = some u) : w.cell? (Addr.add ⟨b, off, none⟩ j) = some u := by
  have hj := (List.getElem?_eq_some_iff.1 hu).1
  rw [vals_length] at hj
  rw [vals_get hj] at hu
  have hjx : j < xs.length := by rw [List.length_take] at hj; omega
  have e : (xs.take k).getD j 0 = xs.getD j 0 := by
    rw [List.length_take] at hj
    simp only [List.getD_eq_getElem?_getD, List.getElem?_take]
    rw [if_pos (by omega)]
  rw [e] at hu
  cases hu
  have := h j hjx
  unfold Addr.add
  split
  · next h0 => subst h0; exact this
  · exact this
theorem vals_cells' {w : World} {b off : Nat} {xs : List Nat} (h : Cells w b off xs) (k : Nat) (j : Nat) (u : Value) (hu : (vals (xs.take k))[j]? = some u) : w.cell? ⟨b, off + j, none⟩ = some u := by
  have := vals_cells h k j u hu
  unfold Addr.add at this
  split at this
  · next h0 => subst h0; exact this
  · exact this
theorem trim_result {w w1 : World} {v : Value} {xs ys : List Nat} {k : Nat} {row : Option Nat} (ho : w1.ownsRow w.heap.size 80 1 v k (vals (xs.take k))) (hg : (w.alloc (.cells #[] 80)).grownBy w1 row) (hrow : row = some w.heap.size) (hy : xs.take k = ys) (hk : k ≤ xs.length) :
    AtP (w.heap.size ≤ ·) w1 v ys ∧ Below w.heap.size w w1 := by
  have hl : k = ys.length := by rw [← hy, List.length_take]; omega
  rw [hy] at ho
  rw [hl] at ho
  refine ⟨atP_of_owns ho, ?_⟩
  have h1 : Below w.heap.size w (w.alloc (.cells #[] 80)) := (Below.refl _ _).alloc (Nat.le_refl _) _
  refine ⟨hg.os, hg.tape, hg.output, Nat.le_trans h1.size hg.size, fun q hq => ?_⟩
  rw [← h1.block q hq]
  exact hg.block q (by simp; omega) (by rw [hrow]; intro h; cases h; omega)

set_option maxHeartbeats 1000000 in
theorem refTrim_cells (b off cap : Nat) (xs : List Nat) (w : World) (h : Cells w b off xs) (hc : xs.length ≤ cap) (_hm : cap ≤ 9223372036854775807) (hb : b < w.heap.size) (hl : xs.length ≤ 1000000) :
    Calls Tryz.prog 130 #[.slice (some ⟨b, off, none⟩) xs.length cap] w fun e w' => (∃ v, e = .returned v ∧ AtP (w.heap.size ≤ ·) w' v (Nl.trim xs)) ∧ Below w.heap.size w w' := by
  obtain ⟨i0, hi, hz0, hz1, hz2⟩ := info_parts infoWord4
  have HI := Lib.hid (And.intro hi (And.intro hz0 (And.intro hz1 hz2)))
  have HC := Lib.hid h
  clear hi hz0 hz1 hz2 h
  go_enter Tryz.func130, Tryz.ntmps130
  go_wp2
  go_loop [3] (fun n => ∃ k : Nat, k ≤ xs.length ∧ n = .int .i64 k ∧ Hid (Nl.trim (xs.take k) = Nl.trim xs)) (fun n => (intOf n).toNat)
  case atStart => exact ⟨xs.length, Nat.le_refl _, rfl, by simp [Hid]⟩
  case round =>
    obtain ⟨k, hk, rfl, ht⟩ := hrel
    cases k with
    | zero =>
      have hz := Lib.hid (show Nl.trim xs = [] by have := ht.out; rw [List.take_zero] at this; rw [← this]; rfl)
      clear ht
      go_wp2
      go_ret
      rw [hz.out]
      exact ⟨⟨_, rfl, .inr ⟨w.heap.size, 0, 0, rfl, Nat.le_refl _, Nat.le_refl _, by decide, by simp, fun i hi => absurd hi (by simp)⟩⟩, (Below.refl _ _).alloc (Nat.le_refl _) _⟩
    | succ k =>
      obtain ⟨x, hx⟩ : ∃ x, x = xs.getD k 0 := ⟨_, rfl⟩
      have hcell := HC.out k (by omega)
      rw [← hx] at hcell
      have Hx := Lib.hid hx
      clear hx
      by_cases hz : x = 0
      · have hz1 : ((x : Int) == 0) = true := by rw [beq_iff_eq]; omega
        have HZ := Lib.hid hz
        clear hz
        go_wp2
        go_round
        case rel => exact ⟨k, by omega, by go_num, by rw [Hid, ← Nl.trim_take_zero (by omega) (by rw [← Hx.out, HZ.out])]; exact ht.out⟩
        case measure => simp [intOf] <;> omega
      · have hz1 : ((x : Int) == 0) = false := by rw [beq_eq_false_iff_ne]; omega
        have HT := Lib.hid (show xs.take (k + 1) = Nl.trim xs by
          have h1 := Nl.trim_take_some (xs := xs) (k := k) (by omega) (by rw [← Hx.out]; exact hz)
          rw [ht.out] at h1
          have h2 := Nl.trim_prefix xs
          rw [h1] at h2
          exact h2.symm)
        clear hz ht
        go_wp2_with (at_builtin; refine wpList_append_own _ rfl (.tmp 18) (.tmp 21) 23 rfl w.heap.size 80 i0 (.int .u32 0) 1 4 Tryz.underlying23 HI.out.1 HI.out.2.1 HI.out.2.2.1 HI.out.2.2.2 rfl (by decide) (.slice (some ⟨w.heap.size, 0, none⟩) 0 0) 0 [] rfl (owns_empty w) ⟨b, off, none⟩ (k + 1) cap (vals (xs.take (k + 1))) rfl ?_ ?_ ?_ ?_ ?_ ?_ ?_)
        · rw [vals_length, List.length_take]; omega
        · exact vals_cells' HC.out _
        · intro u hu
          obtain ⟨x, _, rfl⟩ := List.mem_map.1 hu
          rfl
        · simp only [maxLen]; omega
        · omega
        intro v' w1 ho hg _
        have hA := Lib.hid (trim_result ho hg rfl HT.out (by omega))
        clear ho hg
        go_wp2_with fail
        go_ret
        exact ⟨⟨v', rfl, hA.out.1⟩, hA.out.2⟩


theorem refTrim_nil (w : World) : Calls Tryz.prog 130 #[.slice none 0 0] w fun e w' => (∃ v, e = .returned v ∧ AtP (w.heap.size ≤ ·) w' v []) ∧ Below w.heap.size w w' := by
  go_enter Tryz.func130, Tryz.ntmps130
  go_wp2
  go_loop [3] (fun n => n = .int .i64 0) (fun _ => 0)
  case atStart => rfl
  case round =>
    obtain rfl := hrel
    go_wp2
    go_ret
    exact ⟨⟨_, rfl, .inr ⟨w.heap.size, 0, 0, rfl, Nat.le_refl _, Nat.le_refl _, by decide, by simp, fun i hi => absurd hi (by simp)⟩⟩, (Below.refl _ _).alloc (Nat.le_refl _) _⟩


theorem Nl.val_take_next (xs : List Nat) (k : Nat) : Nl.val (xs.take (k + 1)) = Nl.val (xs.take k) + 4294967296 ^ k * xs.getD k 0 := by
  by_cases h : k < xs.length
  · exact Nl.val_take_succ xs k h
  · rw [List.take_of_length_le (by omega), List.take_of_length_le (by omega), List.getD_eq_getElem?_getD, List.getElem?_eq_none (by omega)]
    simp
theorem val_snoc (zs : List Nat) (z : Nat) : Nl.val (zs ++ [z]) = Nl.val zs + 4294967296 ^ zs.length * z := by
  rw [Nl.val_append]; simp
theorem small_snoc {zs : List Nat} {z : Nat} (h : Nl.Small zs) (hz : z < 4294967296) : Nl.Small (zs ++ [z]) :=
  Nl.small_append.2 ⟨h, fun x hx => by simp at hx; omega⟩
theorem vals_snoc (zs : List Nat) (z : Nat) : vals (zs ++ [z]) = vals zs ++ [.int .u32 (z : Int)] := by simp [vals]

/-- one element of a sum -/
theorem sum_next {xs ys zs : List Nat} {k c : Nat} (hl : zs.length = k) (hv : Nl.val zs + 4294967296 ^ k * c = Nl.val (xs.take k) + Nl.val (ys.take k)) :
    Nl.val (zs ++ [(xs.getD k 0 + ys.getD k 0 + c) % 4294967296]) + 4294967296 ^ (k + 1) * ((xs.getD k 0 + ys.getD k 0 + c) / 4294967296) = Nl.val (xs.take (k + 1)) + Nl.val (ys.take (k + 1)) := by
  rw [val_snoc, Nl.val_take_next, Nl.val_take_next, hl, Nat.pow_succ, Nat.mul_assoc]
  have h := Nat.mod_add_div (xs.getD k 0 + ys.getD k 0 + c) 4294967296
  have h2 : 4294967296 ^ k * ((xs.getD k 0 + ys.getD k 0 + c) % 4294967296) + 4294967296 ^ k * (4294967296 * ((xs.getD k 0 + ys.getD k 0 + c) / 4294967296)) = 4294967296 ^ k * (xs.getD k 0 + ys.getD k 0 + c) := by
    rw [← Nat.mul_add, h]
  rw [Nat.mul_add, Nat.mul_add] at h2
  omega
theorem sum_end {xs ys zs : List Nat} {c K : Nat} (hx : Nl.Small xs) (hy : Nl.Small ys) (hz : Nl.Small zs) (hxl : xs.length ≤ K) (hyl : ys.length ≤ K) (hl : zs.length = K + 1)
    (hv : Nl.val zs + 4294967296 ^ (K + 1) * c = Nl.val (xs.take (K + 1)) + Nl.val (ys.take (K + 1))) : Nl.trim zs = Nl.limbs (Nl.val xs + Nl.val ys) := by
  rw [List.take_of_length_le (by omega), List.take_of_length_le (by omega)] at hv
  have h1 : Nl.val xs < 4294967296 ^ K := Nat.lt_of_lt_of_le (Nl.val_lt hx) (Nat.pow_le_pow_right (by decide) hxl)
  have h2 : Nl.val ys < 4294967296 ^ K := Nat.lt_of_lt_of_le (Nl.val_lt hy) (Nat.pow_le_pow_right (by decide) hyl)
  have h3 : c = 0 := by
    refine Nat.eq_zero_of_not_pos fun h => ?_
    have : 4294967296 ^ (K + 1) * 1 ≤ 4294967296 ^ (K + 1) * c := Nat.mul_le_mul_left _ h
    rw [Nat.pow_succ] at this hv
    omega
  rw [h3, Nat.mul_zero, Nat.add_zero] at hv
  rw [Nl.trim_eq hz, hv]

theorem refTrim_owns (base : Nat) (v : Value) (zs : List Nat) (w : World) (h : w.ownsRow base 80 1 v zs.length (vals zs)) (hl : zs.length ≤ 1000000) :
    Calls Tryz.prog 130 #[v] w fun e w' => (∃ v, e = .returned v ∧ AtP (w.heap.size ≤ ·) w' v (Nl.trim zs)) ∧ Below w.heap.size w w' := by
  rcases atP_of_owns h with ⟨rfl, rfl⟩ | ⟨b, off, cap, rfl, -, hc, hm, hb, hx⟩
  · exact refTrim_nil w
  · exact refTrim_cells b off cap zs w hx hc hm hb hl

theorem one_new_cell {w : World} {v u : Value} {t : TypeId} {j : Nat} (hj : [v][j]? = some u) : (w.alloc (.cells #[v] t)).cell? (Addr.add ⟨w.heap.size, 0, none⟩ j) = some u := by
  have h0 : j = 0 := by
    have := (List.getElem?_eq_some_iff.1 hj).1
    simp at this; exact this
  subst h0
  simp at hj
  rw [← hj]
  show (w.alloc (.cells #[v] t)).cell? ⟨w.heap.size, 0, none⟩ = some v
  exact cell_of_one (heap_alloc_new w _)
/-- behind an append to a slice of one's own -/
theorem grow_below {w wr w1 : World} {v : Value} {o : Obj} {e : TypeId} {size n : Nat} {xs : List Value} (hb : Below w.heap.size w wr) (ho : wr.ownsRow w.heap.size e size v n xs) (hg : (wr.alloc o).grownBy w1 v.ownBlock) : Below w.heap.size w w1 := by
  have h1 : Below wr.heap.size wr (wr.alloc o) := (Below.refl _ _).alloc (Nat.le_refl _) _
  have h2 := hb.trans (h1.mono hb.size)
  refine ⟨hg.os.trans h2.os, hg.tape.trans h2.tape, hg.output.trans h2.output, Nat.le_trans h2.size hg.size, fun q hq => ?_⟩
  rw [← h2.block q hq]
  refine hg.block q (Nat.lt_of_lt_of_le hq h2.size) ?_
  obtain ⟨_, ⟨rfl, _⟩ | ⟨g, cap, cur, rfl, hbg, _⟩⟩ := ho
  · intro h; cases h
  · intro h
    have : q = g := by simpa [Value.ownBlock] using h
    omega

set_option maxHeartbeats 2000000 in
theorem refAdd_any (va vb : Value) (xs ys : List Nat) (w : World) (ha : At w va xs) (hb : At w vb ys) (hsx : Nl.Small xs) (hsy : Nl.Small ys) (hla : xs.length ≤ 900000) (hlb : ys.length ≤ 900000) :
    Calls Tryz.prog 105 #[va, vb] w fun e w' => (∃ v, e = .returned v ∧ IsN w' v (Nl.val xs + Nl.val ys)) ∧ Below w.heap.size w w' := by
  obtain ⟨i0, hi, hz0, hz1, hz2⟩ := info_parts infoWord4
  have HI := Lib.hid (And.intro hi (And.intro hz0 (And.intro hz1 hz2)))
  have HA := Lib.hid ha
  have HB := Lib.hid hb
  obtain ⟨a, ca, rfl, -⟩ := ha.form
  obtain ⟨b, cb, rfl, -⟩ := hb.form
  clear ha hb hi hz0 hz1 hz2
  obtain ⟨K, hK⟩ : ∃ K, K = max xs.length ys.length := ⟨_, rfl⟩
  have hmax : max (xs.length : Int) (ys.length : Int) = (K : Int) := by omega
  have hK1 : xs.length ≤ K := by omega
  have hK2 : ys.length ≤ K := by omega
  have hK3 : K ≤ 900000 := by omega
  clear hK
  go_enter Tryz.func105, Tryz.ntmps105
  go_wp2_with fail
  go_loopw [5, 6, 7] (fun v c i wr => ∃ (k d : Nat) (zs : List Nat), k ≤ K + 1 ∧ i = .int .i64 k ∧ c = .int .u64 (d : Int) ∧ d ≤ 1 ∧ zs.length = k ∧ Hid (Nl.Small zs) ∧ Hid (wr.ownsRow w.heap.size 80 1 v k (vals zs)) ∧ Hid (Below w.heap.size w wr) ∧
      Hid (Nl.val zs + 4294967296 ^ k * d = Nl.val (xs.take k) + Nl.val (ys.take k))) (fun _ _ i _ => (K + 1 - (intOf i).toNat))
  case atStart => exact ⟨0, 0, [], by omega, rfl, rfl, by omega, rfl, Nl.small_nil, World.ownsRow_nil _ _ _ _, Below.refl _ _, by simp [Hid]⟩
  case round =>
    obtain ⟨k, d, zs, hk, rfl, rfl, hd, hlz, hsm, ho, hbel, hv⟩ := hrel
    by_cases hlt : k ≤ K
    · have t0 : decide ((k : Int) ≤ max (xs.length : Int) (ys.length : Int)) = true := by rw [decide_eq_true_eq, hmax]; omega
      have t1 : decide (k ≤ K) = true := decide_eq_true hlt
      obtain ⟨x, hx⟩ : ∃ x, x = xs.getD k 0 := ⟨_, rfl⟩
      obtain ⟨y, hy⟩ : ∃ y, y = ys.getD k 0 := ⟨_, rfl⟩
      have hx2 : x < 4294967296 := by rw [hx]; exact hsx.getD k
      have hy2 : y < 4294967296 := by rw [hy]; exact hsy.getD k
      have hca := at_any _ xs k wr (HA.out.below hbel.out) hsx
      have hcb := at_any _ ys k wr (HB.out.below hbel.out) hsy
      rw [← hx] at hca
      rw [← hy] at hcb
      have HCA := Lib.hid hca
      have HCB := Lib.hid hcb
      have HX := Lib.hid (And.intro hx hy)
      clear hca hcb hx hy
      have e1 : ((x : Int) + y + d) % 4294967296 = (((x + y + d) % 4294967296 : Nat) : Int) := by omega
      have e2 : ((x : Int) + y + d) / 4294967296 = (((x + y + d) / 4294967296 : Nat) : Int) := by omega
      have HE := Lib.hid (And.intro e1 e2)
      clear e1 e2
      go_wp2_with (first
        | (go_at_call_of 153 (Value.slice a xs.length ca); refine HCA.out.mono ?_; rintro e w' ⟨rfl, rfl⟩)
        | (go_at_call_of 153 (Value.slice b ys.length cb); refine HCB.out.mono ?_; rintro e w' ⟨rfl, rfl⟩)
        | (at_builtin; refine wpList_append_own _ rfl (.tmp 27) (.tmp 30) 23 rfl w.heap.size 80 i0 (.int .u32 0) 1 4 Tryz.underlying23 HI.out.1 HI.out.2.1 HI.out.2.2.1 HI.out.2.2.2 rfl (by decide) _ k (vals zs) rfl (ho.out.alloc _) ⟨wr.heap.size, 0, none⟩ 1 1 [.int .u32 (((x : Int) + y + d) % 4294967296)] rfl rfl ?_ ?_ ?_ ?_ ?_ ?_))
      · intro j u hj
        exact one_new_cell hj
      · intro u hu
        simp at hu
        rw [hu]; rfl
      · simp only [maxLen]; omega
      · omega
      · have := hbel.out.size; simp; omega
      intro v' w1 ho' hg' _
      rw [HE.out.1, ← vals_snoc] at ho'
      have hbel' := grow_below hbel.out ho.out hg'
      have HO := Lib.hid ho'
      have HBel := Lib.hid hbel'
      clear ho' hg' hbel' ho
      go_wp2_with fail
      go_roundw
      case rel =>
        refine ⟨k + 1, (x + y + d) / 4294967296, zs ++ [(x + y + d) % 4294967296], by omega, by go_num, ?_, by omega, by simp [hlz], small_snoc hsm.out (by omega), HO.out, HBel.out, ?_⟩
        · rw [← HE.out.2]
        · have := sum_next hlz hv.out
          rw [← HX.out.1, ← HX.out.2] at this
          exact this
      case measure => simp [intOf] <;> omega
    · have t0 : decide ((k : Int) ≤ max (xs.length : Int) (ys.length : Int)) = false := by rw [decide_eq_false_iff_not, hmax]; omega
      have hkk : k = K + 1 := by omega
      have ho1 := ho.out
      rw [← hlz] at ho1
      have htr := Lib.hid (refTrim_owns w.heap.size _ zs wr ho1 (by omega))
      have HE := Lib.hid (sum_end hsx hsy hsm.out hK1 hK2 (by rw [hlz, hkk]) (by rw [← hkk]; exact hv.out))
      clear ho1 hkk
      go_wp2_with fail
      refine htr.out.mono ?_
      rintro e w2 ⟨⟨u, rfl, hu⟩, hb2⟩
      rw [HE.out] at hu
      have HU := Lib.hid hu
      have HB2 := Lib.hid (hbel.out.trans (hb2.mono hbel.out.size))
      clear hu hb2
      go_wp2_with fail
      go_ret
      exact ⟨⟨u, rfl, HU.out.at⟩, HB2.out⟩


/-- one element of a difference -/
theorem sub_next {xs ys zs : List Nat} {k d s e : Nat} (hl : zs.length = k) (hv : Nl.val (xs.take k) + 4294967296 ^ k * d = Nl.val zs + Nl.val (ys.take k)) (hs : s + ys.getD k 0 + d = xs.getD k 0 + 4294967296 * e) :
    Nl.val (xs.take (k + 1)) + 4294967296 ^ (k + 1) * e = Nl.val (zs ++ [s]) + Nl.val (ys.take (k + 1)) := by
  rw [val_snoc, Nl.val_take_next, Nl.val_take_next, hl, Nat.pow_succ, Nat.mul_assoc]
  have h2 : 4294967296 ^ k * (s + ys.getD k 0 + d) = 4294967296 ^ k * (xs.getD k 0 + 4294967296 * e) := by rw [hs]
  rw [Nat.mul_add, Nat.mul_add, Nat.mul_add] at h2
  omega
theorem sub_word {x y d p q : Nat} (hx : x < 4294967296) (hy : y < 4294967296) (hd : d ≤ 1) (hp : p = (x + 18446744073709551616 - y) % 18446744073709551616) (hq : q = (p + 18446744073709551616 - d) % 18446744073709551616) :
    q % 4294967296 + y + d = x + 4294967296 * (q / 9223372036854775808) ∧ q / 9223372036854775808 ≤ 1 := by
  omega
theorem sub_end {xs ys zs : List Nat} {d : Nat} (hz : Nl.Small zs) (hl : zs.length = xs.length) (hyl : ys.length ≤ xs.length) (hle : Nl.val ys ≤ Nl.val xs)
    (hv : Nl.val (xs.take xs.length) + 4294967296 ^ xs.length * d = Nl.val zs + Nl.val (ys.take xs.length)) : Nl.trim zs = Nl.limbs (Nl.val xs - Nl.val ys) := by
  rw [List.take_of_length_le (Nat.le_refl _), List.take_of_length_le hyl] at hv
  have h1 : Nl.val zs < 4294967296 ^ xs.length := by rw [← hl]; exact Nl.val_lt hz
  have h3 : d = 0 := by
    refine Nat.eq_zero_of_not_pos fun h => ?_
    have : 4294967296 ^ xs.length * 1 ≤ 4294967296 ^ xs.length * d := Nat.mul_le_mul_left _ h
    omega
  rw [h3, Nat.mul_zero, Nat.add_zero] at hv
  rw [Nl.trim_eq hz, hv, Nat.add_sub_cancel]

theorem Nl.val_ext : ∀ (xs ys : List Nat), (∀ j, xs.getD j 0 = ys.getD j 0) → Nl.val xs = Nl.val ys
  | [], [], _ => rfl
  | x :: xs, [], h => by
    have h0 := h 0
    have := Nl.val_ext xs [] fun j => by simpa using h (j + 1)
    simp at h0 this
    rw [Nl.val_cons, this, h0]; rfl
  | [], y :: ys, h => by
    have h0 := h 0
    have := Nl.val_ext [] ys fun j => by simpa using h (j + 1)
    simp at h0 this
    rw [Nl.val_cons, ← this, ← h0]; rfl
  | x :: xs, y :: ys, h => by
    have h0 := h 0
    have := Nl.val_ext xs ys fun j => by simpa using h (j + 1)
    simp at h0
    rw [Nl.val_cons, Nl.val_cons, this, h0]
theorem getD_drop (xs : List Nat) (k j : Nat) : (xs.drop k).getD j 0 = xs.getD (k + j) 0 := by
  simp [List.getD_eq_getElem?_getD, List.getElem?_drop]
theorem Nl.val_split (xs : List Nat) (k : Nat) : Nl.val xs = Nl.val (xs.take k) + 4294967296 ^ k * (xs.getD k 0 + 4294967296 * Nl.val (xs.drop (k + 1))) := by
  by_cases h : k < xs.length
  · rw [← Nl.val_take_drop xs k (by omega), Nl.val_drop_succ xs k h]
  · rw [List.take_of_length_le (by omega), List.getD_eq_getElem?_getD, List.getElem?_eq_none (by omega), List.drop_eq_nil_of_le (by omega)]
    simp
theorem Nl.val_take_lt {xs : List Nat} (h : Nl.Small xs) (k : Nat) : Nl.val (xs.take k) < 4294967296 ^ k :=
  Nat.lt_of_lt_of_le (Nl.val_lt (h.take k)) (Nat.pow_le_pow_right (by decide) (List.length_take_le _ _))
/-- what is greater at the first place where two numbers differ is greater -/
theorem less_at {xs ys : List Nat} {k : Nat} (hx : Nl.Small xs) (hd : ∀ j, k + 1 ≤ j → xs.getD j 0 = ys.getD j 0) (h : xs.getD k 0 < ys.getD k 0) : Nl.val xs < Nl.val ys := by
  rw [Nl.val_split xs k, Nl.val_split ys k]
  have e : Nl.val (xs.drop (k + 1)) = Nl.val (ys.drop (k + 1)) := Nl.val_ext _ _ fun j => by rw [getD_drop, getD_drop]; exact hd _ (by omega)
  have h1 := Nl.val_take_lt hx k
  rw [e]
  have h2 : 4294967296 ^ k * (xs.getD k 0 + 4294967296 * Nl.val (ys.drop (k + 1)) + 1) ≤ 4294967296 ^ k * (ys.getD k 0 + 4294967296 * Nl.val (ys.drop (k + 1))) := Nat.mul_le_mul_left _ (by omega)
  rw [Nat.mul_add _ _ 1, Nat.mul_one] at h2
  omega

set_option maxHeartbeats 2000000 in
theorem refSub_any (va vb : Value) (xs ys : List Nat) (w : World) (ha : At w va xs) (hb : At w vb ys) (hsx : Nl.Small xs) (hsy : Nl.Small ys) (hla : xs.length ≤ 900000) (hlb : ys.length ≤ xs.length) (hle : Nl.val ys ≤ Nl.val xs) :
    Calls Tryz.prog 176 #[va, vb] w fun e w' => (∃ v, e = .returned v ∧ IsN w' v (Nl.val xs - Nl.val ys)) ∧ Below w.heap.size w w' := by
  obtain ⟨i0, hi, hz0, hz1, hz2⟩ := info_parts infoWord4
  have HI := Lib.hid (And.intro hi (And.intro hz0 (And.intro hz1 hz2)))
  have HA := Lib.hid ha
  have HB := Lib.hid hb
  have HLE := Lib.hid hle
  obtain ⟨a, ca, rfl, -⟩ := ha.form
  obtain ⟨b, cb, rfl, -⟩ := hb.form
  clear ha hb hi hz0 hz1 hz2 hle
  go_enter Tryz.func176, Tryz.ntmps176
  go_wp2_with fail
  go_loopw [5, 6, 7] (fun v c i wr => ∃ (k d : Nat) (zs : List Nat), k ≤ xs.length ∧ i = .int .i64 k ∧ c = .int .u64 (d : Int) ∧ d ≤ 1 ∧ zs.length = k ∧ Hid (Nl.Small zs) ∧ Hid (wr.ownsRow w.heap.size 80 1 v k (vals zs)) ∧ Hid (Below w.heap.size w wr) ∧
      Hid (Nl.val (xs.take k) + 4294967296 ^ k * d = Nl.val zs + Nl.val (ys.take k))) (fun _ _ i _ => (xs.length - (intOf i).toNat))
  case atStart => exact ⟨0, 0, [], by omega, rfl, rfl, by omega, rfl, Nl.small_nil, World.ownsRow_nil _ _ _ _, Below.refl _ _, by simp [Hid]⟩
  case round =>
    obtain ⟨k, d, zs, hk, rfl, rfl, hd, hlz, hsm, ho, hbel, hv⟩ := hrel
    by_cases hlt : k < xs.length
    · have t1 : decide (k < xs.length) = true := decide_eq_true hlt
      obtain ⟨x, hx⟩ : ∃ x, x = xs.getD k 0 := ⟨_, rfl⟩
      obtain ⟨y, hy⟩ : ∃ y, y = ys.getD k 0 := ⟨_, rfl⟩
      have hx2 : x < 4294967296 := by rw [hx]; exact hsx.getD k
      have hy2 : y < 4294967296 := by rw [hy]; exact hsy.getD k
      have hca := at_any _ xs k wr (HA.out.below hbel.out) hsx
      have hcb := at_any _ ys k wr (HB.out.below hbel.out) hsy
      rw [← hx] at hca
      rw [← hy] at hcb
      have HCA := Lib.hid hca
      have HCB := Lib.hid hcb
      have HX := Lib.hid (And.intro hx hy)
      clear hca hcb hx hy
      obtain ⟨p, hp⟩ : ∃ p, p = (x + 18446744073709551616 - y) % 18446744073709551616 := ⟨_, rfl⟩
      obtain ⟨q, hq⟩ : ∃ q, q = (p + 18446744073709551616 - d) % 18446744073709551616 := ⟨_, rfl⟩
      have hsw := sub_word hx2 hy2 hd hp hq
      have hp2 : p < 18446744073709551616 := by omega
      have hq2 : q < 18446744073709551616 := by omega
      have hw1 : IntKind.u64.wrap ((x : Int) - y) = (p : Int) := by rw [IntKind.wrap_u64]; omega
      have hw2 : IntKind.u64.wrap ((p : Int) - d) = (q : Int) := by rw [IntKind.wrap_u64]; omega
      have HW := Lib.hid hsw
      clear hsw hp hq
      go_wp2_with (first
        | (go_at_call_of 153 (Value.slice a xs.length ca); refine HCA.out.mono ?_; rintro e w' ⟨rfl, rfl⟩)
        | (go_at_call_of 153 (Value.slice b ys.length cb); refine HCB.out.mono ?_; rintro e w' ⟨rfl, rfl⟩)
        | (at_builtin; refine wpList_append_own _ rfl (.tmp 24) (.tmp 27) 23 rfl w.heap.size 80 i0 (.int .u32 0) 1 4 Tryz.underlying23 HI.out.1 HI.out.2.1 HI.out.2.2.1 HI.out.2.2.2 rfl (by decide) _ k (vals zs) rfl (ho.out.alloc _) ⟨wr.heap.size, 0, none⟩ 1 1 [.int .u32 ((q : Int) % 4294967296)] rfl rfl ?_ ?_ ?_ ?_ ?_ ?_))
      · intro j u hj
        exact one_new_cell hj
      · intro u hu
        simp at hu
        rw [hu]; rfl
      · simp only [maxLen]; omega
      · omega
      · have := hbel.out.size; simp; omega
      intro v' w1 ho' hg' _
      rw [show (q : Int) % 4294967296 = ((q % 4294967296 : Nat) : Int) by omega, ← vals_snoc] at ho'
      have hbel' := grow_below hbel.out ho.out hg'
      have HO := Lib.hid ho'
      have HBel := Lib.hid hbel'
      clear ho' hg' hbel' ho
      go_wp2_with fail
      go_roundw
      case rel =>
        refine ⟨k + 1, q / 9223372036854775808, zs ++ [q % 4294967296], by omega, by go_num, by go_num, HW.out.2, by simp [hlz], small_snoc hsm.out (by omega), HO.out, HBel.out, ?_⟩
        refine sub_next hlz hv.out ?_
        rw [← HX.out.1, ← HX.out.2]
        exact HW.out.1
      case measure => simp [intOf] <;> omega
    · have t1 : decide (k < xs.length) = false := decide_eq_false hlt
      have hkk : k = xs.length := by omega
      have ho1 := ho.out
      rw [← hlz] at ho1
      have htr := Lib.hid (refTrim_owns w.heap.size _ zs wr ho1 (by omega))
      have HE := Lib.hid (sub_end hsm.out (by rw [hlz, hkk]) hlb HLE.out (by rw [← hkk]; exact hv.out))
      clear ho1 hkk
      go_wp2_with fail
      refine htr.out.mono ?_
      rintro e w2 ⟨⟨u, rfl, hu⟩, hb2⟩
      rw [HE.out] at hu
      have HU := Lib.hid hu
      have HB2 := Lib.hid (hbel.out.trans (hb2.mono hbel.out.size))
      clear hu hb2
      go_wp2_with fail
      go_ret
      exact ⟨⟨u, rfl, HU.out.at⟩, HB2.out⟩

set_option maxHeartbeats 2000000 in
theorem refCmp_any (va vb : Value) (xs ys : List Nat) (w : World) (ha : At w va xs) (hb : At w vb ys) (hsx : Nl.Small xs) (hsy : Nl.Small ys) (hla : xs.length ≤ 900000) (hlb : ys.length ≤ 900000) :
    Calls Tryz.prog 175 #[va, vb] w fun e w' => e = .returned (.int .i64 (cmpI (Nl.val xs) (Nl.val ys))) ∧ w = w' := by
  have HA := Lib.hid ha
  have HB := Lib.hid hb
  obtain ⟨a, ca, rfl, -⟩ := ha.form
  obtain ⟨b, cb, rfl, -⟩ := hb.form
  clear ha hb
  obtain ⟨K, hK⟩ : ∃ K, K = max xs.length ys.length := ⟨_, rfl⟩
  have hmax : max (xs.length : Int) (ys.length : Int) = (K : Int) := by omega
  have hK1 : xs.length ≤ K := by omega
  have hK2 : ys.length ≤ K := by omega
  have hK3 : K ≤ 900000 := by omega
  clear hK
  go_enter Tryz.func175, Tryz.ntmps175
  go_wp2_with fail
  go_loop [5] (fun i => ∃ k : Nat, k ≤ K ∧ i = .int .i64 ((k : Int) - 1) ∧ Hid (∀ j, k ≤ j → xs.getD j 0 = ys.getD j 0)) (fun i => (intOf i + 1).toNat)
  case atStart =>
    refine ⟨K, Nat.le_refl _, by rw [← hmax], fun j hj => ?_⟩
    rw [List.getD_eq_getElem?_getD, List.getD_eq_getElem?_getD, List.getElem?_eq_none (by omega), List.getElem?_eq_none (by omega)]
  case round =>
    obtain ⟨k, hk, rfl, hd⟩ := hrel
    cases k with
    | zero =>
      have he := Lib.hid (Nl.val_ext xs ys fun j => hd.out j (Nat.zero_le _))
      go_wp2_with fail
      go_ret
      exact ⟨ret_int (by rw [he.out, cmpI_eq]), rfl⟩
    | succ k =>
      rw [show ((k + 1 : Nat) : Int) - 1 = (k : Int) from by omega]
      obtain ⟨x, hx⟩ : ∃ x, x = xs.getD k 0 := ⟨_, rfl⟩
      obtain ⟨y, hy⟩ : ∃ y, y = ys.getD k 0 := ⟨_, rfl⟩
      have hca := at_any _ xs k w HA.out hsx
      have hcb := at_any _ ys k w HB.out hsy
      rw [← hx] at hca
      rw [← hy] at hcb
      have HCA := Lib.hid hca
      have HCB := Lib.hid hcb
      have HX := Lib.hid (And.intro hx hy)
      clear hca hcb hx hy
      by_cases h1 : x < y
      · have t1 : decide (x < y) = true := decide_eq_true h1
        have hl := Lib.hid (less_at hsx (fun j hj => hd.out j hj) (by rw [← HX.out.1, ← HX.out.2]; exact h1))
        clear h1
        go_wp2_with (first
          | (go_at_call_of 153 (Value.slice a xs.length ca); refine HCA.out.mono ?_; rintro e w' ⟨rfl, rfl⟩)
          | (go_at_call_of 153 (Value.slice b ys.length cb); refine HCB.out.mono ?_; rintro e w' ⟨rfl, rfl⟩))
        go_ret
        exact ⟨ret_int (by rw [cmpI_lt (by have := hl.out; omega)]), rfl⟩
      · have t1 : decide (x < y) = false := decide_eq_false h1
        by_cases h2 : y < x
        · have t2 : decide (y < x) = true := decide_eq_true h2
          have hl := Lib.hid (less_at hsy (fun j hj => (hd.out j hj).symm) (by rw [← HX.out.1, ← HX.out.2]; exact h2))
          clear h1 h2
          go_wp2_with (first
            | (go_at_call_of 153 (Value.slice a xs.length ca); refine HCA.out.mono ?_; rintro e w' ⟨rfl, rfl⟩)
            | (go_at_call_of 153 (Value.slice b ys.length cb); refine HCB.out.mono ?_; rintro e w' ⟨rfl, rfl⟩))
          go_ret
          exact ⟨ret_int (by rw [cmpI_gt (by have := hl.out; omega)]), rfl⟩
        · have t2 : decide (y < x) = false := decide_eq_false h2
          have he := Lib.hid (show x = y by omega)
          clear h1 h2
          go_wp2_with (first
            | (go_at_call_of 153 (Value.slice a xs.length ca); refine HCA.out.mono ?_; rintro e w' ⟨rfl, rfl⟩)
            | (go_at_call_of 153 (Value.slice b ys.length cb); refine HCB.out.mono ?_; rintro e w' ⟨rfl, rfl⟩))
          go_round
          case rel =>
            refine ⟨k, by omega, by go_num, fun j hj => ?_⟩
            by_cases hjk : j = k
            · subst hjk; rw [← HX.out.1, ← HX.out.2]; exact he.out
            · exact hd.out j (by omega)
          case measure => simp [intOf] <;> omega


theorem refOf_any (x : Nat) (w : World) (hx : x < 18446744073709551616) : Calls Tryz.prog 106 #[.int .u64 x] w fun e w' => (∃ v, e = .returned v ∧ IsN w' v x) ∧ Below w.heap.size w w' := by
  have hxi : (x : Int) < 18446744073709551616 := by omega
  have e1 : (x : Int) % 4294967296 = ((x % 4294967296 : Nat) : Int) := by omega
  have e2 : (x : Int) / 4294967296 = ((x / 4294967296 : Nat) : Int) := by omega
  have hrow : Row (w.alloc (.cells #[.int .u32 ((x % 4294967296 : Nat) : Int), .int .u32 ((x / 4294967296 : Nat) : Int)] 80)) w.heap.size [x % 4294967296, x / 4294967296] := row_new w [x % 4294967296, x / 4294967296]
  have hb0 : Below w.heap.size w (w.alloc (.cells #[.int .u32 ((x % 4294967296 : Nat) : Int), .int .u32 ((x / 4294967296 : Nat) : Int)] 80)) := (Below.refl _ _).alloc (Nat.le_refl _) _
  have htr := refTrim_cells w.heap.size 0 2 [x % 4294967296, x / 4294967296] _ (hrow.cells (fun i hi => by simp at hi ⊢; omega)) (by simp) (by decide) hrow.lt (by simp)
  have hte : Nl.trim [x % 4294967296, x / 4294967296] = Nl.limbs x := by
    rw [Nl.trim_eq (by simp [Nl.Small]; omega)]
    congr 1
    simp; omega
  rw [hte] at htr
  rw [← e1, ← e2] at htr hb0
  have HT := Lib.hid htr
  have HB := Lib.hid hb0
  clear htr hb0 hrow hte e1 e2
  go_enter Tryz.func106, Tryz.ntmps106
  go_wp2_with fail
  refine HT.out.mono ?_
  rintro e w1 ⟨⟨v, rfl, hv⟩, hb1⟩
  have HV := Lib.hid hv
  have HB1 := Lib.hid (HB.out.trans (hb1.mono HB.out.size))
  clear hv hb1 HT
  go_wp2_with fail
  go_ret
  exact ⟨⟨v, rfl, HV.out.at⟩, HB1.out⟩

end Go.Proofs.YtkbghamkalidcaaGreat
