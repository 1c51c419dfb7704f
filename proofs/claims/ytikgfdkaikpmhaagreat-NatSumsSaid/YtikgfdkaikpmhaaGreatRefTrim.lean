/-
  What the reference's Trim does. Conditions: those that each theorem names.
-/
import Derived.Test.YtikgfdkaikpmhaaGreatRef
import Derived.Laws.AppendOwn
import Derived.OwnWalk
namespace Go.Proofs.YtikgfdkaikpmhaaGreat
open Go.RowKit

theorem atP_of_owns {base : Nat} {w : World} {v : Value} {xs : List Nat} (h : w.ownsRow base 59 1 v xs.length (vals xs)) : AtP (base ≤ ·) w v xs := by
  obtain ⟨_, ⟨rfl, h2⟩ | ⟨g, cap, cur, rfl, hb, hg, hc, hm, hs, ht⟩⟩ := h
  · exact .inl ⟨rfl, List.eq_nil_of_length_eq_zero h2⟩
  · refine .inr ⟨g, 0, cap, rfl, hb, hc, by simp only [maxLen] at hm; omega, lt_of_block hg, fun i hi => ?_⟩
    rw [Nat.zero_add]
    refine cell_of_row w g i cur _ _ hg |>.trans ?_
    have h1 : (cur.toList.take (xs.length * 1))[i]? = (vals xs)[i]? := by rw [ht]
    rw [List.getElem?_take, if_pos (by omega), vals_get hi] at h1
    rw [← h1]
    simp
theorem vals_take (xs : List Nat) (k : Nat) : vals (xs.take k) = (vals xs).take k := by simp [vals, List.map_take]
theorem infoWord4 : (Tryz.prog.info? 59).map (fun i => (i.zero, i.size, i.bytes)) = some (some (.int .u32 0), 1, 4) := infoWord

theorem owns_empty (w : World) : (w.alloc (.cells #[] 59)).ownsRow w.heap.size 59 1 (.slice (some ⟨w.heap.size, 0, none⟩) 0 0) 0 [] :=
  ⟨rfl, .inr ⟨w.heap.size, 0, #[], rfl, Nat.le_refl _, heap_alloc_new _ _, Nat.le_refl _, by simp [maxLen], rfl, rfl⟩⟩
theorem Cells.alloc {w : World} {b off : Nat} {xs : List Nat} (h : Cells w b off xs) (hb : b < w.heap.size) (o : Obj) : Cells (w.alloc o) b off xs :=
  h.below ((Below.refl _ _).alloc (Nat.le_refl _) _) hb
theorem vals_cells {w : World} {b off : Nat} {xs : List Nat} (h : Cells w b off xs) (k : Nat) (j : Nat) (u : Value) (hu : (vals (xs.take k))[j]? = some u) : w.cell? (Addr.add ⟨b, off, none⟩ j) = some u := by
  have hj := (List.getElem?_eq_some_iff.1 hu).1
  rw [vals_length] at hj
  rw [vals_get hj] at hu
  have hjx : j < xs.length := by rw [List.length_take] at hj; omega
  have e : (xs.take k).getD j 0 = xs.getD j 0 := by
    rw [List.length_take] at hj
    simp only [List.getD_eq_getElem?_getD, List.getElem?_take]
    rw [if_pos (by omega)]
  rw [e] at hu
  cases hu
  have := h j hjx
  unfold Addr.add
  split
  · next h0 => subst h0; exact this
  · exact this
theorem vals_cells' {w : World} {b off : Nat} {xs : List Nat} (h : Cells w b off xs) (k : Nat) (j : Nat) (u : Value) (hu : (vals (xs.take k))[j]? = some u) : w.cell? ⟨b, off + j, none⟩ = some u := by
  have := vals_cells h k j u hu
  unfold Addr.add at this
  split at this
  · next h0 => subst h0; exact this
  · exact this
theorem trim_result {w w1 : World} {v : Value} {xs ys : List Nat} {k : Nat} {row : Option Nat} (ho : w1.ownsRow w.heap.size 59 1 v k (vals (xs.take k))) (hg : (w.alloc (.cells #[] 59)).grownBy w1 row) (hrow : row = some w.heap.size) (hy : xs.take k = ys) (hk : k ≤ xs.length) :
    AtP (w.heap.size ≤ ·) w1 v ys ∧ Below w.heap.size w w1 := by
  have hl : k = ys.length := by rw [← hy, List.length_take]; omega
  rw [hy] at ho
  rw [hl] at ho
  refine ⟨atP_of_owns ho, ?_⟩
  have h1 : Below w.heap.size w (w.alloc (.cells #[] 59)) := (Below.refl _ _).alloc (Nat.le_refl _) _
  refine ⟨hg.os, hg.tape, hg.output, Nat.le_trans h1.size hg.size, fun q hq => ?_⟩
  rw [← h1.block q hq]
  exact hg.block q (by simp; omega) (by rw [hrow]; intro h; cases h; omega)

set_option maxHeartbeats 1000000 in
theorem refTrim_cells (b off cap : Nat) (xs : List Nat) (w : World) (h : Cells w b off xs) (hc : xs.length ≤ cap) (hm : cap ≤ 9223372036854775807) (hb : b < w.heap.size) (hl : xs.length ≤ 1000000) :
    Calls Tryz.prog 66 #[.slice (some ⟨b, off, none⟩) xs.length cap] w fun e w' => (∃ v, e = .returned v ∧ AtP (w.heap.size ≤ ·) w' v (Nl.trim xs)) ∧ Below w.heap.size w w' := by
  obtain ⟨i0, hi, hz0, hz1, hz2⟩ := info_parts infoWord4
  have HI := Lib.hid (And.intro hi (And.intro hz0 (And.intro hz1 hz2)))
  have HC := Lib.hid h
  clear hi hz0 hz1 hz2 h
  go_enter Tryz.func66, Tryz.ntmps66
  go_wp2
  go_loop [3] (fun n => ∃ k : Nat, k ≤ xs.length ∧ n = .int .i64 k ∧ Hid (Nl.trim (xs.take k) = Nl.trim xs)) (fun n => (intOf n).toNat)
  case atStart => exact ⟨xs.length, Nat.le_refl _, rfl, by simp [Hid]⟩
  case round =>
    obtain ⟨k, hk, rfl, ht⟩ := hrel
    cases k with
    | zero =>
      have hz := Lib.hid (show Nl.trim xs = [] by have := ht.out; rw [List.take_zero] at this; rw [← this]; rfl)
      clear ht
      go_wp2
      go_ret
      rw [hz.out]
      exact ⟨⟨_, rfl, .inr ⟨w.heap.size, 0, 0, rfl, Nat.le_refl _, Nat.le_refl _, by decide, by simp, fun i hi => absurd hi (by simp)⟩⟩, (Below.refl _ _).alloc (Nat.le_refl _) _⟩
    | succ k =>
      obtain ⟨x, hx⟩ : ∃ x, x = xs.getD k 0 := ⟨_, rfl⟩
      have hcell := HC.out k (by omega)
      rw [← hx] at hcell
      have Hx := Lib.hid hx
      clear hx
      by_cases hz : x = 0
      · have hz1 : ((x : Int) == 0) = true := by rw [beq_iff_eq]; omega
        have HZ := Lib.hid hz
        clear hz
        go_wp2
        go_round
        case rel => exact ⟨k, by omega, by go_num, by rw [Hid, ← Nl.trim_take_zero (by omega) (by rw [← Hx.out, HZ.out])]; exact ht.out⟩
        case measure => simp [intOf] <;> omega
      · have hz1 : ((x : Int) == 0) = false := by rw [beq_eq_false_iff_ne]; omega
        have HT := Lib.hid (show xs.take (k + 1) = Nl.trim xs by
          have h1 := Nl.trim_take_some (xs := xs) (k := k) (by omega) (by rw [← Hx.out]; exact hz)
          rw [ht.out] at h1
          have h2 := Nl.trim_prefix xs
          rw [h1] at h2
          exact h2.symm)
        clear hz ht
        go_wp2_with (at_builtin; refine wpList_append_own _ rfl (.tmp 18) (.tmp 21) 23 rfl w.heap.size 59 i0 (.int .u32 0) 1 4 Tryz.underlying23 HI.out.1 HI.out.2.1 HI.out.2.2.1 HI.out.2.2.2 rfl (by decide) (.slice (some ⟨w.heap.size, 0, none⟩) 0 0) 0 [] rfl (owns_empty w) ⟨b, off, none⟩ (k + 1) cap (vals (xs.take (k + 1))) rfl ?_ ?_ ?_ ?_ ?_ ?_ ?_)
        · rw [vals_length, List.length_take]; omega
        · exact vals_cells' HC.out _
        · intro u hu
          obtain ⟨x, _, rfl⟩ := List.mem_map.1 hu
          rfl
        · simp only [maxLen]; omega
        · omega
        intro v' w1 ho hg _
        have hA := Lib.hid (trim_result ho hg rfl HT.out (by omega))
        clear ho hg
        go_wp2_with fail
        go_ret
        exact ⟨⟨v', rfl, hA.out.1⟩, hA.out.2⟩


theorem refTrim_nil (w : World) : Calls Tryz.prog 66 #[.slice none 0 0] w fun e w' => (∃ v, e = .returned v ∧ AtP (w.heap.size ≤ ·) w' v []) ∧ Below w.heap.size w w' := by
  go_enter Tryz.func66, Tryz.ntmps66
  go_wp2
  go_loop [3] (fun n => n = .int .i64 0) (fun _ => 0)
  case atStart => rfl
  case round =>
    obtain rfl := hrel
    go_wp2
    go_ret
    exact ⟨⟨_, rfl, .inr ⟨w.heap.size, 0, 0, rfl, Nat.le_refl _, Nat.le_refl _, by decide, by simp, fun i hi => absurd hi (by simp)⟩⟩, (Below.refl _ _).alloc (Nat.le_refl _) _⟩
end Go.Proofs.YtikgfdkaikpmhaaGreat
