/-
  What the law's numbers and Cmp do. Conditions: those that each theorem names.
-/
import Derived.Test.YtfaledeidjmooaaGreatNums
namespace Go.Proofs.YtfaledeidjmooaaGreat
open Go.RowKit

theorem below_three (w : World) (va vb vc : Value) : Below w.heap.size w (w.alloc (.cells #[va, vb, vc] 23)) := below_new w _
/-- is a list a number of at most so many words? -/
def numB (most : Nat) (xs : List Nat) : Bool := decide (xs.length ≤ most) && validB xs

theorem given_three {w : World} {va vb vc : Value} {xs ys zs : List Nat} (ha : At w va xs) (hb : At w vb ys) (hc : At w vc zs) : Given (w.alloc (.cells #[va, vb, vc] 23)) w.heap.size [(va, xs), (vb, ys), (vc, zs)] := by
  have hbl := below_three w va vb vc
  have e : (w.alloc (.cells #[va, vb, vc] 23)).heap[w.heap.size]? = some (.cells #[va, vb, vc] 23 (0, 0)) := heap_alloc_new _ _
  intro i hi
  have : i = 0 ∨ i = 1 ∨ i = 2 := by simp at hi; omega
  rcases this with rfl | rfl | rfl
  · exact ⟨cell_of_row _ _ 0 _ _ (0, 0) e, ha.below hbl⟩
  · exact ⟨cell_of_row _ _ 1 _ _ (0, 0) e, hb.below hbl⟩
  · exact ⟨cell_of_row _ _ 2 _ _ (0, 0) e, hc.below hbl⟩

set_option maxHeartbeats 1000000 in
theorem numbers_any (most : Nat) (b : Nat) (vs : List (Value × List Nat)) (w : World) (hg : Given w b vs) (hl : vs.length ≤ 100) (hm : most ≤ 1000000) :
    Calls Tryz.prog 52 #[.int .i64 most, .slice (some ⟨b, 0, none⟩) vs.length vs.length] w fun e w' => e = .returned (.bool (vs.all fun p => numB most p.2)) ∧ w = w' := by
  have HG := Lib.hid hg
  clear hg
  go_enter Tryz.func52, Tryz.ntmps52
  go_wp2_with fail
  go_loop [5] (fun i => ∃ k : Nat, k ≤ vs.length ∧ i = .int .i64 k ∧ Hid (∀ j, j < k → numB most (vs.getD j (.nilFunc, [])).2 = true)) (fun i => vs.length - (intOf i).toNat)
  case atStart => exact ⟨0, Nat.zero_le _, rfl, fun j hj => by omega⟩
  case round =>
    obtain ⟨k, hk, rfl, hval⟩ := hrel
    by_cases hlt : k < vs.length
    · obtain ⟨c1, g2⟩ := HG.out k hlt
      obtain ⟨v, hv⟩ : ∃ v, v = (vs.getD k (.nilFunc, [])).1 := ⟨_, rfl⟩
      obtain ⟨xs, hxs⟩ : ∃ xs, xs = (vs.getD k (.nilFunc, [])).2 := ⟨_, rfl⟩
      rw [← hv] at c1 g2
      rw [← hxs] at g2
      have HX := Lib.hid hxs
      have HL := Lib.hid (light_any v xs most w g2)
      have HV := Lib.hid (valid_any v xs w g2)
      have hmem : vs.getD k (.nilFunc, []) ∈ vs := by
        rw [show vs.getD k (.nilFunc, []) = vs[k] from by simp [hlt]]
        exact List.getElem_mem hlt
      have HM := Lib.hid hmem
      clear g2 hv hxs hmem
      by_cases hb : xs.length ≤ most
      · have L := HL.out
        rw [decide_eq_true hb] at L
        have HL' := Lib.hid L
        clear L HL
        cases hvb : validB xs with
        | true =>
          have V := HV.out
          rw [hvb] at V
          have HV' := Lib.hid V
          have HN := Lib.hid (show numB most xs = true by rw [numB, hvb, decide_eq_true hb]; rfl)
          clear V HV hvb hb
          go_wp2_with (first
            | (go_at_call 17; refine HL'.out.mono ?_; rintro e w' ⟨rfl, rfl⟩)
            | (go_at_call 56; refine HV'.out.mono ?_; rintro e w' ⟨rfl, rfl⟩))
          go_round
          case rel =>
            refine ⟨k + 1, by omega, by go_num, fun j hj => ?_⟩
            rcases Nat.lt_or_eq_of_le (Nat.le_of_lt_succ hj) with hj | rfl
            · exact hval.out j hj
            · rw [← HX.out]; exact HN.out
          case measure => simp [intOf] <;> omega
        | false =>
          have V := HV.out
          rw [hvb] at V
          have HV' := Lib.hid V
          have HN := Lib.hid (show numB most xs = false by rw [numB, hvb, Bool.and_false])
          clear V HV hvb hb
          go_wp2_with (first
            | (go_at_call 17; refine HL'.out.mono ?_; rintro e w' ⟨rfl, rfl⟩)
            | (go_at_call 56; refine HV'.out.mono ?_; rintro e w' ⟨rfl, rfl⟩))
          go_ret
          refine ⟨?_, rfl⟩
          rw [show (vs.all fun p => numB most p.2) = false from List.all_eq_false.2 ⟨_, HM.out, by rw [← HX.out, HN.out]; decide⟩]
          rfl
      · have L := HL.out
        rw [decide_eq_false hb] at L
        have HL' := Lib.hid L
        have HN := Lib.hid (show numB most xs = false by rw [numB, decide_eq_false hb]; rfl)
        clear L HL HV hb
        go_wp2_with (go_at_call 17; refine HL'.out.mono ?_; rintro e w' ⟨rfl, rfl⟩)
        go_ret
        refine ⟨?_, rfl⟩
        rw [show (vs.all fun p => numB most p.2) = false from List.all_eq_false.2 ⟨_, HM.out, by rw [← HX.out, HN.out]; decide⟩]
        rfl
    · have hall : (vs.all fun p => numB most p.2) = true := by
        rw [List.all_eq_true]
        intro p hp
        obtain ⟨j, hj, rfl⟩ := List.getElem_of_mem hp
        have := hval.out j (by omega)
        rwa [show vs.getD j (.nilFunc, []) = vs[j] from by simp [hj]] at this
      have HALL := Lib.hid hall
      clear hall
      go_wp2_with fail
      go_ret
      exact ⟨by rw [HALL.out]; rfl, rfl⟩

/-- three numbers -/
theorem numbers_three (va vb vc : Value) (xs ys zs : List Nat) (most : Nat) (w : World) (ha : At w va xs) (hb : At w vb ys) (hc : At w vc zs) (hm : most ≤ 1000000) :
    Calls Tryz.prog 52 #[.int .i64 most, .slice (some ⟨w.heap.size, 0, none⟩) 3 3] (w.alloc (.cells #[va, vb, vc] 23)) fun e w' => e = .returned (.bool (numB most xs && (numB most ys && numB most zs))) ∧ w.alloc (.cells #[va, vb, vc] 23) = w' := by
  have h := numbers_any most w.heap.size [(va, xs), (vb, ys), (vc, zs)] _ (given_three ha hb hc) (by simp) hm
  simpa using h
theorem numbers_yes (va vb vc : Value) (xs ys zs : List Nat) (most : Nat) (w : World) (ha : At w va xs) (hb : At w vb ys) (hc : At w vc zs) (h1 : xs.length ≤ most ∧ validB xs = true) (h2 : ys.length ≤ most ∧ validB ys = true) (h3 : zs.length ≤ most ∧ validB zs = true) (hm : most ≤ 1000000) :
    Calls Tryz.prog 52 #[.int .i64 most, .slice (some ⟨w.heap.size, 0, none⟩) 3 3] (w.alloc (.cells #[va, vb, vc] 23)) fun e w' => e = .returned (.bool true) ∧ w.alloc (.cells #[va, vb, vc] 23) = w' := by
  have h := numbers_three va vb vc xs ys zs most w ha hb hc hm
  rwa [show (numB most xs && (numB most ys && numB most zs)) = true by simp [numB, h1.1, h1.2, h2.1, h2.2, h3.1, h3.2]] at h

/-- what Cmp gives -/
def CmpOut (w w' : World) (e : Ending) (c k : Int) : Prop := e = .returned (.tuple #[.int .i64 c, .int .i64 k]) ∧ ∃ j, w' = w.drewN j
theorem cmp_num (va vb : Value) (m n : Nat) (w : World) (ha : At w va (Nl.limbs m)) (hb : At w vb (Nl.limbs n)) (hm : (Nl.limbs m).length ≤ 1024) (hn : (Nl.limbs n).length ≤ 1024) :
    Calls Tryz.prog 53 #[va, vb] w fun e w' => CmpOut w w' e (cmpI m n) 0 := by
  have V1 := valid_any va _ w ha
  have V2 := valid_any vb _ w hb
  rw [validB_limbs hm] at V1
  rw [validB_limbs hn] at V2
  have HV1 := Lib.hid V1
  have HV2 := Lib.hid V2
  have HC := Lib.hid (compare_any va vb m n w ha hb)
  obtain ⟨a, ca, rfl, -⟩ := ha.form
  obtain ⟨b, cb, rfl, -⟩ := hb.form
  clear ha hb V1 V2
  go_enter Tryz.func53, Tryz.ntmps53
  go_wp2_with fail
  refine HV1.out.mono ?_
  rintro e w' ⟨rfl, rfl⟩
  go_wp2_with fail
  refine HV2.out.mono ?_
  rintro e w' ⟨rfl, rfl⟩
  go_wp2_with fail
  refine HC.out.mono ?_
  rintro e w' ⟨rfl, k, hk⟩
  have HK := Lib.hid hk
  clear hk
  go_wp2_with fail
  go_ret2
  exact ⟨rfl, k, HK.out⟩
/-- a list that stands for a number is the number's words -/
theorem at_limbs {w : World} {v : Value} {xs : List Nat} (h : At w v xs) (hs : Nl.Small xs) (hv : validB xs = true) : xs = Nl.limbs (Nl.val xs) := (validB_eq hs hv).1
end Go.Proofs.YtfaledeidjmooaaGreat
