/-
  What the reference of integers does: Same, Opposite, Sgn. Conditions: those that each theorem names.
  What the reference's Mul does. Conditions: those that each theorem names.
-/
import Derived.Test.YtodjncohhgknlaaGreatRef2All
import Derived.Test.YtodjncohhgknlaaGreatRefTrim
namespace Go.Proofs.YtodjncohhgknlaaGreat
open Go.RowKit

set_option maxHeartbeats 1000000 in
theorem ref2Same_any (va vb : Value) (s t : Bool) (xs ys : List Nat) (w : World) (ha : AtI w va s xs) (hb : AtI w vb t ys) :
    Calls Tryz.prog 27 #[va, vb] w fun e w' => e = .returned (.bool ((s == t) && sameB xs ys)) ∧ Below w.heap.size w w' := by
  obtain ⟨p0, c0, rfl, hu⟩ := ha.form
  obtain ⟨p1, c1, rfl, hv⟩ := hb.form
  obtain ⟨W, hW⟩ : ∃ W, W = (w.alloc (.cells #[.bool s, .slice p0 xs.length c0] 25)).alloc (.cells #[.bool t, .slice p1 ys.length c1] 25) := ⟨_, rfl⟩
  have hbW : Below w.heap.size w W := by rw [hW]; exact two_new w _ _
  have B0 : W.heap[w.heap.size]? = some (.cells #[.bool s, .slice p0 xs.length c0] 25 (0, 0)) := by rw [hW]; exact heap_alloc2_old w _ _
  have B1 : W.heap[w.heap.size + 1]? = some (.cells #[.bool t, .slice p1 ys.length c1] 25 (0, 0)) := by rw [hW]; exact heap_alloc2_new w _ _
  have k00 := cell_of_row _ _ 0 _ _ (0, 0) B0
  have k01 := cell_of_row _ _ 1 _ _ (0, 0) B0
  have k10 := cell_of_row _ _ 0 _ _ (0, 0) B1
  have k11 := cell_of_row _ _ 1 _ _ (0, 0) B1
  simp only [List.getElem?_toArray, List.getElem?_cons_zero, List.getElem?_cons_succ] at k00 k01 k10 k11
  have HS := Lib.hid (same_any _ _ xs ys W (hu.below hbW) (hv.below hbW))
  have HB := Lib.hid hbW
  obtain ⟨b, hbb⟩ : ∃ b, b = sameB xs ys := ⟨_, rfl⟩
  rw [← hbb] at HS ⊢
  clear ha hb hu hv hbW B0 B1 hbb
  by_cases hst : s = t
  · subst hst
    rw [show (s == s) = true by simp, Bool.true_and]
    cases s
    all_goals
      go_enter Tryz.func27, Tryz.ntmps27
      go_upto_region 1 with fail
      rw [← hW]
      clear hW
      go_wp2_with (go_at_call 82; refine HS.out.mono ?_; rintro e w' ⟨rfl, j, rfl⟩)
      go_ret
      exact ⟨rfl, HB.out.trans (below_drewN W j _)⟩
  · have hne : (s == t) = false := by simpa using hst
    rw [hne, Bool.false_and]
    cases s <;> cases t
    · exact absurd rfl hst
    · clear hst hne
      go_enter Tryz.func27, Tryz.ntmps27
      go_upto_region 1 with fail
      rw [← hW]
      clear hW
      go_wp2_with (go_at_call 82; refine HS.out.mono ?_; rintro e w' ⟨rfl, j, rfl⟩)
      go_ret
      exact ⟨rfl, HB.out⟩
    · clear hst hne
      go_enter Tryz.func27, Tryz.ntmps27
      go_upto_region 1 with fail
      rw [← hW]
      clear hW
      go_wp2_with (go_at_call 82; refine HS.out.mono ?_; rintro e w' ⟨rfl, j, rfl⟩)
      go_ret
      exact ⟨rfl, HB.out⟩
    · exact absurd rfl hst

theorem sgn_not (n : Int) : sgn (!negB n) n.natAbs = -n := by
  rw [sgn, negB]
  by_cases h : n < 0
  · rw [decide_eq_true h, if_neg (by decide)]; omega
  · rw [decide_eq_false h, if_pos (by decide)]; omega
set_option maxHeartbeats 1000000 in
theorem ref2Opposite_any (v : Value) (n : Int) (w : World) (h : IsI w v n) (hl : (Nl.limbs n.natAbs).length ≤ 1000000) :
    Calls Tryz.prog 96 #[v] w fun e w' => (∃ u, e = .returned u ∧ IsI w' u (-n)) ∧ Below w.heap.size w w' := by
  obtain ⟨a, c, rfl, hu⟩ := h.form
  obtain ⟨W, hW⟩ : ∃ W, W = (w.alloc (.cells #[.bool (negB n), .slice a (Nl.limbs n.natAbs).length c] 25)).alloc (.cells #[.bool false, .slice none 0 0] 25) := ⟨_, rfl⟩
  have hb : Below w.heap.size w W := by rw [hW]; exact two_new w _ _
  have hQ : W.heap[w.heap.size + 1]? = some (.cells #[.bool false, .slice none 0 0] 25 (0, 0)) := by rw [hW]; exact heap_alloc2_new w _ _
  have HS := Lib.hid (ref2Of_any (!negB n) _ _ W (hu.below hb) hl)
  have HW := Lib.hid (And.intro hb hQ)
  clear h hu hb hQ hl
  go_enter Tryz.func96, Tryz.ntmps96
  go_wp2_with fail
  rw [← hW]
  clear hW
  refine HS.out.mono ?_
  rintro e w1 ⟨⟨t, p, l, c1, rfl, hi⟩, hb1⟩
  rw [sgn_not] at hi
  have BQ := (hb1.block _ (lt_of_block HW.out.2)).trans HW.out.2
  have f0 := frozen_of_row _ _ 0 _ _ BQ
  have f1 := frozen_of_row _ _ 1 _ _ BQ
  have g0 := cell_of_row _ _ 0 _ _ (0, 0) BQ
  have g1 := cell_of_row _ _ 1 _ _ (0, 0) BQ
  have HZ := Lib.hid (And.intro hi (And.intro hb1 BQ))
  clear hi hb1 BQ HS
  go_wp2_with fail
  refine bodyPost_ret (v := .agg #[.bool t, .slice p l c1]) (results_cell_row Tryz.results96 _ _ (w.heap.size + 1) 25 _ (0, 0) _ rfl (ibox_set _ _ HZ.out.2.2) Tryz.underlying25 rfl (by kernel_rfl)) rfl ?_
  refine ⟨⟨_, rfl, ?_⟩, below_ibox (HW.out.1.trans (HZ.out.2.1.mono HW.out.1.size)) (Nat.le_succ _) _ _⟩
  obtain ⟨u, hu1, hu2⟩ := HZ.out.1
  simp only [Value.agg.injEq, Array.mk.injEq, List.cons.injEq, Value.bool.injEq, and_true] at hu1
  obtain ⟨rfl, rfl⟩ := hu1
  exact AtI.mk (at_ibox _ _ hu2 HZ.out.2.2)

theorem ref2Sgn_any (v : Value) (n : Int) (w : World) (h : IsI w v n) (hl : (Nl.limbs n.natAbs).length ≤ 1000000) :
    Calls Tryz.prog 76 #[v] w fun e w' => e = .returned (.int .i64 (sgnI n)) ∧ Below w.heap.size w w' := by
  obtain ⟨a, c, rfl, hu⟩ := h.form
  obtain ⟨l, hl'⟩ : ∃ l, l = (Nl.limbs n.natAbs).length := ⟨_, rfl⟩
  have hl0 : l = 0 ↔ n = 0 := by rw [hl', limbs_nil]; omega
  rw [← hl'] at hl ⊢
  clear h hu hl'
  by_cases h1 : n < 0
  · rw [show negB n = true from decide_eq_true h1, sgnI, if_pos h1]
    clear h1 hl0
    go_enter Tryz.func76, Tryz.ntmps76
    go_wp2_with fail
    go_ret
    exact ⟨rfl, below_one w _⟩
  · rw [show negB n = false from decide_eq_false h1, sgnI, if_neg h1]
    have hmin : (if n = 0 then (0 : Int) else 1) = min (l : Int) 1 := by
      by_cases h2 : n = 0
      · rw [if_pos h2, hl0.2 h2]; rfl
      · have : l ≠ 0 := fun h => h2 (hl0.1 h)
        rw [if_neg h2]; omega
    rw [hmin]
    clear h1 hl0 hmin
    go_enter Tryz.func76, Tryz.ntmps76
    go_wp2_with fail
    go_ret
    exact ⟨rfl, below_one w _⟩
end Go.Proofs.YtodjncohhgknlaaGreat

namespace Go.Proofs.YtodjncohhgknlaaGreat
open Go.RowKit

theorem getD_append_right' {A Y : List Nat} {k j : Nat} (hA : A.length = k) : (A ++ Y).getD (k + j) 0 = Y.getD j 0 := by
  subst hA
  rw [List.getD_eq_getElem?_getD, List.getD_eq_getElem?_getD, List.getElem?_append_right (by omega)]
  congr 2; omega
theorem set_append_right' {A Y : List Nat} {k j y : Nat} (hA : A.length = k) : (A ++ Y).set (k + j) y = A ++ Y.set j y := by
  subst hA
  rw [List.set_append_right _ _ (by omega)]
  congr 2; omega

set_option maxHeartbeats 4000000 in
theorem refMul_any (va vb : Value) (xs ys : List Nat) (w : World) (ha : At w va xs) (hb : At w vb ys) (hsx : Nl.Small xs) (hsy : Nl.Small ys) (hla : xs.length ≤ 300000) (hlb : ys.length ≤ 300000) :
    Calls Tryz.prog 158 #[va, vb] w fun e w' => (∃ v, e = .returned v ∧ IsN w' v (Nl.val xs * Nl.val ys)) ∧ Below w.heap.size w w' := by
  obtain ⟨a, ca, rfl, fa⟩ := ha.form
  obtain ⟨b, cb, rfl, fb⟩ := hb.form
  have FA := Lib.hid fa
  have FB := Lib.hid fb
  clear ha hb fa fb
  have hmk := make_words 23 Tryz.underlying23 w ((xs.length : Int) + ys.length) (xs.length + ys.length) (by omega) (by omega)
  go_enter Tryz.func158, Tryz.ntmps158
  go_wp2_with fail
  clear hmk
  have hrow := row_new w (Nl.zeros (xs.length + ys.length))
  have hb0 : Below w.heap.size w (w.alloc (.cells (vals (Nl.zeros (xs.length + ys.length))).toArray 77)) := (Below.refl _ _).alloc (Nat.le_refl _) _
  have HR := Lib.hid hrow
  have HBL := Lib.hid hb0
  clear hrow hb0
  go_loopw [6] (fun i wr => ∃ (k : Nat) (Z : List Nat), k ≤ xs.length ∧ i = .int .i64 k ∧ Hid (Row wr w.heap.size Z) ∧ Hid (Below w.heap.size w wr) ∧ Hid (Z.length = xs.length + ys.length) ∧ Hid (Nl.Small Z) ∧
      Hid (Z.drop (k + ys.length) = Nl.zeros (Z.length - (k + ys.length))) ∧ Hid (Nl.val Z = Nl.val (xs.take k) * Nl.val ys)) (fun i _ => (xs.length - (intOf i).toNat))
  case atStart => exact ⟨0, _, by omega, rfl, HR, HBL, Nl.zeros_length _, Nl.small_replicate _, by rw [Hid, zeros_drop', Nl.zeros_length], by simp [Hid, Nl.val_replicate]⟩
  case round =>
    obtain ⟨k, Z, hk, rfl, hrow, hbel, hlen, hsm, hdz, hv⟩ := hrel
    by_cases hlt : k < xs.length
    · rcases FA.out with fa | ⟨ba, oa, rfl, -, hca, -, hba, hcx⟩
      · rw [fa] at hlt; simp at hlt
      obtain ⟨x, hx⟩ : ∃ x, x = xs.getD k 0 := ⟨_, rfl⟩
      have hx2 : x < 4294967296 := by rw [hx]; exact hsx.getD k
      have hcx' := hcx k hlt
      rw [← hx] at hcx'
      have Hx := Lib.hid hx
      have HCX := Lib.hid hcx'
      clear hx hcx hcx'
      have hlA : (Z.take k).length = k := by rw [List.length_take, hlen.out]; omega
      have HLA := Lib.hid hlA
      clear hlA
      go_wp2_with fail
      go_loopw [7, 8] (fun c j wr2 => ∃ (l : Nat) (d : Nat) (Y : List Nat), l ≤ ys.length ∧ j = .int .i64 l ∧ c = .int .u64 (d : Int) ∧ d < 4294967296 ∧ Hid (Row wr2 w.heap.size (Z.take k ++ Y)) ∧ Hid (Below w.heap.size w wr2) ∧ Hid (Y.length = (Z.drop k).length) ∧ Hid (Nl.Small Y) ∧
          Hid (Y.drop l = (Z.drop k).drop l) ∧ Hid (Nl.val (Y.take l) + 4294967296 ^ l * d = Nl.val ((Z.drop k).take l) + x * Nl.val (ys.take l))) (fun _ j _ => (ys.length - (intOf j).toNat))
      case atStart => exact ⟨0, 0, Z.drop k, by omega, rfl, rfl, by omega, by rw [Hid, List.take_append_drop]; exact hrow.out, hbel.out, rfl, hsm.out.drop k, rfl, by simp [Hid]⟩
      case round =>
        obtain ⟨l, d, Y, hl, rfl, rfl, hd, hrow2, hbel2, hlen2, hsm2, hdr2, hv2⟩ := hrel
        by_cases hlt2 : l < ys.length
        · rcases FB.out with fb | ⟨bb, ob, rfl, -, hcb, -, hbb, hcy⟩
          · rw [fb] at hlt2; simp at hlt2
          obtain ⟨y, hy⟩ : ∃ y, y = ys.getD l 0 := ⟨_, rfl⟩
          obtain ⟨z, hz⟩ : ∃ z, z = Y.getD l 0 := ⟨_, rfl⟩
          have hz2 : z < 4294967296 := by rw [hz]; exact hsm2.out.getD l
          have hy2 : y < 4294967296 := by rw [hy]; exact hsy.getD l
          have hlY : (Z.take k ++ Y).length = xs.length + ys.length := by rw [List.length_append, HLA.out, hlen2.out, List.length_drop, hlen.out]; omega
          have cz := hrow2.out.cell (i := k + l) (by rw [hlY]; omega)
          rw [getD_append_right' HLA.out, ← hz] at cz
          have fz := hrow2.out.free (k + l)
          have cy : wr.cell? ⟨bb, ob + l, none⟩ = some (.int .u32 (y : Int)) := by rw [hy]; exact (hbel2.out.cell (p := ⟨bb, ob + l, none⟩) hbb).trans (hcy l hlt2)
          have cx : wr.cell? ⟨ba, oa + k, none⟩ = some (.int .u32 (x : Int)) := (hbel2.out.cell (p := ⟨ba, oa + k, none⟩) hba).trans HCX.out
          have hp : x * y ≤ 4294967295 * 4294967295 := Nat.mul_le_mul (by omega) (by omega)
          have hpi : (x : Int) * (y : Int) = ((x * y : Nat) : Int) := by rw [Int.natCast_mul]
          obtain ⟨p, hpp⟩ : ∃ p, p = x * y := ⟨_, rfl⟩
          rw [← hpp] at hp hpi
          have Hz := Lib.hid hz
          have Hy := Lib.hid hy
          have Hp := Lib.hid hpp
          have HLY := Lib.hid hlY
          clear hz hy hcy hpp hlY
          go_wp2
          go_quiet (fail)
          go_wp2
          go_roundw
          case rel =>
            have hs : p + z + d = x * y + Y.getD l 0 + d := by rw [← Hz.out, Hp.out]
            refine ⟨l + 1, (p + z + d) / 4294967296, Y.set l ((p + z + d) % 4294967296), by omega, by go_num, by go_num, by omega, ?_, ?_, ?_, ?_, ?_, ?_⟩
            · have := Row.set (w := wr.drewN nq) hrow2.out (k + l) ((p + z + d) % 4294967296)
              rw [set_append_right' HLA.out] at this
              exact this
            · exact (hbel2.out.trans (below_drewN wr nq _)).setCell (Nat.le_refl _) _
            · rw [Hid, List.length_set]; exact hlen2.out
            · exact hsm2.out.set _ (by omega)
            · rw [Hid, Nl.drop_set_succ]; exact Nl.drop_succ_of hdr2.out
            · exact mul_step hlen2.out (by rw [List.length_drop, hlen.out]; omega) hlt2 hdr2.out Hy.out hv2.out hs
          case measure => simp [intOf] <;> omega
        · have hl' : l = ys.length := by omega
          subst hl'
          have hlY : (Z.take k ++ Y).length = xs.length + ys.length := by rw [List.length_append, HLA.out, hlen2.out, List.length_drop, hlen.out]; omega
          obtain ⟨z, hz⟩ : ∃ z, z = (Z.take k ++ Y).getD (k + ys.length) 0 := ⟨_, rfl⟩
          have cz := hrow2.out.cell (i := k + ys.length) (by rw [hlY]; omega)
          rw [← hz] at cz
          have fz := hrow2.out.free (k + ys.length)
          have HLY := Lib.hid hlY
          clear hz hlY
          go_wp2_with fail
          go_roundw
          case rel =>
            have hst := pair_step (Z := Z) (Z' := Y) (xs := xs) (k := k) (l := ys.length) (c := d) (x := x) (n := Nl.val ys) hlt Hx.out (by rw [hlen.out]; omega) hdz.out hlen2.out hdr2.out (by have := hv2.out; rw [List.take_of_length_le (Nat.le_refl ys.length)] at this; exact this) hv.out
            refine ⟨k + 1, _, by omega, by go_num, hrow2.out.set _ _, hbel2.out.setCell (Nat.le_refl _) _, ?_, ?_, ?_, ?_⟩
            · rw [Hid, List.length_set]; exact HLY.out
            · exact (Nl.small_append.2 ⟨hsm.out.take k, hsm2.out⟩).set _ hd
            · rw [Hid, hst.2, List.length_set, HLY.out, hlen.out]
            · exact hst.1
          case measure => simp [intOf] <;> omega
    · have hkk : k = xs.length := by omega
      have htr := refTrim_cells w.heap.size 0 (xs.length + ys.length) Z wr (hrow.out.cells (fun i hi => by rw [Nat.zero_add]; exact ⟨hi, rfl⟩)) (by rw [hlen.out]; omega) (by omega) hrow.out.lt (by rw [hlen.out]; omega)
      rw [hlen.out] at htr
      have HT := Lib.hid htr
      have HV := Lib.hid (show Nl.trim Z = Nl.limbs (Nl.val xs * Nl.val ys) by
        rw [Nl.trim_eq hsm.out, hv.out, List.take_of_length_le (by omega)])
      clear htr hkk
      go_wp2_with fail
      refine HT.out.mono ?_
      rintro e w2 ⟨⟨u, rfl, hu⟩, hb2⟩
      rw [HV.out] at hu
      have HU := Lib.hid hu
      have HB2 := Lib.hid (hbel.out.trans (hb2.mono hbel.out.size))
      clear hu hb2
      go_wp2_with fail
      go_ret
      exact ⟨⟨u, rfl, HU.out.at⟩, HB2.out⟩
end Go.Proofs.YtodjncohhgknlaaGreat
