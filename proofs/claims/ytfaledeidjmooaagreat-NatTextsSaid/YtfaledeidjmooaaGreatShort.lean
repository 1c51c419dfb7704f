/-
  What the reference's short does. Conditions: those that each theorem names.
-/
import Derived.Test.YtfaledeidjmooaaGreatStep
import Derived.Test.YtfaledeidjmooaaGreatDivOwn
namespace Go.Proofs.YtfaledeidjmooaaGreat
open Go.RowKit

theorem at_box2 {w : World} {g : Nat} {T : TypeId} {p p' : Option Addr} {l c l' c' : Nat} {v : Value} {xs : List Nat} (a' b' : Value) (h : At w v xs) (hbx : w.heap[g]? = some (.cells #[.slice p l c, .slice p' l' c'] T (0, 0))) :
    At ((w.setCell ⟨g, 0, none⟩ a').setCell ⟨g, 1, none⟩ b') v xs := by
  rcases h with h | ⟨b, off, cap, h1, h2, h3, h4, h5, h6⟩
  · exact .inl h
  · refine .inr ⟨b, off, cap, h1, h2, h3, h4, by simpa [World.setCell] using h5, fun i hi => ?_⟩
    have hc := h6 i hi
    by_cases hb : b = g
    · subst hb
      rw [cell_of_row w b (off + i) _ _ _ hbx] at hc
      match hj : off + i with
      | 0 => rw [hj] at hc; simp at hc
      | 1 => rw [hj] at hc; simp at hc
      | j + 2 => rw [hj] at hc; simp at hc
    · have ho : Only g w ((w.setCell ⟨g, 0, none⟩ a').setCell ⟨g, 1, none⟩ b') := grown_trans (Only.setCell g 0 a' w) (Only.setCell g 1 b' _)
      exact ho.cell hc (by simpa using hb)

theorem trim_result_own {w w1 : World} {v : Value} {xs ys : List Nat} {k : Nat} {row : Option Nat} (ho : w1.ownsRow w.heap.size 59 1 v k (vals (xs.take k))) (hg : (w.alloc (.cells #[] 59)).grownBy w1 row) (hrow : row = some w.heap.size) (hy : xs.take k = ys) (hk : k ≤ xs.length) :
    w1.ownsRow w.heap.size 59 1 v ys.length (vals ys) ∧ Below w.heap.size w w1 := by
  refine ⟨?_, (trim_result ho hg hrow hy hk).2⟩
  have hl : k = ys.length := by rw [← hy, List.length_take]; omega
  rw [hy, hl] at ho
  exact ho

set_option maxHeartbeats 1000000 in
/-- the same, told of the row that the result owns -/
theorem refTrim_row (b off cap : Nat) (xs : List Nat) (w : World) (h : Cells w b off xs) (hc : xs.length ≤ cap) (hm : cap ≤ 9223372036854775807) (hb : b < w.heap.size) (hl : xs.length ≤ 1000000) :
    Calls Tryz.prog 66 #[.slice (some ⟨b, off, none⟩) xs.length cap] w fun e w' => (∃ v, e = .returned v ∧ w'.ownsRow w.heap.size 59 1 v (Nl.trim xs).length (vals (Nl.trim xs))) ∧ Below w.heap.size w w' := by
  obtain ⟨i0, hi, hz0, hz1, hz2⟩ := info_parts infoWord4
  have HI := Lib.hid (And.intro hi (And.intro hz0 (And.intro hz1 hz2)))
  have HC := Lib.hid h
  clear hi hz0 hz1 hz2 h
  go_enter Tryz.func66, Tryz.ntmps66
  go_wp2
  go_loop [3] (fun n => ∃ k : Nat, k ≤ xs.length ∧ n = .int .i64 k ∧ Hid (Nl.trim (xs.take k) = Nl.trim xs)) (fun n => (intOf n).toNat)
  case atStart => exact ⟨xs.length, Nat.le_refl _, rfl, by simp [Hid]⟩
  case round =>
    obtain ⟨k, hk, rfl, ht⟩ := hrel
    cases k with
    | zero =>
      have hz := Lib.hid (show Nl.trim xs = [] by have := ht.out; rw [List.take_zero] at this; rw [← this]; rfl)
      clear ht
      go_wp2
      go_ret
      rw [hz.out]
      exact ⟨⟨_, rfl, owns_empty w⟩, (Below.refl _ _).alloc (Nat.le_refl _) _⟩
    | succ k =>
      obtain ⟨x, hx⟩ : ∃ x, x = xs.getD k 0 := ⟨_, rfl⟩
      have hcell := HC.out k (by omega)
      rw [← hx] at hcell
      have Hx := Lib.hid hx
      clear hx
      by_cases hz : x = 0
      · have hz1 : ((x : Int) == 0) = true := by rw [beq_iff_eq]; omega
        have HZ := Lib.hid hz
        clear hz
        go_wp2
        go_round
        case rel => exact ⟨k, by omega, by go_num, by rw [Hid, ← Nl.trim_take_zero (by omega) (by rw [← Hx.out, HZ.out])]; exact ht.out⟩
        case measure => simp [intOf] <;> omega
      · have hz1 : ((x : Int) == 0) = false := by rw [beq_eq_false_iff_ne]; omega
        have HT := Lib.hid (show xs.take (k + 1) = Nl.trim xs by
          have h1 := Nl.trim_take_some (xs := xs) (k := k) (by omega) (by rw [← Hx.out]; exact hz)
          rw [ht.out] at h1
          have h2 := Nl.trim_prefix xs
          rw [h1] at h2
          exact h2.symm)
        clear hz ht
        go_wp2_with (at_builtin; refine wpList_append_own _ rfl (.tmp 18) (.tmp 21) 23 rfl w.heap.size 59 i0 (.int .u32 0) 1 4 Tryz.underlying23 HI.out.1 HI.out.2.1 HI.out.2.2.1 HI.out.2.2.2 rfl (by decide) (.slice (some ⟨w.heap.size, 0, none⟩) 0 0) 0 [] rfl (owns_empty w) ⟨b, off, none⟩ (k + 1) cap (vals (xs.take (k + 1))) rfl ?_ ?_ ?_ ?_ ?_ ?_ ?_)
        · rw [vals_length, List.length_take]; omega
        · exact vals_cells' HC.out _
        · intro u hu
          obtain ⟨x, _, rfl⟩ := List.mem_map.1 hu
          rfl
        · simp only [maxLen]; omega
        · omega
        intro v' w1 ho hg _
        have hA := Lib.hid (trim_result_own ho hg rfl HT.out (by omega))
        clear ho hg
        go_wp2_with fail
        go_ret
        exact ⟨⟨v', rfl, hA.out.1⟩, hA.out.2⟩



theorem own_below {base : Nat} {w w' : World} {v : Value} {n size : Nat} {e : TypeId} {L : List Value} (h : w.ownsRow base e size v n L) (hb : Below w.heap.size w w') : w'.ownsRow base e size v n L :=
  h.kept (row := none) (grown_of_below hb) (by cases hv : v.ownBlock with
    | none => exact .inl rfl
    | some g => exact .inr (by simp))
theorem own_form {base : Nat} {w : World} {v : Value} {n size : Nat} {e : TypeId} {L : List Value} (h : w.ownsRow base e size v n L) : ∃ p c, v = .slice p n c := by
  rcases h.2 with ⟨rfl, hn⟩ | ⟨g, cap, cur, rfl, _⟩
  · rw [hn]; exact ⟨_, _, rfl⟩
  · exact ⟨_, _, rfl⟩
theorem own_less {base base' : Nat} {w : World} {v : Value} {n size : Nat} {e : TypeId} {L : List Value} (h : w.ownsRow base e size v n L) (hb : base' ≤ base) : w.ownsRow base' e size v n L := by
  obtain ⟨h1, h2 | ⟨g, cap, cur, h3, h4, h5⟩⟩ := h
  · exact ⟨h1, .inl h2⟩
  · exact ⟨h1, .inr ⟨g, cap, cur, h3, Nat.le_trans hb h4, h5⟩⟩
theorem own_box {base base' g : Nat} {w : World} {v : Value} {n size : Nat} {e : TypeId} {L : List Value} (a' b' : Value) (h : w.ownsRow base e size v n L) (hg : g < base) (hb : base' ≤ base) :
    ((w.setCell ⟨g, 0, none⟩ a').setCell ⟨g, 1, none⟩ b').ownsRow base' e size v n L := by
  refine own_less (h.kept (row := some g) (grown_trans (Only.setCell g 0 a' w) (Only.setCell g 1 b' _)) ?_) hb
  cases hv : v.ownBlock with
  | none => exact .inl rfl
  | some k =>
    refine .inr fun hk => ?_
    have h1 := h.lt k hv
    cases hk
    omega

/-- what a division by one word gives -/
def ShortOut (w w' : World) (e : Ending) (q r : Nat) : Prop := (∃ u v, e = .returned (.agg #[u, v]) ∧ w'.ownsRow w.heap.size 59 1 u (Nl.limbs q).length (vals (Nl.limbs q)) ∧ IsN w' v r) ∧ Below w.heap.size w w'

set_option maxHeartbeats 2000000 in
theorem refShort_any (va : Value) (m d : Nat) (w : World) (ha : At w va (Nl.limbs m)) (hla : (Nl.limbs m).length ≤ 100000) (hd : 0 < d) (hd2 : d < 4294967296) :
    Calls Tryz.prog 75 #[va, .int .u32 d] w fun e w' => ShortOut w w' e (m / d) (m % d) := by
  obtain ⟨a, ca, rfl, fa⟩ := ha.form
  have FA := Lib.hid fa
  clear ha fa
  obtain ⟨w1, hw1⟩ : ∃ w1, w1 = w.alloc (.cells #[.slice none 0 0, .slice none 0 0] 42) := ⟨_, rfl⟩
  have hbox : w1.heap[w.heap.size]? = some (.cells #[.slice none 0 0, .slice none 0 0] 42 (0, 0)) := by rw [hw1]; exact heap_alloc_new _ _
  have hb1 : Below w.heap.size w w1 := by rw [hw1]; exact below_al w _
  have hs1 : w1.heap.size = w.heap.size + 1 := by rw [hw1]; simp
  have hmk := make_words 23 Tryz.underlying23 w1 ((Nl.limbs m).length : Int) (Nl.limbs m).length rfl (by omega)
  have hrow := row_new w1 (Nl.zeros (Nl.limbs m).length)
  have hb2 := below_al w1 (.cells (vals (Nl.zeros (Nl.limbs m).length)).toArray 59)
  have hbox2 : (w1.alloc (.cells (vals (Nl.zeros (Nl.limbs m).length)).toArray 59)).heap[w.heap.size]? = some (.cells #[.slice none 0 0, .slice none 0 0] 42 (0, 0)) := (hb2.block _ (by omega)).trans hbox
  have HR := Lib.hid hrow
  have HBX := Lib.hid hbox2
  have HB := Lib.hid (hb1.trans (hb2.mono hb1.size))
  have HS1 := Lib.hid hs1
  have HLM := Lib.hid (Nl.limbs_small m)
  clear hbox hrow hb2 hbox2
  go_enter Tryz.func75, Tryz.ntmps75
  go_upto_region 1 with fail
  rw [← hw1]
  clear hw1 hb1
  go_wp2_with fail
  clear hmk
  rw [hs1] at HR
  clear hs1
  go_loopw [6, 7] (fun c i wr => ∃ (k r : Nat) (Z : List Nat), k ≤ (Nl.limbs m).length ∧ i = .int .i64 ((k : Int) - 1) ∧ c = .int .u64 (r : Int) ∧ r < d ∧ Hid (Row wr (w.heap.size + 1) Z) ∧ Hid (wr.heap[w.heap.size]? = some (.cells #[.slice none 0 0, .slice none 0 0] 42 (0, 0))) ∧ Hid (Below w.heap.size w wr) ∧
      Hid (Z.length = (Nl.limbs m).length) ∧ Hid (Nl.Small Z) ∧ Hid (Nl.val ((Nl.limbs m).drop k) = d * Nl.val (Z.drop k) + r)) (fun _ i _ => (intOf i + 1).toNat)
  case atStart => exact ⟨(Nl.limbs m).length, 0, _, by omega, rfl, rfl, hd, HR.out, HBX.out, HB.out, by rw [Hid, Nl.zeros_length], Nl.small_replicate _, by rw [Hid, List.drop_of_length_le (Nat.le_refl _), List.drop_of_length_le (by rw [Nl.zeros_length]; exact Nat.le_refl _)]; simp⟩
  case round =>
    obtain ⟨k, r, Z, hk, rfl, rfl, hrd, hrw, hbx, hbel, hlen, hsm, hv⟩ := hrel
    cases k with
    | zero =>
      have hm : m = d * Nl.val Z + r := by
        have := hv.out
        rwa [List.drop_zero, List.drop_zero, Nl.val_limbs] at this
      have hq : Nl.trim Z = Nl.limbs (m / d) := by
        rw [Nl.trim_eq hsm.out, hm, Nat.mul_add_div hd, Nat.div_eq_of_lt hrd, Nat.add_zero]
      have hr : r = m % d := by rw [hm, Nat.mul_add_mod, Nat.mod_eq_of_lt hrd]
      have htr := refTrim_row (w.heap.size + 1) 0 (Nl.limbs m).length Z wr (hrw.out.cells (fun i hi => by rw [Nat.zero_add]; exact ⟨hi, rfl⟩)) (by rw [hlen.out]; omega) (by omega) hrw.out.lt (by rw [hlen.out]; omega)
      rw [hlen.out, hq] at htr
      have HT := Lib.hid htr
      have HRR := Lib.hid hr
      clear htr hq hr hm
      go_wp2_with fail
      go_at_call 66
      refine HT.out.mono ?_
      rintro e w3 ⟨⟨u, rfl, hu⟩, hb3⟩
      have HU := Lib.hid hu
      have HWS := Lib.hid (show w.heap.size < wr.heap.size from Nat.lt_trans (Nat.lt_succ_self _) hrw.out.lt)
      have B3 := Lib.hid (hbel.out.trans (hb3.mono hbel.out.size))
      have BX3 := Lib.hid ((hb3.block _ (lt_of_block hbx.out)).trans hbx.out)
      clear hu hb3 HT
      go_wp2_with fail
      go_at_call 55
      refine (refOf_any r w3 (by omega)).mono ?_
      rintro e w4 ⟨⟨v, rfl, hv4⟩, hb4⟩
      have HU4 := Lib.hid (own_below HU.out hb4)
      have HV4 := Lib.hid (show At w4 v _ from hv4)
      have B4 := Lib.hid (B3.out.trans (hb4.mono B3.out.size))
      have BX4 := Lib.hid ((hb4.block _ (lt_of_block BX3.out)).trans BX3.out)
      obtain ⟨pu, cu, hue⟩ := own_form HU4.out
      obtain ⟨pv, cv, hve, -⟩ := HV4.out.form
      subst hue hve
      have c0 := cell_of_row _ _ 0 _ _ (0, 0) BX4.out
      have c1 := cell_of_row _ _ 1 _ _ (0, 0) BX4.out
      have f0 := frozen_of_row _ _ 0 _ _ BX4.out
      have f1 := frozen_of_row _ _ 1 _ _ BX4.out
      clear hb4 hv4 BX3 B3 HU
      go_wp2_with fail
      refine bodyPost_ret (v := .agg #[.slice pu (Nl.limbs (m / d)).length cu, .slice pv (Nl.limbs r).length cv]) (results_cell_row Tryz.results75 _ _ w.heap.size 42 _ (0, 0) _ rfl (box_set _ _ BX4.out) Tryz.underlying42 rfl (by kernel_rfl)) rfl ?_
      refine ⟨⟨_, _, rfl, own_box _ _ HU4.out HWS.out (Nat.le_of_lt HWS.out), ?_⟩, (B4.out.setCell (p := ⟨w.heap.size, 0, none⟩) (Nat.le_refl _) _).setCell (p := ⟨w.heap.size, 1, none⟩) (Nat.le_refl _) _⟩
      have h1 := at_box2 (.slice pu (Nl.limbs (m / d)).length cu) (.slice pv (Nl.limbs r).length cv) HV4.out BX4.out
      rw [IsN, ← HRR.out]
      exact h1
    | succ k =>
      rw [show ((k + 1 : Nat) : Int) - 1 = (k : Int) from by omega]
      have hkl : k < (Nl.limbs m).length := by omega
      rcases FA.out with fa | ⟨ba, oa, rfl, -, hca, -, hba, hcx⟩
      · rw [fa] at hkl; simp at hkl
      obtain ⟨x, hx⟩ : ∃ x, x = (Nl.limbs m).getD k 0 := ⟨_, rfl⟩
      have hx2 : x < 4294967296 := by rw [hx]; exact HLM.out.getD k
      have cx : wr.cell? ⟨ba, oa + k, none⟩ = some (.int .u32 (x : Int)) := by rw [hx]; exact (hbel.out.cell (p := ⟨ba, oa + k, none⟩) hba).trans (hcx k hkl)
      obtain ⟨z, hz⟩ : ∃ z, z = Z.getD k 0 := ⟨_, rfl⟩
      have cz := hrw.out.cell (i := k) (by rw [hlen.out]; exact hkl)
      rw [← hz] at cz
      have fz := hrw.out.free k
      have Hx := Lib.hid hx
      clear hx hz hcx
      obtain ⟨s, hs⟩ : ∃ s, s = r * 4294967296 + x := ⟨_, rfl⟩
      have hsi : (r : Int) * 4294967296 + x = (s : Int) := by omega
      have hs1 : s < 18446744073709551616 := by omega
      have hq : s / d < 4294967296 := Nat.div_lt_of_lt_mul (by
        have : (r + 1) * 4294967296 ≤ d * 4294967296 := Nat.mul_le_mul_right _ hrd
        omega)
      have hdz : ¬ ((d : Int) = 0) := by omega
      have hw : IntKind.u64.wrap ((s : Int) / (d : Int)) % 4294967296 = ((s / d : Nat) : Int) := by
        rw [IntKind.wrap_u64, show (s : Int) / (d : Int) = ((s / d : Nat) : Int) from rfl]
        generalize s / d = q at hq ⊢
        omega
      have HW := Lib.hid hw
      have HSS := Lib.hid hs
      have HQ := Lib.hid hq
      clear hw hs hq
      go_wp2
      go_roundw
      case rel =>
        rw [HW.out]
        have hkl2 : k < Z.length := by rw [hlen.out]; exact hkl
        refine ⟨k, s % d, Z.set k (s / d), by omega, rfl, by rw [show (s : Int) % (d : Int) = ((s % d : Nat) : Int) from rfl], Nat.mod_lt _ hd, hrw.out.set _ _, ?_, hbel.out.setCell (show w.heap.size ≤ w.heap.size + 1 by omega) _, ?_, ?_, ?_⟩
        · exact (Below.heap_setCell _ _ _ _ (show w.heap.size ≠ w.heap.size + 1 by omega)).trans hbx.out
        · rw [Hid, List.length_set]; exact hlen.out
        · exact hsm.out.set _ HQ.out
        · rw [Hid, Nl.val_drop_succ _ _ hkl, ← Hx.out, Nl.val_drop_succ (Z.set k (s / d)) _ (by rw [List.length_set]; exact hkl2), Nl.drop_set_succ, HSS.out]
          rw [show (Z.set k ((r * 4294967296 + x) / d)).getD k 0 = (r * 4294967296 + x) / d from by simp [hkl2]]
          exact div_step hv.out
      case measure => simp [intOf] <;> omega
end Go.Proofs.YtfaledeidjmooaaGreat
