/-
  What the reference's Div does. Conditions: those that each theorem names.
-/
import Derived.Test.YtodjncohhgknlaaGreatShortAll
import Derived.Test.YtodjncohhgknlaaGreatThreeAll
import Derived.Test.YtodjncohhgknlaaGreatRefMulAll
namespace Go.Proofs.YtodjncohhgknlaaGreat
open Go.RowKit

theorem refTrim_own (base : Nat) (v : Value) (zs : List Nat) (w : World) (h : w.ownsRow base 77 1 v zs.length (vals zs)) (hl : zs.length ≤ 1000000) (h0 : zs ≠ []) :
    Calls Tryz.prog 147 #[v] w fun e w' => (∃ v, e = .returned v ∧ w'.ownsRow w.heap.size 77 1 v (Nl.trim zs).length (vals (Nl.trim zs))) ∧ Below w.heap.size w w' := by
  rcases atP_of_owns h with ⟨-, h1⟩ | ⟨b, off, cap, rfl, -, hc, hm, hb, hx⟩
  · exact absurd h1 h0
  · exact refTrim_row b off cap zs w hx hc hm hb hl

set_option maxHeartbeats 2000000 in
theorem refShl_row (va : Value) (m n : Nat) (w : World) (ha : At w va (Nl.limbs m)) (hla : (Nl.limbs m).length ≤ 100000) (hz : m ≠ 0) (hn : n ≤ 64000) :
    Calls Tryz.prog 132 #[va, .int .i64 n] w fun e w' => (∃ v, e = .returned v ∧ w'.ownsRow w.heap.size 77 1 v (Nl.limbs (m * 2 ^ n)).length (vals (Nl.limbs (m * 2 ^ n)))) ∧ Below w.heap.size w w' := by
  obtain ⟨i0, hi, hz0, hz1, hz2⟩ := info_parts infoWord4
  have HI := Lib.hid (And.intro hi (And.intro hz0 (And.intro hz1 hz2)))
  have HA := Lib.hid ha
  obtain ⟨a, ca, rfl, fa⟩ := ha.form
  have FA := Lib.hid fa
  clear ha fa hi hz0 hz1 hz2
  have hlp := Nl.len_pos hz
  have e0 : (((Nl.limbs m).length : Int) == 0) = false := by rw [beq_eq_false_iff_ne]; omega
  obtain ⟨q, hq⟩ : ∃ q, q = n / 32 := ⟨_, rfl⟩
  obtain ⟨r, hr⟩ : ∃ r, r = n % 32 := ⟨_, rfl⟩
  have hr32 : r < 32 := by omega
  have q1 : (n : Int) / 32 = (q : Int) := by omega
  have r1 : (n : Int) % 32 = (r : Int) := by omega
  have hq2 : q ≤ 2000 := by omega
  have HN := Lib.hid (show n = 32 * q + r from by omega)
  have hmk := make_words2 23 Tryz.underlying23 w (q : Int) ((q : Int) + (Nl.limbs m).length + 1) q (q + (Nl.limbs m).length + 1) rfl (by omega) (by omega) (by omega)
  have hown := owns_made w q (q + (Nl.limbs m).length + 1) (by omega) (by omega)
  have HO0 := Lib.hid hown
  have HB0 := Lib.hid (below_alloc w (.cells (vals (Nl.zeros (q + (Nl.limbs m).length + 1))).toArray 77))
  obtain ⟨R, hR⟩ : ∃ R, R = 2 ^ r := ⟨_, rfl⟩
  have hR2 : R ≤ 2147483648 := by rw [hR]; exact Nat.pow_le_pow_right (by decide) (show r ≤ 31 by omega)
  have hRI : (2 : Int) ^ r = (R : Int) := by rw [hR, Int.natCast_pow]; rfl
  have HR := Lib.hid hR
  clear hz hn hq hr hown hR
  go_enter Tryz.func132, Tryz.ntmps132
  go_wp2_with fail
  clear hmk
  go_loopw [5, 6, 7] (fun v c i wr => ∃ (k d : Nat) (zs : List Nat), k ≤ (Nl.limbs m).length ∧ i = .int .i64 k ∧ c = .int .u64 (d : Int) ∧ d < 4294967296 ∧ Hid (zs.length = q + k) ∧ Hid (Nl.Small zs) ∧ Hid (wr.ownsRow w.heap.size 77 1 v (q + k) (vals zs)) ∧ Hid (Below w.heap.size w wr) ∧
      Hid (Nl.val zs + 4294967296 ^ (q + k) * d = Nl.val ((Nl.limbs m).take k) * 2 ^ n)) (fun _ _ i _ => ((Nl.limbs m).length - (intOf i).toNat))
  case atStart => exact ⟨0, 0, Nl.zeros q, by omega, rfl, rfl, by omega, by rw [Hid, Nl.zeros_length]; rfl, Nl.small_replicate _, HO0.out, HB0.out, by simp [Hid, Nl.val_replicate]⟩
  case round =>
    obtain ⟨k, d, zs, hk, rfl, rfl, hd, hlz, hsm, ho, hbel, hv⟩ := hrel
    by_cases hlt : k < (Nl.limbs m).length
    · rcases FA.out with fa | ⟨ba, oa, rfl, -, hca, -, hba, hcx⟩
      · rw [fa] at hlt; simp at hlt
      obtain ⟨x, hx⟩ : ∃ x, x = (Nl.limbs m).getD k 0 := ⟨_, rfl⟩
      have hx2 : x < 4294967296 := by rw [hx]; exact (Nl.limbs_small m).getD k
      have cx : wr.cell? ⟨ba, oa + k, none⟩ = some (.int .u32 (x : Int)) := by rw [hx]; exact (hbel.out.cell (p := ⟨ba, oa + k, none⟩) hba).trans (hcx k hlt)
      have hp : x * R ≤ 4294967295 * 2147483648 := Nat.mul_le_mul (by omega) hR2
      obtain ⟨p, hpp⟩ : ∃ p, p = x * R := ⟨_, rfl⟩
      have hpi : (x : Int) * (R : Int) = (p : Int) := by rw [hpp, Int.natCast_mul]
      rw [← hpp] at hp
      have Hx := Lib.hid hx
      have Hp := Lib.hid hpp
      have e1 : ((p : Int) + d) % 4294967296 = (((p + d) % 4294967296 : Nat) : Int) := by omega
      have e2 : ((p : Int) + d) / 4294967296 = (((p + d) / 4294967296 : Nat) : Int) := by omega
      have HE := Lib.hid (And.intro e1 e2)
      clear hx hcx hpp e1 e2
      go_wp2_with (at_builtin; refine wpList_append_own _ rfl (.tmp 38) (.tmp 41) 23 rfl w.heap.size 77 i0 (.int .u32 0) 1 4 Tryz.underlying23 HI.out.1 HI.out.2.1 HI.out.2.2.1 HI.out.2.2.2 rfl (by decide) _ (q + k) (vals zs) rfl (ho.out.alloc _) ⟨wr.heap.size, 0, none⟩ 1 1 [.int .u32 (((p : Int) + d) % 4294967296)] rfl rfl ?_ ?_ ?_ ?_ ?_ ?_)
      · intro j u hj
        exact one_new_cell hj
      · intro u hu
        simp at hu
        rw [hu]; rfl
      · simp only [maxLen]; omega
      · omega
      · have := hbel.out.size; simp; omega
      intro v' w1 ho' hg' _
      rw [HE.out.1, ← vals_snoc] at ho'
      have hbel' := grow_below hbel.out ho.out hg'
      have HO := Lib.hid ho'
      have HBel := Lib.hid hbel'
      clear ho' hg' hbel' ho
      go_wp2_with fail
      go_roundw
      case rel =>
        refine ⟨k + 1, (p + d) / 4294967296, zs ++ [(p + d) % 4294967296], by omega, by go_num, by rw [← HE.out.2], by omega, ?_, small_snoc hsm.out (Nat.mod_lt _ (by decide)), HO.out, HBel.out, ?_⟩
        · rw [Hid, List.length_append, hlz.out]; rfl
        · exact ref_shl_step HN.out hlt Hx.out hlz.out (by rw [Hp.out, HR.out]) hv.out
      case measure => simp [intOf] <;> omega
    · have hkl : k = (Nl.limbs m).length := by omega
      have HK := Lib.hid hkl
      have e1 : (d : Int) % 4294967296 = (d : Int) := by omega
      have HE := Lib.hid e1
      clear e1 hkl
      have t1 : decide (k < (Nl.limbs m).length) = false := decide_eq_false hlt
      go_wp2_with (at_builtin; refine wpList_append_own _ rfl (.tmp 45) (.tmp 48) 23 rfl w.heap.size 77 i0 (.int .u32 0) 1 4 Tryz.underlying23 HI.out.1 HI.out.2.1 HI.out.2.2.1 HI.out.2.2.2 rfl (by decide) _ (q + k) (vals zs) rfl (ho.out.alloc _) ⟨wr.heap.size, 0, none⟩ 1 1 [.int .u32 (d : Int)] rfl rfl ?_ ?_ ?_ ?_ ?_ ?_)
      · intro j u hj
        exact one_new_cell hj
      · intro u hu
        simp at hu
        rw [hu]; rfl
      · simp only [maxLen]; omega
      · omega
      · have := hbel.out.size; simp; omega
      intro v' w1 ho' hg' _
      rw [← vals_snoc] at ho'
      have hbel' := grow_below hbel.out ho.out hg'
      have hl1 : q + k + 1 = (zs ++ [d]).length := by rw [List.length_append, hlz.out]; rfl
      rw [hl1] at ho'
      have htr := refTrim_own _ _ (zs ++ [d]) w1 ho' (by rw [← hl1]; omega) (by simp)
      have hend : Nl.trim (zs ++ [d]) = Nl.limbs (m * 2 ^ n) := by
        rw [Nl.trim_eq (small_snoc hsm.out hd), val_snoc, hlz.out, hv.out, HK.out, List.take_of_length_le (Nat.le_refl _), Nl.val_limbs]
      rw [hend] at htr
      have HT := Lib.hid htr
      have HBel := Lib.hid hbel'
      clear ho' hg' hbel' ho htr hend hl1
      go_wp2_with fail
      refine HT.out.mono ?_
      rintro e w2 ⟨⟨u, rfl, hu⟩, hb2⟩
      have HU := Lib.hid hu
      have HB2 := Lib.hid (HBel.out.trans (hb2.mono HBel.out.size))
      clear hu hb2
      go_wp2_with fail
      go_ret
      exact ⟨⟨u, rfl, own_less HU.out HBel.out.size⟩, HB2.out⟩

/-- block g begins with the words Z; it may be written -/
def Head (w : World) (g : Nat) (Z : List Nat) : Prop := ∃ cur, w.heap[g]? = some (.cells cur 77 (0, 0)) ∧ cur.toList.take Z.length = vals Z
theorem Head.cell {w : World} {g : Nat} {Z : List Nat} (h : Head w g Z) {i : Nat} (hi : i < Z.length) : w.cell? ⟨g, i, none⟩ = some (.int .u32 ((Z.getD i 0 : Nat) : Int)) := by
  obtain ⟨cur, h1, h2⟩ := h
  rw [cell_of_row w g i _ _ _ h1]
  have h3 := vals_get hi
  rw [← h2, List.getElem?_take_of_lt hi] at h3
  simpa using h3
theorem Head.free {w : World} {g : Nat} {Z : List Nat} (h : Head w g Z) (i : Nat) : w.frozen? ⟨g, i, none⟩ = false := by
  obtain ⟨cur, h1, -⟩ := h
  exact frozen_of_row w g i _ _ h1
theorem Head.lt {w : World} {g : Nat} {Z : List Nat} (h : Head w g Z) : g < w.heap.size := by
  obtain ⟨cur, h1, -⟩ := h
  exact lt_of_block h1
theorem Head.set {w : World} {g : Nat} {Z : List Nat} (h : Head w g Z) (i y : Nat) : Head (w.setCell ⟨g, i, none⟩ (.int .u32 (y : Int))) g (Z.set i y) := by
  obtain ⟨cur, h1, h2⟩ := h
  refine ⟨_, heap_setCell_same w g i _ _ (.int .u32 (y : Int)) h1, ?_⟩
  rw [Array.toList_setIfInBounds, List.length_set, List.take_set, h2, vals, vals, List.map_set]
theorem Head.keeps {w w' : World} {g : Nat} {Z : List Nat} (h : Head w g Z) (hk : w'.heap[g]? = w.heap[g]?) : Head w' g Z := by
  obtain ⟨cur, h1, h2⟩ := h
  exact ⟨cur, by rw [hk]; exact h1, h2⟩
theorem Head.below {w w' : World} {g B : Nat} {Z : List Nat} (h : Head w g Z) (hb : Below B w w') (hB : g < B) : Head w' g Z := h.keeps (hb.block g hB)
theorem head_of_own {w : World} {base : Nat} {v : Value} {n : Nat} {Z : List Nat} (h : w.ownsRow base 77 1 v n (vals Z)) (hz : Z.length = n) (h0 : n ≠ 0) :
    ∃ g cap, v = .slice (some ⟨g, 0, none⟩) n cap ∧ base ≤ g ∧ Head w g Z ∧ n ≤ cap ∧ cap ≤ 9223372036854775807 := by
  obtain ⟨h1, ⟨-, h2⟩ | ⟨g, cap, cur, h2, h3, h4, h5, h6, h7, h8⟩⟩ := h
  · exact absurd h2 h0
  · refine ⟨g, cap, h2, h3, ⟨cur, h4, ?_⟩, h5, by simpa only [maxLen] using h6⟩
    rw [hz]; simpa using h8

/-- two numbers as the reference's pair -/
def DivOut (w w' : World) (e : Ending) (q r : Nat) : Prop := (∃ u v, e = .returned (.agg #[u, v]) ∧ IsN w' u q ∧ IsN w' v r) ∧ Below w.heap.size w w'
theorem refCmp_num' (va vb : Value) (m n : Nat) (w : World) (ha : IsN w va m) (hb : IsN w vb n) (hla : (Nl.limbs m).length ≤ 300000) (hlb : (Nl.limbs n).length ≤ 300000) :
    Calls Tryz.prog 156 #[va, vb] w fun e w' => e = .returned (.int .i64 (cmpI m n)) ∧ w = w' := by
  have h := refCmp_any va vb _ _ w ha hb (Nl.limbs_small m) (Nl.limbs_small n) (by omega) (by omega)
  rwa [Nl.val_limbs, Nl.val_limbs] at h
def lenOf : Value → Nat
  | .slice _ n _ => n
  | _ => 0
theorem Row.keeps {w w' : World} {g : Nat} {Z : List Nat} (h : Row w g Z) (hk : w'.heap[g]? = w.heap[g]?) : Row w' g Z := by
  unfold Row; rw [hk]; exact h
theorem last_carry {ys : List Nat} {N i y h yh p ph cr : Nat} (hl : ys.length = N + 2) (hi : i = N + 2) (hy : y = ys.getD i 0) (h1 : yh = y * h) (h2 : p = yh + cr) (h3 : ph = p / 4294967296) (hc : cr < 4294967296) : ph = 0 := by
  have : y = 0 := by rw [hy, hi]; simp [List.getD_eq_getElem?_getD, List.getElem?_eq_none (show ys.length ≤ N + 2 by omega)]
  rw [this, Nat.zero_mul] at h1
  omega
/-- the estimate of a word of the quotient is not too small -/
theorem est_least {Z ys : List Nat} {N top x1 x2 vt Q0 h0 b' : Nat} (hZl : Z.length = N + 3) (hZs : Nl.Small Z) (hys : Nl.val ys = b') (hyl : ys.length = N + 2) (hx1 : x1 = Z.getD (N + 2) 0) (hx2 : x2 = Z.getD (N + 1) 0) (hvt : vt = ys.getD (N + 1) 0)
    (ht : top = x1 * 4294967296 + x2) (hq : Q0 = top / vt) (hv0 : 0 < vt) (hh : h0 = min Q0 4294967295) (hlt : Nl.val Z < 4294967296 * b') : Nl.val Z < (h0 + 1) * b' := by
  by_cases hb : 4294967295 ≤ Q0
  · rw [hh, Nat.min_eq_right hb]; exact hlt
  · have hq1 : h0 = Q0 := by omega
    have h1 : top < (Q0 + 1) * vt := by rw [hq, Nat.mul_comm]; exact Nat.lt_mul_div_succ top hv0
    have h2 : Nl.val Z = Nl.val (Z.take (N + 1)) + 4294967296 ^ (N + 1) * top := by
      have e1 := Nl.val_take_drop Z (N + 1) (by omega)
      have e2 := Nl.val_drop_succ Z (N + 1) (by omega)
      have e3 := Nl.val_drop_succ Z (N + 1 + 1) (by omega)
      have e5 : Nl.val (Z.drop (N + 1 + 1 + 1)) = 0 := by rw [List.drop_of_length_le (by omega)]; rfl
      have e6 : x1 = Z.getD (N + 1 + 1) 0 := hx1
      have e7 : Nl.val (Z.drop (N + 1)) = top := by rw [e2, e3, e5, ← hx2, ← e6, ht]; omega
      rw [← e1, e7]
    have h3 : Nl.val (Z.take (N + 1)) < 4294967296 ^ (N + 1) := by
      have := Nl.val_lt (hZs.take (N + 1))
      rwa [List.length_take, Nat.min_eq_left (by omega)] at this
    have h4 : 4294967296 ^ (N + 1) * vt ≤ b' := by
      have e1 := Nl.val_take_drop ys (N + 1) (by omega)
      have e2 := Nl.val_drop_succ ys (N + 1) (by omega)
      have e5 : Nl.val (ys.drop (N + 1 + 1)) = 0 := by rw [List.drop_of_length_le (by omega)]; rfl
      have e6 : Nl.val (ys.drop (N + 1)) = vt := by rw [e2, e5, ← hvt]; omega
      rw [e6, hys] at e1
      rw [← e1]; exact Nat.le_add_left _ _
    rw [hq1, h2]
    obtain ⟨M, hM⟩ : ∃ M, M = 4294967296 ^ (N + 1) := ⟨_, rfl⟩
    rw [← hM] at h3 h4 ⊢
    have h5 : M * (top + 1) ≤ M * ((Q0 + 1) * vt) := Nat.mul_le_mul_left M h1
    have h6 : (Q0 + 1) * (M * vt) ≤ (Q0 + 1) * b' := Nat.mul_le_mul_left _ h4
    rw [Nat.mul_left_comm M] at h5
    rw [Nat.mul_add, Nat.mul_one] at h5
    omega
theorem div_done {z y h b : Nat} (hv : y + h * b = z) (hest : z < (h + 1) * b) : h = z / b ∧ y = z % b ∧ y < b := by
  have hy : y < b := by rw [Nat.add_mul, Nat.one_mul] at hest; omega
  have e : z = b * h + y := by rw [← hv, Nat.mul_comm, Nat.add_comm]
  refine ⟨?_, ?_, hy⟩
  · rw [e, Nat.mul_add_div (by omega), Nat.div_eq_of_lt hy, Nat.add_zero]
  · rw [e, Nat.mul_add_mod, Nat.mod_eq_of_lt hy]
theorem back_step {z y y' h b M c d : Nat} (hv : y + (h + 1) * b = z + M * d) (hd : 1 ≤ d) (hd2 : d ≤ 1) (hy : y < M) (ha : y' + M * c = y + b) (hc : c ≤ 1) : y' + h * b = z + M * (d - c) ∧ z < (h + 1) * b := by
  obtain rfl : d = 1 := by omega
  rw [Nat.mul_one] at hv
  refine ⟨?_, by omega⟩
  rw [Nat.add_mul, Nat.one_mul] at hv
  have hc2 : c = 0 ∨ c = 1 := by omega
  rcases hc2 with rfl | rfl
  · rw [Nat.mul_zero] at ha
    rw [Nat.sub_zero, Nat.mul_one]; omega
  · rw [Nat.mul_one] at ha
    rw [Nat.sub_self, Nat.mul_zero]; omega
theorem getD_mid {A Z C : List Nat} {k i : Nat} (hA : A.length = k) (hi : i < Z.length) : (A ++ (Z ++ C)).getD (k + i) 0 = Z.getD i 0 := by
  rw [getD_append_right' hA]
  simp [List.getD_eq_getElem?_getD, List.getElem?_append_left hi]
theorem set_mid {A Z C : List Nat} {k i y : Nat} (hA : A.length = k) (hi : i < Z.length) : (A ++ (Z ++ C)).set (k + i) y = A ++ (Z.set i y ++ C) := by
  rw [set_append_right' hA, List.set_append_left _ _ hi]
theorem getD_zero_end (L : List Nat) (i : Nat) : (L ++ [0]).getD i 0 = L.getD i 0 := by
  by_cases h : i < L.length
  · simp [List.getD_eq_getElem?_getD, List.getElem?_append_left h]
  · have h2 : L.getD i 0 = 0 := by simp [List.getD_eq_getElem?_getD, List.getElem?_eq_none (show L.length ≤ i by omega)]
    rw [h2]
    by_cases h3 : i = L.length
    · subst h3; simp [List.getD_eq_getElem?_getD]
    · simp [List.getD_eq_getElem?_getD, List.getElem?_eq_none (show (L ++ [0]).length ≤ i by simp; omega)]
/-- one word of a difference with a product, with a carry and a borrow -/
theorem sub_word64 {z p bw : Nat} (hz : z < 4294967296) (hbw : bw ≤ 1) : ∃ D s bw' : Nat, IntKind.u64.wrap (IntKind.u64.wrap ((z : Int) - ((p % 4294967296 : Nat) : Int)) - (bw : Int)) = (D : Int) ∧ D < 18446744073709551616 ∧ (D : Int) % 4294967296 = (s : Int) ∧ (D : Int) / 9223372036854775808 = (bw' : Int) ∧ s < 4294967296 ∧ bw' ≤ 1 ∧ s + p + bw = z + 4294967296 * (p / 4294967296 + bw') := by
  rw [IntKind.wrap_u64, IntKind.wrap_u64]
  by_cases h : p % 4294967296 + bw ≤ z
  · exact ⟨z - p % 4294967296 - bw, z - p % 4294967296 - bw, 0, by omega, by omega, by omega, by omega, by omega, by omega, by omega⟩
  · exact ⟨18446744073709551616 + z - p % 4294967296 - bw, 4294967296 + z - p % 4294967296 - bw, 1, by omega, by omega, by omega, by omega, by omega, by omega, by omega⟩
theorem bits_of_shift {n P s NB : Nat} (hP : (Nl.limbs n).length = P) (hs : s = 32 * (Nl.limbs n).length - nbits n) (hN : NB = nbits n) : (32 : Int) * (P : Int) - (NB : Int) = (s : Int) := by
  have h := nbits_len n
  omega

set_option maxRecDepth 10000 in
set_option maxHeartbeats 4000000 in
theorem refDiv_big (va vb : Value) (m n N : Nat) (w : World) (ha : IsN w va m) (hb : IsN w vb n) (hla : (Nl.limbs m).length ≤ 1000) (hln : (Nl.limbs n).length = N + 2) (hle : n ≤ m) :
    Calls Tryz.prog 164 #[va, vb] w fun e w' => DivOut w w' e (m / n) (m % n) := by
  obtain ⟨c, hcc⟩ : ∃ c, cmpI (m : Int) (n : Int) = c := ⟨_, rfl⟩
  have hc0 : ¬ (c < 0) := by
    rw [← hcc]
    rcases Nat.lt_or_eq_of_le hle with h | h
    · rw [cmpI_gt h]; omega
    · rw [h, cmpI_eq]; omega
  have hlle := Nl.limbs_mono hle
  obtain ⟨L, hL⟩ : ∃ L, (Nl.limbs m).length = L := ⟨_, rfl⟩
  obtain ⟨P, hP⟩ : ∃ P, (Nl.limbs n).length = P := ⟨_, rfl⟩
  have hPN : P = N + 2 := by omega
  obtain ⟨K, hK⟩ : ∃ K, L = K + P := ⟨L - P, by omega⟩
  obtain ⟨s, hs, hs31, hbl, hbt⟩ := full_divisor hln
  have hn0 : n ≠ 0 := by
    intro h
    rw [h, Nl.limbs_zero] at hln
    simp at hln
  obtain ⟨b', hb'⟩ : ∃ b', b' = n * 2 ^ s := ⟨_, rfl⟩
  obtain ⟨m', hm'⟩ : ∃ m', m' = m * 2 ^ s := ⟨_, rfl⟩
  rw [← hb'] at hbl hbt
  have hbM : b' < 4294967296 ^ (N + 2) := by
    have h1 := Nl.lt_limbs b'
    rw [hbl] at h1
    exact h1
  have hm'l : (Nl.limbs m').length ≤ L + 1 := by
    apply Nl.limbs_lt
    rw [hm', Nat.pow_succ]
    have h1 := Nl.lt_limbs m
    rw [hL] at h1
    have h2 : 2 ^ s ≤ 2 ^ 32 := Nat.pow_le_pow_right (by decide) (by omega)
    exact Nat.lt_of_lt_of_le (Nat.mul_lt_mul_of_pos_right h1 (Nat.two_pow_pos s)) (Nat.mul_le_mul_left _ h2)
  have hstart : m' / 4294967296 ^ (K + 1) < b' := by
    rw [Nat.div_lt_iff_lt_mul (Nat.pow_pos (by decide))]
    have h1 := Nl.lt_limbs m
    rw [hL] at h1
    have h3 := nbits_le hn0
    have h4 : nbits n = 32 * (N + 2) - s := by
      have h5 := nbits_len n
      rw [hln] at h5 hs
      omega
    have h6 : 4294967296 ^ (N + 1) ≤ n := by
      rw [pow32]
      exact Nat.le_trans (Nat.pow_le_pow_right (by decide) (by omega)) h3
    rw [hm', hb', Nat.mul_right_comm]
    refine Nat.mul_lt_mul_of_pos_right (Nat.lt_of_lt_of_le h1 ?_) (Nat.two_pow_pos s)
    rw [show L = (N + 1) + (K + 1) by omega, Nat.pow_add]
    exact Nat.mul_le_mul_right _ h6
  obtain ⟨NB, hNB⟩ : ∃ NB, NB = nbits n := ⟨_, rfl⟩
  have hsi := bits_of_shift hP hs hNB
  have hNBl := nbits_len n
  rw [← hNB, hP] at hNBl
  have hm0 : m ≠ 0 := by omega
  have HA := Lib.hid ha
  have HB := Lib.hid hb
  have HLM := Lib.hid (And.intro hL hP)
  have HS := Lib.hid hs
  have HN0 := Lib.hid hn0
  have HM0 := Lib.hid hm0
  have HBB := Lib.hid (And.intro hbl hbt)
  have HBE := Lib.hid (And.intro hb' hm')
  have HBM := Lib.hid hbM
  have HML := Lib.hid hm'l
  have HST := Lib.hid hstart
  have HPN := Lib.hid hPN
  obtain ⟨a, ca, rfl, -⟩ := ha.form
  obtain ⟨b, cb, rfl, -⟩ := hb.form
  obtain ⟨w1, hw1⟩ : ∃ w1, w1 = w.alloc (.cells #[.slice none 0 0, .slice none 0 0] 150) := ⟨_, rfl⟩
  have hbox : w1.heap[w.heap.size]? = some (.cells #[.slice none 0 0, .slice none 0 0] 150 (0, 0)) := by rw [hw1]; exact heap_alloc_new _ _
  have hb1 : Below w.heap.size w w1 := by rw [hw1]; exact below_al w _
  have BX1 := Lib.hid hbox
  have B1 := Lib.hid hb1
  have hbits := refBits_any _ n w1 (HB.out.below hb1) (by omega)
  rw [← hNB] at hbits
  have HBI := Lib.hid hbits
  have hcm := refCmp_num' _ _ m n w1 (HA.out.below hb1) (HB.out.below hb1) (by omega) (by omega)
  rw [hcc] at hcm
  have HC := Lib.hid hcm
  have e1 : ((P : Int) == 1) = false := by rw [beq_eq_false_iff_ne]; omega
  have hKb : L ≤ 1000 := by omega
  have hP2 : 2 ≤ P := by omega
  rw [hL] at HA HC ⊢
  rw [hP] at HB HC HBI ⊢
  have hK1 : L ≤ K + P := by omega
  have hK2 : K + P ≤ L := by omega
  have HK := Lib.hid hK
  have HSI := Lib.hid hsi
  have t0 : decide (c < 0) = false := decide_eq_false hc0
  clear ha hb hcm hcc hle hlle hla hL hP hPN hK hln hs hn0 hm0 hbl hbt hb' hm' hbM hm'l hstart hbits hNB hbox hb1 hc0
  go_enter Tryz.func164, Tryz.ntmps164
  go_upto_region 1 with fail
  rw [← hw1]
  clear hw1
  go_wp2_with fail
  refine HC.out.mono ?_
  rintro e w' ⟨rfl, rfl⟩
  go_wp2_with fail
  refine HBI.out.mono ?_
  rintro e w' ⟨rfl, rfl⟩
  clear HC HBI
  have HSL := Lib.hid (refShl_any _ n s w1 (HB.out.below B1.out) (by rw [HLM.out.2]; omega) (.inr (by omega)))
  go_wp2_with fail
  refine HSL.out.mono ?_
  rintro e w3 ⟨⟨v, rfl, hv⟩, hb3⟩
  rw [← HBE.out.1] at hv
  have hvl := hv.mono (q := (· < w3.heap.size)) fun _ h _ => h
  obtain ⟨pv, cv, rfl, -⟩ := hv.form
  rw [HBB.out.1, ← HPN.out] at hvl
  have HV := Lib.hid hvl
  rw [HBB.out.1, ← HPN.out]
  have B3 := Lib.hid (B1.out.trans (hb3.mono B1.out.size))
  have BX3 := Lib.hid ((hb3.block _ (lt_of_block BX1.out)).trans BX1.out)
  clear hv hvl hb3 HSL B1 BX1
  have HSA := Lib.hid (refShl_row _ m s w3 (HA.out.below B3.out) (by rw [HLM.out.1]; omega) HM0.out (by omega))
  go_wp2_with fail
  refine HSA.out.mono ?_
  rintro e w4 ⟨⟨u, rfl, hu⟩, hb4⟩
  rw [← HBE.out.2] at hu
  obtain ⟨lm, hlm⟩ : ∃ lm, lm = (Nl.limbs m').length := ⟨_, rfl⟩
  rw [← hlm] at hu
  have hml := HML.out
  rw [← hlm] at hml
  have hu0 : w4.ownsRow w3.heap.size 77 1 u (lm + 0) (vals (Nl.limbs m' ++ Nl.zeros 0)) := by
    rw [show Nl.zeros 0 = [] from rfl, List.append_nil]; exact hu
  have HU := Lib.hid hu0
  have B4 := Lib.hid hb4
  have HLMM := Lib.hid hlm
  obtain ⟨i0, hi, hz0, hz1, hz2⟩ := info_parts infoWord4
  have HI := Lib.hid (And.intro hi (And.intro hz0 (And.intro hz1 hz2)))
  clear hi hz0 hz1 hz2 hu hu0 hb4 hlm HSA
  go_wp2_with fail
  go_loopw [8] (fun u wr => ∃ k : Nat, lm + k ≤ L + 1 ∧ Hid (wr.ownsRow w3.heap.size 77 1 u (lm + k) (vals (Nl.limbs m' ++ Nl.zeros k))) ∧ Hid (Below w3.heap.size w3 wr)) (fun u _ => L + 1 - lenOf u)
  case atStart => exact ⟨0, by omega, HU.out, B4.out⟩
  case round =>
    obtain ⟨k, hk, ho, hbel⟩ := hrel
    obtain ⟨pu, cu, rfl⟩ := own_form ho.out
    by_cases hlt : lm + k ≤ L
    · have t1 : decide (lm + k ≤ L) = true := decide_eq_true hlt
      go_wp2_with (at_builtin; refine wpList_append_own _ rfl (.tmp 52) (.tmp 53) 23 rfl w3.heap.size 77 i0 (.int .u32 0) 1 4 Tryz.underlying23 HI.out.1 HI.out.2.1 HI.out.2.2.1 HI.out.2.2.2 rfl (by decide) _ (lm + k) (vals (Nl.limbs m' ++ Nl.zeros k)) rfl (ho.out.alloc _) ⟨wr.heap.size, 0, none⟩ 1 1 [.int .u32 ((0 : Nat) : Int)] rfl rfl ?_ ?_ ?_ ?_ ?_ ?_)
      · intro j u hj
        exact one_new_cell hj
      · intro u hu
        simp at hu
        rw [hu]; rfl
      · simp only [maxLen]; omega
      · omega
      · have := hbel.out.size; simp; omega
      intro v' w5 ho' hg' _
      rw [show vals (Nl.limbs m' ++ Nl.zeros k) ++ [.int .u32 0] = vals (Nl.limbs m' ++ Nl.zeros (k + 1)) by simp [vals, Nl.zeros, List.replicate_succ']] at ho'
      have hbel' := grow_below hbel.out ho.out hg'
      have HO := Lib.hid ho'
      have HBel := Lib.hid hbel'
      obtain ⟨pu2, cu2, rfl⟩ := own_form ho'
      clear ho' hg' hbel' ho
      go_wp2_with fail
      go_roundw
      case rel => exact ⟨k + 1, by omega, HO.out, HBel.out⟩
      case measure => simp [lenOf] <;> omega
    · have t1 : decide (lm + k ≤ L) = false := decide_eq_false hlt
      have hkl : lm + k = L + 1 := by omega
      obtain ⟨Z0, hZ0⟩ : ∃ Z, Z = Nl.limbs m' ++ Nl.zeros k := ⟨_, rfl⟩
      have hst := long_start (m' := m') (b' := b') (L := L) (K := K) (by rw [← HLMM.out]; omega) (by omega) HST.out
      rw [← HLMM.out, show L + 1 - lm = k by omega, ← hZ0] at hst
      have ho' := ho.out
      rw [← hZ0] at ho'
      obtain ⟨gu, cu', hue, hgu, hhd, hcu0, hcu⟩ := head_of_own ho' (by rw [hst.1, hkl]) (by omega)
      obtain ⟨gu', hgu', rfl⟩ : ∃ g, g = gu ∧ pu = some ⟨g, 0, none⟩ := ⟨gu, rfl, by simpa using (Value.slice.inj hue).1⟩
      obtain rfl : cu = cu' := by simpa using (Value.slice.inj hue).2.2
      subst hgu'
      have HD := Lib.hid hhd
      have HST2 := Lib.hid hst
      have hku : ((lm + k : Nat) : Int) = ((L + 1 : Nat) : Int) := by omega
      have hki : (L : Int) - (P : Int) = (K : Int) := by omega
      have hmk := make_words 23 Tryz.underlying23 wr ((K : Int) + 1) (K + 1) (by omega) (by omega)
      obtain ⟨gq, hgq⟩ : ∃ g, g = wr.heap.size := ⟨_, rfl⟩
      obtain ⟨w5, hw5⟩ : ∃ w5, w5 = wr.alloc (.cells (vals (Nl.zeros (K + 1))).toArray 77) := ⟨_, rfl⟩
      rw [← hw5, ← hgq] at hmk
      have hlt2 := hhd.lt
      have hbq : Below wr.heap.size wr w5 := by rw [hw5]; exact (Below.refl _ _).alloc (Nat.le_refl _) _
      have RQ := Lib.hid (show Row w5 gq (Nl.zeros (K + 1)) by rw [hw5, hgq]; exact row_new wr _)
      have HD := Lib.hid (hhd.below hbq hlt2)
      have B5 := Lib.hid (hbel.out.trans (hbq.mono hbel.out.size))
      have hgu2 : gu' ≠ gq := by rw [hgq]; omega
      have hgq2 : w3.heap.size ≤ gq := by rw [hgq]; exact hbel.out.size
      have HST2 := Lib.hid hst
      clear hst ho ho' hue hhd hZ0 hlt2 hbq hbel hw5 hgq HU B4
      rw [hkl]
      go_wp2_with fail
      clear hmk
      go_loopw [10] (fun j wr => ∃ (k : Nat) (R Qs : List Nat), k ≤ K + 1 ∧ j = .int .i64 ((k : Int) - 1) ∧ Hid (Head wr gu' R) ∧ Hid (Row wr gq Qs) ∧ Hid (Below w3.heap.size w3 wr) ∧ Hid (R.length = L + 1) ∧ Hid (Qs.length = K + 1) ∧ Hid (Nl.Small R) ∧ Hid (Nl.Small Qs) ∧
        Hid (Nl.val R + b' * (4294967296 ^ k * Nl.val (Qs.drop k)) = m') ∧ Hid (Nl.val (R.drop k) < b')) (fun j _ => (intOf j + 1).toNat)
      case atStart =>
        refine ⟨K + 1, Z0, Nl.zeros (K + 1), Nat.le_refl _, ?_, HD.out, RQ.out, B5.out, HST2.out.1, Nl.zeros_length _, HST2.out.2.1, Nl.small_replicate _, ?_, HST2.out.2.2.2⟩
        · congr 1; omega
        · rw [Hid, List.drop_of_length_le (by rw [Nl.zeros_length]; exact Nat.le_refl _)]
          rw [show Nl.val [] = 0 from rfl, Nat.mul_zero, Nat.mul_zero, Nat.add_zero]
          exact HST2.out.2.2.1
      case round =>
        obtain ⟨k, R, Qs, hk, rfl, hhd, hrq, hbel, hRl, hQl, hRs, hQs, hval, htop⟩ := hrel
        cases k with
        | zero =>
          have hv0 : Nl.val R + n * 2 ^ s * Nl.val Qs = m * 2 ^ s := by
            have h1 := hval.out
            rw [Nat.pow_zero, Nat.one_mul, List.drop_zero, HBE.out.1, HBE.out.2] at h1
            exact h1
          have hr0 : Nl.val R < n * 2 ^ s := by
            have h1 := htop.out
            rw [List.drop_zero, HBE.out.1] at h1
            exact h1
          obtain ⟨hq1, hr1⟩ := long_end hv0 hr0
          have htq := refTrim_cells gq 0 (K + 1) Qs wr (hrq.out.cells (fun i hi => by rw [Nat.zero_add]; exact ⟨hi, rfl⟩)) (by rw [hQl.out]; exact Nat.le_refl _) (by omega) hrq.out.lt (by rw [hQl.out]; omega)
          rw [hQl.out, Nl.trim_eq hQs.out, hq1] at htq
          have HTQ := Lib.hid htq
          have HR1 := Lib.hid hr1
          have BX6 := Lib.hid ((hbel.out.block _ (lt_of_block BX3.out)).trans BX3.out)
          clear hv0 hr0 hq1 hr1 htq
          go_wp2_with fail
          go_at_call 147
          refine HTQ.out.mono ?_
          rintro e w6 ⟨⟨vq, rfl, hvq⟩, hb6⟩
          have HVQ := Lib.hid (show At w6 vq _ from hvq.at)
          have HH6 := hhd.out.below hb6 hhd.out.lt
          have BX7 := Lib.hid ((hb6.block _ (lt_of_block BX6.out)).trans BX6.out)
          have B6 := Lib.hid (B3.out.trans ((hbel.out.trans (hb6.mono hbel.out.size)).mono B3.out.size))
          have htu := refTrim_cells gu' 0 cu R w6 (fun i hi => by rw [Nat.zero_add]; exact HH6.cell hi) (by rw [hRl.out]; omega) hcu HH6.lt (by rw [hRl.out]; omega)
          rw [hRl.out, Nl.trim_eq hRs.out] at htu
          have HTU := Lib.hid htu
          clear hvq hb6 HH6 htu HTQ BX6
          go_wp2_with fail
          go_at_call 147
          refine HTU.out.mono ?_
          rintro e w7 ⟨⟨vu, rfl, hvu⟩, hb7⟩
          have hlR : (Nl.limbs (Nl.val R)).length ≤ 900000 := by rw [← Nl.trim_eq hRs.out]; exact Nat.le_trans (Nl.trim_length R) (by rw [hRl.out]; omega)
          have HVQ7 := Lib.hid (HVQ.out.below hb7)
          have BX8 := Lib.hid ((hb7.block _ (lt_of_block BX7.out)).trans BX7.out)
          have B7 := Lib.hid (B6.out.trans (hb7.mono B6.out.size))
          have hsr := refShr_any vu (Nl.val R) s w7 hvu.at hlR (by omega)
          rw [HR1.out] at hsr
          have HSR := Lib.hid hsr
          clear hvu hb7 hsr HTU BX7 HVQ B6
          go_wp2_with fail
          refine HSR.out.mono ?_
          rintro e w8 ⟨⟨vr, rfl, hvr⟩, hb8⟩
          have HVR := Lib.hid (show At w8 vr _ from hvr)
          have HVQ8 := Lib.hid (HVQ7.out.below hb8)
          have BX9 := Lib.hid ((hb8.block _ (lt_of_block BX8.out)).trans BX8.out)
          have B8 := Lib.hid (B7.out.trans (hb8.mono B7.out.size))
          obtain ⟨pr, cr, hre, -⟩ := HVR.out.form
          obtain ⟨pq, cq, hqe, -⟩ := HVQ8.out.form
          subst hre hqe
          have c0 := cell_of_row _ _ 0 _ _ (0, 0) BX9.out
          have c1 := cell_of_row _ _ 1 _ _ (0, 0) BX9.out
          have f0 := frozen_of_row _ _ 0 _ _ BX9.out
          have f1 := frozen_of_row _ _ 1 _ _ BX9.out
          clear hvr hb8 HSR BX8 HVQ7 B7
          go_wp2_with fail
          refine bodyPost_ret (v := .agg #[.slice pq (Nl.limbs (m / n)).length cq, .slice pr (Nl.limbs (m % n)).length cr]) (results_cell_row Tryz.results164 _ _ w.heap.size 150 _ (0, 0) _ rfl (box_set _ _ BX9.out) Tryz.underlying150 rfl (by kernel_rfl)) rfl ?_
          exact ⟨⟨_, _, rfl, at_box2 _ _ HVQ8.out BX9.out, at_box2 _ _ HVR.out BX9.out⟩, (B8.out.setCell (p := ⟨w.heap.size, 0, none⟩) (Nat.le_refl _) _).setCell (p := ⟨w.heap.size, 1, none⟩) (Nat.le_refl _) _⟩
        | succ k =>
          rw [show ((k + 1 : Nat) : Int) - 1 = (k : Int) from by omega]
          obtain ⟨J1, hJ1⟩ : ∃ j, j = k + P := ⟨_, rfl⟩
          obtain ⟨J2, hJ2⟩ : ∃ j, j = k + (N + 1) := ⟨_, rfl⟩
          obtain ⟨N1, hN1⟩ : ∃ j, j = N + 1 := ⟨_, rfl⟩
          have hk1 : (k : Int) + (P : Int) = (J1 : Int) := by omega
          have hk2 : (J1 : Int) - 1 = (J2 : Int) := by have := HPN.out; omega
          have hk3 : (P : Int) - 1 = (N1 : Int) := by have := HPN.out; omega
          have hk4 : N1 < P := by have := HPN.out; omega
          have hJ1l : J1 < L + 1 := by omega
          have hJ2l : J2 < L + 1 := by have := HPN.out; omega
          obtain ⟨x1, hx1⟩ : ∃ x, x = R.getD J1 0 := ⟨_, rfl⟩
          obtain ⟨x2, hx2⟩ : ∃ x, x = R.getD J2 0 := ⟨_, rfl⟩
          obtain ⟨vt, hvt⟩ : ∃ x, x = (Nl.limbs b').getD N1 0 := ⟨_, rfl⟩
          have hx1b : x1 < 4294967296 := by rw [hx1]; exact hRs.out.getD _
          have hx2b : x2 < 4294967296 := by rw [hx2]; exact hRs.out.getD _
          have hvtb : vt < 4294967296 := by rw [hvt]; exact (Nl.limbs_small b').getD _
          have hvt2 : 2147483648 ≤ vt := by rw [hvt]; rw [hN1]; exact HBB.out.2
          have c1 := hhd.out.cell (i := J1) (by rw [hRl.out]; exact hJ1l)
          have c2 := hhd.out.cell (i := J2) (by rw [hRl.out]; exact hJ2l)
          rw [← hx1] at c1
          rw [← hx2] at c2
          have hvw := HV.out.below hbel.out
          rcases hvw with ⟨hve, -⟩ | ⟨bv, ov, cvv, hve, hvp, hvc, hvm, hvl, hvx⟩
          · exact absurd (congrArg lenOf hve) (by show ¬ P = 0; omega)
          have c3 := hvx N1 (by rw [HBB.out.1]; omega)
          rw [← hvt] at c3
          obtain ⟨hpv, hcv⟩ : pv = some ⟨bv, ov, none⟩ ∧ cv = cvv := by simpa [HBB.out.1, HPN.out] using hve
          subst hpv hcv
          have HX := Lib.hid (And.intro hx1 (And.intro hx2 hvt))
          have HJ := Lib.hid (And.intro hJ1 (And.intro hJ2 hN1))
          have HVX := Lib.hid hvx
          obtain ⟨top, htp⟩ : ∃ t, t = x1 * 4294967296 + x2 := ⟨_, rfl⟩
          have htpi : (x1 : Int) * 4294967296 + (x2 : Int) = (top : Int) := by omega
          have htp64 : top < 18446744073709551616 := by omega
          obtain ⟨Q0, hQ0⟩ : ∃ q, q = top / vt := ⟨_, rfl⟩
          have hQi : (top : Int) / (vt : Int) = (Q0 : Int) := by rw [hQ0]; rfl
          have hQb : Q0 < 18446744073709551616 := by rw [hQ0]; exact Nat.lt_of_le_of_lt (Nat.div_le_self _ _) htp64
          have hvz : ¬ ((vt : Int) = 0) := by omega
          have hvz2 : ¬ (vt = 0) := by omega
          have HQ0 := Lib.hid (And.intro hQ0 htp)
          clear hx1 hx2 hvt hvx hve hQ0 htp hJ1 hJ2 hN1
          go_wp2_with fail
          go_quiet (fail)
          go_wp2_with fail
          obtain ⟨h0, hh0⟩ : ∃ h : Nat, h = min Q0 4294967295 := ⟨_, rfl⟩
          have hmin : min (Q0 : Int) 4294967295 = (h0 : Int) := by omega
          have hh0b : h0 ≤ 4294967295 := by omega
          obtain ⟨A, hA⟩ : ∃ A, A = R.take k := ⟨_, rfl⟩
          obtain ⟨C, hC⟩ : ∃ C, C = R.drop (k + (N + 3)) := ⟨_, rfl⟩
          obtain ⟨Z, hZ⟩ : ∃ Z, Z = (R.drop k).take (N + 3) := ⟨_, rfl⟩
          obtain ⟨ys, hys⟩ : ∃ ys, ys = Nl.limbs b' ++ [0] := ⟨_, rfl⟩
          have hAl : A.length = k := by rw [hA, List.length_take, hRl.out]; omega
          have hZl : Z.length = N + 3 := by rw [hZ, List.length_take, List.length_drop, hRl.out]; have := HPN.out; omega
          have hyl : ys.length = N + 3 := by rw [hys, List.length_append, HBB.out.1]; rfl
          have hsp : A ++ (Z ++ C) = R := by rw [hA, hZ, hC]; exact split3 R k (N + 3)
          have hZs : Nl.Small Z := by rw [hZ]; exact (hRs.out.drop _).take _
          have b6 := below_drewN wr nq w3.heap.size
          have HH := Lib.hid hh0
          have HAL := Lib.hid hAl
          have HZL := Lib.hid hZl
          have HYL := Lib.hid hyl
          have HSP := Lib.hid hsp
          have HAE := Lib.hid (And.intro hA hC)
          have HZS := Lib.hid hZs
          have HZE := Lib.hid hZ
          have HYE := Lib.hid hys
          have H6 := Lib.hid (show Head (wr.drewN nq) gu' (A ++ (Z ++ C)) by rw [hsp]; exact hhd.out)
          have R6 := Lib.hid (show Row (wr.drewN nq) gq Qs from hrq.out)
          have B6 := Lib.hid (hbel.out.trans b6)
          clear hmin hh0 hA hC hZ hys hAl hZl hyl hsp hZs b6 c1 c2 c3 htpi hQi hvz hvz2
          rw [show min (Q0 : Int) 4294967295 = (h0 : Int) by have := HH.out; omega]
          go_loopw [12, 13, 14] (fun cv bv iv wx => ∃ (i cr bw : Nat) (Z' : List Nat), i ≤ N + 3 ∧ iv = .int .i64 i ∧ cv = .int .u64 (cr : Int) ∧ bv = .int .u64 (bw : Int) ∧ cr < 4294967296 ∧ bw ≤ 1 ∧ Hid (i = N + 3 → cr = 0) ∧ Hid (Head wx gu' (A ++ (Z' ++ C))) ∧ Hid (Row wx gq Qs) ∧ Hid (Below w3.heap.size w3 wx) ∧
            Hid (Z'.length = N + 3) ∧ Hid (Nl.Small Z') ∧ Hid (Z'.drop i = Z.drop i) ∧ Hid (Nl.val (Z'.take i) + h0 * Nl.val (ys.take i) = Nl.val (Z.take i) + 4294967296 ^ i * (cr + bw))) (fun _ _ iv _ => N + 3 - (intOf iv).toNat)
          case atStart => exact ⟨0, 0, 0, Z, by omega, rfl, rfl, rfl, by omega, by omega, fun _ => rfl, H6.out, R6.out, B6.out, HZL.out, HZS.out, rfl, by simp [Hid]⟩
          case round =>
            obtain ⟨i, cr, bw, Z', hi, rfl, rfl, rfl, hcr, hbw, hcr0, hhd', hrq', hbel', hZ'l, hZ's, hdr, hv⟩ := hrel
            by_cases hlt : i ≤ P
            · have t1 : decide (i ≤ P) = true := decide_eq_true hlt
              have hiN : i < N + 3 := by have := HPN.out; omega
              obtain ⟨y, hy⟩ : ∃ y, y = (Nl.limbs b').getD i 0 := ⟨_, rfl⟩
              obtain ⟨z, hz⟩ : ∃ z, z = Z'.getD i 0 := ⟨_, rfl⟩
              have hyb : y < 4294967296 := by rw [hy]; exact (Nl.limbs_small b').getD _
              have hzb : z < 4294967296 := by rw [hz]; exact hZ's.out.getD _
              obtain ⟨J, hJ⟩ : ∃ j, j = k + i := ⟨_, rfl⟩
              have hJi : (k : Int) + (i : Int) = (J : Int) := by omega
              have hJl : J < L + 1 := by have := HPN.out; omega
              have cz := hhd'.out.cell (i := J) (by rw [List.length_append, List.length_append, HAL.out, hZ'l.out]; omega)
              rw [hJ, getD_mid HAL.out (by rw [hZ'l.out]; exact hiN), ← hz, ← hJ] at cz
              have fz := hhd'.out.free J
              have hp : y * h0 ≤ 4294967295 * 4294967295 := Nat.mul_le_mul (by omega) hh0b
              obtain ⟨yh, hyh⟩ : ∃ q, q = y * h0 := ⟨_, rfl⟩
              have hyhi : (y : Int) * (h0 : Int) = (yh : Int) := by rw [hyh, Int.natCast_mul]
              rw [← hyh] at hp
              obtain ⟨p, hpp⟩ : ∃ p, p = yh + cr := ⟨_, rfl⟩
              have hpi : (yh : Int) + (cr : Int) = (p : Int) := by omega
              have hpb : p < 18446744073709551616 := by omega
              obtain ⟨ph, hph⟩ : ∃ q, q = p / 4294967296 := ⟨_, rfl⟩
              have hphi : (p : Int) / 4294967296 = (ph : Int) := by omega
              obtain ⟨D, s', bw', hD, hDb, hDs, hDw, hsb, hbwb, hsum⟩ := sub_word64 (p := p) hzb hbw
              obtain ⟨pl, hpl⟩ : ∃ q, q = p % 4294967296 := ⟨_, rfl⟩
              have hpli : (p : Int) % 4294967296 = (pl : Int) := by omega
              rw [← hpl] at hD
              have hphb : ph < 4294967296 := by omega
              have HAT := Lib.hid (at_any _ (Nl.limbs b') i wr (HV.out.below hbel'.out).at (Nl.limbs_small b'))
              have Hy := Lib.hid (show y = ys.getD i 0 by rw [HYE.out, getD_zero_end]; exact hy)
              rw [← hy] at HAT
              have HW := Lib.hid (And.intro hz (And.intro hJ (And.intro hyh (And.intro hpp (And.intro hph hsum)))))
              have HDD := Lib.hid (And.intro hD (And.intro hDs hDw))
              clear hy hz hJ hyh hpp hph hpl hsum hD hDs hDw hDb
              go_wp2_with (go_at_call 148; refine HAT.out.mono ?_; rintro e w' ⟨rfl, rfl⟩)
              go_roundw
              case rel =>
                rw [HDD.out.1, HDD.out.2.1, HDD.out.2.2]
                have e1 := hhd'.out.set J s'
                rw [HW.out.2.1, set_mid HAL.out (by rw [hZ'l.out]; exact hiN), ← HW.out.2.1] at e1
                refine ⟨i + 1, ph, bw', Z'.set i s', hiN, by go_num, rfl, rfl, hphb, hbwb, fun hi3 => last_carry HBB.out.1 (show i = N + 2 by omega) (by rw [← getD_zero_end, ← HYE.out]; exact Hy.out) HW.out.2.2.1 HW.out.2.2.2.1 HW.out.2.2.2.2.1 hcr, e1, ?_, hbel'.out.setCell (p := ⟨gu', J, none⟩) hgu _, ?_, hZ's.out.set _ hsb, ?_, ?_⟩
                · exact (show Row _ gq Qs from hrq'.out.keeps (Below.heap_setCell _ _ _ _ (show gq ≠ gu' from fun h => hgu2 h.symm)))
                · rw [Hid, List.length_set]; exact hZ'l.out
                · rw [Hid, Nl.drop_set_succ]; exact Nl.drop_succ_of hdr.out
                · refine dec_step (by rw [hZ'l.out, HZL.out]) (by rw [HZL.out]; exact hiN) (by rw [HYL.out]; exact hiN) hdr.out Hy.out hv.out ?_
                  have h1 := HW.out
                  rw [Nat.mul_comm h0 y, ← h1.2.2.1, ← h1.1]
                  have h2 := h1.2.2.2.2.2
                  have h3 := h1.2.2.2.2.1
                  have h4 := h1.2.2.2.1
                  omega
              case measure => simp [intOf] <;> omega
            · have t1 : decide (i ≤ P) = false := decide_eq_false hlt
              have hi3 : i = N + 3 := by have := HPN.out; omega
              have hyv : Nl.val ys = b' := by rw [HYE.out, Nl.val_append, Nl.val_limbs]; simp [Nl.val]
              have hv1 : Nl.val Z' + h0 * b' = Nl.val Z + 4294967296 ^ (N + 3) * bw := by
                have h1 := hv.out
                rw [hcr0.out hi3, hi3, List.take_of_length_le (by rw [hZ'l.out]; exact Nat.le_refl _), List.take_of_length_le (by rw [HYL.out]; exact Nat.le_refl _), List.take_of_length_le (by rw [HZL.out]; exact Nat.le_refl _), hyv, Nat.zero_add] at h1
                exact h1
              have hlf := long_first (N := N) (i := k) (by rw [hRl.out]; have := HPN.out; omega) hRs.out HBM.out htop.out
              rw [← HZE.out] at hlf
              have hest : Nl.val Z < (h0 + 1) * b' := by
                refine est_least (ys := Nl.limbs b') (top := top) (x1 := x1) (x2 := x2) (vt := vt) HZL.out HZS.out (Nl.val_limbs b') HBB.out.1 ?_ ?_ ?_ HQ0.out.2 HQ0.out.1 (by omega) HH.out hlf.2.2
                · rw [HX.out.1, HJ.out.1, HPN.out, ← HSP.out]; exact getD_mid HAL.out (by rw [HZL.out]; omega)
                · rw [HX.out.2.1, HJ.out.2.1, ← HSP.out]; exact getD_mid HAL.out (by rw [HZL.out]; omega)
                · rw [HX.out.2.2, HJ.out.2.2]
              have HV1 := Lib.hid hv1
              have HES := Lib.hid hest
              have HYV := Lib.hid hyv
              clear hi3 hyv hv1 hest hlf
              go_wp2_with fail
              go_loopw [11, 13] (fun hv bv wx => ∃ (h bw : Nat) (Z' : List Nat), hv = .int .u64 (h : Int) ∧ bv = .int .u64 (bw : Int) ∧ h ≤ 4294967295 ∧ bw ≤ 1 ∧ Hid (Head wx gu' (A ++ (Z' ++ C))) ∧ Hid (Row wx gq Qs) ∧ Hid (Below w3.heap.size w3 wx) ∧
                Hid (Z'.length = N + 3) ∧ Hid (Nl.Small Z') ∧ Hid (Nl.val Z' + h * b' = Nl.val Z + 4294967296 ^ (N + 3) * bw) ∧ Hid (Nl.val Z < (h + 1) * b')) (fun hv _ _ => (intOf hv).toNat)
              case atStart => exact ⟨h0, bw, Z', rfl, rfl, hh0b, hbw, hhd'.out, hrq'.out, hbel'.out, hZ'l.out, hZ's.out, HV1.out, HES.out⟩
              case round =>
                obtain ⟨h, bw2, Y, rfl, rfl, hhb, hbw2, hhd2, hrq2, hbel2, hYl, hYs, hv2, hest2⟩ := hrel
                by_cases hb0 : bw2 = 0
                · subst hb0
                  have hv3 : Nl.val Y + h * b' = Nl.val Z := by have := hv2.out; rwa [Nat.mul_zero, Nat.add_zero] at this
                  obtain ⟨hq1, hq2, hq3⟩ := div_done hv3 hest2.out
                  have hkQ : k < Qs.length := by rw [hQl.out]; omega
                  have hls := long_step (Z' := Y) (by rw [hRl.out]; have := HPN.out; omega) hkQ hRs.out HBM.out hval.out htop.out (by rw [← HZE.out]; exact hq2)
                  rw [← HZE.out, ← hq1, ← HAE.out.1, ← HAE.out.2] at hls
                  have hhi : (h : Int) % 4294967296 = (h : Int) := by omega
                  have hRn : (A ++ (Y ++ C)).length = L + 1 := by
                    have h1 := congrArg List.length HSP.out
                    rw [hRl.out, List.length_append, List.length_append, HZL.out] at h1
                    rw [List.length_append, List.length_append, hYl.out]; exact h1
                  have hRsn : Nl.Small (A ++ (Y ++ C)) := by
                    have h1 := hRs.out
                    rw [← HSP.out] at h1
                    have h2 := Nl.small_append.1 h1
                    exact Nl.small_append.2 ⟨h2.1, Nl.small_append.2 ⟨hYs.out, (Nl.small_append.1 h2.2).2⟩⟩
                  have cq := hrq2.out.cell (i := k) hkQ
                  have fq := hrq2.out.free k
                  have hkK : k < K + 1 := by omega
                  have HLS := Lib.hid hls
                  have HRN := Lib.hid (And.intro hRn hRsn)
                  have hh32 : h < 4294967296 := by omega
                  clear hv3 hq1 hq2 hq3 hls hRn hRsn hkQ
                  go_wp2_with fail
                  go_roundw
                  case rel =>
                    refine ⟨k, A ++ (Y ++ C), Qs.set k h, by omega, by go_num, ?_, hrq2.out.set k h, hbel2.out.setCell (p := ⟨gq, k, none⟩) hgq2 _, HRN.out.1, ?_, HRN.out.2, hQs.out.set _ hh32, HLS.out.1, HLS.out.2⟩
                    · exact (hhd2.out.keeps (Below.heap_setCell _ _ _ _ (show gu' ≠ gq from hgu2)))
                    · rw [Hid, List.length_set]; exact hQl.out
                  case measure => simp [intOf] <;> omega
                · have hb1 : 1 ≤ bw2 := by omega
                  have t2 : decide (0 < bw2) = true := decide_eq_true (by omega)
                  have t3 : decide ((bw2 : Int) > 0) = true := decide_eq_true (by omega)
                  have hYM : Nl.val Y < 4294967296 ^ (N + 3) := by
                    have := Nl.val_lt hYs.out
                    rwa [hYl.out] at this
                  have hh0 : h ≠ 0 := by
                    intro h4
                    have h5 := hv2.out
                    rw [h4, Nat.zero_mul, Nat.add_zero, show bw2 = 1 by omega, Nat.mul_one] at h5
                    rw [h5] at hYM
                    exact absurd hYM (Nat.not_lt.2 (Nat.le_add_left _ _))
                  obtain ⟨h', rfl⟩ : ∃ h', h = h' + 1 := ⟨h - 1, by omega⟩
                  have hh1 : ((h' + 1 : Nat) : Int) - 1 = (h' : Int) := by omega
                  have HYM := Lib.hid hYM
                  clear hYM hh0 hb0
                  go_wp2_with fail
                  go_loopw [12, 17] (fun cv iv wx => ∃ (i cr : Nat) (Y' : List Nat), i ≤ N + 3 ∧ iv = .int .i64 i ∧ cv = .int .u64 (cr : Int) ∧ cr ≤ 1 ∧ Hid (Head wx gu' (A ++ (Y' ++ C))) ∧ Hid (Row wx gq Qs) ∧ Hid (Below w3.heap.size w3 wx) ∧
                    Hid (Y'.length = N + 3) ∧ Hid (Nl.Small Y') ∧ Hid (Y'.drop i = Y.drop i) ∧ Hid (Nl.val (Y'.take i) + 4294967296 ^ i * cr = Nl.val (Y.take i) + Nl.val (ys.take i))) (fun _ iv _ => N + 3 - (intOf iv).toNat)
                  case atStart => exact ⟨0, 0, Y, by omega, rfl, rfl, by omega, hhd2.out, hrq2.out, hbel2.out, hYl.out, hYs.out, rfl, by simp [Hid]⟩
                  case round =>
                    obtain ⟨i2, cr2, Y', hi2, rfl, rfl, hcr2, hhd3, hrq3, hbel3, hY'l, hY's, hdr3, hv3⟩ := hrel
                    by_cases hlt3 : i2 ≤ P
                    · have t4 : decide (i2 ≤ P) = true := decide_eq_true hlt3
                      have hiN : i2 < N + 3 := by have := HPN.out; omega
                      obtain ⟨y, hy⟩ : ∃ y, y = (Nl.limbs b').getD i2 0 := ⟨_, rfl⟩
                      obtain ⟨z, hz⟩ : ∃ z, z = Y'.getD i2 0 := ⟨_, rfl⟩
                      have hyb : y < 4294967296 := by rw [hy]; exact (Nl.limbs_small b').getD _
                      have hzb : z < 4294967296 := by rw [hz]; exact hY's.out.getD _
                      obtain ⟨J, hJ⟩ : ∃ j, j = k + i2 := ⟨_, rfl⟩
                      have hJi : (k : Int) + (i2 : Int) = (J : Int) := by omega
                      have hJl : J < L + 1 := by have := HPN.out; omega
                      have cz := hhd3.out.cell (i := J) (by rw [List.length_append, List.length_append, HAL.out, hY'l.out]; omega)
                      rw [hJ, getD_mid HAL.out (by rw [hY'l.out]; exact hiN), ← hz, ← hJ] at cz
                      have fz := hhd3.out.free J
                      obtain ⟨t5, ht5⟩ : ∃ t, t = z + y := ⟨_, rfl⟩
                      have ht5i : (z : Int) + (y : Int) = (t5 : Int) := by omega
                      obtain ⟨t6, ht6⟩ : ∃ t, t = t5 + cr2 := ⟨_, rfl⟩
                      have ht6i : (t5 : Int) + (cr2 : Int) = (t6 : Int) := by omega
                      have ht6b : t6 < 8589934592 := by omega
                      obtain ⟨t7, ht7⟩ : ∃ t, t = t6 % 4294967296 := ⟨_, rfl⟩
                      have ht7i : (t6 : Int) % 4294967296 = (t7 : Int) := by omega
                      obtain ⟨t8, ht8⟩ : ∃ t, t = t6 / 4294967296 := ⟨_, rfl⟩
                      have ht8i : (t6 : Int) / 4294967296 = (t8 : Int) := by omega
                      have ht7b : t7 < 4294967296 := by omega
                      have ht8b : t8 ≤ 1 := by omega
                      have hat : ∀ j, Calls Tryz.prog 148 #[.slice (some ⟨bv, ov, none⟩) P cv, .int .i64 i2] (wr.drewN j) fun e w' => e = .returned (.int .u64 (y : Int)) ∧ w' = wr.drewN j := fun j => by
                        rw [hy]
                        exact (at_any _ (Nl.limbs b') i2 (wr.drewN j) ((HV.out.below hbel3.out).below (below_drewN wr j _)).at (Nl.limbs_small b')).mono fun _ _ h => ⟨h.1, h.2.symm⟩
                      have HAT := Lib.hid hat
                      have Hy := Lib.hid (show y = ys.getD i2 0 by rw [HYE.out, getD_zero_end]; exact hy)
                      have fw1 : IntKind.u64.wrap (t5 : Int) = (t5 : Int) := by rw [IntKind.wrap_u64]; omega
                      have fw2 : IntKind.u64.wrap (t6 : Int) = (t6 : Int) := by rw [IntKind.wrap_u64]; omega
                      have HW := Lib.hid (And.intro hz (And.intro hJ (And.intro (show t6 = z + y + cr2 by omega) (And.intro ht7 ht8))))
                      clear hy hz hJ ht5 ht6 ht7 ht8
                      clear hat
                      go_wp2_with fail
                      go_quiet ((go_at_call 148; exact Calls.quiet_of_same (HAT.out _)))
                      have hhd4 := Lib.hid (show Head (wr.drewN nq) gu' (A ++ (Y' ++ C)) from hhd3.out)
                      have hrq4 := Lib.hid (show Row (wr.drewN nq) gq Qs from hrq3.out)
                      have hbel4 := Lib.hid (hbel3.out.trans (below_drewN wr nq w3.heap.size))
                      have cz' : (wr.drewN nq).cell? ⟨gu', J, none⟩ = some (.int .u32 (z : Int)) := cz
                      have fz' : (wr.drewN nq).frozen? ⟨gu', J, none⟩ = false := fz
                      obtain ⟨w7, hw7⟩ : ∃ w7, w7 = wr.drewN nq := ⟨_, rfl⟩
                      rw [← hw7] at hhd4 hrq4 hbel4 cz' fz' ⊢
                      clear hw7 cz fz
                      go_wp2_with fail
                      go_roundw
                      case rel =>
                        have e1 := hhd4.out.set J t7
                        rw [HW.out.2.1, set_mid HAL.out (by rw [hY'l.out]; exact hiN), ← HW.out.2.1] at e1
                        refine ⟨i2 + 1, t8, Y'.set i2 t7, hiN, by go_num, rfl, ht8b, e1, ?_, hbel4.out.setCell (p := ⟨gu', J, none⟩) hgu _, ?_, hY's.out.set _ ht7b, ?_, ?_⟩
                        · exact (show Row _ gq Qs from hrq4.out.keeps (Below.heap_setCell _ _ _ _ (show gq ≠ gu' from fun h => hgu2 h.symm)))
                        · rw [Hid, List.length_set]; exact hY'l.out
                        · rw [Hid, Nl.drop_set_succ]; exact Nl.drop_succ_of hdr3.out
                        · rw [HW.out.2.2.2.1, HW.out.2.2.2.2]
                          refine Nl.add_step (by rw [hY'l.out, hYl.out]) (by rw [hYl.out]; exact hiN) hdr3.out hv3.out y (by rw [Nl.val_take_succ _ _ (by rw [HYL.out]; exact hiN), ← Hy.out]) ?_
                          rw [← HW.out.1]; exact HW.out.2.2.1
                      case measure => simp [intOf] <;> omega
                    · have t4 : decide (i2 ≤ P) = false := decide_eq_false hlt3
                      have hi3 : i2 = N + 3 := by have := HPN.out; omega
                      have hv4 : Nl.val Y' + 4294967296 ^ (N + 3) * cr2 = Nl.val Y + b' := by
                        have h1 := hv3.out
                        rw [hi3, List.take_of_length_le (by rw [hY'l.out]; exact Nat.le_refl _), List.take_of_length_le (by rw [hYl.out]; exact Nat.le_refl _), List.take_of_length_le (by rw [HYL.out]; exact Nat.le_refl _), HYV.out] at h1
                        exact h1
                      have hbs := back_step hv2.out hb1 hbw2 HYM.out hv4 hcr2
                      obtain ⟨b3, hb3⟩ : ∃ b, b = bw2 - cr2 := ⟨_, rfl⟩
                      rw [← hb3] at hbs
                      have HBS := Lib.hid hbs
                      have hb3i : (bw2 : Int) - (cr2 : Int) = (b3 : Int) := by omega
                      have hb3b : b3 ≤ 1 := by omega
                      have hcb : cr2 ≤ bw2 := by omega
                      clear hi3 hv4 hbs hb3
                      go_wp2_with fail
                      go_roundw
                      case rel => exact ⟨h', b3, Y', by go_num, by go_num, by omega, hb3b, hhd3.out, hrq3.out, hbel3.out, hY'l.out, hY's.out, HBS.out.1, HBS.out.2⟩
                      case measure => simp [intOf] <;> omega
end Go.Proofs.YtodjncohhgknlaaGreat
