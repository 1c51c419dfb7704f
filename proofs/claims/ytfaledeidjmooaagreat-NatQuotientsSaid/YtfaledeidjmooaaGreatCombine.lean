/-
  What combined does. Conditions: those that each theorem names.
-/
import Derived.Test.YtfaledeidjmooaaGreatLead
import Derived.Test.YtfaledeidjmooaaGreatOwn
namespace Go.Proofs.YtfaledeidjmooaaGreat
open Go.RowKit

/-- one word of a sum of two products, with a carry that has a sign -/
theorem combine_step {V W U T : Nat} {x y c t : Int} {a b : Nat} {B : Nat} (h : (V : Int) + (B : Int) * c = x * (W : Int) + y * (U : Int)) (ht : t = x * a + c + y * b) (hT : (T : Int) = t % 4294967296) :
    ((V + B * T : Nat) : Int) + ((4294967296 * B : Nat) : Int) * (t / 4294967296) = x * ((W + B * a : Nat) : Int) + y * ((U + B * b : Nat) : Int) := by
  have h1 := Int.emod_add_mul_ediv t 4294967296
  have e1 : (B : Int) * t = (B : Int) * (T : Int) + (B : Int) * (4294967296 * (t / 4294967296)) := by rw [hT, ← Int.mul_add, h1]
  have e2 : (B : Int) * t = x * ((B : Int) * a) + (B : Int) * c + y * ((B : Int) * b) := by
    rw [ht, Int.mul_add, Int.mul_add, Int.mul_left_comm (B : Int) x, Int.mul_left_comm (B : Int) y]
  rw [Int.natCast_add, Int.natCast_mul, Int.natCast_add, Int.natCast_mul, Int.natCast_add, Int.natCast_mul, Int.natCast_mul]
  rw [show ((4294967296 : Nat) : Int) = 4294967296 from rfl, Int.mul_add, Int.mul_add, show (4294967296 : Int) * (B : Int) * (t / 4294967296) = (B : Int) * (4294967296 * (t / 4294967296)) by rw [Int.mul_comm 4294967296 (B : Int), Int.mul_assoc]]
  omega
theorem combine_end {V L : Nat} {A : Nat} {c : Int} (h : (V : Int) + ((4294967296 ^ L : Nat) : Int) * c = A) (hV : V < 4294967296 ^ L) (hA : A < 4294967296 ^ L) : V = A := by
  have hc : c = 0 := by
    apply Classical.byContradiction
    intro hc
    rcases Int.lt_or_gt_of_ne hc with h1 | h1
    · have := Int.mul_le_mul_of_nonneg_left (show c ≤ -1 by omega) (show 0 ≤ ((4294967296 ^ L : Nat) : Int) by omega)
      omega
    · have := Int.mul_le_mul_of_nonneg_left (show 1 ≤ c by omega) (show 0 ≤ ((4294967296 ^ L : Nat) : Int) by omega)
      omega
  rw [hc, Int.mul_zero] at h
  omega
theorem combine_bound {x a : Int} (h1 : -1073741824 < x) (h2 : x < 1073741824) (h3 : 0 ≤ a) (h4 : a < 4294967296) : -4611686013058678785 ≤ x * a ∧ x * a ≤ 4611686013058678785 := by
  have a1 : x * a ≤ 1073741823 * a := Int.mul_le_mul_of_nonneg_right (by omega) h3
  have a2 : (-1073741823) * a ≤ x * a := Int.mul_le_mul_of_nonneg_right (by omega) h3
  omega

set_option maxRecDepth 10000 in
set_option maxHeartbeats 4000000 in
theorem combined_any (va vb : Value) (m n A : Nat) (x y : Int) (w : World) (ha : IsN w va m) (hb : IsN w vb n) (hla : (Nl.limbs m).length ≤ 1024) (hge : n ≤ m) (hA : (A : Int) = x * m + y * n) (hAm : A ≤ m)
    (x1 : -1073741824 < x) (x2 : x < 1073741824) (y1 : -1073741824 < y) (y2 : y < 1073741824) :
    Calls Tryz.prog 111 #[va, vb, .int .i64 x, .int .i64 y] w fun e w' => (∃ v, e = .returned v ∧ Own w.heap.size w' v (Nl.limbs A)) ∧ Below w.heap.size w w' := by
  obtain ⟨L, hL⟩ : ∃ L, (Nl.limbs m).length = L := ⟨_, rfl⟩
  obtain ⟨K, hK⟩ : ∃ K, (Nl.limbs n).length = K := ⟨_, rfl⟩
  have hKL : K ≤ L := by rw [← hK, ← hL]; exact Nl.limbs_mono hge
  have hAl : A < 4294967296 ^ L := by rw [← hL]; exact Nat.lt_of_le_of_lt hAm (Nl.lt_limbs m)
  have hmk := make_words 69 Tryz.underlying69 w (L : Int) L rfl (by omega)
  have HA := Lib.hid ha
  have HB := Lib.hid hb
  obtain ⟨pa, ca, rfl, fa⟩ := ha.form
  obtain ⟨pb, cb, rfl, fb⟩ := hb.form
  have HL := Lib.hid (And.intro hL (And.intro hK (And.intro hA hAl)))
  rw [hL] at HA hla ⊢
  rw [hK] at HB ⊢
  clear ha hb fa fb hL hK hA hAm hge hAl
  go_enter Tryz.func111, Tryz.ntmps111
  go_wp2_with fail
  obtain ⟨g, hg⟩ : ∃ g, g = w.heap.size := ⟨_, rfl⟩
  rw [← hg]
  obtain ⟨W, hW⟩ : ∃ W, W = w.alloc (.cells (vals (Nl.zeros L)).toArray 59) := ⟨_, rfl⟩
  rw [← hW]
  have hb0 : Below w.heap.size w W := by rw [hW]; exact (Below.refl _ _).alloc (Nat.le_refl _) _
  have hR0 : Row W g (Nl.zeros L) := by rw [hW, hg]; exact row_new w _
  have HA0 := Lib.hid (show AtP (· ≠ g) W (.slice pa L ca) (Nl.limbs m) from (HA.out.mono (q := (· ≠ g)) fun b hb _ => by rw [hg]; exact Nat.ne_of_lt hb).below hb0)
  have HB0 := Lib.hid (show AtP (· ≠ g) W (.slice pb K cb) (Nl.limbs n) from (HB.out.mono (q := (· ≠ g)) fun b hb _ => by rw [hg]; exact Nat.ne_of_lt hb).below hb0)
  have HR0 := Lib.hid hR0
  have HW0 := Lib.hid hb0
  have HG := Lib.hid hg
  clear hb0 hR0 hW hg HA HB hmk
  go_loopw [10, 18] (fun c i wr => ∃ (k : Nat) (cr : Int) (Z : List Nat), k ≤ L ∧ i = .int .i64 k ∧ c = .int .i64 cr ∧ -2147483648 ≤ cr ∧ cr ≤ 2147483648 ∧ Hid (Row wr g Z) ∧ Hid (Only g W wr) ∧ Hid (Z.length = L) ∧ Hid (Nl.Small Z) ∧
      Hid ((Nl.val (Z.take k) : Int) + ((4294967296 ^ k : Nat) : Int) * cr = x * (Nl.val ((Nl.limbs m).take k) : Int) + y * (Nl.val ((Nl.limbs n).take k) : Int))) (fun _ i _ => L - (intOf i).toNat)
  case atStart => exact ⟨0, 0, _, Nat.zero_le _, rfl, rfl, by decide, by decide, HR0.out, Only.refl g W, Nl.zeros_length _, Nl.small_replicate _, by simp [Hid]⟩
  case round =>
    obtain ⟨k, cr, Z, hk, rfl, rfl, c1, c2, hr, hon, hlz, hsz, hv⟩ := hrel
    by_cases hlt : k < L
    · have ax := (HA0.out.only hon.out (fun b hb => hb)).at
      have bx := (HB0.out.only hon.out (fun b hb => hb)).at
      obtain ⟨ba, oa, rfl, -, hca⟩ := ax.cells (by rw [HL.out.1]; omega)
      obtain ⟨av, hav⟩ : ∃ v, v = (Nl.limbs m).getD k 0 := ⟨_, rfl⟩
      obtain ⟨bv, hbv⟩ : ∃ v, v = (Nl.limbs n).getD k 0 := ⟨_, rfl⟩
      have ha2 : av < 4294967296 := by rw [hav]; exact (Nl.limbs_small m).getD k
      have hb2 : bv < 4294967296 := by rw [hbv]; exact (Nl.limbs_small n).getD k
      have cka := hca k (by rw [HL.out.1]; exact hlt)
      rw [← hav] at cka
      have fx := hr.out.free k
      have cz := hr.out.cell (i := k) (by rw [hlz.out]; exact hlt)
      obtain ⟨xa, hxa⟩ : ∃ v, v = x * (av : Int) := ⟨_, rfl⟩
      obtain ⟨yb, hyb⟩ : ∃ v, v = y * (bv : Int) := ⟨_, rfl⟩
      have vx : -4611686013058678785 ≤ xa ∧ xa ≤ 4611686013058678785 := by rw [hxa]; exact combine_bound x1 x2 (by omega) (by omega)
      have vy : -4611686013058678785 ≤ yb ∧ yb ≤ 4611686013058678785 := by rw [hyb]; exact combine_bound y1 y2 (by omega) (by omega)
      have ux : x * (av : Int) = xa := hxa.symm
      have uy : y * (bv : Int) = yb := hyb.symm
      obtain ⟨T, hT⟩ : ∃ T : Nat, (T : Int) = (xa + cr + yb) % 4294967296 := ⟨((xa + cr + yb) % 4294967296).toNat, Int.toNat_of_nonneg (by omega)⟩
      obtain ⟨CR, hCR⟩ : ∃ c, c = (xa + cr + yb) / 4294967296 := ⟨_, rfl⟩
      have hT2 : T < 4294967296 := by omega
      have hcr : -2147483648 ≤ CR ∧ CR ≤ 2147483648 := by omega
      have hst := combine_step (V := Nl.val (Z.take k)) (W := Nl.val ((Nl.limbs m).take k)) (U := Nl.val ((Nl.limbs n).take k)) (a := av) (b := bv) hv.out (t := xa + cr + yb) (by rw [hxa, hyb]) hT
      rw [← hCR] at hst
      have e1 : Nl.val ((Z.set k T).take (k + 1)) = Nl.val (Z.take k) + 4294967296 ^ k * T := Nl.val_take_set Z k T (by rw [hlz.out]; exact hlt)
      have e2 : Nl.val ((Nl.limbs m).take (k + 1)) = Nl.val ((Nl.limbs m).take k) + 4294967296 ^ k * av := by rw [hav]; exact Nl.val_take_succ _ k (by rw [HL.out.1]; exact hlt)
      have e3 : Nl.val ((Nl.limbs n).take (k + 1)) = Nl.val ((Nl.limbs n).take k) + 4294967296 ^ k * bv := by
        by_cases hkK : k < K
        · rw [hbv]; exact Nl.val_take_succ _ k (by rw [HL.out.2.1]; exact hkK)
        · rw [hbv, Nl.getD_ge (by rw [HL.out.2.1]; omega), Nl.val_take_all (by rw [HL.out.2.1]; omega), Nl.val_take_all (by rw [HL.out.2.1]; omega)]; omega
      rw [show 4294967296 * 4294967296 ^ k = 4294967296 ^ (k + 1) by rw [Nat.pow_succ, Nat.mul_comm], ← e1, ← e2, ← e3] at hst
      have HV := Lib.hid hst
      have HC := Lib.hid hcr
      have w1 : (xa + cr + yb) % 4294967296 = (T : Int) := hT.symm
      have w2 : (xa + cr + yb) / 4294967296 = CR := hCR.symm
      by_cases hkK : k < K
      · obtain ⟨bb, ob, rfl, -, hcb⟩ := bx.cells (by rw [HL.out.2.1]; omega)
        have ckb := hcb k (by rw [HL.out.2.1]; exact hkK)
        rw [← hbv] at ckb
        clear hca hcb hav hbv hst e1 e2 e3 hT hCR hxa hyb ax bx hcr
        go_wp2_with fail
        go_roundw
        case rel =>
          exact ⟨k + 1, CR, Z.set k T, by omega, by go_num, rfl, HC.out.1, HC.out.2, hr.out.set k T, grown_trans hon.out (Only.setCell _ _ _ _), by rw [Hid, List.length_set]; exact hlz.out, hsz.out.set k hT2, HV.out⟩
        case measure => simp [intOf] <;> omega
      · have hb0 : yb = 0 := by rw [hyb, hbv, Nl.getD_ge (by rw [HL.out.2.1]; omega)]; simp
        rw [hb0, Int.add_zero] at w1 w2
        clear hca hav hbv hst e1 e2 e3 hT hCR hxa hyb ax bx hcr hb0 vy uy
        go_wp2_with fail
        go_roundw
        case rel =>
          exact ⟨k + 1, CR, Z.set k T, by omega, by go_num, rfl, HC.out.1, HC.out.2, hr.out.set k T, grown_trans hon.out (Only.setCell _ _ _ _), by rw [Hid, List.length_set]; exact hlz.out, hsz.out.set k hT2, HV.out⟩
        case measure => simp [intOf] <;> omega
    · have hkL : k = L := by omega
      subst hkL
      have hfin : Nl.val Z = A := by
        have h := hv.out
        rw [List.take_of_length_le (by rw [hlz.out]; exact Nat.le_refl _), List.take_of_length_le (by rw [HL.out.1]; exact Nat.le_refl _), List.take_of_length_le (by rw [HL.out.2.1]; exact hKL), Nl.val_limbs, Nl.val_limbs, ← HL.out.2.2.1] at h
        exact combine_end h (by have := Nl.val_lt hsz.out; rwa [hlz.out] at this) HL.out.2.2.2
      have HF := Lib.hid hfin
      clear hfin hlt
      go_wp2_with fail
      refine (trimmed_row g _ Z wr hlz.out hr.out (by omega)).mono ?_
      rintro e w' ⟨rfl, rfl⟩
      go_wp2_with fail
      go_ret
      exact ⟨⟨_, rfl, Own.num (k := A) (by rw [HG.out]; exact Nat.le_refl _) hr.out hlz.out (by omega) hsz.out HF.out⟩, below_of_only HW0.out hon.out (by rw [HG.out]; exact Nat.le_refl _) HW0.out.size⟩
end Go.Proofs.YtfaledeidjmooaaGreat
