/-
  What estimate does. Conditions: those that each theorem names.
  What joined does. Conditions: those that each theorem names.
-/
import Derived.Test.YtipjbnbmackidaaGreatLongAll
import Derived.Test.YtipjbnbmackidaaGreatSmallAll
namespace Go.Proofs.YtipjbnbmackidaaGreat
open Go.RowKit

theorem est_low {X f s top a0 R M l l' V W : Nat} (hV : V = (f * 4294967296 + s) * M + l) (hW : W = (top * 4294967296 + a0) * M + l') (hl' : l' < M) (hX : X * f + R = top) (hgt : R * 4294967296 + a0 < X * s) : W < X * V := by
  have h1 : top * 4294967296 + a0 + 1 ≤ X * (f * 4294967296 + s) := by
    rw [← hX, Nat.mul_add, ← Nat.mul_assoc, Nat.add_mul]; omega
  have h2 := Nat.mul_le_mul_right M h1
  rw [Nat.add_mul (top * 4294967296 + a0) 1 M, Nat.one_mul] at h2
  have h3 : X * (f * 4294967296 + s) * M ≤ X * V := by rw [hV, Nat.mul_add X ((f * 4294967296 + s) * M) l, Nat.mul_assoc]; omega
  omega
theorem est_high {X f s top a0 R M l l' V W : Nat} (hV : V = (f * 4294967296 + s) * M + l) (hW : W = (top * 4294967296 + a0) * M + l') (hl : l < M) (hX : X * f + R = top) (hle : X * s ≤ R * 4294967296 + a0) (hXb : X ≤ f * 4294967296 + s) : X * V ≤ W + V := by
  have h1 : X * (f * 4294967296 + s) ≤ top * 4294967296 + a0 := by
    rw [← hX, Nat.mul_add, ← Nat.mul_assoc, Nat.add_mul]; omega
  have h2 := Nat.mul_le_mul_right M h1
  have h3 : X * V = X * (f * 4294967296 + s) * M + X * l := by rw [hV, Nat.mul_add X ((f * 4294967296 + s) * M) l, Nat.mul_assoc]
  have h4 : X * l ≤ (f * 4294967296 + s) * M := Nat.mul_le_mul hXb (Nat.le_of_lt hl)
  omega
theorem est_top {f s top a0 M l l' V W : Nat} (hV : V = (f * 4294967296 + s) * M + l) (hW : W = (top * 4294967296 + a0) * M + l') (hl : l < M) (hs : s < 4294967296) (hlt : W < 4294967296 * V) : top < (f + 1) * 4294967296 := by
  apply Classical.byContradiction
  intro hc
  obtain ⟨U, hU⟩ : ∃ U, U = (f + 1) * 4294967296 := ⟨_, rfl⟩
  rw [← hU] at hc
  have h2 : (f * 4294967296 + s + 1) * M ≤ U * M := Nat.mul_le_mul_right M (by omega)
  have h3 : U * 4294967296 * M ≤ (top * 4294967296 + a0) * M := Nat.mul_le_mul_right M (by omega)
  rw [Nat.add_mul (f * 4294967296 + s) 1 M, Nat.one_mul] at h2
  rw [Nat.mul_right_comm U 4294967296 M] at h3
  omega
theorem est_first {X f s top a0 R M l l' V W : Nat} (hV : V = (f * 4294967296 + s) * M + l) (hW : W = (top * 4294967296 + a0) * M + l') (hl' : l' < M) (ha : a0 < 4294967296) (hX : X * f + R = top) (hR : R < f) : W < (X + 1) * V := by
  have h1 : top + 1 ≤ (X + 1) * f := by rw [Nat.add_mul]; omega
  have h2 : top * 4294967296 + a0 + 1 ≤ (X + 1) * (f * 4294967296 + s) := by
    rw [Nat.mul_add, ← Nat.mul_assoc]; omega
  have h3 := Nat.mul_le_mul_right M h2
  rw [Nat.add_mul (top * 4294967296 + a0) 1 M, Nat.one_mul] at h3
  have h4 : (X + 1) * (f * 4294967296 + s) * M ≤ (X + 1) * V := by rw [hV, Nat.mul_add (X + 1) ((f * 4294967296 + s) * M) l, Nat.mul_assoc]; omega
  omega
/-- a number by its two first words -/
theorem val_two {ys : List Nat} {N : Nat} (h : ys.length = N + 2) : Nl.val ys = (ys.getD (N + 1) 0 * 4294967296 + ys.getD N 0) * 4294967296 ^ N + Nl.val (ys.take N) := by
  have h1 := Nl.val_take_drop ys N (by omega)
  rw [Nl.val_drop_succ ys N (by omega), Nl.val_drop_succ ys (N + 1) (by omega), List.drop_of_length_le (by omega : ys.length ≤ N + 1 + 1)] at h1
  have h0 : Nl.val [] = 0 := rfl
  rw [← h1, h0, Nat.mul_zero, Nat.add_zero, Nat.mul_comm (4294967296 ^ N), Nat.mul_comm 4294967296 (ys.getD (N + 1) 0), Nat.add_comm (ys.getD N 0), Nat.add_comm (Nl.val _)]
theorem val_three {ys : List Nat} {N : Nat} (h : ys.length = N + 3) : Nl.val ys = ((ys.getD (N + 2) 0 * 4294967296 + ys.getD (N + 1) 0) * 4294967296 + ys.getD N 0) * 4294967296 ^ N + Nl.val (ys.take N) := by
  have h1 := Nl.val_take_drop ys N (by omega)
  rw [Nl.val_drop_succ ys N (by omega), Nl.val_drop_succ ys (N + 1) (by omega), Nl.val_drop_succ ys (N + 1 + 1) (by omega), List.drop_of_length_le (by omega : ys.length ≤ N + 1 + 1 + 1)] at h1
  have h0 : Nl.val [] = 0 := rfl
  have e : ys.getD N 0 + 4294967296 * (ys.getD (N + 1) 0 + 4294967296 * (ys.getD (N + 1 + 1) 0 + 4294967296 * 0)) = (ys.getD (N + 2) 0 * 4294967296 + ys.getD (N + 1) 0) * 4294967296 + ys.getD N 0 := by
    rw [show N + 1 + 1 = N + 2 from rfl]
    generalize ys.getD N 0 = u
    generalize ys.getD (N + 1) 0 = v
    generalize ys.getD (N + 2) 0 = x
    omega
  rw [← h1, h0, e, Nat.mul_comm (4294967296 ^ N), Nat.add_comm]
theorem val_take_lt {ys : List Nat} (hs : Nl.Small ys) (N : Nat) (h : N ≤ ys.length) : Nl.val (ys.take N) < 4294967296 ^ N := by
  have h1 := Nl.val_lt (hs.take N)
  rw [List.length_take, Nat.min_eq_left h] at h1
  exact h1

theorem est_end {X f R s top a0 : Nat} (hX : (X - 1) * f + R = top) (ht : top < (f + 1) * 4294967296) (hR : 4294967296 ≤ R) (hXb : X ≤ 4294967297) (hs : s < 4294967296) : X - 1 < 4294967296 ∧ (X - 1) * s ≤ R * 4294967296 + a0 := by
  constructor
  · apply Classical.byContradiction
    intro hc
    have h1 : 4294967296 * f ≤ (X - 1) * f := Nat.mul_le_mul_right f (by omega)
    omega
  · have h1 : (X - 1) * s ≤ 4294967296 * 4294967295 := Nat.mul_le_mul (by omega) (by omega)
    omega
set_option maxHeartbeats 2000000 in
theorem estimate_any (va vb : Value) (zs ys : List Nat) (N : Nat) (w : World) (ha : At w va zs) (hb : At w vb ys) (hzl : zs.length = N + 3) (hyl : ys.length = N + 2) (hsz : Nl.Small zs) (hsy : Nl.Small ys)
    (htop : 2147483648 ≤ ys.getD (N + 1) 0) (hlt : Nl.val zs < 4294967296 * Nl.val ys) :
    Calls Tryz.prog 293 #[va, vb] w fun e w' => ∃ x : Nat, e = .returned (.int .u64 (x : Int)) ∧ x < 4294967296 ∧ Nl.val zs < (x + 1) * Nl.val ys ∧ x * Nl.val ys ≤ Nl.val zs + Nl.val ys ∧ ∃ k, w' = w.drewN k := by
  have hV := val_two hyl
  have hW := val_three hzl
  have hl := val_take_lt hsy N (by omega)
  have hl' := val_take_lt hsz N (by omega)
  obtain ⟨f, hf⟩ : ∃ x, x = ys.getD (N + 1) 0 := ⟨_, rfl⟩
  obtain ⟨s, hs⟩ : ∃ x, x = ys.getD N 0 := ⟨_, rfl⟩
  obtain ⟨a2, h2⟩ : ∃ x, x = zs.getD (N + 2) 0 := ⟨_, rfl⟩
  obtain ⟨a1, h1⟩ : ∃ x, x = zs.getD (N + 1) 0 := ⟨_, rfl⟩
  obtain ⟨a0, h0⟩ : ∃ x, x = zs.getD N 0 := ⟨_, rfl⟩
  have bf : f < 4294967296 := by rw [hf]; exact hsy.getD _
  have bs : s < 4294967296 := by rw [hs]; exact hsy.getD _
  have b2 : a2 < 4294967296 := by rw [h2]; exact hsz.getD _
  have b1 : a1 < 4294967296 := by rw [h1]; exact hsz.getD _
  have b0 : a0 < 4294967296 := by rw [h0]; exact hsz.getD _
  rcases ha with ⟨-, h⟩ | ⟨ba, oa, ca, rfl, -, hca, hma, hba, hxa⟩
  · rw [h] at hzl; simp at hzl
  rcases hb with ⟨-, h⟩ | ⟨bb, ob, cb, rfl, -, hcb, hmb, hbb, hxb⟩
  · rw [h] at hyl; simp at hyl
  have ca2 := hxa (N + 2) (by omega)
  have ca1 := hxa (N + 1) (by omega)
  have ca0 := hxa N (by omega)
  have cb1 := hxb (N + 1) (by omega)
  have cb0 := hxb N (by omega)
  rw [← hf] at hV htop cb1
  rw [← hs] at hV cb0
  rw [← h2] at hW ca2
  rw [← h1] at hW ca1
  rw [← h0] at hW ca0
  rw [hzl] at hca ⊢
  rw [hyl] at hcb ⊢
  obtain ⟨V, hVe⟩ : ∃ V, V = Nl.val ys := ⟨_, rfl⟩
  obtain ⟨W, hWe⟩ : ∃ W, W = Nl.val zs := ⟨_, rfl⟩
  rw [← hVe] at hV hlt ⊢
  rw [← hWe] at hW hlt ⊢
  obtain ⟨top, htp⟩ : ∃ t, t = a2 * 4294967296 + a1 := ⟨_, rfl⟩
  rw [← htp] at hW
  have ht := est_top hV hW hl bs hlt
  obtain ⟨X0, hX0⟩ : ∃ x, x = top / f := ⟨_, rfl⟩
  obtain ⟨R0, hR0⟩ : ∃ x, x = top % f := ⟨_, rfl⟩
  have hdm := Nat.div_add_mod top f
  have hR0f : R0 < f := by rw [hR0]; exact Nat.mod_lt _ (by omega)
  rw [← hX0, ← hR0, Nat.mul_comm] at hdm
  have hX0b : X0 ≤ 4294967297 := by
    apply Classical.byContradiction
    intro hc
    have h3 : 4294967298 * f ≤ X0 * f := Nat.mul_le_mul_right f (by omega)
    omega
  have hq : (top : Int) / (f : Int) = (X0 : Int) := by rw [hX0]; rfl
  have hr : (top : Int) % (f : Int) = (R0 : Int) := by rw [hR0]; rfl
  have hfz : ¬ ((f : Int) = 0) := by omega
  have hfirst := est_first hV hW hl' b0 hdm hR0f
  have hor : bits BinOp.or IntKind.u64 ((a2 : Int) * 4294967296) (a1 : Int) = (top : Int) := by
    rw [show (a2 : Int) * 4294967296 = ((a2 * 4294967296 : Nat) : Int) from by omega, u64_or_nat _ _ (by omega) (by omega), nat_join 32 _ _ (by omega) (by omega), htp]
  have LOW := Lib.hid (show ∀ X R : Nat, X * f + R = top → R * 4294967296 + a0 < X * s → W < X * V from fun X R h h' => est_low hV hW hl' h h')
  have HIGH := Lib.hid (show ∀ X R : Nat, X * f + R = top → X * s ≤ R * 4294967296 + a0 → X ≤ 4294967296 → X * V ≤ W + V from fun X R h h' h'' => est_high hV hW hl h h' (by omega))
  have HLT := Lib.hid hlt
  have HF := Lib.hid hfirst
  have HDM := Lib.hid hdm
  have HT := Lib.hid ht
  have top64 : top < 18446744073709551616 := by omega
  have hR0b : R0 < 4294967296 := by omega
  clear hV hW hl hl' hf hs h2 h1 h0 hxa hxb hVe hWe htp hX0 hR0 hdm hfirst hlt ht hsz hsy hzl hyl hR0f
  go_enter Tryz.func293, Tryz.ntmps293
  go_wp2
  go_quiet (fail)
  go_wp2
  obtain ⟨w1, hw1⟩ : ∃ w1, w1 = w.drewN nq := ⟨_, rfl⟩
  rw [← hw1]
  have da2 : w1.cell? ⟨ba, oa + (N + 2), none⟩ = some (.int .u32 (a2 : Int)) := by rw [hw1]; exact ca2
  have da1 : w1.cell? ⟨ba, oa + (N + 1), none⟩ = some (.int .u32 (a1 : Int)) := by rw [hw1]; exact ca1
  have da0 : w1.cell? ⟨ba, oa + N, none⟩ = some (.int .u32 (a0 : Int)) := by rw [hw1]; exact ca0
  have HW1 := Lib.hid (show ∃ k, w1 = w.drewN k from ⟨_, hw1⟩)
  clear hw1 ca2 ca1 ca0 cb1 cb0
  go_quiet (fail)
  go_wp2
  obtain ⟨w2, hw2⟩ : ∃ w2, w2 = w1.drewN nq := ⟨_, rfl⟩
  rw [← hw2]
  have HW2 := Lib.hid (show ∃ k, w2 = w.drewN k by obtain ⟨k, hk⟩ := HW1.out; exact ⟨_, by rw [hw2, hk, drewN_drewN]⟩)
  have ea0 : w2.cell? ⟨ba, oa + N, none⟩ = some (.int .u32 (a0 : Int)) := by rw [hw2]; exact da0
  clear hw2 da2 da1 da0 hor HW1
  go_quiet (fail)
  go_wp2
  obtain ⟨w3, hw3⟩ : ∃ w3, w3 = w2.drewN nq := ⟨_, rfl⟩
  rw [← hw3]
  have HW := Lib.hid (show ∃ k, w3 = w.drewN k by obtain ⟨k, hk⟩ := HW2.out; exact ⟨_, by rw [hw3, hk, drewN_drewN]⟩)
  have c0 : w3.cell? ⟨ba, oa + N, none⟩ = some (.int .u32 (a0 : Int)) := by rw [hw3]; exact ea0
  have HRR := Lib.hid hr
  clear hw3 ea0 hq hr HW2
  go_loopw [9, 10] (fun x r wr => ∃ X R : Nat, x = .int .u64 X ∧ r = .int .u64 R ∧ R < 4294967296 ∧ X ≤ 4294967297 ∧ Hid (X * f + R = top) ∧ Hid (W < (X + 1) * V) ∧ wr = w3) (fun x _ _ => (intOf x).toNat)
  case atStart => exact ⟨X0, R0, rfl, by first | rfl | rw [HRR.out], hR0b, hX0b, HDM, HF, rfl⟩
  case round =>
    obtain ⟨X, R, rfl, rfl, hR, hX, hxr, hwx, rfl⟩ := hrel
    by_cases hbig : 4294967296 ≤ X
    · have e1 : (X : Int) / 4294967296 = 1 := by omega
      have HB := Lib.hid (show W < X * V by
        have h1 := Nat.mul_le_mul_right V hbig
        have h2 := HLT.out
        omega)
      clear hbig
      have HX := Lib.hid (show (X - 1) * f + (R + f) = top ∧ W < (X - 1 + 1) * V by
        have h1 := hxr.out
        obtain ⟨Y, rfl⟩ : ∃ Y, X = Y + 1 := ⟨X - 1, by omega⟩
        rw [Nat.add_mul, Nat.one_mul] at h1
        exact ⟨by rw [Nat.add_sub_cancel]; omega, by rw [Nat.add_sub_cancel]; exact HB.out⟩)
      by_cases hbr : 4294967296 ≤ R + f
      · have e2 : ((R : Int) + (f : Int)) / 4294967296 = 1 := by omega
        have HR := Lib.hid (est_end (a0 := a0) HX.out.1 HT.out hbr hX bs)
        clear hbr
        go_wp2
        go_ret
        exact ⟨X - 1, ret_int (by omega), HR.out.1, HX.out.2, HIGH.out _ _ HX.out.1 HR.out.2 (by have := HR.out.1; omega), HW.out⟩
      · have e2 : ((R : Int) + (f : Int)) / 4294967296 = 0 := by omega
        go_wp2
        go_roundw
        case rel => exact ⟨X - 1, R + f, by go_num, by go_num, by omega, by omega, HX.out.1, HX.out.2, trivial⟩
        case measure => simp [intOf] <;> omega
    · have e1 : (X : Int) / 4294967296 = 0 := by omega
      have hp : X * s ≤ 4294967295 * 4294967295 := Nat.mul_le_mul (by omega) (by omega)
      have hpi : (X : Int) * (s : Int) = ((X * s : Nat) : Int) := by rw [Int.natCast_mul]
      obtain ⟨P, hP⟩ : ∃ P, P = X * s := ⟨_, rfl⟩
      rw [← hP] at hp hpi
      obtain ⟨G, hG⟩ : ∃ G, G = R * 4294967296 + a0 := ⟨_, rfl⟩
      have hor : bits BinOp.or IntKind.u64 ((R : Int) * 4294967296) (a0 : Int) = (G : Int) := by
        rw [show (R : Int) * 4294967296 = ((R * 4294967296 : Nat) : Int) from by omega, u64_or_nat _ _ (by omega) (by omega), nat_join 32 _ _ (by omega) (by omega), hG]
      have HP := Lib.hid hP
      have HG := Lib.hid hG
      clear hP hG
      by_cases hgt : G < P
      · have t1 : decide (G < P) = true := decide_eq_true hgt
        have t2 : decide ((G : Int) < (P : Int)) = true := decide_eq_true (by omega)
        have hX1 : 1 ≤ X := by
          apply Classical.byContradiction
          intro hc
          have h1 := HP.out
          rw [show X = 0 by omega, Nat.zero_mul] at h1
          omega
        have HB := Lib.hid (LOW.out X R hxr.out (by rw [← HP.out, ← HG.out]; exact hgt))
        have HX := Lib.hid (show (X - 1) * f + (R + f) = top ∧ W < (X - 1 + 1) * V by
          have h1 := hxr.out
          obtain ⟨Y, rfl⟩ : ∃ Y, X = Y + 1 := ⟨X - 1, by omega⟩
          rw [Nat.add_mul, Nat.one_mul] at h1
          exact ⟨by rw [Nat.add_sub_cancel]; omega, by rw [Nat.add_sub_cancel]; exact HB.out⟩)
        clear hgt
        by_cases hbr : 4294967296 ≤ R + f
        · have e2 : ((R : Int) + (f : Int)) / 4294967296 = 1 := by omega
          have HR := Lib.hid (est_end (a0 := a0) HX.out.1 HT.out hbr hX bs)
          clear hbr
          go_wp2
          go_ret
          exact ⟨X - 1, ret_int (by omega), HR.out.1, HX.out.2, HIGH.out _ _ HX.out.1 HR.out.2 (by have := HR.out.1; omega), HW.out⟩
        · have e2 : ((R : Int) + (f : Int)) / 4294967296 = 0 := by omega
          go_wp2
          go_roundw
          case rel => exact ⟨X - 1, R + f, by go_num, by go_num, by omega, by omega, HX.out.1, HX.out.2, trivial⟩
          case measure => simp [intOf] <;> omega
      · have t1 : decide (G < P) = false := decide_eq_false hgt
        have t2 : decide ((G : Int) < (P : Int)) = false := decide_eq_false (by omega)
        have HE := Lib.hid (HIGH.out X R hxr.out (by rw [← HP.out, ← HG.out]; omega) (by omega))
        clear hgt
        go_wp2
        go_ret
        exact ⟨X, rfl, by omega, hwx.out, HE.out, HW.out⟩
end Go.Proofs.YtipjbnbmackidaaGreat

namespace Go.Proofs.YtipjbnbmackidaaGreat
open Go.RowKit

theorem limbs_join {lo a k : Nat} (ha : a ≠ 0) (hl : (Nl.limbs lo).length ≤ k) :
    Nl.limbs lo ++ (Nl.zeros (k - (Nl.limbs lo).length) ++ Nl.limbs a) = Nl.limbs (lo + 4294967296 ^ k * a) := by
  have hv : Nl.val (Nl.limbs lo ++ (Nl.zeros (k - (Nl.limbs lo).length) ++ Nl.limbs a)) = lo + 4294967296 ^ k * a := by
    rw [Nl.val_append, Nl.val_append, Nl.val_replicate, Nl.val_limbs, Nl.val_limbs, Nl.zeros_length, Nat.zero_add, ← Nat.mul_assoc, ← Nat.pow_add, show (Nl.limbs lo).length + (k - (Nl.limbs lo).length) = k from by omega]
  rw [← hv]
  refine (Nl.limbs_val ⟨Nl.small_append.2 ⟨Nl.limbs_small _, Nl.small_append.2 ⟨Nl.small_replicate _, Nl.limbs_small _⟩⟩, ?_⟩).symm
  rw [← List.append_assoc, List.getLast?_append]
  have h1 := Nl.limbs_last a
  cases h : (Nl.limbs a).getLast? with
  | none => rw [List.getLast?_eq_none_iff] at h; exact absurd (Nl.limbs_eq_nil.1 h) ha
  | some x => rw [h] at h1; simpa using h1

theorem splice_join (k : Nat) (lo a : List Nat) (h : lo.length ≤ k) : splice (lo ++ Nl.zeros (k + a.length - lo.length)) k a = lo ++ (Nl.zeros (k - lo.length) ++ a) := by
  have h1 : (lo ++ Nl.zeros (k + a.length - lo.length)).take k = lo ++ Nl.zeros (k - lo.length) := by
    rw [List.take_append, List.take_of_length_le h]
    simp only [Nl.zeros, List.take_replicate]
    rw [Nat.min_eq_left (by omega)]
  have h2 : (lo ++ Nl.zeros (k + a.length - lo.length)).drop (k + a.length) = [] := by
    apply List.drop_of_length_le
    rw [List.length_append, Nl.zeros_length]; omega
  rw [splice, h1, h2, List.append_nil, List.append_assoc]

set_option maxHeartbeats 1000000 in
theorem joined_any (va vl : Value) (a lo k : Nat) (w : World) (ha : IsN w va a) (hlo : IsN w vl lo) (hla : (Nl.limbs a).length ≤ 1000000) (hk : k ≤ 1000000) (hl : (Nl.limbs lo).length ≤ k) :
    Calls Tryz.prog 281 #[va, vl, .int .i64 k] w fun e w' => (∃ v, e = .returned v ∧ IsN w' v (lo + 4294967296 ^ k * a)) ∧ Below w.heap.size w w' := by
  have HA := Lib.hid ha
  have HL := Lib.hid hlo
  obtain ⟨aa, ca, rfl, -⟩ := ha.form
  obtain ⟨al, cl, rfl, -⟩ := hlo.form
  clear ha hlo
  by_cases hz : (Nl.limbs a).length = 0
  · have e0 : (((Nl.limbs a).length : Int) == 0) = true := by simp [hz]
    have HZ := Lib.hid hz
    clear hz
    go_enter Tryz.func281, Tryz.ntmps281
    go_wp2_with fail
    go_ret
    refine ⟨⟨_, rfl, ?_⟩, Below.refl _ _⟩
    rw [Nl.len_zero HZ.out, Nat.mul_zero, Nat.add_zero]
    exact HL.out
  have e0 : (((Nl.limbs a).length : Int) == 0) = false := by rw [beq_eq_false_iff_ne]; omega
  have ha0 : a ≠ 0 := by rintro rfl; rw [Nl.limbs_zero] at hz; exact hz rfl
  have hpos : 0 < (Nl.limbs a).length := by omega
  have hmk := make_words 191 Tryz.underlying191 w ((k : Int) + (Nl.limbs a).length) (k + (Nl.limbs a).length) (by omega) (by omega)
  have HZ := Lib.hid ha0
  clear hz ha0
  go_enter Tryz.func281, Tryz.ntmps281
  go_wp2_with (with_reducible refine wp_copy rfl (.tmp 17) (.tmp 18) 191 191 rfl Tryz.underlying191 _ _ _ _ _ _ rfl rfl w.heap.size 0 (Nl.zeros (k + (Nl.limbs a).length)) (Nl.limbs lo) (row_new w _) ?_ ?_ ?_ w.heap.size w ?_ ?_ ?_)
  · exact (Nat.min_eq_left (by omega)).symm
  · intro h0
    obtain ⟨b', f', h1, -, h2⟩ := (HL.out.alloc _).cells h0
    exact ⟨b', f', h1, h2⟩
  · rw [Nl.zeros_length]; omega
  · exact (Below.refl _ _).alloc (Nat.le_refl _) _
  · exact Nat.le_refl _
  intro w1 hr1 hb1
  rw [splice_zeros] at hr1
  clear hmk
  have hle : (Nl.limbs lo ++ Nl.zeros (k + (Nl.limbs a).length - (Nl.limbs lo).length)).length = k + (Nl.limbs a).length := by rw [List.length_append, Nl.zeros_length]; omega
  obtain ⟨Z, hZ⟩ : ∃ Z, Z = Nl.limbs lo ++ Nl.zeros (k + (Nl.limbs a).length - (Nl.limbs lo).length) := ⟨_, rfl⟩
  rw [← hZ] at hr1 hle
  have HZZ := Lib.hid hZ
  have HLE := Lib.hid hle
  clear hZ hle
  have hA1 : IsN w1 (.slice aa (Nl.limbs a).length ca) a := HA.out.below hb1
  have HA1 := Lib.hid hA1
  clear hA1
  have hcap : ¬ (Nl.limbs a = []) := by intro h; rw [h] at hpos; simp at hpos
  go_wp2_with (with_reducible refine wp_copy rfl (.tmp 22) (.tmp 23) 191 191 rfl Tryz.underlying191 _ _ _ _ _ _ rfl rfl w.heap.size k Z (Nl.limbs a) hr1.out ?_ ?_ ?_ w.heap.size w hb1 ?_ ?_)
  · exact (Nat.min_self _).symm
  · obtain ⟨b', f', h1, -, h2⟩ := HA1.out.cells hpos
    exact ⟨b', f', h1, h2⟩
  · rw [HLE.out]; omega
  · exact Nat.le_refl _
  intro w2 hr2 hb2
  rw [HZZ.out, splice_join _ _ _ hl, limbs_join HZ.out hl] at hr2
  have hl2 : (Nl.limbs (lo + 4294967296 ^ k * a)).length = k + (Nl.limbs a).length := by
    rw [← limbs_join HZ.out hl, List.length_append, List.length_append, Nl.zeros_length]; omega
  clear hr1
  have HL2 := Lib.hid hl2
  clear hl2
  go_wp2_with fail
  go_ret
  have hfin : Own w.heap.size w2 (.slice (some ⟨w.heap.size, 0, none⟩) (Nl.limbs (lo + 4294967296 ^ k * a)).length (Nl.limbs (lo + 4294967296 ^ k * a)).length) (Nl.limbs (lo + 4294967296 ^ k * a)) :=
    .inr ⟨_, _, rfl, Nat.le_refl _, hr2.out, List.take_of_length_le (Nat.le_refl _), Nat.le_refl _, by rw [HL2.out]; omega⟩
  rw [HL2.out] at hfin
  exact ⟨⟨_, rfl, hfin.at.at⟩, hb2⟩
end Go.Proofs.YtipjbnbmackidaaGreat
