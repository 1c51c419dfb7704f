/-
  What estimate does. Conditions: those that each theorem names.
  What takeMost does. Conditions: those that each theorem names.
-/
import Derived.Test.YtkbghamkalidcaaGreatLongAll
import Derived.Test.YtkbghamkalidcaaGreatHalves
namespace Go.Proofs.YtkbghamkalidcaaGreat
open Go.RowKit

theorem est_low {X f s top a0 R M l l' V W : Nat} (hV : V = (f * 4294967296 + s) * M + l) (hW : W = (top * 4294967296 + a0) * M + l') (hl' : l' < M) (hX : X * f + R = top) (hgt : R * 4294967296 + a0 < X * s) : W < X * V := by
  have h1 : top * 4294967296 + a0 + 1 ≤ X * (f * 4294967296 + s) := by
    rw [← hX, Nat.mul_add, ← Nat.mul_assoc, Nat.add_mul]; omega
  have h2 := Nat.mul_le_mul_right M h1
  rw [Nat.add_mul (top * 4294967296 + a0) 1 M, Nat.one_mul] at h2
  have h3 : X * (f * 4294967296 + s) * M ≤ X * V := by rw [hV, Nat.mul_add X ((f * 4294967296 + s) * M) l, Nat.mul_assoc]; omega
  omega
theorem est_high {X f s top a0 R M l l' V W : Nat} (hV : V = (f * 4294967296 + s) * M + l) (hW : W = (top * 4294967296 + a0) * M + l') (hl : l < M) (hX : X * f + R = top) (hle : X * s ≤ R * 4294967296 + a0) (hXb : X ≤ f * 4294967296 + s) : X * V ≤ W + V := by
  have h1 : X * (f * 4294967296 + s) ≤ top * 4294967296 + a0 := by
    rw [← hX, Nat.mul_add, ← Nat.mul_assoc, Nat.add_mul]; omega
  have h2 := Nat.mul_le_mul_right M h1
  have h3 : X * V = X * (f * 4294967296 + s) * M + X * l := by rw [hV, Nat.mul_add X ((f * 4294967296 + s) * M) l, Nat.mul_assoc]
  have h4 : X * l ≤ (f * 4294967296 + s) * M := Nat.mul_le_mul hXb (Nat.le_of_lt hl)
  omega
theorem est_top {f s top a0 M l l' V W : Nat} (hV : V = (f * 4294967296 + s) * M + l) (hW : W = (top * 4294967296 + a0) * M + l') (hl : l < M) (hs : s < 4294967296) (hlt : W < 4294967296 * V) : top < (f + 1) * 4294967296 := by
  apply Classical.byContradiction
  intro hc
  obtain ⟨U, hU⟩ : ∃ U, U = (f + 1) * 4294967296 := ⟨_, rfl⟩
  rw [← hU] at hc
  have h2 : (f * 4294967296 + s + 1) * M ≤ U * M := Nat.mul_le_mul_right M (by omega)
  have h3 : U * 4294967296 * M ≤ (top * 4294967296 + a0) * M := Nat.mul_le_mul_right M (by omega)
  rw [Nat.add_mul (f * 4294967296 + s) 1 M, Nat.one_mul] at h2
  rw [Nat.mul_right_comm U 4294967296 M] at h3
  omega
theorem est_first {X f s top a0 R M l l' V W : Nat} (hV : V = (f * 4294967296 + s) * M + l) (hW : W = (top * 4294967296 + a0) * M + l') (hl' : l' < M) (ha : a0 < 4294967296) (hX : X * f + R = top) (hR : R < f) : W < (X + 1) * V := by
  have h1 : top + 1 ≤ (X + 1) * f := by rw [Nat.add_mul]; omega
  have h2 : top * 4294967296 + a0 + 1 ≤ (X + 1) * (f * 4294967296 + s) := by
    rw [Nat.mul_add, ← Nat.mul_assoc]; omega
  have h3 := Nat.mul_le_mul_right M h2
  rw [Nat.add_mul (top * 4294967296 + a0) 1 M, Nat.one_mul] at h3
  have h4 : (X + 1) * (f * 4294967296 + s) * M ≤ (X + 1) * V := by rw [hV, Nat.mul_add (X + 1) ((f * 4294967296 + s) * M) l, Nat.mul_assoc]; omega
  omega
/-- a number by its two first words -/
theorem val_two {ys : List Nat} {N : Nat} (h : ys.length = N + 2) : Nl.val ys = (ys.getD (N + 1) 0 * 4294967296 + ys.getD N 0) * 4294967296 ^ N + Nl.val (ys.take N) := by
  have h1 := Nl.val_take_drop ys N (by omega)
  rw [Nl.val_drop_succ ys N (by omega), Nl.val_drop_succ ys (N + 1) (by omega), List.drop_of_length_le (by omega : ys.length ≤ N + 1 + 1)] at h1
  have h0 : Nl.val [] = 0 := rfl
  rw [← h1, h0, Nat.mul_zero, Nat.add_zero, Nat.mul_comm (4294967296 ^ N), Nat.mul_comm 4294967296 (ys.getD (N + 1) 0), Nat.add_comm (ys.getD N 0), Nat.add_comm (Nl.val _)]
theorem val_three {ys : List Nat} {N : Nat} (h : ys.length = N + 3) : Nl.val ys = ((ys.getD (N + 2) 0 * 4294967296 + ys.getD (N + 1) 0) * 4294967296 + ys.getD N 0) * 4294967296 ^ N + Nl.val (ys.take N) := by
  have h1 := Nl.val_take_drop ys N (by omega)
  rw [Nl.val_drop_succ ys N (by omega), Nl.val_drop_succ ys (N + 1) (by omega), Nl.val_drop_succ ys (N + 1 + 1) (by omega), List.drop_of_length_le (by omega : ys.length ≤ N + 1 + 1 + 1)] at h1
  have h0 : Nl.val [] = 0 := rfl
  have e : ys.getD N 0 + 4294967296 * (ys.getD (N + 1) 0 + 4294967296 * (ys.getD (N + 1 + 1) 0 + 4294967296 * 0)) = (ys.getD (N + 2) 0 * 4294967296 + ys.getD (N + 1) 0) * 4294967296 + ys.getD N 0 := by
    rw [show N + 1 + 1 = N + 2 from rfl]
    generalize ys.getD N 0 = u
    generalize ys.getD (N + 1) 0 = v
    generalize ys.getD (N + 2) 0 = x
    omega
  rw [← h1, h0, e, Nat.mul_comm (4294967296 ^ N), Nat.add_comm]
theorem val_take_lt {ys : List Nat} (hs : Nl.Small ys) (N : Nat) (h : N ≤ ys.length) : Nl.val (ys.take N) < 4294967296 ^ N := by
  have h1 := Nl.val_lt (hs.take N)
  rw [List.length_take, Nat.min_eq_left h] at h1
  exact h1

theorem est_end {X f R s top a0 : Nat} (hX : (X - 1) * f + R = top) (ht : top < (f + 1) * 4294967296) (hR : 4294967296 ≤ R) (hXb : X ≤ 4294967297) (hs : s < 4294967296) : X - 1 < 4294967296 ∧ (X - 1) * s ≤ R * 4294967296 + a0 := by
  constructor
  · apply Classical.byContradiction
    intro hc
    have h1 : 4294967296 * f ≤ (X - 1) * f := Nat.mul_le_mul_right f (by omega)
    omega
  · have h1 : (X - 1) * s ≤ 4294967296 * 4294967295 := Nat.mul_le_mul (by omega) (by omega)
    omega
set_option maxHeartbeats 2000000 in
theorem estimate_any (va vb : Value) (zs ys : List Nat) (N : Nat) (w : World) (ha : At w va zs) (hb : At w vb ys) (hzl : zs.length = N + 3) (hyl : ys.length = N + 2) (hsz : Nl.Small zs) (hsy : Nl.Small ys)
    (htop : 2147483648 ≤ ys.getD (N + 1) 0) (hlt : Nl.val zs < 4294967296 * Nl.val ys) :
    Calls Tryz.prog 269 #[va, vb] w fun e w' => ∃ x : Nat, e = .returned (.int .u64 (x : Int)) ∧ x < 4294967296 ∧ Nl.val zs < (x + 1) * Nl.val ys ∧ x * Nl.val ys ≤ Nl.val zs + Nl.val ys ∧ ∃ k, w' = w.drewN k := by
  have hV := val_two hyl
  have hW := val_three hzl
  have hl := val_take_lt hsy N (by omega)
  have hl' := val_take_lt hsz N (by omega)
  obtain ⟨f, hf⟩ : ∃ x, x = ys.getD (N + 1) 0 := ⟨_, rfl⟩
  obtain ⟨s, hs⟩ : ∃ x, x = ys.getD N 0 := ⟨_, rfl⟩
  obtain ⟨a2, h2⟩ : ∃ x, x = zs.getD (N + 2) 0 := ⟨_, rfl⟩
  obtain ⟨a1, h1⟩ : ∃ x, x = zs.getD (N + 1) 0 := ⟨_, rfl⟩
  obtain ⟨a0, h0⟩ : ∃ x, x = zs.getD N 0 := ⟨_, rfl⟩
  have bf : f < 4294967296 := by rw [hf]; exact hsy.getD _
  have bs : s < 4294967296 := by rw [hs]; exact hsy.getD _
  have b2 : a2 < 4294967296 := by rw [h2]; exact hsz.getD _
  have b1 : a1 < 4294967296 := by rw [h1]; exact hsz.getD _
  have b0 : a0 < 4294967296 := by rw [h0]; exact hsz.getD _
  rcases ha with ⟨-, h⟩ | ⟨ba, oa, ca, rfl, -, hca, hma, hba, hxa⟩
  · rw [h] at hzl; simp at hzl
  rcases hb with ⟨-, h⟩ | ⟨bb, ob, cb, rfl, -, hcb, hmb, hbb, hxb⟩
  · rw [h] at hyl; simp at hyl
  have ca2 := hxa (N + 2) (by omega)
  have ca1 := hxa (N + 1) (by omega)
  have ca0 := hxa N (by omega)
  have cb1 := hxb (N + 1) (by omega)
  have cb0 := hxb N (by omega)
  rw [← hf] at hV htop cb1
  rw [← hs] at hV cb0
  rw [← h2] at hW ca2
  rw [← h1] at hW ca1
  rw [← h0] at hW ca0
  rw [hzl] at hca ⊢
  rw [hyl] at hcb ⊢
  obtain ⟨V, hVe⟩ : ∃ V, V = Nl.val ys := ⟨_, rfl⟩
  obtain ⟨W, hWe⟩ : ∃ W, W = Nl.val zs := ⟨_, rfl⟩
  rw [← hVe] at hV hlt ⊢
  rw [← hWe] at hW hlt ⊢
  obtain ⟨top, htp⟩ : ∃ t, t = a2 * 4294967296 + a1 := ⟨_, rfl⟩
  rw [← htp] at hW
  have ht := est_top hV hW hl bs hlt
  obtain ⟨X0, hX0⟩ : ∃ x, x = top / f := ⟨_, rfl⟩
  obtain ⟨R0, hR0⟩ : ∃ x, x = top % f := ⟨_, rfl⟩
  have hdm := Nat.div_add_mod top f
  have hR0f : R0 < f := by rw [hR0]; exact Nat.mod_lt _ (by omega)
  rw [← hX0, ← hR0, Nat.mul_comm] at hdm
  have hX0b : X0 ≤ 4294967297 := by
    apply Classical.byContradiction
    intro hc
    have h3 : 4294967298 * f ≤ X0 * f := Nat.mul_le_mul_right f (by omega)
    omega
  have hq : (top : Int) / (f : Int) = (X0 : Int) := by rw [hX0]; rfl
  have hr : (top : Int) % (f : Int) = (R0 : Int) := by rw [hR0]; rfl
  have hfz : ¬ ((f : Int) = 0) := by omega
  have hfirst := est_first hV hW hl' b0 hdm hR0f
  have hor : bits BinOp.or IntKind.u64 ((a2 : Int) * 4294967296) (a1 : Int) = (top : Int) := by
    rw [show (a2 : Int) * 4294967296 = ((a2 * 4294967296 : Nat) : Int) from by omega, u64_or_nat _ _ (by omega) (by omega), nat_join 32 _ _ (by omega) (by omega), htp]
  have LOW := Lib.hid (show ∀ X R : Nat, X * f + R = top → R * 4294967296 + a0 < X * s → W < X * V from fun X R h h' => est_low hV hW hl' h h')
  have HIGH := Lib.hid (show ∀ X R : Nat, X * f + R = top → X * s ≤ R * 4294967296 + a0 → X ≤ 4294967296 → X * V ≤ W + V from fun X R h h' h'' => est_high hV hW hl h h' (by omega))
  have HLT := Lib.hid hlt
  have HF := Lib.hid hfirst
  have HDM := Lib.hid hdm
  have HT := Lib.hid ht
  have top64 : top < 18446744073709551616 := by omega
  have hR0b : R0 < 4294967296 := by omega
  clear hV hW hl hl' hf hs h2 h1 h0 hxa hxb hVe hWe htp hX0 hR0 hdm hfirst hlt ht hsz hsy hzl hyl hR0f
  go_enter Tryz.func269, Tryz.ntmps269
  go_wp2
  go_quiet (fail)
  go_wp2
  obtain ⟨w1, hw1⟩ : ∃ w1, w1 = w.drewN nq := ⟨_, rfl⟩
  rw [← hw1]
  have da2 : w1.cell? ⟨ba, oa + (N + 2), none⟩ = some (.int .u32 (a2 : Int)) := by rw [hw1]; exact ca2
  have da1 : w1.cell? ⟨ba, oa + (N + 1), none⟩ = some (.int .u32 (a1 : Int)) := by rw [hw1]; exact ca1
  have da0 : w1.cell? ⟨ba, oa + N, none⟩ = some (.int .u32 (a0 : Int)) := by rw [hw1]; exact ca0
  have HW1 := Lib.hid (show ∃ k, w1 = w.drewN k from ⟨_, hw1⟩)
  clear hw1 ca2 ca1 ca0 cb1 cb0
  go_quiet (fail)
  go_wp2
  obtain ⟨w2, hw2⟩ : ∃ w2, w2 = w1.drewN nq := ⟨_, rfl⟩
  rw [← hw2]
  have HW2 := Lib.hid (show ∃ k, w2 = w.drewN k by obtain ⟨k, hk⟩ := HW1.out; exact ⟨_, by rw [hw2, hk, drewN_drewN]⟩)
  have ea0 : w2.cell? ⟨ba, oa + N, none⟩ = some (.int .u32 (a0 : Int)) := by rw [hw2]; exact da0
  clear hw2 da2 da1 da0 hor HW1
  go_quiet (fail)
  go_wp2
  obtain ⟨w3, hw3⟩ : ∃ w3, w3 = w2.drewN nq := ⟨_, rfl⟩
  rw [← hw3]
  have HW := Lib.hid (show ∃ k, w3 = w.drewN k by obtain ⟨k, hk⟩ := HW2.out; exact ⟨_, by rw [hw3, hk, drewN_drewN]⟩)
  have c0 : w3.cell? ⟨ba, oa + N, none⟩ = some (.int .u32 (a0 : Int)) := by rw [hw3]; exact ea0
  have HRR := Lib.hid hr
  clear hw3 ea0 hq hr HW2
  go_loopw [9, 10] (fun x r wr => ∃ X R : Nat, x = .int .u64 X ∧ r = .int .u64 R ∧ R < 4294967296 ∧ X ≤ 4294967297 ∧ Hid (X * f + R = top) ∧ Hid (W < (X + 1) * V) ∧ wr = w3) (fun x _ _ => (intOf x).toNat)
  case atStart => exact ⟨X0, R0, rfl, by first | rfl | rw [HRR.out], hR0b, hX0b, HDM, HF, rfl⟩
  case round =>
    obtain ⟨X, R, rfl, rfl, hR, hX, hxr, hwx, rfl⟩ := hrel
    by_cases hbig : 4294967296 ≤ X
    · have e1 : (X : Int) / 4294967296 = 1 := by omega
      have HB := Lib.hid (show W < X * V by
        have h1 := Nat.mul_le_mul_right V hbig
        have h2 := HLT.out
        omega)
      clear hbig
      have HX := Lib.hid (show (X - 1) * f + (R + f) = top ∧ W < (X - 1 + 1) * V by
        have h1 := hxr.out
        obtain ⟨Y, rfl⟩ : ∃ Y, X = Y + 1 := ⟨X - 1, by omega⟩
        rw [Nat.add_mul, Nat.one_mul] at h1
        exact ⟨by rw [Nat.add_sub_cancel]; omega, by rw [Nat.add_sub_cancel]; exact HB.out⟩)
      by_cases hbr : 4294967296 ≤ R + f
      · have e2 : ((R : Int) + (f : Int)) / 4294967296 = 1 := by omega
        have HR := Lib.hid (est_end (a0 := a0) HX.out.1 HT.out hbr hX bs)
        clear hbr
        go_wp2
        go_ret
        exact ⟨X - 1, ret_int (by omega), HR.out.1, HX.out.2, HIGH.out _ _ HX.out.1 HR.out.2 (by have := HR.out.1; omega), HW.out⟩
      · have e2 : ((R : Int) + (f : Int)) / 4294967296 = 0 := by omega
        go_wp2
        go_roundw
        case rel => exact ⟨X - 1, R + f, by go_num, by go_num, by omega, by omega, HX.out.1, HX.out.2, trivial⟩
        case measure => simp [intOf] <;> omega
    · have e1 : (X : Int) / 4294967296 = 0 := by omega
      have hp : X * s ≤ 4294967295 * 4294967295 := Nat.mul_le_mul (by omega) (by omega)
      have hpi : (X : Int) * (s : Int) = ((X * s : Nat) : Int) := by rw [Int.natCast_mul]
      obtain ⟨P, hP⟩ : ∃ P, P = X * s := ⟨_, rfl⟩
      rw [← hP] at hp hpi
      obtain ⟨G, hG⟩ : ∃ G, G = R * 4294967296 + a0 := ⟨_, rfl⟩
      have hor : bits BinOp.or IntKind.u64 ((R : Int) * 4294967296) (a0 : Int) = (G : Int) := by
        rw [show (R : Int) * 4294967296 = ((R * 4294967296 : Nat) : Int) from by omega, u64_or_nat _ _ (by omega) (by omega), nat_join 32 _ _ (by omega) (by omega), hG]
      have HP := Lib.hid hP
      have HG := Lib.hid hG
      clear hP hG
      by_cases hgt : G < P
      · have t1 : decide (G < P) = true := decide_eq_true hgt
        have t2 : decide ((G : Int) < (P : Int)) = true := decide_eq_true (by omega)
        have hX1 : 1 ≤ X := by
          apply Classical.byContradiction
          intro hc
          have h1 := HP.out
          rw [show X = 0 by omega, Nat.zero_mul] at h1
          omega
        have HB := Lib.hid (LOW.out X R hxr.out (by rw [← HP.out, ← HG.out]; exact hgt))
        have HX := Lib.hid (show (X - 1) * f + (R + f) = top ∧ W < (X - 1 + 1) * V by
          have h1 := hxr.out
          obtain ⟨Y, rfl⟩ : ∃ Y, X = Y + 1 := ⟨X - 1, by omega⟩
          rw [Nat.add_mul, Nat.one_mul] at h1
          exact ⟨by rw [Nat.add_sub_cancel]; omega, by rw [Nat.add_sub_cancel]; exact HB.out⟩)
        clear hgt
        by_cases hbr : 4294967296 ≤ R + f
        · have e2 : ((R : Int) + (f : Int)) / 4294967296 = 1 := by omega
          have HR := Lib.hid (est_end (a0 := a0) HX.out.1 HT.out hbr hX bs)
          clear hbr
          go_wp2
          go_ret
          exact ⟨X - 1, ret_int (by omega), HR.out.1, HX.out.2, HIGH.out _ _ HX.out.1 HR.out.2 (by have := HR.out.1; omega), HW.out⟩
        · have e2 : ((R : Int) + (f : Int)) / 4294967296 = 0 := by omega
          go_wp2
          go_roundw
          case rel => exact ⟨X - 1, R + f, by go_num, by go_num, by omega, by omega, HX.out.1, HX.out.2, trivial⟩
          case measure => simp [intOf] <;> omega
      · have t1 : decide (G < P) = false := decide_eq_false hgt
        have t2 : decide ((G : Int) < (P : Int)) = false := decide_eq_false (by omega)
        have HE := Lib.hid (HIGH.out X R hxr.out (by rw [← HP.out, ← HG.out]; omega) (by omega))
        clear hgt
        go_wp2
        go_ret
        exact ⟨X, rfl, by omega, hwx.out, HE.out, HW.out⟩
end Go.Proofs.YtkbghamkalidcaaGreat

namespace Go.Proofs.YtkbghamkalidcaaGreat
open Go.RowKit

/-- the estimate was one too large -/
theorem most_less {W V M v1 x c high low2 h2 c2 : Nat} (hW : W < (x + 1) * V) (hx : x * V ≤ W + V) (hV : V < M) (hv1 : v1 < M) (hl2 : low2 < M) (low : Nat) (hWd : W = low + M * high)
    (h1 : v1 + x * V = low + M * c) (hc : high < c) (h3 : low2 + M * h2 + M * (4294967296 * c2) = v1 + M * high + V) : 1 ≤ x ∧ W / V = x - 1 ∧ low2 = W % V := by
  have hx1 : 1 ≤ x := by
    apply Classical.byContradiction
    intro h
    rw [show x = 0 by omega, Nat.zero_mul] at h1
    have h2 : M * 1 ≤ M * c := Nat.mul_le_mul_left M (by omega)
    omega
  obtain ⟨y, rfl⟩ : ∃ y, x = y + 1 := ⟨x - 1, by omega⟩
  obtain ⟨e, rfl⟩ : ∃ e, c = high + 1 + e := ⟨c - high - 1, by omega⟩
  rw [Nat.add_mul, Nat.one_mul] at hx h1
  rw [Nat.mul_add M (high + 1) e, Nat.mul_add M high 1, Nat.mul_one] at h1
  have he : e = 0 := by
    apply Classical.byContradiction
    intro h
    have h2 : M * 1 ≤ M * e := Nat.mul_le_mul_left M (by omega)
    omega
  rw [he, Nat.mul_zero] at h1
  have hy : W = V * y + (W - y * V) := by rw [Nat.mul_comm]; omega
  have hlt : W - y * V < V := by omega
  refine ⟨by omega, ?_, ?_⟩
  · rw [hy, Nat.mul_add_div (by omega), Nat.div_eq_of_lt hlt]; rfl
  · have hr : W % V = W - y * V := by
      conv => lhs; rw [hy]
      rw [Nat.mul_add_mod, Nat.mod_eq_of_lt hlt]
    rw [hr]
    have h4 : (low2 + M * (h2 + 4294967296 * c2)) % M = (W - y * V + M * (high + 1)) % M := by
      congr 1
      rw [Nat.mul_add M h2, Nat.mul_add M high 1, Nat.mul_one]
      omega
    rw [Nat.add_mul_mod_self_left, Nat.add_mul_mod_self_left, Nat.mod_eq_of_lt hl2, Nat.mod_eq_of_lt (by omega)] at h4
    exact h4
theorem most_just {W V M v1 x c high : Nat} (hW : W < (x + 1) * V) (hV : V < M) (low : Nat) (hWd : W = low + M * high)
    (h1 : v1 + x * V = low + M * c) (hc : c ≤ high) : W / V = x ∧ v1 = W % V := by
  obtain ⟨e, rfl⟩ : ∃ e, high = c + e := ⟨high - c, by omega⟩
  rw [Nat.mul_add] at hWd
  rw [Nat.add_mul, Nat.one_mul] at hW
  have he : e = 0 := by
    apply Classical.byContradiction
    intro h
    have h2 : M * 1 ≤ M * e := Nat.mul_le_mul_left M (by omega)
    omega
  rw [he, Nat.mul_zero] at hWd
  have hy : W = V * x + v1 := by rw [Nat.mul_comm]; omega
  have hlt : v1 < V := by omega
  constructor
  · rw [hy, Nat.mul_add_div (by omega), Nat.div_eq_of_lt hlt]; rfl
  · rw [hy, Nat.mul_add_mod, Nat.mod_eq_of_lt hlt]
theorem val_last {Z : List Nat} {k : Nat} (h : Z.length = k + 1) : Nl.val Z = Nl.val (Z.take k) + 4294967296 ^ k * Z.getD k 0 := by
  rw [← Nl.val_take_succ Z k (by omega), List.take_of_length_le (by omega)]
theorem val_set_last {Z : List Nat} {k y : Nat} (h : Z.length = k + 1) : Nl.val (Z.set k y) = Nl.val (Z.take k) + 4294967296 ^ k * y := by
  have h1 := Nl.val_take_set Z k y (by omega)
  rw [List.take_of_length_le (by rw [List.length_set]; omega)] at h1
  exact h1

set_option maxHeartbeats 2000000 in
theorem takeMost_any (g off cap N : Nat) (A Z C ys : List Nat) (vb : Value) (w : World) (hr : Row w g (A ++ (Z ++ C))) (ho : off = A.length) (hzl : Z.length = N + 3) (hyl : ys.length = N + 2) (hsz : Nl.Small Z) (hsy : Nl.Small ys)
    (hb : AtP (· ≠ g) w vb ys) (hcl : N + 3 ≤ cap) (hcap : cap ≤ 9223372036854775807) (htop : 2147483648 ≤ ys.getD (N + 1) 0) (hlt : Nl.val Z < 4294967296 * Nl.val ys) :
    Calls Tryz.prog 250 #[.slice (some ⟨g, off, none⟩) (N + 3) cap, vb] w fun e w' => e = .returned (.int .u32 ((Nl.val Z / Nl.val ys : Nat) : Int)) ∧ ∃ Z', Mid w w' g A Z' C ∧ Z'.length = N + 3 ∧ Nl.Small Z' ∧ Nl.val Z' = Nl.val Z % Nl.val ys := by
  have hat : At w (.slice (some ⟨g, off, none⟩) (N + 3) cap) Z := .inr ⟨g, off, cap, by rw [hzl], trivial, by omega, hcap, hr.lt, hr.cells fun i hi => ⟨by rw [ho]; simp; omega, by rw [ho]; exact Nl.getD_mid hi⟩⟩
  have hE := estimate_any _ vb Z ys N w hat hb.at hzl hyl hsz hsy htop hlt
  have hM0 : Mid w w g A Z C := ⟨hr, Only.refl g w⟩
  have hVM : Nl.val ys < 4294967296 ^ (N + 2) := by
    have h1 := Nl.val_lt hsy
    rw [hyl] at h1
    exact h1
  obtain ⟨V, hV⟩ : ∃ V, V = Nl.val ys := ⟨_, rfl⟩
  obtain ⟨W, hW⟩ : ∃ W, W = Nl.val Z := ⟨_, rfl⟩
  obtain ⟨M, hMe⟩ : ∃ M, M = 4294967296 ^ (N + 2) := ⟨_, rfl⟩
  obtain ⟨high, hhi⟩ : ∃ h, h = Z.getD (N + 2) 0 := ⟨_, rfl⟩
  have hWd := val_last (Z := Z) (k := N + 2) hzl
  rw [← hW, ← hMe, ← hhi] at hWd
  rw [← hV, ← hW] at hE hlt ⊢
  rw [← hV, ← hMe] at hVM
  have hh2 : high < 4294967296 := by rw [hhi]; exact hsz.getD _
  obtain ⟨b, cb, rfl, fb⟩ := hb.form
  rw [hyl] at hb hE ⊢
  have HE := Lib.hid hE
  have HB := Lib.hid hb
  have HM0 := Lib.hid hM0
  have HH := Lib.hid hhi
  have HO := Lib.hid ho
  have HZL := Lib.hid hzl
  have HYL := Lib.hid hyl
  have HS := Lib.hid (And.intro hsz hsy)
  have HV := Lib.hid hV
  have HW := Lib.hid hW
  have HME := Lib.hid hMe
  have HVM := Lib.hid hVM
  have HWD := Lib.hid hWd
  clear hat hE hM0 hb fb hr ho hzl hyl hsz hsy hV hW hMe hVM hWd hhi htop hlt
  go_enter Tryz.func250, Tryz.ntmps250
  go_wp2_with fail
  refine HE.out.mono ?_
  rintro e w1 ⟨x, rfl, hx, hwx, hxv, k, hk⟩
  have hM1 : Mid w w1 g A Z C := by rw [hk]; exact ⟨HM0.out.1, grown_of_below (below_drewN w k _)⟩
  have hbw : Below w.heap.size w w1 := by rw [hk]; exact below_drewN w k _
  have ch := hM1.cell HO.out (i := N + 2) (by rw [HZL.out]; omega)
  rw [← HH.out] at ch
  have hD := decreaseTimes_any g off (N + 3) cap x A Z C _ _ w1 HZL.out hM1.1 HO.out HS.out.1 HS.out.2 (HB.out.below hbw) (by rw [HYL.out]; omega) hcl hcap hx
  have HD := Lib.hid hD
  have HM1 := Lib.hid hM1
  have HXX := Lib.hid (And.intro hwx hxv)
  have HBW := Lib.hid hbw
  clear hk hM1 hwx hxv hD hbw
  go_wp2_with fail
  refine HD.out.mono ?_
  rintro e w2 ⟨Z1, c, rfl, hc, hm2, hl1, hs1, hdr, hv1⟩
  have HB2 := Lib.hid ((HB.out.below HBW.out).only hm2.2 (fun _ h => h))
  have HM2 := Lib.hid (show Mid w w2 g A Z1 C from ⟨hm2.1, grown_trans HM1.out.2 hm2.2⟩)
  have HL1 := Lib.hid hl1
  have HS1 := Lib.hid hs1
  have hgh : Z1.getD (N + 2) 0 = high := by
    rw [HYL.out] at hdr
    rw [HH.out]
    exact Nl.getD_of_drop hdr
  have hv1' : Nl.val (Z1.take (N + 2)) + x * V = Nl.val (Z.take (N + 2)) + M * c := by
    rw [HYL.out, ← HV.out, ← HME.out] at hv1
    exact hv1
  have hlow : Nl.val (Z1.take (N + 2)) < M := by
    rw [HME.out]
    exact val_take_lt hs1 (N + 2) (by rw [hl1]; omega)
  have HGH := Lib.hid hgh
  have HV1 := Lib.hid hv1'
  have HLOW := Lib.hid hlow
  clear hm2 hl1 hs1 hdr hv1 hgh hv1' hlow ch
  by_cases hcg : high < c
  · have t1 : decide (high < c) = true := decide_eq_true hcg
    have t2 : decide ((high : Int) < (c : Int)) = true := decide_eq_true (by omega)
    have hI := increase_mid g off (N + 3) cap A Z1 C _ _ w2 HL1.out HM2.out.1 HO.out HS1.out HS.out.2 HB2.out (by rw [HYL.out]; omega) hcl hcap
    have HI := Lib.hid hI
    have HCG := Lib.hid hcg
    have hx1 : 1 ≤ x := by
      apply Classical.byContradiction
      intro h
      have h1 := HV1.out
      have h2 := HLOW.out
      rw [show x = 0 by omega, Nat.zero_mul] at h1
      have h3 : M * 1 ≤ M * c := Nat.mul_le_mul_left M (by omega)
      omega
    clear hI hcg
    go_wp2_with fail
    refine HI.out.mono ?_
    rintro e w3 ⟨rfl, Z2, c2, hm3, hl2, hs2, hv2⟩
    have HM3 := Lib.hid (show Mid w w3 g A Z2 C from ⟨hm3.1, grown_trans HM2.out.2 hm3.2⟩)
    have hlow2 : Nl.val (Z2.take (N + 2)) < M := by
      rw [HME.out]
      exact val_take_lt hs2 (N + 2) (by rw [hl2]; omega)
    have hv3 : Nl.val (Z2.take (N + 2)) + M * Z2.getD (N + 2) 0 + M * (4294967296 * c2) = Nl.val (Z1.take (N + 2)) + M * high + V := by
      rw [val_last (k := N + 2) hl2, val_last (k := N + 2) HL1.out, HGH.out, ← HV.out, ← HME.out, show N + 3 = (N + 2) + 1 from rfl, Nat.pow_succ, ← HME.out, Nat.mul_assoc] at hv2
      exact hv2
    have hml := most_less HXX.out.1 HXX.out.2 HVM.out HLOW.out hlow2 _ HWD.out HV1.out HCG.out hv3
    have HQ := Lib.hid hml
    have HL2 := Lib.hid hl2
    have HS2 := Lib.hid hs2
    have fz := hm3.1.free (off + (N + 2))
    have cz := HM3.out.cell HO.out (i := N + 2) (by rw [hl2]; omega)
    clear hm3 hl2 hs2 hv2 hlow2 hv3 hml
    go_wp2_with fail
    go_ret
    refine ⟨ret_int (by rw [HQ.out.2.1]; omega), Z2.set (N + 2) 0, HM3.out.set HO.out (by rw [HL2.out]; omega) 0, by rw [List.length_set]; exact HL2.out, HS2.out.set _ (by decide), ?_⟩
    rw [val_set_last HL2.out, Nat.mul_zero, Nat.add_zero]
    exact HQ.out.2.2
  · have t1 : decide (high < c) = false := decide_eq_false hcg
    have t2 : decide ((high : Int) < (c : Int)) = false := decide_eq_false (by omega)
    obtain ⟨hq, hrm⟩ := most_just HXX.out.1 HVM.out _ HWD.out HV1.out (by omega)
    have HQ := Lib.hid (And.intro hq hrm)
    have fz := HM2.out.1.free (off + (N + 2))
    have cz := HM2.out.cell HO.out (i := N + 2) (by rw [HL1.out]; omega)
    clear hq hrm hcg
    go_wp2_with fail
    go_ret
    refine ⟨ret_int (by rw [HQ.out.1]), Z1.set (N + 2) 0, HM2.out.set HO.out (by rw [HL1.out]; omega) 0, by rw [List.length_set]; exact HL1.out, HS1.out.set _ (by decide), ?_⟩
    rw [val_set_last HL1.out, Nat.mul_zero, Nat.add_zero]
    exact HQ.out.2
end Go.Proofs.YtkbghamkalidcaaGreat
