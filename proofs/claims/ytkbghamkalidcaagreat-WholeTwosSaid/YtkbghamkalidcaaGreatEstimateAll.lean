/-
  What decreaseTimes and estimate do. Conditions: those that each theorem names.
  What estimate does. Conditions: those that each theorem names.
-/
import Derived.Test.YtkbghamkalidcaaGreatPairs
import Derived.BigQuiet
namespace Go.Proofs.YtkbghamkalidcaaGreat
open Go.RowKit

/-- one step of a difference with a product -/
theorem dec_step {Z Z' ys : List Nat} {k c x y s c' : Nat} (hl : Z'.length = Z.length) (hk : k < Z.length) (hky : k < ys.length) (hd : Z'.drop k = Z.drop k) (hy : y = ys.getD k 0)
    (hv : Nl.val (Z'.take k) + x * Nl.val (ys.take k) = Nl.val (Z.take k) + 4294967296 ^ k * c) (hs : s + x * y + c = Z'.getD k 0 + 4294967296 * c') :
    Nl.val ((Z'.set k s).take (k + 1)) + x * Nl.val (ys.take (k + 1)) = Nl.val (Z.take (k + 1)) + 4294967296 ^ (k + 1) * c' := by
  refine Nl.sub_step hl hk hd hv (x * y) ?_ hs
  rw [Nl.val_take_succ _ _ hky, Nat.mul_add, ← hy, Nat.mul_left_comm x]

set_option maxHeartbeats 1000000 in
theorem decreaseTimes_any (g off n cap x : Nat) (A Z C ys : List Nat) (vb : Value) (w : World) (hn : Z.length = n) (hr : Row w g (A ++ (Z ++ C))) (ho : off = A.length) (hZ : Nl.Small Z) (hys : Nl.Small ys)
    (hb : AtP (· ≠ g) w vb ys) (hl : ys.length ≤ n) (hzl : n ≤ cap) (_hcap : cap ≤ 9223372036854775807) (hx : x < 4294967296) :
    Calls Tryz.prog 270 #[.slice (some ⟨g, off, none⟩) n cap, vb, .int .u32 x] w fun e w' =>
      ∃ Z' c, e = .returned (.int .u64 ((c : Nat) : Int)) ∧ c < 4294967296 ∧ Mid w w' g A Z' C ∧ Z'.length = n ∧ Nl.Small Z' ∧ Z'.drop ys.length = Z.drop ys.length ∧
        Nl.val (Z'.take ys.length) + x * Nl.val ys = Nl.val (Z.take ys.length) + 4294967296 ^ ys.length * c := by
  have hM := Lib.hid (show Mid w w g A Z C from ⟨hr, Only.refl g w⟩)
  have HO := Lib.hid ho
  have HNN := Lib.hid hn
  have sb := hb.short
  obtain ⟨b, cb, rfl, fb⟩ := hb.form
  have FB := Lib.hid fb
  clear hr ho hb fb hn
  go_enter Tryz.func270, Tryz.ntmps270
  go_wp2
  go_loopw [7, 17] (fun c i wr => ∃ (k : Nat) (d : Nat) (Z' : List Nat), k ≤ ys.length ∧ i = .int .i64 k ∧ c = .int .u64 (d : Int) ∧ d < 4294967296 ∧ Hid (Mid w wr g A Z' C) ∧ Hid (Z'.length = Z.length) ∧ Hid (Nl.Small Z') ∧ Hid (Z'.drop k = Z.drop k) ∧
      Hid (Nl.val (Z'.take k) + x * Nl.val (ys.take k) = Nl.val (Z.take k) + 4294967296 ^ k * d)) (fun _ i _ => (ys.length - (intOf i).toNat))
  case atStart => exact ⟨0, 0, Z, by omega, rfl, rfl, by omega, hM, rfl, hZ, rfl, by simp [Hid]⟩
  case round =>
    obtain ⟨k, d, Z', hk, rfl, rfl, hd, hm, hlen, hsm, hdr, hv⟩ := hrel
    by_cases hlt : k < ys.length
    · obtain ⟨y, hy⟩ : ∃ y, y = ys.getD k 0 := ⟨_, rfl⟩
      obtain ⟨z, hz⟩ : ∃ z, z = Z'.getD k 0 := ⟨_, rfl⟩
      have hz2 : z < 4294967296 := by rw [hz]; exact hsm.out.getD k
      have hy2 : y < 4294967296 := by rw [hy]; exact hys.getD k
      have cx := hm.out.cell HO.out (i := k) (by rw [hlen.out, HNN.out]; omega)
      rw [← hz] at cx
      have fx := hm.out.1.free (off + k)
      rcases FB.out with fb | ⟨bb, ob, rfl, hbg, hcb, -, hbb, hcy⟩
      · rw [fb] at hlt; simp at hlt
      have cy : wr.cell? ⟨bb, ob + k, none⟩ = some (.int .u32 (y : Int)) := by rw [hy]; exact hm.out.2.cell (hcy k hlt) (by simpa using hbg)
      have hp : x * y ≤ 4294967295 * 4294967295 := Nat.mul_le_mul (by omega) (by omega)
      have hpi : (x : Int) * (y : Int) = ((x * y : Nat) : Int) := by rw [Int.natCast_mul]
      obtain ⟨p, hpp⟩ : ∃ p, p = x * y := ⟨_, rfl⟩
      rw [← hpp] at hp hpi
      have Hz := Lib.hid hz
      have Hy := Lib.hid hy
      have Hp := Lib.hid hpp
      clear hz hy hcy hpp
      by_cases hbw : z < (p + d) % 4294967296
      · have t1 : decide ((z : Int) < ((p : Int) + (d : Int)) % 4294967296) = true := decide_eq_true (by omega)
        obtain ⟨s, hs⟩ : ∃ s, s = z + 4294967296 - (p + d) % 4294967296 := ⟨_, rfl⟩
        have hsub : ((z : Int) - ((p : Int) + (d : Int)) % 4294967296) % 4294967296 = (s : Int) := by omega
        have HR := Lib.hid (show s + p + d = z + 4294967296 * ((p + d) / 4294967296 + 1) ∧ s < 4294967296 ∧ (p + d) / 4294967296 + 1 < 4294967296 by omega)
        clear hs hbw
        go_wp2
        go_roundw
        case rel =>
          refine ⟨k + 1, (p + d) / 4294967296 + 1, Z'.set k s, by omega, by go_num, by go_num, HR.out.2.2, hm.out.set HO.out (by rw [hlen.out, HNN.out]; omega) _, ?_, ?_, ?_, ?_⟩
          · simpa [Hid] using hlen.out
          · exact hsm.out.set _ HR.out.2.1
          · rw [Hid, Nl.drop_set_succ]; exact Nl.drop_succ_of hdr.out
          · exact dec_step hlen.out (by rw [HNN.out]; omega) hlt hdr.out Hy.out hv.out (by rw [← Hz.out, ← Hp.out]; exact HR.out.1)
        case measure => simp [intOf] <;> omega
      · have t1 : decide ((z : Int) < ((p : Int) + (d : Int)) % 4294967296) = false := decide_eq_false (by omega)
        obtain ⟨s, hs⟩ : ∃ s, s = z - (p + d) % 4294967296 := ⟨_, rfl⟩
        have hsub : ((z : Int) - ((p : Int) + (d : Int)) % 4294967296) % 4294967296 = (s : Int) := by omega
        have HR := Lib.hid (show s + p + d = z + 4294967296 * ((p + d) / 4294967296) ∧ s < 4294967296 ∧ (p + d) / 4294967296 < 4294967296 by omega)
        clear hs hbw
        go_wp2
        go_roundw
        case rel =>
          refine ⟨k + 1, (p + d) / 4294967296, Z'.set k s, by omega, by go_num, by go_num, HR.out.2.2, hm.out.set HO.out (by rw [hlen.out, HNN.out]; omega) _, ?_, ?_, ?_, ?_⟩
          · simpa [Hid] using hlen.out
          · exact hsm.out.set _ HR.out.2.1
          · rw [Hid, Nl.drop_set_succ]; exact Nl.drop_succ_of hdr.out
          · exact dec_step hlen.out (by rw [HNN.out]; omega) hlt hdr.out Hy.out hv.out (by rw [← Hz.out, ← Hp.out]; exact HR.out.1)
        case measure => simp [intOf] <;> omega
    · go_wp2
      go_ret
      refine ⟨Z', d, rfl, hd, hm.out, by rw [hlen.out, HNN.out], hsm.out, ?_, ?_⟩
      · have := hdr.out
        rw [show k = ys.length from by omega] at this
        exact this
      · have := hv.out
        rw [show k = ys.length from by omega, List.take_of_length_le (Nat.le_refl ys.length)] at this
        exact this
end Go.Proofs.YtkbghamkalidcaaGreat

namespace Go.Proofs.YtkbghamkalidcaaGreat
open Go.RowKit

theorem est_low {X f s top a0 R M l l' V W : Nat} (hV : V = (f * 4294967296 + s) * M + l) (hW : W = (top * 4294967296 + a0) * M + l') (hl' : l' < M) (hX : X * f + R = top) (hgt : R * 4294967296 + a0 < X * s) : W < X * V := by
  have h1 : top * 4294967296 + a0 + 1 ≤ X * (f * 4294967296 + s) := by
    rw [← hX, Nat.mul_add, ← Nat.mul_assoc, Nat.add_mul]; omega
  have h2 := Nat.mul_le_mul_right M h1
  rw [Nat.add_mul (top * 4294967296 + a0) 1 M, Nat.one_mul] at h2
  have h3 : X * (f * 4294967296 + s) * M ≤ X * V := by rw [hV, Nat.mul_add X ((f * 4294967296 + s) * M) l, Nat.mul_assoc]; omega
  omega
theorem est_high {X f s top a0 R M l l' V W : Nat} (hV : V = (f * 4294967296 + s) * M + l) (hW : W = (top * 4294967296 + a0) * M + l') (hl : l < M) (hX : X * f + R = top) (hle : X * s ≤ R * 4294967296 + a0) (hXb : X ≤ f * 4294967296 + s) : X * V ≤ W + V := by
  have h1 : X * (f * 4294967296 + s) ≤ top * 4294967296 + a0 := by
    rw [← hX, Nat.mul_add, ← Nat.mul_assoc, Nat.add_mul]; omega
  have h2 := Nat.mul_le_mul_right M h1
  have h3 : X * V = X * (f * 4294967296 + s) * M + X * l := by rw [hV, Nat.mul_add X ((f * 4294967296 + s) * M) l, Nat.mul_assoc]
  have h4 : X * l ≤ (f * 4294967296 + s) * M := Nat.mul_le_mul hXb (Nat.le_of_lt hl)
  omega
theorem est_top {f s top a0 M l l' V W : Nat} (hV : V = (f * 4294967296 + s) * M + l) (hW : W = (top * 4294967296 + a0) * M + l') (hl : l < M) (hs : s < 4294967296) (hlt : W < 4294967296 * V) : top < (f + 1) * 4294967296 := by
  apply Classical.byContradiction
  intro hc
  obtain ⟨U, hU⟩ : ∃ U, U = (f + 1) * 4294967296 := ⟨_, rfl⟩
  rw [← hU] at hc
  have h2 : (f * 4294967296 + s + 1) * M ≤ U * M := Nat.mul_le_mul_right M (by omega)
  have h3 : U * 4294967296 * M ≤ (top * 4294967296 + a0) * M := Nat.mul_le_mul_right M (by omega)
  rw [Nat.add_mul (f * 4294967296 + s) 1 M, Nat.one_mul] at h2
  rw [Nat.mul_right_comm U 4294967296 M] at h3
  omega
theorem est_first {X f s top a0 R M l l' V W : Nat} (hV : V = (f * 4294967296 + s) * M + l) (hW : W = (top * 4294967296 + a0) * M + l') (hl' : l' < M) (ha : a0 < 4294967296) (hX : X * f + R = top) (hR : R < f) : W < (X + 1) * V := by
  have h1 : top + 1 ≤ (X + 1) * f := by rw [Nat.add_mul]; omega
  have h2 : top * 4294967296 + a0 + 1 ≤ (X + 1) * (f * 4294967296 + s) := by
    rw [Nat.mul_add, ← Nat.mul_assoc]; omega
  have h3 := Nat.mul_le_mul_right M h2
  rw [Nat.add_mul (top * 4294967296 + a0) 1 M, Nat.one_mul] at h3
  have h4 : (X + 1) * (f * 4294967296 + s) * M ≤ (X + 1) * V := by rw [hV, Nat.mul_add (X + 1) ((f * 4294967296 + s) * M) l, Nat.mul_assoc]; omega
  omega
/-- a number by its two first words -/
theorem val_two {ys : List Nat} {N : Nat} (h : ys.length = N + 2) : Nl.val ys = (ys.getD (N + 1) 0 * 4294967296 + ys.getD N 0) * 4294967296 ^ N + Nl.val (ys.take N) := by
  have h1 := Nl.val_take_drop ys N (by omega)
  rw [Nl.val_drop_succ ys N (by omega), Nl.val_drop_succ ys (N + 1) (by omega), List.drop_of_length_le (by omega : ys.length ≤ N + 1 + 1)] at h1
  have h0 : Nl.val [] = 0 := rfl
  rw [← h1, h0, Nat.mul_zero, Nat.add_zero, Nat.mul_comm (4294967296 ^ N), Nat.mul_comm 4294967296 (ys.getD (N + 1) 0), Nat.add_comm (ys.getD N 0), Nat.add_comm (Nl.val _)]
theorem val_three {ys : List Nat} {N : Nat} (h : ys.length = N + 3) : Nl.val ys = ((ys.getD (N + 2) 0 * 4294967296 + ys.getD (N + 1) 0) * 4294967296 + ys.getD N 0) * 4294967296 ^ N + Nl.val (ys.take N) := by
  have h1 := Nl.val_take_drop ys N (by omega)
  rw [Nl.val_drop_succ ys N (by omega), Nl.val_drop_succ ys (N + 1) (by omega), Nl.val_drop_succ ys (N + 1 + 1) (by omega), List.drop_of_length_le (by omega : ys.length ≤ N + 1 + 1 + 1)] at h1
  have h0 : Nl.val [] = 0 := rfl
  have e : ys.getD N 0 + 4294967296 * (ys.getD (N + 1) 0 + 4294967296 * (ys.getD (N + 1 + 1) 0 + 4294967296 * 0)) = (ys.getD (N + 2) 0 * 4294967296 + ys.getD (N + 1) 0) * 4294967296 + ys.getD N 0 := by
    rw [show N + 1 + 1 = N + 2 from rfl]
    generalize ys.getD N 0 = u
    generalize ys.getD (N + 1) 0 = v
    generalize ys.getD (N + 2) 0 = x
    omega
  rw [← h1, h0, e, Nat.mul_comm (4294967296 ^ N), Nat.add_comm]
theorem val_take_lt {ys : List Nat} (hs : Nl.Small ys) (N : Nat) (h : N ≤ ys.length) : Nl.val (ys.take N) < 4294967296 ^ N := by
  have h1 := Nl.val_lt (hs.take N)
  rw [List.length_take, Nat.min_eq_left h] at h1
  exact h1

theorem est_end {X f R s top a0 : Nat} (hX : (X - 1) * f + R = top) (ht : top < (f + 1) * 4294967296) (hR : 4294967296 ≤ R) (hXb : X ≤ 4294967297) (hs : s < 4294967296) : X - 1 < 4294967296 ∧ (X - 1) * s ≤ R * 4294967296 + a0 := by
  constructor
  · apply Classical.byContradiction
    intro hc
    have h1 : 4294967296 * f ≤ (X - 1) * f := Nat.mul_le_mul_right f (by omega)
    omega
  · have h1 : (X - 1) * s ≤ 4294967296 * 4294967295 := Nat.mul_le_mul (by omega) (by omega)
    omega
set_option maxHeartbeats 2000000 in
theorem estimate_any (va vb : Value) (zs ys : List Nat) (N : Nat) (w : World) (ha : At w va zs) (hb : At w vb ys) (hzl : zs.length = N + 3) (hyl : ys.length = N + 2) (hsz : Nl.Small zs) (hsy : Nl.Small ys)
    (htop : 2147483648 ≤ ys.getD (N + 1) 0) (hlt : Nl.val zs < 4294967296 * Nl.val ys) :
    Calls Tryz.prog 269 #[va, vb] w fun e w' => ∃ x : Nat, e = .returned (.int .u64 (x : Int)) ∧ x < 4294967296 ∧ Nl.val zs < (x + 1) * Nl.val ys ∧ x * Nl.val ys ≤ Nl.val zs + Nl.val ys ∧ ∃ k, w' = w.drewN k := by
  have hV := val_two hyl
  have hW := val_three hzl
  have hl := val_take_lt hsy N (by omega)
  have hl' := val_take_lt hsz N (by omega)
  obtain ⟨f, hf⟩ : ∃ x, x = ys.getD (N + 1) 0 := ⟨_, rfl⟩
  obtain ⟨s, hs⟩ : ∃ x, x = ys.getD N 0 := ⟨_, rfl⟩
  obtain ⟨a2, h2⟩ : ∃ x, x = zs.getD (N + 2) 0 := ⟨_, rfl⟩
  obtain ⟨a1, h1⟩ : ∃ x, x = zs.getD (N + 1) 0 := ⟨_, rfl⟩
  obtain ⟨a0, h0⟩ : ∃ x, x = zs.getD N 0 := ⟨_, rfl⟩
  have bf : f < 4294967296 := by rw [hf]; exact hsy.getD _
  have bs : s < 4294967296 := by rw [hs]; exact hsy.getD _
  have b2 : a2 < 4294967296 := by rw [h2]; exact hsz.getD _
  have b1 : a1 < 4294967296 := by rw [h1]; exact hsz.getD _
  have b0 : a0 < 4294967296 := by rw [h0]; exact hsz.getD _
  rcases ha with ⟨-, h⟩ | ⟨ba, oa, ca, rfl, -, hca, hma, hba, hxa⟩
  · rw [h] at hzl; simp at hzl
  rcases hb with ⟨-, h⟩ | ⟨bb, ob, cb, rfl, -, hcb, hmb, hbb, hxb⟩
  · rw [h] at hyl; simp at hyl
  have ca2 := hxa (N + 2) (by omega)
  have ca1 := hxa (N + 1) (by omega)
  have ca0 := hxa N (by omega)
  have cb1 := hxb (N + 1) (by omega)
  have cb0 := hxb N (by omega)
  rw [← hf] at hV htop cb1
  rw [← hs] at hV cb0
  rw [← h2] at hW ca2
  rw [← h1] at hW ca1
  rw [← h0] at hW ca0
  rw [hzl] at hca ⊢
  rw [hyl] at hcb ⊢
  obtain ⟨V, hVe⟩ : ∃ V, V = Nl.val ys := ⟨_, rfl⟩
  obtain ⟨W, hWe⟩ : ∃ W, W = Nl.val zs := ⟨_, rfl⟩
  rw [← hVe] at hV hlt ⊢
  rw [← hWe] at hW hlt ⊢
  obtain ⟨top, htp⟩ : ∃ t, t = a2 * 4294967296 + a1 := ⟨_, rfl⟩
  rw [← htp] at hW
  have ht := est_top hV hW hl bs hlt
  obtain ⟨X0, hX0⟩ : ∃ x, x = top / f := ⟨_, rfl⟩
  obtain ⟨R0, hR0⟩ : ∃ x, x = top % f := ⟨_, rfl⟩
  have hdm := Nat.div_add_mod top f
  have hR0f : R0 < f := by rw [hR0]; exact Nat.mod_lt _ (by omega)
  rw [← hX0, ← hR0, Nat.mul_comm] at hdm
  have hX0b : X0 ≤ 4294967297 := by
    apply Classical.byContradiction
    intro hc
    have h3 : 4294967298 * f ≤ X0 * f := Nat.mul_le_mul_right f (by omega)
    omega
  have hq : (top : Int) / (f : Int) = (X0 : Int) := by rw [hX0]; rfl
  have hr : (top : Int) % (f : Int) = (R0 : Int) := by rw [hR0]; rfl
  have hfz : ¬ ((f : Int) = 0) := by omega
  have hfirst := est_first hV hW hl' b0 hdm hR0f
  have hor : bits BinOp.or IntKind.u64 ((a2 : Int) * 4294967296) (a1 : Int) = (top : Int) := by
    rw [show (a2 : Int) * 4294967296 = ((a2 * 4294967296 : Nat) : Int) from by omega, u64_or_nat _ _ (by omega) (by omega), nat_join 32 _ _ (by omega) (by omega), htp]
  have LOW := Lib.hid (show ∀ X R : Nat, X * f + R = top → R * 4294967296 + a0 < X * s → W < X * V from fun X R h h' => est_low hV hW hl' h h')
  have HIGH := Lib.hid (show ∀ X R : Nat, X * f + R = top → X * s ≤ R * 4294967296 + a0 → X ≤ 4294967296 → X * V ≤ W + V from fun X R h h' h'' => est_high hV hW hl h h' (by omega))
  have HLT := Lib.hid hlt
  have HF := Lib.hid hfirst
  have HDM := Lib.hid hdm
  have HT := Lib.hid ht
  have top64 : top < 18446744073709551616 := by omega
  have hR0b : R0 < 4294967296 := by omega
  clear hV hW hl hl' hf hs h2 h1 h0 hxa hxb hVe hWe htp hX0 hR0 hdm hfirst hlt ht hsz hsy hzl hyl hR0f
  go_enter Tryz.func269, Tryz.ntmps269
  go_wp2
  go_quiet (fail)
  go_wp2
  obtain ⟨w1, hw1⟩ : ∃ w1, w1 = w.drewN nq := ⟨_, rfl⟩
  rw [← hw1]
  have da2 : w1.cell? ⟨ba, oa + (N + 2), none⟩ = some (.int .u32 (a2 : Int)) := by rw [hw1]; exact ca2
  have da1 : w1.cell? ⟨ba, oa + (N + 1), none⟩ = some (.int .u32 (a1 : Int)) := by rw [hw1]; exact ca1
  have da0 : w1.cell? ⟨ba, oa + N, none⟩ = some (.int .u32 (a0 : Int)) := by rw [hw1]; exact ca0
  have HW1 := Lib.hid (show ∃ k, w1 = w.drewN k from ⟨_, hw1⟩)
  clear hw1 ca2 ca1 ca0 cb1 cb0
  go_quiet (fail)
  go_wp2
  obtain ⟨w2, hw2⟩ : ∃ w2, w2 = w1.drewN nq := ⟨_, rfl⟩
  rw [← hw2]
  have HW2 := Lib.hid (show ∃ k, w2 = w.drewN k by obtain ⟨k, hk⟩ := HW1.out; exact ⟨_, by rw [hw2, hk, drewN_drewN]⟩)
  have ea0 : w2.cell? ⟨ba, oa + N, none⟩ = some (.int .u32 (a0 : Int)) := by rw [hw2]; exact da0
  clear hw2 da2 da1 da0 hor HW1
  go_quiet (fail)
  go_wp2
  obtain ⟨w3, hw3⟩ : ∃ w3, w3 = w2.drewN nq := ⟨_, rfl⟩
  rw [← hw3]
  have HW := Lib.hid (show ∃ k, w3 = w.drewN k by obtain ⟨k, hk⟩ := HW2.out; exact ⟨_, by rw [hw3, hk, drewN_drewN]⟩)
  have c0 : w3.cell? ⟨ba, oa + N, none⟩ = some (.int .u32 (a0 : Int)) := by rw [hw3]; exact ea0
  have HRR := Lib.hid hr
  clear hw3 ea0 hq hr HW2
  go_loopw [9, 10] (fun x r wr => ∃ X R : Nat, x = .int .u64 X ∧ r = .int .u64 R ∧ R < 4294967296 ∧ X ≤ 4294967297 ∧ Hid (X * f + R = top) ∧ Hid (W < (X + 1) * V) ∧ wr = w3) (fun x _ _ => (intOf x).toNat)
  case atStart => exact ⟨X0, R0, rfl, by first | rfl | rw [HRR.out], hR0b, hX0b, HDM, HF, rfl⟩
  case round =>
    obtain ⟨X, R, rfl, rfl, hR, hX, hxr, hwx, rfl⟩ := hrel
    by_cases hbig : 4294967296 ≤ X
    · have e1 : (X : Int) / 4294967296 = 1 := by omega
      have HB := Lib.hid (show W < X * V by
        have h1 := Nat.mul_le_mul_right V hbig
        have h2 := HLT.out
        omega)
      clear hbig
      have HX := Lib.hid (show (X - 1) * f + (R + f) = top ∧ W < (X - 1 + 1) * V by
        have h1 := hxr.out
        obtain ⟨Y, rfl⟩ : ∃ Y, X = Y + 1 := ⟨X - 1, by omega⟩
        rw [Nat.add_mul, Nat.one_mul] at h1
        exact ⟨by rw [Nat.add_sub_cancel]; omega, by rw [Nat.add_sub_cancel]; exact HB.out⟩)
      by_cases hbr : 4294967296 ≤ R + f
      · have e2 : ((R : Int) + (f : Int)) / 4294967296 = 1 := by omega
        have HR := Lib.hid (est_end (a0 := a0) HX.out.1 HT.out hbr hX bs)
        clear hbr
        go_wp2
        go_ret
        exact ⟨X - 1, ret_int (by omega), HR.out.1, HX.out.2, HIGH.out _ _ HX.out.1 HR.out.2 (by have := HR.out.1; omega), HW.out⟩
      · have e2 : ((R : Int) + (f : Int)) / 4294967296 = 0 := by omega
        go_wp2
        go_roundw
        case rel => exact ⟨X - 1, R + f, by go_num, by go_num, by omega, by omega, HX.out.1, HX.out.2, trivial⟩
        case measure => simp [intOf] <;> omega
    · have e1 : (X : Int) / 4294967296 = 0 := by omega
      have hp : X * s ≤ 4294967295 * 4294967295 := Nat.mul_le_mul (by omega) (by omega)
      have hpi : (X : Int) * (s : Int) = ((X * s : Nat) : Int) := by rw [Int.natCast_mul]
      obtain ⟨P, hP⟩ : ∃ P, P = X * s := ⟨_, rfl⟩
      rw [← hP] at hp hpi
      obtain ⟨G, hG⟩ : ∃ G, G = R * 4294967296 + a0 := ⟨_, rfl⟩
      have hor : bits BinOp.or IntKind.u64 ((R : Int) * 4294967296) (a0 : Int) = (G : Int) := by
        rw [show (R : Int) * 4294967296 = ((R * 4294967296 : Nat) : Int) from by omega, u64_or_nat _ _ (by omega) (by omega), nat_join 32 _ _ (by omega) (by omega), hG]
      have HP := Lib.hid hP
      have HG := Lib.hid hG
      clear hP hG
      by_cases hgt : G < P
      · have t1 : decide (G < P) = true := decide_eq_true hgt
        have t2 : decide ((G : Int) < (P : Int)) = true := decide_eq_true (by omega)
        have hX1 : 1 ≤ X := by
          apply Classical.byContradiction
          intro hc
          have h1 := HP.out
          rw [show X = 0 by omega, Nat.zero_mul] at h1
          omega
        have HB := Lib.hid (LOW.out X R hxr.out (by rw [← HP.out, ← HG.out]; exact hgt))
        have HX := Lib.hid (show (X - 1) * f + (R + f) = top ∧ W < (X - 1 + 1) * V by
          have h1 := hxr.out
          obtain ⟨Y, rfl⟩ : ∃ Y, X = Y + 1 := ⟨X - 1, by omega⟩
          rw [Nat.add_mul, Nat.one_mul] at h1
          exact ⟨by rw [Nat.add_sub_cancel]; omega, by rw [Nat.add_sub_cancel]; exact HB.out⟩)
        clear hgt
        by_cases hbr : 4294967296 ≤ R + f
        · have e2 : ((R : Int) + (f : Int)) / 4294967296 = 1 := by omega
          have HR := Lib.hid (est_end (a0 := a0) HX.out.1 HT.out hbr hX bs)
          clear hbr
          go_wp2
          go_ret
          exact ⟨X - 1, ret_int (by omega), HR.out.1, HX.out.2, HIGH.out _ _ HX.out.1 HR.out.2 (by have := HR.out.1; omega), HW.out⟩
        · have e2 : ((R : Int) + (f : Int)) / 4294967296 = 0 := by omega
          go_wp2
          go_roundw
          case rel => exact ⟨X - 1, R + f, by go_num, by go_num, by omega, by omega, HX.out.1, HX.out.2, trivial⟩
          case measure => simp [intOf] <;> omega
      · have t1 : decide (G < P) = false := decide_eq_false hgt
        have t2 : decide ((G : Int) < (P : Int)) = false := decide_eq_false (by omega)
        have HE := Lib.hid (HIGH.out X R hxr.out (by rw [← HP.out, ← HG.out]; omega) (by omega))
        clear hgt
        go_wp2
        go_ret
        exact ⟨X, rfl, by omega, hwx.out, HE.out, HW.out⟩
end Go.Proofs.YtkbghamkalidcaaGreat
