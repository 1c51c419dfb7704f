/-
  What the division of two parts by one does. Conditions: those that each theorem names.
-/
import Derived.Test.YtipjbnbmackidaaGreatThree
namespace Go.Proofs.YtipjbnbmackidaaGreat
open Go.RowKit

/-- what the closure of a division by halves finds in memory -/
def TwoCells (C T cut : Nat) (w : World) : Prop := w.cell? ⟨C, 0, none⟩ = some (.int .i64 cut) ∧ w.cell? ⟨T, 0, none⟩ = some (.func (.func 279) #[] #[.pointer (some ⟨C, 0, none⟩), .pointer (some ⟨T, 0, none⟩)]) ∧ C < w.heap.size ∧ T < w.heap.size
theorem TwoCells.below {C T cut : Nat} {w w' : World} (h : TwoCells C T cut w) (hb : Below w.heap.size w w') : TwoCells C T cut w' :=
  ⟨(hb.cell (p := ⟨C, 0, none⟩) h.2.2.1).trans h.1, (hb.cell (p := ⟨T, 0, none⟩) h.2.2.2).trans h.2.1, Nat.lt_of_lt_of_le h.2.2.1 hb.size, Nat.lt_of_lt_of_le h.2.2.2 hb.size⟩

theorem two_small {p : Nat → Prop} {C T cut h : Nat} {w : World} (hp : ∀ b, w.heap.size ≤ b → p b) (hcut : cut ≤ 1000000) (hc : TwoCells C T cut w) (hh : h < cut) (hh2 : h ≤ 20000) : TwoOk p C T h w := by
  intro va vb m n w' hb ha hbn hn1 hn2 hm
  have hp' : ∀ b, w'.heap.size ≤ b → p b := fun b h => hp b (Nat.le_trans hb.size h)
  have hc' := hc.below hb
  obtain ⟨c1, -, c3, -⟩ := hc'
  have hl : (Nl.limbs m).length ≤ 900000 := by
    have h1 : m < 4294967296 ^ (2 * h) := by
      rw [show 2 * h = h + h by omega, Nat.pow_add]
      exact Nat.lt_of_lt_of_le hm (Nat.mul_le_mul_right _ (Nat.le_of_lt hn1))
    have h2 := Nl.limbs_lt h1
    omega
  have hnp : 0 < n := by
    have := Nat.pow_pos (n := h) (show 0 < 4294967296 by decide)
    omega
  have HE := Lib.hid (overElements_in p va vb m n w' hp' ha hbn.at hl hnp)
  have t1 : decide (h < cut) = true := decide_eq_true hh
  have t2 : decide ((h : Int) < (cut : Int)) = true := decide_eq_true (by omega)
  obtain ⟨a, ca, rfl, -⟩ := ha.form
  obtain ⟨b, cb, rfl, -⟩ := hbn.form
  clear hb ha hbn hn1 hn2 hm hl hnp hc hp hp'
  go_enter Tryz.func279, Tryz.ntmps279
  go_wp2_with fail
  refine HE.out.mono ?_
  rintro e w1 ⟨⟨v, u, rfl, hv, hu⟩, hb1⟩
  have HV := Lib.hid (And.intro hv (And.intro hu hb1))
  clear hv hu hb1
  go_wp2_with fail
  go_ret2
  exact ⟨⟨v, u, rfl, HV.out.1, HV.out.2.1⟩, HV.out.2.2⟩

theorem two_end {m b A low q1 r1 q0 r0 M x : Nat} (hm : m = A * M + low) (h1 : q1 = A / b) (h2 : r1 = A % b) (hx : x = low + M * r1) (h3 : q0 = x / b) (h4 : r0 = x % b) (hb : 0 < b) : q0 + M * q1 = m / b ∧ r0 = m % b := by
  have e1 := Nat.div_add_mod A b
  have e2 := Nat.div_add_mod x b
  rw [← h1, ← h2] at e1
  rw [← h3, ← h4] at e2
  have hr : r0 < b := by rw [h4]; exact Nat.mod_lt _ hb
  have e : m = b * (q0 + M * q1) + r0 := by
    rw [hm, ← e1, Nat.add_mul, Nat.mul_add b q0, Nat.mul_assoc b q1 M, Nat.mul_comm q1 M, Nat.mul_comm r1 M]
    omega
  constructor
  · rw [e, Nat.mul_add_div hb, Nat.div_eq_of_lt hr, Nat.add_zero]
  · rw [e, Nat.mul_add_mod, Nat.mod_eq_of_lt hr]

set_option maxRecDepth 10000 in
set_option maxHeartbeats 4000000 in
theorem two_step {p : Nat → Prop} {C T cut h : Nat} {w : World} (hp : ∀ b, w.heap.size ≤ b → p b) (hc : TwoCells C T cut w) (hh : cut ≤ 2 * h) (h1 : 1 ≤ h) (hh2 : h ≤ 10000) (hf : TwoOk p C T h w) : TwoOk p C T (2 * h) w := by
  intro va vb m n w0 hb0 ha hbn hn1 hn2 hm
  have HPP := Lib.hid (show ∀ b, w0.heap.size ≤ b → p b from fun b h => hp b (Nat.le_trans hb0.size h))
  clear hp
  have hc' := hc.below hb0
  have hf' := hf.below hb0
  obtain ⟨c1, hT, c3, hTl⟩ := hc'
  have hnp : 0 < n := by
    have := Nat.pow_pos (n := 2 * h) (show 0 < 4294967296 by decide)
    omega
  obtain ⟨M, hM⟩ : ∃ M, M = 4294967296 ^ h := ⟨_, rfl⟩
  have hMM : 4294967296 ^ (2 * h) = M * M := by rw [hM, ← Nat.pow_add]; congr 1; omega
  have hMp : 0 < M := by rw [hM]; exact Nat.pow_pos (by decide)
  have pm := Nat.div_add_mod m M
  have pl := Nat.mod_lt m hMp
  have pA : m / M < n * M := by
    rw [Nat.div_lt_iff_lt_mul hMp, Nat.mul_assoc, ← hMM]
    exact hm
  have haa := above_num p va m h w0.drew (show AtP p w0.drew va (Nl.limbs m) from ha) (by omega)
  rw [← hM] at haa
  obtain ⟨A, hA⟩ : ∃ A, A = m / M := ⟨_, rfl⟩
  obtain ⟨low, hlow⟩ : ∃ l, l = m % M := ⟨_, rfl⟩
  rw [← hA] at haa pm pA
  rw [← hlow] at pm pl
  have HA := Lib.hid ha
  have HB := Lib.hid hbn
  have HAA := Lib.hid haa
  have HF := Lib.hid hf'
  have HM := Lib.hid hM
  have HP := Lib.hid (And.intro pm (And.intro pl (And.intro pA (And.intro hn1 (And.intro hn2 hnp)))))
  have HE := Lib.hid (And.intro hA hlow)
  have HMM := Lib.hid hMM
  have t1 : decide (2 * h < cut) = false := decide_eq_false (by omega)
  have t2 : decide (2 * (h : Int) < (cut : Int)) = false := decide_eq_false (by omega)
  have e2 : 2 * (h : Int) / 2 = (h : Int) := by omega
  obtain ⟨a, ca, rfl, -⟩ := ha.form
  obtain ⟨b, cb, rfl, -⟩ := hbn.form
  clear ha hbn haa hf hf' hM pm pl pA hn1 hn2 hnp hm hMM hMp hA hlow hb0 hc
  go_enter Tryz.func279, Tryz.ntmps279
  go_wp2_with fail
  go_region_held3 (fun w' => w'.cell? ⟨T, 0, none⟩ = some (.func (.func 279) #[] #[.pointer (some ⟨C, 0, none⟩), .pointer (some ⟨T, 0, none⟩)]))
    (first
      | go_keep
      | assumption)
    (first
      | (go_at_call 267; refine HAA.out.mono ?_; rintro e w' ⟨⟨vA, rfl, hvA⟩, rfl⟩)
      | (go_at_call 280; refine (threeByTwo_any p vA _ A n h C T w0.drew HPP.out hvA (show AtP p w0.drew _ (Nl.limbs n) from HB.out) hh2 h1 HP.out.2.2.2.1 HP.out.2.2.2.2.1 (by rw [← HM.out]; exact HP.out.2.2.1) (HF.out.below (Below.drew (Below.refl _ _)))).mono ?_; rintro e w1 ⟨⟨vq1, vr1, rfl, hq1, hr1⟩, hb1⟩; have hT1 := (hb1.cell (p := ⟨T, 0, none⟩) hTl).trans hT))
  have hb01 : Below w0.heap.size w0 w1 := Below.trans (b := w0.drew) (Below.drew (Below.refl _ _)) hb1
  have B1 := Lib.hid hb01
  have HQ1 := Lib.hid (And.intro hq1 hr1)
  have hbm := below_num p _ m h w1.drew (show AtP p w1.drew _ (Nl.limbs m) from HA.out.below (Below.drew hb01)) (by omega)
  rw [← HM.out, ← HE.out.2] at hbm
  have HBM := Lib.hid hbm
  have hTl1 : T < w1.heap.size := Nat.lt_of_lt_of_le hTl hb01.size
  have lenl : (Nl.limbs low).length ≤ h := Nl.limbs_lt (by rw [← HM.out]; exact HP.out.2.1)
  have hrb : A % n < n := Nat.mod_lt _ HP.out.2.2.2.2.2
  have lenr : (Nl.limbs (A % n)).length ≤ 2 * h := Nl.limbs_lt (Nat.lt_trans hrb HP.out.2.2.2.1)
  have hx : low + M * (A % n) < n * M := by
    have h5 : M * (A % n + 1) ≤ M * n := Nat.mul_le_mul_left M hrb
    rw [Nat.mul_add, Nat.mul_one, Nat.mul_comm M n] at h5
    have h6 := HP.out.2.1
    omega
  have HX := Lib.hid hx
  clear hb1 hq1 hr1 hbm hT hrb hx HAA
  go_wp2_with fail
  go_region_held3 (fun w' => w'.cell? ⟨T, 0, none⟩ = some (.func (.func 279) #[] #[.pointer (some ⟨C, 0, none⟩), .pointer (some ⟨T, 0, none⟩)]))
    (first
      | go_keep
      | assumption)
    (first
      | (go_at_call 282; refine HBM.out.mono ?_; rintro e w' ⟨⟨vl, rfl, hvl⟩, rfl⟩)
      | (go_at_call 281; refine (joined_in p vr1 vl (A % n) low h w1.drew (fun b hb => HPP.out b (Nat.le_trans hb01.size hb)) (show AtP p w1.drew _ _ from HQ1.out.2) hvl (by omega) (by omega) lenl).mono ?_; rintro e w2 ⟨⟨vj, rfl, hvj⟩, hb2⟩; have hT2 := (hb2.cell (p := ⟨T, 0, none⟩) hTl1).trans hT1)
      | (go_at_call 280; refine (threeByTwo_any p vj _ (low + M * (A % n)) n h C T w2 (fun b hb => HPP.out b (Nat.le_trans hb01.size (Nat.le_trans hb2.size hb))) (by rw [HM.out]; exact hvj) (AtP.below (show AtP p w1.drew _ (Nl.limbs n) from HB.out.below (Below.drew hb01)) hb2) hh2 h1 HP.out.2.2.2.1 HP.out.2.2.2.2.1 (by rw [← HM.out]; exact HX.out) (HF.out.below (hb01.trans (Below.trans (b := w1.drew) (Below.drew (Below.refl _ _)) (hb2.mono hb01.size))))).mono ?_; rintro e w3 ⟨⟨vq0, vr0, rfl, hq0, hr0⟩, hb3⟩; have hT3 := (hb3.cell (p := ⟨T, 0, none⟩) (Nat.lt_of_lt_of_le hTl1 hb2.size)).trans hT2))
  have hb12 : Below w1.heap.size w1 w2 := Below.trans (b := w1.drew) (Below.drew (Below.refl _ _)) hb2
  have hb13 : Below w1.heap.size w1 w3 := hb12.trans (hb3.mono hb12.size)
  have B3 := Lib.hid (hb01.trans (hb13.mono hb01.size))
  have HQ0 := Lib.hid (And.intro hq0 hr0)
  have HQ13 := Lib.hid (HQ1.out.1.below hb13)
  have hq0M : (low + M * (A % n)) / n < 4294967296 ^ h := by rw [← HM.out]; exact Nat.div_lt_of_lt_mul HX.out
  have hq1M : A / n < 4294967296 ^ h := by rw [← HM.out]; exact Nat.div_lt_of_lt_mul HP.out.2.2.1
  have HJ := Lib.hid (joined_any vq1 vq0 (A / n) ((low + M * (A % n)) / n) h w3 HQ13.out hq0 (by have := Nl.limbs_lt hq1M; omega) (by omega) (Nl.limbs_lt hq0M))
  have HEND := Lib.hid (two_end (m := m) (b := n) (A := A) (low := low) (M := M) (x := low + M * (A % n)) (by have := HP.out.1; rw [Nat.mul_comm]; exact this.symm) rfl rfl rfl rfl rfl HP.out.2.2.2.2.2)
  clear hb12 hb13 hb2 hb3 hq0 hr0 hvj hvl hT1 hT2 hT3 hq0M hq1M hb01 HBM
  go_wp2_with fail
  refine HJ.out.mono ?_
  rintro e w4 ⟨⟨vq, rfl, hq⟩, hb4⟩
  rw [← HM.out, HEND.out.1] at hq
  have HQ := Lib.hid hq
  have HB4 := Lib.hid hb4
  clear hq hb4 HJ
  go_wp2_with fail
  go_ret2
  refine ⟨⟨_, _, rfl, HQ.out, ?_⟩, B3.out.trans (HB4.out.mono B3.out.size)⟩
  rw [← HEND.out.2]
  exact HQ0.out.2.below HB4.out
theorem halving_any {p : Nat → Prop} {C T cut s : Nat} {w : World} (hp : ∀ b, w.heap.size ≤ b → p b) (hcut2 : 2 ≤ cut) (hcut : cut ≤ 1000000) (hc : TwoCells C T cut w) (hs0 : 0 < s) (hs : s < cut) : ∀ j, s * 2 ^ j ≤ 20000 → TwoOk p C T (s * 2 ^ j) w := by
  intro j
  induction j with
  | zero =>
    intro hb
    rw [Nat.pow_zero, Nat.mul_one] at hb ⊢
    exact two_small hp hcut hc hs hb
  | succ j ih =>
    intro hb
    rw [show s * 2 ^ (j + 1) = 2 * (s * 2 ^ j) by rw [Nat.pow_succ, ← Nat.mul_assoc, Nat.mul_comm]] at hb ⊢
    by_cases hlt : 2 * (s * 2 ^ j) < cut
    · exact two_small hp hcut hc hlt hb
    · exact two_step hp hc (by omega) (Nat.mul_pos hs0 (Nat.two_pow_pos j)) (by omega) (ih (by omega))
end Go.Proofs.YtipjbnbmackidaaGreat
