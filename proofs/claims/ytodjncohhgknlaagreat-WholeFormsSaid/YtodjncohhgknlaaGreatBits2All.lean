/-
  What the reference's Sign and Cmp of integers do. Conditions: those that each theorem names.
  What the reference's Bits does. Conditions: those that the theorem names.
-/
import Derived.Test.YtodjncohhgknlaaGreatRef2fAll
import Derived.Test.YtodjncohhgknlaaGreatBitsAll
import Derived.Test.YtodjncohhgknlaaGreatRefAll
namespace Go.Proofs.YtodjncohhgknlaaGreat
open Go.RowKit

theorem diff_len {a b : Int} (la : fitI a) (lb : fitI b) : (Nl.limbs (a - b).natAbs).length ≤ 1000000 := by
  have h1 := Nl.limbs_mono (show (a - b).natAbs ≤ a.natAbs + b.natAbs by omega)
  have h2 := Nl.len_add a.natAbs b.natAbs
  have h3 : (Nl.limbs a.natAbs).length ≤ 1024 := la
  have h4 : (Nl.limbs b.natAbs).length ≤ 1024 := lb
  omega
set_option maxHeartbeats 1000000 in
theorem rSign_any (v0 : Value) (s0 : Bool) (xs : List Nat) (w : World) (h0 : AtI w v0 s0 xs) (m0 : Nl.Small xs) :
    Calls Tryz.prog 22 #[v0] w fun e w' => ResC w w' e (validI s0 xs) 0 (sgnI (sgn s0 (Nl.val xs))) := by
  obtain ⟨p0, c0, rfl, u0⟩ := h0.form
  obtain ⟨l0, hl0⟩ : ∃ l0, l0 = xs.length := ⟨_, rfl⟩
  rw [← hl0] at u0 h0 ⊢
  obtain ⟨W, hW⟩ : ∃ W, W = w.alloc (.cells #[.bool s0, .slice p0 l0 c0] 25) := ⟨_, rfl⟩
  have hb : Below w.heap.size w W := by rw [hW]; exact below_one w _
  have B0 : W.heap[w.heap.size]? = some (.cells #[.bool s0, .slice p0 l0 c0] 25 (0, 0)) := by rw [hW]; exact heap_alloc_new _ _
  have k00 := cell_of_row _ _ 0 _ _ (0, 0) B0
  have k01 := cell_of_row _ _ 1 _ _ (0, 0) B0
  simp only [List.getElem?_toArray, List.getElem?_cons_zero, List.getElem?_cons_succ] at k00 k01
  have HV := Lib.hid (ref2Valid_any _ s0 xs W (h0.below hb))
  have HB := Lib.hid (And.intro hb B0)
  have HU := Lib.hid (And.intro h0 m0)
  obtain ⟨x, hx⟩ : ∃ x : Int, x = sgnI (sgn s0 (Nl.val xs)) := ⟨_, rfl⟩
  rw [← hx]
  have HX := Lib.hid hx
  clear hl0 u0 h0 m0 hb B0 hx
  cases hok : validI s0 xs with
  | false =>
    rw [hok] at HV
    clear hok HU HX
    go_enter Tryz.func22, Tryz.ntmps22
    go_wp2_with fail
    rw [← hW]
    clear hW
    refine HV.out.mono ?_
    rintro e w1 ⟨rfl, hb1⟩
    have HB1 := Lib.hid (HB.out.1.trans (hb1.mono HB.out.1.size))
    clear hb1 HV k00 k01
    go_wp2_with fail
    go_ret2
    exact ⟨1, rfl, rfl, HB1.out⟩
  | true =>
    rw [hok] at HV
    have ok0 := isI_of_ok (at_of HU.out.1) HU.out.2 hok
    have HO := Lib.hid ok0
    clear hok ok0 HU
    go_enter Tryz.func22, Tryz.ntmps22
    go_wp2_with fail
    rw [← hW]
    clear hW
    refine HV.out.mono ?_
    rintro e w1 ⟨rfl, hb1⟩
    have hb01 := HB.out.1.trans (hb1.mono HB.out.1.size)
    have i00 := (hb1.cell (lt_of_block HB.out.2)).trans k00
    have i01 := (hb1.cell (lt_of_block HB.out.2)).trans k01
    have HS := Lib.hid (ref2Sgn_any _ _ w1 (HO.out.1.below hb01) (Nat.le_trans HO.out.2 (by decide)))
    rw [← HX.out] at HS
    have HB1 := Lib.hid hb01
    clear hb1 hb01 HV k00 k01
    go_wp2_with fail
    refine HS.out.mono ?_
    rintro e w2 ⟨rfl, hb2⟩
    have HB2 := Lib.hid (HB1.out.trans (hb2.mono HB1.out.size))
    clear hb2 HS i00 i01
    go_wp2_with fail
    go_ret2
    exact ⟨0, rfl, rfl, HB2.out⟩

set_option maxHeartbeats 2000000 in
theorem rCmp_any (v0 : Value) (s0 : Bool) (xs : List Nat) (v1 : Value) (s1 : Bool) (ys : List Nat) (w : World) (h0 : AtI w v0 s0 xs) (m0 : Nl.Small xs) (h1 : AtI w v1 s1 ys) (m1 : Nl.Small ys) :
    Calls Tryz.prog 24 #[v0, v1] w fun e w' => ResC w w' e (validI s0 xs && validI s1 ys) 0 (cmpI (sgn s0 (Nl.val xs)) (sgn s1 (Nl.val ys))) := by
  obtain ⟨p0, c0, rfl, u0⟩ := h0.form
  obtain ⟨p1, c1, rfl, u1⟩ := h1.form
  obtain ⟨l0, hl0⟩ : ∃ l0, l0 = xs.length := ⟨_, rfl⟩
  obtain ⟨l1, hl1⟩ : ∃ l1, l1 = ys.length := ⟨_, rfl⟩
  rw [← hl0] at u0 h0 ⊢
  rw [← hl1] at u1 h1 ⊢
  obtain ⟨W, hW⟩ : ∃ W, W = (w.alloc (.cells #[.bool s0, .slice p0 l0 c0] 25)).alloc (.cells #[.bool s1, .slice p1 l1 c1] 25) := ⟨_, rfl⟩
  have hb : Below w.heap.size w W := by rw [hW]; exact two_new w _ _
  have B0 : W.heap[w.heap.size]? = some (.cells #[.bool s0, .slice p0 l0 c0] 25 (0, 0)) := by rw [hW]; exact heap_alloc2_old w _ _
  have B1 : W.heap[w.heap.size + 1]? = some (.cells #[.bool s1, .slice p1 l1 c1] 25 (0, 0)) := by rw [hW]; exact heap_alloc2_new w _ _
  have k00 := cell_of_row _ _ 0 _ _ (0, 0) B0
  have k01 := cell_of_row _ _ 1 _ _ (0, 0) B0
  have k10 := cell_of_row _ _ 0 _ _ (0, 0) B1
  have k11 := cell_of_row _ _ 1 _ _ (0, 0) B1
  simp only [List.getElem?_toArray, List.getElem?_cons_zero, List.getElem?_cons_succ] at k00 k01 k10 k11
  have HV0 := Lib.hid (ref2Valid_any _ s0 xs W (h0.below hb))
  have HV1 := Lib.hid (fun (w' : World) (h : Below W.heap.size W w') => ref2Valid_any _ s1 ys w' ((h1.below hb).below h))
  have HB := Lib.hid (And.intro hb (And.intro B0 B1))
  have HU := Lib.hid (And.intro h0 m0)
  have HU' := Lib.hid (And.intro h1 m1)
  obtain ⟨x, hx⟩ : ∃ x : Int, x = cmpI (sgn s0 (Nl.val xs)) (sgn s1 (Nl.val ys)) := ⟨_, rfl⟩
  rw [← hx]
  have HX := Lib.hid hx
  clear hl0 u0 h0 m0 hl1 u1 h1 m1 hb B0 B1 hx
  cases hok : validI s0 xs with
  | false =>
    rw [hok] at HV0
    rw [Bool.false_and]
    clear hok HU HU' HX HV1
    go_enter Tryz.func24, Tryz.ntmps24
    go_upto_region 1 with fail
    rw [← hW]
    clear hW
    go_wp2_with fail
    refine HV0.out.mono ?_
    rintro e w1 ⟨rfl, hb1⟩
    have HB1 := Lib.hid (HB.out.1.trans (hb1.mono HB.out.1.size))
    clear hb1 HV0 k00 k01 k10 k11
    go_wp2_with fail
    go_ret2
    exact ⟨1, rfl, rfl, HB1.out⟩
  | true =>
    rw [hok] at HV0
    cases hok1 : validI s1 ys with
    | false =>
      rw [hok1] at HV1
      rw [Bool.and_false]
      clear hok hok1 HU HU' HX
      go_enter Tryz.func24, Tryz.ntmps24
      go_upto_region 1 with fail
      rw [← hW]
      clear hW
      go_wp2_with fail
      refine HV0.out.mono ?_
      rintro e w1 ⟨rfl, hb1⟩
      have i10 := (hb1.cell (lt_of_block HB.out.2.2)).trans k10
      have i11 := (hb1.cell (lt_of_block HB.out.2.2)).trans k11
      have HV := Lib.hid (HV1.out w1 hb1)
      have HB1 := Lib.hid (HB.out.1.trans (hb1.mono HB.out.1.size))
      clear hb1 HV0 k00 k01 k10 k11 HV1
      go_wp2_with fail
      refine HV.out.mono ?_
      rintro e w2 ⟨rfl, hb2⟩
      have HB2 := Lib.hid (HB1.out.trans (hb2.mono HB1.out.size))
      clear hb2 HV i10 i11
      go_wp2_with fail
      go_ret2
      exact ⟨1, rfl, rfl, HB2.out⟩
    | true =>
      rw [hok1] at HV1
      rw [show (true && true) = true from rfl]
      have ok0 := isI_of_ok (at_of HU.out.1) HU.out.2 hok
      have ok1 := isI_of_ok (at_of HU'.out.1) HU'.out.2 hok1
      have HO := Lib.hid (And.intro ok0 ok1)
      clear hok hok1 ok0 ok1 HU HU'
      go_enter Tryz.func24, Tryz.ntmps24
      go_upto_region 1 with fail
      rw [← hW]
      clear hW
      go_wp2_with fail
      refine HV0.out.mono ?_
      rintro e w1 ⟨rfl, hb1⟩
      have i10 := (hb1.cell (lt_of_block HB.out.2.2)).trans k10
      have i11 := (hb1.cell (lt_of_block HB.out.2.2)).trans k11
      have HV := Lib.hid (HV1.out w1 hb1)
      have HB1 := Lib.hid hb1
      clear hb1 HV0 HV1
      go_wp2_with fail
      refine HV.out.mono ?_
      rintro e w2 ⟨rfl, hb2⟩
      have hb02 := HB1.out.trans (hb2.mono HB1.out.size)
      clear i10 i11
      have i00 := (hb02.cell (lt_of_block HB.out.2.1)).trans k00
      have i01 := (hb02.cell (lt_of_block HB.out.2.1)).trans k01
      have i10 := (hb02.cell (lt_of_block HB.out.2.2)).trans k10
      have i11 := (hb02.cell (lt_of_block HB.out.2.2)).trans k11
      have hbw := HB.out.1.trans (hb02.mono HB.out.1.size)
      have HM := Lib.hid (rminus_any _ _ _ _ w2 (HO.out.1.1.below hbw) (HO.out.2.1.below hbw) (lowI_of HO.out.1.2) (lowI_of HO.out.2.2))
      have HB2 := Lib.hid hbw
      clear hb2 hb02 hbw HV k00 k01 k10 k11 HB1
      go_wp2_with fail
      refine HM.out.mono ?_
      rintro e w3 ⟨hb3, v3, rfl, hv3⟩
      obtain ⟨q3, d3, rfl, -⟩ := AtI.form hv3
      have hS := ref2Sgn_any _ _ w3 hv3 (diff_len HO.out.1.2 HO.out.2.2)
      rw [cmpI_sgn, ← HX.out] at hS
      have HS := Lib.hid hS
      have HB3 := Lib.hid (HB2.out.trans (hb3.mono HB2.out.size))
      clear hS hb3 hv3 HM i00 i01 i10 i11
      go_wp2_with fail
      refine HS.out.mono ?_
      rintro e w4 ⟨rfl, hb4⟩
      have HB4 := Lib.hid (HB3.out.trans (hb4.mono HB3.out.size))
      clear hb4 HS
      go_wp2_with fail
      go_ret2
      exact ⟨0, rfl, rfl, HB4.out⟩
end Go.Proofs.YtodjncohhgknlaaGreat

namespace Go.Proofs.YtodjncohhgknlaaGreat
open Go.RowKit

theorem refBits_any (va : Value) (m : Nat) (w : World) (ha : IsN w va m) (hl : (Nl.limbs m).length ≤ 1000000) :
    Calls Tryz.prog 73 #[va] w fun e w' => e = .returned (.int .i64 (nbits m : Nat)) ∧ w = w' := by
  by_cases h0 : m = 0
  · subst h0
    rw [IsN, Nl.limbs_zero] at ha
    obtain ⟨a, ca, rfl, -⟩ := ha.form
    go_enter Tryz.func73, Tryz.ntmps73
    go_wp2
    go_ret
    exact ⟨rfl, rfl⟩
  · obtain ⟨k, x, hk, ex, hx0, hw, hn⟩ := top_word h0
    rcases ha with ⟨rfl, h⟩ | ⟨b, off, cap, rfl, -, hc, hm, hb, hx⟩
    · rw [h] at hk; simp at hk
    have c0 := hx k (by omega)
    rw [ex] at c0
    rw [hk] at hc hl ⊢
    have hb8 : Lib.bitLen x ≤ 32 := Lib.bitLen_le x 32 (by omega) (by omega)
    have HN := Lib.hid hn
    clear hx hn ex h0 hx0 hk
    have t0 : (((k : Int) + 1) == 0) = false := by rw [beq_eq_false_iff_ne]; omega
    go_enter Tryz.func73, Tryz.ntmps73
    go_wp2_with fail
    go_loopw [4, 5] (fun b y wr => ∃ B Y : Nat, b = .int .i64 B ∧ y = .int .u32 Y ∧ Y < 4294967296 ∧ B ≤ 32 * k + 32 ∧ Hid (B + Lib.bitLen Y = nbits m) ∧ wr = w) (fun _ y _ => (intOf y).toNat)
    case atStart => exact ⟨32 * k, x, by go_num, rfl, hw, by omega, HN.out.symm, rfl⟩
    case round =>
      obtain ⟨B, Y, rfl, rfl, hY, hB, hv, rfl⟩ := hrel
      by_cases hy0 : Y = 0
      · have t1 : decide ((Y : Int) > 0) = false := decide_eq_false (by omega)
        have t2 : decide (0 < Y) = false := decide_eq_false (by omega)
        have HR := Lib.hid (show B = nbits m by
          have h1 := hv.out
          rw [hy0] at h1
          exact h1)
        clear hy0
        go_wp2_with fail
        go_ret
        exact ⟨ret_int (by rw [HR.out]), rfl⟩
      · have t1 : decide ((Y : Int) > 0) = true := decide_eq_true (by omega)
        have t2 : decide (0 < Y) = true := decide_eq_true (by omega)
        have h3 := Lib.bitLen_half Y hy0 (by omega)
        have h4 : Lib.bitLen Y ≤ 32 := Lib.bitLen_le Y 32 (by omega) (by omega)
        have HR := Lib.hid (show B + 1 + Lib.bitLen (Y / 2) = nbits m by have := hv.out; omega)
        have hB2 : B + 1 ≤ 32 * k + 32 := by
          have h5 := hv.out
          have h6 := HN.out
          omega
        clear h3 h4
        go_wp2_with fail
        go_roundw
        case rel => exact ⟨B + 1, Y / 2, by go_num, by go_num, by omega, hB2, HR.out, trivial⟩
        case measure => simp [intOf] <;> omega
end Go.Proofs.YtodjncohhgknlaaGreat
