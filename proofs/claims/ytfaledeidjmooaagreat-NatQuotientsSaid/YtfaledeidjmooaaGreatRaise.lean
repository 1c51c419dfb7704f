/-
  What Shr and Pow do. Conditions: those that each theorem names.
-/
import Derived.Test.YtfaledeidjmooaaGreatAdd
import Derived.Test.YtfaledeidjmooaaGreatShift
import Derived.Test.YtfaledeidjmooaaGreatPower
namespace Go.Proofs.YtfaledeidjmooaaGreat
open Go.RowKit

/-- the error of a shift to the right -/
def shrK (_m : Nat) (n : Int) : Int := if 0 ≤ n then 0 else 1

set_option maxHeartbeats 1000000 in
theorem shr1_does (va : Value) (m : Nat) (n : Int) (K : Nat) (w : World) (hK1 : w.cell? ⟨K, 0, none⟩ = some va) (hK2 : w.cell? ⟨K + 1, 0, none⟩ = some (.int .i64 n)) (hl : K + 1 < w.heap.size) (ha : IsN w va m)
    (hla : (Nl.limbs m).length ≤ 1024) (hn : -9223372036854775808 ≤ n) (hn2 : n ≤ 9223372036854775807) : NatDoes 83 #[.pointer (some ⟨K + 1, 0, none⟩), .pointer (some ⟨K, 0, none⟩)] w (shrK m n) (m / 2 ^ n.toNat) := by
  obtain ⟨k, hk⟩ : ∃ k : Int, k = shrK m n := ⟨_, rfl⟩
  rw [← hk]
  have HK := Lib.hid hk
  clear hk
  intro W hW
  have k1 := (hW.cell (p := ⟨K, 0, none⟩) (show K < w.heap.size by omega)).trans hK1
  have k2 := (hW.cell (p := ⟨K + 1, 0, none⟩) hl).trans hK2
  have ha' := ha.below hW
  obtain ⟨a, ca, rfl, -⟩ := ha'.form
  have HA := Lib.hid ha'
  clear hK1 hK2 ha hW ha' hl
  by_cases h0 : 0 ≤ n
  · have e0 : decide (0 ≤ n) = true := decide_eq_true h0
    have hk := HK.out
    rw [shrK, if_pos h0] at hk
    have HK' := Lib.hid hk
    clear hk HK
    obtain ⟨j, rfl⟩ : ∃ j : Nat, n = j := ⟨n.toNat, by omega⟩
    rw [Int.toNat_natCast]
    go_enter Tryz.func83, Tryz.ntmps83
    go_wp2_with (go_at_call 61; refine (must_yes _ _).mono ?_; rintro e w' ⟨rfl, rfl⟩)
    refine (shiftedRight_any _ m j _ HA.out (by omega) (by omega)).mono ?_
    rintro e w2 ⟨⟨v, rfl, hv⟩, hb2⟩
    have HV := Lib.hid hv
    have HB2 := Lib.hid hb2
    clear hv hb2 e0 k1 k2
    go_wp2_with fail
    go_ret
    exact ⟨HB2.out, .inl ⟨HK'.out, v, rfl, HV.out⟩⟩
  · have e0 : decide (0 ≤ n) = false := decide_eq_false h0
    have hk := HK.out
    rw [shrK, if_neg h0] at hk
    have HK' := Lib.hid hk
    clear hk HK
    go_enter Tryz.func83, Tryz.ntmps83
    go_wp2_with (go_at_call 61; refine (must_no _ _).mono ?_; rintro e w' ⟨rfl, rfl⟩)
    exact ⟨rfl, Below.refl _ _, .inr ⟨by rw [HK'.out]; decide, by rw [HK'.out]⟩⟩

set_option maxHeartbeats 1000000 in
theorem shr_any (va : Value) (xs : List Nat) (n : Int) (w : World) (ha : At w va xs) (hsx : Nl.Small xs) (hn : -9223372036854775808 ≤ n) (hn2 : n ≤ 9223372036854775807) :
    Calls Tryz.prog 39 #[va, .int .i64 n] w fun e w' => Res1 w w' e xs (shrK (Nl.val xs) n) (Nl.val xs / 2 ^ n.toNat) := by
  have hmf : ∀ (fn : Fn) (first cap : Array Value) (w : World), (Instr.makeFunc fn first cap).run Tryz.prog w = .ok (.func fn first cap) w := fun _ _ _ _ => rfl
  have HA := Lib.hid ha
  obtain ⟨a, ca, rfl, -⟩ := ha.form
  clear ha
  go_enter Tryz.func39, Tryz.ntmps39
  go_wp2_with fail
  obtain ⟨W, hW⟩ : ∃ W, W = ((w.alloc (.cells #[.slice a xs.length ca] 23)).alloc (.cells #[.int .i64 n] 3)).alloc (.cells #[.slice a xs.length ca] 23) := ⟨_, rfl⟩
  rw [← hW]
  obtain ⟨hbl, hsz, c1, c2, c3⟩ := boxes3 w _ _ _ _ _ W hW
  clear hW
  refine (one_one _ _ w W (shrK (Nl.val xs) n) (Nl.val xs / 2 ^ n.toNat) (w.heap.size + 1 + 1) _ xs hbl (by omega) c3 HA.out (fun h1 => ?_) (fun _ _ => by kernel_rfl)).mono ?_
  · exact shr1_does _ _ n w.heap.size W c1 c2 (by omega) ((HA.out.num hsx h1).below hbl) (validB_eq hsx h1).2 hn hn2
  clear c1 c2 c3 hbl hsz
  rintro e w1 ⟨c, hc, ⟨v, rfl, h2, h3⟩, hb1⟩
  have HR := Lib.hid (And.intro hc (And.intro h2 (And.intro h3 hb1)))
  clear hc h2 h3 hb1
  go_wp2_with fail
  go_ret2
  exact ⟨c, HR.out.1, ⟨v, rfl, HR.out.2.1, HR.out.2.2.1⟩, HR.out.2.2.2⟩

/-- the error of a power -/
def powK (m : Nat) (n : Int) : Int := if 0 ≤ n then (if n ≠ 0 ∧ 2 ≤ m ∧ 32767 / (nbits m - 1) < n.toNat then 2 else 0) else 1

set_option maxHeartbeats 1000000 in
theorem pow1_does (va : Value) (m : Nat) (n : Int) (K : Nat) (w : World) (hK1 : w.cell? ⟨K, 0, none⟩ = some va) (hK2 : w.cell? ⟨K + 1, 0, none⟩ = some (.int .i64 n)) (hl : K + 1 < w.heap.size) (ha : IsN w va m)
    (hla : (Nl.limbs m).length ≤ 1024) (hn : -9223372036854775808 ≤ n) (hn2 : n ≤ 9223372036854775807) : NatDoes 68 #[.pointer (some ⟨K + 1, 0, none⟩), .pointer (some ⟨K, 0, none⟩)] w (powK m n) (m ^ n.toNat) := by
  obtain ⟨k, hk⟩ : ∃ k : Int, k = powK m n := ⟨_, rfl⟩
  rw [← hk]
  have HK := Lib.hid hk
  clear hk
  intro W hW
  have k1 := (hW.cell (p := ⟨K, 0, none⟩) (show K < w.heap.size by omega)).trans hK1
  have k2 := (hW.cell (p := ⟨K + 1, 0, none⟩) hl).trans hK2
  have ha' := ha.below hW
  obtain ⟨a, ca, rfl, -⟩ := ha'.form
  have HA := Lib.hid ha'
  clear hK1 hK2 ha hW ha' hl
  by_cases h0 : 0 ≤ n
  · have e0 : decide (0 ≤ n) = true := decide_eq_true h0
    have hk := HK.out
    rw [powK, if_pos h0] at hk
    obtain ⟨j, rfl⟩ : ∃ j : Nat, n = j := ⟨n.toNat, by omega⟩
    rw [Int.toNat_natCast] at hk
    rw [Int.toNat_natCast]
    by_cases hbig : (j : Int) ≠ 0 ∧ 2 ≤ m ∧ 32767 / (nbits m - 1) < j
    · rw [if_pos hbig] at hk
      have HK' := Lib.hid hk
      have HG := Lib.hid hbig
      clear hk HK hbig
      go_enter Tryz.func68, Tryz.ntmps68
      go_wp2_with (go_at_call 61; refine (must_yes _ _).mono ?_; rintro e w' ⟨rfl, rfl⟩)
      refine (limitedPower_no _ m j _ HA.out hla HG.out.2.1 (by have := HG.out.1; omega) (by omega) HG.out.2.2).mono ?_
      rintro e w2 ⟨rfl, rfl⟩
      exact ⟨rfl, Below.refl _ _, .inr ⟨by rw [HK'.out]; decide, by rw [HK'.out]⟩⟩
    · rw [if_neg hbig] at hk
      have HK' := Lib.hid hk
      have HG := Lib.hid hbig
      clear hk HK hbig
      have hc : Calls Tryz.prog 69 #[.slice a (Nl.limbs m).length ca, .int .i64 (j : Int)] W fun e w' => (∃ v, e = .returned v ∧ IsN w' v (m ^ j)) ∧ Below W.heap.size W w' := by
        by_cases hj : j = 0
        · subst hj
          rw [Nat.pow_zero]
          exact limitedPower_zero _ W
        · refine limitedPower_yes _ m j _ HA.out hla hj (by omega) ?_
          by_cases hm : m < 2
          · exact .inl hm
          · refine .inr (Nat.not_lt.mp fun hlt => HG.out ⟨by omega, by omega, hlt⟩)
      have HC := Lib.hid hc
      clear hc
      go_enter Tryz.func68, Tryz.ntmps68
      go_wp2_with (go_at_call 61; refine (must_yes _ _).mono ?_; rintro e w' ⟨rfl, rfl⟩)
      refine HC.out.mono ?_
      rintro e w2 ⟨⟨v, rfl, hv⟩, hb2⟩
      have HV := Lib.hid hv
      have HB2 := Lib.hid hb2
      clear hv hb2 e0 k1 k2
      go_wp2_with fail
      go_ret
      exact ⟨HB2.out, .inl ⟨HK'.out, v, rfl, HV.out⟩⟩
  · have e0 : decide (0 ≤ n) = false := decide_eq_false h0
    have hk := HK.out
    rw [powK, if_neg h0] at hk
    have HK' := Lib.hid hk
    clear hk HK
    go_enter Tryz.func68, Tryz.ntmps68
    go_wp2_with (go_at_call 61; refine (must_no _ _).mono ?_; rintro e w' ⟨rfl, rfl⟩)
    exact ⟨rfl, Below.refl _ _, .inr ⟨by rw [HK'.out]; decide, by rw [HK'.out]⟩⟩

set_option maxHeartbeats 1000000 in
theorem pow_any (va : Value) (xs : List Nat) (n : Int) (w : World) (ha : At w va xs) (hsx : Nl.Small xs) (hn : -9223372036854775808 ≤ n) (hn2 : n ≤ 9223372036854775807) :
    Calls Tryz.prog 28 #[va, .int .i64 n] w fun e w' => Res1 w w' e xs (powK (Nl.val xs) n) (Nl.val xs ^ n.toNat) := by
  have hmf : ∀ (fn : Fn) (first cap : Array Value) (w : World), (Instr.makeFunc fn first cap).run Tryz.prog w = .ok (.func fn first cap) w := fun _ _ _ _ => rfl
  have HA := Lib.hid ha
  obtain ⟨a, ca, rfl, -⟩ := ha.form
  clear ha
  go_enter Tryz.func28, Tryz.ntmps28
  go_wp2_with fail
  obtain ⟨W, hW⟩ : ∃ W, W = ((w.alloc (.cells #[.slice a xs.length ca] 23)).alloc (.cells #[.int .i64 n] 3)).alloc (.cells #[.slice a xs.length ca] 23) := ⟨_, rfl⟩
  rw [← hW]
  obtain ⟨hbl, hsz, c1, c2, c3⟩ := boxes3 w _ _ _ _ _ W hW
  clear hW
  refine (one_one _ _ w W (powK (Nl.val xs) n) (Nl.val xs ^ n.toNat) (w.heap.size + 1 + 1) _ xs hbl (by omega) c3 HA.out (fun h1 => ?_) (fun _ _ => by kernel_rfl)).mono ?_
  · exact pow1_does _ _ n w.heap.size W c1 c2 (by omega) ((HA.out.num hsx h1).below hbl) (validB_eq hsx h1).2 hn hn2
  clear c1 c2 c3 hbl hsz
  rintro e w1 ⟨c, hc, ⟨v, rfl, h2, h3⟩, hb1⟩
  have HR := Lib.hid (And.intro hc (And.intro h2 (And.intro h3 hb1)))
  clear hc h2 h3 hb1
  go_wp2_with fail
  go_ret2
  exact ⟨c, HR.out.1, ⟨v, rfl, HR.out.2.1, HR.out.2.2.1⟩, HR.out.2.2.2⟩
end Go.Proofs.YtfaledeidjmooaaGreat
