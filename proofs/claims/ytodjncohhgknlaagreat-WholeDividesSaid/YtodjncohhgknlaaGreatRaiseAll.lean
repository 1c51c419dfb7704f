/-
  What the work of quotients does, by elements. What the work of quotients does, by blocks. What the work of quotients does, by reciprocals. What Div, Long, Newton and Blocks do, given the roads. Conditions: those that each theorem names.
  What Shr and Pow do. Conditions: those that each theorem names.
-/
import Derived.Test.YtodjncohhgknlaaGreatMul
import Derived.Test.YtodjncohhgknlaaGreatValidAll
import Derived.Test.YtodjncohhgknlaaGreatAdd
import Derived.Test.YtodjncohhgknlaaGreatShiftAll
import Derived.Test.YtodjncohhgknlaaGreatPowerAll
namespace Go.Proofs.YtodjncohhgknlaaGreat
open Go.RowKit

/-- the error of a quotient -/
def divK (road cut : Int) (n : Nat) : Int := if road = 1 ∧ cutB cut = false then 1 else if n = 0 then 8 else 0

set_option maxHeartbeats 1000000 in
theorem div1_does (va vb : Value) (m n : Nat) (K : Nat) (w : World) (hK1 : w.cell? ⟨K, 0, none⟩ = some va) (hK2 : w.cell? ⟨K + 1, 0, none⟩ = some vb) (hl : K + 1 < w.heap.size) (ha : IsN w va m) (hb : IsN w vb n)
    (hla : (Nl.limbs m).length ≤ 1024) (hlb : (Nl.limbs n).length ≤ 1024)
    (hd : n ≠ 0 → ∀ w', Below w.heap.size w w' → Calls Tryz.prog 203 #[va, vb] w' fun e w'' => DivOk w' w'' e m n) : TwoDoes 202 #[.pointer (some ⟨K + 1, 0, none⟩), .pointer (some ⟨K, 0, none⟩)] w (divK 1 100 n) (m / n) (m % n) := by
  obtain ⟨k, hk⟩ : ∃ k : Int, k = divK 1 100 n := ⟨_, rfl⟩
  rw [← hk]
  have HK := Lib.hid hk
  clear hk
  intro W hW
  have k1 := (hW.cell (p := ⟨K, 0, none⟩) (show K < w.heap.size by omega)).trans hK1
  have k2 := (hW.cell (p := ⟨K + 1, 0, none⟩) hl).trans hK2
  have HD := Lib.hid fun h0 => fun w' (hw' : Below W.heap.size W w') => hd h0 w' (hW.trans (hw'.mono hW.size))
  have sla := Nl.limbs_mono (Nat.div_le_self m n)
  have slb : n ≠ 0 → (Nl.limbs (m % n)).length ≤ (Nl.limbs n).length := fun h => Nl.limbs_mono (Nat.le_of_lt (Nat.mod_lt _ (Nat.pos_of_ne_zero h)))
  obtain ⟨a, ca, rfl, -⟩ := ha.form
  obtain ⟨b, cb, rfl, -⟩ := hb.form
  have SL := Lib.hid (And.intro sla slb)
  clear hK1 hK2 ha hb hW hl hd sla slb
  by_cases hn : (Nl.limbs n).length = 0
  · have e0 : decide (0 < (Nl.limbs n).length) = false := by rw [decide_eq_false_iff_not]; omega
    have hk := HK.out
    rw [divK, if_neg (fun h => absurd h.2 (by decide)), if_pos (Nl.len_zero hn)] at hk
    have HK' := Lib.hid hk
    clear hk hn HK HD SL
    go_enter Tryz.func202, Tryz.ntmps202
    go_wp2_with (first | (go_at_call_of 103 (Value.bool true); refine (must_yes _ _).mono ?_; rintro e w' ⟨rfl, rfl⟩) | (go_at_call_of 103 (Value.bool false); refine (must_no _ _).mono ?_; rintro e w' ⟨rfl, rfl⟩))
    exact ⟨rfl, Below.refl _ _, .inr ⟨by rw [HK'.out]; decide, by rw [HK'.out]⟩⟩
  · have e0 : decide (0 < (Nl.limbs n).length) = true := by rw [decide_eq_true_eq]; omega
    have hn0 : n ≠ 0 := fun h => hn (by rw [h, Nl.limbs_zero]; rfl)
    have hk := HK.out
    rw [divK, if_neg (fun h => absurd h.2 (by decide)), if_neg hn0] at hk
    have HK' := Lib.hid hk
    have HN := Lib.hid hn0
    clear hk hn hn0 HK
    go_enter Tryz.func202, Tryz.ntmps202
    go_wp2_with (first | (go_at_call_of 103 (Value.bool true); refine (must_yes _ _).mono ?_; rintro e w' ⟨rfl, rfl⟩))
    refine (HD.out HN.out _ (Below.refl _ _)).mono ?_
    rintro e w2 ⟨⟨u, v, rfl, hu, hv⟩, hb2⟩
    have HU := Lib.hid hu
    have HV := Lib.hid hv
    have HB2 := Lib.hid hb2
    clear hu hv hb2
    go_wp2_with fail
    go_ret2
    exact ⟨HB2.out, .inl ⟨HK'.out, u, v, rfl, HU.out, HV.out, Nat.le_trans SL.out.1 hla, Nat.le_trans (SL.out.2 HN.out) hlb⟩⟩

set_option maxHeartbeats 1000000 in
theorem div_any (va vb : Value) (xs ys : List Nat) (w : World) (ha : At w va xs) (hb : At w vb ys) (hsx : Nl.Small xs) (hsy : Nl.Small ys)
    (hd : validB xs = true → validB ys = true → Nl.val ys ≠ 0 → ∀ w', Below w.heap.size w w' → Calls Tryz.prog 203 #[va, vb] w' fun e w'' => DivOk w' w'' e (Nl.val xs) (Nl.val ys)) :
    Calls Tryz.prog 161 #[va, vb] w fun e w' => Pair2 w w' e xs ys (divK 1 100 (Nl.val ys)) (Nl.val xs / Nl.val ys) (Nl.val xs % Nl.val ys) := by
  have hmf : ∀ (fn : Fn) (first cap : Array Value) (w : World), (Instr.makeFunc fn first cap).run Tryz.prog w = .ok (.func fn first cap) w := fun _ _ _ _ => rfl
  have HA := Lib.hid ha
  have HB := Lib.hid hb
  have HD := Lib.hid hd
  obtain ⟨a, ca, rfl, -⟩ := ha.form
  obtain ⟨b, cb, rfl, -⟩ := hb.form
  clear ha hb hd
  go_enter Tryz.func161, Tryz.ntmps161
  go_wp2_with fail
  obtain ⟨W, hW⟩ : ∃ W, W = ((w.alloc (.cells #[.slice a xs.length ca] 23)).alloc (.cells #[.slice b ys.length cb] 23)).alloc (.cells #[.slice a xs.length ca, .slice b ys.length cb] 23) := ⟨_, rfl⟩
  rw [← hW]
  obtain ⟨hbl, hsz, c1, c2, c3, c4⟩ := boxes2 w _ _ _ _ _ W hW
  clear hW
  refine (two_two _ _ w W (divK 1 100 (Nl.val ys)) (Nl.val xs / Nl.val ys) (Nl.val xs % Nl.val ys) (w.heap.size + 1 + 1) _ _ xs ys hbl (by omega) c3 c4 HA.out HB.out (fun v1 v2 => ?_) (fun _ _ => by kernel_rfl)).mono ?_
  · exact div1_does _ _ _ _ w.heap.size W c1 c2 (by omega) ((HA.out.num hsx v1).below hbl) ((HB.out.num hsy v2).below hbl) (validB_eq hsx v1).2 (validB_eq hsy v2).2 (fun h0 w' hw' => HD.out v1 v2 h0 w' (hbl.trans (hw'.mono hbl.size)))
  clear c1 c2 c3 c4 hbl hsz HD
  rintro e w1 ⟨c, hc, ⟨u, v, rfl, h2, h3⟩, hb1⟩
  have HR := Lib.hid (And.intro hc (And.intro h2 (And.intro h3 hb1)))
  clear hc h2 h3 hb1
  go_wp2_with fail
  refine bodyPost_ret (v := .tuple #[u, v, .int .i64 c]) (by simp [results, Tryz.results161, go_sem]) rfl ?_
  exact ⟨c, HR.out.1, ⟨u, v, rfl, HR.out.2.1, HR.out.2.2.1⟩, HR.out.2.2.2⟩

end Go.Proofs.YtodjncohhgknlaaGreat

namespace Go.Proofs.YtodjncohhgknlaaGreat
open Go.RowKit

/-- the error of a shift to the right -/
def shrK (_m : Nat) (n : Int) : Int := if 0 ≤ n then 0 else 1

set_option maxHeartbeats 1000000 in
theorem shr1_does (va : Value) (m : Nat) (n : Int) (K : Nat) (w : World) (hK1 : w.cell? ⟨K, 0, none⟩ = some va) (hK2 : w.cell? ⟨K + 1, 0, none⟩ = some (.int .i64 n)) (hl : K + 1 < w.heap.size) (ha : IsN w va m)
    (hla : (Nl.limbs m).length ≤ 1024) (hn : -9223372036854775808 ≤ n) (hn2 : n ≤ 9223372036854775807) : NatDoes 231 #[.pointer (some ⟨K + 1, 0, none⟩), .pointer (some ⟨K, 0, none⟩)] w (shrK m n) (m / 2 ^ n.toNat) := by
  obtain ⟨k, hk⟩ : ∃ k : Int, k = shrK m n := ⟨_, rfl⟩
  rw [← hk]
  have HK := Lib.hid hk
  clear hk
  intro W hW
  have k1 := (hW.cell (p := ⟨K, 0, none⟩) (show K < w.heap.size by omega)).trans hK1
  have k2 := (hW.cell (p := ⟨K + 1, 0, none⟩) hl).trans hK2
  have ha' := ha.below hW
  obtain ⟨a, ca, rfl, -⟩ := ha'.form
  have HA := Lib.hid ha'
  clear hK1 hK2 ha hW ha' hl
  by_cases h0 : 0 ≤ n
  · have e0 : decide (0 ≤ n) = true := decide_eq_true h0
    have hk := HK.out
    rw [shrK, if_pos h0] at hk
    have HK' := Lib.hid hk
    clear hk HK
    obtain ⟨j, rfl⟩ : ∃ j : Nat, n = j := ⟨n.toNat, by omega⟩
    rw [Int.toNat_natCast]
    go_enter Tryz.func231, Tryz.ntmps231
    go_wp2_with (go_at_call 103; refine (must_yes _ _).mono ?_; rintro e w' ⟨rfl, rfl⟩)
    refine (shiftedRight_any _ m j _ HA.out (by omega) (by omega)).mono ?_
    rintro e w2 ⟨⟨v, rfl, hv⟩, hb2⟩
    have HV := Lib.hid hv
    have HB2 := Lib.hid hb2
    clear hv hb2 e0 k1 k2
    go_wp2_with fail
    go_ret
    exact ⟨HB2.out, .inl ⟨HK'.out, v, rfl, HV.out⟩⟩
  · have e0 : decide (0 ≤ n) = false := decide_eq_false h0
    have hk := HK.out
    rw [shrK, if_neg h0] at hk
    have HK' := Lib.hid hk
    clear hk HK
    go_enter Tryz.func231, Tryz.ntmps231
    go_wp2_with (go_at_call 103; refine (must_no _ _).mono ?_; rintro e w' ⟨rfl, rfl⟩)
    exact ⟨rfl, Below.refl _ _, .inr ⟨by rw [HK'.out]; decide, by rw [HK'.out]⟩⟩

set_option maxHeartbeats 1000000 in
theorem shr_any (va : Value) (xs : List Nat) (n : Int) (w : World) (ha : At w va xs) (hsx : Nl.Small xs) (hn : -9223372036854775808 ≤ n) (hn2 : n ≤ 9223372036854775807) :
    Calls Tryz.prog 180 #[va, .int .i64 n] w fun e w' => Res1 w w' e xs (shrK (Nl.val xs) n) (Nl.val xs / 2 ^ n.toNat) := by
  have hmf : ∀ (fn : Fn) (first cap : Array Value) (w : World), (Instr.makeFunc fn first cap).run Tryz.prog w = .ok (.func fn first cap) w := fun _ _ _ _ => rfl
  have HA := Lib.hid ha
  obtain ⟨a, ca, rfl, -⟩ := ha.form
  clear ha
  go_enter Tryz.func180, Tryz.ntmps180
  go_wp2_with fail
  obtain ⟨W, hW⟩ : ∃ W, W = ((w.alloc (.cells #[.slice a xs.length ca] 23)).alloc (.cells #[.int .i64 n] 3)).alloc (.cells #[.slice a xs.length ca] 23) := ⟨_, rfl⟩
  rw [← hW]
  obtain ⟨hbl, hsz, c1, c2, c3⟩ := boxes3 w _ _ _ _ _ W hW
  clear hW
  refine (one_one _ _ w W (shrK (Nl.val xs) n) (Nl.val xs / 2 ^ n.toNat) (w.heap.size + 1 + 1) _ xs hbl (by omega) c3 HA.out (fun h1 => ?_) (fun _ _ => by kernel_rfl)).mono ?_
  · exact shr1_does _ _ n w.heap.size W c1 c2 (by omega) ((HA.out.num hsx h1).below hbl) (validB_eq hsx h1).2 hn hn2
  clear c1 c2 c3 hbl hsz
  rintro e w1 ⟨c, hc, ⟨v, rfl, h2, h3⟩, hb1⟩
  have HR := Lib.hid (And.intro hc (And.intro h2 (And.intro h3 hb1)))
  clear hc h2 h3 hb1
  go_wp2_with fail
  go_ret2
  exact ⟨c, HR.out.1, ⟨v, rfl, HR.out.2.1, HR.out.2.2.1⟩, HR.out.2.2.2⟩

/-- the error of a power -/
def powK (m : Nat) (n : Int) : Int := if 0 ≤ n then (if n ≠ 0 ∧ 2 ≤ m ∧ 32767 / (nbits m - 1) < n.toNat then 2 else 0) else 1

set_option maxHeartbeats 1000000 in
theorem pow1_does (va : Value) (m : Nat) (n : Int) (K : Nat) (w : World) (hK1 : w.cell? ⟨K, 0, none⟩ = some va) (hK2 : w.cell? ⟨K + 1, 0, none⟩ = some (.int .i64 n)) (hl : K + 1 < w.heap.size) (ha : IsN w va m)
    (hla : (Nl.limbs m).length ≤ 1024) (hn : -9223372036854775808 ≤ n) (hn2 : n ≤ 9223372036854775807) : NatDoes 210 #[.pointer (some ⟨K + 1, 0, none⟩), .pointer (some ⟨K, 0, none⟩)] w (powK m n) (m ^ n.toNat) := by
  obtain ⟨k, hk⟩ : ∃ k : Int, k = powK m n := ⟨_, rfl⟩
  rw [← hk]
  have HK := Lib.hid hk
  clear hk
  intro W hW
  have k1 := (hW.cell (p := ⟨K, 0, none⟩) (show K < w.heap.size by omega)).trans hK1
  have k2 := (hW.cell (p := ⟨K + 1, 0, none⟩) hl).trans hK2
  have ha' := ha.below hW
  obtain ⟨a, ca, rfl, -⟩ := ha'.form
  have HA := Lib.hid ha'
  clear hK1 hK2 ha hW ha' hl
  by_cases h0 : 0 ≤ n
  · have e0 : decide (0 ≤ n) = true := decide_eq_true h0
    have hk := HK.out
    rw [powK, if_pos h0] at hk
    obtain ⟨j, rfl⟩ : ∃ j : Nat, n = j := ⟨n.toNat, by omega⟩
    rw [Int.toNat_natCast] at hk
    rw [Int.toNat_natCast]
    by_cases hbig : (j : Int) ≠ 0 ∧ 2 ≤ m ∧ 32767 / (nbits m - 1) < j
    · rw [if_pos hbig] at hk
      have HK' := Lib.hid hk
      have HG := Lib.hid hbig
      clear hk HK hbig
      go_enter Tryz.func210, Tryz.ntmps210
      go_wp2_with (go_at_call 103; refine (must_yes _ _).mono ?_; rintro e w' ⟨rfl, rfl⟩)
      refine (limitedPower_no _ m j _ HA.out hla HG.out.2.1 (by have := HG.out.1; omega) (by omega) HG.out.2.2).mono ?_
      rintro e w2 ⟨rfl, rfl⟩
      exact ⟨rfl, Below.refl _ _, .inr ⟨by rw [HK'.out]; decide, by rw [HK'.out]⟩⟩
    · rw [if_neg hbig] at hk
      have HK' := Lib.hid hk
      have HG := Lib.hid hbig
      clear hk HK hbig
      have hc : Calls Tryz.prog 211 #[.slice a (Nl.limbs m).length ca, .int .i64 (j : Int)] W fun e w' => (∃ v, e = .returned v ∧ IsN w' v (m ^ j)) ∧ Below W.heap.size W w' := by
        by_cases hj : j = 0
        · subst hj
          rw [Nat.pow_zero]
          exact limitedPower_zero _ W
        · refine limitedPower_yes _ m j _ HA.out hla hj (by omega) ?_
          by_cases hm : m < 2
          · exact .inl hm
          · refine .inr (Nat.not_lt.mp fun hlt => HG.out ⟨by omega, by omega, hlt⟩)
      have HC := Lib.hid hc
      clear hc
      go_enter Tryz.func210, Tryz.ntmps210
      go_wp2_with (go_at_call 103; refine (must_yes _ _).mono ?_; rintro e w' ⟨rfl, rfl⟩)
      refine HC.out.mono ?_
      rintro e w2 ⟨⟨v, rfl, hv⟩, hb2⟩
      have HV := Lib.hid hv
      have HB2 := Lib.hid hb2
      clear hv hb2 e0 k1 k2
      go_wp2_with fail
      go_ret
      exact ⟨HB2.out, .inl ⟨HK'.out, v, rfl, HV.out⟩⟩
  · have e0 : decide (0 ≤ n) = false := decide_eq_false h0
    have hk := HK.out
    rw [powK, if_neg h0] at hk
    have HK' := Lib.hid hk
    clear hk HK
    go_enter Tryz.func210, Tryz.ntmps210
    go_wp2_with (go_at_call 103; refine (must_no _ _).mono ?_; rintro e w' ⟨rfl, rfl⟩)
    exact ⟨rfl, Below.refl _ _, .inr ⟨by rw [HK'.out]; decide, by rw [HK'.out]⟩⟩

set_option maxHeartbeats 1000000 in
theorem pow_any (va : Value) (xs : List Nat) (n : Int) (w : World) (ha : At w va xs) (hsx : Nl.Small xs) (hn : -9223372036854775808 ≤ n) (hn2 : n ≤ 9223372036854775807) :
    Calls Tryz.prog 166 #[va, .int .i64 n] w fun e w' => Res1 w w' e xs (powK (Nl.val xs) n) (Nl.val xs ^ n.toNat) := by
  have hmf : ∀ (fn : Fn) (first cap : Array Value) (w : World), (Instr.makeFunc fn first cap).run Tryz.prog w = .ok (.func fn first cap) w := fun _ _ _ _ => rfl
  have HA := Lib.hid ha
  obtain ⟨a, ca, rfl, -⟩ := ha.form
  clear ha
  go_enter Tryz.func166, Tryz.ntmps166
  go_wp2_with fail
  obtain ⟨W, hW⟩ : ∃ W, W = ((w.alloc (.cells #[.slice a xs.length ca] 23)).alloc (.cells #[.int .i64 n] 3)).alloc (.cells #[.slice a xs.length ca] 23) := ⟨_, rfl⟩
  rw [← hW]
  obtain ⟨hbl, hsz, c1, c2, c3⟩ := boxes3 w _ _ _ _ _ W hW
  clear hW
  refine (one_one _ _ w W (powK (Nl.val xs) n) (Nl.val xs ^ n.toNat) (w.heap.size + 1 + 1) _ xs hbl (by omega) c3 HA.out (fun h1 => ?_) (fun _ _ => by kernel_rfl)).mono ?_
  · exact pow1_does _ _ n w.heap.size W c1 c2 (by omega) ((HA.out.num hsx h1).below hbl) (validB_eq hsx h1).2 hn hn2
  clear c1 c2 c3 hbl hsz
  rintro e w1 ⟨c, hc, ⟨v, rfl, h2, h3⟩, hb1⟩
  have HR := Lib.hid (And.intro hc (And.intro h2 (And.intro h3 hb1)))
  clear hc h2 h3 hb1
  go_wp2_with fail
  go_ret2
  exact ⟨c, HR.out.1, ⟨v, rfl, HR.out.2.1, HR.out.2.2.1⟩, HR.out.2.2.2⟩
end Go.Proofs.YtodjncohhgknlaaGreat
