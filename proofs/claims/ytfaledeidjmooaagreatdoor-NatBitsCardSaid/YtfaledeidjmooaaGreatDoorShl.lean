/-
  What Shl does. Conditions: those that each theorem names.
-/
import Derived.Test.YtfaledeidjmooaaGreatDoorRaise
import Derived.BigQuiet
import Derived.Deep.RegionWith
import Derived.Deep.Cut
import Derived.Deep.RegionHeld3
namespace Go.Proofs.YtfaledeidjmooaaGreatDoor
open Go.RowKit

/-- the error of a shift to the left -/
def shlK (m : Nat) (n : Int) : Int := if 0 ≤ n then (if m = 0 ∨ n.toNat + nbits m ≤ 32768 then 0 else 2) else 1

theorem shiftedLeft_zero (va : Value) (m : Nat) (hz : m = 0) (n : Int) (w : World) (ha : IsN w va m) :
    Calls Tryz.prog 44 #[va, .int .i64 n] w fun e w' => (∃ v, e = .returned v ∧ IsN w' v m) ∧ Below w.heap.size w w' := by
  subst hz
  have HA := Lib.hid ha
  rw [IsN, Nl.limbs_zero] at ha
  obtain ⟨a, ca, rfl, -⟩ := ha.form
  clear ha
  go_enter Tryz.func44, Tryz.ntmps44
  go_wp2_with fail
  go_ret
  exact ⟨⟨_, rfl, HA.out⟩, Below.refl _ _⟩

set_option maxHeartbeats 1000000 in
theorem shl1_does (va : Value) (m : Nat) (n : Int) (K : Nat) (w : World) (hK1 : w.cell? ⟨K, 0, none⟩ = some va) (hK2 : w.cell? ⟨K + 1, 0, none⟩ = some (.int .i64 n)) (hl : K + 1 < w.heap.size) (ha : IsN w va m)
    (hla : (Nl.limbs m).length ≤ 1024) (hn : -9223372036854775808 ≤ n) (hn2 : n ≤ 9223372036854775807) : NatDoes 43 #[.pointer (some ⟨K, 0, none⟩), .pointer (some ⟨K + 1, 0, none⟩)] w (shlK m n) (m * 2 ^ n.toNat) := by
  obtain ⟨k, hk⟩ : ∃ k : Int, k = shlK m n := ⟨_, rfl⟩
  rw [← hk]
  have HK := Lib.hid hk
  clear hk
  intro W hW
  have k1 := (hW.cell (p := ⟨K, 0, none⟩) (show K < w.heap.size by omega)).trans hK1
  have k2 := (hW.cell (p := ⟨K + 1, 0, none⟩) hl).trans hK2
  have ha' := ha.below hW
  have hbits : ∀ k, Calls Tryz.prog 32 #[va] (W.drewN k) fun e w' => e = .returned (.int .i64 (nbits m : Nat)) ∧ w' = W.drewN k := fun k => (bits_any va m _ (ha'.below (below_drewN ..)) (by omega)).mono fun _ _ h => ⟨h.1, h.2.symm⟩
  have HB := Lib.hid hbits
  clear hbits
  have h3 := nbits_len m
  obtain ⟨a, ca, rfl, -⟩ := ha'.form
  have HA := Lib.hid ha'
  clear hK1 hK2 ha hW ha' hl
  by_cases h0 : 0 ≤ n
  · have e0 : decide (0 ≤ n) = true := decide_eq_true h0
    have hk := HK.out
    rw [shlK, if_pos h0] at hk
    have HK' := Lib.hid hk
    clear hk HK
    obtain ⟨j, rfl⟩ : ∃ j : Nat, n = j := ⟨n.toNat, by omega⟩
    rw [Int.toNat_natCast] at HK' ⊢
    by_cases hz : m = 0
    · have hk := HK'.out
      rw [if_pos (.inl hz)] at hk
      have HK2 := Lib.hid hk
      have e1 : (((Nl.limbs m).length : Int) == 0) = true := by rw [hz, Nl.limbs_zero]; rfl
      have HZ := Lib.hid hz
      clear hk hz HK' HB h3
      go_enter Tryz.func43, Tryz.ntmps43
      go_wp2_with (go_at_call_of 41 (Value.bool true); refine (must_yes _ _).mono ?_; rintro e w' ⟨rfl, rfl⟩)
      go_quiet ((go_at_call 41; exact Calls.quiet_of_same ((must_yes _ _).mono fun _ _ h => ⟨h.1, h.2.symm⟩)))
      go_wp2_with fail
      refine (shiftedLeft_zero _ m HZ.out j _ (HA.out.below (below_drewN ..))).mono ?_
      rintro e w2 ⟨⟨v, rfl, hv⟩, hb2⟩
      have HV := Lib.hid hv
      have HB2 := Lib.hid ((below_drewN W nq W.heap.size).trans hb2)
      clear hv hb2 e0 k1 k2
      go_wp2_with fail
      go_ret
      exact ⟨HB2.out, .inl ⟨HK2.out, v, rfl, by rw [show m * 2 ^ j = m by rw [HZ.out, Nat.zero_mul]]; exact HV.out⟩⟩
    · have e1 : (((Nl.limbs m).length : Int) == 0) = false := by have := Nl.len_pos hz; rw [beq_eq_false_iff_ne]; omega
      obtain ⟨b, hb⟩ : ∃ b, b = nbits m := ⟨_, rfl⟩
      have HBB := HB.out
      rw [← hb] at HBB h3
      have hk := HK'.out
      rw [← hb] at hk
      have HB' := Lib.hid HBB
      clear HBB HB hb
      by_cases hf : j + b ≤ 32768
      · have e2 : decide ((j : Int) ≤ 32768 - (b : Int)) = true := by rw [decide_eq_true_eq]; omega
        rw [if_pos (.inr hf)] at hk
        have HK2 := Lib.hid hk
        clear hk
        go_enter Tryz.func43, Tryz.ntmps43
        go_wp2_with (go_at_call_of 41 (Value.bool true); refine (must_yes _ _).mono ?_; rintro e w' ⟨rfl, rfl⟩)
        go_quiet ((first
          | (go_at_call 32; exact Calls.quiet_of_same (HB'.out _))
          | (go_at_call 41; exact Calls.quiet_of_same ((must_yes _ _).mono fun _ _ h => ⟨h.1, h.2.symm⟩))))
        go_wp2_with fail
        refine (shiftedLeft_any _ m j _ (HA.out.below (below_drewN ..)) (by omega) (by omega)).mono ?_
        rintro e w2 ⟨⟨v, rfl, hv⟩, hb2⟩
        have HV := Lib.hid hv
        have HB2 := Lib.hid ((below_drewN W nq W.heap.size).trans hb2)
        clear hv hb2 e0 k1 k2
        go_wp2_with fail
        go_ret
        exact ⟨HB2.out, .inl ⟨HK2.out, v, rfl, HV.out⟩⟩
      · have hw : IntKind.i64.wrap (32768 - (b : Int)) = 32768 - b := by rw [IntKind.wrap_i64]; omega
        have e2 : decide ((j : Int) ≤ 32768 - (b : Int)) = false := by rw [decide_eq_false_iff_not]; omega
        rw [if_neg (fun h => by rcases h with h | h; exact hz h; exact hf h)] at hk
        have HK2 := Lib.hid hk
        clear hk
        go_enter Tryz.func43, Tryz.ntmps43
        go_wp2_with (go_at_call_of 41 (Value.bool true); refine (must_yes _ _).mono ?_; rintro e w' ⟨rfl, rfl⟩)
        go_region_with (first
          | (go_at_call 32; refine (HB'.out 1).mono ?_; rintro e w' ⟨rfl, rfl⟩)
          | (go_at_call 41; refine (must_no _ _).mono ?_; rintro e w' ⟨rfl, rfl⟩; refine (fun (_ : wpAny Tryz.prog .any #[] (fun _ _ _ => True) 0 #[] { tmps := #[], defers := [] } W) => ⟨rfl, below_drewN W 1 _, .inr ⟨by rw [HK2.out]; decide, by rw [HK2.out]⟩⟩) ?_))
        all_goals trivial
  · have e0 : decide (0 ≤ n) = false := decide_eq_false h0
    have hk := HK.out
    rw [shlK, if_neg h0] at hk
    have HK' := Lib.hid hk
    clear hk HK
    go_enter Tryz.func43, Tryz.ntmps43
    go_wp2_with (go_at_call 41; refine (must_no _ _).mono ?_; rintro e w' ⟨rfl, rfl⟩)
    exact ⟨rfl, Below.refl _ _, .inr ⟨by rw [HK'.out]; decide, by rw [HK'.out]⟩⟩

set_option maxHeartbeats 1000000 in
theorem shl_any (va : Value) (xs : List Nat) (n : Int) (w : World) (ha : At w va xs) (hsx : Nl.Small xs) (hn : -9223372036854775808 ≤ n) (hn2 : n ≤ 9223372036854775807) :
    Calls Tryz.prog 21 #[va, .int .i64 n] w fun e w' => Res1 w w' e xs (shlK (Nl.val xs) n) (Nl.val xs * 2 ^ n.toNat) := by
  have hmf : ∀ (fn : Fn) (first cap : Array Value) (w : World), (Instr.makeFunc fn first cap).run Tryz.prog w = .ok (.func fn first cap) w := fun _ _ _ _ => rfl
  have HA := Lib.hid ha
  obtain ⟨a, ca, rfl, -⟩ := ha.form
  clear ha
  go_enter Tryz.func21, Tryz.ntmps21
  go_wp2_with fail
  obtain ⟨W, hW⟩ : ∃ W, W = ((w.alloc (.cells #[.slice a xs.length ca] 23)).alloc (.cells #[.int .i64 n] 3)).alloc (.cells #[.slice a xs.length ca] 23) := ⟨_, rfl⟩
  rw [← hW]
  obtain ⟨hbl, hsz, c1, c2, c3⟩ := boxes3 w _ _ _ _ _ W hW
  clear hW
  refine (one_one _ _ w W (shlK (Nl.val xs) n) (Nl.val xs * 2 ^ n.toNat) (w.heap.size + 1 + 1) _ xs hbl (by omega) c3 HA.out (fun h1 => ?_) (fun _ _ => by kernel_rfl)).mono ?_
  · exact shl1_does _ _ n w.heap.size W c1 c2 (by omega) ((HA.out.num hsx h1).below hbl) (validB_eq hsx h1).2 hn hn2
  clear c1 c2 c3 hbl hsz
  rintro e w1 ⟨c, hc, ⟨v, rfl, h2, h3⟩, hb1⟩
  have HR := Lib.hid (And.intro hc (And.intro h2 (And.intro h3 hb1)))
  clear hc h2 h3 hb1
  go_wp2_with fail
  go_ret2
  exact ⟨c, HR.out.1, ⟨v, rfl, HR.out.2.1, HR.out.2.2.1⟩, HR.out.2.2.2⟩
end Go.Proofs.YtfaledeidjmooaaGreatDoor
