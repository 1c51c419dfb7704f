/-
  What root does where it goes bit by bit, and rootAndRest. Conditions: those that each theorem names.
-/
import Derived.Test.YtikgfdkaikpmhaaGreatRootBits
import Derived.BigQuiet
import Derived.Deep.RegionWith
import Derived.Deep.Cut
namespace Go.Proofs.YtikgfdkaikpmhaaGreat
open Go.RowKit

theorem root_size {m n : Nat} (h2 : 1 ≤ n) : m < (2 ^ ((nbits m + n - 1) / n)) ^ n := by
  refine Nat.lt_of_lt_of_le (lt_nbits m) ?_
  rw [← Nat.pow_mul]
  refine Nat.pow_le_pow_right (by decide) ?_
  have h3 := Nat.div_add_mod (nbits m + n - 1) n
  have h4 := Nat.mod_lt (nbits m + n - 1) (show 0 < n by omega)
  rw [Nat.mul_comm]
  omega

/-- what the inner function of roots makes: a root -/
def RootIs (w w' : World) (e : Ending) (n m : Nat) : Prop := ∃ r, IsRoot n m r ∧ (∃ v, e = .returned v ∧ IsN w' v r) ∧ Below w.heap.size w w'

set_option maxHeartbeats 2000000 in
/-- a small root: bit by bit -/
theorem root1_small (va : Value) (m n lost N L T : Nat) (w : World) (ha : IsN w va m) (hla : (Nl.limbs m).length ≤ 1024) (hn : 2 ≤ n) (hn2 : n ≤ 40000)
    (hN : w.cell? ⟨N, 0, none⟩ = some (.int .i64 n)) (hL : w.cell? ⟨L, 0, none⟩ = some (.int .i64 lost)) (hlost : lost ≤ 64)
    (hsm : (nbits m + n - 1) / n < lost + 8) :
    Calls Tryz.prog 134 #[va, .pointer (some ⟨N, 0, none⟩), .pointer (some ⟨L, 0, none⟩), .pointer (some ⟨T, 0, none⟩)] w fun e w' => RootIs w w' e n m := by
  have HA := Lib.hid ha
  have hb := nbits_len m
  have hbits : ∀ k, Calls Tryz.prog 80 #[va] (w.drewN k) fun e w' => e = .returned (.int .i64 (nbits m : Nat)) ∧ w' = w.drewN k := fun k => (bits_any va m _ (ha.below (below_drewN ..)) (by omega)).mono fun _ _ h => ⟨h.1, h.2.symm⟩
  have HBI := Lib.hid hbits
  obtain ⟨B, hB⟩ : ∃ B, B = nbits m := ⟨_, rfl⟩
  obtain ⟨s, hs⟩ : ∃ s, s = (nbits m + n - 1) / n := ⟨_, rfl⟩
  have hsz := root_size (m := m) (n := n) (by omega)
  rw [← hs] at hsz hsm
  have hsn : s * n ≤ 3000000 := by
    have := Nat.div_mul_le_self (nbits m + n - 1) n
    rw [← hs] at this
    omega
  have hs' : ((B : Int) + n - 1) / (n : Int) = (s : Int) := by
    rw [hs, hB, show ((nbits m : Int) + n - 1) = ((nbits m + n - 1 : Nat) : Int) by omega, Int.natCast_ediv]
  have hn0 : ((n : Int) == 0) = false := by rw [beq_eq_false_iff_ne]; omega
  have hn1 : ¬ (n : Int) = 0 := by omega
  have hn3 : ¬ n = 0 := by omega
  have hBl : B ≤ 40000 := by omega
  have e1 : decide ((s : Int) < (lost : Int) + 8) = true := by rw [decide_eq_true_eq]; omega
  rw [← hB] at HBI
  have hw1 : IntKind.i64.wrap ((B : Int) + n) = B + n := by rw [IntKind.wrap_i64]; omega
  have hw2 : IntKind.i64.wrap ((B : Int) + n - 1) = B + n - 1 := by rw [IntKind.wrap_i64]; omega
  have HS := Lib.hid (And.intro hsz hsn)
  obtain ⟨a, ca, rfl, -⟩ := ha.form
  clear ha hbits hb hsz hsn hs hB
  go_enter Tryz.func134, Tryz.ntmps134
  go_upto_region 1 with fail
  go_quiet ((go_at_call 80; exact Calls.quiet_of_same (HBI.out _)))
  rw [hs']
  go_wp2_with fail
  refine (rootByBits_any _ m n s _ (HA.out.below (below_drewN ..)) (by omega) hn2 (by omega) HS.out.2 HS.out.1).mono ?_
  rintro e w1 ⟨r, hr, ⟨v, rfl, hv⟩, hb1⟩
  have HR := Lib.hid hr
  have HV := Lib.hid hv
  have HB := Lib.hid (show Below w.heap.size w w1 from (below_drewN w nq _).trans hb1)
  clear hr hv hb1
  go_wp2_with fail
  go_ret
  exact ⟨r, HR.out, ⟨v, rfl, HV.out⟩, HB.out⟩

theorem bitLen_small (n : Nat) (hn : n ≤ 40000) : Lib.bitLen n ≤ 16 := Lib.bitLen_le n 16 (by omega) (by omega)

set_option maxHeartbeats 2000000 in
/-- a root that is found bit by bit -/
theorem root_small (va : Value) (m n : Nat) (w : World) (ha : IsN w va m) (hla : (Nl.limbs m).length ≤ 1024) (hn : 2 ≤ n) (hn2 : n ≤ 40000) (hsm : (nbits m + n - 1) / n < Lib.bitLen n + 8) :
    Calls Tryz.prog 112 #[va, .int .i64 n] w fun e w' => RootIs w w' e n m := by
  have hmf : ∀ (fn : Fn) (first cap : Array Value) (w : World), (Instr.makeFunc fn first cap).run Tryz.prog w = .ok (.func fn first cap) w := fun _ _ _ _ => rfl
  have HA := Lib.hid ha
  have hbl := bitLen_small n hn2
  obtain ⟨l, hl⟩ : ∃ l, l = Lib.bitLen n := ⟨_, rfl⟩
  rw [← hl] at hsm hbl
  have hlen : ∀ w, Calls Tryz.prog 127 #[.int .u64 n] w fun e w' => e = .returned (.int .i64 (l : Nat)) ∧ w = w' := fun w => by
    have := len_any (n : Int) w (by omega) (by omega)
    rwa [Int.toNat_natCast, ← hl] at this
  have HLEN := Lib.hid hlen
  obtain ⟨a, ca, rfl, -⟩ := ha.form
  have HSM := Lib.hid (And.intro hsm hl)
  clear ha hlen hsm hl
  go_enter Tryz.func112, Tryz.ntmps112
  go_wp2_with (go_at_call 127; refine (HLEN.out _).mono ?_; rintro e w' ⟨rfl, rfl⟩)
  obtain ⟨W, hW⟩ : ∃ W, W = ((w.alloc (.cells #[.int .i64 n] 3)).alloc (.cells #[.int .i64 l] 3)).alloc (.cells #[.func (.func 134) #[] #[.pointer (some ⟨w.heap.size, 0, none⟩), .pointer (some ⟨w.heap.size + 1, 0, none⟩), .pointer (some ⟨w.heap.size + 1 + 1, 0, none⟩)]] 70) := ⟨_, rfl⟩
  rw [← hW]
  have hbW : Below w.heap.size w W := by rw [hW]; exact (((Below.refl _ _).alloc (Nat.le_refl _) _).alloc (by simp) _).alloc (by simp; omega) _
  have c1 : W.cell? ⟨w.heap.size, 0, none⟩ = some (.int .i64 n) := by
    rw [hW]; exact cell_of_one ((Below.heap_alloc _ _ _ (by simp; omega)).trans (heap_alloc2_old w _ _))
  have c2 : W.cell? ⟨w.heap.size + 1, 0, none⟩ = some (.int .i64 l) := by
    rw [hW]; exact cell_of_one ((Below.heap_alloc _ _ _ (by simp)).trans (heap_alloc2_new w _ _))
  clear hW
  refine (root1_small _ m n l w.heap.size (w.heap.size + 1) (w.heap.size + 1 + 1) W (HA.out.below hbW) hla hn hn2 c1 c2 (by omega) HSM.out.1).mono ?_
  rintro e w1 ⟨r, hr, ⟨v, rfl, hv⟩, hb1⟩
  have HR := Lib.hid hr
  have HV := Lib.hid hv
  have HB := Lib.hid (show Below w.heap.size w w1 from hbW.trans (hb1.mono hbW.size))
  clear hr hv hb1 hbW c1 c2
  go_wp2_with fail
  go_ret
  exact ⟨r, HR.out, ⟨v, rfl, HV.out⟩, HB.out⟩

theorem root_unique {n m q r : Nat} (_hn : 1 ≤ n) (hq : IsRoot n m q) (hr : IsRoot n m r) : q = r := by
  have h1 : q < r + 1 := Nat.lt_of_not_le fun h => absurd (Nat.pow_le_pow_left h n) (by have := hq.1; have := hr.2; omega)
  have h2 : r < q + 1 := Nat.lt_of_not_le fun h => absurd (Nat.pow_le_pow_left h n) (by have := hr.1; have := hq.2; omega)
  omega
theorem root_exists {n : Nat} (hn : 1 ≤ n) (m : Nat) : ∃ q, IsRoot n m q := by
  induction m with
  | zero => exact ⟨0, by rw [IsRoot, Nat.zero_pow (by omega), Nat.zero_add, Nat.one_pow]; omega⟩
  | succ m ih =>
    obtain ⟨q, h1, h2⟩ := ih
    by_cases h : (q + 1) ^ n ≤ m + 1
    · refine ⟨q + 1, h, ?_⟩
      have : (q + 1) ^ n < (q + 1 + 1) ^ n := Nat.pow_lt_pow_left (Nat.lt_succ_self _) (by omega)
      omega
    · exact ⟨q, by omega, by omega⟩
theorem isRoot_one (m : Nat) : IsRoot 1 m m := by rw [IsRoot, Nat.pow_one, Nat.pow_one]; omega
theorem isRoot_small {m n : Nat} (hn : 1 ≤ n) (hm : m < 2) : IsRoot n m m ∧ m ^ n = m := by
  have : m = 0 ∨ m = 1 := by omega
  rcases this with rfl | rfl
  · rw [IsRoot, Nat.zero_pow (by omega), Nat.zero_add, Nat.one_pow]; omega
  · have : 2 ^ 1 ≤ 2 ^ n := Nat.pow_le_pow_right (by decide) hn
    refine ⟨⟨Nat.le_of_eq (Nat.one_pow n), ?_⟩, Nat.one_pow n⟩
    show 1 < 2 ^ n
    omega
theorem isRoot_big {m n : Nat} (hm : 2 ≤ m) (h : nbits m ≤ n) : IsRoot n m 1 := by
  rw [IsRoot, Nat.one_pow]
  exact ⟨by omega, Nat.lt_of_lt_of_le (lt_nbits m) (Nat.pow_le_pow_right (by decide) h)⟩

set_option maxHeartbeats 2000000 in
/-- a root and its rest, given what the inner function finds -/
theorem rootAndRest_of (va : Value) (m n q : Nat) (w : World) (ha : IsN w va m) (hla : (Nl.limbs m).length ≤ 1024) (hn : 1 ≤ n) (hn2 : n ≤ 9223372036854775807) (hq : IsRoot n m q)
    (hroot : 2 ≤ n → n < nbits m → ∀ w', Below w.heap.size w w' → Calls Tryz.prog 112 #[va, .int .i64 n] w' fun e w'' => RootIs w' w'' e n m) :
    Calls Tryz.prog 77 #[va, .int .i64 n] w fun e w' => RootOk w w' e q (m - q ^ n) := by
  have HA := Lib.hid ha
  have HROOT := Lib.hid hroot
  have HQ := Lib.hid hq
  have ht := belowTwo_any va m w ha
  have hnb := nbits_len m
  have hbits := Lib.hid (bits_any va m w ha (by omega))
  obtain ⟨a, ca, rfl, -⟩ := ha.form
  clear ha hroot hq
  by_cases h1 : n = 1 ∨ m < 2
  · have hqm : q = m ∧ m - q ^ n = 0 := by
      rcases h1 with rfl | h1
      · have := root_unique hn HQ.out (isRoot_one m)
        rw [this, Nat.pow_one]; omega
      · have := root_unique hn HQ.out (isRoot_small hn h1).1
        rw [this, (isRoot_small hn h1).2]; omega
    rw [hqm.2, hqm.1]
    clear hqm
    by_cases h2 : n = 1
    · have e0 : ((n : Int) == 1) = true := by simp [h2]
      clear h1 h2 ht
      go_enter Tryz.func77, Tryz.ntmps77
      go_wp2_with fail
      go_ret2
      exact ⟨⟨_, _, rfl, HA.out, .inl ⟨rfl, Nl.limbs_zero⟩⟩, Below.refl _ _⟩
    · have e0 : ((n : Int) == 1) = false := by rw [beq_eq_false_iff_ne]; omega
      rw [show decide (m < 2) = true from decide_eq_true (by omega)] at ht
      have HT := Lib.hid ht
      clear h1 h2 ht
      go_enter Tryz.func77, Tryz.ntmps77
      go_wp2_with (go_at_call 102; refine HT.out.mono ?_; rintro e w' ⟨rfl, rfl⟩)
      go_ret2
      exact ⟨⟨_, _, rfl, HA.out, .inl ⟨rfl, Nl.limbs_zero⟩⟩, Below.refl _ _⟩
  · have e0 : ((n : Int) == 1) = false := by rw [beq_eq_false_iff_ne]; omega
    have hm2 : 2 ≤ m := by omega
    have hn22 : 2 ≤ n := by omega
    rw [show decide (m < 2) = false from decide_eq_false (by omega)] at ht
    have HT := Lib.hid ht
    have HM := Lib.hid hm2
    obtain ⟨B, hB⟩ : ∃ B, B = nbits m := ⟨_, rfl⟩
    rw [← hB] at hbits hnb
    have HBB := Lib.hid hB
    clear h1 ht hm2 hB
    by_cases h3 : B ≤ n
    · have e1 : decide ((B : Int) ≤ n) = true := by rw [decide_eq_true_eq]; omega
      have e2 : decide (B ≤ n) = true := decide_eq_true h3
      have hq1 : q = 1 := root_unique hn HQ.out (isRoot_big HM.out (by rw [← HBB.out]; exact h3))
      rw [hq1, Nat.one_pow]
      clear hq1 h3
      go_enter Tryz.func77, Tryz.ntmps77
      go_wp2_with (first | (go_at_call 102; refine HT.out.mono ?_; rintro e w' ⟨rfl, rfl⟩) | (go_at_call 80; refine hbits.out.mono ?_; rintro e w' ⟨rfl, rfl⟩))
      refine (wordOf_num 1 _ (by omega)).mono ?_
      rintro e w1 ⟨⟨v1, rfl, o1⟩, b1⟩
      have O1 := Lib.hid (show IsN w1 v1 1 from o1.at.at)
      have B1 := Lib.hid b1
      clear o1 b1
      go_wp2_with fail
      refine (wordOf_num 1 _ (by omega)).mono ?_
      rintro e w2 ⟨⟨v2, rfl, o2⟩, b2⟩
      have O2 := Lib.hid (show IsN w2 v2 1 from o2.at.at)
      have O1' := Lib.hid (O1.out.below b2)
      have B2 := Lib.hid (B1.out.trans (b2.mono B1.out.size))
      clear o2 b2 O1 B1
      go_wp2_with fail
      refine (minus_any _ _ m 1 _ (HA.out.below B2.out) O2.out (by omega) (by have := HM.out; omega)).mono ?_
      rintro e w3 ⟨⟨v3, rfl, o3⟩, b3⟩
      have O3 := Lib.hid o3
      have B3 := Lib.hid (B2.out.trans (b3.mono B2.out.size))
      have O1'' := Lib.hid (O1'.out.below b3)
      clear o3 b3 B2 O1'
      go_wp2_with fail
      go_ret2
      exact ⟨⟨_, _, rfl, O1''.out, O3.out⟩, B3.out⟩
    · have e1 : decide ((B : Int) ≤ n) = false := by rw [decide_eq_false_iff_not]; omega
      have e2 : decide (B ≤ n) = false := decide_eq_false h3
      have hc := Lib.hid (HROOT.out hn22 (by rw [← HBB.out]; omega))
      have HNB := Lib.hid (Nat.lt_of_not_le h3)
      have hn40 : n ≤ 40000 := by omega
      clear h3
      go_enter Tryz.func77, Tryz.ntmps77
      go_wp2_with (first | (go_at_call 102; refine HT.out.mono ?_; rintro e w' ⟨rfl, rfl⟩) | (go_at_call 80; refine hbits.out.mono ?_; rintro e w' ⟨rfl, rfl⟩))
      refine (hc.out _ (Below.refl _ _)).mono ?_
      rintro e w1 ⟨r, hr, ⟨v, rfl, hv⟩, hb1⟩
      obtain rfl := root_unique hn HQ.out hr
      have HV := Lib.hid hv
      have HB1 := Lib.hid hb1
      clear hr hv hb1
      have hpl : ∀ k, k ≤ n → (Nl.limbs (q ^ k)).length ≤ 100000 := fun k hk => by
        have h1 : q ^ k ≤ m := by
          have hq0 : 0 < q := Nat.pos_of_ne_zero fun h => by
            have := HQ.out.2
            rw [h, Nat.zero_add, Nat.one_pow] at this
            have := HM.out
            omega
          exact Nat.le_trans (Nat.pow_le_pow_right hq0 hk) HQ.out.1
        exact Nat.le_trans (Nl.limbs_mono h1) (by omega)
      have HPL := Lib.hid hpl
      clear hpl
      go_wp2_with fail
      refine (power_any _ q n _ HV.out hn hn40 HPL.out).mono ?_
      rintro e w2 ⟨⟨v2, rfl, o2⟩, b2⟩
      have O2 := Lib.hid o2
      have HV2 := Lib.hid (HV.out.below b2)
      have B2 := Lib.hid (HB1.out.trans (b2.mono HB1.out.size))
      clear o2 b2 HV HB1
      go_wp2_with fail
      refine (minus_any _ _ m (q ^ n) _ (HA.out.below B2.out) O2.out (by omega) HQ.out.1).mono ?_
      rintro e w3 ⟨⟨v3, rfl, o3⟩, b3⟩
      have O3 := Lib.hid o3
      have B3 := Lib.hid (B2.out.trans (b3.mono B2.out.size))
      have HV3 := Lib.hid (HV2.out.below b3)
      clear o3 b3 B2 HV2
      go_wp2_with fail
      go_ret2
      exact ⟨⟨_, _, rfl, HV3.out, O3.out⟩, B3.out⟩
end Go.Proofs.YtikgfdkaikpmhaaGreat
