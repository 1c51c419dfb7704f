/-
  What timesHalves and times do. Conditions: those that each theorem names.
  What power does. What limitedPower does. Conditions: those that each theorem names.
-/
import Derived.Test.YtodjncohhgknlaaGreatHalves
namespace Go.Proofs.YtodjncohhgknlaaGreat
open Go.RowKit

theorem timesHalves_any (va vb : Value) (m n cut : Nat) (w : World) (ha : IsN w va m) (hb : IsN w vb n) (hla : (Nl.limbs m).length ≤ 100000) (hlb : (Nl.limbs n).length ≤ 100000)
    (hcut : 2 ≤ cut) (hcut2 : cut ≤ 1000000) :
    Calls Tryz.prog 275 #[va, vb, .int .i64 cut] w fun e w' => (∃ v, e = .returned v ∧ Own w.heap.size w' v (Nl.limbs (m * n))) ∧ Below w.heap.size w w' := by
  have hmf : ∀ (fn : Fn) (first cap : Array Value) (w : World), (Instr.makeFunc fn first cap).run Tryz.prog w = .ok (.func fn first cap) w := fun _ _ _ _ => rfl
  have HA := Lib.hid ha
  have HB := Lib.hid hb
  clear ha hb
  go_enter Tryz.func275, Tryz.ntmps275
  go_wp2_with fail
  obtain ⟨W, hW⟩ : ∃ W, W = (w.alloc (.cells #[.int .i64 (cut : Int)] 3)).alloc (.cells #[.func (.func 290) #[] #[.pointer (some ⟨w.heap.size, 0, none⟩), .pointer (some ⟨w.heap.size + 1, 0, none⟩)]] 255) := ⟨_, rfl⟩
  rw [← hW]
  have hbW : Below w.heap.size w W := by rw [hW]; exact ((Below.refl _ _).alloc (Nat.le_refl _) _).alloc (by simp) _
  have hs : W.heap.size = w.heap.size + 2 := by rw [hW]; simp
  have c1 : W.cell? ⟨w.heap.size, 0, none⟩ = some (.int .i64 cut) := by rw [hW]; simp
  have c2 : W.cell? ⟨w.heap.size + 1, 0, none⟩ = some (.func (.func 290) #[] #[.pointer (some ⟨w.heap.size, 0, none⟩), .pointer (some ⟨w.heap.size + 1, 0, none⟩)]) := by rw [hW]; simp
  refine (halves_any cut w.heap.size (w.heap.size + 1) hcut hcut2 (m + n) m n (Nat.le_refl _) va vb W (HA.out.below hbW) (HB.out.below hbW) hla hlb c1 c2 (by omega) (by omega)).mono ?_
  rintro e w1 ⟨⟨v, rfl, hv⟩, hb⟩
  have hbb : Below w.heap.size w w1 := hbW.trans (hb.mono (by omega))
  have hvv := hv.mono (show w.heap.size ≤ W.heap.size by omega)
  clear hW hs c1 c2 hb hv
  go_wp2_with fail
  go_ret
  exact ⟨⟨_, rfl, hvv⟩, hbb⟩
theorem times_any (va vb : Value) (m n : Nat) (w : World) (ha : IsN w va m) (hb : IsN w vb n) (hla : (Nl.limbs m).length ≤ 100000) (hlb : (Nl.limbs n).length ≤ 100000) :
    Calls Tryz.prog 286 #[va, vb] w fun e w' => (∃ v, e = .returned v ∧ Own w.heap.size w' v (Nl.limbs (m * n))) ∧ Below w.heap.size w w' := by
  have h := Lib.hid (timesHalves_any va vb m n 80 w ha hb hla hlb (by omega) (by omega))
  clear ha hb
  go_enter Tryz.func286, Tryz.ntmps286
  go_wp2_with fail
  refine h.out.mono ?_
  rintro e w1 ⟨⟨v, rfl, hv⟩, hb⟩
  go_wp2_with fail
  go_ret
  exact ⟨⟨_, rfl, hv⟩, hb⟩
end Go.Proofs.YtodjncohhgknlaaGreat

namespace Go.Proofs.YtodjncohhgknlaaGreat
open Go.RowKit
theorem and_one (x : Nat) (hx : x < 4611686018427387904) : bits BinOp.and IntKind.i64 (x : Int) 1 = ((x % 2 : Nat) : Int) := by
  have := bits_mask .i64 62 (by decide) (fun n h0 h1 => by rw [IntKind.wrap_i64]; omega) 1 (by decide) (x : Int) (by omega) (by omega)
  rw [show ((2 : Int) ^ 1 - 1) = 1 from rfl] at this
  rw [this]; rfl
theorem half_pow (m n k : Nat) : n / 2 ^ k = 2 * (n / 2 ^ (k + 1)) + n / 2 ^ k % 2 := by
  rw [Nat.pow_succ, ← Nat.div_div_eq_div_mul]
  omega
/-- the lengths of powers -/
theorem len_pow (a k : Nat) : (Nl.limbs (a ^ k)).length ≤ k * (Nl.limbs a).length + 1 := by
  induction k with
  | zero => 
    rw [Nat.pow_zero, Nat.zero_mul]
    exact Nl.limbs_lt (by decide)
  | succ k ih =>
    rw [Nat.pow_succ]
    have := Nl.len_mul (a ^ k) a
    rw [Nat.add_mul]; omega

set_option maxHeartbeats 1000000 in
theorem power_any (va : Value) (m n : Nat) (w : World) (ha : IsN w va m) (hn : 1 ≤ n) (hn2 : n ≤ 40000) (hlen : ∀ k, k ≤ n → (Nl.limbs (m ^ k)).length ≤ 100000) :
    Calls Tryz.prog 257 #[va, .int .i64 n] w fun e w' => (∃ v, e = .returned v ∧ IsN w' v (m ^ n)) ∧ Below w.heap.size w w' := by
  have HA := Lib.hid ha
  have HL := Lib.hid hlen
  have hl1 : (Nl.limbs m).length ≤ 100000 := by have := hlen 1 hn; rwa [Nat.pow_one] at this
  obtain ⟨b0, b1, b2⟩ := bitLen_bounds n (by omega) (by omega)
  obtain ⟨b, hb⟩ : ∃ b, Lib.bitLen n = b + 1 := ⟨Lib.bitLen n - 1, by omega⟩
  have hb64 : Lib.bitLen n ≤ 16 := Lib.bitLen_le n 16 (by omega) (by omega)
  rw [hb] at b1 b2 hb64
  clear ha hlen b0
  go_enter Tryz.func257, Tryz.ntmps257
  go_wp2_with fail
  refine (len_any _ _ (by omega) (by omega)).mono ?_
  rintro e w' ⟨rfl, rfl⟩
  rw [Int.toNat_natCast, hb]
  have HN := Lib.hid (show n / 2 ^ b = 1 from by
    rw [show b + 1 - 1 = b from rfl] at b1
    have x1 : n / 2 ^ b < 2 := Nat.div_lt_of_lt_mul (by rw [← Nat.pow_succ]; exact b2)
    have x2 : 0 < n / 2 ^ b := Nat.div_pos b1 (Nat.two_pow_pos b)
    omega)
  clear hb b1 b2
  go_wp2_with fail
  go_loopw [5, 6] (fun v i wr => ∃ k : Nat, k ≤ b ∧ i = .int .i64 ((k : Int) - 1) ∧ Hid (IsN wr v (m ^ (n / 2 ^ k))) ∧ Hid (Below w.heap.size w wr)) (fun _ i _ => (intOf i + 1).toNat)
  case atStart => exact ⟨b, Nat.le_refl _, by go_num, by rw [HN.out, Nat.pow_one]; exact HA.out, Below.refl _ _⟩
  case round =>
    obtain ⟨k, hk, rfl, hv, hbel⟩ := hrel
    cases k with
    | zero =>
      go_wp2_with fail
      go_ret
      have := hv.out
      rw [Nat.pow_zero, Nat.div_one] at this
      exact ⟨⟨_, rfl, this⟩, hbel.out⟩
    | succ k =>
      rw [show ((k + 1 : Nat) : Int) - 1 = (k : Int) from by omega]
      have hl2 : (Nl.limbs (m ^ (n / 2 ^ (k + 1)))).length ≤ 100000 := HL.out _ (Nat.div_le_self _ _)
      have hbit : bits BinOp.and IntKind.i64 ((n : Int) / 2 ^ k) 1 = ((n / 2 ^ k % 2 : Nat) : Int) := by
        rw [← and_one (n / 2 ^ k) (Nat.lt_of_le_of_lt (Nat.div_le_self _ _) (by omega))]
        congr 1
      have hmod : n / 2 ^ k % 2 < 2 := Nat.mod_lt _ (by decide)
      have HF := Lib.hid (half_pow m n k)
      obtain ⟨q, hq⟩ : ∃ q, q = n / 2 ^ k % 2 := ⟨_, rfl⟩
      rw [← hq] at hbit hmod
      have HQ := Lib.hid hq
      clear hq
      by_cases h1 : q = 1
      · have t1 : ((q : Int) == 1) = true := by simp [h1]
        have H1 := Lib.hid h1
        clear h1
        go_wp2_with fail
        refine (times_any _ _ _ _ wr hv.out hv.out hl2 hl2).mono ?_
        rintro e w1 ⟨⟨v1, rfl, o1⟩, b1⟩
        have O1 := Lib.hid (show IsN w1 v1 (m ^ (n / 2 ^ (k + 1)) * m ^ (n / 2 ^ (k + 1))) from o1.at.at)
        have B1 := Lib.hid (show Below w.heap.size w w1 from hbel.out.trans (b1.mono hbel.out.size))
        clear o1 b1 hv hbel
        have hl3 : (Nl.limbs (m ^ (n / 2 ^ (k + 1)) * m ^ (n / 2 ^ (k + 1)))).length ≤ 100000 := by
          rw [← Nat.pow_add]
          refine HL.out _ ?_
          have := HF.out
          have := Nat.div_le_self n (2 ^ k)
          omega
        go_wp2_with fail
        refine (times_any _ _ _ _ w1 O1.out (HA.out.below B1.out) hl3 hl1).mono ?_
        rintro e w2 ⟨⟨v2, rfl, o2⟩, b2⟩
        have O2 := Lib.hid (show IsN w2 v2 (m ^ (n / 2 ^ k)) from by
          have e1 : m ^ (n / 2 ^ (k + 1)) * m ^ (n / 2 ^ (k + 1)) * m = m ^ (n / 2 ^ k) := by
            rw [← Nat.pow_add, ← Nat.pow_succ]
            congr 1
            have x1 := HF.out
            rw [← HQ.out, H1.out] at x1
            omega
          rw [← e1]; exact o2.at.at)
        have B2 := Lib.hid (show Below w.heap.size w w2 from B1.out.trans (b2.mono B1.out.size))
        clear o2 b2
        go_wp2_with fail
        go_roundw
        case rel => exact ⟨k, by omega, rfl, O2.out, B2.out⟩
        case measure => simp [intOf] <;> omega
      · have t1 : ((q : Int) == 1) = false := by rw [beq_eq_false_iff_ne]; omega
        have H1 := Lib.hid (show q = 0 from by omega)
        clear h1
        go_wp2_with fail
        refine (times_any _ _ _ _ wr hv.out hv.out hl2 hl2).mono ?_
        rintro e w1 ⟨⟨v1, rfl, o1⟩, b1⟩
        have O1 := Lib.hid (show IsN w1 v1 (m ^ (n / 2 ^ k)) from by
          have e1 : m ^ (n / 2 ^ (k + 1)) * m ^ (n / 2 ^ (k + 1)) = m ^ (n / 2 ^ k) := by
            rw [← Nat.pow_add]
            congr 1
            have x1 := HF.out
            rw [← HQ.out, H1.out] at x1
            omega
          rw [← e1]; exact o1.at.at)
        have B1 := Lib.hid (show Below w.heap.size w w1 from hbel.out.trans (b1.mono hbel.out.size))
        clear o1 b1 hv hbel
        go_wp2_with fail
        go_roundw
        case rel => exact ⟨k, by omega, rfl, O1.out, B1.out⟩
        case measure => simp [intOf] <;> omega


theorem one_lim (w : World) : Calls Tryz.prog 255 #[.int .u32 1] w fun e w' => (∃ v, e = .returned v ∧ Own w.heap.size w' v (Nl.limbs 1)) ∧ Below w.heap.size w w' := wordOf_num 1 w (by decide)
theorem len_of_bits {m k : Nat} (h : m < 2 ^ k) : (Nl.limbs m).length ≤ k / 32 + 1 := by
  apply Nl.limbs_lt
  refine Nat.lt_of_lt_of_le h ?_
  rw [pow32]
  exact Nat.pow_le_pow_right (by decide) (by omega)

theorem nbits_lt {m k : Nat} (h : m < 2 ^ k) : nbits m ≤ k := by
  by_cases h0 : m = 0
  · subst h0; simp [nbits_zero]
  · have h1 := nbits_le h0
    apply Classical.byContradiction
    intro hc
    have h2 : 2 ^ k ≤ 2 ^ (nbits m - 1) := Nat.pow_le_pow_right (by decide) (by omega)
    omega
theorem nbits_len (m : Nat) : nbits m ≤ 32 * (Nl.limbs m).length := nbits_lt (by rw [← pow32]; exact Nl.lt_limbs m)
theorem nbits_two {m : Nat} (hm : 2 ≤ m) : 2 ≤ nbits m := by
  have h1 := lt_nbits m
  apply Classical.byContradiction
  intro hc
  have h2 : 2 ^ nbits m ≤ 2 ^ 1 := Nat.pow_le_pow_right (by decide) (by omega)
  omega

/-- powers that are too large end the call -/
theorem limitedPower_no (va : Value) (m n : Nat) (w : World) (ha : IsN w va m) (hla : (Nl.limbs m).length ≤ 1024) (hm : 2 ≤ m) (hn0 : n ≠ 0) (hn : n ≤ 9223372036854775807) (hbig : 32767 / (nbits m - 1) < n) :
    Calls Tryz.prog 211 #[va, .int .i64 n] w fun e w' => e = .panicked [{ v := .iface 182 (.agg #[.int .i64 2, .int .i64 0]), recovered := false }] ∧ w = w' := by
  have hn0 : ((n : Int) == 0) = false := by rw [beq_eq_false_iff_ne]; omega
  have ht := belowTwo_any va m w ha
  rw [show decide (m < 2) = false by simp; omega] at ht
  have hb := bits_any va m w ha (by omega)
  have h2 := nbits_two hm
  have h3 := nbits_len m
  obtain ⟨b, hbb⟩ : ∃ b, nbits m = b + 1 := ⟨nbits m - 1, by omega⟩
  rw [hbb] at hb hbig h2 h3
  rw [show b + 1 - 1 = b from rfl] at hbig
  have hbl : b ≤ 32768 := by omega
  have hz : ¬ ((b : Int) = 0) := by omega
  have hb0 : 0 ≤ (b : Int) := by omega
  have hdi : (32767 : Int) / (b : Int) = ((32767 / b : Nat) : Int) := rfl
  obtain ⟨q, hq⟩ : ∃ q, q = 32767 / b := ⟨_, rfl⟩
  rw [← hq] at hdi hbig
  have hd : decide (n ≤ q) = false := by simp; omega
  have HT := Lib.hid ht
  have HB := Lib.hid hb
  clear ha ht hb hbb hq hbig h3
  go_enter Tryz.func211, Tryz.ntmps211
  go_wp2_with fail
  refine HT.out.mono ?_
  rintro e w' ⟨rfl, rfl⟩
  go_wp2_with fail
  refine HB.out.mono ?_
  rintro e w' ⟨rfl, rfl⟩
  go_wp2_with fail
  refine (must_no _ _).mono ?_
  rintro e w' ⟨rfl, rfl⟩
  exact ⟨rfl, rfl, rfl⟩
theorem limitedPower_zero (va : Value) (w : World) :
    Calls Tryz.prog 211 #[va, .int .i64 0] w fun e w' => (∃ v, e = .returned v ∧ IsN w' v 1) ∧ Below w.heap.size w w' := by
  go_enter Tryz.func211, Tryz.ntmps211
  go_wp2_with fail
  refine (one_lim w).mono ?_
  rintro e w' ⟨⟨v, rfl, hv⟩, hb⟩
  go_wp2_with fail
  go_ret
  exact ⟨⟨_, rfl, hv.at.at⟩, hb⟩
theorem limitedPower_yes (va : Value) (m n : Nat) (w : World) (ha : IsN w va m) (hla : (Nl.limbs m).length ≤ 1024) (hn0 : n ≠ 0) (hn : n ≤ 9223372036854775807) (hok : m < 2 ∨ n ≤ 32767 / (nbits m - 1)) :
    Calls Tryz.prog 211 #[va, .int .i64 n] w fun e w' => (∃ v, e = .returned v ∧ IsN w' v (m ^ n)) ∧ Below w.heap.size w w' := by
  have ht := belowTwo_any va m w ha
  have e0 : ((n : Int) == 0) = false := by rw [beq_eq_false_iff_ne]; omega
  by_cases hm : m < 2
  · rw [show decide (m < 2) = true by simp; omega] at ht
    have HT := Lib.hid ht
    have HA := Lib.hid ha
    have HM := Lib.hid hm
    have HN := Lib.hid hn0
    clear ht ha hm hn0 hok
    go_enter Tryz.func211, Tryz.ntmps211
    go_wp2_with fail
    refine HT.out.mono ?_
    rintro e w' ⟨rfl, rfl⟩
    go_wp2_with fail
    go_ret
    refine ⟨⟨_, rfl, ?_⟩, Below.refl _ _⟩
    have h1 : m ^ n = m := by
      have := HM.out
      obtain ⟨k, rfl⟩ := Nat.exists_eq_succ_of_ne_zero HN.out
      rcases (show m = 0 ∨ m = 1 by omega) with rfl | rfl
      · rw [Nat.pow_succ, Nat.mul_zero]
      · rw [Nat.one_pow]
    rw [h1]; exact HA.out
  · rw [show decide (m < 2) = false by simp; omega] at ht
    have hm2 : 2 ≤ m := by omega
    have hok2 : n ≤ 32767 / (nbits m - 1) := by rcases hok with h | h; exact absurd h hm; exact h
    have hb := bits_any va m w ha (by omega)
    have h2 := nbits_two hm2
    have h3 := nbits_len m
    obtain ⟨b, hbb⟩ : ∃ b, nbits m = b + 1 := ⟨nbits m - 1, by omega⟩
    have hpow : ∀ k, k ≤ n → (Nl.limbs (m ^ k)).length ≤ 100000 := by
      intro k hk
      have x1 : m ^ k < 2 ^ (nbits m * k + 1) := by
        rw [Nat.pow_succ, Nat.pow_mul]
        have x2 : m ^ k ≤ (2 ^ nbits m) ^ k := Nat.pow_le_pow_left (Nat.le_of_lt (lt_nbits m)) k
        have x3 : 0 < (2 ^ nbits m) ^ k := Nat.pow_pos (Nat.two_pow_pos _)
        omega
      have x4 := len_of_bits x1
      have x5 : (nbits m - 1) * n ≤ 32767 := by
        rw [Nat.mul_comm]; exact (Nat.le_div_iff_mul_le (by omega)).1 hok2
      have x6 : nbits m * k ≤ nbits m * n := Nat.mul_le_mul_left _ hk
      have x7 : nbits m ≤ 2 * (nbits m - 1) := by omega
      have x8 : nbits m * n ≤ 2 * (nbits m - 1) * n := Nat.mul_le_mul_right n x7
      rw [Nat.mul_assoc] at x8
      omega
    rw [hbb] at hb h2 h3 hok2
    rw [show b + 1 - 1 = b from rfl] at hok2
    have hbl : b ≤ 32768 := by omega
    have hz : ¬ ((b : Int) = 0) := by omega
    have hb0 : 0 ≤ (b : Int) := by omega
    have hdi : (32767 : Int) / (b : Int) = ((32767 / b : Nat) : Int) := rfl
    obtain ⟨q, hq⟩ : ∃ q, q = 32767 / b := ⟨_, rfl⟩
    rw [← hq] at hdi hok2
    have hd : decide (n ≤ q) = true := by simp; omega
    have hqs : q ≤ 32767 := by rw [hq]; exact Nat.div_le_self _ _
    have hp := Lib.hid (power_any va m n w ha (by omega) (by omega) hpow)
    have HT := Lib.hid ht
    have HB := Lib.hid hb
    clear ha ht hb hbb hq h3 hok2 hok hpow hm hn0 hqs
    go_enter Tryz.func211, Tryz.ntmps211
    go_wp2_with fail
    refine HT.out.mono ?_
    rintro e w' ⟨rfl, rfl⟩
    go_wp2_with fail
    refine HB.out.mono ?_
    rintro e w' ⟨rfl, rfl⟩
    go_wp2_with fail
    refine (must_yes _ _).mono ?_
    rintro e w' ⟨rfl, rfl⟩
    go_wp2_with fail
    refine hp.out.mono ?_
    rintro e w' ⟨⟨v, rfl, hv⟩, hbw⟩
    go_wp2_with fail
    go_ret
    exact ⟨⟨_, rfl, hv⟩, hbw⟩
end Go.Proofs.YtodjncohhgknlaaGreat
