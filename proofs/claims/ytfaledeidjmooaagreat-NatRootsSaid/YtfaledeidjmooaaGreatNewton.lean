/-
  What rootFrom does, by Newton's rule; what root does for all numbers. Conditions: those that each theorem names.
-/
import Derived.Test.YtfaledeidjmooaaGreatWords
import Derived.Test.YtfaledeidjmooaaGreatBlocks
import Derived.Test.YtfaledeidjmooaaGreatThree
namespace Go.Proofs.YtfaledeidjmooaaGreat
open Go.RowKit

theorem square_nonneg (a : Int) : 0 ≤ a * a := by
  rcases Int.le_total 0 a with h | h
  · exact Int.mul_nonneg h h
  · have := Int.mul_nonneg (show 0 ≤ -a by omega) (show 0 ≤ -a by omega)
    rwa [Int.neg_mul_neg] at this
/-- the mean of powers -/
theorem mean_int (n : Nat) (r x : Int) (hr : 0 ≤ r) (hx : 0 ≤ x) : ((n : Int) + 1) * r * x ^ n ≤ r ^ (n + 1) + (n : Int) * x ^ (n + 1) := by
  induction n with
  | zero => simp [Int.pow_succ]
  | succ n ih =>
    have h1 : 0 ≤ x ^ n := Int.pow_nonneg hx
    rw [Int.pow_succ x n] at ih
    rw [Int.pow_succ r (n + 1), Int.pow_succ x (n + 1), Int.pow_succ x n, Int.natCast_succ]
    have hN : 0 ≤ (n : Int) := by omega
    generalize x ^ n = P at ih h1 ⊢
    generalize r ^ (n + 1) = R at ih ⊢
    generalize (n : Int) = N at ih hN ⊢
    have h2 := Int.mul_le_mul_of_nonneg_left ih hr
    have h3 : 0 ≤ (N + 1) * (P * ((r - x) * (r - x))) := Int.mul_nonneg (by omega) (Int.mul_nonneg h1 (square_nonneg _))
    have e : r * (R + N * (P * x)) - r * ((N + 1) * r * P) + (N + 1) * (P * ((r - x) * (r - x))) = R * r + (N + 1) * (P * x * x) - (N + 1 + 1) * r * (P * x) := by grind
    generalize r * (R + N * (P * x)) = a at *
    generalize r * ((N + 1) * r * P) = b at *
    generalize (N + 1) * (P * ((r - x) * (r - x))) = c at *
    generalize R * r + (N + 1) * (P * x * x) = d at *
    generalize (N + 1 + 1) * r * (P * x) = f at *
    omega
theorem mean_nat (n r x : Nat) : (n + 1) * r * x ^ n ≤ r ^ (n + 1) + n * x ^ (n + 1) := by
  have h := mean_int n r x (by omega) (by omega)
  rw [← Int.natCast_pow, ← Int.natCast_pow, ← Int.natCast_pow] at h
  have e : (((n + 1) * r * x ^ n : Nat) : Int) ≤ ((r ^ (n + 1) + n * x ^ (n + 1) : Nat) : Int) := by
    rw [Int.natCast_mul, Int.natCast_mul, Int.natCast_add, Int.natCast_add, Int.natCast_mul]
    exact h
  omega

/-- Newton's rule does not fall below the root -/
theorem newton_above {n m r x q : Nat} (hx : 0 < x) (hr : r ^ (n + 1) ≤ m) (hq : q = m / x ^ n) : r ≤ (q + x * n) / (n + 1) := by
  have hP : 0 < x ^ n := Nat.pow_pos hx
  rw [Nat.le_div_iff_mul_le (by omega)]
  have h1 := mean_nat n r x
  rw [Nat.pow_succ x n] at h1
  obtain ⟨P, hPP⟩ : ∃ P, P = x ^ n := ⟨_, rfl⟩
  rw [← hPP] at h1 hP hq
  have h2 := Nat.div_add_mod m P
  have h3 := Nat.mod_lt m hP
  rw [← hq] at h2
  apply Nat.le_of_lt_succ
  apply Nat.lt_of_mul_lt_mul_left (a := P)
  have e1 : P * (r * (n + 1)) = (n + 1) * r * P := by grind
  have e2 : P * (q + x * n).succ = P * q + n * (P * x) + P := by rw [Nat.succ_eq_add_one]; grind
  omega
/-- where it stops, the root is reached -/
theorem newton_stop {n m r x q : Nat} (hx : 0 < x) (hr : m < (r + 1) ^ (n + 1)) (hq : q = m / x ^ n) (hs : x ≤ (q + x * n) / (n + 1)) : x ≤ r := by
  have hP : 0 < x ^ n := Nat.pow_pos hx
  rw [Nat.le_div_iff_mul_le (by omega)] at hs
  have h1 : x ≤ q := by
    have : x * (n + 1) = x * n + x := by rw [Nat.mul_add, Nat.mul_one]
    omega
  rw [hq, Nat.le_div_iff_mul_le hP] at h1
  rw [Nat.mul_comm, ← Nat.pow_succ] at h1
  have h2 : x ^ (n + 1) < (r + 1) ^ (n + 1) := Nat.lt_of_le_of_lt h1 hr
  have h3 := (Nat.pow_lt_pow_iff_left (by omega : n + 1 ≠ 0)).1 h2
  omega

set_option maxRecDepth 10000 in
set_option maxHeartbeats 4000000 in
theorem rootFrom_any (va vx : Value) (m N X r : Nat) (w : World) (ha : IsN w va m) (hx : IsN w vx X) (hla : (Nl.limbs m).length ≤ 1024) (hN : 1 ≤ N) (hN2 : N ≤ 39999) (hr : IsRoot (N + 1) m r) (hr1 : 1 ≤ r) (hrX : r ≤ X)
    (hlX : (Nl.limbs X).length ≤ 4000) (hlen : ∀ k, k ≤ N → (Nl.limbs (X ^ k)).length ≤ 4000) :
    Calls Tryz.prog 145 #[va, .int .i64 ((N + 1 : Nat) : Int), vx] w fun e w' => (∃ v, e = .returned v ∧ IsN w' v r) ∧ Below w.heap.size w w' := by
  have HA := Lib.hid ha
  have HX := Lib.hid hx
  have HR := Lib.hid hr
  have HLEN := Lib.hid hlen
  obtain ⟨pa, ca, rfl, -⟩ := ha.form
  have e1 : ((N + 1 : Nat) : Int) - 1 = (N : Int) := by omega
  have e2 : ((N + 1 : Nat) : Int) = (N : Int) + 1 := by omega
  rw [e2]
  have e3 : (N : Int) + 1 - 1 = (N : Int) := by omega
  have e2' : ((N + 1 : Nat) : Int) = (N : Int) + 1 := by omega
  clear ha hx hr hlen e1 e2
  go_enter Tryz.func145, Tryz.ntmps145
  go_wp2_with fail
  go_loopw [2] (fun u wr => ∃ Y : Nat, Hid (IsN wr u Y) ∧ r ≤ Y ∧ Y ≤ X ∧ Hid (Below w.heap.size w wr)) (fun u wr => numAt wr u)
  case atStart => exact ⟨X, HX.out, hrX, Nat.le_refl _, Below.refl _ _⟩
  case round =>
    obtain ⟨Y, hY, hrY, hYX, hbl⟩ := hrel
    have hmu := numAt_of hY.out
    have hlY : (Nl.limbs Y).length ≤ 4000 := Nat.le_trans (Nl.limbs_mono hYX) hlX
    have hpk : ∀ k, k ≤ N → (Nl.limbs (Y ^ k)).length ≤ 4000 := fun k hk => Nat.le_trans (Nl.limbs_mono (Nat.pow_le_pow_left hYX k)) (HLEN.out k hk)
    obtain ⟨pY, cY, rfl, -⟩ := hY.out.form
    have HP := Lib.hid (power_any _ Y N wr hY.out hN (by omega) (fun k hk => Nat.le_trans (hpk k hk) (by omega)))
    have HPL := Lib.hid (hpk N (Nat.le_refl _))
    have HMU := Lib.hid hmu
    clear hmu hpk
    go_wp2_with fail
    refine HP.out.mono ?_
    rintro e w1 ⟨⟨vp, rfl, hp⟩, hb1⟩
    have hYp : 0 < Y := by omega
    have P1 := Lib.hid hp
    have N1 := Lib.hid (hbl.out.trans (hb1.mono hbl.out.size))
    have Y1 := Lib.hid (hY.out.below hb1)
    have hPp : 0 < Y ^ N := Nat.pow_pos hYp
    have HOV := Lib.hid (over_all _ vp m (Y ^ N) w1 (HA.out.below N1.out) hp (by omega) HPL.out hPp)
    clear hp hb1 hPp HP
    go_wp2_with fail
    refine HOV.out.mono ?_
    rintro e w2 ⟨⟨vq, vz, rfl, hq, -⟩, hb2⟩
    obtain ⟨q, hqe⟩ : ∃ q, q = m / Y ^ N := ⟨_, rfl⟩
    rw [← hqe] at hq
    have lq : (Nl.limbs q).length ≤ 1024 := Nat.le_trans (Nl.limbs_mono (by rw [hqe]; exact Nat.div_le_self _ _)) hla
    have Q2 := Lib.hid hq
    have Y2 := Lib.hid (Y1.out.below hb2)
    have N2 := Lib.hid (N1.out.trans (hb2.mono N1.out.size))
    have HQ := Lib.hid (And.intro hqe lq)
    clear hq hb2 hqe lq HOV Y1 N1 P1
    go_wp2_with fail
    refine (wordOf_num N w2 (by omega)).mono ?_
    rintro e w3 ⟨⟨vw, rfl, hw⟩, hb3⟩
    have lN : (Nl.limbs N).length ≤ 1 := Nl.limbs_lt (by omega)
    have HT := Lib.hid (times_any _ vw Y N w3 (Y2.out.below hb3) hw.at.at (by omega) (by omega))
    have Q3 := Lib.hid (Q2.out.below hb3)
    have Y3 := Lib.hid (Y2.out.below hb3)
    have N3 := Lib.hid (N2.out.trans (hb3.mono N2.out.size))
    clear hw hb3 Q2 Y2 N2
    go_wp2_with fail
    refine HT.out.mono ?_
    rintro e w4 ⟨⟨vt, rfl, ht⟩, hb4⟩
    have lYN : (Nl.limbs (Y * N)).length ≤ 4001 := Nat.le_trans (Nl.len_mul Y N) (by omega)
    have HPL2 := Lib.hid (plus_any vq vt q (Y * N) w4 (Q3.out.below hb4) ht.at.at (by have := HQ.out.2; omega) (by omega))
    have Y4 := Lib.hid (Y3.out.below hb4)
    have N4 := Lib.hid (N3.out.trans (hb4.mono N3.out.size))
    have lsum : (Nl.limbs (q + Y * N)).length ≤ 4002 := Nat.le_trans (Nl.len_add q (Y * N)) (by have := HQ.out.2; omega)
    clear ht hb4 Q3 Y3 N3 HT lYN
    go_wp2_with fail
    refine HPL2.out.mono ?_
    rintro e w5 ⟨⟨vs, rfl, hs⟩, hb5⟩
    have HOW := Lib.hid (overWord_any vs (q + Y * N) (N + 1) w5 hs (by omega) (by omega) (by omega))
    have Y5 := Lib.hid (Y4.out.below hb5)
    have N5 := Lib.hid (N4.out.trans (hb5.mono N4.out.size))
    rw [e2'] at HOW
    clear hs hb5 Y4 N4 HPL2 lsum
    go_wp2_with fail
    refine HOW.out.mono ?_
    rintro e w6 ⟨⟨vx, rfl, hx⟩, hb6⟩
    obtain ⟨Z, hZ⟩ : ∃ Z, Z = (q + Y * N) / (N + 1) := ⟨_, rfl⟩
    rw [← hZ] at hx
    have hrZ : r ≤ Z := by rw [hZ]; exact newton_above hYp HR.out.1 HQ.out.1
    have hstop : Y ≤ Z → Y ≤ r := fun h => newton_stop hYp HR.out.2 HQ.out.1 (by rw [← hZ]; exact h)
    have X6 := Lib.hid hx.at.at
    have Y6 := Lib.hid (Y5.out.below hb6)
    have N6 := Lib.hid (N5.out.trans (hb6.mono N5.out.size))
    have HS := Lib.hid hstop
    clear hx hb6 hZ hstop Y5 N5 HOW
    have HC := Lib.hid (compare_any vx _ Z Y w6 X6.out Y6.out)
    by_cases hge : Y ≤ Z
    · have hYr : Y = r := Nat.le_antisymm (HS.out hge) hrY
      obtain ⟨c, hc⟩ : ∃ c, cmpI (Z : Int) (Y : Int) = c := ⟨_, rfl⟩
      have hc0 : 0 ≤ c := by
        rw [← hc]
        rcases Nat.lt_or_eq_of_le hge with h | h
        · rw [cmpI_gt h]; decide
        · rw [h, cmpI_eq]; decide
      rw [hc] at HC
      have HY := Lib.hid hYr
      clear hYr hge hc
      go_wp2_with fail
      refine HC.out.mono ?_
      rintro e w' ⟨rfl, j, rfl⟩
      go_wp2_with fail
      go_ret
      exact ⟨⟨_, rfl, by rw [← HY.out]; exact Y6.out.below (below_drewN ..)⟩, N6.out.trans ((below_drewN w6 j _).mono N6.out.size)⟩
    · rw [cmpI_lt (by omega)] at HC
      go_wp2_with fail
      refine HC.out.mono ?_
      rintro e w7 ⟨rfl, j, h7⟩
      have hb7 : Below w6.heap.size w6 w7 := by rw [h7]; exact below_drewN ..
      have X7 := Lib.hid (X6.out.below hb7)
      have N7 := Lib.hid (N6.out.trans (hb7.mono N6.out.size))
      clear hb7 h7 HC X6 N6
      go_wp2_with fail
      go_roundw
      case rel => exact ⟨Z, X7.out, hrZ, by omega, N7.out⟩
      case measure =>
        show numAt w7 vx < numAt wr _
        rw [numAt_of X7.out, HMU.out]
        omega

/-- the closure of roots, for numbers of fewer than M bits -/
def RootCl (n lost N L T : Nat) (w : World) (M : Nat) : Prop := ∀ (va : Value) (m : Nat) (w' : World), Below w.heap.size w w' → IsN w' va m → nbits m < M → m ≠ 0 → (Nl.limbs m).length ≤ 1024 →
    Calls Tryz.prog 143 #[va, .pointer (some ⟨N, 0, none⟩), .pointer (some ⟨L, 0, none⟩), .pointer (some ⟨T, 0, none⟩)] w' fun e w'' => RootIs w' w'' e n m

theorem root_shifted {m n h f : Nat} (hf : IsRoot n (m / 2 ^ (n * h)) f) : m < ((f + 1) * 2 ^ h) ^ n := by
  have h1 := hf.2
  rw [Nat.div_lt_iff_lt_mul (Nat.two_pow_pos _)] at h1
  rw [Nat.mul_pow, ← Nat.pow_mul, Nat.mul_comm h n]
  exact h1
theorem root_below {n m r x : Nat} (hn : n ≠ 0) (hr : IsRoot n m r) (hx : m < x ^ n) : r ≤ x := by
  have h1 : r ^ n < x ^ n := Nat.lt_of_le_of_lt hr.1 hx
  exact Nat.le_of_lt ((Nat.pow_lt_pow_iff_left hn).1 h1)
theorem root_bits {n m r s : Nat} (hn : n ≠ 0) (hr : IsRoot n m r) (hm : m < (2 ^ s) ^ n) : r < 2 ^ s :=
  (Nat.pow_lt_pow_iff_left hn).1 (Nat.lt_of_le_of_lt hr.1 hm)
theorem bits_shifted {m k : Nat} (h : m ≠ 0) (hk : k < nbits m) : nbits (m / 2 ^ k) = nbits m - k ∧ m / 2 ^ k ≠ 0 := by
  have h1 := nbits_le h
  have h2 := lt_nbits m
  obtain ⟨c, hc⟩ : ∃ c, nbits m = c + 1 + k := ⟨nbits m - 1 - k, by omega⟩
  rw [hc] at h1 h2 ⊢
  rw [show c + 1 + k - 1 = c + k by omega] at h1
  have e : nbits (m / 2 ^ k) = c + 1 := by
    apply nbits_of
    · rw [Nat.le_div_iff_mul_le (Nat.two_pow_pos k), ← Nat.pow_add]; exact h1
    · rw [Nat.div_lt_iff_lt_mul (Nat.two_pow_pos k), ← Nat.pow_add]; exact h2
  refine ⟨by rw [e]; omega, fun h0 => ?_⟩
  rw [h0, nbits_zero] at e
  omega
theorem pow_two_len {s k a : Nat} (h : s * k < 32 * a) {x : Nat} (hx : x ≤ 2 ^ s) : (Nl.limbs (x ^ k)).length ≤ a := by
  apply Nl.limbs_lt
  rw [show (4294967296 : Nat) = 2 ^ 32 from rfl, ← Nat.pow_mul]
  refine Nat.lt_of_le_of_lt (Nat.pow_le_pow_left hx k) ?_
  rw [← Nat.pow_mul]
  exact Nat.pow_lt_pow_right (by decide) h

set_option maxRecDepth 10000 in
set_option maxHeartbeats 2000000 in
theorem root1_big (va : Value) (m n' lost N L T : Nat) (w : World) (ha : IsN w va m) (hm0 : m ≠ 0) (hla : (Nl.limbs m).length ≤ 1024) (hn : 1 ≤ n') (hn2 : n' ≤ 39999) (hnb : n' + 1 < nbits m)
    (hN : w.cell? ⟨N, 0, none⟩ = some (.int .i64 ((n' + 1 : Nat) : Int))) (hL : w.cell? ⟨L, 0, none⟩ = some (.int .i64 lost)) (hlost : lost ≤ 64)
    (hT : w.cell? ⟨T, 0, none⟩ = some (.func (.func 143) #[] #[.pointer (some ⟨N, 0, none⟩), .pointer (some ⟨L, 0, none⟩), .pointer (some ⟨T, 0, none⟩)]))
    (hNl : N < w.heap.size) (hTl : T < w.heap.size)
    (hbg : ¬ (nbits m + (n' + 1) - 1) / (n' + 1) < lost + 8) (hf : RootCl (n' + 1) lost N L T w (nbits m)) :
    Calls Tryz.prog 143 #[va, .pointer (some ⟨N, 0, none⟩), .pointer (some ⟨L, 0, none⟩), .pointer (some ⟨T, 0, none⟩)] w fun e w' => RootIs w w' e (n' + 1) m := by
  have HA := Lib.hid ha
  obtain ⟨n, hnn⟩ : ∃ n, n = n' + 1 := ⟨_, rfl⟩
  have HF := Lib.hid hf
  have hb := nbits_len m
  have hbits : ∀ k, Calls Tryz.prog 81 #[va] (w.drewN k) fun e w' => e = .returned (.int .i64 (nbits m : Nat)) ∧ w' = w.drewN k := fun k => (bits_any va m _ (ha.below (below_drewN ..)) (by omega)).mono fun _ _ h => ⟨h.1, h.2.symm⟩
  have HBI := Lib.hid hbits
  obtain ⟨B, hB⟩ : ∃ B, B = nbits m := ⟨_, rfl⟩
  obtain ⟨s, hs⟩ : ∃ s, s = (nbits m + (n' + 1) - 1) / (n' + 1) := ⟨_, rfl⟩
  have hsz := root_size (m := m) (n := n' + 1) (by omega)
  rw [← hs] at hsz hbg
  have hsn : s * (n' + 1) ≤ nbits m + n' := by
    have := Nat.div_mul_le_self (nbits m + (n' + 1) - 1) (n' + 1)
    rw [← hs] at this
    omega
  rw [← hnn] at hN hsz hsn HF hs ⊢
  have hs' : ((B : Int) + n - 1) / (n : Int) = (s : Int) := by
    rw [hs, hB, hnn, show ((nbits m : Int) + ((n' + 1 : Nat) : Int) - 1) = ((nbits m + (n' + 1) - 1 : Nat) : Int) by omega, Int.natCast_ediv]
  have hn0 : ((n : Int) == 0) = false := by rw [beq_eq_false_iff_ne]; omega
  have hn1 : ¬ (n : Int) = 0 := by omega
  have hn3 : ¬ n = 0 := by omega
  have hBl : B ≤ 32768 := by omega
  have hnlo : 2 ≤ n := by omega
  have hnhi : n ≤ 40000 := by omega
  obtain ⟨h, hh⟩ : ∃ h, h = (s - lost) / 2 := ⟨_, rfl⟩
  have hh2 : ((s : Int) - (lost : Int)) / 2 = (h : Int) := by omega
  have hsb : s ≤ 70000 := by
    have : s * 1 ≤ s * n := Nat.mul_le_mul_left s (by omega)
    omega
  have hh4 : 4 ≤ h := by omega
  have hhs : h + h ≤ s := by omega
  obtain ⟨nh, hnh⟩ : ∃ x, x = n * h := ⟨_, rfl⟩
  have hnh2 : (n : Int) * (h : Int) = (nh : Int) := by rw [hnh, Int.natCast_mul]
  have hnhb : nh + nh ≤ s * n := by
    rw [hnh, Nat.mul_comm s n, ← Nat.mul_add]
    exact Nat.mul_le_mul_left n hhs
  have hnhB : nh < B := by rw [hB]; omega
  have e1 : decide ((s : Int) < (lost : Int) + 8) = false := by rw [decide_eq_false_iff_not]; omega
  rw [← hB] at HBI
  have hw1 : IntKind.i64.wrap ((B : Int) + n) = B + n := by rw [IntKind.wrap_i64]; omega
  have hw2 : IntKind.i64.wrap ((B : Int) + n - 1) = B + n - 1 := by rw [IntKind.wrap_i64]; omega
  have HS := Lib.hid (And.intro hsz (And.intro hsn (And.intro hs (And.intro hh (And.intro hnh (And.intro hnhb (And.intro hB hm0)))))))
  have HNN := Lib.hid hnn
  have HW := Lib.hid (And.intro hN (And.intro hL hT))
  obtain ⟨a, ca, rfl, -⟩ := ha.form
  clear ha hbits hb hsz hsn hs hB hf hbg hnb hh hnh hnn hm0
  go_enter Tryz.func143, Tryz.ntmps143
  go_upto_region 1 with fail
  go_quiet ((go_at_call 81; exact Calls.quiet_of_same (HBI.out _)))
  rw [hs']
  obtain ⟨w1, hw⟩ : ∃ w1, w1 = w.drewN nq := ⟨_, rfl⟩
  rw [← hw]
  have hN1 : w1.cell? ⟨N, 0, none⟩ = some (.int .i64 n) := by rw [hw]; exact hN
  have hL1 : w1.cell? ⟨L, 0, none⟩ = some (.int .i64 lost) := by rw [hw]; exact hL
  have hT1 : w1.cell? ⟨T, 0, none⟩ = some (.func (.func 143) #[] #[.pointer (some ⟨N, 0, none⟩), .pointer (some ⟨L, 0, none⟩), .pointer (some ⟨T, 0, none⟩)]) := by rw [hw]; exact hT
  have hb1 : Below w.heap.size w w1 := by rw [hw]; exact below_drewN ..
  have HA1 := Lib.hid (HA.out.below hb1)
  have B1 := Lib.hid hb1
  clear hw hb1 HA HBI hw1 hw2 hN hL hT hs' nq
  go_wp2_with fail
  rw [hh2]
  clear hh2
  have hnhb2 : nh ≤ 40000 := by have := HS.out.2.2.2.2.2.1; have := HS.out.2.1; omega
  have hw3 : IntKind.i64.wrap (nh : Int) = (nh : Int) := by rw [IntKind.wrap_i64]; omega
  have HSR := Lib.hid (shiftedRight_any _ m nh w1.drew (show IsN w1.drew _ m from HA1.out) (by omega) (by omega))
  have hbs := bits_shifted (m := m) HS.out.2.2.2.2.2.2.2 (k := nh) (by rw [← HS.out.2.2.2.2.2.2.1]; exact hnhB)
  have hnhp : 0 < nh := by rw [HS.out.2.2.2.2.1]; exact Nat.mul_pos (by omega) (by omega)
  have HCL := Lib.hid (fun (v : Value) (w2 : World) (h2 : Below w1.drew.heap.size w1.drew w2) (hv : IsN w2 v (m / 2 ^ nh)) =>
    HF.out v (m / 2 ^ nh) w2 (B1.out.trans ((Below.trans (b := w1.drew) (Below.drew (Below.refl _ _)) h2).mono B1.out.size)) hv (by rw [hbs.1]; have := HS.out.2.2.2.2.2.2.1; omega) hbs.2 (Nat.le_trans (Nl.limbs_mono (Nat.div_le_self _ _)) hla))
  have hNl1 : N < w1.heap.size := Nat.lt_of_lt_of_le hNl B1.out.size
  have hTl1 : T < w1.heap.size := Nat.lt_of_lt_of_le hTl B1.out.size
  clear hbs
  go_region_held3 (fun w' => w'.cell? ⟨N, 0, none⟩ = some (.int .i64 n) ∧ w'.cell? ⟨T, 0, none⟩ = some (.func (.func 143) #[] #[.pointer (some ⟨N, 0, none⟩), .pointer (some ⟨L, 0, none⟩), .pointer (some ⟨T, 0, none⟩)]))
    (first
      | go_keep
      | assumption)
    (first
      | (go_at_call 84; refine HSR.out.mono ?_; rintro e w2 ⟨⟨v2, rfl, hv2⟩, hb2⟩; have hN2 := (hb2.cell (p := ⟨N, 0, none⟩) hNl1).trans hN1; have hT2 := (hb2.cell (p := ⟨T, 0, none⟩) hTl1).trans hT1)
      | (go_at_call 143; refine (HCL.out v2 w2 hb2 hv2).mono ?_; rintro e w3 ⟨f, hf3, ⟨v3, rfl, hv3⟩, hb3⟩; have hN3 := (hb3.cell (p := ⟨N, 0, none⟩) (Nat.lt_of_lt_of_le hNl1 hb2.size)).trans hN2; have hT3 := (hb3.cell (p := ⟨T, 0, none⟩) (Nat.lt_of_lt_of_le hTl1 hb2.size)).trans hT2))
  have hb23 : Below w1.heap.size w1 w3 := Below.trans (b := w1.drew) (Below.drew (Below.refl _ _)) (hb2.trans (hb3.mono hb2.size))
  have B3 := Lib.hid (B1.out.trans (hb23.mono B1.out.size))
  have HA3 := Lib.hid (HA1.out.below hb23)
  have HV3 := Lib.hid (show IsN w3.drew v3 f from hv3)
  obtain ⟨r, hr⟩ := root_exists (n := n) (by omega) m
  obtain ⟨X, hX⟩ : ∃ X, X = (f + 1) * 2 ^ h := ⟨_, rfl⟩
  have hmX : m < X ^ n := by rw [hX]; rw [HS.out.2.2.2.2.1] at hf3; exact root_shifted hf3
  have hrX := root_below hn3 hr hmX
  have hr1 : 1 ≤ r := by
    apply Nat.pos_of_ne_zero
    intro h0
    have h1 := hr.2
    rw [h0, Nat.zero_add, Nat.one_pow] at h1
    have := HS.out.2.2.2.2.2.2.2
    omega
  have hf2 : f < 2 ^ (s - h) := by
    refine root_bits hn3 hf3 ?_
    rw [Nat.div_lt_iff_lt_mul (Nat.two_pow_pos nh), ← Nat.pow_mul, ← Nat.pow_add]
    have h1 := HS.out.1
    rw [← Nat.pow_mul] at h1
    refine Nat.lt_of_lt_of_le h1 (Nat.pow_le_pow_right (by decide) (Nat.le_of_eq ?_))
    rw [HS.out.2.2.2.2.1, Nat.mul_comm n h, ← Nat.add_mul, Nat.sub_add_cancel (by omega)]
  have hXs : X ≤ 2 ^ s := by
    have e : 2 ^ s = 2 ^ (s - h) * 2 ^ h := by rw [← Nat.pow_add, Nat.sub_add_cancel (by omega)]
    rw [hX, e]
    exact Nat.mul_le_mul_right _ hf2
  have hsn2 : s * n ≤ 127000 := by have := HS.out.2.1; have := HS.out.2.2.2.2.2.2.1; omega
  have hlen : ∀ k, k ≤ n' → (Nl.limbs (X ^ k)).length ≤ 4000 := fun k hk => by
    refine pow_two_len (s := s) ?_ hXs
    have h2 : s * k ≤ s * n := Nat.mul_le_mul_left s (by have := HNN.out; omega)
    omega
  have hlX : (Nl.limbs X).length ≤ 4000 := by
    have := hlen 1 hn
    rwa [Nat.pow_one] at this
  have hlf : (Nl.limbs f).length ≤ 4000 := Nat.le_trans (Nl.limbs_mono (by rw [hX]; exact Nat.le_trans (Nat.le_succ f) (Nat.le_mul_of_pos_right _ (Nat.two_pow_pos h)) : f ≤ X)) hlX
  have HRF := Lib.hid (fun (w6 : World) (v6 : Value) (h6 : Below w3.drew.heap.size w3.drew w6) (hv6 : IsN w6 v6 X) => by
    have h := rootFrom_any _ v6 m n' X r w6 (HA3.out.below (Below.trans (b := w3.drew) (Below.drew (Below.refl _ _)) h6)) hv6 hla hn hn2 (by rw [← HNN.out]; exact hr) hr1 hrX hlX hlen
    rw [← HNN.out] at h
    exact h)
  have HRR := Lib.hid hr
  have HWO := Lib.hid (wordOf_num 1 w3.drew (by decide))
  have hNl3 : N < w3.drew.heap.size := Nat.lt_of_lt_of_le hNl1 hb23.size
  have lf1 : (Nl.limbs (f + 1)).length ≤ 4001 := by have := Nl.len_add f 1; have : (Nl.limbs 1).length ≤ 1 := Nl.limbs_lt (by decide); omega
  have HX := Lib.hid hX
  clear hb2 hb3 hv2 hv3 hN2 hT2 hT3 hf3 hr hmX hrX hr1 hf2 hXs hsn2 hlen hlX HSR HCL hb23 hX HA1 B1 hNl1 hTl1 hN1 hL1 hT1
  go_wp2_with fail
  go_region_held3 (fun w' => w'.cell? ⟨N, 0, none⟩ = some (.int .i64 n))
    (first
      | go_keep
      | assumption)
    (first
      | (go_at_call 104; refine HWO.out.mono ?_; rintro e w4 ⟨⟨v4, rfl, hv4⟩, hb4⟩; have hN4 := (hb4.cell (p := ⟨N, 0, none⟩) hNl3).trans hN3)
      | (go_at_call 59; refine (plus_any v3 v4 f 1 w4 (HV3.out.below hb4) hv4.at.at (by omega) (by have : (Nl.limbs 1).length ≤ 1 := Nl.limbs_lt (by decide); omega)).mono ?_; rintro e w5 ⟨⟨v5, rfl, hv5⟩, hb5⟩; have hN5 := (hb5.cell (p := ⟨N, 0, none⟩) (Nat.lt_of_lt_of_le hNl3 hb4.size)).trans hN4)
      | (go_at_call 82; refine (shiftedLeft_any v5 (f + 1) h w5 hv5 (by omega) (by omega)).mono ?_; rintro e w6 ⟨⟨v6, rfl, hv6⟩, hb6⟩; have hN6 := (hb6.cell (p := ⟨N, 0, none⟩) (Nat.lt_of_lt_of_le hNl3 (Nat.le_trans hb4.size hb5.size))).trans hN5; have hb46 := hb4.trans ((hb5.trans (hb6.mono hb5.size)).mono hb4.size))
      | (go_at_call 145; refine (HRF.out w6 v6 hb46 (by rw [HX.out]; exact hv6)).mono ?_; rintro e w7 ⟨⟨v7, rfl, hv7⟩, hb7⟩; have hN7 := (hb7.cell (p := ⟨N, 0, none⟩) (Nat.lt_of_lt_of_le hNl3 hb46.size)).trans hN6))
  all_goals
    have hb37 : Below w3.heap.size w3 w7 := Below.trans (b := w3.drew) (Below.drew (Below.refl _ _)) (hb46.trans (hb7.mono hb46.size))
    have HV7 := Lib.hid (And.intro hv7 (B3.out.trans (hb37.mono B3.out.size)))
    clear hb37 hb46 hb7 hv7 hb4 hb5 hb6 hv4 hv5 hv6 hN3 hN4 hN5 hN6 hN7
    go_wp2_with fail
    go_ret
    exact ⟨r, HRR.out, ⟨_, rfl, HV7.out.1⟩, HV7.out.2⟩

theorem RootCl.below {n lost N L T M : Nat} {w w1 : World} (k : RootCl n lost N L T w M) (hb : Below w.heap.size w w1) : RootCl n lost N L T w1 M :=
  fun va m w' h1 => k va m w' (hb.trans (h1.mono hb.size))
theorem root1_all (n' lost N L T : Nat) (w : World) (hn : 1 ≤ n') (hn2 : n' ≤ 39999)
    (hN : w.cell? ⟨N, 0, none⟩ = some (.int .i64 ((n' + 1 : Nat) : Int))) (hL : w.cell? ⟨L, 0, none⟩ = some (.int .i64 lost)) (hlost : lost ≤ 64)
    (hT : w.cell? ⟨T, 0, none⟩ = some (.func (.func 143) #[] #[.pointer (some ⟨N, 0, none⟩), .pointer (some ⟨L, 0, none⟩), .pointer (some ⟨T, 0, none⟩)]))
    (hNl : N < w.heap.size) (hLl : L < w.heap.size) (hTl : T < w.heap.size) : ∀ M, RootCl (n' + 1) lost N L T w M := by
  intro M
  induction M with
  | zero => intro va m w' _ _ h; omega
  | succ M ih =>
    intro va m w' hw ha hm hm0 hla
    have hN' := (hw.cell (p := ⟨N, 0, none⟩) hNl).trans hN
    have hL' := (hw.cell (p := ⟨L, 0, none⟩) hLl).trans hL
    have hT' := (hw.cell (p := ⟨T, 0, none⟩) hTl).trans hT
    by_cases hsm : (nbits m + (n' + 1) - 1) / (n' + 1) < lost + 8
    · exact root1_small va m (n' + 1) lost N L T w' ha hla (by omega) (by omega) hN' hL' hlost hsm
    · have hnb : n' + 1 < nbits m := by
        apply Classical.byContradiction
        intro hc
        apply hsm
        have h1 : (nbits m + (n' + 1) - 1) / (n' + 1) ≤ 1 := by
          apply Nat.le_of_lt_succ
          rw [Nat.div_lt_iff_lt_mul (by omega)]
          omega
        omega
      refine root1_big va m n' lost N L T w' ha hm0 hla hn hn2 hnb hN' hL' hlost hT' (Nat.lt_of_lt_of_le hNl hw.size) (Nat.lt_of_lt_of_le hTl hw.size) hsm ?_
      intro vb k w2 h2 hb hk hk0 hlk
      exact ih vb k w2 (hw.trans (h2.mono hw.size)) hb (by omega) hk0 hlk

set_option maxHeartbeats 2000000 in
theorem root_all (va : Value) (m n : Nat) (w : World) (ha : IsN w va m) (hm0 : m ≠ 0) (hla : (Nl.limbs m).length ≤ 1024) (hn : 2 ≤ n) (hn2 : n ≤ 40000) :
    Calls Tryz.prog 114 #[va, .int .i64 n] w fun e w' => RootIs w w' e n m := by
  have hmf : ∀ (fn : Fn) (first cap : Array Value) (w : World), (Instr.makeFunc fn first cap).run Tryz.prog w = .ok (.func fn first cap) w := fun _ _ _ _ => rfl
  have HA := Lib.hid ha
  have hbl := bitLen_small n hn2
  obtain ⟨l, hl⟩ : ∃ l, l = Lib.bitLen n := ⟨_, rfl⟩
  rw [← hl] at hbl
  have hlen : ∀ w, Calls Tryz.prog 132 #[.int .u64 n] w fun e w' => e = .returned (.int .i64 (l : Nat)) ∧ w = w' := fun w => by
    have := len_any (n : Int) w (by omega) (by omega)
    rwa [Int.toNat_natCast, ← hl] at this
  have HLEN := Lib.hid hlen
  obtain ⟨a, ca, rfl, -⟩ := ha.form
  have HM := Lib.hid hm0
  clear ha hlen hl hm0
  go_enter Tryz.func114, Tryz.ntmps114
  go_wp2_with (go_at_call 132; refine (HLEN.out _).mono ?_; rintro e w' ⟨rfl, rfl⟩)
  obtain ⟨W, hW⟩ : ∃ W, W = ((w.alloc (.cells #[.int .i64 n] 3)).alloc (.cells #[.int .i64 l] 3)).alloc (.cells #[.func (.func 143) #[] #[.pointer (some ⟨w.heap.size, 0, none⟩), .pointer (some ⟨w.heap.size + 1, 0, none⟩), .pointer (some ⟨w.heap.size + 1 + 1, 0, none⟩)]] 70) := ⟨_, rfl⟩
  rw [← hW]
  have hbW : Below w.heap.size w W := by rw [hW]; exact (((Below.refl _ _).alloc (Nat.le_refl _) _).alloc (by simp) _).alloc (by simp; omega) _
  have hsW : W.heap.size = w.heap.size + 3 := by rw [hW]; simp
  have c1 : W.cell? ⟨w.heap.size, 0, none⟩ = some (.int .i64 n) := by
    rw [hW]; exact cell_of_one ((Below.heap_alloc _ _ _ (by simp; omega)).trans (heap_alloc2_old w _ _))
  have c2 : W.cell? ⟨w.heap.size + 1, 0, none⟩ = some (.int .i64 l) := by
    rw [hW]; exact cell_of_one ((Below.heap_alloc _ _ _ (by simp)).trans (heap_alloc2_new w _ _))
  have c3 : W.cell? ⟨w.heap.size + 1 + 1, 0, none⟩ = some (.func (.func 143) #[] #[.pointer (some ⟨w.heap.size, 0, none⟩), .pointer (some ⟨w.heap.size + 1, 0, none⟩), .pointer (some ⟨w.heap.size + 1 + 1, 0, none⟩)]) := by
    rw [hW]
    have := heap_alloc_new ((w.alloc (.cells #[.int .i64 n] 3)).alloc (.cells #[.int .i64 l] 3)) (.cells #[.func (.func 143) #[] #[.pointer (some ⟨w.heap.size, 0, none⟩), .pointer (some ⟨w.heap.size + 1, 0, none⟩), .pointer (some ⟨w.heap.size + 1 + 1, 0, none⟩)]] 70)
    exact cell_of_one (by simpa using this)
  clear hW
  obtain ⟨n', hn'⟩ : ∃ n', n = n' + 1 := ⟨n - 1, by omega⟩
  rw [hn'] at c1
  have hcl := root1_all n' l w.heap.size (w.heap.size + 1) (w.heap.size + 1 + 1) W (by omega) (by omega) c1 c2 (by omega) c3 (by omega) (by omega) (by omega) (nbits m + 1) _ m W (Below.refl _ _) (HA.out.below hbW) (by omega) HM.out hla
  rw [← hn'] at hcl
  refine hcl.mono ?_
  rintro e w1 ⟨r, hr, ⟨v, rfl, hv⟩, hb1⟩
  have HR := Lib.hid hr
  have HV := Lib.hid hv
  have HB := Lib.hid (show Below w.heap.size w w1 from hbW.trans (hb1.mono hbW.size))
  clear hr hv hb1 hbW c1 c2 c3 hcl hn'
  go_wp2_with fail
  go_ret
  exact ⟨r, HR.out, ⟨v, rfl, HV.out⟩, HB.out⟩
end Go.Proofs.YtfaledeidjmooaaGreat
