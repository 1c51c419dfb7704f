/-
  Lehmer's steps: what they keep. What commonDivisorOfWords and leadingSteps do. Conditions: those that each theorem names.
-/
import Derived.Test.YtfaledeidjmooaaGreatSmall
import Derived.Test.YtfaledeidjmooaaGreatShift
import Derived.BigRegion
import Derived.Deep.RegionWith
import Derived.Deep.Cut
import Derived.Laws.Rows
namespace Go.Proofs.YtfaledeidjmooaaGreat
open Go.RowKit

/-- the state of Lehmer's steps on m and n, whose first bits are x0 and y0; M is the worth of the others -/
structure Lead (m n M x0 y0 p q r s x y : Int) : Prop where
  hx : x = p * x0 + q * y0
  hy : y = r * x0 + s * y0
  det : p * s - q * r = 1 ∨ p * s - q * r = -1
  signs : (0 ≤ p ∧ q ≤ 0 ∧ r ≤ 0 ∧ 0 ≤ s) ∨ (p ≤ 0 ∧ 0 ≤ q ∧ 0 ≤ r ∧ s ≤ 0)
  xp : 0 ≤ x + p ∧ x + p ≤ x0 + 1
  xq : 0 ≤ x + q ∧ x + q ≤ x0 + 1
  yr : 0 ≤ y + r ∧ y + r ≤ x0 + 1
  ys : 0 ≤ y + s ∧ y + s ≤ x0 + 1
  less : (p = 1 ∧ q = 0 ∧ r = 0 ∧ s = 1) ∨ (y + r < x + p ∧ y + s < x + q ∧ p * m + q * n ≤ n)
  bp : -1073741824 < p ∧ p < 1073741824
  bq : -1073741824 < q ∧ q < 1073741824
  br : -1073741824 < r ∧ r < 1073741824
  bs : -1073741824 < s ∧ s < 1073741824

theorem lead_start {m n M x0 y0 : Int} (h0 : 0 ≤ y0) (h : y0 ≤ x0) : Lead m n M x0 y0 1 0 0 1 x0 y0 :=
  ⟨by omega, by omega, .inl (by decide), .inl (by decide), by omega, by omega, by omega, by omega, .inl (by decide), by decide, by decide, by decide, by decide⟩

theorem mul_le_of {a b M : Int} (hM : 0 ≤ M) (h : a ≤ b) : a * M ≤ b * M := Int.mul_le_mul_of_nonneg_right h hM

theorem lead_values {m n M x0 y0 p q r s x y m0 n0 : Int} (h : Lead m n M x0 y0 p q r s x y) (hm : m = x0 * M + m0) (hn : n = y0 * M + n0) :
    p * m + q * n = x * M + p * m0 + q * n0 ∧ r * m + s * n = y * M + r * m0 + s * n0 := by
  constructor
  · rw [hm, hn, h.hx, Int.mul_add, Int.mul_add, Int.add_mul, Int.mul_assoc, Int.mul_assoc]; omega
  · rw [hm, hn, h.hy, Int.mul_add, Int.mul_add, Int.add_mul, Int.mul_assoc, Int.mul_assoc]; omega

theorem lead_pos {m n M x0 y0 p q r s x y m0 n0 : Int} (h : Lead m n M x0 y0 p q r s x y) (hm : m = x0 * M + m0) (hn : n = y0 * M + n0) (hm0 : 0 ≤ m0) (hm1 : m0 ≤ M) (hn0 : 0 ≤ n0) (hn1 : n0 ≤ M) (hM : 0 < M) :
    0 ≤ r * m + s * n ∧ ((p = 1 ∧ q = 0 ∧ r = 0 ∧ s = 1) ∨ (r * m + s * n < p * m + q * n ∧ p * m + q * n ≤ n)) := by
  obtain ⟨e1, e2⟩ := lead_values h hm hn
  rw [e1, e2]
  have k1 : 0 * M ≤ (y + r) * M := mul_le_of (by omega) h.yr.1
  have k2 : 0 * M ≤ (y + s) * M := mul_le_of (by omega) h.ys.1
  rw [Int.add_mul] at k1 k2
  rcases h.signs with ⟨p0, q0, r0, s0⟩ | ⟨p0, q0, r0, s0⟩
  · have a1 : 0 ≤ p * m0 := Int.mul_nonneg p0 hm0
    have a2 : q * M ≤ q * n0 := Int.mul_le_mul_of_nonpos_left q0 hn1
    have a3 : r * M ≤ r * m0 := Int.mul_le_mul_of_nonpos_left r0 hm1
    have a4 : 0 ≤ s * n0 := Int.mul_nonneg s0 hn0
    have a5 : s * n0 ≤ s * M := Int.mul_le_mul_of_nonneg_left hn1 s0
    have a6 : r * m0 ≤ 0 := Int.mul_nonpos_of_nonpos_of_nonneg r0 hm0
    refine ⟨by omega, ?_⟩
    rcases h.less with hl | ⟨h1, h2, h3⟩
    · exact .inl hl
    · right
      have k3 : (y + s + 1) * M ≤ (x + q) * M := mul_le_of (by omega) (by omega)
      rw [Int.add_mul, Int.add_mul, Int.add_mul] at k3
      rw [← e1]
      refine ⟨?_, h3⟩
      rw [e1]
      omega
  · have a1 : p * M ≤ p * m0 := Int.mul_le_mul_of_nonpos_left p0 hm1
    have a2 : 0 ≤ q * n0 := Int.mul_nonneg q0 hn0
    have a3 : 0 ≤ r * m0 := Int.mul_nonneg r0 hm0
    have a4 : s * M ≤ s * n0 := Int.mul_le_mul_of_nonpos_left s0 hn1
    have a5 : r * m0 ≤ r * M := Int.mul_le_mul_of_nonneg_left hm1 r0
    have a6 : s * n0 ≤ 0 := Int.mul_nonpos_of_nonpos_of_nonneg s0 hn0
    refine ⟨by omega, ?_⟩
    rcases h.less with hl | ⟨h1, h2, h3⟩
    · exact .inl hl
    · right
      have k3 : (y + r + 1) * M ≤ (x + p) * M := mul_le_of (by omega) (by omega)
      rw [Int.add_mul, Int.add_mul, Int.add_mul] at k3
      rw [← e1]
      refine ⟨?_, h3⟩
      rw [e1]
      omega

theorem lead_quot {a b : Int} (hb : 0 < b) : 0 ≤ a - a / b * b ∧ a - a / b * b < b := by
  have h1 := Int.emod_nonneg a (show b ≠ 0 by omega)
  have h2 := Int.emod_lt_of_pos a hb
  have h3 := Int.emod_def a b
  rw [Int.mul_comm] at h3
  omega

theorem lead_step {m n M x0 y0 p q r s x y m0 n0 k : Int} (h : Lead m n M x0 y0 p q r s x y) (hm : m = x0 * M + m0) (hn : n = y0 * M + n0) (hm0 : 0 ≤ m0) (hm1 : m0 ≤ M) (hn0 : 0 ≤ n0) (hn1 : n0 ≤ M) (hM : 0 < M)
    (hr : y + r ≠ 0) (hs : y + s ≠ 0) (hk : k = (x + p) / (y + r)) (hk2 : k = (x + q) / (y + s))
    (b1 : -1073741824 < p - k * r ∧ p - k * r < 1073741824) (b2 : -1073741824 < q - k * s ∧ q - k * s < 1073741824) :
    Lead m n M x0 y0 r s (p - k * r) (q - k * s) y (x - k * y) ∧ 0 ≤ x - k * y + (p - k * r) ∧ x - k * y + (p - k * r) < y + r := by
  have r0 := h.yr.1
  have s0 := h.ys.1
  have hk0 : 0 ≤ k := by rw [hk]; exact Int.ediv_nonneg h.xp.1 r0
  obtain ⟨c1, c2⟩ := lead_quot (a := x + p) (b := y + r) (by omega)
  obtain ⟨c3, c4⟩ := lead_quot (a := x + q) (b := y + s) (by omega)
  rw [← hk, Int.mul_add] at c1 c2
  rw [← hk2, Int.mul_add] at c3 c4
  have hp := lead_pos h hm hn hm0 hm1 hn0 hn1 hM
  have xr := h.yr
  have xs := h.ys
  refine ⟨⟨h.hy, ?_, ?_, ?_, h.yr, h.ys, by omega, by omega, ?_, h.br, h.bs, b1, b2⟩, by omega, by omega⟩
  · rw [h.hx, h.hy, Int.sub_mul, Int.sub_mul, Int.mul_add, ← Int.mul_assoc, ← Int.mul_assoc]; omega
  · have e : r * (q - k * s) - s * (p - k * r) = -(p * s - q * r) := by
      rw [Int.mul_sub, Int.mul_sub, Int.mul_comm r q, Int.mul_comm s p, show r * (k * s) = s * (k * r) by rw [Int.mul_left_comm, Int.mul_left_comm s k r, Int.mul_comm r s]]
      omega
    rw [e]
    rcases h.det with d | d <;> rw [d] <;> simp
  · rcases h.signs with ⟨p0, q0, r1, s1⟩ | ⟨p0, q0, r1, s1⟩
    · right
      have a1 : k * r ≤ 0 := Int.mul_nonpos_of_nonneg_of_nonpos hk0 r1
      have a2 : 0 ≤ k * s := Int.mul_nonneg hk0 s1
      exact ⟨r1, s1, by omega, by omega⟩
    · left
      have a1 : 0 ≤ k * r := Int.mul_nonneg hk0 r1
      have a2 : k * s ≤ 0 := Int.mul_nonpos_of_nonneg_of_nonpos hk0 s1
      exact ⟨r1, s1, by omega, by omega⟩
  · right
    refine ⟨by omega, by omega, ?_⟩
    rcases hp.2 with ⟨-, -, rfl, rfl⟩ | ⟨h1, h2⟩
    · omega
    · omega

/-- what comes of a step: two numbers with the same greatest common divisor -/
theorem lead_gcd {m n A B : Nat} {p q r s : Int} (hA : (A : Int) = p * m + q * n) (hB : (B : Int) = r * m + s * n) (hd : p * s - q * r = 1 ∨ p * s - q * r = -1) : Nat.gcd A B = Nat.gcd m n := by
  have e1 : s * (A : Int) - q * B = (p * s - q * r) * m := by
    rw [hA, hB, Int.mul_add, Int.mul_add, Int.sub_mul]
    rw [show s * (p * (m : Int)) = p * s * m by rw [← Int.mul_assoc, Int.mul_comm s p], show q * (s * (n : Int)) = s * (q * n) by rw [Int.mul_left_comm], show q * (r * (m : Int)) = q * r * m by rw [← Int.mul_assoc]]
    omega
  have e2 : p * (B : Int) - r * A = (p * s - q * r) * n := by
    rw [hA, hB, Int.mul_add, Int.mul_add, Int.sub_mul]
    rw [show p * (s * (n : Int)) = p * s * n by rw [← Int.mul_assoc], show r * (p * (m : Int)) = p * (r * m) by rw [Int.mul_left_comm], show r * (q * (n : Int)) = q * r * n by rw [← Int.mul_assoc, Int.mul_comm r q]]
    omega
  apply Nat.dvd_antisymm
  · apply Nat.dvd_gcd
    · have h : ((Nat.gcd A B : Nat) : Int) ∣ (p * s - q * r) * m := by
        rw [← e1]
        exact Int.dvd_sub (Int.dvd_mul_of_dvd_right (Int.natCast_dvd_natCast.2 (Nat.gcd_dvd_left A B))) (Int.dvd_mul_of_dvd_right (Int.natCast_dvd_natCast.2 (Nat.gcd_dvd_right A B)))
      rcases hd with d | d
      · rw [d, Int.one_mul] at h
        exact Int.natCast_dvd_natCast.1 h
      · rw [d, Int.neg_mul, Int.one_mul, Int.dvd_neg] at h
        exact Int.natCast_dvd_natCast.1 h
    · have h : ((Nat.gcd A B : Nat) : Int) ∣ (p * s - q * r) * n := by
        rw [← e2]
        exact Int.dvd_sub (Int.dvd_mul_of_dvd_right (Int.natCast_dvd_natCast.2 (Nat.gcd_dvd_right A B))) (Int.dvd_mul_of_dvd_right (Int.natCast_dvd_natCast.2 (Nat.gcd_dvd_left A B)))
      rcases hd with d | d
      · rw [d, Int.one_mul] at h
        exact Int.natCast_dvd_natCast.1 h
      · rw [d, Int.neg_mul, Int.one_mul, Int.dvd_neg] at h
        exact Int.natCast_dvd_natCast.1 h
  · apply Nat.dvd_gcd
    · apply Int.natCast_dvd_natCast.1
      rw [hA]
      exact Int.dvd_add (Int.dvd_mul_of_dvd_right (Int.natCast_dvd_natCast.2 (Nat.gcd_dvd_left m n))) (Int.dvd_mul_of_dvd_right (Int.natCast_dvd_natCast.2 (Nat.gcd_dvd_right m n)))
    · apply Int.natCast_dvd_natCast.1
      rw [hB]
      exact Int.dvd_add (Int.dvd_mul_of_dvd_right (Int.natCast_dvd_natCast.2 (Nat.gcd_dvd_left m n))) (Int.dvd_mul_of_dvd_right (Int.natCast_dvd_natCast.2 (Nat.gcd_dvd_right m n)))

theorem words_any (x y : Nat) (w : World) (hx : x < 18446744073709551616) (hy : y < 18446744073709551616) :
    Calls Tryz.prog 112 #[.int .u64 x, .int .u64 y] w fun e w' => e = .returned (.int .u64 (Nat.gcd x y : Nat)) ∧ ∃ k, w' = w.drewN k := by
  go_enter Tryz.func112, Tryz.ntmps112
  go_wp2_with fail
  go_loopw [0, 1] (fun u v wr => ∃ a b : Nat, u = .int .u64 a ∧ v = .int .u64 b ∧ a < 18446744073709551616 ∧ b < 18446744073709551616 ∧ Hid (Nat.gcd a b = Nat.gcd x y) ∧ Hid (∃ k, wr = w.drewN k)) (fun _ v _ => (intOf v).toNat)
  case atStart => exact ⟨x, y, rfl, rfl, hx, hy, rfl, 0, rfl⟩
  case round =>
    obtain ⟨a, b, rfl, rfl, ha, hb, hg, hk⟩ := hrel
    by_cases hb0 : b = 0
    · subst hb0
      go_wp2_with fail
      go_ret
      refine ⟨?_, hk.out⟩
      rw [← hg.out, Nat.gcd_zero_right]
      rfl
    · have hlt := Nat.mod_lt a (Nat.pos_of_ne_zero hb0)
      have h1 : ¬ ((b : Int) = 0) := by omega
      have HG := Lib.hid (show Nat.gcd b (a % b) = Nat.gcd x y by rw [← hg.out, Nat.gcd_comm b, ← Nat.gcd_rec, Nat.gcd_comm])
      obtain ⟨c, hc⟩ : ∃ c, c = a % b := ⟨_, rfl⟩
      have h2 : (a : Int) % (b : Int) = (c : Int) := by rw [hc]; rfl
      rw [← hc] at hlt HG
      clear hc
      go_wp2_with fail
      go_quiet (fail)
      rw [h2]
      go_wp2_with fail
      go_roundw
      case rel => exact ⟨b, c, rfl, rfl, hb, by omega, HG.out, by obtain ⟨k, hkk⟩ := hk.out; exact ⟨k + nq, by rw [hkk]; exact drewN_drewN ..⟩⟩
      case measure => simp [intOf]; omega

theorem max4 (ts : Array TypeId) (t : TypeId) (a b c d L : Int) : ∃ M : Int, (∀ w, (Builtin.max_ ts t #[.int .i64 a, .int .i64 b, .int .i64 c, .int .i64 d]).run Tryz.prog w = .ok (.int .i64 M) w) ∧ (M < L ↔ (a < L ∧ b < L ∧ c < L ∧ d < L)) := by
  refine ⟨if d > (if c > (if b > a then b else a) then c else (if b > a then b else a)) then d else (if c > (if b > a then b else a) then c else (if b > a then b else a)), fun w => by simp [Builtin.max_, Builtin.max2], ?_⟩
  split <;> split <;> split <;> omega
theorem mul_small {k r : Int} (h0 : 0 ≤ k) (h1 : k < 1073741824) (h2 : -1073741824 < r) (h3 : r < 1073741824) : -1152921504606846976 ≤ k * r ∧ k * r ≤ 1152921504606846976 := by
  have a1 : k * r ≤ k * 1073741824 := Int.mul_le_mul_of_nonneg_left (by omega) h0
  have a2 : k * (-1073741824) ≤ k * r := Int.mul_le_mul_of_nonneg_left (by omega) h0
  omega
/-- what comes of Lehmer's steps: nothing, or two numbers with the same greatest common divisor, which are less -/
def LeadOut (m n : Nat) (p q r s : Int) : Prop := (-1073741824 < p ∧ p < 1073741824) ∧ (-1073741824 < q ∧ q < 1073741824) ∧ (-1073741824 < r ∧ r < 1073741824) ∧ (-1073741824 < s ∧ s < 1073741824) ∧
  (q = 0 ∨ ∃ A B : Nat, (A : Int) = p * m + q * n ∧ (B : Int) = r * m + s * n ∧ B < A ∧ A ≤ n ∧ Nat.gcd A B = Nat.gcd m n)

theorem lead_end {m n : Nat} {M x0 y0 p q r s x y m0 n0 : Int} (h : Lead m n M x0 y0 p q r s x y) (hm : (m : Int) = x0 * M + m0) (hn : (n : Int) = y0 * M + n0) (hm0 : 0 ≤ m0) (hm1 : m0 ≤ M) (hn0 : 0 ≤ n0) (hn1 : n0 ≤ M) (hM : 0 < M) : LeadOut m n p q r s := by
  refine ⟨h.bp, h.bq, h.br, h.bs, ?_⟩
  obtain ⟨h1, h2⟩ := lead_pos h hm hn hm0 hm1 hn0 hn1 hM
  rcases h2 with ⟨-, h2, -, -⟩ | ⟨h2, h3⟩
  · exact .inl h2
  · right
    obtain ⟨A, hA⟩ : ∃ A : Nat, (A : Int) = p * m + q * n := ⟨(p * m + q * n).toNat, Int.toNat_of_nonneg (by omega)⟩
    obtain ⟨B, hB⟩ : ∃ B : Nat, (B : Int) = r * m + s * n := ⟨(r * m + s * n).toNat, Int.toNat_of_nonneg h1⟩
    exact ⟨A, B, hA, hB, by omega, by omega, lead_gcd hA hB h.det⟩

/-- the factors of Lehmer's steps in memory -/
def FacAt (w : World) (g : Nat) (p q r s : Int) : Prop := w.heap[g]? = some (.cells #[.int .i64 p, .int .i64 q, .int .i64 r, .int .i64 s] 110 (0, 0))

/-- the third factor -/
def facR (w : World) (g : Nat) : Int := match w.cell? ⟨g, 2, none⟩ with | some v => intOf v | none => 0
theorem facR_of {w : World} {g : Nat} {p q r s : Int} (h : FacAt w g p q r s) : facR w g = r := by
  unfold facR
  rw [cell_of_row _ _ 2 _ _ (0, 0) h]
  rfl
theorem fac_set {w : World} {g : Nat} {a b c d p q r s : Int} (h : FacAt w g a b c d) : FacAt ((((w.setCell ⟨g, 0, none⟩ (.int .i64 p)).setCell ⟨g, 1, none⟩ (.int .i64 q)).setCell ⟨g, 2, none⟩ (.int .i64 r)).setCell ⟨g, 3, none⟩ (.int .i64 s)) g p q r s := by
  have h1 := heap_setCell_same w g 0 _ _ (.int .i64 p) h
  have h2 := heap_setCell_same _ g 1 _ _ (.int .i64 q) h1
  have h3 := heap_setCell_same _ g 2 _ _ (.int .i64 r) h2
  have h4 := heap_setCell_same _ g 3 _ _ (.int .i64 s) h3
  unfold FacAt
  rw [h4]
  simp
theorem only_set4 (w : World) (g : Nat) (u0 u1 u2 u3 : Value) : Only g w ((((w.setCell ⟨g, 0, none⟩ u0).setCell ⟨g, 1, none⟩ u1).setCell ⟨g, 2, none⟩ u2).setCell ⟨g, 3, none⟩ u3) :=
  grown_trans (grown_trans (grown_trans (Only.setCell g 0 _ _) (Only.setCell g 1 _ _)) (Only.setCell g 2 _ _)) (Only.setCell g 3 _ _)

theorem lead_parts (m k : Nat) : ∃ m0 : Int, (m : Int) = ((m / 2 ^ k : Nat) : Int) * ((2 ^ k : Nat) : Int) + m0 ∧ 0 ≤ m0 ∧ m0 ≤ ((2 ^ k : Nat) : Int) := by
  refine ⟨((m % 2 ^ k : Nat) : Int), ?_, by omega, ?_⟩
  · rw [← Int.natCast_mul, ← Int.natCast_add, Nat.mul_comm, Nat.div_add_mod]
  · have := Nat.mod_lt m (Nat.two_pow_pos k)
    omega

set_option maxRecDepth 10000 in
set_option maxHeartbeats 4000000 in
theorem leading_any (va vb : Value) (m n : Nat) (w : World) (ha : IsN w va m) (hb : IsN w vb n) (hla : (Nl.limbs m).length ≤ 1024) (hge : n ≤ m) (hm : 2 < (Nl.limbs m).length) :
    Calls Tryz.prog 110 #[va, vb] w fun e w' => (∃ p q r s : Int, e = .returned (.agg #[.int .i64 p, .int .i64 q, .int .i64 r, .int .i64 s]) ∧ LeadOut m n p q r s) ∧ Below w.heap.size w w' := by
  have hm0 : m ≠ 0 := by
    intro h
    rw [h, Nl.limbs_zero] at hm
    simp at hm
  obtain ⟨N, hN⟩ : ∃ N, N = nbits m := ⟨_, rfl⟩
  have hN2 : 65 ≤ N ∧ N ≤ 32768 := by
    obtain ⟨k, x, hk, -, hx0, hx, hnb⟩ := top_word hm0
    have := Lib.bitLen_le x 32 (by omega) (by omega)
    have h2 : 0 < Lib.bitLen x := by
      have := Lib.bitLen_half x hx0 (by omega)
      omega
    omega
  obtain ⟨sh, hsh⟩ : ∃ sh, sh = N - 62 := ⟨_, rfl⟩
  obtain ⟨x0, hx0⟩ : ∃ x0, x0 = m / 2 ^ sh := ⟨_, rfl⟩
  obtain ⟨y0, hy0⟩ : ∃ y0, y0 = n / 2 ^ sh := ⟨_, rfl⟩
  have hyx : y0 ≤ x0 := by rw [hx0, hy0]; exact Nat.div_le_div_right hge
  have hx62 : x0 < 4611686018427387904 := by
    rw [hx0, Nat.div_lt_iff_lt_mul (Nat.two_pow_pos sh)]
    have := lt_nbits m
    rw [← hN, show N = 62 + sh by omega, Nat.pow_add] at this
    exact this
  obtain ⟨W, hW⟩ : ∃ W, W = w.alloc (.cells #[.int .i64 0, .int .i64 0, .int .i64 0, .int .i64 0] 110) := ⟨_, rfl⟩
  have hbW : Below w.heap.size w W := by rw [hW]; exact (Below.refl _ _).alloc (Nat.le_refl _) _
  have hR : FacAt W w.heap.size 0 0 0 0 := by rw [hW]; exact heap_alloc_new _ _
  have HBI := Lib.hid (show Calls Tryz.prog 81 #[va] W fun e w' => e = .returned (.int .i64 (N : Nat)) ∧ W = w' by rw [hN]; exact bits_any va m W (ha.below hbW) (by omega))
  have hlb : (Nl.limbs n).length ≤ 1024 := Nat.le_trans (Nl.limbs_mono hge) hla
  have HS1 := Lib.hid (shiftedRight_any va m sh W (ha.below hbW) (by omega) (by omega))
  have HS2 := Lib.hid (fun W2 (h : Below W.heap.size W W2) => shiftedRight_any vb n sh W2 (hb.below (hbW.trans (h.mono hbW.size))) (by omega) (by omega))
  rw [← hx0] at HS1
  rw [← hy0] at HS2
  have HX := Lib.hid (And.intro hx0 hy0)
  have HW := Lib.hid (And.intro hbW hR)
  have hsh2 : (N : Int) - 62 = (sh : Int) := by omega
  have hsb : sh ≤ 32768 := by omega
  obtain ⟨pa, ca, rfl, -⟩ := ha.form
  obtain ⟨pb, cb, rfl, -⟩ := hb.form
  clear ha hb hbW hR hx0 hy0 hge hm hm0 hN hla hlb hsh hN2
  go_enter Tryz.func110, Tryz.ntmps110
  go_wp2_with fail
  rw [← hW]
  clear hW
  refine HBI.out.mono ?_
  rintro e w' ⟨rfl, rfl⟩
  go_wp2_with fail
  refine HS1.out.mono ?_
  rintro e W1 ⟨⟨vx, rfl, hvx⟩, hb1⟩
  have HU1 := Lib.hid (uint_any vx x0 W1 hvx (by omega))
  have B1 := Lib.hid hb1
  clear hvx hb1 HBI HS1
  go_wp2_with fail
  refine HU1.out.mono ?_
  rintro e w' ⟨rfl, rfl⟩
  go_wp2_with fail
  refine (HS2.out W1 B1.out).mono ?_
  rintro e W2 ⟨⟨vy, rfl, hvy⟩, hb2⟩
  have HU2 := Lib.hid (uint_any vy y0 W2 hvy (by omega))
  have B2 := Lib.hid (B1.out.trans (hb2.mono B1.out.size))
  clear hvy hb2 HS2 HU1 B1
  go_wp2_with fail
  refine HU2.out.mono ?_
  rintro e w' ⟨rfl, rfl⟩
  go_wp2_with fail
  obtain ⟨g, hg⟩ : ∃ g, g = W2.heap.size := ⟨_, rfl⟩
  rw [← hg]
  obtain ⟨W3, hW3⟩ : ∃ W3, W3 = W2.alloc (.cells #[.int .i64 1, .int .i64 0, .int .i64 0, .int .i64 1] 110) := ⟨_, rfl⟩
  rw [← hW3]
  have hf3 : FacAt W3 g 1 0 0 1 := by rw [hW3, hg]; exact heap_alloc_new _ _
  have hb23 : Below W2.heap.size W2 W3 := by rw [hW3]; exact (Below.refl _ _).alloc (Nat.le_refl _) _
  have hb3 : Below W.heap.size W W3 := B2.out.trans (hb23.mono B2.out.size)
  have hRl := lt_of_block HW.out.2
  have hgR : w.heap.size < g := by have := B2.out.size; omega
  have HR3 := Lib.hid (show FacAt W3 w.heap.size 0 0 0 0 from (hb3.block _ hRl).trans HW.out.2)
  have HB3 := Lib.hid (HW.out.1.trans (hb3.mono HW.out.1.size))
  have HF3 := Lib.hid hf3
  have hgl := lt_of_block hf3
  obtain ⟨m0, em, m1, m2⟩ := lead_parts m sh
  obtain ⟨n0, en, n1, n2⟩ := lead_parts n sh
  rw [← HX.out.1] at em
  rw [← HX.out.2] at en
  obtain ⟨M, hM⟩ : ∃ M : Int, M = ((2 ^ sh : Nat) : Int) := ⟨_, rfl⟩
  rw [← hM] at em en m2 n2
  have HE := Lib.hid (And.intro em (And.intro en (And.intro m1 (And.intro m2 (And.intro n1 (And.intro n2 (show 0 < M by rw [hM]; have := Nat.two_pow_pos sh; omega)))))))
  clear HU2 hf3 hb23 hb3 hRl hg hW3 em en m1 m2 n1 n2 hM HX HW B2 W2
  go_loopw [6, 7] (fun u v wr => ∃ p q r s x y : Int, u = .int .i64 x ∧ v = .int .i64 y ∧ Hid (Lead m n M x0 y0 p q r s x y) ∧ Hid (FacAt wr g p q r s) ∧ Hid (W3.grownBy wr (some g))) (fun _ v wr => (intOf v + facR wr g).toNat)
  case atStart => exact ⟨1, 0, 0, 1, x0, y0, rfl, rfl, lead_start (by omega) (by omega), HF3.out, Only.refl _ _⟩
  case round =>
    obtain ⟨p, q, r, s, x, y, rfl, rfl, hl, hf, hon⟩ := hrel
    have l1 := hl.out.xp
    have l2 := hl.out.xq
    have l3 := hl.out.yr
    have l4 := hl.out.ys
    have l5 := hl.out.bp
    have l6 := hl.out.bq
    have l7 := hl.out.br
    have l8 := hl.out.bs
    have c0 : wr.cell? ⟨g, 0, none⟩ = some (.int .i64 p) := cell_of_row _ _ 0 _ _ (0, 0) hf.out
    have c1 : wr.cell? ⟨g, 1, none⟩ = some (.int .i64 q) := cell_of_row _ _ 1 _ _ (0, 0) hf.out
    have c2 : wr.cell? ⟨g, 2, none⟩ = some (.int .i64 r) := cell_of_row _ _ 2 _ _ (0, 0) hf.out
    have c3 : wr.cell? ⟨g, 3, none⟩ = some (.int .i64 s) := cell_of_row _ _ 3 _ _ (0, 0) hf.out
    have hRw : wr.heap[w.heap.size]? = W3.heap[w.heap.size]? := hon.out.block _ (lt_of_block HR3.out) (fun h => by injection h with h; omega)
    have hRR : FacAt wr w.heap.size 0 0 0 0 := hRw.trans HR3.out
    have r0 : wr.cell? ⟨w.heap.size, 0, none⟩ = some (.int .i64 0) := cell_of_row _ _ 0 _ _ (0, 0) hRR
    have r1 : wr.cell? ⟨w.heap.size, 1, none⟩ = some (.int .i64 0) := cell_of_row _ _ 1 _ _ (0, 0) hRR
    have r2 : wr.cell? ⟨w.heap.size, 2, none⟩ = some (.int .i64 0) := cell_of_row _ _ 2 _ _ (0, 0) hRR
    have r3 : wr.cell? ⟨w.heap.size, 3, none⟩ = some (.int .i64 0) := cell_of_row _ _ 3 _ _ (0, 0) hRR
    have f0 := frozen_of_row wr w.heap.size 0 _ _ hRR
    have f1 := frozen_of_row wr w.heap.size 1 _ _ hRR
    have f2 := frozen_of_row wr w.heap.size 2 _ _ hRR
    have f3 := frozen_of_row wr w.heap.size 3 _ _ hRR
    have g0 := frozen_of_row wr g 0 _ _ hf.out
    have g1 := frozen_of_row wr g 1 _ _ hf.out
    have g2 := frozen_of_row wr g 2 _ _ hf.out
    have g3 := frozen_of_row wr g 3 _ _ hf.out
    have HRR := Lib.hid hRR
    have HBR := Lib.hid (below_of_only HB3.out hon.out (by omega) HB3.out.size)
    have HEND := Lib.hid (lead_end hl.out HE.out.1 HE.out.2.1 HE.out.2.2.1 HE.out.2.2.2.1 HE.out.2.2.2.2.1 HE.out.2.2.2.2.2.1 HE.out.2.2.2.2.2.2)
    clear hRw hRR
    by_cases hr0 : y + r = 0
    · go_wp2_with fail
      refine bodyPost_ret (v := .agg #[.int .i64 p, .int .i64 q, .int .i64 r, .int .i64 s]) (results_cell_row Tryz.results110 _ _ w.heap.size 110 _ (0, 0) _ rfl (fac_set HRR.out) Tryz.underlying110 rfl (by kernel_rfl)) rfl ?_
      exact ⟨⟨p, q, r, s, rfl, HEND.out⟩, below_of_only HBR.out (only_set4 _ _ _ _ _ _) (Nat.le_refl _) HBR.out.size⟩
    have br0 : (y + r != 0) = true := by simpa using hr0
    by_cases hs0 : y + s = 0
    · go_wp2_with fail
      refine bodyPost_ret (v := .agg #[.int .i64 p, .int .i64 q, .int .i64 r, .int .i64 s]) (results_cell_row Tryz.results110 _ _ w.heap.size 110 _ (0, 0) _ rfl (fac_set HRR.out) Tryz.underlying110 rfl (by kernel_rfl)) rfl ?_
      exact ⟨⟨p, q, r, s, rfl, HEND.out⟩, below_of_only HBR.out (only_set4 _ _ _ _ _ _) (Nat.le_refl _) HBR.out.size⟩
    have bs0 : (y + s != 0) = true := by simpa using hs0
    obtain ⟨k, hk⟩ : ∃ k, k = (x + p) / (y + r) := ⟨_, rfl⟩
    obtain ⟨k2, hk2⟩ : ∃ k, k = (x + q) / (y + s) := ⟨_, rfl⟩
    have t1 : (x + p) / (y + r) = k := hk.symm
    have t2 : (x + q) / (y + s) = k2 := hk2.symm
    have k0 : 0 ≤ k := by rw [hk]; exact Int.ediv_nonneg l1.1 l3.1
    have k20 : 0 ≤ k2 := by rw [hk2]; exact Int.ediv_nonneg l2.1 l4.1
    have kb : k ≤ x + p := by rw [hk]; exact Int.ediv_le_self _ l1.1
    have k2b : k2 ≤ x + q := by rw [hk2]; exact Int.ediv_le_self _ l2.1
    have HK := Lib.hid (And.intro hk hk2)
    clear hk hk2
    by_cases hkk : k = k2
    · have bk : (k != k2) = false := by simpa using hkk
      by_cases hkb : k < 1073741824
      · obtain ⟨kr, hkr⟩ : ∃ a, a = k * r := ⟨_, rfl⟩
        obtain ⟨ks, hks⟩ : ∃ a, a = k * s := ⟨_, rfl⟩
        obtain ⟨ky, hky⟩ : ∃ a, a = k * y := ⟨_, rfl⟩
        have u1 : k * r = kr := hkr.symm
        have u2 : k * s = ks := hks.symm
        have u3 : k * y = ky := hky.symm
        have v1 : -1152921504606846976 ≤ kr ∧ kr ≤ 1152921504606846976 := by rw [hkr]; exact mul_small k0 hkb l7.1 l7.2
        have v2 : -1152921504606846976 ≤ ks ∧ ks ≤ 1152921504606846976 := by rw [hks]; exact mul_small k0 hkb l8.1 l8.2
        have v3 : -1152921504606846976 ≤ ky ∧ ky ≤ 6000000000000000000 := by
          have h1 : k * (y + r) ≤ x + p ∧ 0 ≤ k * (y + r) := by
            have h2 := lead_quot (a := x + p) (b := y + r) (by omega)
            rw [← HK.out.1] at h2
            exact ⟨by omega, Int.mul_nonneg k0 l3.1⟩
          rw [Int.mul_add, u1, u3] at h1
          omega
        subst hkk
        have HKK := Lib.hid (And.intro hkr (And.intro hks hky))
        obtain ⟨P, hP⟩ : ∃ a, a = p - kr := ⟨_, rfl⟩
        obtain ⟨Q, hQ⟩ : ∃ a, a = q - ks := ⟨_, rfl⟩
        have v4 : -1200000000000000000 ≤ P ∧ P ≤ 1200000000000000000 := by omega
        have v5 : -1200000000000000000 ≤ Q ∧ Q ≤ 1200000000000000000 := by omega
        have q1 : IntKind.i64.wrap (k * r) = kr := by rw [u1, IntKind.wrap_i64]; omega
        have q2 : IntKind.i64.wrap (k * s) = ks := by rw [u2, IntKind.wrap_i64]; omega
        have q3 : IntKind.i64.wrap (p - kr) = P := by rw [IntKind.wrap_i64]; omega
        have q4 : IntKind.i64.wrap (q - ks) = Q := by rw [IntKind.wrap_i64]; omega
        have HPQ := Lib.hid (And.intro hP hQ)
        clear hkr hks hky hP hQ
        go_wp2_with fail
        rw [t1]
        go_quiet (fail)
        obtain ⟨wq, hwq⟩ : ∃ v, v = wr.drewN nq := ⟨_, rfl⟩
        rw [← hwq]
        have c0' : wq.cell? ⟨g, 0, none⟩ = some (.int .i64 p) := by rw [hwq]; exact c0
        have c1' : wq.cell? ⟨g, 1, none⟩ = some (.int .i64 q) := by rw [hwq]; exact c1
        have c2' : wq.cell? ⟨g, 2, none⟩ = some (.int .i64 r) := by rw [hwq]; exact c2
        have c3' : wq.cell? ⟨g, 3, none⟩ = some (.int .i64 s) := by rw [hwq]; exact c3
        have hbq : Below wr.heap.size wr wq := by rw [hwq]; exact below_drewN _ _ _
        have hfq : FacAt wq g p q r s := by rw [hwq]; exact hf.out
        have hRq : FacAt wq w.heap.size 0 0 0 0 := by rw [hwq]; exact HRR.out
        have r0' : wq.cell? ⟨w.heap.size, 0, none⟩ = some (.int .i64 0) := by rw [hwq]; exact r0
        have r1' : wq.cell? ⟨w.heap.size, 1, none⟩ = some (.int .i64 0) := by rw [hwq]; exact r1
        have r2' : wq.cell? ⟨w.heap.size, 2, none⟩ = some (.int .i64 0) := by rw [hwq]; exact r2
        have r3' : wq.cell? ⟨w.heap.size, 3, none⟩ = some (.int .i64 0) := by rw [hwq]; exact r3
        have f0' := frozen_of_row wq w.heap.size 0 _ _ hRq
        have f1' := frozen_of_row wq w.heap.size 1 _ _ hRq
        have f2' := frozen_of_row wq w.heap.size 2 _ _ hRq
        have f3' := frozen_of_row wq w.heap.size 3 _ _ hRq
        have g0' := frozen_of_row wq g 0 _ _ hfq
        have g1' := frozen_of_row wq g 1 _ _ hfq
        have g2' := frozen_of_row wq g 2 _ _ hfq
        have g3' := frozen_of_row wq g 3 _ _ hfq
        have HQQ := Lib.hid (And.intro hbq (And.intro hfq hRq))
        clear hwq c0 c1 c2 c3 r0 r1 r2 r3 f0 f1 f2 f3 g0 g1 g2 g3 hbq hfq hRq q1 q2 q3 q4
        have z1 : IntKind.i64.wrap (-P) = -P := by rw [IntKind.wrap_i64]; omega
        have z2 : IntKind.i64.wrap (-Q) = -Q := by rw [IntKind.wrap_i64]; omega
        obtain ⟨MX, hmx, hml⟩ := max4 #[ 2, 2, 2, 2 ] 2 P (-P) Q (-Q) 1073741824
        by_cases hM : MX < 1073741824
        · have hM2 := hml.1 hM
          have HST := lead_step hl.out HE.out.1 HE.out.2.1 HE.out.2.2.1 HE.out.2.2.2.1 HE.out.2.2.2.2.1 HE.out.2.2.2.2.2.1 HE.out.2.2.2.2.2.2 hr0 hs0 HK.out.1 HK.out.2 (by rw [← HKK.out.1, ← HPQ.out.1]; omega) (by rw [← HKK.out.2.1, ← HPQ.out.2]; omega)
          rw [← HKK.out.1, ← HKK.out.2.1, ← HKK.out.2.2, ← HPQ.out.1, ← HPQ.out.2] at HST
          have HST := Lib.hid HST
          have hME := HST.out.2
          clear hml hM2
          go_wp2_with fail
          go_roundw
          case rel =>
            exact ⟨r, s, P, Q, y, x - ky, rfl, rfl, HST.out.1, fac_set HQQ.out.2.1, grown_trans (grown_trans hon.out (grown_of_below HQQ.out.1)) (only_set4 _ _ _ _ _ _)⟩
          case measure =>
            have e2 := facR_of (fac_set (p := r) (q := s) (r := P) (s := Q) HQQ.out.2.1)
            have e1 := facR_of hf.out
            rw [e2, e1]
            simp only [intOf]
            omega
        · go_wp2_with fail
          refine bodyPost_ret (v := .agg #[.int .i64 p, .int .i64 q, .int .i64 r, .int .i64 s]) (results_cell_row Tryz.results110 _ _ w.heap.size 110 _ (0, 0) _ rfl (fac_set HQQ.out.2.2) Tryz.underlying110 rfl (by kernel_rfl)) rfl ?_
          exact ⟨⟨p, q, r, s, rfl, HEND.out⟩, below_of_only (HBR.out.trans (HQQ.out.1.mono HBR.out.size)) (only_set4 _ _ _ _ _ _) (Nat.le_refl _) (Nat.le_trans HBR.out.size HQQ.out.1.size)⟩
      · have bkb : decide (k ≥ 1073741824) = true := decide_eq_true (by omega)
        go_wp2_with fail
        refine bodyPost_ret (v := .agg #[.int .i64 p, .int .i64 q, .int .i64 r, .int .i64 s]) (results_cell_row Tryz.results110 _ _ w.heap.size 110 _ (0, 0) _ rfl (fac_set HRR.out) Tryz.underlying110 rfl (by kernel_rfl)) rfl ?_
        exact ⟨⟨p, q, r, s, rfl, HEND.out⟩, below_of_only HBR.out (only_set4 _ _ _ _ _ _) (Nat.le_refl _) HBR.out.size⟩
    · have bk : (k != k2) = true := by simpa using hkk
      go_wp2_with fail
      refine bodyPost_ret (v := .agg #[.int .i64 p, .int .i64 q, .int .i64 r, .int .i64 s]) (results_cell_row Tryz.results110 _ _ w.heap.size 110 _ (0, 0) _ rfl (fac_set HRR.out) Tryz.underlying110 rfl (by kernel_rfl)) rfl ?_
      exact ⟨⟨p, q, r, s, rfl, HEND.out⟩, below_of_only HBR.out (only_set4 _ _ _ _ _ _) (Nat.le_refl _) HBR.out.size⟩
end Go.Proofs.YtfaledeidjmooaaGreat
