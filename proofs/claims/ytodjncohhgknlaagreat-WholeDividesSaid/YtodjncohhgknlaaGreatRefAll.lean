/-
  What Gcd, Root and FromUint do, given the inner functions. Conditions: those that each theorem names.
  What commonDivisor does for numbers of two words. What rootByBits does. What root does where it goes bit by bit, and rootAndRest. Conditions: those that each theorem names.
  What light, refused and the reference's Fits, at, Valid and Same do. Conditions: those that each theorem names.
-/
import Derived.Test.YtodjncohhgknlaaGreatRaiseAll
import Derived.Test.YtodjncohhgknlaaGreatPowerAll
import Derived.BigQuiet
import Derived.Deep.RegionWith
import Derived.Deep.Cut
import Derived.BigRegion
namespace Go.Proofs.YtodjncohhgknlaaGreat
open Go.RowKit

/-- the error of a root -/
def rootK (n : Int) : Int := if 1 ≤ n then 0 else 1
/-- what the inner function of roots makes -/
def RootOk (w w' : World) (e : Ending) (q r : Nat) : Prop := (∃ u v, e = .returned (.tuple #[u, v]) ∧ IsN w' u q ∧ IsN w' v r) ∧ Below w.heap.size w w'

theorem natFromUint_any (x : Nat) (w : World) (hx : x < 18446744073709551616) : Calls Tryz.prog 146 #[.int .u64 x] w fun e w' => (∃ v, e = .returned v ∧ Own w.heap.size w' v (Nl.limbs x)) ∧ Below w.heap.size w w' := by
  have hl : (Nl.limbs x).length ≤ 1024 := by
    have : (Nl.limbs x).length ≤ 2 := Nl.limbs_lt (by omega)
    omega
  go_enter Tryz.func146, Tryz.ntmps146
  go_wp2_with fail
  refine (fromUint_num x w hx).mono ?_
  rintro e w1 ⟨⟨v, rfl, hv⟩, hb1⟩
  have HV := Lib.hid hv
  have HB := Lib.hid hb1
  clear hv hb1
  go_wp2_with fail
  refine (kept_yes v x w1 HV.out.at.at hl).mono ?_
  rintro e w2 ⟨⟨u, rfl, hu⟩, hb2⟩
  have HU := Lib.hid hu
  have HB2 := Lib.hid hb2
  clear hu hb2
  go_wp2_with fail
  go_ret
  exact ⟨⟨u, rfl, HU.out.mono HB.out.size⟩, HB.out.trans (HB2.out.mono HB.out.size)⟩
end Go.Proofs.YtodjncohhgknlaaGreat

namespace Go.Proofs.YtodjncohhgknlaaGreat
open Go.RowKit

/-- r is the n-th root of m, rounded down -/
def IsRoot (n m r : Nat) : Prop := r ^ n ≤ m ∧ m < (r + 1) ^ n
theorem len_pow_le {x s n k : Nat} (hx : x ≤ 2 ^ s) (hk : k ≤ n) (hs : s * n ≤ 3000000) : (Nl.limbs (x ^ k)).length ≤ 100000 := by
  have h1 : x ^ k ≤ 2 ^ (s * n) := by
    refine Nat.le_trans (Nat.pow_le_pow_left hx k) ?_
    rw [← Nat.pow_mul]
    exact Nat.pow_le_pow_right (by decide) (Nat.mul_le_mul_left _ hk)
  have h2 : x ^ k < 2 ^ (s * n + 1) := Nat.lt_of_le_of_lt h1 (Nat.pow_lt_pow_right (by decide) (Nat.lt_succ_self _))
  have h3 := len_of_bits h2
  omega

theorem root_size {m n : Nat} (h2 : 1 ≤ n) : m < (2 ^ ((nbits m + n - 1) / n)) ^ n := by
  refine Nat.lt_of_lt_of_le (lt_nbits m) ?_
  rw [← Nat.pow_mul]
  refine Nat.pow_le_pow_right (by decide) ?_
  have h3 := Nat.div_add_mod (nbits m + n - 1) n
  have h4 := Nat.mod_lt (nbits m + n - 1) (show 0 < n by omega)
  rw [Nat.mul_comm]
  omega

/-- what the inner function of roots makes: a root -/
def RootIs (w w' : World) (e : Ending) (n m : Nat) : Prop := ∃ r, IsRoot n m r ∧ (∃ v, e = .returned v ∧ IsN w' v r) ∧ Below w.heap.size w w'

theorem bitLen_small (n : Nat) (hn : n ≤ 40000) : Lib.bitLen n ≤ 16 := Lib.bitLen_le n 16 (by omega) (by omega)

theorem root_unique {n m q r : Nat} (_hn : 1 ≤ n) (hq : IsRoot n m q) (hr : IsRoot n m r) : q = r := by
  have h1 : q < r + 1 := Nat.lt_of_not_le fun h => absurd (Nat.pow_le_pow_left h n) (by have := hq.1; have := hr.2; omega)
  have h2 : r < q + 1 := Nat.lt_of_not_le fun h => absurd (Nat.pow_le_pow_left h n) (by have := hr.1; have := hq.2; omega)
  omega
theorem root_exists {n : Nat} (hn : 1 ≤ n) (m : Nat) : ∃ q, IsRoot n m q := by
  induction m with
  | zero => exact ⟨0, by rw [IsRoot, Nat.zero_pow (by omega), Nat.zero_add, Nat.one_pow]; omega⟩
  | succ m ih =>
    obtain ⟨q, h1, h2⟩ := ih
    by_cases h : (q + 1) ^ n ≤ m + 1
    · refine ⟨q + 1, h, ?_⟩
      have : (q + 1) ^ n < (q + 1 + 1) ^ n := Nat.pow_lt_pow_left (Nat.lt_succ_self _) (by omega)
      omega
    · exact ⟨q, by omega, by omega⟩
theorem isRoot_one (m : Nat) : IsRoot 1 m m := by rw [IsRoot, Nat.pow_one, Nat.pow_one]; omega
theorem isRoot_small {m n : Nat} (hn : 1 ≤ n) (hm : m < 2) : IsRoot n m m ∧ m ^ n = m := by
  have : m = 0 ∨ m = 1 := by omega
  rcases this with rfl | rfl
  · rw [IsRoot, Nat.zero_pow (by omega), Nat.zero_add, Nat.one_pow]; omega
  · have : 2 ^ 1 ≤ 2 ^ n := Nat.pow_le_pow_right (by decide) hn
    refine ⟨⟨Nat.le_of_eq (Nat.one_pow n), ?_⟩, Nat.one_pow n⟩
    show 1 < 2 ^ n
    omega
theorem isRoot_big {m n : Nat} (hm : 2 ≤ m) (h : nbits m ≤ n) : IsRoot n m 1 := by
  rw [IsRoot, Nat.one_pow]
  exact ⟨by omega, Nat.lt_of_lt_of_le (lt_nbits m) (Nat.pow_le_pow_right (by decide) h)⟩

end Go.Proofs.YtodjncohhgknlaaGreat

namespace Go.Proofs.YtodjncohhgknlaaGreat
open Go.RowKit

theorem fits_any (v : Value) (xs : List Nat) (w : World) (h : At w v xs) :
    Calls Tryz.prog 155 #[v] w fun e w' => e = .returned (.bool (decide (xs.length ≤ 1024))) ∧ w = w' := by
  obtain ⟨a, ca, rfl, -⟩ := h.form
  clear h
  obtain ⟨b, hb⟩ : ∃ b, b = decide (xs.length ≤ 1024) := ⟨_, rfl⟩
  rw [← hb]
  have e2 : decide ((xs.length : Int) ≤ 1024) = b := by rw [hb]; congr 1; simp only [eq_iff_iff]; omega
  clear hb
  go_enter Tryz.func155, Tryz.ntmps155
  go_wp2
  go_ret
  exact ⟨rfl, rfl⟩

theorem at_any (v : Value) (xs : List Nat) (i : Nat) (w : World) (h : At w v xs) (hs : Nl.Small xs) :
    Calls Tryz.prog 148 #[v, .int .i64 i] w fun e w' => e = .returned (.int .u64 ((xs.getD i 0 : Nat) : Int)) ∧ w = w' := by
  by_cases hl : xs.length ≤ i
  · rw [show xs.getD i 0 = 0 by rw [List.getD_eq_getElem?_getD, List.getElem?_eq_none hl]; rfl]
    have e0 : decide (xs.length ≤ i) = true := decide_eq_true hl
    obtain ⟨a, ca, rfl, -⟩ := h.form
    clear h hl
    go_enter Tryz.func148, Tryz.ntmps148
    go_wp2
    go_ret
    exact ⟨rfl, rfl⟩
  · have e0 : decide (xs.length ≤ i) = false := decide_eq_false hl
    rcases h with ⟨rfl, rfl⟩ | ⟨b, off, cap, rfl, -, hc, hm, hb, hx⟩
    · simp at hl
    have c0 := hx i (by omega)
    have hi' : i < xs.length := by omega
    have hsm := hs.getD i
    obtain ⟨x, ex⟩ : ∃ x, xs.getD i 0 = x := ⟨_, rfl⟩
    rw [ex] at c0 hsm ⊢
    have hwx : IntKind.u64.wrap (x : Int) = x := by rw [IntKind.wrap_u64]; omega
    clear hx ex hl hs
    go_enter Tryz.func148, Tryz.ntmps148
    go_wp2
    go_ret
    exact ⟨rfl, rfl⟩
set_option maxHeartbeats 1000000 in
theorem refValid_any (v : Value) (xs : List Nat) (w : World) (h : At w v xs) :
    Calls Tryz.prog 81 #[v] w fun e w' => e = .returned (.bool (validB xs)) ∧ w = w' := by
  by_cases hl : xs.length ≤ 1024
  · have hl' : decide ((xs.length : Int) ≤ 1024) = true := by simp; omega
    by_cases h0 : xs.length = 0
    · have e0 : ((xs.length : Int) == 0) = true := by simp [h0]
      have hx : xs = [] := List.eq_nil_of_length_eq_zero h0
      have hb : validB xs = true := by rw [hx]; rfl
      rw [hb]
      obtain ⟨a, ca, rfl, -⟩ := h.form
      clear h hx hb h0 hl
      go_enter Tryz.func81, Tryz.ntmps81
      go_wp2
      go_ret
      exact ⟨rfl, rfl⟩
    · have e0 : ((xs.length : Int) == 0) = false := by rw [beq_eq_false_iff_ne]; omega
      rcases h with ⟨rfl, rfl⟩ | ⟨b, off, cap, rfl, -, hc, hm, hb, hx⟩
      · simp at h0
      have c0 := hx (xs.length - 1) (by omega)
      have hla := getLast_getD (xs := xs) (by omega)
      obtain ⟨x, ex⟩ : ∃ x, xs.getD (xs.length - 1) 0 = x := ⟨_, rfl⟩
      rw [ex] at c0 hla
      have hv : validB xs = !(x == 0) := by
        rw [validB, hla, decide_eq_true hl, Bool.true_and]
        simp [bne]
      rw [hv]
      have hpos : 1 ≤ xs.length := by omega
      clear hx hla ex hv h0
      by_cases hx0 : x = 0
      · have t0 : ((x : Int) != 0) = false := by simp [hx0]
        have t1 : (!(x == 0)) = false := by simp [hx0]
        rw [t1]
        clear t1 hx0
        go_enter Tryz.func81, Tryz.ntmps81
        go_wp2
        go_ret
        exact ⟨rfl, rfl⟩
      · have t0 : ((x : Int) != 0) = true := by rw [bne_iff_ne]; omega
        have t1 : (!(x == 0)) = true := by simp [hx0]
        rw [t1]
        clear t1 hx0
        go_enter Tryz.func81, Tryz.ntmps81
        go_wp2
        go_ret
        exact ⟨rfl, rfl⟩
  · have hl' : decide ((xs.length : Int) ≤ 1024) = false := by simp; omega
    rw [validB_long (by omega)]
    obtain ⟨a, ca, rfl, -⟩ := h.form
    clear h hl
    go_enter Tryz.func81, Tryz.ntmps81
    go_wp2
    go_ret
    exact ⟨rfl, rfl⟩

/-- are two lists the same? -/
def sameB (xs ys : List Nat) : Bool := decide (xs = ys)
theorem take_all {xs ys : List Nat} {k : Nat} (hl : xs.length = ys.length) (hk : xs.length ≤ k) (h : xs.take k = ys.take k) : xs = ys := by
  rw [List.take_of_length_le hk, List.take_of_length_le (by omega)] at h
  exact h
theorem take_snoc {xs ys : List Nat} {k : Nat} (hl : xs.length = ys.length) (hk : k < xs.length) (h : xs.take k = ys.take k) (hx : xs.getD k 0 = ys.getD k 0) : xs.take (k + 1) = ys.take (k + 1) := by
  have hk2 : k < ys.length := by omega
  rw [List.getD_eq_getElem?_getD, List.getD_eq_getElem?_getD, List.getElem?_eq_getElem hk, List.getElem?_eq_getElem hk2] at hx
  rw [List.take_add_one, List.take_add_one, h, List.getElem?_eq_getElem hk, List.getElem?_eq_getElem hk2]
  simp only [Option.getD_some] at hx
  rw [hx]

set_option maxHeartbeats 1000000 in
theorem same_any (va vb : Value) (xs ys : List Nat) (w : World) (ha : At w va xs) (hb : At w vb ys) :
    Calls Tryz.prog 82 #[va, vb] w fun e w' => e = .returned (.bool (sameB xs ys)) ∧ ∃ k, w' = w.drewN k := by
  have sa := ha.short
  have sb := hb.short
  obtain ⟨a, ca, rfl, fa⟩ := ha.form
  obtain ⟨b, cb, rfl, fb⟩ := hb.form
  clear ha hb
  by_cases hl : xs.length = ys.length
  · have e0 : ((xs.length : Int) != (ys.length : Int)) = false := by simp [hl]
    have HL := Lib.hid hl
    clear hl
    go_enter Tryz.func82, Tryz.ntmps82
    go_wp2
    go_loopw [5] (fun i wr => ∃ k : Nat, k ≤ xs.length ∧ i = .int .i64 (k : Int) ∧ Hid (xs.take k = ys.take k) ∧ Hid (∃ j, wr = w.drewN j)) (fun i _ => xs.length - (intOf i).toNat)
    case atStart => exact ⟨0, Nat.zero_le _, rfl, by simp [Hid], ⟨0, rfl⟩⟩
    case round =>
      obtain ⟨k, hk, rfl, hd, hw⟩ := hrel
      by_cases hkl : k < xs.length
      · have t0 : decide (k < xs.length) = true := decide_eq_true hkl
        obtain ⟨x, hx⟩ : ∃ x, x = xs.getD k 0 := ⟨_, rfl⟩
        obtain ⟨y, hy⟩ : ∃ y, y = ys.getD k 0 := ⟨_, rfl⟩
        rcases fa with fa | ⟨ba, oa, rfl, -, hca, -, hba, hcx⟩
        · rw [fa] at hkl; simp at hkl
        have hkb : k < ys.length := by have := HL.out; omega
        rcases fb with fb | ⟨bb, ob, rfl, -, hcb, -, hbb, hcy⟩
        · rw [fb] at hkb; simp at hkb
        have c1 := hcx k hkl
        have c2 := hcy k hkb
        rw [← hx] at c1
        rw [← hy] at c2
        have c1' : wr.cell? ⟨ba, oa + k, none⟩ = some (.int .u32 (x : Int)) := by obtain ⟨q, rfl⟩ := hw.out; exact c1
        have c2' : wr.cell? ⟨bb, ob + k, none⟩ = some (.int .u32 (y : Int)) := by obtain ⟨q, rfl⟩ := hw.out; exact c2
        have Hx := Lib.hid hx
        have Hy := Lib.hid hy
        clear hx hy c1 c2 hcx hcy
        by_cases hxy : x = y
        · have e1 : ((x : Int) != (y : Int)) = false := by simp [hxy]
          have HE := Lib.hid hxy
          clear hxy
          go_wp2
          go_quiet (fail)
          go_wp2
          go_roundw
          case rel =>
            refine ⟨k + 1, hkl, by go_num, take_snoc HL.out hkl hd.out (by rw [← Hx.out, ← Hy.out]; exact HE.out), ?_⟩
            obtain ⟨q, hq⟩ := hw.out
            exact ⟨q + nq, by rw [hq]; exact drewN_drewN ..⟩
          case measure => simp [intOf] <;> omega
        · have e1 : ((x : Int) != (y : Int)) = true := by rw [bne_iff_ne]; omega
          have hf : sameB xs ys = false := decide_eq_false fun h => hxy (by rw [Hx.out, Hy.out, h])
          have HF := Lib.hid hf
          clear hxy hf
          go_wp2
          go_quiet (fail)
          go_wp2
          go_ret
          obtain ⟨q, hq⟩ := hw.out
          exact ⟨by rw [HF.out]; rfl, q + nq, by rw [hq]; exact drewN_drewN ..⟩
      · have t0 : decide (k < xs.length) = false := decide_eq_false hkl
        have hf : sameB xs ys = true := decide_eq_true (take_all HL.out (by omega) hd.out)
        have HF := Lib.hid hf
        clear hf hkl
        go_wp2
        go_ret
        exact ⟨by rw [HF.out]; rfl, hw.out⟩
  · have e0 : ((xs.length : Int) != (ys.length : Int)) = true := by rw [bne_iff_ne]; omega
    have hf : sameB xs ys = false := decide_eq_false fun h => hl (by rw [h])
    rw [hf]
    clear hf hl
    go_enter Tryz.func82, Tryz.ntmps82
    go_wp2
    go_ret
    exact ⟨rfl, 0, rfl⟩
end Go.Proofs.YtodjncohhgknlaaGreat
