/-
  What overBlocks does. Conditions: those that each theorem names.
-/
import Derived.Test.YtkbghamkalidcaaGreatOverPartsAll
namespace Go.Proofs.YtkbghamkalidcaaGreat
open Go.RowKit

/-- how often a length has been halved, and what is left of it -/
def Halved (l s k : Nat) : Prop := l ≤ s * 2 ^ k ∧ (s - 1) * 2 ^ k < l ∧ 2 ^ k < 2 * l ∧ 1 ≤ s
theorem halved_start {l : Nat} (h : 2 ≤ l) : Halved l l 0 := by
  refine ⟨by simp, ?_, by simp; omega, by omega⟩
  simp; omega
theorem halved_step {l s k : Nat} (h : Halved l s k) (hs : 2 ≤ s) : Halved l ((s + 1) / 2) (k + 1) := by
  obtain ⟨h1, h2, h3, h4⟩ := h
  obtain ⟨t, ht⟩ : ∃ t, t = (s + 1) / 2 := ⟨_, rfl⟩
  rw [← ht]
  have e1 : s ≤ 2 * t := by omega
  have e2 : 2 * (t - 1) ≤ s - 1 := by omega
  have f1 : s * 2 ^ k ≤ 2 * t * 2 ^ k := Nat.mul_le_mul_right _ e1
  have f2 : 2 * (t - 1) * 2 ^ k ≤ (s - 1) * 2 ^ k := Nat.mul_le_mul_right _ e2
  have f3 : 1 * 2 ^ k ≤ (s - 1) * 2 ^ k := Nat.mul_le_mul_right _ (by omega)
  have g1 : t * 2 ^ (k + 1) = 2 * t * 2 ^ k := by rw [Nat.pow_succ, Nat.mul_comm (2 ^ k) 2, ← Nat.mul_assoc, Nat.mul_comm t 2]
  have g2 : (t - 1) * 2 ^ (k + 1) = 2 * (t - 1) * 2 ^ k := by rw [Nat.pow_succ, Nat.mul_comm (2 ^ k) 2, ← Nat.mul_assoc, Nat.mul_comm (t - 1) 2]
  have g3 : 2 ^ (k + 1) = 2 * 2 ^ k := by rw [Nat.pow_succ, Nat.mul_comm]
  exact ⟨by omega, by omega, by omega, by omega⟩
theorem halved_end {l s k : Nat} (h : Halved l s k) : l ≤ s * 2 ^ k ∧ s * 2 ^ k ≤ 3 * l ∧ 2 ^ k < 2 * l := by
  obtain ⟨h1, h2, h3, h4⟩ := h
  obtain ⟨t, rfl⟩ : ∃ t, s = t + 1 := ⟨s - 1, by omega⟩
  rw [Nat.add_sub_cancel] at h2
  refine ⟨h1, ?_, h3⟩
  rw [Nat.add_mul, Nat.one_mul]
  omega
theorem halved_small {l s k : Nat} (h : Halved l s k) (hl : l ≤ 4000) : k ≤ 12 := by
  have h3 := h.2.2.1
  apply Classical.byContradiction
  intro hc
  have : 2 ^ 13 ≤ 2 ^ k := Nat.pow_le_pow_right (by decide) (by omega)
  omega

/-- a divisor that is shifted until it has no spare bits -/
theorem blocks_divisor {n S : Nat} (h0 : n ≠ 0) (hS : (Nl.limbs n).length ≤ S) : ∃ s, s = 32 * S - nbits n ∧ nbits n ≤ 32 * S ∧ n * 2 ^ s < 4294967296 ^ S ∧ 4294967296 ^ S ≤ 2 * (n * 2 ^ s) := by
  have hB : (4294967296 : Nat) ^ S = 2 ^ (32 * S) := by rw [show (4294967296 : Nat) = 2 ^ 32 from rfl, ← Nat.pow_mul]
  have hb : nbits n ≤ 32 * S := by
    obtain ⟨k, x, hk, -, hx0, hx, hnb⟩ := top_word h0
    have := Lib.bitLen_le x 32 (by omega) (by omega)
    omega
  have hp := nbits_pos h0
  have h1 := lt_nbits n
  have h2 := nbits_le h0
  obtain ⟨c, hc⟩ : ∃ c, nbits n = c + 1 := ⟨nbits n - 1, by omega⟩
  rw [hc, Nat.add_sub_cancel] at h2
  refine ⟨_, rfl, hb, ?_, ?_⟩
  · rw [hB]
    have : n * 2 ^ (32 * S - nbits n) < 2 ^ nbits n * 2 ^ (32 * S - nbits n) := Nat.mul_lt_mul_of_pos_right h1 (Nat.two_pow_pos _)
    rwa [← Nat.pow_add, show nbits n + (32 * S - nbits n) = 32 * S by omega] at this
  · rw [hB]
    have : 2 ^ c * 2 ^ (32 * S - nbits n) ≤ n * 2 ^ (32 * S - nbits n) := Nat.mul_le_mul_right _ h2
    rw [← Nat.pow_add] at this
    have e : 2 ^ (32 * S) = 2 * 2 ^ (c + (32 * S - nbits n)) := by
      rw [← Nat.pow_succ', show (c + (32 * S - nbits n)).succ = 32 * S by omega]
    rw [e]
    exact Nat.mul_le_mul_left 2 this
theorem blocks_back {m n s : Nat} (_hn : 0 < n) : m * 2 ^ s / (n * 2 ^ s) = m / n ∧ m * 2 ^ s % (n * 2 ^ s) / 2 ^ s = m % n := by
  refine ⟨Nat.mul_div_mul_right _ _ (Nat.two_pow_pos s), ?_⟩
  rw [Nat.mul_mod_mul_right, Nat.mul_div_cancel _ (Nat.two_pow_pos s)]

/-- the variables of overBlocks in memory -/
structure BMem (w wr : World) (vb : Value) (cut s : Nat) : Prop where
  bel : Below w.heap.size w wr
  size : w.heap.size + 3 ≤ wr.heap.size
  hb : wr.heap[w.heap.size]? = some (.cells #[vb] 183 (0, 0))
  hc : wr.heap[w.heap.size + 1]? = some (.cells #[.int .i64 cut] 3 (0, 0))
  hs : wr.heap[w.heap.size + 2]? = some (.cells #[.int .i64 s] 3 (0, 0))
theorem BMem.set {w wr : World} {vb : Value} {cut s : Nat} (h : BMem w wr vb cut s) (s' : Nat) : BMem w (wr.setCell ⟨w.heap.size + 2, 0, none⟩ (.int .i64 s')) vb cut s' :=
  ⟨h.bel.setCell (show w.heap.size ≤ w.heap.size + 2 by omega) _, by simpa [World.setCell] using h.size, (Below.heap_setCell _ ⟨w.heap.size + 2, 0, none⟩ _ w.heap.size (by simp)).trans h.hb,
    (Below.heap_setCell _ ⟨w.heap.size + 2, 0, none⟩ _ (w.heap.size + 1) (by simp)).trans h.hc, one_setCell h.hs⟩
theorem BMem.setB {w wr : World} {vb vb' : Value} {cut s : Nat} (h : BMem w wr vb cut s) : BMem w (wr.setCell ⟨w.heap.size, 0, none⟩ vb') vb' cut s :=
  ⟨h.bel.setCell (show w.heap.size ≤ w.heap.size by omega) _, by simpa [World.setCell] using h.size, one_setCell h.hb,
    (Below.heap_setCell _ ⟨w.heap.size, 0, none⟩ _ (w.heap.size + 1) (by simp)).trans h.hc, (Below.heap_setCell _ ⟨w.heap.size, 0, none⟩ _ (w.heap.size + 2) (by simp)).trans h.hs⟩
theorem BMem.below {w wr wr' : World} {vb : Value} {cut s : Nat} (h : BMem w wr vb cut s) (hb : Below wr.heap.size wr wr') : BMem w wr' vb cut s := by
  have hs := h.size
  exact ⟨h.bel.trans (hb.mono (by omega)), Nat.le_trans h.size hb.size, (hb.block _ (by omega)).trans h.hb, (hb.block _ (by omega)).trans h.hc, (hb.block _ (by omega)).trans h.hs⟩

/-- a number that is not 0 does not lie in a variable -/
theorem AtP.apart {p : Nat → Prop} {w : World} {v u : Value} {xs : List Nat} {g : Nat} {t : TypeId} (h : AtP p w v xs) (h0 : xs ≠ []) (hg : w.heap[g]? = some (.cells #[u] t (0, 0))) (hu : ∀ k, u ≠ .int .u32 k) : AtP (fun b => p b ∧ b ≠ g) w v xs := by
  rcases h with ⟨rfl, rfl⟩ | ⟨b, off, cap, h1, h2, h3, h4, h5, h6⟩
  · exact absurd rfl h0
  · refine .inr ⟨b, off, cap, h1, ⟨h2, ?_⟩, h3, h4, h5, h6⟩
    rintro rfl
    have hl : 0 < xs.length := List.length_pos_iff.2 h0
    have h7 := h6 0 hl
    rw [Nat.add_zero, cell_of_row w b off _ _ (0, 0) hg] at h7
    cases off with
    | zero => simp at h7; exact hu _ h7
    | succ k => simp at h7

theorem shift_len {m sh A C : Nat} (hm : (Nl.limbs m).length ≤ A) (hs : sh ≤ 32 * C) : (Nl.limbs (m * 2 ^ sh)).length ≤ A + C := by
  apply Nl.limbs_lt
  have h1 : m < 4294967296 ^ A := Nat.lt_of_lt_of_le (Nl.lt_limbs m) (Nl.pow_le hm)
  have h2 : 2 ^ sh ≤ 4294967296 ^ C := by
    rw [show (4294967296 : Nat) = 2 ^ 32 from rfl, ← Nat.pow_mul]
    exact Nat.pow_le_pow_right (by decide) hs
  rw [Nat.pow_add]
  exact Nat.lt_of_lt_of_le (Nat.mul_lt_mul_of_pos_right h1 (Nat.two_pow_pos sh)) (Nat.mul_le_mul_left _ h2)
/-- the division part by part -/
theorem blocks_parts {w W6 W7 : World} {vd va : Value} {m D S T cut s k : Nat} {t : TypeId} (h6 : BMem w W6 vd cut S)
    (hT : W6.heap[T]? = some (.cells #[.func (.func 251) #[] #[.pointer (some ⟨w.heap.size + 1, 0, none⟩), .pointer (some ⟨T, 0, none⟩)]] t (0, 0))) (hv : AtP (· < T) W6 vd (Nl.limbs D))
    (hS : S = s * 2 ^ k) (hs0 : 0 < s) (hs : s < cut) (hcut : 2 ≤ cut) (hcut2 : cut ≤ 1000000) (hSb : S ≤ 20000) (hS1 : 1 ≤ S) (hD1 : D < 4294967296 ^ S) (hD2 : 4294967296 ^ S ≤ 2 * D) (hb : Below W6.heap.size W6 W7) (ha : IsN W7 va m) (hla : (Nl.limbs m).length ≤ 20000) :
    Calls Tryz.prog 255 #[va, .int .i64 S, .func (.func 256) #[] #[.pointer (some ⟨T, 0, none⟩), .pointer (some ⟨w.heap.size, 0, none⟩), .pointer (some ⟨w.heap.size + 2, 0, none⟩)]] W7 fun e w' => DivOk W7 w' e m D := by
  have hTl := lt_of_block hT
  have hsz := h6.size
  have hBp : 0 < 4294967296 ^ S := Nat.pow_pos (by decide)
  refine overParts_any _ _ _ va m D S W7 ha hla hS1 hSb (by omega) hD1 ?_
  intro g w' hb7 hg1 hg2
  have hb6 : Below W6.heap.size W6 w' := hb.trans (hb7.mono hb.size)
  have h7 := h6.below hb6
  have hT7 := (hb6.block T hTl).trans hT
  have hgT : T < g := by have := hb.size; omega
  refine part_two (cell_of_one hT7) (lt_of_block hT7) (cell_of_one h7.hb) (lt_of_block h7.hb) (cell_of_one h7.hs) (lt_of_block h7.hs) ((hv.below hb6).mono fun b _ h => by omega) hD1 hD2 ?_
  rw [hS]
  exact halving_any (fun b h => by omega) hcut hcut2 ⟨cell_of_one h7.hc, cell_of_one hT7, lt_of_block h7.hc, lt_of_block hT7⟩ hs0 hs k (by omega)

set_option maxRecDepth 10000 in
set_option maxHeartbeats 4000000 in
theorem overBlocks_long (va vb : Value) (m n cut : Nat) (w : World) (ha : IsN w va m) (hb : IsN w vb n) (hla : (Nl.limbs m).length ≤ 4000) (hlb : (Nl.limbs n).length ≤ 4000) (hcut : 2 ≤ cut) (hcl : cut ≤ (Nl.limbs n).length) (hge : n ≤ m) :
    Calls Tryz.prog 227 #[va, vb, .int .i64 cut] w fun e w' => DivOk w w' e m n := by
  have hcm : ¬ cmpI m n < 0 := by
    rcases Nat.lt_or_eq_of_le hge with h | h
    · rw [cmpI_gt h]; decide
    · rw [h, cmpI_eq]; decide
  obtain ⟨c, hc⟩ : ∃ c, cmpI (m : Int) (n : Int) = c := ⟨_, rfl⟩
  obtain ⟨W, hW⟩ : ∃ W, W = (w.alloc (.cells #[vb] 183)).alloc (.cells #[.int .i64 (cut : Int)] 3) := ⟨_, rfl⟩
  have hbW : Below w.heap.size w W := by rw [hW]; exact ((Below.refl _ _).alloc (Nat.le_refl _) _).alloc (by simp) _
  have hsW : W.heap.size = w.heap.size + 2 := by rw [hW]; simp
  have hP : W.heap[w.heap.size]? = some (.cells #[vb] 183 (0, 0)) := by rw [hW]; exact heap_alloc2_old w _ _
  have hQ : W.heap[w.heap.size + 1]? = some (.cells #[.int .i64 cut] 3 (0, 0)) := by rw [hW]; exact heap_alloc2_new w _ _
  have hca := compare_any va vb m n W (ha.below hbW) (hb.below hbW)
  rw [hc] at hca hcm
  have HA := Lib.hid (ha.below hbW)
  have HAw := Lib.hid ha
  have hbl := hb.mono (q := (· < w.heap.size)) fun _ h _ => h
  have HB := Lib.hid (hbl.below hbW)
  have HC := Lib.hid hca
  obtain ⟨a, ca, rfl, -⟩ := ha.form
  obtain ⟨b, cb, rfl, -⟩ := hb.form
  obtain ⟨l, hl⟩ : ∃ l, (Nl.limbs n).length = l := ⟨_, rfl⟩
  obtain ⟨L, hL⟩ : ∃ L, (Nl.limbs m).length = L := ⟨_, rfl⟩
  rw [hl] at hlb hcl HB hP HC hW ⊢
  rw [hL] at hla HA HAw HC ⊢
  have HL := Lib.hid (And.intro hl hL)
  have HS := Lib.hid (And.intro hbW (And.intro hsW (And.intro hP hQ)))
  have hcc : ¬ ((l : Int) < (cut : Int)) := by omega
  clear ha hb hbl hbW hsW hP hQ hca hl hL hge hc
  go_enter Tryz.func227, Tryz.ntmps227
  go_wp2_with fail
  rw [← hW]
  clear hW
  have k1 := cell_of_one HS.out.2.2.1
  have k2 := cell_of_one HS.out.2.2.2
  go_wp2_with fail
  refine HC.out.mono ?_
  rintro e w' ⟨rfl, j, rfl⟩
  obtain ⟨W1, hW1⟩ : ∃ W1, W1 = W.drewN j := ⟨_, rfl⟩
  rw [← hW1]
  have b01 : Below w.heap.size w W1 := by rw [hW1]; exact HS.out.1.trans ((below_drewN W j _).mono HS.out.1.size)
  have s1 : W1.heap.size = w.heap.size + 2 := by rw [hW1]; exact HS.out.2.1
  have p1 : W1.heap[w.heap.size]? = some (.cells #[.slice b l cb] 183 (0, 0)) := by rw [hW1]; exact HS.out.2.2.1
  have p2 : W1.heap[w.heap.size + 1]? = some (.cells #[.int .i64 cut] 3 (0, 0)) := by rw [hW1]; exact HS.out.2.2.2
  have HA1 := Lib.hid (show IsN w (.slice a L ca) m from HAw.out)
  have HB1 := Lib.hid (show AtP (· < w.heap.size) W1 (.slice b l cb) (Nl.limbs n) by rw [hW1]; exact HB.out)
  have HM1 := Lib.hid (And.intro b01 (And.intro s1 (And.intro p1 p2)))
  have c1 := cell_of_one p1
  clear hW1 HC HA HB HS b01 p1 p2 k1 k2 j W
  go_wp2_with fail
  obtain ⟨W2, hW2⟩ : ∃ W2, W2 = W1.alloc (.cells #[.int .i64 (l : Int)] 3) := ⟨_, rfl⟩
  rw [← hW2]
  have hM2 : BMem w W2 (.slice b l cb) cut l := by
    have hb := HM1.out.1.trans ((show Below W1.heap.size W1 W2 by rw [hW2]; exact (Below.refl _ _).alloc (Nat.le_refl _) _).mono HM1.out.1.size)
    have hs := HM1.out.2.1
    refine ⟨hb, by rw [hW2]; simp; omega, ?_, ?_, ?_⟩
    · rw [hW2]; exact (Below.heap_alloc _ _ _ (by omega)).trans HM1.out.2.2.1
    · rw [hW2]; exact (Below.heap_alloc _ _ _ (by omega)).trans HM1.out.2.2.2
    · rw [hW2, ← hs]; exact heap_alloc_new _ _
  have HM2 := Lib.hid hM2
  have HB2 := Lib.hid (show AtP (· < w.heap.size) W2 (.slice b l cb) (Nl.limbs n) by rw [hW2]; exact HB1.out.below ((Below.refl _ _).alloc (Nat.le_refl _) _))
  clear hM2 hW2 HM1 HB1 HA1 s1 c1 W1 hcm hcc
  go_loopw [9] (fun h wr => ∃ s k : Nat, h = .int .i64 k ∧ k ≤ 12 ∧ 1 ≤ s ∧ s ≤ 4000 ∧ Hid (Halved l s k) ∧ Hid (BMem w wr (.slice b l cb) cut s) ∧ Hid (W2.grownBy wr (some (w.heap.size + 2)))) (fun h _ => 13 - (intOf h).toNat)
  case atStart => exact ⟨l, 0, rfl, by omega, by omega, by omega, halved_start (by omega), HM2.out, Only.refl _ _⟩
  case round =>
    obtain ⟨s, k, rfl, hk, hs1, hs2, hhv, hmem, hon⟩ := hrel
    have q1 := cell_of_one hmem.out.hs
    have q2 := cell_of_one hmem.out.hc
    have f1 := free_of_one hmem.out.hs
    by_cases hsc : cut ≤ s
    · have hst0 := halved_step hhv.out (by omega)
      obtain ⟨t, ht⟩ : ∃ t, t = (s + 1) / 2 := ⟨_, rfl⟩
      rw [← ht] at hst0
      have hst := halved_small hst0 hlb
      have ht1 : 1 ≤ t := by omega
      have ht2 : t ≤ 4000 := by omega
      have t1 : ((s : Int) + 1) / 2 = (t : Int) := by omega
      have HST := Lib.hid hst0
      clear ht hst0
      go_wp2_with fail
      go_roundw
      case rel => exact ⟨t, k + 1, by go_num, by omega, ht1, ht2, HST.out, hmem.out.set t, grown_trans hon.out (Only.setCell _ _ _ _)⟩
      case measure => simp [intOf] <;> omega
    · obtain ⟨S, hS⟩ : ∃ S, S = s * 2 ^ k := ⟨_, rfl⟩
      have hE := halved_end hhv.out
      rw [← hS] at hE
      have hS0 : 1 ≤ S := by have := hE.1; omega
      have hSb : S ≤ 12000 := by have := hE.2.1; omega
      have t2 : wrap64 ((s : Int) * 2 ^ k) = (S : Int) := by
        rw [show ((s : Int) * 2 ^ k) = (S : Int) by rw [hS]; push_cast; rfl]
        clear hE hS
        unfold wrap64
        omega
      have HE := Lib.hid (And.intro hE hS)
      clear hE hS
      go_wp2_with fail
      have HM3 := Lib.hid (hmem.out.set S)
      obtain ⟨W3, hW3⟩ : ∃ W3, W3 = wr.setCell ⟨w.heap.size + 2, 0, none⟩ (.int .i64 (S : Int)) := ⟨_, rfl⟩
      rw [← hW3] at HM3 ⊢
      have HB3 := Lib.hid (show IsN W3 (.slice b l cb) n by rw [hW3]; exact ((HB2.out.only hon.out (fun b hb => by omega)).only (Only.setCell _ _ _ _) (fun b hb => by omega)).at)
      have HSC := Lib.hid (show s < cut by omega)
      clear hW3 hmem hon hhv q1 q2 f1 HM2 HB2 hsc
      obtain ⟨N, hN⟩ : ∃ N, N = nbits n := ⟨_, rfl⟩
      have hn0 : n ≠ 0 := by
        intro h
        have := HL.out.1
        rw [h, Nl.limbs_zero] at this
        simp at this
        omega
      obtain ⟨sh, hsh, hNS, hd1, hd2⟩ := blocks_divisor hn0 (S := S) (by rw [HL.out.1]; exact HE.out.1.1)
      rw [← hN] at hsh hNS
      have hbi : ∀ k, Calls Tryz.prog 171 #[.slice b l cb] (W3.drewN k) fun e w' => e = .returned (.int .i64 (N : Nat)) ∧ w' = W3.drewN k := fun k =>
        (bits_any _ n _ (HB3.out.below (below_drewN ..)) (by rw [HL.out.1]; omega)).mono fun _ _ h => ⟨by rw [h.1, hN], h.2.symm⟩
      have HBI := Lib.hid hbi
      have q1 := cell_of_one HM3.out.hs
      have q2 := cell_of_one HM3.out.hb
      have w1 : IntKind.i64.wrap (32 * (S : Int)) = 32 * S := by rw [IntKind.wrap_i64]; omega
      have w2 : IntKind.i64.wrap (32 * (S : Int) - (N : Int)) = (sh : Int) := by rw [IntKind.wrap_i64]; omega
      have hshb : sh ≤ 384000 := by omega
      have HD := Lib.hid (And.intro hd1 hd2)
      clear hbi hN hsh hNS hd1 hd2 hn0
      go_quiet ((go_at_call 171; exact Calls.quiet_of_same (HBI.out _)))
      obtain ⟨W4, hW4⟩ : ∃ W4, W4 = W3.drewN nq := ⟨_, rfl⟩
      rw [← hW4]
      have b34 : Below W3.heap.size W3 W4 := by rw [hW4]; exact below_drewN _ _ _
      have HM4 := Lib.hid (HM3.out.below b34)
      have HB4 := Lib.hid (HB3.out.below b34)
      have HSL := Lib.hid (shiftedLeft_any _ n sh W4 HB4.out (by rw [HL.out.1]; omega) (by omega))
      have r1 := cell_of_one HM4.out.hb
      clear hW4 b34 HM3 HB3 HBI q1 q2 w1 w2 nq W3 t2
      go_wp2_with fail
      refine HSL.out.mono ?_
      rintro e W5 ⟨⟨vd, rfl, hd⟩, hb5⟩
      have HM5 := Lib.hid (HM4.out.below hb5)
      have hdl := hd.mono (q := (· < W5.heap.size)) fun _ h _ => h
      obtain ⟨db, dc, rfl, -⟩ := hd.form
      obtain ⟨D, hD⟩ : ∃ D, D = n * 2 ^ sh := ⟨_, rfl⟩
      rw [← hD] at hdl HD
      have hDl : (Nl.limbs D).length ≤ S := Nl.limbs_lt HD.out.1
      obtain ⟨P, hP⟩ : ∃ P, (Nl.limbs D).length = P := ⟨_, rfl⟩
      rw [← hD] at hd ⊢
      rw [hP] at hDl hdl hd ⊢
      have r2 := cell_of_one HM5.out.hb
      have f2 := free_of_one HM5.out.hb
      have HDD := Lib.hid (And.intro hD hP)
      have HV := Lib.hid hdl
      clear hd hb5 hdl hD hP HSL HM4 HB4 r1 W4
      go_wp2_with fail
      obtain ⟨T, hT⟩ : ∃ T, T = W5.heap.size := ⟨_, rfl⟩
      rw [← hT]
      obtain ⟨W6, hW6⟩ : ∃ W6, W6 = (W5.setCell ⟨w.heap.size, 0, none⟩ (.slice db P dc)).alloc (.cells #[.func (.func 251) #[] #[.pointer (some ⟨w.heap.size + 1, 0, none⟩), .pointer (some ⟨T, 0, none⟩)]] 242) := ⟨_, rfl⟩
      rw [← hW6]
      have hDn : Nl.limbs D ≠ [] := by
        intro h
        have h1 := Nl.val_limbs D
        rw [h] at h1
        have h2 : 0 < 4294967296 ^ S := Nat.pow_pos (by decide)
        have h3 := HD.out.2
        rw [← h1, Nl.val_nil] at h3
        omega
      have hs5 : (W5.setCell ⟨w.heap.size, 0, none⟩ (.slice db P dc)).heap.size = T := by rw [hT]; simp [World.setCell]
      have m5 := HM5.out.setB (vb' := .slice db P dc)
      have b56 : Below T (W5.setCell ⟨w.heap.size, 0, none⟩ (.slice db P dc)) W6 := by rw [hW6, ← hs5]; exact (Below.refl _ _).alloc (Nat.le_refl _) _
      have m6 : BMem w W6 (.slice db P dc) cut S := m5.below (by rw [hs5]; exact b56)
      have hT6 : W6.heap[T]? = some (.cells #[.func (.func 251) #[] #[.pointer (some ⟨w.heap.size + 1, 0, none⟩), .pointer (some ⟨T, 0, none⟩)]] 242 (0, 0)) := by
        rw [hW6, ← hs5]; exact heap_alloc_new _ _
      have v6 : AtP (· < T) W6 (.slice db P dc) (Nl.limbs D) := by
        rw [hT]
        refine AtP.below (w := W5.setCell ⟨w.heap.size, 0, none⟩ (.slice db P dc)) ?_ (by rw [hs5]; exact b56)
        exact (((HV.out.apart hDn HM5.out.hb (fun k h => by cases h)).only (Only.setCell w.heap.size 0 _ _) (fun b hb => hb.2))).mono fun b _ h => h.1
      have hTl : T < W6.heap.size := lt_of_block hT6
      have HM6 := Lib.hid m6
      have HT6 := Lib.hid (And.intro hT6 v6)
      have g1 : W6.drew.cell? ⟨w.heap.size + 2, 0, none⟩ = some (.int .i64 S) := cell_of_one m6.hs
      have hSA := shiftedLeft_any _ m sh W6.drew (HAw.out.below (m6.bel.drew)) (by rw [HL.out.2]; omega) (by omega)
      have HSA := Lib.hid hSA
      have HPA := Lib.hid (fun (W7 : World) (va : Value) (h7 : Below W6.drew.heap.size W6.drew W7) (ha7 : IsN W7 va (m * 2 ^ sh)) =>
        blocks_parts m6 hT6 v6 HE.out.2 (by omega) HSC.out hcut (by omega) (by omega) hS0 HD.out.1 HD.out.2 (Below.trans (b := W6.drew) (Below.drew (Below.refl _ _)) h7) ha7 (Nat.le_trans (shift_len (A := 4000) (C := 12000) (by rw [HL.out.2]; exact hla) (by omega)) (by omega)))
      have hsl : w.heap.size + 2 < W6.heap.size := by have := m6.size; omega
      have HB6 := Lib.hid m6.bel
      clear hSA hDn m5 m6 b56 hs5 hW6 hT6 v6 HM5 HV r2 f2 hT W5
      go_region_held3 (fun w' => w'.cell? ⟨w.heap.size + 2, 0, none⟩ = some (.int .i64 S))
        (first
          | go_keep
          | assumption)
        (first
          | (go_at_call 172; refine HSA.out.mono ?_; rintro e w7 ⟨⟨va7, rfl, hva7⟩, hb7⟩; have g7 := (hb7.cell (p := ⟨w.heap.size + 2, 0, none⟩) hsl).trans g1)
          | (go_at_call 255; refine (HPA.out _ _ hb7 hva7).mono ?_; rintro e w8 ⟨⟨vq, vr, rfl, hq8, hr8⟩, hb8⟩; have g8 := (hb8.cell (p := ⟨w.heap.size + 2, 0, none⟩) (Nat.lt_of_lt_of_le hsl hb7.size)).trans g7))
      all_goals
        have hb7' : Below W6.heap.size W6 w7 := Below.trans (b := W6.drew) (Below.drew (Below.refl _ _)) hb7
        have hb68 : Below w.heap.size w w8 := HB6.out.trans ((hb7'.trans (hb8.mono hb7'.size)).mono HB6.out.size)
        have hDp : 0 < D := by
          have h2 : 0 < 4294967296 ^ S := Nat.pow_pos (by decide)
          have h3 := HD.out.2
          omega
        have hrl : (Nl.limbs (m * 2 ^ sh % D)).length ≤ S := Nl.limbs_lt (Nat.lt_trans (Nat.mod_lt _ hDp) HD.out.1)
        have hbk := blocks_back (m := m) (n := n) (s := sh) (by
          apply Nat.pos_of_ne_zero
          intro h
          rw [HDD.out.1, h, Nat.zero_mul] at hDp
          omega)
        rw [← HDD.out.1] at hbk
        have HQ8 := Lib.hid (show IsN w8 vq (m / n) by rw [← hbk.1]; exact hq8)
        have HSR := Lib.hid (shiftedRight_any vr _ sh w8 hr8 (by omega) (by omega))
        have HBK := Lib.hid hbk.2
        have HB8 := Lib.hid hb68
        clear hq8 hr8 hbk hrl hDp hb68 hb7' hb7 hb8 hva7 g7 g8 HPA HSA g1
        go_wp2_with fail
        refine HSR.out.mono ?_
        rintro e w9 ⟨⟨vs, rfl, hv⟩, hb9⟩
        rw [HBK.out] at hv
        have HV9 := Lib.hid (And.intro hv hb9)
        clear hv hb9
        go_wp2_with fail
        go_ret2
        exact ⟨⟨_, _, rfl, HQ8.out.below HV9.out.2, HV9.out.1⟩, HB8.out.trans (HV9.out.2.mono HB8.out.size)⟩

set_option maxRecDepth 10000 in
set_option maxHeartbeats 4000000 in
theorem overBlocks_less (va vb : Value) (m n cut : Nat) (w : World) (ha : IsN w va m) (hb : IsN w vb n) (hcl : cut ≤ (Nl.limbs n).length) (hlt : m < n) :
    Calls Tryz.prog 227 #[va, vb, .int .i64 cut] w fun e w' => DivOk w w' e m n := by
  obtain ⟨W, hW⟩ : ∃ W, W = (w.alloc (.cells #[vb] 183)).alloc (.cells #[.int .i64 (cut : Int)] 3) := ⟨_, rfl⟩
  have hbW : Below w.heap.size w W := by rw [hW]; exact ((Below.refl _ _).alloc (Nat.le_refl _) _).alloc (by simp) _
  have hP : W.heap[w.heap.size]? = some (.cells #[vb] 183 (0, 0)) := by rw [hW]; exact heap_alloc2_old w _ _
  have hQ : W.heap[w.heap.size + 1]? = some (.cells #[.int .i64 cut] 3 (0, 0)) := by rw [hW]; exact heap_alloc2_new w _ _
  have hca := compare_any va vb m n W (ha.below hbW) (hb.below hbW)
  rw [cmpI_lt hlt] at hca
  have HC := Lib.hid hca
  have HE := Lib.hid (fun W1 (h1 : Below w.heap.size w W1) => overElements_less (fun _ => True) va vb m n W1 (ha.below h1) (hb.below h1) hlt)
  have HB := Lib.hid hbW
  have sb := hb.short
  obtain ⟨a, ca, rfl, -⟩ := ha.form
  obtain ⟨b, cb, rfl, -⟩ := hb.form
  have hcc : ¬ (((Nl.limbs n).length : Int) < (cut : Int)) := by omega
  have k1 := cell_of_one hP
  have k2 := cell_of_one hQ
  clear ha hb hbW hP hQ hca hlt
  go_enter Tryz.func227, Tryz.ntmps227
  go_wp2_with fail
  rw [← hW]
  clear hW
  go_wp2_with fail
  refine HC.out.mono ?_
  rintro e w' ⟨rfl, j, rfl⟩
  obtain ⟨W1, hW1⟩ : ∃ W1, W1 = W.drewN j := ⟨_, rfl⟩
  rw [← hW1]
  have c1 : W1.cell? ⟨w.heap.size, 0, none⟩ = some (.slice b (Nl.limbs n).length cb) := by rw [hW1]; exact k1
  have B1 := Lib.hid (show Below w.heap.size w W1 by rw [hW1]; exact HB.out.trans ((below_drewN W j _).mono HB.out.size))
  clear hW1 k1 k2 HC HB W
  go_wp2_with fail
  refine (HE.out W1 B1.out).mono ?_
  rintro e w1 ⟨⟨v, u, rfl, hv, hu⟩, hb1⟩
  have HV := Lib.hid (And.intro hv (And.intro hu.at (B1.out.trans (hb1.mono B1.out.size))))
  clear hv hu hb1
  go_wp2_with fail
  go_ret2
  exact ⟨⟨v, u, rfl, HV.out.1, HV.out.2.1⟩, HV.out.2.2⟩

theorem overBlocks_any (va vb : Value) (m n cut : Nat) (w : World) (ha : IsN w va m) (hb : IsN w vb n) (hla : (Nl.limbs m).length ≤ 4000) (hlb : (Nl.limbs n).length ≤ 4000) (hcut : 2 ≤ cut) (hn : 0 < n) :
    Calls Tryz.prog 227 #[va, vb, .int .i64 cut] w fun e w' => DivOk w w' e m n := by
  by_cases h1 : (Nl.limbs n).length < cut
  · exact overBlocks_short va vb m n cut w ha hb (by omega) hn h1
  · by_cases h2 : m < n
    · exact overBlocks_less va vb m n cut w ha hb (by omega) h2
    · exact overBlocks_long va vb m n cut w ha hb hla hlb hcut (by omega) (by omega)
theorem over_all (va vb : Value) (m n : Nat) (w : World) (ha : IsN w va m) (hb : IsN w vb n) (hla : (Nl.limbs m).length ≤ 4000) (hlb : (Nl.limbs n).length ≤ 4000) (hn : 0 < n) :
    Calls Tryz.prog 186 #[va, vb] w fun e w' => DivOk w w' e m n :=
  over_any va vb m n w ha hb (by omega) (by omega) (fun _ => overElements_any va vb m n w ha hb (by omega) hn) (fun _ => overBlocks_any va vb m n 100 w ha hb hla hlb (by decide) hn)
end Go.Proofs.YtkbghamkalidcaaGreat
