/-
  What overElements does. Conditions: those that each theorem names.
-/
import Derived.Test.YtkbghamkalidcaaGreatTakeMostAll
import Derived.Test.YtkbghamkalidcaaGreatValidAll
import Derived.Test.YtkbghamkalidcaaGreatFresh
namespace Go.Proofs.YtkbghamkalidcaaGreat
open Go.RowKit

theorem long_first {R : List Nat} {i N b : Nat} (hRl : i + (N + 3) ≤ R.length) (hsR : Nl.Small R) (hb : b < 4294967296 ^ (N + 2)) (hlt : Nl.val (R.drop (i + 1)) < b) :
    Nl.val (R.drop (i + (N + 3))) = 0 ∧ Nl.val (R.drop i) = Nl.val ((R.drop i).take (N + 3)) ∧ Nl.val ((R.drop i).take (N + 3)) < 4294967296 * b := by
  have h1 := Nl.val_take_drop (R.drop (i + 1)) (N + 2) (by rw [List.length_drop]; omega)
  rw [List.drop_drop, show i + 1 + (N + 2) = i + (N + 3) by omega] at h1
  have h0 : Nl.val (R.drop (i + (N + 3))) = 0 := by
    apply Classical.byContradiction
    intro hc
    have h2 : 4294967296 ^ (N + 2) * 1 ≤ 4294967296 ^ (N + 2) * Nl.val (R.drop (i + (N + 3))) := Nat.mul_le_mul_left _ (by omega)
    omega
  have h3 := Nl.val_take_drop (R.drop i) (N + 3) (by rw [List.length_drop]; omega)
  rw [List.drop_drop, h0, Nat.mul_zero, Nat.add_zero] at h3
  have h4 := Nl.val_drop_succ R i (by omega)
  have h5 := hsR.getD i
  exact ⟨h0, h3.symm, by rw [h3, h4]; omega⟩
theorem long_step {R Qs Z' : List Nat} {i N b m' : Nat} (hRl : i + (N + 3) ≤ R.length) (hq : i < Qs.length) (hsR : Nl.Small R) (hb : b < 4294967296 ^ (N + 2))
    (hv : Nl.val R + b * (4294967296 ^ (i + 1) * Nl.val (Qs.drop (i + 1))) = m') (hlt : Nl.val (R.drop (i + 1)) < b) (hZ : Nl.val Z' = Nl.val ((R.drop i).take (N + 3)) % b) :
    Nl.val (R.take i ++ (Z' ++ R.drop (i + (N + 3)))) + b * (4294967296 ^ i * Nl.val ((Qs.set i (Nl.val ((R.drop i).take (N + 3)) / b)).drop i)) = m' ∧ Nl.val ((R.take i ++ (Z' ++ R.drop (i + (N + 3)))).drop i) < b := by
  obtain ⟨h0, h1, h2⟩ := long_first hRl hsR hb hlt
  obtain ⟨z, hz⟩ : ∃ z, z = Nl.val ((R.drop i).take (N + 3)) := ⟨_, rfl⟩
  rw [← hz] at h1 h2 hZ ⊢
  have hla : (R.take i).length = i := by rw [List.length_take]; omega
  have hZC : Nl.val (Z' ++ R.drop (i + (N + 3))) = z % b := by rw [Nl.val_append, h0, Nat.mul_zero, Nat.add_zero, hZ]
  have h3 := Nl.val_take_drop R i (by omega)
  rw [h1] at h3
  have h4 := Nat.div_add_mod z b
  have hq1 : Nl.val ((Qs.set i (z / b)).drop i) = z / b + 4294967296 * Nl.val (Qs.drop (i + 1)) := by
    rw [Nl.val_drop_succ _ i (by rw [List.length_set]; exact hq), Nl.drop_set_succ, getD_set_self _ _ _ hq]
  constructor
  · rw [Nl.val_append, hla, hZC, hq1, ← hv, ← h3]
    obtain ⟨V, hV⟩ : ∃ V, V = Nl.val (Qs.drop (i + 1)) := ⟨_, rfl⟩
    obtain ⟨q, hqq⟩ : ∃ q, q = z / b := ⟨_, rfl⟩
    obtain ⟨r, hr⟩ : ∃ r, r = z % b := ⟨_, rfl⟩
    rw [← hqq, ← hr] at h4
    rw [← hV, ← hqq, ← hr, ← h4, Nat.pow_succ, Nat.mul_add (4294967296 ^ i) q, Nat.mul_add b, Nat.mul_add (4294967296 ^ i) (b * q), Nat.mul_left_comm b (4294967296 ^ i) q, Nat.mul_assoc (4294967296 ^ i) 4294967296 V]
    omega
  · rw [List.drop_left' hla, hZC]
    exact Nat.mod_lt _ (by omega)
theorem long_end {m n s q r : Nat} (h : r + n * 2 ^ s * q = m * 2 ^ s) (hr : r < n * 2 ^ s) : q = m / n ∧ r / 2 ^ s = m % n := by
  have hp := Nat.two_pow_pos s
  have hn : 0 < n * 2 ^ s := by omega
  have e : m * 2 ^ s = n * 2 ^ s * q + r := by omega
  have h1 : m * 2 ^ s / (n * 2 ^ s) = q := by rw [e, Nat.mul_add_div hn, Nat.div_eq_of_lt hr, Nat.add_zero]
  have h2 : m * 2 ^ s % (n * 2 ^ s) = r := by rw [e, Nat.mul_add_mod, Nat.mod_eq_of_lt hr]
  rw [Nat.mul_div_mul_right _ _ hp] at h1
  rw [Nat.mul_mod_mul_right] at h2
  exact ⟨h1.symm, by rw [← h2, Nat.mul_div_cancel _ hp]⟩
theorem long_start {m' b' L K : Nat} (hl : (Nl.limbs m').length ≤ L + 1) (hK : K + 1 ≤ L + 1) (hst : m' / 4294967296 ^ (K + 1) < b') :
    (Nl.limbs m' ++ Nl.zeros (L + 1 - (Nl.limbs m').length)).length = L + 1 ∧ Nl.Small (Nl.limbs m' ++ Nl.zeros (L + 1 - (Nl.limbs m').length)) ∧ Nl.val (Nl.limbs m' ++ Nl.zeros (L + 1 - (Nl.limbs m').length)) = m' ∧ Nl.val ((Nl.limbs m' ++ Nl.zeros (L + 1 - (Nl.limbs m').length)).drop (K + 1)) < b' := by
  have h1 : (Nl.limbs m' ++ Nl.zeros (L + 1 - (Nl.limbs m').length)).length = L + 1 := by rw [List.length_append, Nl.zeros_length]; omega
  have h2 : Nl.val (Nl.limbs m' ++ Nl.zeros (L + 1 - (Nl.limbs m').length)) = m' := by rw [Nl.val_append, Nl.val_replicate, Nat.mul_zero, Nat.add_zero, Nl.val_limbs]
  refine ⟨h1, Nl.small_append.2 ⟨Nl.limbs_small _, Nl.small_replicate _⟩, h2, Nat.lt_of_le_of_lt ?_ hst⟩
  have h3 := Nl.val_take_drop (Nl.limbs m' ++ Nl.zeros (L + 1 - (Nl.limbs m').length)) (K + 1) (by rw [h1]; exact hK)
  rw [h2] at h3
  rw [Nat.le_div_iff_mul_le (Nat.pow_pos (by decide)), Nat.mul_comm]
  omega
theorem split3 (R : List Nat) (k j : Nat) : R.take k ++ ((R.drop k).take j ++ R.drop (k + j)) = R := by rw [← List.drop_drop, List.take_append_drop, List.take_append_drop]
/-- a divisor without spare bits -/
theorem full_divisor {n N : Nat} (hl : (Nl.limbs n).length = N + 2) : ∃ s, s = 32 * (Nl.limbs n).length - nbits n ∧ s ≤ 31 ∧ (Nl.limbs (n * 2 ^ s)).length = N + 2 ∧ 2147483648 ≤ (Nl.limbs (n * 2 ^ s)).getD (N + 1) 0 := by
  have h0 : n ≠ 0 := by
    intro h
    rw [h, Nl.limbs_zero] at hl
    simp at hl
  obtain ⟨k, x, hk, -, hx0, hx, hnb⟩ := top_word h0
  have hb1 := Lib.bitLen_le x 32 (by omega) (by omega)
  have hkN : k = N + 1 := by omega
  have hb2 : 0 < Lib.bitLen x := by
    have := Lib.bitLen_half x hx0 (by omega)
    omega
  refine ⟨32 * (Nl.limbs n).length - nbits n, rfl, by rw [hl]; omega, ?_⟩
  obtain ⟨s, hs⟩ : ∃ s, s = 32 * (Nl.limbs n).length - nbits n := ⟨_, rfl⟩
  rw [← hs]
  have hsb : nbits n + s = 32 * (N + 2) := by omega
  obtain ⟨c, hc⟩ : ∃ c, nbits n = c + 1 := ⟨nbits n - 1, by omega⟩
  have hlo : 2 ^ (c + s) ≤ n * 2 ^ s := by
    rw [Nat.pow_add]
    have := nbits_le h0
    rw [hc, Nat.add_sub_cancel] at this
    exact Nat.mul_le_mul_right _ this
  have hhi : n * 2 ^ s < 2 ^ (c + s + 1) := by
    rw [show c + s + 1 = c + 1 + s by omega, Nat.pow_add 2 (c + 1)]
    have := lt_nbits n
    rw [hc] at this
    exact Nat.mul_lt_mul_of_pos_right this (Nat.two_pow_pos s)
  have hnb' := nbits_of hlo hhi
  have h0' : n * 2 ^ s ≠ 0 := Nat.mul_ne_zero h0 (Nat.ne_of_gt (Nat.two_pow_pos s))
  obtain ⟨k', x', hk', hx'e, hx0', hx', hnb''⟩ := top_word h0'
  have hb3 := Lib.bitLen_le x' 32 (by omega) (by omega)
  have hb4 : 0 < Lib.bitLen x' := by
    have := Lib.bitLen_half x' hx0' (by omega)
    omega
  have hk2 : k' = N + 1 := by omega
  refine ⟨by omega, ?_⟩
  rw [← hk2, hx'e]
  apply Classical.byContradiction
  intro h
  have := Lib.bitLen_le x' 31 (by omega) (by omega)
  omega

/-- what a division leaves, with the blocks in which its rest lies -/
def DivIn (p : Nat → Prop) (w w' : World) (e : Ending) (m n : Nat) : Prop := (∃ v u, e = .returned (.tuple #[v, u]) ∧ IsN w' v (m / n) ∧ AtP p w' u (Nl.limbs (m % n))) ∧ Below w.heap.size w w'
theorem DivIn.ok {p : Nat → Prop} {w w' : World} {e : Ending} {m n : Nat} (h : DivIn p w w' e m n) : DivOk w w' e m n := by
  obtain ⟨⟨v, u, h1, h2, h3⟩, h4⟩ := h
  exact ⟨⟨v, u, h1, h2, h3.at⟩, h4⟩

set_option maxHeartbeats 1000000 in
theorem overElements_one_in (p : Nat → Prop) (va vb : Value) (m n : Nat) (w : World) (hp : ∀ b, w.heap.size ≤ b → p b) (ha : AtP p w va (Nl.limbs m)) (hb : IsN w vb n) (hla : (Nl.limbs m).length ≤ 1000000) (hn : 0 < n) (hn2 : n < 4294967296) :
    Calls Tryz.prog 226 #[va, vb] w fun e w' => DivIn p w w' e m n := by
  have HPP := Lib.hid hp
  clear hp
  have hc := Lib.hid (compare_any va vb m n w ha.at hb)
  have HA := Lib.hid ha
  rw [IsN, limbs_one (by omega) hn2] at hb
  rcases hb with ⟨rfl, h⟩ | ⟨b, off, cap, rfl, -, hcb, hm, hbb, hx⟩
  · simp at h
  have c0 := hx 0 (by simp)
  simp only [Nat.add_zero, List.getD_cons_zero] at c0
  clear hx ha
  by_cases hlt : m < n
  · have hcm : cmpI m n = -1 := cmpI_lt hlt
    have hc' := hc.out
    rw [hcm] at hc'
    have HC := Lib.hid hc'
    have HLT := Lib.hid hlt
    clear hc' hlt hcm
    go_enter Tryz.func226, Tryz.ntmps226
    go_wp2_with fail
    refine HC.out.mono ?_
    rintro e w' ⟨rfl, j, rfl⟩
    go_wp2_with fail
    go_ret2
    refine ⟨⟨.slice none 0 0, va, rfl, ?_, ?_⟩, below_drewN _ _ _⟩
    · rw [Nat.div_eq_of_lt HLT.out, IsN, Nl.limbs_zero]; exact .inl ⟨rfl, rfl⟩
    · rw [Nat.mod_eq_of_lt HLT.out]; exact HA.out
  · have hcm : cmpI m n = 0 ∨ cmpI m n = 1 := by
      rcases Nat.lt_or_eq_of_le (Nat.le_of_not_lt hlt) with h | h
      · right; exact cmpI_gt h
      · left; rw [h]; exact cmpI_eq _
    obtain ⟨c, hcc⟩ : ∃ c, cmpI (m : Int) (n : Int) = c := ⟨_, rfl⟩
    have hc' := hc.out
    rw [hcc] at hc' hcm
    have HC := Lib.hid hc'
    have hc0 : ¬ (c < 0) := by omega
    clear hc' hlt hcc hcm hc
    go_enter Tryz.func226, Tryz.ntmps226
    go_wp2_with fail
    refine HC.out.mono ?_
    rintro e w' ⟨rfl, j, rfl⟩
    obtain ⟨w1, hw1⟩ : ∃ w1, w1 = w.drewN j := ⟨_, rfl⟩
    rw [← hw1]
    have c1 : w1.cell? ⟨b, off, none⟩ = some (.int .u32 n) := by rw [hw1]; exact c0
    have HA1 := Lib.hid (show AtP p w1 va (Nl.limbs m) by rw [hw1]; exact HA.out)
    have HB1 := Lib.hid (show Below w.heap.size w w1 by rw [hw1]; exact below_drewN _ _ _)
    clear hw1 c0
    go_wp2_with fail
    refine (overWord_any va m n w1 HA1.out.at hla hn hn2).mono ?_
    rintro e w2 ⟨⟨v, rfl, hv⟩, hb2⟩
    have HV := Lib.hid (show IsN w2 v (m / n) from hv.at.at)
    have HB2 := Lib.hid (show Below w.heap.size w w2 from HB1.out.trans (hb2.mono HB1.out.size))
    have hmod : m % n < 4294967296 := Nat.lt_trans (Nat.mod_lt _ hn) hn2
    obtain ⟨r, hr⟩ : ∃ r, r = m % n := ⟨_, rfl⟩
    rw [← hr] at hmod ⊢
    have HR := Lib.hid hr
    clear hv hb2 hr
    go_wp2_with fail
    refine (wordOf_num r w2 hmod).mono ?_
    rintro e w3 ⟨⟨u, rfl, hu⟩, hb3⟩
    go_wp2_with fail
    go_ret2
    refine ⟨⟨v, u, rfl, HV.out.below hb3, ?_⟩, HB2.out.trans (hb3.mono HB2.out.size)⟩
    rw [← HR.out]
    exact hu.at.mono fun b _ h => HPP.out b (Nat.le_trans HB2.out.size h)

theorem overElements_less (p : Nat → Prop) (va vb : Value) (m n : Nat) (w : World) (ha : AtP p w va (Nl.limbs m)) (hb : IsN w vb n) (hlt : m < n) :
    Calls Tryz.prog 226 #[va, vb] w fun e w' => DivIn p w w' e m n := by
  have hc := Lib.hid (compare_any va vb m n w ha.at hb)
  have HA := Lib.hid ha
  obtain ⟨a, ca, rfl, -⟩ := ha.form
  obtain ⟨b, cb, rfl, -⟩ := hb.form
  have hc' := hc.out
  rw [cmpI_lt hlt] at hc'
  have HC := Lib.hid hc'
  have HLT := Lib.hid hlt
  clear hc' hlt ha hb hc
  go_enter Tryz.func226, Tryz.ntmps226
  go_wp2_with fail
  refine HC.out.mono ?_
  rintro e w' ⟨rfl, j, rfl⟩
  go_wp2_with fail
  go_ret2
  refine ⟨⟨.slice none 0 0, _, rfl, ?_, ?_⟩, below_drewN _ _ _⟩
  · rw [Nat.div_eq_of_lt HLT.out, IsN, Nl.limbs_zero]; exact .inl ⟨rfl, rfl⟩
  · rw [Nat.mod_eq_of_lt HLT.out]; exact HA.out

theorem takeMost_len (g off n cap N : Nat) (A Z C ys : List Nat) (vb : Value) (w : World) (hn : n = N + 3) (hr : Row w g (A ++ (Z ++ C))) (ho : off = A.length) (hzl : Z.length = N + 3) (hyl : ys.length = N + 2) (hsz : Nl.Small Z) (hsy : Nl.Small ys)
    (hb : AtP (· ≠ g) w vb ys) (hcl : n ≤ cap) (hcap : cap ≤ 9223372036854775807) (htop : 2147483648 ≤ ys.getD (N + 1) 0) (hlt : Nl.val Z < 4294967296 * Nl.val ys) :
    Calls Tryz.prog 250 #[.slice (some ⟨g, off, none⟩) n cap, vb] w fun e w' => e = .returned (.int .u32 ((Nl.val Z / Nl.val ys : Nat) : Int)) ∧ ∃ Z', Mid w w' g A Z' C ∧ Z'.length = N + 3 ∧ Nl.Small Z' ∧ Nl.val Z' = Nl.val Z % Nl.val ys := by
  subst hn
  exact takeMost_any g off cap N A Z C ys vb w hr ho hzl hyl hsz hsy hb hcl hcap htop hlt

set_option maxRecDepth 10000 in
set_option maxHeartbeats 1000000 in
theorem overElements_many (p : Nat → Prop) (va vb : Value) (m n N : Nat) (w : World) (hp : ∀ b, w.heap.size ≤ b → p b) (ha : AtP p w va (Nl.limbs m)) (hb : IsN w vb n) (hla : (Nl.limbs m).length ≤ 900000) (hln : (Nl.limbs n).length = N + 2) (hle : n ≤ m) :
    Calls Tryz.prog 226 #[va, vb] w fun e w' => DivIn p w w' e m n := by
  have HPP := Lib.hid hp
  clear hp
  have hc := compare_any va vb m n w ha.at hb
  obtain ⟨c, hcc⟩ : ∃ c, cmpI (m : Int) (n : Int) = c := ⟨_, rfl⟩
  have hc0 : ¬ (c < 0) := by
    rw [← hcc]
    rcases Nat.lt_or_eq_of_le hle with h | h
    · rw [cmpI_gt h]; omega
    · rw [h, cmpI_eq]; omega
  rw [hcc] at hc
  have hlle := Nl.limbs_mono hle
  obtain ⟨L, hL⟩ : ∃ L, (Nl.limbs m).length = L := ⟨_, rfl⟩
  obtain ⟨P, hP⟩ : ∃ P, (Nl.limbs n).length = P := ⟨_, rfl⟩
  have hPN : P = N + 2 := by omega
  obtain ⟨K, hK⟩ : ∃ K, L = K + P := ⟨L - P, by omega⟩
  obtain ⟨s, hs, hs31, hbl, hbt⟩ := full_divisor hln
  have hn0 : n ≠ 0 := by
    intro h
    rw [h, Nl.limbs_zero] at hln
    simp at hln
  obtain ⟨b', hb'⟩ : ∃ b', b' = n * 2 ^ s := ⟨_, rfl⟩
  obtain ⟨m', hm'⟩ : ∃ m', m' = m * 2 ^ s := ⟨_, rfl⟩
  rw [← hb'] at hbl hbt
  have hbM : b' < 4294967296 ^ (N + 2) := by
    have h1 := Nl.lt_limbs b'
    rw [hbl] at h1
    exact h1
  have hm'l : (Nl.limbs m').length ≤ L + 1 := by
    apply Nl.limbs_lt
    rw [hm', Nat.pow_succ]
    have h1 := Nl.lt_limbs m
    rw [hL] at h1
    have h2 : 2 ^ s ≤ 2 ^ 32 := Nat.pow_le_pow_right (by decide) (by omega)
    exact Nat.lt_of_lt_of_le (Nat.mul_lt_mul_of_pos_right h1 (Nat.two_pow_pos s)) (Nat.mul_le_mul_left _ h2)
  have hstart : m' / 4294967296 ^ (K + 1) < b' := by
    rw [Nat.div_lt_iff_lt_mul (Nat.pow_pos (by decide))]
    have h1 := Nl.lt_limbs m
    rw [hL] at h1
    have h3 := nbits_le hn0
    have h4 : nbits n = 32 * (N + 2) - s := by
      have h5 := nbits_len n
      rw [hln] at h5 hs
      omega
    have h6 : 4294967296 ^ (N + 1) ≤ n := by
      rw [pow32]
      exact Nat.le_trans (Nat.pow_le_pow_right (by decide) (by omega)) h3
    rw [hm', hb', Nat.mul_right_comm]
    refine Nat.mul_lt_mul_of_pos_right (Nat.lt_of_lt_of_le h1 ?_) (Nat.two_pow_pos s)
    rw [show L = (N + 1) + (K + 1) by omega, Nat.pow_add]
    exact Nat.mul_le_mul_right _ h6
  have HA := Lib.hid ha
  have HB := Lib.hid hb
  have HC := Lib.hid hc
  have HLM := Lib.hid (And.intro hL hP)
  have HS := Lib.hid hs
  have HN0 := Lib.hid hn0
  have HBB := Lib.hid (And.intro hbl hbt)
  have HBE := Lib.hid (And.intro hb' hm')
  have HBM := Lib.hid hbM
  have HML := Lib.hid hm'l
  have HST := Lib.hid hstart
  have HPN := Lib.hid hPN
  obtain ⟨a, ca, rfl, -⟩ := ha.form
  obtain ⟨b, cb, rfl, -⟩ := hb.form
  have e1 : ((P : Int) == 1) = false := by rw [beq_eq_false_iff_ne]; omega
  have hKb : L ≤ 900000 := by omega
  have hP2 : 2 ≤ P := by omega
  rw [hL] at HA HC ⊢
  rw [hP] at HB HC ⊢
  have hK1 : L ≤ K + P := by omega
  have hK2 : K + P ≤ L := by omega
  have HK := Lib.hid hK
  clear ha hb hc hcc hle hlle hla hL hP hPN hK hln hs hn0 hbl hbt hb' hm' hbM hm'l hstart
  go_enter Tryz.func226, Tryz.ntmps226
  go_wp2_with fail
  refine HC.out.mono ?_
  rintro e w' ⟨rfl, j, rfl⟩
  obtain ⟨w1, hw1⟩ : ∃ w1, w1 = w.drewN j := ⟨_, rfl⟩
  rw [← hw1]
  have B1 := Lib.hid (show Below w.heap.size w w1 by rw [hw1]; exact below_drewN _ _ _)
  clear hw1 HC
  have hsp := spare_any _ n w1 (HB.out.below B1.out) (by rw [HLM.out.2]; omega) HN0.out
  rw [← HS.out] at hsp
  have HSP := Lib.hid hsp
  have HSL := Lib.hid (shiftedLeft_any _ n s w1 (HB.out.below B1.out) (by rw [HLM.out.2]; omega) (by omega))
  clear hsp
  go_wp2_with fail
  refine HSP.out.mono ?_
  rintro e w' ⟨rfl, rfl⟩
  go_wp2_with fail
  refine HSL.out.mono ?_
  rintro e w2 ⟨⟨v, rfl, hv⟩, hb2⟩
  rw [← HBE.out.1] at hv
  have hvl := hv.mono (q := (· < w2.heap.size)) fun _ h _ => h
  obtain ⟨pv, cv, rfl, -⟩ := hv.form
  rw [HBB.out.1, ← HPN.out] at hvl
  have HV := Lib.hid hvl
  rw [HBB.out.1, ← HPN.out]
  have B2 := Lib.hid (B1.out.trans (hb2.mono B1.out.size))
  have hmk := make_words 183 Tryz.underlying183 w2 ((L : Int) + 1) (L + 1) (by omega) (by omega)
  clear hv hvl hb2 HSP HSL B1
  obtain ⟨gR, hgR⟩ : ∃ g, g = w2.heap.size := ⟨_, rfl⟩
  rw [← hgR] at HV hmk
  obtain ⟨w3, hw3⟩ : ∃ w3, w3 = w2.alloc (.cells (vals (Nl.zeros (L + 1))).toArray 80) := ⟨_, rfl⟩
  rw [← hw3] at hmk
  have R3 := Lib.hid (show Row w3 gR (Nl.zeros (L + 1)) by rw [hw3, hgR]; exact row_new w2 _)
  have b23 : Below w2.heap.size w2 w3 := by rw [hw3]; exact (Below.refl _ _).alloc (Nat.le_refl _) _
  have B3 := Lib.hid (B2.out.trans (b23.mono B2.out.size))
  have HV3 := Lib.hid (HV.out.below b23)
  have HGR := Lib.hid (show w.heap.size ≤ gR by rw [hgR]; exact B2.out.size)
  clear hw3 b23 hgR HV
  have HSA := Lib.hid (shiftedLeft_any _ m s w3 (HA.out.at.below B3.out) (by rw [HLM.out.1]; omega) (by omega))
  go_wp2_with fail
  refine HSA.out.mono ?_
  rintro e w4 ⟨⟨u, rfl, hu⟩, hb4⟩
  rw [← HBE.out.2] at hu
  have HU := Lib.hid hu
  obtain ⟨pu, cu, rfl, -⟩ := hu.form
  have R4 := Lib.hid (R3.out.below hb4 R3.out.lt)
  have B4 := Lib.hid (B3.out.trans (hb4.mono B3.out.size))
  have HV4 := Lib.hid (HV3.out.below hb4)
  have hml := HML.out
  clear hu hb4 HSA hmk R3 B3 HV3
  go_wp2_with (with_reducible refine wp_copy rfl (.tmp 40) (.tmp 43) 183 183 rfl Tryz.underlying183 _ _ _ _ _ _ rfl rfl gR 0 (Nl.zeros (L + 1)) (Nl.limbs m') R4.out ?_ ?_ ?_ gR w4 ?_ ?_ ?_)
  · exact (Nat.min_eq_left hml).symm
  · intro h0
    obtain ⟨b', f', h1, -, h2⟩ := HU.out.cells h0
    exact ⟨b', f', h1, h2⟩
  · rw [Nl.zeros_length]; omega
  · exact Below.refl gR w4
  · exact Nat.le_refl _
  intro w5 hr5 hb5
  rw [splice_zeros] at hr5
  have ST := Lib.hid (long_start HML.out (show K + 1 ≤ L + 1 by omega) HST.out)
  have B5 := Lib.hid (B4.out.trans (hb5.mono HGR.out))
  have HV5 := Lib.hid (HV4.out.low hb5)
  have hmk := make_words 183 Tryz.underlying183 w5 ((L : Int) - (P : Int) + 1) (K + 1) (by omega) (by omega)
  obtain ⟨gQ, hgQ⟩ : ∃ g, g = w5.heap.size := ⟨_, rfl⟩
  rw [← hgQ] at hmk
  obtain ⟨w6, hw6⟩ : ∃ w6, w6 = w5.alloc (.cells (vals (Nl.zeros (K + 1))).toArray 80) := ⟨_, rfl⟩
  rw [← hw6] at hmk
  have b56 : Below w5.heap.size w5 w6 := by rw [hw6]; exact (Below.refl _ _).alloc (Nat.le_refl _) _
  have Q6 := Lib.hid (show Row w6 gQ (Nl.zeros (K + 1)) by rw [hw6, hgQ]; exact row_new w5 _)
  have R6 := Lib.hid (hr5.out.below b56 hr5.out.lt)
  have HNE := Lib.hid (show gR ≠ gQ ∧ w.heap.size ≤ gQ from ⟨by have := hr5.out.lt; omega, by rw [hgQ]; exact B5.out.size⟩)
  have HLT6 := Lib.hid (show gR < gQ by have := hr5.out.lt; omega)
  have B6 := Lib.hid (B5.out.trans (b56.mono B5.out.size))
  have HV6 := Lib.hid (HV5.out.below b56)
  clear hw6 b56 hgQ hr5 hb5 HV4 HV5 B5 B4 R4
  go_wp2_with fail
  clear hmk
  go_loopw [10] (fun i wr => ∃ (k : Nat) (R Qs : List Nat), k ≤ K + 1 ∧ i = .int .i64 ((k : Int) - 1) ∧ Hid (Row wr gR R) ∧ Hid (Row wr gQ Qs) ∧ Hid (AtP (· < gR) wr (.slice pv P cv) (Nl.limbs b')) ∧ Hid (Below w.heap.size w wr) ∧ Hid (R.length = L + 1) ∧ Hid (Qs.length = K + 1) ∧
      Hid (Nl.Small R ∧ Nl.Small Qs) ∧ Hid (Nl.val R + b' * (4294967296 ^ k * Nl.val (Qs.drop k)) = m') ∧ Hid (Nl.val (R.drop k) < b')) (fun i _ => (intOf i + 1).toNat)
  case atStart =>
    refine ⟨K + 1, _, _, Nat.le_refl _, by go_num, R6, Q6, HV6, B6, ST.out.1, Nl.zeros_length _, ⟨ST.out.2.1, Nl.small_replicate _⟩, ?_, ST.out.2.2.2⟩
    rw [Hid, ST.out.2.2.1, zeros_drop', Nl.val_replicate, Nat.mul_zero, Nat.mul_zero, Nat.add_zero]
  case round =>
    obtain ⟨k, R, Qs, hk, rfl, hr, hq, hvv, hbel, hlR, hlQ, hss, hval, hlt⟩ := hrel
    cases k with
    | zero =>
      have hv0 := hval.out
      rw [Nat.pow_zero, Nat.one_mul, List.drop_zero] at hv0
      have hl0 := hlt.out
      rw [List.drop_zero] at hl0
      have hend := long_end (m := m) (n := n) (s := s) (q := Nl.val Qs) (r := Nl.val R) (by rw [← HBE.out.1, ← HBE.out.2]; exact hv0) (by rw [← HBE.out.1]; exact hl0)
      have HE := Lib.hid hend
      have HSR := Lib.hid (shiftedRight_in p _ (Nl.val R) s wr (fun b hb => HPP.out b (Nat.le_trans hbel.out.size hb)) ((Own.num (base := w.heap.size) (k := Nl.val R) HGR.out hr.out hlR.out (by omega) hss.out.1 rfl).at.mono fun b _ hb => HPP.out b hb) (by
        have h1 := Nl.val_lt hss.out.1
        have h2 := Nl.limbs_lt h1
        rw [hlR.out] at h2
        omega) (by omega))
      clear hv0 hl0 hend
      go_wp2_with fail
      refine (trimmed_row gQ _ Qs wr hlQ.out hq.out (by omega)).mono ?_
      rintro e w' ⟨rfl, rfl⟩
      go_wp2_with fail
      refine (trimmed_row gR _ R wr hlR.out hr.out (by omega)).mono ?_
      rintro e w' ⟨rfl, rfl⟩
      go_wp2_with fail
      refine HSR.out.mono ?_
      rintro e w8 ⟨⟨x, rfl, hx⟩, hb8⟩
      have HX := Lib.hid hx
      have HB8 := Lib.hid hb8
      clear hx hb8 HSR
      go_wp2_with fail
      go_ret2
      refine ⟨⟨_, _, rfl, ?_, ?_⟩, hbel.out.trans (HB8.out.mono hbel.out.size)⟩
      · rw [← HE.out.1]
        exact (Own.num (base := 0) (k := Nl.val Qs) (Nat.zero_le _) hq.out hlQ.out (by omega) hss.out.2 rfl).at.at.below HB8.out
      · rw [← HE.out.2]
        exact HX.out
    | succ k =>
      rw [show ((k + 1 : Nat) : Int) - 1 = (k : Int) from by omega]
      have hfst := long_first (R := R) (i := k) (N := N) (b := b') (by rw [hlR.out]; have := HPN.out; omega) hss.out.1 HBM.out hlt.out
      have HF := Lib.hid hfst
      have HSTEP := Lib.hid (fun Z' : List Nat => long_step (R := R) (Qs := Qs) (Z' := Z') (i := k) (N := N) (b := b') (m' := m') (by rw [hlR.out]; have := HPN.out; omega) (by rw [hlQ.out]; omega) hss.out.1 HBM.out hval.out hlt.out)
      clear hfst
      go_wp2_with fail
      refine (takeMost_len gR k _ _ N (R.take k) ((R.drop k).take (N + 3)) (R.drop (k + (N + 3))) (Nl.limbs b') _ wr ?_ ?_ ?_ ?_ HBB.out.1 ((hss.out.1.drop k).take _) (Nl.limbs_small _) (hvv.out.mono fun b _ hb => Nat.ne_of_lt hb) ?_ ?_ HBB.out.2 (by rw [Nl.val_limbs]; exact HF.out.2.2)).mono ?_
      · have := HPN.out; omega
      · rw [split3]; exact hr.out
      · rw [List.length_take, hlR.out]; omega
      · rw [List.length_take, List.length_drop, hlR.out]; have := HPN.out; omega
      · have := HPN.out; omega
      · omega
      rintro e w7 ⟨rfl, Z', ⟨hrm, hom⟩, hlz, hsz, hvz⟩
      rw [Nl.val_limbs] at hvz
      have hst := HSTEP.out Z' hvz
      have hqb : Nl.val ((R.drop k).take (N + 3)) / b' < 4294967296 := Nat.div_lt_of_lt_mul (by rw [Nat.mul_comm]; exact HF.out.2.2)
      rw [Nl.val_limbs]
      obtain ⟨qd, hqd⟩ : ∃ q, q = Nl.val ((R.drop k).take (N + 3)) / b' := ⟨_, rfl⟩
      rw [← hqd] at hst hqb ⊢
      have HQ7 := Lib.hid (hq.out.kept hom (fun h => HNE.out.1 (Option.some.inj h)))
      have cq := HQ7.out.cell (i := k) (by rw [hlQ.out]; omega)
      have fq := HQ7.out.free k
      have HR7 := Lib.hid hrm
      have HO7 := Lib.hid hom
      have HST7 := Lib.hid (And.intro hst hqb)
      have HZ7 := Lib.hid (And.intro hlz hsz)
      clear hqd hst hqb hrm hom hlz hsz hvz
      obtain ⟨y, hy⟩ : ∃ y, y = Qs.getD k 0 := ⟨_, rfl⟩
      rw [← hy] at cq
      clear hy
      go_wp2_with fail
      go_roundw
      case rel =>
        refine ⟨k, R.take k ++ (Z' ++ R.drop (k + (N + 3))), Qs.set k qd, by omega, by go_num, HR7.out.kept (Only.setCell gQ k _ w7) (fun h => HNE.out.1 (Option.some.inj h).symm), HQ7.out.set k _,
          (hvv.out.only HO7.out (fun b hb => Nat.ne_of_lt hb)).only (Only.setCell gQ k _ w7) (fun b hb => ?_), (below_of_only hbel.out HO7.out HGR.out hbel.out.size).setCell HNE.out.2 _, ?_, ?_, ⟨?_, hss.out.2.set _ HST7.out.2⟩, HST7.out.1.1, HST7.out.1.2⟩
        · have h1 := hr.out.lt
          have h2 := HLT6.out
          omega
        · rw [Hid, List.length_append, List.length_append, List.length_take, List.length_drop, hlR.out, HZ7.out.1]; have := HPN.out; omega
        · rw [Hid, List.length_set]; exact hlQ.out
        · exact Nl.small_append.2 ⟨hss.out.1.take k, Nl.small_append.2 ⟨HZ7.out.2, hss.out.1.drop _⟩⟩
      case measure => simp [intOf] <;> omega
theorem overElements_in (p : Nat → Prop) (va vb : Value) (m n : Nat) (w : World) (hp : ∀ b, w.heap.size ≤ b → p b) (ha : AtP p w va (Nl.limbs m)) (hb : IsN w vb n) (hla : (Nl.limbs m).length ≤ 900000) (hn : 0 < n) :
    Calls Tryz.prog 226 #[va, vb] w fun e w' => DivIn p w w' e m n := by
  by_cases h1 : n < 4294967296
  · exact overElements_one_in p va vb m n w hp ha hb (by omega) hn h1
  · by_cases h2 : m < n
    · exact overElements_less p va vb m n w ha hb h2
    · have hl : ¬ (Nl.limbs n).length ≤ 1 := fun h => by
        have h3 := Nl.lt_limbs n
        have h4 := Nl.pow_le h
        rw [Nat.pow_one] at h4
        omega
      exact overElements_many p va vb m n ((Nl.limbs n).length - 2) w hp ha hb hla (by omega) (by omega)
theorem overElements_any (va vb : Value) (m n : Nat) (w : World) (ha : IsN w va m) (hb : IsN w vb n) (hla : (Nl.limbs m).length ≤ 900000) (hn : 0 < n) :
    Calls Tryz.prog 226 #[va, vb] w fun e w' => DivOk w w' e m n :=
  (overElements_in (fun _ => True) va vb m n w (fun _ _ => trivial) ha hb hla hn).mono fun _ _ h => h.ok
theorem overBlocks_short (va vb : Value) (m n cut : Nat) (w : World) (ha : IsN w va m) (hb : IsN w vb n) (hla : (Nl.limbs m).length ≤ 900000) (hn : 0 < n) (hcut : (Nl.limbs n).length < cut) :
    Calls Tryz.prog 227 #[va, vb, .int .i64 cut] w fun e w' => DivOk w w' e m n :=
  overBlocks_small va vb m n cut w hb hcut fun _ hb' => overElements_any va vb m n _ (ha.below hb') (hb.below hb') hla hn
end Go.Proofs.YtkbghamkalidcaaGreat
