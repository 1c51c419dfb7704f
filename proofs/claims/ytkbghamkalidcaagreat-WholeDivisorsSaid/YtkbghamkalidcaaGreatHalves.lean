/-
  What the products of halves are. Conditions: those that each theorem names.
-/
import Derived.Test.YtkbghamkalidcaaGreatDivideAll
namespace Go.Proofs.YtkbghamkalidcaaGreat
open Go.RowKit

/-- what Karatsuba's rule rests on -/
theorem kara {m n P a1 a0 b1 b0 : Nat} (hm : m = a0 + P * a1) (hn : n = b0 + P * b1) :
    (a1 + a0) * (b1 + b0) = a1 * b1 + (a1 * b0 + a0 * b1) + a0 * b0 ∧ m * n = a0 * b0 + P * (a1 * b0 + a0 * b1) + P * P * (a1 * b1) := by
  subst hm; subst hn
  constructor
  · simp only [Nat.mul_add, Nat.add_mul]; omega
  · simp only [Nat.mul_add, Nat.mul_left_comm, Nat.mul_comm]
    omega

theorem AtP.low {B : Nat} {w w' : World} {v : Value} {xs : List Nat} (h : AtP (· < B) w v xs) (hb : Below B w w') : AtP (· < B) w' v xs := by
  rcases h with h | ⟨b, off, cap, h1, h2, h3, h4, h5, h6⟩
  · exact .inl h
  · exact .inr ⟨b, off, cap, h1, h2, h3, h4, Nat.lt_of_lt_of_le h5 hb.size, h6.below hb h2⟩
theorem sub_none {a x y M c : Nat} (hv : a + y = x + M * c) (hy : y ≤ x) (ha : a < M) : a = x - y := by
  rcases Nat.eq_zero_or_pos c with rfl | hc
  · omega
  · have : M * 1 ≤ M * c := Nat.mul_le_mul_left M hc
    omega
theorem splice_val {N k : Nat} {lo a : List Nat} (h : lo.length ≤ k) (hN : k + a.length ≤ N) (hs : Nl.Small lo) (ha : Nl.Small a) :
    Nl.val (splice (lo ++ Nl.zeros (N - lo.length)) k a) = Nl.val lo + 4294967296 ^ k * Nl.val a ∧ (splice (lo ++ Nl.zeros (N - lo.length)) k a).length = N ∧ Nl.Small (splice (lo ++ Nl.zeros (N - lo.length)) k a) := by
  have h1 : (lo ++ Nl.zeros (N - lo.length)).take k = lo ++ Nl.zeros (k - lo.length) := by
    rw [List.take_append, List.take_of_length_le h]
    simp only [Nl.zeros, List.take_replicate]
    rw [Nat.min_eq_left (by omega)]
  have h2 : (lo ++ Nl.zeros (N - lo.length)).drop (k + a.length) = Nl.zeros (N - (k + a.length)) := by
    rw [List.drop_append, List.drop_of_length_le (by omega), List.nil_append, zeros_drop]
    congr 1; omega
  have h3 : splice (lo ++ Nl.zeros (N - lo.length)) k a = lo ++ (Nl.zeros (k - lo.length) ++ (a ++ Nl.zeros (N - (k + a.length)))) := by
    rw [splice, h1, h2, List.append_assoc]
  rw [h3]
  refine ⟨?_, ?_, ?_⟩
  · rw [Nl.val_append, Nl.val_append, Nl.val_pad, Nl.val_replicate, Nl.zeros_length, Nat.zero_add, ← Nat.mul_assoc, ← Nat.pow_add, show lo.length + (k - lo.length) = k from by omega]
  · simp only [List.length_append, Nl.zeros_length]; omega
  · exact Nl.small_append.2 ⟨hs, Nl.small_append.2 ⟨Nl.small_replicate _, Nl.small_append.2 ⟨ha, Nl.small_replicate _⟩⟩⟩
theorem kara_end {m n P X L H t v c W N D : Nat} (hmn : m * n = L + P * X + P * P * H) (h9 : t + P * v = L + P * P * H) (hv : D + W * c = v + X) (hlt : m * n < N) (hN : N = P * W) : t + P * D = m * n := by
  have e : P * (D + W * c) = P * (v + X) := by rw [hv]
  rw [Nat.mul_add, Nat.mul_add, ← Nat.mul_assoc, ← hN] at e
  rcases Nat.eq_zero_or_pos c with rfl | hc
  · omega
  · have : N * 1 ≤ N * c := Nat.mul_le_mul_left N hc
    omega

theorem increase_mid (g off n cap : Nat) (A Z C ys : List Nat) (vb : Value) (w : World) (hn : Z.length = n) (hr : Row w g (A ++ (Z ++ C))) (ho : off = A.length) (hZ : Nl.Small Z) (hys : Nl.Small ys)
    (hb : AtP (· ≠ g) w vb ys) (hl : ys.length ≤ n) (hzl : n ≤ cap) (hcap : cap ≤ 9223372036854775807) :
    Calls Tryz.prog 228 #[.slice (some ⟨g, off, none⟩) n cap, vb] w fun e w' => e = .returned (.tuple #[]) ∧
      ∃ Z' c, Mid w w' g A Z' C ∧ Z'.length = n ∧ Nl.Small Z' ∧ Nl.val Z' + 4294967296 ^ n * c = Nl.val Z + Nl.val ys := by
  subst hn; exact increase_any g off cap A Z C ys vb w hr ho hZ hys hb hl hzl hcap

/-- a call of the closure at C, T multiplies -/
def HalvesOk (C T cut m n : Nat) : Prop := ∀ (va vb : Value) (w : World), IsN w va m → IsN w vb n → (Nl.limbs m).length ≤ 100000 → (Nl.limbs n).length ≤ 100000 →
    w.cell? ⟨C, 0, none⟩ = some (.int .i64 cut) → w.cell? ⟨T, 0, none⟩ = some (.func (.func 272) #[] #[.pointer (some ⟨C, 0, none⟩), .pointer (some ⟨T, 0, none⟩)]) → C < w.heap.size → T < w.heap.size →
    Calls Tryz.prog 272 #[va, vb, .pointer (some ⟨C, 0, none⟩), .pointer (some ⟨T, 0, none⟩)] w fun e w' => (∃ v, e = .returned v ∧ Own w.heap.size w' v (Nl.limbs (m * n))) ∧ Below w.heap.size w w'

set_option maxHeartbeats 4000000 in
theorem halves_any (cut : Nat) (C T : Nat) (hcut2 : 2 ≤ cut) (hcutb : cut ≤ 1000000) (S : Nat) : ∀ (m n : Nat), m + n ≤ S → HalvesOk C T cut m n := by
  induction S using Nat.strongRecOn with
  | ind S ih =>
  intro m n hS va vb w ha hb hla hlb hC hT hCl hTl
  by_cases hsm : (Nl.limbs m).length < cut ∨ (Nl.limbs n).length < cut
  · have ht := Lib.hid (timesPairs_any va vb m n w ha hb (by omega) (by omega))
    obtain ⟨a, ca, rfl, -⟩ := ha.form
    obtain ⟨b, cb, rfl, -⟩ := hb.form
    clear ha hb ih hS hT
    by_cases hle : (Nl.limbs m).length ≤ (Nl.limbs n).length
    · have hmin : min ((Nl.limbs m).length : Int) ((Nl.limbs n).length : Int) = (Nl.limbs m).length := by omega
      have hc : ((Nl.limbs m).length : Int) < (cut : Int) := by omega
      clear hsm
      go_enter Tryz.func272, Tryz.ntmps272
      go_wp2_with fail
      refine ht.out.mono ?_
      rintro e w' ⟨⟨v, rfl, hv⟩, hb⟩
      go_wp2_with fail
      go_ret
      exact ⟨⟨_, rfl, hv⟩, hb⟩
    · have hmin : min ((Nl.limbs m).length : Int) ((Nl.limbs n).length : Int) = (Nl.limbs n).length := by omega
      have hc : ((Nl.limbs n).length : Int) < (cut : Int) := by omega
      clear hsm
      go_enter Tryz.func272, Tryz.ntmps272
      go_wp2_with fail
      refine ht.out.mono ?_
      rintro e w' ⟨⟨v, rfl, hv⟩, hb⟩
      go_wp2_with fail
      go_ret
      exact ⟨⟨_, rfl, hv⟩, hb⟩
  · obtain ⟨h, hh⟩ : ∃ h : Nat, h = (max (Nl.limbs m).length (Nl.limbs n).length + 1) / 2 := ⟨_, rfl⟩
    have hmn : ¬ (min ((Nl.limbs m).length : Int) ((Nl.limbs n).length : Int) < (cut : Int)) := by omega
    have hhi : (max ((Nl.limbs m).length : Int) ((Nl.limbs n).length : Int) + 1) / 2 = (h : Int) := by omega
    have hmx : max ((Nl.limbs m).length : Int) ((Nl.limbs n).length : Int) ≤ 100000 := by omega
    have hmx0 : 0 ≤ max ((Nl.limbs m).length : Int) ((Nl.limbs n).length : Int) := by omega
    have h1 : 1 ≤ h := by omega
    have h2 : h ≤ 60000 := by omega
    have hlm : (Nl.limbs m).length ≤ 2 * h := by omega
    have hln : (Nl.limbs n).length ≤ 2 * h := by omega
    have hbig : h < (Nl.limbs m).length ∨ h < (Nl.limbs n).length := by omega
    have h2s : 2 * h < (Nl.limbs m).length + (Nl.limbs n).length := by omega
    have HA := Lib.hid ha
    have HB := Lib.hid hb
    obtain ⟨P, hP⟩ : ∃ P, P = 4294967296 ^ h := ⟨_, rfl⟩
    have hPp : 2 ≤ P := by
      rw [hP]; exact Nat.le_trans (by decide) (Nl.pow_le h1)
    obtain ⟨a1, e1⟩ : ∃ x, x = m / P := ⟨_, rfl⟩
    obtain ⟨a0, e2⟩ : ∃ x, x = m % P := ⟨_, rfl⟩
    obtain ⟨b1, e3⟩ : ∃ x, x = n / P := ⟨_, rfl⟩
    obtain ⟨b0, e4⟩ : ∃ x, x = n % P := ⟨_, rfl⟩
    have em : m = a0 + P * a1 := by rw [e1, e2]; exact (Nat.mod_add_div m P).symm
    have en : n = b0 + P * b1 := by rw [e3, e4]; exact (Nat.mod_add_div n P).symm
    have ca1 := above_num (fun _ => True) va m h w ha (by omega)
    have ca0 := below_num (fun _ => True) va m h w ha (by omega)
    have cb1 := above_num (fun _ => True) vb n h w hb (by omega)
    have cb0 := below_num (fun _ => True) vb n h w hb (by omega)
    rw [← hP, ← e1] at ca1
    rw [← hP, ← e2] at ca0
    rw [← hP, ← e3] at cb1
    rw [← hP, ← e4] at cb0
    have pos : 0 < a1 ∨ 0 < b1 := by
      rcases hbig with hx | hx
      · left
        rw [e1]
        have hm0 : m ≠ 0 := by rintro rfl; rw [Nl.limbs_zero] at hx; simp at hx
        have h4 := Nl.limbs_le hm0
        have h5 : 4294967296 ^ h ≤ 4294967296 ^ ((Nl.limbs m).length - 1) := Nl.pow_le (by omega)
        exact Nat.div_pos (by omega) (by omega)
      · right
        rw [e3]
        have hn0 : n ≠ 0 := by rintro rfl; rw [Nl.limbs_zero] at hx; simp at hx
        have h4 := Nl.limbs_le hn0
        have h5 : 4294967296 ^ h ≤ 4294967296 ^ ((Nl.limbs n).length - 1) := Nl.pow_le (by omega)
        exact Nat.div_pos (by omega) (by omega)
    have q1 : 2 * a1 ≤ P * a1 := Nat.mul_le_mul_right _ hPp
    have q2 : 2 * b1 ≤ P * b1 := Nat.mul_le_mul_right _ hPp
    have ih1 := Lib.hid (ih (a1 + b1) (by omega) a1 b1 (Nat.le_refl _))
    have ih2 := Lib.hid (ih (a0 + b0) (by omega) a0 b0 (Nat.le_refl _))
    have ih3 := Lib.hid (ih ((a1 + a0) + (b1 + b0)) (by omega) (a1 + a0) (b1 + b0) (Nat.le_refl _))
    have la1 : (Nl.limbs a1).length ≤ 100000 := Nat.le_trans (Nl.limbs_mono (by omega)) hla
    have la0 : (Nl.limbs a0).length ≤ 100000 := Nat.le_trans (Nl.limbs_mono (by omega)) hla
    have lb1 : (Nl.limbs b1).length ≤ 100000 := Nat.le_trans (Nl.limbs_mono (by omega)) hlb
    have lb0 : (Nl.limbs b0).length ≤ 100000 := Nat.le_trans (Nl.limbs_mono (by omega)) hlb
    have ls1 : (Nl.limbs (a1 + a0)).length ≤ 100000 := Nat.le_trans (Nl.limbs_mono (by omega)) hla
    have ls2 : (Nl.limbs (b1 + b0)).length ≤ 100000 := Nat.le_trans (Nl.limbs_mono (by omega)) hlb
    have HP := Lib.hid hP
    have HE := Lib.hid (And.intro em en)
    have HE2 := Lib.hid (show a0 < P ∧ b0 < P from ⟨by rw [e2]; exact Nat.mod_lt _ (by omega), by rw [e4]; exact Nat.mod_lt _ (by omega)⟩)
    have Ca1 := Lib.hid ca1
    have Ca0 := Lib.hid ca0
    have Cb1 := Lib.hid cb1
    have Cb0 := Lib.hid cb0
    obtain ⟨a, ca, rfl, -⟩ := ha.form
    obtain ⟨b, cb, rfl, -⟩ := hb.form
    clear ha hb hh hsm ih hS em en ca1 ca0 cb1 cb0 e1 e2 e3 e4 hP pos q1 q2 hPp hbig
    go_enter Tryz.func272, Tryz.ntmps272
    go_wp2_with fail
    refine Ca1.out.mono ?_
    rintro e w' ⟨⟨va1, rfl, ia1⟩, rfl⟩
    go_wp2_with fail
    refine Ca0.out.mono ?_
    rintro e w' ⟨⟨va0, rfl, ia0⟩, rfl⟩
    go_wp2_with fail
    refine Cb1.out.mono ?_
    rintro e w' ⟨⟨vb1, rfl, ib1⟩, rfl⟩
    go_wp2_with fail
    refine Cb0.out.mono ?_
    rintro e w' ⟨⟨vb0, rfl, ib0⟩, rfl⟩
    go_wp2_with fail
    have HC := Lib.hid hC
    clear hC
    go_region_held3 (fun w' => w'.cell? ⟨T, 0, none⟩ = some (.func (.func 272) #[] #[.pointer (some ⟨C, 0, none⟩), .pointer (some ⟨T, 0, none⟩)]))
      (first
        | go_keep
        | assumption)
      (first
        | (go_at_call_of 272 va1; refine (ih1.out va1 vb1 w.drew (show IsN w.drew va1 a1 from ia1) (show IsN w.drew vb1 b1 from ib1) la1 lb1 HC.out hT hCl hTl).mono ?_; rintro e w1 ⟨⟨vh, rfl, oh⟩, bh⟩; have hT1 := (bh.cell (p := ⟨T, 0, none⟩) hTl).trans hT)
        | (go_at_call_of 272 va0; refine (ih2.out va0 vb0 w1 (AtP.below (w := w.drew) ia0 bh) (AtP.below (w := w.drew) ib0 bh) la0 lb0 ((bh.cell (p := ⟨C, 0, none⟩) hCl).trans HC.out) hT1 (Nat.lt_of_lt_of_le hCl bh.size) (Nat.lt_of_lt_of_le hTl bh.size)).mono ?_; rintro e w2 ⟨⟨vl, rfl, ol⟩, bl⟩; have hT2 := (bl.cell (p := ⟨T, 0, none⟩) (Nat.lt_of_lt_of_le hTl bh.size)).trans hT1))
    have hb2 : Below w.heap.size w w2 := Below.trans (b := w.drew) (Below.drew (Below.refl _ _)) (Below.trans (b := w1) bh (bl.mono bh.size))
    have HHi := Lib.hid (show At w2 vh (Nl.limbs (a1 * b1)) from oh.at.at.below bl)
    have HLo := Lib.hid (show At w2 vl (Nl.limbs (a0 * b0)) from ol.at.at)
    have ja1 := Lib.hid (show IsN w2.drew va1 a1 from AtP.below ia1 (Below.drew hb2))
    have ja0 := Lib.hid (show IsN w2.drew va0 a0 from AtP.below ia0 (Below.drew hb2))
    have jb1 := Lib.hid (show IsN w2.drew vb1 b1 from AtP.below ib1 (Below.drew hb2))
    have jb0 := Lib.hid (show IsN w2.drew vb0 b0 from AtP.below ib0 (Below.drew hb2))
    have HB2 := Lib.hid hb2
    have HC2 := Lib.hid ((hb2.cell (p := ⟨C, 0, none⟩) hCl).trans HC.out)
    have hC2l : C < w2.heap.size := Nat.lt_of_lt_of_le hCl hb2.size
    have hT2l : T < w2.heap.size := Nat.lt_of_lt_of_le hTl hb2.size
    clear hT hT1 bh oh bl ol hb2 ih1 ih2 ia1 ia0 ib1 ib0 Ca1 Ca0 Cb1 Cb0
    go_wp2_with fail
    go_region_held3 (fun w' => w'.cell? ⟨T, 0, none⟩ = some (.func (.func 272) #[] #[.pointer (some ⟨C, 0, none⟩), .pointer (some ⟨T, 0, none⟩)]))
      (first
        | go_keep
        | assumption)
      (first
        | (go_at_call_of 192 va1; refine (plus_any va1 va0 a1 a0 w2.drew ja1.out ja0.out (by omega) (by omega)).mono ?_; rintro e w3 ⟨⟨vs, rfl, os⟩, bs⟩; have hT3 := (bs.cell (p := ⟨T, 0, none⟩) hT2l).trans hT2)
        | (go_at_call_of 192 vb1; refine (plus_any vb1 vb0 b1 b0 w3 (jb1.out.below bs) (jb0.out.below bs) (by omega) (by omega)).mono ?_; rintro e w4 ⟨⟨vt, rfl, ot⟩, bt⟩; have hT4 := (bt.cell (p := ⟨T, 0, none⟩) (Nat.lt_of_lt_of_le hT2l bs.size)).trans hT3)
        | (go_at_call 272; refine (ih3.out vs vt w4 (AtP.below os bt) ot ls1 ls2 ((bt.cell (p := ⟨C, 0, none⟩) (Nat.lt_of_lt_of_le hC2l bs.size)).trans ((bs.cell (p := ⟨C, 0, none⟩) hC2l).trans HC2.out)) hT4 (Nat.lt_of_lt_of_le hC2l (Nat.le_trans bs.size bt.size)) (Nat.lt_of_lt_of_le hT2l (Nat.le_trans bs.size bt.size))).mono ?_; rintro e w5 ⟨⟨vm, rfl, om⟩, bm⟩; have hT5 := (bm.cell (p := ⟨T, 0, none⟩) (Nat.lt_of_lt_of_le hT2l (Nat.le_trans bs.size bt.size))).trans hT4))
    have hb24 : Below w2.heap.size w2 w4 := Below.trans (b := w2.drew) (Below.drew (Below.refl _ _)) (Below.trans (b := w3) bs (bt.mono bs.size))
    have hb25 : Below w2.heap.size w2 w5 := hb24.trans (bm.mono hb24.size)
    have hb5 : Below w.heap.size w w5 := HB2.out.trans (hb25.mono HB2.out.size)
    have hhi5 : AtP (· < w4.heap.size) w5 vh (Nl.limbs (a1 * b1)) := (HHi.out.mono (q := (· < w4.heap.size)) fun b hb _ => Nat.lt_of_lt_of_le hb hb24.size).below hb25
    have hlo5 : AtP (· < w4.heap.size) w5 vl (Nl.limbs (a0 * b0)) := (HLo.out.mono (q := (· < w4.heap.size)) fun b hb _ => Nat.lt_of_lt_of_le hb hb24.size).below hb25
    have OM := Lib.hid om
    have HB5 := Lib.hid hb5
    have hHi5 := Lib.hid hhi5
    have hLo5 := Lib.hid hlo5
    have h45 := bm.size
    have h04 : w.heap.size ≤ w4.heap.size := Nat.le_trans HB2.out.size hb24.size
    clear bs os bt ot bm om hT2 hT3 hT4 hT5 hb24 hb25 hb5 hhi5 hlo5 HHi HLo ja1 ja0 jb1 jb0 ih3 HC HC2
    obtain ⟨X, hX⟩ : ∃ X, X = a1 * b0 + a0 * b1 := ⟨_, rfl⟩
    obtain ⟨k1, k2⟩ := kara HE.out.1 HE.out.2
    rw [← hX] at k1 k2
    have hlt : m * n < 4294967296 ^ ((Nl.limbs m).length + (Nl.limbs n).length) := by rw [Nat.pow_add]; exact Nat.mul_lt_mul'' (Nl.lt_limbs m) (Nl.lt_limbs n)
    have hPP : P * P = 4294967296 ^ (2 * h) := by rw [HP.out, ← Nat.pow_add]; congr 1; omega
    have hNP : 4294967296 ^ ((Nl.limbs m).length + (Nl.limbs n).length) = P * 4294967296 ^ ((Nl.limbs m).length + (Nl.limbs n).length - h) := by rw [HP.out, ← Nat.pow_add]; congr 1; omega
    have hXl : (Nl.limbs X).length ≤ (Nl.limbs m).length + (Nl.limbs n).length - h := by
      apply Nl.limbs_lt
      have : P * X < P * 4294967296 ^ ((Nl.limbs m).length + (Nl.limbs n).length - h) := by rw [← hNP]; omega
      exact Nat.lt_of_mul_lt_mul_left this
    have hLl : (Nl.limbs (a0 * b0)).length ≤ 2 * h := by
      apply Nl.limbs_lt
      rw [← hPP]
      exact Nat.mul_lt_mul'' HE2.out.1 HE2.out.2
    have hHl : 2 * h + (Nl.limbs (a1 * b1)).length ≤ (Nl.limbs m).length + (Nl.limbs n).length := by
      have : (Nl.limbs (a1 * b1)).length ≤ (Nl.limbs m).length + (Nl.limbs n).length - 2 * h := by
        apply Nl.limbs_lt
        have e : 4294967296 ^ ((Nl.limbs m).length + (Nl.limbs n).length) = P * P * 4294967296 ^ ((Nl.limbs m).length + (Nl.limbs n).length - 2 * h) := by rw [hPP, ← Nat.pow_add]; congr 1; omega
        have : P * P * (a1 * b1) < P * P * 4294967296 ^ ((Nl.limbs m).length + (Nl.limbs n).length - 2 * h) := by rw [← e]; omega
        exact Nat.lt_of_mul_lt_mul_left this
      omega
    have K1 := Lib.hid k1
    have K2 := Lib.hid k2
    have HLT := Lib.hid hlt
    have HPP := Lib.hid hPP
    have HNP := Lib.hid hNP
    clear k1 k2 hlt hPP hNP hX
    go_wp2_with fail
    refine (decrease_own w4.heap.size vm vh _ _ w5 OM.out hHi5.out (Nl.limbs_small _) (Nl.limbs_small _) (Nl.limbs_mono (by rw [K1.out]; omega)) h45).mono ?_
    rintro e w6 ⟨rfl, Z1, c1, o1, l1, s1, v1, d1⟩
    rw [Nl.val_limbs, Nl.val_limbs] at v1
    have x1 := sub_none v1 (by rw [K1.out]; omega) (by rw [← l1]; exact Nl.val_lt s1)
    rw [K1.out] at x1
    have hl1 : (Nl.limbs (a0 * b0)).length ≤ Z1.length := by rw [l1]; exact Nl.limbs_mono (by rw [K1.out]; omega)
    have O1 := Lib.hid o1
    have D1 := Lib.hid d1
    have X1 := Lib.hid x1
    have h46 := Nat.le_trans h45 d1.size
    clear l1 v1 o1 d1 x1
    go_wp2_with fail
    refine (decrease_own w4.heap.size vm vl Z1 _ w6 O1.out (hLo5.out.low D1.out) s1 (Nl.limbs_small _) hl1 h46).mono ?_
    rintro e w7 ⟨rfl, Z2, c2, o2, l2, s2, v2, d2⟩
    rw [Nl.val_limbs] at v2
    have x2 := sub_none v2 (by rw [X1.out]; omega) (by rw [← l2]; exact Nl.val_lt s2)
    rw [X1.out] at x2
    have X2 := Lib.hid (show Nl.val Z2 = X from by rw [x2]; omega)
    have O2 := Lib.hid o2
    have HB7 := Lib.hid (show Below w.heap.size w w7 from HB5.out.trans ((D1.out.trans d2).mono h04))
    have HH7 := Lib.hid (show AtP (· < w4.heap.size) w7 vh (Nl.limbs (a1 * b1)) from (hHi5.out.low D1.out).low d2)
    have HL7 := Lib.hid (show AtP (· < w4.heap.size) w7 vl (Nl.limbs (a0 * b0)) from (hLo5.out.low D1.out).low d2)
    have h47 := Nat.le_trans h46 d2.size
    clear l2 v2 o2 d2 x2 O1 D1 hHi5 hLo5 OM HB5
    have hmk := make_words 183 Tryz.underlying183 w7 ((Nl.limbs m).length + (Nl.limbs n).length) ((Nl.limbs m).length + (Nl.limbs n).length) (by omega) (by omega)
    obtain ⟨al, cl, rfl, -⟩ := HL7.out.form
    obtain ⟨ah, ch, rfl, -⟩ := HH7.out.form
    go_wp2_with (with_reducible refine wp_copy rfl (.tmp 73) (.tmp 74) 183 183 rfl Tryz.underlying183 _ _ _ _ _ _ rfl rfl w7.heap.size 0 (Nl.zeros ((Nl.limbs m).length + (Nl.limbs n).length)) (Nl.limbs (a0 * b0)) (row_new w7 _) ?_ ?_ ?_ w7.heap.size w7 ?_ ?_ ?_)
    · exact (Nat.min_eq_left (by omega)).symm
    · intro h0
      obtain ⟨b', f', g1, -, g2⟩ := (HL7.out.alloc _).cells h0
      exact ⟨b', f', g1, g2⟩
    · rw [Nl.zeros_length]; omega
    · exact (Below.refl _ _).alloc (Nat.le_refl _) _
    · exact Nat.le_refl _
    intro w8 hr8 hb8
    rw [splice_zeros] at hr8
    clear hmk
    obtain ⟨y1, y2, y3⟩ := splice_val (N := (Nl.limbs m).length + (Nl.limbs n).length) (k := 2 * h) (lo := Nl.limbs (a0 * b0)) (a := Nl.limbs (a1 * b1)) hLl hHl (Nl.limbs_small _) (Nl.limbs_small _)
    have Y1 := Lib.hid y1
    have Y2 := Lib.hid y2
    clear y1 y2
    have hc2 : ¬ ((Nl.limbs m).length + (Nl.limbs n).length = 2 * h) := by omega
    have hmin2 : min (2 * (h : Int)) (((Nl.limbs m).length : Int) + ((Nl.limbs n).length : Int)) = 2 * (h : Int) := by omega
    obtain ⟨Z8, hZ8⟩ : ∃ Z8, Z8 = Nl.limbs (a0 * b0) ++ Nl.zeros ((Nl.limbs m).length + (Nl.limbs n).length - (Nl.limbs (a0 * b0)).length) := ⟨_, rfl⟩
    rw [← hZ8] at hr8 y3
    have Y1' := Y1.out
    have Y2' := Y2.out
    rw [← hZ8] at Y1' Y2'
    have hl8 : Z8.length = (Nl.limbs m).length + (Nl.limbs n).length := by rw [hZ8, List.length_append, Nl.zeros_length]; omega
    have HL8 := Lib.hid hl8
    have HY1 := Lib.hid Y1'
    have HY2 := Lib.hid Y2'
    clear Y1' Y2' Y1 Y2 hZ8 hl8
    go_wp2_with (with_reducible refine wp_copy rfl (.tmp 82) (.tmp 83) 183 183 rfl Tryz.underlying183 _ _ _ _ _ _ rfl rfl w7.heap.size (2 * h) Z8 (Nl.limbs (a1 * b1)) hr8.out ?_ ?_ ?_ w7.heap.size w7 hb8 ?_ ?_)
    · exact (Nat.min_eq_left (by omega)).symm
    · intro h0
      obtain ⟨b', f', g1, -, g2⟩ := (HH7.out.below hb8).cells h0
      exact ⟨b', f', g1, g2⟩
    · rw [HL8.out]; exact hHl
    · exact Nat.le_refl _
    intro w9 hr9 hb9
    obtain ⟨Z9, hZ9⟩ : ∃ Z9, Z9 = splice Z8 (2 * h) (Nl.limbs (a1 * b1)) := ⟨_, rfl⟩
    have HY1' := HY1.out
    have HY2' := HY2.out
    rw [← hZ9] at hr9 y3 HY1' HY2'
    have HV9 := Lib.hid HY1'
    have HL9 := Lib.hid HY2'
    clear HY1 HY2 HY1' HY2' hr8 HL8 hZ9 hb8 hc2 hmin2
    have hcap : ¬ ((Nl.limbs m).length + (Nl.limbs n).length = h) := by omega
    have hint : (h : Int) ≤ ((Nl.limbs m).length : Int) + ((Nl.limbs n).length : Int) := by omega
    have htr := trimmed_any (fun b => w4.heap.size ≤ b ∧ b < w7.heap.size) vm Z2 w9.drew (show AtP (fun b => w4.heap.size ≤ b ∧ b < w7.heap.size) w9.drew vm Z2 from
      AtP.below (w := w7) (O2.out.at.mono fun b hb hq => ⟨hq, hb⟩) (Below.drew hb9))
    have HTR := Lib.hid htr
    clear htr
    have ht2 : Nl.trim Z2 = Nl.limbs X := by rw [Nl.trim_eq s2, X2.out]
    have HT2 := Lib.hid ht2
    clear ht2
    go_wp2_with fail
    go_region_held3 (fun _ => True)
      (first
        | trivial)
      (first
        | (go_at_call 216; refine HTR.out.mono ?_; rintro e w10 ⟨⟨vt, rfl, it⟩, rfl⟩)
        | (go_at_call 228; rw [HT2.out] at it; refine (increase_mid w7.heap.size h _ _ (Z9.take h) (Z9.drop h) [] (Nl.limbs X) vt w9.drew (by rw [List.length_drop, HL9.out]) (by rw [List.append_nil, List.take_append_drop]; exact hr9.out) (by rw [List.length_take, HL9.out]; omega) (y3.drop h) (Nl.limbs_small _) (it.mono fun b _ hb => Nat.ne_of_lt hb.2) hXl (Nat.le_refl _) (by omega)).mono ?_; rintro e w11 ⟨rfl, Z', c, ⟨hr11, ho11⟩, l11, s11, v11⟩))
    have hb11 : Below w7.heap.size w7 w11 := below_of_only (Below.drew hb9) ho11 (Nat.le_refl _) (show w7.heap.size ≤ w9.heap.size from hb9.size)
    rw [List.append_nil] at hr11
    have l12 : (Z9.take h ++ Z').length = (Nl.limbs m).length + (Nl.limbs n).length := by rw [List.length_append, List.length_take, HL9.out, l11]; omega
    have v12 : Nl.val (Z9.take h ++ Z') = m * n := by
      rw [Nl.val_append, List.length_take, HL9.out, Nat.min_eq_left (by omega), ← HP.out]
      have h9 := HV9.out
      rw [Nl.val_limbs, Nl.val_limbs, ← HPP.out, ← Nl.val_take_drop Z9 h (by rw [HL9.out]; omega), ← HP.out] at h9
      rw [Nl.val_limbs] at v11
      exact kara_end K2.out h9 v11 HLT.out HNP.out
    have s12 : Nl.Small (Z9.take h ++ Z') := Nl.small_append.2 ⟨y3.take h, s11⟩
    obtain ⟨Z12, hZ12⟩ : ∃ Z12, Z12 = Z9.take h ++ Z' := ⟨_, rfl⟩
    rw [← hZ12] at hr11 l12 v12 s12
    have HR12 := Lib.hid hr11
    have HL12 := Lib.hid l12
    have HV12 := Lib.hid v12
    clear hr11 l12 v12 hZ12 ho11 l11 v11 hint hcap
    go_wp2_with fail
    refine (trimmed_row _ _ Z12 w11 HL12.out HR12.out (by omega)).mono ?_
    rintro e w13 ⟨rfl, rfl⟩
    go_wp2_with fail
    go_ret
    have hb0 : Below w.heap.size w w11 := HB7.out.trans (hb11.mono HB7.out.size)
    exact ⟨⟨_, rfl, Own.num HB7.out.size HR12.out HL12.out (by omega) s12 HV12.out⟩, hb0⟩
end Go.Proofs.YtkbghamkalidcaaGreat
