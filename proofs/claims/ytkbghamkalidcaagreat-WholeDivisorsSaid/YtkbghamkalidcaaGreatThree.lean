/-
  What threeByTwo does, given what the division of two parts by one does. Conditions: those that each theorem names.
-/
import Derived.Test.YtkbghamkalidcaaGreatElements
namespace Go.Proofs.YtkbghamkalidcaaGreat
open Go.RowKit

theorem at_inj {p q : Nat → Prop} {w : World} {v : Value} {xs ys : List Nat} (h : AtP p w v xs) (k : AtP q w v ys) : xs = ys := by
  rcases h with ⟨rfl, rfl⟩ | ⟨b, off, cap, rfl, -, -, -, -, hx⟩
  · rcases k with ⟨-, rfl⟩ | ⟨b, off, cap, h1, -⟩
    · rfl
    · cases h1
  · rcases k with ⟨h1, -⟩ | ⟨b', off', cap', h1, -, -, -, -, hy⟩
    · cases h1
    · injection h1 with h2 h3 h4
      injection h2 with h2
      injection h2 with h5 h6 h7
      subst h5; subst h6
      apply List.ext_getElem h3
      intro i h8 h9
      have e1 := hx i h8
      have e2 := hy i h9
      rw [e1] at e2
      simp [h8, h9] at e2
      omega
/-- the number that a value reads -/
noncomputable def numAt (w : World) (v : Value) : Nat := by
  classical exact if h : ∃ n, IsN w v n then Classical.choose h else 0
theorem numAt_of {w : World} {v : Value} {n : Nat} (h : IsN w v n) : numAt w v = n := by
  have hex : ∃ n, IsN w v n := ⟨n, h⟩
  rw [numAt, dif_pos hex]
  exact Nl.limbs_inj (at_inj (Classical.choose_spec hex) h)

theorem three_start {q F r A M low m S n : Nat} (h1 : q * F + r = A) (hm : m = A * M + low) (hn : n = F * M + S) : q * n + (low + M * r) = m + q * S := by
  rw [hm, hn, ← h1, Nat.mul_add, Nat.add_mul, Nat.mul_assoc q F M, Nat.mul_comm r M]
  omega
theorem three_less {q n r m t : Nat} (hi : q * n + r = m + t) (hlt : r < t) (_hn : 0 < n) : 1 ≤ q ∧ (q - 1) * n + (r + n) = m + t ∧ r + n < t + n := by
  have hq : 1 ≤ q := by
    apply Classical.byContradiction
    intro h
    rw [show q = 0 by omega, Nat.zero_mul] at hi
    omega
  obtain ⟨p, rfl⟩ : ∃ p, q = p + 1 := ⟨q - 1, by omega⟩
  rw [Nat.add_mul, Nat.one_mul] at hi
  exact ⟨hq, by rw [Nat.add_sub_cancel]; omega, by omega⟩
theorem three_end {q n r m t : Nat} (hi : q * n + r = m + t) (hge : ¬ r < t) (hb : r < t + n) : q = m / n ∧ r - t = m % n := by
  have e : m = n * q + (r - t) := by rw [Nat.mul_comm]; omega
  have hl : r - t < n := by omega
  constructor
  · rw [e, Nat.mul_add_div (by omega), Nat.div_eq_of_lt hl, Nat.add_zero]
  · rw [e, Nat.mul_add_mod, Nat.mod_eq_of_lt hl]
/-- a division of two parts by one, of h words, by the closure -/
def TwoOk (p : Nat → Prop) (C T h : Nat) (w : World) : Prop := ∀ (va vb : Value) (m n : Nat) (w' : World), Below w.heap.size w w' → AtP p w' va (Nl.limbs m) → AtP p w' vb (Nl.limbs n) → n < 4294967296 ^ h → 4294967296 ^ h ≤ 2 * n → m < n * 4294967296 ^ h →
    Calls Tryz.prog 251 #[va, vb, .int .i64 h, .pointer (some ⟨C, 0, none⟩), .pointer (some ⟨T, 0, none⟩)] w' fun e w'' => DivIn p w' w'' e m n
theorem TwoOk.below {p : Nat → Prop} {C T h : Nat} {w w1 : World} (k : TwoOk p C T h w) (hb : Below w.heap.size w w1) : TwoOk p C T h w1 :=
  fun va vb m n w' h1 => k va vb m n w' (hb.trans (h1.mono hb.size))
/-- the parts of a divisor and of what is divided -/
theorem three_parts {m n h M : Nat} (h1 : 1 ≤ h) (hM : M = 4294967296 ^ h) (hn1 : n < 4294967296 ^ (2 * h)) (hn2 : 4294967296 ^ (2 * h) ≤ 2 * n) (hm : m < n * M) :
    n / M < M ∧ M ≤ 2 * (n / M) ∧ n % M < M ∧ m % M < M ∧ m / M < n ∧ n = n / M * M + n % M ∧ m = m / M * M + m % M ∧ m / 4294967296 ^ (2 * h) = m / M / M ∧ 2 ≤ M := by
  have hMM : 4294967296 ^ (2 * h) = M * M := by rw [hM, ← Nat.pow_add]; congr 1; omega
  rw [hMM] at hn1 hn2 ⊢
  have hMp : 2 ≤ M := by
    rw [hM]
    exact Nat.le_trans (by decide) (Nl.pow_le h1)
  have hev : ∃ k, M = 2 * k := by
    obtain ⟨j, rfl⟩ : ∃ j, h = j + 1 := ⟨h - 1, by omega⟩
    exact ⟨4294967296 ^ j * 2147483648, by rw [hM, Nat.pow_succ]; omega⟩
  obtain ⟨k, hk⟩ := hev
  have hS := Nat.mod_lt n (show 0 < M by omega)
  have hl := Nat.mod_lt m (show 0 < M by omega)
  have hd := Nat.div_add_mod n M
  have hd2 := Nat.div_add_mod m M
  refine ⟨Nat.div_lt_of_lt_mul hn1, ?_, hS, hl, Nat.div_lt_of_lt_mul (by rw [Nat.mul_comm]; exact hm), by rw [Nat.mul_comm]; exact hd.symm, by rw [Nat.mul_comm]; exact hd2.symm, by rw [Nat.div_div_eq_div_mul], hMp⟩
  apply Classical.byContradiction
  intro hc
  have h3 : 2 * (n / M) + 2 ≤ M := by omega
  have h4 := Nat.mul_le_mul_left M h3
  rw [Nat.mul_add, Nat.mul_left_comm M 2 (n / M)] at h4
  omega

set_option maxRecDepth 10000 in
set_option maxHeartbeats 2000000 in
theorem threeByTwo_less (p : Nat → Prop) (va vb : Value) (m n h C T : Nat) (w : World) (hp : ∀ b, w.heap.size ≤ b → p b) (ha : AtP p w va (Nl.limbs m)) (hb : AtP p w vb (Nl.limbs n)) (hh : h ≤ 10000) (h1 : 1 ≤ h) (hn1 : n < 4294967296 ^ (2 * h)) (hn2 : 4294967296 ^ (2 * h) ≤ 2 * n)
    (hm : m < n * 4294967296 ^ h) (hf : TwoOk p C T h w) (hcase : m / 4294967296 ^ (2 * h) < n / 4294967296 ^ h) :
    Calls Tryz.prog 252 #[va, vb, .int .i64 h, .func (.func 251) #[] #[.pointer (some ⟨C, 0, none⟩), .pointer (some ⟨T, 0, none⟩)]] w fun e w' => DivIn p w w' e m n := by
  have HPP := Lib.hid hp
  clear hp
  obtain ⟨M, hM⟩ : ∃ M, M = 4294967296 ^ h := ⟨_, rfl⟩
  obtain ⟨pF, pF2, pS, pl, pA, pn, pm, pd, pM⟩ := three_parts h1 hM hn1 hn2 (by rw [hM]; exact hm)
  have hab := above_num p vb n h w hb (by omega)
  have hbl := below_num p vb n h w hb (by omega)
  have haa : Calls Tryz.prog 223 #[va, .int .i64 (2 * (h : Int))] w fun e w' => (∃ v, e = .returned v ∧ AtP p w' v (Nl.limbs (m / 4294967296 ^ (2 * h)))) ∧ w = w' := above_num p va m (2 * h) w ha (by omega)
  rw [pd] at haa hcase
  rw [← hM] at hab hbl hm hcase
  rw [Nat.div_lt_iff_lt_mul (show 0 < M by omega)] at hcase
  obtain ⟨F, hF⟩ : ∃ F, F = n / M := ⟨_, rfl⟩
  obtain ⟨S, hS⟩ : ∃ S, S = n % M := ⟨_, rfl⟩
  obtain ⟨A, hA⟩ : ∃ A, A = m / M := ⟨_, rfl⟩
  obtain ⟨low, hlow⟩ : ∃ l, l = m % M := ⟨_, rfl⟩
  rw [← hF] at hab pF pF2 pn hcase
  rw [← hS] at hbl pS pn
  rw [← hA] at haa pA pm hcase
  rw [← hlow] at pl pm
  have lenM : ∀ x, x < M → (Nl.limbs x).length ≤ h := fun x hx => Nl.limbs_lt (by rw [← hM]; exact hx)
  have lenN : ∀ x, x < n * M → (Nl.limbs x).length ≤ 3 * h := fun x hx => Nl.limbs_lt (Nat.lt_of_lt_of_le hx (by
    have : n * M ≤ 4294967296 ^ (2 * h) * 4294967296 ^ h := Nat.mul_le_mul (by omega) (by omega)
    rw [← Nat.pow_add] at this
    rw [show 3 * h = 2 * h + h by omega]
    exact this))
  have len2 : ∀ x, x < 4294967296 ^ (2 * h) → (Nl.limbs x).length ≤ 2 * h := fun x hx => Nl.limbs_lt hx
  have HA := Lib.hid ha
  have HB := Lib.hid hb
  have HAB := Lib.hid hab
  have HBL := Lib.hid hbl
  have HAA := Lib.hid haa
  have HM := Lib.hid hM
  have HP := Lib.hid (And.intro pF (And.intro pF2 (And.intro pS (And.intro pl (And.intro pA (And.intro pn (And.intro pm (And.intro pM (And.intro hn1 hm)))))))))
  have HLEN := Lib.hid (And.intro lenM (And.intro lenN len2))
  have HCASE := Lib.hid hcase
  have HTWO := Lib.hid hf
  have HE := Lib.hid (And.intro hA hlow)
  obtain ⟨a, ca, rfl, -⟩ := ha.form
  obtain ⟨b, cb, rfl, -⟩ := hb.form
  clear ha hb hab hbl haa hM pF pF2 pS pl pA pn pm pd pM hn1 hn2 hm hf hcase lenM lenN len2 hF hS hA hlow
  go_enter Tryz.func252, Tryz.ntmps252
  go_wp2_with fail
  refine HAB.out.mono ?_
  rintro e w' ⟨⟨vF, rfl, hvF⟩, rfl⟩
  have HVF := Lib.hid (show AtP p w vF (Nl.limbs F) from hvF)
  clear hvF HAB
  go_wp2_with fail
  refine HBL.out.mono ?_
  rintro e w' ⟨⟨vS, rfl, hvS⟩, rfl⟩
  have HVS := Lib.hid (show AtP p w vS (Nl.limbs S) from hvS)
  clear hvS HBL
  go_wp2_with fail
  refine HAA.out.mono ?_
  rintro e w' ⟨⟨v2, rfl, hv2⟩, rfl⟩
  have hc := compare_any v2 vF (A / M) F w hv2.at HVF.out.at
  rw [cmpI_lt (show A / M < F by rw [Nat.div_lt_iff_lt_mul (by have := HP.out.2.2.2.2.2.2.2.1; omega)]; exact HCASE.out)] at hc
  have HC := Lib.hid hc
  clear hv2 HAA hc
  go_wp2_with fail
  refine HC.out.mono ?_
  rintro e w' ⟨rfl, j, hj⟩
  have B1 := Lib.hid (show Below w.heap.size w w' by rw [hj]; exact below_drewN w j _)
  clear hj HC
  obtain ⟨w1, hw1⟩ : ∃ w1, w1 = w' := ⟨_, rfl⟩
  rw [← hw1] at B1 ⊢
  clear hw1
  have hah := above_num p _ m h w1 (HA.out.below B1.out) (by omega)
  rw [← HM.out, ← HE.out.1] at hah
  have HAH := Lib.hid hah
  clear hah
  go_wp2_with fail
  refine HAH.out.mono ?_
  rintro e w' ⟨⟨vA, rfl, hvA⟩, rfl⟩
  have HT2 := Lib.hid (HTWO.out vA vF A F w1 B1.out hvA (HVF.out.below B1.out) (by rw [← HM.out]; exact HP.out.1) (by rw [← HM.out]; exact HP.out.2.1) (by rw [← HM.out]; exact HCASE.out))
  clear hvA HAH
  go_wp2_with fail
  refine HT2.out.mono ?_
  rintro e w2 ⟨⟨vq, vr, rfl, hq, hr⟩, hb2⟩
  have HQR := Lib.hid (show ∃ q r, q * F + r = A ∧ q < M ∧ IsN w2 vq q ∧ AtP p w2 vr (Nl.limbs r) ∧ low + M * r < q * S + n from by
    have hFp : 0 < F := by have := HP.out.2.1; have := HP.out.2.2.2.2.2.2.2.1; omega
    refine ⟨_, _, by rw [Nat.mul_comm]; exact Nat.div_add_mod A F, Nat.div_lt_of_lt_mul HCASE.out, hq, hr, ?_⟩
    have h1 : M * (A % F + 1) ≤ M * F := Nat.mul_le_mul_left M (Nat.mod_lt A hFp)
    rw [Nat.mul_add, Nat.mul_one, Nat.mul_comm M F] at h1
    have h2 := HP.out.2.2.2.2.2.1
    have h3 := HP.out.2.2.2.1
    omega)
  have B2 := Lib.hid (B1.out.trans (hb2.mono B1.out.size))
  clear hq hr hb2 HT2
  obtain ⟨q0, r0, HQ1⟩ : ∃ q r, Hid (q * F + r = A ∧ q < M ∧ IsN w2 vq q ∧ AtP p w2 vr (Nl.limbs r) ∧ low + M * r < q * S + n) := HQR.out
  clear HQR
  have HI0 := Lib.hid (three_start HQ1.out.1 HP.out.2.2.2.2.2.2.1 HP.out.2.2.2.2.2.1)
  have hbm := below_num p _ m h w2 (HA.out.below B2.out) (by omega)
  rw [← HM.out, ← HE.out.2] at hbm
  have HBMM := Lib.hid hbm
  clear hbm
  go_wp2_with fail
  refine HBMM.out.mono ?_
  rintro e w' ⟨⟨vl, rfl, hvl⟩, rfl⟩
  have HJ := Lib.hid (joined_in p vr vl r0 low h w2 (fun b hb => HPP.out b (Nat.le_trans B2.out.size hb)) HQ1.out.2.2.2.1 hvl (by
    have h3 := HLEN.out.2.2 A (Nat.lt_trans HP.out.2.2.2.2.1 HP.out.2.2.2.2.2.2.2.2.1)
    have h4 := Nl.limbs_mono (show r0 ≤ A by have := HQ1.out.1; omega)
    omega) (by omega) (HLEN.out.1 low HP.out.2.2.2.1))
  clear hvl HBMM
  go_wp2_with fail
  refine HJ.out.mono ?_
  rintro e w3 ⟨⟨vrr, rfl, hrr⟩, hb3⟩
  rw [← HM.out] at hrr
  have HRR := Lib.hid hrr
  have B3 := Lib.hid (B2.out.trans (hb3.mono B2.out.size))
  have HQ3 := Lib.hid (HQ1.out.2.2.1.below hb3)
  clear hrr hb3 HJ
  have HTT := Lib.hid (times_any vq vS q0 S w3 HQ3.out (HVS.out.at.below B3.out) (by have := HLEN.out.1 q0 HQ1.out.2.1; omega) (by have := HLEN.out.1 S HP.out.2.2.1; omega))
  go_wp2_with fail
  refine HTT.out.mono ?_
  rintro e w4 ⟨⟨vt, rfl, ht⟩, hb4⟩
  have HT4 := Lib.hid (show AtP p w4 vt (Nl.limbs (q0 * S)) from ht.at.mono fun b _ h => HPP.out b (Nat.le_trans B3.out.size h))
  have HQ4 := Lib.hid (HQ3.out.below hb4)
  have HR4 := Lib.hid (HRR.out.below hb4)
  have B4 := Lib.hid (B3.out.trans (hb4.mono B3.out.size))
  have HI := Lib.hid (And.intro HI0.out (And.intro HQ1.out.2.2.2.2 HQ1.out.2.1))
  have HTB := Lib.hid (show q0 * S < 4294967296 ^ (2 * h) by
    have h5 := Nat.mul_lt_mul'' HQ1.out.2.1 HP.out.2.2.1
    rw [show 2 * h = h + h by omega, Nat.pow_add, ← HM.out]
    exact h5)
  clear ht hb4 HTT HQ3 HRR HI0 HQ1
  obtain ⟨t, hte⟩ : ∃ t, t = q0 * S := ⟨_, rfl⟩
  rw [← hte] at HT4 HI HTB
  clear hte
  go_wp2_with fail
  go_loopw [8, 9] (fun q r wr => ∃ (qq rr : Nat), Hid (IsN wr q qq) ∧ Hid (AtP p wr r (Nl.limbs rr)) ∧ Hid (AtP p wr vt (Nl.limbs t)) ∧ Hid (Below w.heap.size w wr) ∧ Hid (qq * n + rr = m + t) ∧ Hid (rr < t + n) ∧ Hid (qq < M)) (fun q _ wr => numAt wr q)
  case atStart => exact ⟨q0, _, HQ4, HR4, HT4, B4, HI.out.1, HI.out.2.1, HI.out.2.2⟩
  case round =>
    obtain ⟨qq, rr, hq, hr, ht, hbel, hi, hlt, hqM⟩ := hrel
    have hc := compare_any _ _ rr t _ hr.out.at ht.out.at
    have hnp : 0 < n := by
      have h5 := HP.out.2.2.2.2.1
      omega
    by_cases hltt : rr < t
    · rw [cmpI_lt hltt] at hc
      have HC := Lib.hid hc
      have HL := Lib.hid (three_less hi.out hltt hnp)
      have HLT := Lib.hid hltt
      clear hc hltt hi hlt
      go_wp2_with fail
      refine HC.out.mono ?_
      rintro e w5 ⟨rfl, j, hj⟩
      have B5 := Lib.hid (show Below wr.heap.size wr w5 by rw [hj]; exact below_drewN wr j _)
      clear hj HC
      have hone : Calls Tryz.prog 232 #[.int .u32 1] w5 fun e w' => (∃ v, e = .returned v ∧ Own w5.heap.size w' v (Nl.limbs 1)) ∧ Below w5.heap.size w5 w' := wordOf_num 1 w5 (by decide)
      have HONE := Lib.hid hone
      clear hone
      go_wp2_with fail
      refine HONE.out.mono ?_
      rintro e w6 ⟨⟨v1, rfl, hv1⟩, hb6⟩
      have B6 := Lib.hid (B5.out.trans (hb6.mono B5.out.size))
      have HMI := Lib.hid (minus_any _ v1 qq 1 w6 (hq.out.below B6.out) hv1.at.at (by have := HLEN.out.1 qq hqM.out; omega) HL.out.1)
      clear hv1 hb6 HONE B5
      go_wp2_with fail
      refine HMI.out.mono ?_
      rintro e w7 ⟨⟨vq1, rfl, hvq1⟩, hb7⟩
      have B7 := Lib.hid (B6.out.trans (hb7.mono B6.out.size))
      have HQ7 := Lib.hid hvq1
      have B7w := Lib.hid (hbel.out.trans (B7.out.mono hbel.out.size))
      have HPL := Lib.hid (plus_in p _ _ rr n w7 (fun b hb => HPP.out b (Nat.le_trans B7w.out.size hb)) (hr.out.below B7.out) (HB.out.below B7w.out) (by have := HLEN.out.2.2 rr (Nat.lt_trans HLT.out HTB.out); omega) (by have := HLEN.out.2.2 n HP.out.2.2.2.2.2.2.2.2.1; omega))
      clear hvq1 hb7 HMI B6
      go_wp2_with fail
      refine HPL.out.mono ?_
      rintro e w8 ⟨⟨vr1, rfl, hvr1⟩, hb8⟩
      have HR8 := Lib.hid hvr1
      have HQ8 := Lib.hid (HQ7.out.below hb8)
      have B8 := Lib.hid (B7.out.trans (hb8.mono B7.out.size))
      have B8w := Lib.hid (B7w.out.trans (hb8.mono B7w.out.size))
      clear hvr1 hb8 HPL HQ7 B7 B7w
      go_wp2_with fail
      go_roundw
      case rel => exact ⟨qq - 1, rr + n, HQ8.out, HR8.out, ht.out.below B8.out, B8w.out, HL.out.2.1, HL.out.2.2, by rw [Hid]; have := hqM.out; omega⟩
      case measure =>
        have e1 := numAt_of HQ8.out
        have e2 := numAt_of hq.out
        have e3 := HL.out.1
        first
          | (show numAt w8 vq1 < numAt wr _; rw [e1, e2]; omega)
          | (simp only [e1, e2]; omega)
          | (simp [e1, e2]; omega)
    · obtain ⟨c, hcc⟩ : ∃ c, cmpI (rr : Int) (t : Int) = c := ⟨_, rfl⟩
      have hc0 : ¬ (c < 0) := by
        rw [← hcc]
        rcases Nat.lt_or_eq_of_le (Nat.le_of_not_lt hltt) with h | h
        · rw [cmpI_gt h]; omega
        · rw [h, cmpI_eq]; omega
      rw [hcc] at hc
      have HC := Lib.hid hc
      have HEND := Lib.hid (three_end hi.out hltt hlt.out)
      have hlr : (Nl.limbs rr).length ≤ 1000000 := by
        have h5 := hlt.out
        have h6 := HTB.out
        have h7 := HP.out.2.2.2.2.2.2.2.2.1
        have h8 : rr < 4294967296 ^ (2 * h + 1) := by rw [Nat.pow_succ]; omega
        have h9 := Nl.limbs_lt h8
        omega
      have HLR := Lib.hid (And.intro hlr hltt)
      clear hc hcc hltt hi hlt hlr
      go_wp2_with fail
      refine HC.out.mono ?_
      rintro e w5 ⟨rfl, j, hj⟩
      have B5 := Lib.hid (show Below wr.heap.size wr w5 by rw [hj]; exact below_drewN wr j _)
      clear hj HC
      have HMI := Lib.hid (minus_in p _ _ rr t w5 (fun b hb => HPP.out b (Nat.le_trans hbel.out.size (Nat.le_trans B5.out.size hb))) (hr.out.below B5.out) (ht.out.below B5.out) HLR.out.1 (Nat.le_of_not_lt HLR.out.2))
      have HQ5 := Lib.hid (hq.out.below B5.out)
      have B5w := Lib.hid (hbel.out.trans (B5.out.mono hbel.out.size))
      go_wp2_with fail
      refine HMI.out.mono ?_
      rintro e w6 ⟨⟨vx, rfl, hx⟩, hb6⟩
      have HX := Lib.hid hx
      have HB6 := Lib.hid hb6
      clear hx hb6 HMI
      go_wp2_with fail
      go_ret2
      refine ⟨⟨_, _, rfl, ?_, ?_⟩, B5w.out.trans (HB6.out.mono B5w.out.size)⟩
      · rw [← HEND.out.1]; exact HQ5.out.below HB6.out
      · rw [← HEND.out.2]; exact HX.out

set_option maxRecDepth 10000 in
set_option maxHeartbeats 2000000 in
theorem threeByTwo_more (p : Nat → Prop) (va vb : Value) (m n h C T : Nat) (w : World) (hp : ∀ b, w.heap.size ≤ b → p b) (ha : AtP p w va (Nl.limbs m)) (hb : AtP p w vb (Nl.limbs n)) (hh : h ≤ 10000) (h1 : 1 ≤ h) (hn1 : n < 4294967296 ^ (2 * h)) (hn2 : 4294967296 ^ (2 * h) ≤ 2 * n)
    (hm : m < n * 4294967296 ^ h) (hf : TwoOk p C T h w) (hcase : ¬ m / 4294967296 ^ (2 * h) < n / 4294967296 ^ h) :
    Calls Tryz.prog 252 #[va, vb, .int .i64 h, .func (.func 251) #[] #[.pointer (some ⟨C, 0, none⟩), .pointer (some ⟨T, 0, none⟩)]] w fun e w' => DivIn p w w' e m n := by
  have HPP := Lib.hid hp
  clear hp
  obtain ⟨M, hM⟩ : ∃ M, M = 4294967296 ^ h := ⟨_, rfl⟩
  obtain ⟨pF, pF2, pS, pl, pA, pn, pm, pd, pM⟩ := three_parts h1 hM hn1 hn2 (by rw [hM]; exact hm)
  have hab := above_num p vb n h w hb (by omega)
  have hbl := below_num p vb n h w hb (by omega)
  have haa : Calls Tryz.prog 223 #[va, .int .i64 (2 * (h : Int))] w fun e w' => (∃ v, e = .returned v ∧ AtP p w' v (Nl.limbs (m / 4294967296 ^ (2 * h)))) ∧ w = w' := above_num p va m (2 * h) w ha (by omega)
  rw [pd] at haa hcase
  rw [← hM] at hab hbl hm hcase
  rw [Nat.div_lt_iff_lt_mul (show 0 < M by omega)] at hcase
  obtain ⟨F, hF⟩ : ∃ F, F = n / M := ⟨_, rfl⟩
  obtain ⟨S, hS⟩ : ∃ S, S = n % M := ⟨_, rfl⟩
  obtain ⟨A, hA⟩ : ∃ A, A = m / M := ⟨_, rfl⟩
  obtain ⟨low, hlow⟩ : ∃ l, l = m % M := ⟨_, rfl⟩
  rw [← hF] at hab pF pF2 pn hcase
  rw [← hS] at hbl pS pn
  rw [← hA] at haa pA pm hcase
  rw [← hlow] at pl pm
  have lenM : ∀ x, x < M → (Nl.limbs x).length ≤ h := fun x hx => Nl.limbs_lt (by rw [← hM]; exact hx)
  have lenN : ∀ x, x < n * M → (Nl.limbs x).length ≤ 3 * h := fun x hx => Nl.limbs_lt (Nat.lt_of_lt_of_le hx (by
    have : n * M ≤ 4294967296 ^ (2 * h) * 4294967296 ^ h := Nat.mul_le_mul (by omega) (by omega)
    rw [← Nat.pow_add] at this
    rw [show 3 * h = 2 * h + h by omega]
    exact this))
  have len2 : ∀ x, x < 4294967296 ^ (2 * h) → (Nl.limbs x).length ≤ 2 * h := fun x hx => Nl.limbs_lt hx
  have HA := Lib.hid ha
  have HB := Lib.hid hb
  have HAB := Lib.hid hab
  have HBL := Lib.hid hbl
  have HAA := Lib.hid haa
  have HM := Lib.hid hM
  have HP := Lib.hid (And.intro pF (And.intro pF2 (And.intro pS (And.intro pl (And.intro pA (And.intro pn (And.intro pm (And.intro pM (And.intro hn1 hm)))))))))
  have HLEN := Lib.hid (And.intro lenM (And.intro lenN len2))
  have HCASE := Lib.hid hcase
  have HTWO := Lib.hid hf
  have HE := Lib.hid (And.intro hA hlow)
  obtain ⟨a, ca, rfl, -⟩ := ha.form
  obtain ⟨b, cb, rfl, -⟩ := hb.form
  clear ha hb hab hbl haa hM pF pF2 pS pl pA pn pm pd pM hn1 hn2 hm hf hcase lenM lenN len2 hF hS hA hlow
  go_enter Tryz.func252, Tryz.ntmps252
  go_wp2_with fail
  refine HAB.out.mono ?_
  rintro e w' ⟨⟨vF, rfl, hvF⟩, rfl⟩
  have HVF := Lib.hid (show AtP p w vF (Nl.limbs F) from hvF)
  clear hvF HAB
  go_wp2_with fail
  refine HBL.out.mono ?_
  rintro e w' ⟨⟨vS, rfl, hvS⟩, rfl⟩
  have HVS := Lib.hid (show AtP p w vS (Nl.limbs S) from hvS)
  clear hvS HBL
  go_wp2_with fail
  refine HAA.out.mono ?_
  rintro e w' ⟨⟨v2, rfl, hv2⟩, rfl⟩
  have hc := compare_any v2 vF (A / M) F w hv2.at HVF.out.at
  obtain ⟨c, hcc⟩ : ∃ c, cmpI ((A / M : Nat) : Int) (F : Int) = c := ⟨_, rfl⟩
  have hc0 : ¬ (c < 0) := by
    rw [← hcc]
    have h5 : F ≤ A / M := by
      rw [Nat.le_div_iff_mul_le (by have := HP.out.2.2.2.2.2.2.2.1; omega)]
      exact Nat.le_of_not_lt HCASE.out
    rcases Nat.lt_or_eq_of_le h5 with h | h
    · rw [cmpI_gt h]; omega
    · rw [h, cmpI_eq]; omega
  rw [hcc] at hc
  clear hcc
  have HC := Lib.hid hc
  clear hv2 HAA hc
  go_wp2_with fail
  refine HC.out.mono ?_
  rintro e w' ⟨rfl, j, hj⟩
  have B1 := Lib.hid (show Below w.heap.size w w' by rw [hj]; exact below_drewN w j _)
  clear hj HC
  obtain ⟨w1, hw1⟩ : ∃ w1, w1 = w' := ⟨_, rfl⟩
  rw [← hw1] at B1 ⊢
  clear hw1
  have hah := above_num p _ m h w1 (HA.out.below B1.out) (by omega)
  rw [← HM.out, ← HE.out.1] at hah
  have HAH := Lib.hid hah
  clear hah
  have hone : ∀ w0 : World, Calls Tryz.prog 232 #[.int .u32 1] w0 fun e w' => (∃ v, e = .returned v ∧ Own w0.heap.size w' v (Nl.limbs 1)) ∧ Below w0.heap.size w0 w' := fun w0 => wordOf_num 1 w0 (by decide)
  have HONE := Lib.hid hone
  clear hone
  go_wp2_with fail
  refine (HONE.out _).mono ?_
  rintro e w2 ⟨⟨v1, rfl, hv1⟩, hb2⟩
  have B2 := Lib.hid (B1.out.trans (hb2.mono B1.out.size))
  have hsl : Calls Tryz.prog 172 #[v1, .int .i64 (32 * (h : Int))] w2 fun e w' => (∃ v, e = .returned v ∧ IsN w' v (1 * 2 ^ (32 * h))) ∧ Below w2.heap.size w2 w' := shiftedLeft_any v1 1 (32 * h) w2 hv1.at.at (by rw [limbs_one (by decide) (by decide)]; simp) (by omega)
  rw [Nat.one_mul, ← pow32, ← HM.out] at hsl
  have HSL := Lib.hid hsl
  have B12 := Lib.hid hb2
  clear hv1 hb2 hsl
  go_wp2_with fail
  refine HSL.out.mono ?_
  rintro e w3 ⟨⟨v3, rfl, hv3⟩, hb3⟩
  have HV3 := Lib.hid hv3
  have B3 := Lib.hid (B2.out.trans (hb3.mono B2.out.size))
  have B13 := Lib.hid (B12.out.trans (hb3.mono B12.out.size))
  clear hv3 hb3 HSL B2 B12
  go_wp2_with fail
  refine (HONE.out _).mono ?_
  rintro e w4 ⟨⟨v4, rfl, hv4⟩, hb4⟩
  have B4 := Lib.hid (B3.out.trans (hb4.mono B3.out.size))
  have B14 := Lib.hid (B13.out.trans (hb4.mono B13.out.size))
  have HMI := Lib.hid (minus_any v3 v4 M 1 w4 (HV3.out.below hb4) hv4.at.at (by
    have h5 := Nl.limbs_lt (show M < 4294967296 ^ (h + 1) by rw [HM.out, Nat.pow_succ]; have := Nat.pow_pos (n := h) (show 0 < 4294967296 by decide); omega)
    omega) (by have := HP.out.2.2.2.2.2.2.2.1; omega))
  clear hv4 hb4 B3 B13 HV3
  go_wp2_with fail
  refine HMI.out.mono ?_
  rintro e w5 ⟨⟨vq, rfl, hq⟩, hb5⟩
  have HQ := Lib.hid hq
  have B5 := Lib.hid (B4.out.trans (hb5.mono B4.out.size))
  have B15 := Lib.hid (B14.out.trans (hb5.mono B14.out.size))
  clear hq hb5 HMI B4 B14 HAH
  have hah := above_num p _ m h w5 (HA.out.below B5.out) (by omega)
  rw [← HM.out, ← HE.out.1] at hah
  have HAH := Lib.hid hah
  clear hah
  go_wp2_with fail
  refine HAH.out.mono ?_
  rintro e w' ⟨⟨vA, rfl, hvA⟩, rfl⟩
  have HVA := Lib.hid (show AtP p w5 vA (Nl.limbs A) from hvA)
  have HTM := Lib.hid (times_any vq vF (M - 1) F w5 HQ.out (HVF.out.at.below B5.out) (by have := HLEN.out.1 (M - 1) (by have := HP.out.2.2.2.2.2.2.2.1; omega); omega) (by have := HLEN.out.1 F HP.out.1; omega))
  clear hvA HAH
  go_wp2_with fail
  refine HTM.out.mono ?_
  rintro e w6 ⟨⟨vp, rfl, hp⟩, hb6⟩
  have HVP := Lib.hid (show AtP p w6 vp (Nl.limbs ((M - 1) * F)) from hp.at.mono fun b _ h => HPP.out b (Nat.le_trans B5.out.size h))
  have HQ6 := Lib.hid (HQ.out.below hb6)
  have HVA6 := Lib.hid (HVA.out.below hb6)
  have B6 := Lib.hid (B5.out.trans (hb6.mono B5.out.size))
  have hle : (M - 1) * F ≤ A := by
    have h5 : (M - 1) * F ≤ M * F := Nat.mul_le_mul_right F (by omega)
    rw [Nat.mul_comm M F] at h5
    exact Nat.le_trans h5 (Nat.le_of_not_lt HCASE.out)
  have HLE := Lib.hid hle
  have HMI := Lib.hid (minus_in p vA vp A ((M - 1) * F) w6 (fun b hb => HPP.out b (Nat.le_trans B6.out.size hb)) HVA6.out HVP.out (by
    have h3 := HLEN.out.2.2 A (Nat.lt_trans HP.out.2.2.2.2.1 HP.out.2.2.2.2.2.2.2.2.1)
    omega) hle)
  clear hp hb6 HTM HQ HVA hle B5
  go_wp2_with fail
  refine HMI.out.mono ?_
  rintro e w7 ⟨⟨vr, rfl, hr⟩, hb7⟩
  have HR7 := Lib.hid hr
  have HQ7 := Lib.hid (HQ6.out.below hb7)
  have B7 := Lib.hid (B6.out.trans (hb7.mono B6.out.size))
  clear hr hb7 HMI HQ6 B6
  obtain ⟨w2, hw2⟩ : ∃ w2, w2 = w7 := ⟨_, rfl⟩
  rw [← hw2] at HR7 HQ7 B7 ⊢
  clear hw2
  have HQR := Lib.hid (show ∃ q r, q * F + r = A ∧ q < M ∧ IsN w2 vq q ∧ AtP p w2 vr (Nl.limbs r) ∧ low + M * r < q * S + n from by
    have h2 := HP.out.2.2.2.2.2.2.2.1
    have h6 : (M - 1) * F + (A - (M - 1) * F) = A := by have := HLE.out; omega
    refine ⟨M - 1, A - (M - 1) * F, h6, by omega, HQ7.out, HR7.out, ?_⟩
    have h7 := three_start h6 HP.out.2.2.2.2.2.2.1 HP.out.2.2.2.2.2.1
    have h8 := HP.out.2.2.2.2.2.2.2.2.2
    have h9 : n * M = (M - 1) * n + n := by
      obtain ⟨k, rfl⟩ : ∃ k, M = k + 1 := ⟨M - 1, by omega⟩
      rw [Nat.add_sub_cancel, Nat.mul_add, Nat.mul_one, Nat.mul_comm]
    omega)
  have B2 := B7
  clear HR7 HQ7
  obtain ⟨q0, r0, HQ1⟩ : ∃ q r, Hid (q * F + r = A ∧ q < M ∧ IsN w2 vq q ∧ AtP p w2 vr (Nl.limbs r) ∧ low + M * r < q * S + n) := HQR.out
  clear HQR
  have HI0 := Lib.hid (three_start HQ1.out.1 HP.out.2.2.2.2.2.2.1 HP.out.2.2.2.2.2.1)
  have hbm := below_num p _ m h w2 (HA.out.below B2.out) (by omega)
  rw [← HM.out, ← HE.out.2] at hbm
  have HBMM := Lib.hid hbm
  clear hbm
  go_wp2_with fail
  refine HBMM.out.mono ?_
  rintro e w' ⟨⟨vl, rfl, hvl⟩, rfl⟩
  have HJ := Lib.hid (joined_in p vr vl r0 low h w2 (fun b hb => HPP.out b (Nat.le_trans B2.out.size hb)) HQ1.out.2.2.2.1 hvl (by
    have h3 := HLEN.out.2.2 A (Nat.lt_trans HP.out.2.2.2.2.1 HP.out.2.2.2.2.2.2.2.2.1)
    have h4 := Nl.limbs_mono (show r0 ≤ A by have := HQ1.out.1; omega)
    omega) (by omega) (HLEN.out.1 low HP.out.2.2.2.1))
  clear hvl HBMM
  go_wp2_with fail
  refine HJ.out.mono ?_
  rintro e w3 ⟨⟨vrr, rfl, hrr⟩, hb3⟩
  rw [← HM.out] at hrr
  have HRR := Lib.hid hrr
  have B3 := Lib.hid (B2.out.trans (hb3.mono B2.out.size))
  have HQ3 := Lib.hid (HQ1.out.2.2.1.below hb3)
  clear hrr hb3 HJ
  have HTT := Lib.hid (times_any vq vS q0 S w3 HQ3.out (HVS.out.at.below B3.out) (by have := HLEN.out.1 q0 HQ1.out.2.1; omega) (by have := HLEN.out.1 S HP.out.2.2.1; omega))
  go_wp2_with fail
  refine HTT.out.mono ?_
  rintro e w4 ⟨⟨vt, rfl, ht⟩, hb4⟩
  have HT4 := Lib.hid (show AtP p w4 vt (Nl.limbs (q0 * S)) from ht.at.mono fun b _ h => HPP.out b (Nat.le_trans B3.out.size h))
  have HQ4 := Lib.hid (HQ3.out.below hb4)
  have HR4 := Lib.hid (HRR.out.below hb4)
  have B4 := Lib.hid (B3.out.trans (hb4.mono B3.out.size))
  have HI := Lib.hid (And.intro HI0.out (And.intro HQ1.out.2.2.2.2 HQ1.out.2.1))
  have HTB := Lib.hid (show q0 * S < 4294967296 ^ (2 * h) by
    have h5 := Nat.mul_lt_mul'' HQ1.out.2.1 HP.out.2.2.1
    rw [show 2 * h = h + h by omega, Nat.pow_add, ← HM.out]
    exact h5)
  clear ht hb4 HTT HQ3 HRR HI0 HQ1
  obtain ⟨t, hte⟩ : ∃ t, t = q0 * S := ⟨_, rfl⟩
  rw [← hte] at HT4 HI HTB
  clear hte
  go_wp2_with fail
  go_loopw [8, 9] (fun q r wr => ∃ (qq rr : Nat), Hid (IsN wr q qq) ∧ Hid (AtP p wr r (Nl.limbs rr)) ∧ Hid (AtP p wr vt (Nl.limbs t)) ∧ Hid (Below w.heap.size w wr) ∧ Hid (qq * n + rr = m + t) ∧ Hid (rr < t + n) ∧ Hid (qq < M)) (fun q _ wr => numAt wr q)
  case atStart => exact ⟨q0, _, HQ4, HR4, HT4, B4, HI.out.1, HI.out.2.1, HI.out.2.2⟩
  case round =>
    obtain ⟨qq, rr, hq, hr, ht, hbel, hi, hlt, hqM⟩ := hrel
    have hc := compare_any _ _ rr t _ hr.out.at ht.out.at
    have hnp : 0 < n := by
      have h5 := HP.out.2.2.2.2.1
      omega
    by_cases hltt : rr < t
    · rw [cmpI_lt hltt] at hc
      have HC := Lib.hid hc
      have HL := Lib.hid (three_less hi.out hltt hnp)
      have HLT := Lib.hid hltt
      clear hc hltt hi hlt
      go_wp2_with fail
      refine HC.out.mono ?_
      rintro e w5 ⟨rfl, j, hj⟩
      have B5 := Lib.hid (show Below wr.heap.size wr w5 by rw [hj]; exact below_drewN wr j _)
      clear hj HC
      have hone : Calls Tryz.prog 232 #[.int .u32 1] w5 fun e w' => (∃ v, e = .returned v ∧ Own w5.heap.size w' v (Nl.limbs 1)) ∧ Below w5.heap.size w5 w' := wordOf_num 1 w5 (by decide)
      have HONE := Lib.hid hone
      clear hone
      go_wp2_with fail
      refine HONE.out.mono ?_
      rintro e w6 ⟨⟨v1, rfl, hv1⟩, hb6⟩
      have B6 := Lib.hid (B5.out.trans (hb6.mono B5.out.size))
      have HMI := Lib.hid (minus_any _ v1 qq 1 w6 (hq.out.below B6.out) hv1.at.at (by have := HLEN.out.1 qq hqM.out; omega) HL.out.1)
      clear hv1 hb6 HONE B5
      go_wp2_with fail
      refine HMI.out.mono ?_
      rintro e w7 ⟨⟨vq1, rfl, hvq1⟩, hb7⟩
      have B7 := Lib.hid (B6.out.trans (hb7.mono B6.out.size))
      have HQ7 := Lib.hid hvq1
      have B7w := Lib.hid (hbel.out.trans (B7.out.mono hbel.out.size))
      have HPL := Lib.hid (plus_in p _ _ rr n w7 (fun b hb => HPP.out b (Nat.le_trans B7w.out.size hb)) (hr.out.below B7.out) (HB.out.below B7w.out) (by have := HLEN.out.2.2 rr (Nat.lt_trans HLT.out HTB.out); omega) (by have := HLEN.out.2.2 n HP.out.2.2.2.2.2.2.2.2.1; omega))
      clear hvq1 hb7 HMI B6
      go_wp2_with fail
      refine HPL.out.mono ?_
      rintro e w8 ⟨⟨vr1, rfl, hvr1⟩, hb8⟩
      have HR8 := Lib.hid hvr1
      have HQ8 := Lib.hid (HQ7.out.below hb8)
      have B8 := Lib.hid (B7.out.trans (hb8.mono B7.out.size))
      have B8w := Lib.hid (B7w.out.trans (hb8.mono B7w.out.size))
      clear hvr1 hb8 HPL HQ7 B7 B7w
      go_wp2_with fail
      go_roundw
      case rel => exact ⟨qq - 1, rr + n, HQ8.out, HR8.out, ht.out.below B8.out, B8w.out, HL.out.2.1, HL.out.2.2, by rw [Hid]; have := hqM.out; omega⟩
      case measure =>
        have e1 := numAt_of HQ8.out
        have e2 := numAt_of hq.out
        have e3 := HL.out.1
        first
          | (show numAt w8 vq1 < numAt wr _; rw [e1, e2]; omega)
          | (simp only [e1, e2]; omega)
          | (simp [e1, e2]; omega)
    · obtain ⟨c, hcc⟩ : ∃ c, cmpI (rr : Int) (t : Int) = c := ⟨_, rfl⟩
      have hc0 : ¬ (c < 0) := by
        rw [← hcc]
        rcases Nat.lt_or_eq_of_le (Nat.le_of_not_lt hltt) with h | h
        · rw [cmpI_gt h]; omega
        · rw [h, cmpI_eq]; omega
      rw [hcc] at hc
      have HC := Lib.hid hc
      have HEND := Lib.hid (three_end hi.out hltt hlt.out)
      have hlr : (Nl.limbs rr).length ≤ 1000000 := by
        have h5 := hlt.out
        have h6 := HTB.out
        have h7 := HP.out.2.2.2.2.2.2.2.2.1
        have h8 : rr < 4294967296 ^ (2 * h + 1) := by rw [Nat.pow_succ]; omega
        have h9 := Nl.limbs_lt h8
        omega
      have HLR := Lib.hid (And.intro hlr hltt)
      clear hc hcc hltt hi hlt hlr
      go_wp2_with fail
      refine HC.out.mono ?_
      rintro e w5 ⟨rfl, j, hj⟩
      have B5 := Lib.hid (show Below wr.heap.size wr w5 by rw [hj]; exact below_drewN wr j _)
      clear hj HC
      have HMI := Lib.hid (minus_in p _ _ rr t w5 (fun b hb => HPP.out b (Nat.le_trans hbel.out.size (Nat.le_trans B5.out.size hb))) (hr.out.below B5.out) (ht.out.below B5.out) HLR.out.1 (Nat.le_of_not_lt HLR.out.2))
      have HQ5 := Lib.hid (hq.out.below B5.out)
      have B5w := Lib.hid (hbel.out.trans (B5.out.mono hbel.out.size))
      go_wp2_with fail
      refine HMI.out.mono ?_
      rintro e w6 ⟨⟨vx, rfl, hx⟩, hb6⟩
      have HX := Lib.hid hx
      have HB6 := Lib.hid hb6
      clear hx hb6 HMI
      go_wp2_with fail
      go_ret2
      refine ⟨⟨_, _, rfl, ?_, ?_⟩, B5w.out.trans (HB6.out.mono B5w.out.size)⟩
      · rw [← HEND.out.1]; exact HQ5.out.below HB6.out
      · rw [← HEND.out.2]; exact HX.out

theorem threeByTwo_any (p : Nat → Prop) (va vb : Value) (m n h C T : Nat) (w : World) (hp : ∀ b, w.heap.size ≤ b → p b) (ha : AtP p w va (Nl.limbs m)) (hb : AtP p w vb (Nl.limbs n)) (hh : h ≤ 10000) (h1 : 1 ≤ h) (hn1 : n < 4294967296 ^ (2 * h)) (hn2 : 4294967296 ^ (2 * h) ≤ 2 * n)
    (hm : m < n * 4294967296 ^ h) (hf : TwoOk p C T h w) :
    Calls Tryz.prog 252 #[va, vb, .int .i64 h, .func (.func 251) #[] #[.pointer (some ⟨C, 0, none⟩), .pointer (some ⟨T, 0, none⟩)]] w fun e w' => DivIn p w w' e m n := by
  by_cases hc : m / 4294967296 ^ (2 * h) < n / 4294967296 ^ h
  · exact threeByTwo_less p va vb m n h C T w hp ha hb hh h1 hn1 hn2 hm hf hc
  · exact threeByTwo_more p va vb m n h C T w hp ha hb hh h1 hn1 hn2 hm hf hc
end Go.Proofs.YtkbghamkalidcaaGreat
