/-
  What the reference's Shr does. Conditions: those that each theorem names.
-/
import Derived.Test.YtfaledeidjmooaaGreatRefTrim
namespace Go.Proofs.YtfaledeidjmooaaGreat
open Go.RowKit

theorem ref_shr_word {hi lo r : Nat} (hr : r < 32) (hl : lo < 4294967296) :
    ((hi * 4294967296 + lo) / 2 ^ r) % 4294967296 = (hi % 2 ^ r) * 2 ^ (32 - r) + lo / 2 ^ r := by
  have e : (4294967296 : Nat) = 2 ^ r * 2 ^ (32 - r) := by
    rw [← Nat.pow_add, show r + (32 - r) = 32 by omega]
  have hp : 0 < 2 ^ r := Nat.two_pow_pos r
  obtain ⟨P, hP⟩ : ∃ P, P = 2 ^ r := ⟨_, rfl⟩
  obtain ⟨Q, hQ⟩ : ∃ Q, Q = 2 ^ (32 - r) := ⟨_, rfl⟩
  rw [← hP, ← hQ] at e
  rw [← hP] at hp
  rw [← hP, ← hQ]
  have h1 : (hi * 4294967296 + lo) / P = hi * Q + lo / P := by
    rw [show hi * 4294967296 = P * (hi * Q) by rw [e, Nat.mul_left_comm], Nat.mul_add_div hp]
  have h2 : lo / P < Q := by
    rw [Nat.div_lt_iff_lt_mul hp, Nat.mul_comm, ← e]; exact hl
  have h0 := Nat.div_add_mod hi P
  have h3 : hi * Q = 4294967296 * (hi / P) + hi % P * Q := by
    conv => lhs; rw [← h0]
    rw [Nat.add_mul, e]
    congr 1
    simp only [Nat.mul_comm, Nat.mul_left_comm]
  have h4 : hi % P < P := Nat.mod_lt _ hp
  have h5 : (hi % P + 1) * Q ≤ P * Q := Nat.mul_le_mul_right _ h4
  rw [← e, Nat.add_mul] at h5
  rw [h1, h3, Nat.add_assoc, Nat.mul_add_mod]
  apply Nat.mod_eq_of_lt
  omega

theorem ref_shr_next {z B hi lo V r : Nat} (hr : r < 32) (hl : lo < 4294967296) (hv : z + B * (lo / 2 ^ r) = V / 2 ^ r) :
    z + B * (((hi * 4294967296 + lo) / 2 ^ r) % 4294967296) + B * 4294967296 * (hi / 2 ^ r) = (V + B * 4294967296 * hi) / 2 ^ r := by
  rw [ref_shr_word hr hl]
  have e : (4294967296 : Nat) = 2 ^ r * 2 ^ (32 - r) := by
    rw [← Nat.pow_add, show r + (32 - r) = 32 by omega]
  have hp : 0 < 2 ^ r := Nat.two_pow_pos r
  obtain ⟨P, hP⟩ : ∃ P, P = 2 ^ r := ⟨_, rfl⟩
  obtain ⟨Q, hQ⟩ : ∃ Q, Q = 2 ^ (32 - r) := ⟨_, rfl⟩
  rw [← hP, ← hQ] at e
  rw [← hP] at hp hv
  rw [← hP, ← hQ]
  have h0 := Nat.div_add_mod hi P
  obtain ⟨d, hd⟩ : ∃ d, d = hi / P := ⟨_, rfl⟩
  obtain ⟨m, hm⟩ : ∃ m, m = hi % P := ⟨_, rfl⟩
  rw [← hd, ← hm] at h0
  rw [← hd, ← hm]
  rw [show B * 4294967296 * hi = P * (B * Q * hi) by rw [e]; simp only [Nat.mul_comm, Nat.mul_left_comm], Nat.add_mul_div_left _ _ hp, ← hv, ← h0, e]
  rw [Nat.mul_add, Nat.mul_add]
  have h1 : B * (m * Q) = B * Q * m := by simp only [Nat.mul_comm, Nat.mul_left_comm]
  have h2 : B * (P * Q) * d = B * Q * (P * d) := by simp only [Nat.mul_comm, Nat.mul_left_comm]
  rw [h1, h2]
  omega

theorem ref_shr_step {A zs : List Nat} {k r : Nat} (hr : r < 32) (hA : Nl.Small A) (hl : zs.length = k)
    (hv : Nl.val zs + 4294967296 ^ k * (A.getD k 0 / 2 ^ r) = Nl.val (A.take (k + 1)) / 2 ^ r) :
    Nl.val (zs ++ [((A.getD (k + 1) 0 * 4294967296 + A.getD k 0) / 2 ^ r) % 4294967296]) + 4294967296 ^ (k + 1) * (A.getD (k + 1) 0 / 2 ^ r) = Nl.val (A.take (k + 1 + 1)) / 2 ^ r := by
  rw [val_snoc, hl, Nl.val_take_next A (k + 1), Nat.pow_succ]
  exact ref_shr_next hr (hA.getD k) hv

theorem ref_shr_first {A : List Nat} {r : Nat} : Nl.val ([] : List Nat) + 4294967296 ^ 0 * (A.getD 0 0 / 2 ^ r) = Nl.val (A.take (0 + 1)) / 2 ^ r := by
  rw [Nl.val_take_next A 0]
  simp

set_option maxHeartbeats 2000000 in
theorem refShr_any (va : Value) (m n : Nat) (w : World) (ha : At w va (Nl.limbs m)) (hla : (Nl.limbs m).length ≤ 900000) (hn : n ≤ 9223372036854775807) :
    Calls Tryz.prog 40 #[va, .int .i64 n] w fun e w' => (∃ v, e = .returned v ∧ IsN w' v (m / 2 ^ n)) ∧ Below w.heap.size w w' := by
  obtain ⟨i0, hi, hz0, hz1, hz2⟩ := info_parts infoWord4
  have HI := Lib.hid (And.intro hi (And.intro hz0 (And.intro hz1 hz2)))
  have HA := Lib.hid ha
  obtain ⟨a, ca, rfl, -⟩ := ha.form
  clear ha hi hz0 hz1 hz2
  obtain ⟨q, hq⟩ : ∃ q, q = n / 32 := ⟨_, rfl⟩
  obtain ⟨r, hr⟩ : ∃ r, r = n % 32 := ⟨_, rfl⟩
  have hr32 : r < 32 := by omega
  have q1 : (n : Int) / 32 = (q : Int) := by omega
  have r1 : (n : Int) % 32 = (r : Int) := by omega
  have hqb : q ≤ 9223372036854775807 := by omega
  have HN := Lib.hid (show n = 32 * q + r from by omega)
  clear hq hr
  by_cases hql : (Nl.limbs m).length ≤ q
  · have e0 : decide ((Nl.limbs m).length ≤ q) = true := decide_eq_true hql
    have hz : m / 2 ^ n = 0 := by
      apply Nat.div_eq_of_lt
      refine Nat.lt_of_lt_of_le (Nl.lt_limbs m) ?_
      rw [pow32]
      exact Nat.pow_le_pow_right (by decide) (by rw [HN.out]; omega)
    rw [hz]
    clear hz hn
    go_enter Tryz.func40, Tryz.ntmps40
    go_wp2_with fail
    go_ret
    exact ⟨⟨_, rfl, .inl ⟨rfl, Nl.limbs_zero⟩⟩, Below.refl _ _⟩
  · have e0 : decide ((Nl.limbs m).length ≤ q) = false := decide_eq_false hql
    have hA : Nl.Small ((Nl.limbs m).drop q) := (Nl.limbs_small m).drop q
    have HS := Lib.hid hA
    obtain ⟨A, hAe⟩ : ∃ A, A = (Nl.limbs m).drop q := ⟨_, rfl⟩
    have HAE := Lib.hid hAe
    clear hA hAe hn
    go_enter Tryz.func40, Tryz.ntmps40
    go_wp2_with fail
    go_loopw [5, 6] (fun v i wr => ∃ (K k : Nat) (zs : List Nat), Hid (K = q + k) ∧ K ≤ (Nl.limbs m).length ∧ i = .int .i64 K ∧ zs.length = k ∧ Hid (Nl.Small zs) ∧ Hid (wr.ownsRow w.heap.size 59 1 v k (vals zs)) ∧ Hid (Below w.heap.size w wr) ∧
        Hid (Nl.val zs + 4294967296 ^ k * (A.getD k 0 / 2 ^ r) = Nl.val (A.take (k + 1)) / 2 ^ r)) (fun _ i _ => ((Nl.limbs m).length - (intOf i).toNat))
    case atStart => exact ⟨q, 0, [], rfl, by omega, rfl, rfl, Nl.small_nil, World.ownsRow_nil _ _ _ _, Below.refl _ _, ref_shr_first⟩
    case round =>
      obtain ⟨K, k, zs, HKK, hK, rfl, hlz, hsm, ho, hbel, hv⟩ := hrel
      have hkm : k ≤ K := by have := HKK.out; omega
      by_cases hlt : K < (Nl.limbs m).length
      · have t1 : decide (K < (Nl.limbs m).length) = true := decide_eq_true hlt
        have hgd : ∀ j, A.getD j 0 = (Nl.limbs m).getD (q + j) 0 := fun j => by rw [HAE.out]; simp [List.getD_eq_getElem?_getD]
        obtain ⟨lo, hlo⟩ : ∃ x, x = A.getD k 0 := ⟨_, rfl⟩
        obtain ⟨hi, hhi⟩ : ∃ x, x = A.getD (k + 1) 0 := ⟨_, rfl⟩
        have hlo2 : lo < 4294967296 := by rw [hlo, HAE.out]; exact HS.out.getD k
        have hhi2 : hi < 4294967296 := by rw [hhi, HAE.out]; exact HS.out.getD (k + 1)
        have hcl := at_any _ _ K wr (HA.out.below hbel.out) (Nl.limbs_small m)
        have hch := at_any _ _ (K + 1) wr (HA.out.below hbel.out) (Nl.limbs_small m)
        have hKk := HKK.out
        rw [hKk, ← hgd, ← hlo, ← hKk] at hcl
        rw [show K + 1 = q + (k + 1) by omega, ← hgd, ← hhi, show q + (k + 1) = K + 1 by omega] at hch
        have hch' : Calls Tryz.prog 64 #[Value.slice a (Nl.limbs m).length ca, .int .i64 ((K : Int) + 1)] wr fun e w' => e = .returned (.int .u64 ((hi : Nat) : Int)) ∧ wr = w' := hch
        have HCL := Lib.hid hcl
        have HCH := Lib.hid hch'
        have HX := Lib.hid (And.intro hlo hhi)
        clear hcl hch hch' hlo hhi hgd hKk
        have e1 : ((hi : Int) * 4294967296 + lo) / 2 ^ r % 4294967296 = ((((hi * 4294967296 + lo) / 2 ^ r) % 4294967296 : Nat) : Int) := by
          rw [Int.natCast_emod, Int.natCast_ediv, Int.natCast_add, Int.natCast_mul, Int.natCast_pow]; rfl
        have HE := Lib.hid e1
        clear e1
        go_wp2_with (first
          | (go_at_call_of 64 (Value.int IntKind.i64 (K : Int)); refine HCL.out.mono ?_; rintro e w' ⟨rfl, rfl⟩)
          | (go_at_call 64; refine HCH.out.mono ?_; rintro e w' ⟨rfl, rfl⟩)
          | (at_builtin; refine wpList_append_own _ rfl (.tmp 33) (.tmp 36) 23 rfl w.heap.size 59 i0 (.int .u32 0) 1 4 Tryz.underlying23 HI.out.1 HI.out.2.1 HI.out.2.2.1 HI.out.2.2.2 rfl (by decide) _ k (vals zs) rfl (ho.out.alloc _) ⟨wr.heap.size, 0, none⟩ 1 1 [.int .u32 (((hi : Int) * 4294967296 + lo) / 2 ^ r % 4294967296)] rfl rfl ?_ ?_ ?_ ?_ ?_ ?_))
        · intro j u hj
          exact one_new_cell hj
        · intro u hu
          simp at hu
          rw [hu]; rfl
        · simp only [maxLen]; omega
        · omega
        · have := hbel.out.size; simp; omega
        intro v' w1 ho' hg' _
        rw [HE.out, ← vals_snoc] at ho'
        have hbel' := grow_below hbel.out ho.out hg'
        have HO := Lib.hid ho'
        have HBel := Lib.hid hbel'
        clear ho' hg' hbel' ho
        go_wp2_with fail
        go_roundw
        case rel =>
          refine ⟨K + 1, k + 1, _, by rw [Hid, HKK.out]; omega, by omega, by go_num, ?_, ?_, HO.out, HBel.out, ?_⟩
          · simp [hlz]
          · exact small_snoc hsm.out (Nat.mod_lt _ (by decide))
          · rw [HX.out.1, HX.out.2]
            exact ref_shr_step hr32 (by rw [HAE.out]; exact HS.out) hlz hv.out
        case measure => simp [intOf] <;> omega
      · have t1 : decide (K < (Nl.limbs m).length) = false := decide_eq_false hlt
        have ho1 := ho.out
        rw [← hlz] at ho1
        have htr := refTrim_owns w.heap.size _ zs wr ho1 (by omega)
        have hend : Nl.trim zs = Nl.limbs (m / 2 ^ n) := by
          rw [Nl.trim_eq hsm.out]
          congr 1
          have h1 := hv.out
          have hkl : A.length ≤ k := by rw [HAE.out, List.length_drop]; have := HKK.out; omega
          rw [Nl.getD_ge hkl, Nat.zero_div, Nat.mul_zero, Nat.add_zero, List.take_of_length_le (by omega), HAE.out, Nl.limbs_drop, Nl.val_limbs] at h1
          rw [h1, Nat.div_div_eq_div_mul, pow32, ← Nat.pow_add, HN.out]
        rw [hend] at htr
        have HT := Lib.hid htr
        clear ho1 htr hend
        go_wp2_with fail
        refine HT.out.mono ?_
        rintro e w2 ⟨⟨u, rfl, hu⟩, hb2⟩
        have HU := Lib.hid hu
        have HB2 := Lib.hid (hbel.out.trans (hb2.mono hbel.out.size))
        clear hu hb2
        go_wp2_with fail
        go_ret
        exact ⟨⟨u, rfl, HU.out.at⟩, HB2.out⟩
end Go.Proofs.YtfaledeidjmooaaGreat
