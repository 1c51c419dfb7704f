/-
  What the reference's Shl does. Conditions: those that each theorem names.
-/
import Derived.Test.YtfaledeidjmooaaGreatRefShr
namespace Go.Proofs.YtfaledeidjmooaaGreat
open Go.RowKit

theorem below_alloc (w : World) (o : Obj) : Below w.heap.size w (w.alloc o) := (Below.refl _ _).alloc (Nat.le_refl _) _
theorem make_words2 (t : TypeId) (ht : Tryz.prog.underlying t = some (.slice 59)) (w : World) (l c : Int) (p n : Nat) (hl : l = p) (hc : c = n) (hpn : p ≤ n) (h : n ≤ 70368744177664) :
    (Instr.makeSlice t (.int .i64 l) (.int .i64 c)).run Tryz.prog w = .ok (.slice (some ⟨w.heap.size, 0, none⟩) p n) (w.alloc (.cells (vals (Nl.zeros n)).toArray 59)) := by
  subst hc hl
  obtain ⟨i0, hi, hz0, hz1, hz2⟩ := info_parts infoWord
  have := run_make (P := Tryz.prog) w t 59 i0 (.int .u32 0) ht hi hz0 .i64 .i64 p n (by omega) (by omega) (by rw [hz2]; omega) (by omega)
  rw [this, hz1]
  simp only [Int.toNat_natCast]
  rw [made_zero]
theorem zeros_take (n k : Nat) (h : k ≤ n) : (Nl.zeros n).take k = Nl.zeros k := by
  simp only [Nl.zeros, List.take_replicate]
  rw [Nat.min_eq_left h]
theorem owns_made (w : World) (p n : Nat) (hpn : p ≤ n) (hn : n ≤ 1000000) :
    (w.alloc (.cells (vals (Nl.zeros n)).toArray 59)).ownsRow w.heap.size 59 1 (.slice (some ⟨w.heap.size, 0, none⟩) p n) p (vals (Nl.zeros p)) := by
  refine ⟨by rw [vals_length, Nl.zeros_length]; omega, .inr ⟨w.heap.size, n, _, rfl, Nat.le_refl _, heap_alloc_new _ _, hpn, by simp only [maxLen]; omega, ?_, ?_⟩⟩
  · rw [List.size_toArray, vals_length, Nl.zeros_length]; omega
  · rw [Nat.mul_one, List.toList_toArray, ← vals_take, zeros_take n p hpn]

/-- one word of a shift to the left -/
theorem ref_shl_step {xs zs : List Nat} {q r k d n x s : Nat} (hn : n = 32 * q + r) (hk : k < xs.length) (hx : x = xs.getD k 0) (hl : zs.length = q + k) (hs : s = x * 2 ^ r + d)
    (hv : Nl.val zs + 4294967296 ^ (q + k) * d = Nl.val (xs.take k) * 2 ^ n) :
    Nl.val (zs ++ [s % 4294967296]) + 4294967296 ^ (q + (k + 1)) * (s / 4294967296) = Nl.val (xs.take (k + 1)) * 2 ^ n := by
  rw [val_snoc, hl, Nl.val_take_succ _ _ hk, ← hx, Nat.add_mul, ← hv, ← Nat.add_assoc, Nat.pow_succ]
  have e : 4294967296 ^ k * x * 2 ^ n = 4294967296 ^ (q + k) * (x * 2 ^ r) := by
    rw [hn, Nat.pow_add 2, ← pow32, Nat.pow_add]
    simp only [Nat.mul_assoc, Nat.mul_comm, Nat.mul_left_comm]
  have h1 := Nat.mod_add_div s 4294967296
  have h2 : 4294967296 ^ (q + k) * (s % 4294967296) + 4294967296 ^ (q + k) * 4294967296 * (s / 4294967296) = 4294967296 ^ (q + k) * s := by
    rw [Nat.mul_assoc, ← Nat.mul_add, h1]
  rw [e]
  rw [hs, Nat.mul_add] at h2
  rw [hs]
  omega

set_option maxHeartbeats 2000000 in
theorem refShl_any (va : Value) (m n : Nat) (w : World) (ha : At w va (Nl.limbs m)) (hla : (Nl.limbs m).length ≤ 100000) (hn : m = 0 ∨ n ≤ 64000) :
    Calls Tryz.prog 41 #[va, .int .i64 n] w fun e w' => (∃ v, e = .returned v ∧ IsN w' v (m * 2 ^ n)) ∧ Below w.heap.size w w' := by
  obtain ⟨i0, hi, hz0, hz1, hz2⟩ := info_parts infoWord4
  have HI := Lib.hid (And.intro hi (And.intro hz0 (And.intro hz1 hz2)))
  have HA := Lib.hid ha
  obtain ⟨a, ca, rfl, fa⟩ := ha.form
  have FA := Lib.hid fa
  clear ha fa hi hz0 hz1 hz2
  by_cases hz : m = 0
  · have e0 : (((Nl.limbs m).length : Int) == 0) = true := by rw [hz, Nl.limbs_zero]; rfl
    have HZ := Lib.hid (show m * 2 ^ n = m by rw [hz, Nat.zero_mul])
    clear hz hn
    go_enter Tryz.func41, Tryz.ntmps41
    go_wp2_with fail
    go_ret
    exact ⟨⟨_, rfl, by rw [HZ.out]; exact HA.out⟩, Below.refl _ _⟩
  · have hlp := Nl.len_pos hz
    have e0 : (((Nl.limbs m).length : Int) == 0) = false := by rw [beq_eq_false_iff_ne]; omega
    have hn' : n ≤ 64000 := by rcases hn with h | h; exact absurd h hz; exact h
    obtain ⟨q, hq⟩ : ∃ q, q = n / 32 := ⟨_, rfl⟩
    obtain ⟨r, hr⟩ : ∃ r, r = n % 32 := ⟨_, rfl⟩
    have hr32 : r < 32 := by omega
    have q1 : (n : Int) / 32 = (q : Int) := by omega
    have r1 : (n : Int) % 32 = (r : Int) := by omega
    have hq2 : q ≤ 2000 := by omega
    have HN := Lib.hid (show n = 32 * q + r from by omega)
    have hmk := make_words2 23 Tryz.underlying23 w (q : Int) ((q : Int) + (Nl.limbs m).length + 1) q (q + (Nl.limbs m).length + 1) rfl (by omega) (by omega) (by omega)
    have hown := owns_made w q (q + (Nl.limbs m).length + 1) (by omega) (by omega)
    have HO0 := Lib.hid hown
    have HB0 := Lib.hid (below_alloc w (.cells (vals (Nl.zeros (q + (Nl.limbs m).length + 1))).toArray 59))
    obtain ⟨R, hR⟩ : ∃ R, R = 2 ^ r := ⟨_, rfl⟩
    have hR2 : R ≤ 2147483648 := by rw [hR]; exact Nat.pow_le_pow_right (by decide) (show r ≤ 31 by omega)
    have hRI : (2 : Int) ^ r = (R : Int) := by rw [hR, Int.natCast_pow]; rfl
    have HR := Lib.hid hR
    clear hz hn hq hr hown hR
    go_enter Tryz.func41, Tryz.ntmps41
    go_wp2_with fail
    clear hmk
    go_loopw [5, 6, 7] (fun v c i wr => ∃ (k d : Nat) (zs : List Nat), k ≤ (Nl.limbs m).length ∧ i = .int .i64 k ∧ c = .int .u64 (d : Int) ∧ d < 4294967296 ∧ Hid (zs.length = q + k) ∧ Hid (Nl.Small zs) ∧ Hid (wr.ownsRow w.heap.size 59 1 v (q + k) (vals zs)) ∧ Hid (Below w.heap.size w wr) ∧
        Hid (Nl.val zs + 4294967296 ^ (q + k) * d = Nl.val ((Nl.limbs m).take k) * 2 ^ n)) (fun _ _ i _ => ((Nl.limbs m).length - (intOf i).toNat))
    case atStart => exact ⟨0, 0, Nl.zeros q, by omega, rfl, rfl, by omega, by rw [Hid, Nl.zeros_length]; rfl, Nl.small_replicate _, HO0.out, HB0.out, by simp [Hid, Nl.val_replicate]⟩
    case round =>
      obtain ⟨k, d, zs, hk, rfl, rfl, hd, hlz, hsm, ho, hbel, hv⟩ := hrel
      by_cases hlt : k < (Nl.limbs m).length
      · rcases FA.out with fa | ⟨ba, oa, rfl, -, hca, -, hba, hcx⟩
        · rw [fa] at hlt; simp at hlt
        obtain ⟨x, hx⟩ : ∃ x, x = (Nl.limbs m).getD k 0 := ⟨_, rfl⟩
        have hx2 : x < 4294967296 := by rw [hx]; exact (Nl.limbs_small m).getD k
        have cx : wr.cell? ⟨ba, oa + k, none⟩ = some (.int .u32 (x : Int)) := by rw [hx]; exact (hbel.out.cell (p := ⟨ba, oa + k, none⟩) hba).trans (hcx k hlt)
        have hp : x * R ≤ 4294967295 * 2147483648 := Nat.mul_le_mul (by omega) hR2
        obtain ⟨p, hpp⟩ : ∃ p, p = x * R := ⟨_, rfl⟩
        have hpi : (x : Int) * (R : Int) = (p : Int) := by rw [hpp, Int.natCast_mul]
        rw [← hpp] at hp
        have Hx := Lib.hid hx
        have Hp := Lib.hid hpp
        have e1 : ((p : Int) + d) % 4294967296 = (((p + d) % 4294967296 : Nat) : Int) := by omega
        have e2 : ((p : Int) + d) / 4294967296 = (((p + d) / 4294967296 : Nat) : Int) := by omega
        have HE := Lib.hid (And.intro e1 e2)
        clear hx hcx hpp e1 e2
        go_wp2_with (at_builtin; refine wpList_append_own _ rfl (.tmp 38) (.tmp 41) 23 rfl w.heap.size 59 i0 (.int .u32 0) 1 4 Tryz.underlying23 HI.out.1 HI.out.2.1 HI.out.2.2.1 HI.out.2.2.2 rfl (by decide) _ (q + k) (vals zs) rfl (ho.out.alloc _) ⟨wr.heap.size, 0, none⟩ 1 1 [.int .u32 (((p : Int) + d) % 4294967296)] rfl rfl ?_ ?_ ?_ ?_ ?_ ?_)
        · intro j u hj
          exact one_new_cell hj
        · intro u hu
          simp at hu
          rw [hu]; rfl
        · simp only [maxLen]; omega
        · omega
        · have := hbel.out.size; simp; omega
        intro v' w1 ho' hg' _
        rw [HE.out.1, ← vals_snoc] at ho'
        have hbel' := grow_below hbel.out ho.out hg'
        have HO := Lib.hid ho'
        have HBel := Lib.hid hbel'
        clear ho' hg' hbel' ho
        go_wp2_with fail
        go_roundw
        case rel =>
          refine ⟨k + 1, (p + d) / 4294967296, zs ++ [(p + d) % 4294967296], by omega, by go_num, by rw [← HE.out.2], by omega, ?_, small_snoc hsm.out (Nat.mod_lt _ (by decide)), HO.out, HBel.out, ?_⟩
          · rw [Hid, List.length_append, hlz.out]; rfl
          · exact ref_shl_step HN.out hlt Hx.out hlz.out (by rw [Hp.out, HR.out]) hv.out
        case measure => simp [intOf] <;> omega
      · have hkl : k = (Nl.limbs m).length := by omega
        have HK := Lib.hid hkl
        have e1 : (d : Int) % 4294967296 = (d : Int) := by omega
        have HE := Lib.hid e1
        clear e1 hkl
        have t1 : decide (k < (Nl.limbs m).length) = false := decide_eq_false hlt
        go_wp2_with (at_builtin; refine wpList_append_own _ rfl (.tmp 45) (.tmp 48) 23 rfl w.heap.size 59 i0 (.int .u32 0) 1 4 Tryz.underlying23 HI.out.1 HI.out.2.1 HI.out.2.2.1 HI.out.2.2.2 rfl (by decide) _ (q + k) (vals zs) rfl (ho.out.alloc _) ⟨wr.heap.size, 0, none⟩ 1 1 [.int .u32 (d : Int)] rfl rfl ?_ ?_ ?_ ?_ ?_ ?_)
        · intro j u hj
          exact one_new_cell hj
        · intro u hu
          simp at hu
          rw [hu]; rfl
        · simp only [maxLen]; omega
        · omega
        · have := hbel.out.size; simp; omega
        intro v' w1 ho' hg' _
        rw [← vals_snoc] at ho'
        have hbel' := grow_below hbel.out ho.out hg'
        have hl1 : q + k + 1 = (zs ++ [d]).length := by rw [List.length_append, hlz.out]; rfl
        rw [hl1] at ho'
        have htr := refTrim_owns w.heap.size _ (zs ++ [d]) w1 ho' (by rw [← hl1]; omega)
        have hend : Nl.trim (zs ++ [d]) = Nl.limbs (m * 2 ^ n) := by
          rw [Nl.trim_eq (small_snoc hsm.out hd), val_snoc, hlz.out, hv.out, HK.out, List.take_of_length_le (Nat.le_refl _), Nl.val_limbs]
        rw [hend] at htr
        have HT := Lib.hid htr
        have HBel := Lib.hid hbel'
        clear ho' hg' hbel' ho htr hend hl1
        go_wp2_with fail
        refine HT.out.mono ?_
        rintro e w2 ⟨⟨u, rfl, hu⟩, hb2⟩
        have HU := Lib.hid hu
        have HB2 := Lib.hid (HBel.out.trans (hb2.mono HBel.out.size))
        clear hu hb2
        go_wp2_with fail
        go_ret
        exact ⟨⟨u, rfl, HU.out.at⟩, HB2.out⟩
end Go.Proofs.YtfaledeidjmooaaGreat
