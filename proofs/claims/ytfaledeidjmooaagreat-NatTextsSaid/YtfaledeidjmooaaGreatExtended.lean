/-
  What extended does to a number of one's own. Conditions: those that each theorem names.
-/
import Derived.Test.YtfaledeidjmooaaGreatDivOwn
import Derived.Test.YtfaledeidjmooaaGreatNumeral
namespace Go.Proofs.YtfaledeidjmooaaGreat
open Go.RowKit

theorem grow_base {base : Nat} {wr w1 : World} {v : Value} {o : Obj} {e : TypeId} {size n : Nat} {xs : List Value} (hb : base ≤ wr.heap.size) (ho : wr.ownsRow base e size v n xs) (hg : (wr.alloc o).grownBy w1 v.ownBlock) : Below base wr w1 := by
  have h1 : Below wr.heap.size wr (wr.alloc o) := (Below.refl _ _).alloc (Nat.le_refl _) _
  have h2 := h1.mono hb
  refine ⟨hg.os.trans h2.os, hg.tape.trans h2.tape, hg.output.trans h2.output, Nat.le_trans h2.size hg.size, fun q hq => ?_⟩
  rw [← h2.block q hq]
  refine hg.block q (Nat.lt_of_lt_of_le (Nat.lt_of_lt_of_le hq hb) h2.size) ?_
  obtain ⟨_, ⟨rfl, _⟩ | ⟨g, cap, cur, rfl, hbg, _⟩⟩ := ho
  · intro h; cases h
  · intro h
    have : q = g := by simpa [Value.ownBlock] using h
    omega

/-- one step of a product with a word -/
theorem ext_step {Z Z' : List Nat} {k d x y s : Nat} (hl : Z'.length = Z.length) (hk : k < Z.length) (hd : Z'.drop k = Z.drop k) (hs : s = x * Z'.getD k 0 + d)
    (hv : Nl.val (Z'.take k) + 4294967296 ^ k * d = x * Nl.val (Z.take k) + y) :
    Nl.val ((Z'.set k (s % 4294967296)).take (k + 1)) + 4294967296 ^ (k + 1) * (s / 4294967296) = x * Nl.val (Z.take (k + 1)) + y := by
  rw [Nl.val_take_set _ _ _ (by omega), Nl.val_take_succ _ _ hk, ← Nl.getD_of_drop hd, Nat.pow_succ, Nat.mul_assoc, Nat.add_assoc, ← Nat.mul_add, Nat.mod_add_div, hs]
  rw [Nat.mul_add, Nat.mul_add, Nat.mul_left_comm x]
  omega
/-- words whose number is not less than the last place are the number's own -/
theorem limbs_of_big {Z : List Nat} {m : Nat} (hs : Nl.Small Z) (h0 : 0 < Z.length) (hv : Nl.val Z = m) (hm : 4294967296 ^ (Z.length - 1) ≤ m) : Z = Nl.limbs m := by
  have hn : Nl.Norm Z := by
    refine ⟨hs, fun h => ?_⟩
    rw [getLast_getD h0] at h
    have hz : Z.getD (Z.length - 1) 0 = 0 := by simpa using h
    have h1 := Nl.val_take_succ Z (Z.length - 1) (by omega)
    rw [hz, Nat.mul_zero, Nat.add_zero, show Z.length - 1 + 1 = Z.length by omega, List.take_of_length_le (Nat.le_refl _)] at h1
    have h2 := Nl.val_lt (hs.take (Z.length - 1))
    rw [List.length_take, Nat.min_eq_left (by omega)] at h2
    omega
  rw [← hv, Nl.limbs_val hn]
theorem limbs_of_snoc {Z : List Nat} {d m : Nat} (hs : Nl.Small Z) (hd : d < 4294967296) (h0 : d ≠ 0) (hv : Nl.val Z + 4294967296 ^ Z.length * d = m) : Z ++ [d] = Nl.limbs m := by
  apply limbs_of_big (small_snoc hs hd) (by simp) (by rw [val_snoc, hv])
  rw [List.length_append, List.length_singleton, Nat.add_sub_cancel, ← hv]
  have : 4294967296 ^ Z.length * 1 ≤ 4294967296 ^ Z.length * d := Nat.mul_le_mul_left _ (Nat.pos_of_ne_zero h0)
  omega

set_option maxHeartbeats 2000000 in
theorem ext_own (base : Nat) (v : Value) (m x y : Nat) (w : World) (hb : base ≤ w.heap.size) (hr : w.ownsRow base 59 1 v (Nl.limbs m).length (vals (Nl.limbs m))) (hl : (Nl.limbs m).length ≤ 100000) (hx0 : 0 < x) (hx : x < 4294967296) (hy : y < 4294967296) :
    Calls Tryz.prog 119 #[v, .int .u32 x, .int .u32 y] w fun e w' => (∃ v', e = .returned v' ∧ w'.ownsRow base 59 1 v' (Nl.limbs (x * m + y)).length (vals (Nl.limbs (x * m + y)))) ∧ Below base w w' := by
  obtain ⟨i0, hi, hz0, hz1, hz2⟩ := info_parts infoWord4
  have HI := Lib.hid (And.intro hi (And.intro hz0 (And.intro hz1 hz2)))
  have HR := Lib.hid hr
  clear hi hz0 hz1 hz2
  by_cases h0 : (Nl.limbs m).length = 0
  · have hm := Nl.len_zero h0
    have HM := Lib.hid (show x * m + y = y by rw [hm, Nat.mul_zero, Nat.zero_add])
    have HZ := Lib.hid (show w.ownsRow base 59 1 v 0 [] by
      have := hr
      rw [hm, Nl.limbs_zero] at this
      exact this)
    have hform : ∃ a cap, v = .slice a 0 cap := by
      rcases HZ.out.2 with ⟨h, _⟩ | ⟨g, cap, cur, h, _⟩
      · exact ⟨none, 0, h⟩
      · exact ⟨_, _, h⟩
    obtain ⟨a, cap, rfl⟩ := hform
    clear h0 hm hr
    by_cases hy0 : y = 0
    · have e0 : ((y : Int) != 0) = false := by simp [hy0]
      have HY := Lib.hid hy0
      clear hy0
      go_enter Tryz.func119, Tryz.ntmps119
      go_wp2
      go_loopw [7, 14] (fun c i wr => c = .int .u64 (y : Int) ∧ i = .int .i64 0 ∧ wr = w) (fun _ _ _ => 0)
      case atStart => exact ⟨rfl, rfl, rfl⟩
      case round =>
        obtain ⟨rfl, rfl, rfl⟩ := hrel
        go_wp2
        go_ret
        refine ⟨⟨_, rfl, ?_⟩, Below.refl _ _⟩
        rw [HM.out, HY.out, Nl.limbs_zero]
        exact HZ.out
    · have e0 : ((y : Int) != 0) = true := by rw [bne_iff_ne]; omega
      have HY := Lib.hid (limbs_one hy0 hy)
      clear hy0
      go_enter Tryz.func119, Tryz.ntmps119
      go_wp2
      go_loopw [7, 14] (fun c i wr => c = .int .u64 (y : Int) ∧ i = .int .i64 0 ∧ wr = w) (fun _ _ _ => 0)
      case atStart => exact ⟨rfl, rfl, rfl⟩
      case round =>
        obtain ⟨rfl, rfl, rfl⟩ := hrel
        go_wp2_with (at_builtin; refine wpList_append_own _ rfl (.tmp 37) (.tmp 40) 69 rfl base 59 i0 (.int .u32 0) 1 4 Tryz.underlying69 HI.out.1 HI.out.2.1 HI.out.2.2.1 HI.out.2.2.2 rfl (by decide) _ 0 [] rfl (HZ.out.alloc _) ⟨wr.heap.size, 0, none⟩ 1 1 [.int .u32 (y : Int)] rfl rfl ?_ ?_ ?_ ?_ ?_ ?_)
        · intro j u hj
          exact one_new_cell hj
        · intro u hu
          simp at hu
          rw [hu]; rfl
        · simp only [maxLen]; omega
        · omega
        · simp; omega
        intro v' w1 ho' hg' _
        have hbel' := grow_base hb HZ.out hg'
        have HO := Lib.hid ho'
        have HBel := Lib.hid hbel'
        clear ho' hg' hbel'
        go_wp2_with fail
        go_ret
        refine ⟨⟨v', rfl, ?_⟩, HBel.out⟩
        rw [HM.out, HY.out]
        exact HO.out
  · obtain ⟨g, cap, rfl, hbg, hgl, hnc, hcm⟩ := owns_slice hr (by omega)
    have HLZ := Lib.hid (Nl.limbs_small m)
    have HM0 := Lib.hid (show m ≠ 0 from fun h => h0 (by rw [h, Nl.limbs_zero]; rfl))
    have HVL := Lib.hid (Nl.val_limbs m)
    obtain ⟨n, hn⟩ : ∃ n, n = (Nl.limbs m).length := ⟨_, rfl⟩
    obtain ⟨Z, hZ⟩ : ∃ Z, Z = Nl.limbs m := ⟨_, rfl⟩
    have HZ := Lib.hid hZ
    have HNZ := Lib.hid (show Z.length = n by rw [hZ, hn])
    rw [← hn] at hr h0 hl hnc HR ⊢
    rw [← hZ] at hr HR
    have HR0 := Lib.hid hr
    clear hn hZ hr HR
    go_enter Tryz.func119, Tryz.ntmps119
    go_wp2
    go_loopw [7, 14] (fun c i wr => ∃ (k d : Nat) (Z' : List Nat), k ≤ n ∧ i = .int .i64 k ∧ c = .int .u64 (d : Int) ∧ d < 4294967296 ∧ Hid (wr.ownsRow base 59 1 (.slice (some ⟨g, 0, none⟩) n cap) n (vals Z')) ∧ Hid (Only g w wr) ∧ Hid (Z'.length = n) ∧ Hid (Nl.Small Z') ∧ Hid (Z'.drop k = Z.drop k) ∧
        Hid (Nl.val (Z'.take k) + 4294967296 ^ k * d = x * Nl.val (Z.take k) + y)) (fun _ i _ => (n - (intOf i).toNat))
    case atStart => exact ⟨0, y, Z, by omega, rfl, rfl, hy, HR0.out, Only.refl _ _, HNZ.out, by rw [HZ.out]; exact HLZ.out, rfl, by simp [Hid]⟩
    case round =>
      obtain ⟨k, d, Z', hk, rfl, rfl, hd, ho, honly, hlen, hsm, hdr, hv⟩ := hrel
      by_cases hlt : k < n
      · obtain ⟨z, hz⟩ : ∃ z, z = Z'.getD k 0 := ⟨_, rfl⟩
        have hz2 : z < 4294967296 := by rw [hz]; exact hsm.out.getD k
        have cz := (ho.out.cellAt k (by omega)).trans (vals_get (by rw [hlen.out]; omega))
        rw [← hz] at cz
        have fz := ho.out.frozenAt k
        have hp : x * z ≤ 4294967295 * 4294967295 := Nat.mul_le_mul (by omega) (by omega)
        have hpi : (x : Int) * (z : Int) = ((x * z : Nat) : Int) := by rw [Int.natCast_mul]
        obtain ⟨p, hpp⟩ : ∃ p, p = x * z := ⟨_, rfl⟩
        rw [← hpp] at hp hpi
        have Hz := Lib.hid hz
        have Hp := Lib.hid hpp
        clear hz hpp
        go_wp2
        go_roundw
        case rel =>
          refine ⟨k + 1, (p + d) / 4294967296, Z'.set k ((p + d) % 4294967296), by omega, by go_num, by go_num, by omega, ?_, ?_, ?_, ?_, ?_, ?_⟩
          · rw [Hid, vals_set]; exact (ho.out.stored _ _).1
          · exact grown_trans honly.out (Only.setCell g _ _ _)
          · rw [Hid, List.length_set]; exact hlen.out
          · exact hsm.out.set _ (by omega)
          · rw [Hid, Nl.drop_set_succ]; exact Nl.drop_succ_of hdr.out
          · exact ext_step (by rw [hlen.out, HNZ.out]) (by rw [HNZ.out]; exact hlt) hdr.out (by rw [← Hz.out, Hp.out]) hv.out
        case measure => simp [intOf] <;> omega
      · have hkn : k = n := by omega
        have hv' : Nl.val Z' + 4294967296 ^ Z'.length * d = x * m + y := by
          have h1 := hv.out
          rw [List.take_of_length_le (by rw [hlen.out]; omega), List.take_of_length_le (by rw [HNZ.out]; omega), HZ.out, HVL.out, hkn] at h1
          rw [hlen.out]; exact h1
        have hbel : Below base w wr := ⟨honly.out.os, honly.out.tape, honly.out.output, honly.out.size, fun q hq => honly.out.block q (by omega) (by intro h; cases h; omega)⟩
        have hbs : base ≤ wr.heap.size := Nat.le_trans hb honly.out.size
        have HB := Lib.hid hbel
        by_cases hd0 : d = 0
        · have e0 : ((d : Int) != 0) = false := by simp [hd0]
          have hE : Z' = Nl.limbs (x * m + y) := by
            rw [hd0, Nat.mul_zero, Nat.add_zero] at hv'
            refine limbs_of_big hsm.out (by rw [hlen.out]; omega) hv' ?_
            rw [hlen.out, ← HNZ.out, HZ.out]
            have h1 := Nl.limbs_le HM0.out
            have h2 : 1 * m ≤ x * m := Nat.mul_le_mul_right m hx0
            omega
          have HE := Lib.hid hE
          have HLE := Lib.hid hlen.out
          clear hkn hv' hbel hd0 hE
          go_wp2
          go_ret
          refine ⟨⟨_, rfl, ?_⟩, HB.out⟩
          rw [← HE.out, HLE.out]
          exact ho.out
        · have e0 : ((d : Int) != 0) = true := by rw [bne_iff_ne]; omega
          have HE := Lib.hid (limbs_of_snoc hsm.out hd hd0 hv')
          have HLE := Lib.hid hlen.out
          clear hkn hv' hbel hd0
          go_wp2_with (at_builtin; refine wpList_append_own _ rfl (.tmp 37) (.tmp 40) 69 rfl base 59 i0 (.int .u32 0) 1 4 Tryz.underlying69 HI.out.1 HI.out.2.1 HI.out.2.2.1 HI.out.2.2.2 rfl (by decide) _ n (vals Z') rfl (ho.out.alloc _) ⟨wr.heap.size, 0, none⟩ 1 1 [.int .u32 (d : Int)] rfl rfl ?_ ?_ ?_ ?_ ?_ ?_)
          · intro j u hj
            exact one_new_cell hj
          · intro u hu
            simp at hu
            rw [hu]; rfl
          · simp only [maxLen]; omega
          · omega
          · simp; omega
          intro v' w1 ho' hg' _
          rw [← vals_snoc] at ho'
          have hbel' := grow_base hbs ho.out hg'
          have HO := Lib.hid ho'
          have HBel := Lib.hid (HB.out.trans hbel')
          clear ho' hg' hbel'
          go_wp2_with fail
          go_ret
          refine ⟨⟨v', rfl, ?_⟩, HBel.out⟩
          rw [← HE.out, List.length_append, HLE.out]
          exact HO.out
end Go.Proofs.YtfaledeidjmooaaGreat
