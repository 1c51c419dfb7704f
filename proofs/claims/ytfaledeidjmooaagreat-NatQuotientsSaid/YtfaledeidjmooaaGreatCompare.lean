/-
  What compare does. Conditions: those that each theorem names.
-/
import Derived.Test.YtfaledeidjmooaaGreatLeaf


namespace Go.Proofs.YtfaledeidjmooaaGreat
open Go.RowKit

theorem cmpI_lt {m n : Nat} (h : m < n) : cmpI m n = -1 := by rw [cmpI, if_pos (by omega)]
theorem cmpI_gt {m n : Nat} (h : n < m) : cmpI m n = 1 := by rw [cmpI, if_neg (by omega), if_pos (by omega)]
theorem cmpI_eq (m : Nat) : cmpI m m = 0 := by rw [cmpI, if_neg (by omega), if_neg (by omega)]

set_option maxHeartbeats 1000000 in
theorem compare_any (va vb : Value) (m n : Nat) (w : World) (ha : At w va (Nl.limbs m)) (hb : At w vb (Nl.limbs n)) :
    Calls Tryz.prog 62 #[va, vb] w fun e w' => e = .returned (.int .i64 (cmpI m n)) ∧ ∃ k, w' = w.drewN k := by
  have sa := ha.short
  have sb := hb.short
  obtain ⟨a, ca, rfl, fa⟩ := ha.form
  obtain ⟨b, cb, rfl, fb⟩ := hb.form
  clear ha hb
  by_cases hl : (Nl.limbs m).length = (Nl.limbs n).length
  · have hl1 : (((Nl.limbs m).length : Int) != ((Nl.limbs n).length : Int)) = false := by simp [hl]
    have HL := Lib.hid hl
    clear hl
    go_enter Tryz.func62, Tryz.ntmps62
    go_wp2
    go_loopw [5] (fun i wr => ∃ k : Nat, k ≤ (Nl.limbs m).length ∧ i = .int .i64 ((k : Int) - 1) ∧ Hid ((Nl.limbs m).drop k = (Nl.limbs n).drop k) ∧ Hid (∃ j, wr = w.drewN j)) (fun i _ => (intOf i + 1).toNat)
    case atStart => exact ⟨(Nl.limbs m).length, Nat.le_refl _, rfl, by simp [Hid, HL.out], ⟨0, rfl⟩⟩
    case round =>
      obtain ⟨k, hk, rfl, hd, hw⟩ := hrel
      obtain ⟨wo, hwo⟩ : ∃ wo, wo = w := ⟨_, rfl⟩
      cases k with
      | zero =>
        go_wp2
        go_ret
        have := hd.out
        rw [List.drop_zero, List.drop_zero] at this
        exact ⟨ret_int (by rw [Nl.limbs_inj this, cmpI_eq]), hw.out⟩
      | succ k =>
        rw [show ((k + 1 : Nat) : Int) - 1 = (k : Int) from by omega]
        obtain ⟨x, hx⟩ : ∃ x, x = (Nl.limbs m).getD k 0 := ⟨_, rfl⟩
        obtain ⟨y, hy⟩ : ∃ y, y = (Nl.limbs n).getD k 0 := ⟨_, rfl⟩
        rcases fa with fa | ⟨ba, oa, rfl, -, hca, -, hba, hcx⟩
        · rw [fa] at hk; simp at hk
        rcases fb with fb | ⟨bb, ob, rfl, -, hcb, -, hbb, hcy⟩
        · have := HL.out; rw [fb] at this; simp at this; rw [this] at hk; simp at hk
        have hkb : k < (Nl.limbs n).length := by have := HL.out; omega
        have c1 := hcx k (by omega)
        have c2 := hcy k hkb
        rw [← hx] at c1
        rw [← hy] at c2
        have c1' : wr.cell? ⟨ba, oa + k, none⟩ = some (.int .u32 (x : Int)) := by obtain ⟨q, rfl⟩ := hw.out; exact c1
        have c2' : wr.cell? ⟨bb, ob + k, none⟩ = some (.int .u32 (y : Int)) := by obtain ⟨q, rfl⟩ := hw.out; exact c2
        have Hx := Lib.hid hx
        have Hy := Lib.hid hy
        clear hx hy c1 c2 hcx hcy
        by_cases hxy : x = y
        · have e1 : ((x : Int) != (y : Int)) = false := by simp [hxy]
          have HE := Lib.hid hxy
          clear hxy
          go_wp2
          go_quiet (fail)
          go_wp2
          go_roundw
          case rel => 
            refine ⟨k, by omega, by go_num, ?_, ?_⟩
            · have h1 := hd.out
              have h2 := Hx.out
              have h3 := Hy.out
              have h4 := HE.out
              rw [Nl.getD_lt (by omega)] at h2 h3
              rw [Hid, List.drop_eq_getElem_cons (by omega), List.drop_eq_getElem_cons hkb, h1, ← h2, ← h3, h4]
            · obtain ⟨q, rfl⟩ := hw.out; exact ⟨_, drewN_drewN _ _ _⟩
          case measure => simp [intOf] <;> omega
        · have e1 : ((x : Int) != (y : Int)) = true := by rw [bne_iff_ne]; omega
          have HE := Lib.hid hxy
          clear hxy
          go_wp2
          go_quiet (fail)
          go_wp2
          obtain ⟨w2, hw2⟩ : ∃ w2, wr.drewN nq = w2 := ⟨_, rfl⟩
          rw [hw2]
          have d1 : w2.cell? ⟨ba, oa + k, none⟩ = some (.int .u32 (x : Int)) := by rw [← hw2]; exact c1'
          have d2 : w2.cell? ⟨bb, ob + k, none⟩ = some (.int .u32 (y : Int)) := by rw [← hw2]; exact c2'
          have HW := Lib.hid hw2
          clear hw2 c1' c2'
          go_quiet ((go_at_call 99; exact Calls.quiet_of_same ((compare_u32 _ _ _).mono fun _ _ h => ⟨h.1, h.2.symm⟩)))
          go_wp2
          go_ret
          refine ⟨ret_int ?_, ?_⟩
          · have h2 := Hx.out
            have h3 := Hy.out
            have hll := HL.out
            rcases Nat.lt_or_gt_of_ne HE.out with h | h
            · rw [cmpI_lt h]
              have := Nl.val_less (k := k) (Nl.limbs_small m) (by omega) hll hd.out (by rw [← h2, ← h3]; exact h)
              rw [Nl.val_limbs, Nl.val_limbs] at this
              rw [cmpI_lt this]
            · rw [cmpI_gt h]
              have := Nl.val_less (k := k) (Nl.limbs_small n) (by omega) hll.symm hd.out.symm (by rw [← h2, ← h3]; exact h)
              rw [Nl.val_limbs, Nl.val_limbs] at this
              rw [cmpI_gt this]
          · obtain ⟨q, rfl⟩ := hw.out
            rw [← HW.out, drewN_drewN, drewN_drewN]
            exact ⟨_, rfl⟩
  · have hl1 : (((Nl.limbs m).length : Int) != ((Nl.limbs n).length : Int)) = true := by rw [bne_iff_ne]; omega
    have HL := Lib.hid hl
    clear hl
    go_enter Tryz.func62, Tryz.ntmps62
    go_wp2_with (go_at_call 98; refine (compare_int _ _ _).mono ?_; rintro e w' ⟨rfl, rfl⟩)
    go_ret
    refine ⟨ret_int ?_, 0, rfl⟩
    rcases Nat.lt_or_gt_of_ne HL.out with h | h
    · rw [cmpI_lt h, cmpI_lt (Nl.limbs_shorter h)]
    · rw [cmpI_gt h, cmpI_gt (Nl.limbs_shorter h)]
end Go.Proofs.YtfaledeidjmooaaGreat
