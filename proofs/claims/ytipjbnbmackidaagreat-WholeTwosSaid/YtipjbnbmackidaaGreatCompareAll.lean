/-
  What must and trimmed do. What bits.Add32, Sub32, cmp.Compare, wordOf and fromUint do. Conditions: those that each theorem names.
  What compare does. Conditions: those that each theorem names.
-/
import Derived.Test.YtipjbnbmackidaaGreatProg
import Derived.Test.YtipjbnbmackidaaGreatMem
import Derived.WalkSpells
import Derived.Lib.Hide
import Derived.WalkLawsBesides
namespace Go.Proofs.YtipjbnbmackidaaGreat
open Go.RowKit

theorem must_yes (e : Int) (w : World) : Calls Tryz.prog 103 #[.bool true, .int .i64 e] w fun e w' => e = .returned (.tuple #[]) ∧ w = w' := by
  go_enter Tryz.func103, Tryz.ntmps103
  go_wp2
  go_end0
  exact ⟨rfl, rfl⟩
theorem failAt_any (e a : Int) (w : World) : Calls Tryz.prog 159 #[.int .i64 e, .int .i64 a] w fun x w' => x = .panicked [{ v := .iface 182 (.agg #[.int .i64 e, .int .i64 a]), recovered := false }] ∧ w = w' := by
  go_enter Tryz.func159, Tryz.ntmps159
  go_wp2
  exact ⟨rfl, rfl, rfl⟩
theorem must_no (e : Int) (w : World) : Calls Tryz.prog 103 #[.bool false, .int .i64 e] w fun x w' => x = .panicked [{ v := .iface 182 (.agg #[.int .i64 e, .int .i64 0]), recovered := false }] ∧ w = w' := by
  go_enter Tryz.func103, Tryz.ntmps103
  go_wp2_with (go_at_call 159; refine (failAt_any _ _ _).mono ?_; rintro e w' ⟨rfl, rfl⟩)
  exact ⟨rfl, rfl, rfl⟩

theorem trimmed_cells (b off cap : Nat) (xs : List Nat) (w : World) (h : Cells w b off xs) (hc : xs.length ≤ cap) (hm : cap ≤ 9223372036854775807) :
    Calls Tryz.prog 241 #[.slice (some ⟨b, off, none⟩) xs.length cap] w fun e w' => e = .returned (.slice (some ⟨b, off, none⟩) (Nl.trim xs).length cap) ∧ w = w' := by
  go_enter Tryz.func241, Tryz.ntmps241
  go_wp2
  go_loop [3] (fun n => ∃ k : Nat, k ≤ xs.length ∧ n = .int .i64 k ∧ Hid (Nl.trim (xs.take k) = Nl.trim xs)) (fun n => (intOf n).toNat)
  case atStart => exact ⟨xs.length, Nat.le_refl _, rfl, by simp [Hid]⟩
  case round =>
    obtain ⟨k, hk, rfl, ht⟩ := hrel
    cases k with
    | zero =>
      go_wp2
      go_ret
      have := ht.out
      rw [List.take_zero] at this
      rw [← this]
      exact ⟨rfl, rfl⟩
    | succ k =>
      obtain ⟨x, hx⟩ : ∃ x, x = xs.getD k 0 := ⟨_, rfl⟩
      have hcell := h k (by omega)
      rw [← hx] at hcell
      have Hx := Lib.hid hx
      clear hx
      by_cases hz : x = 0
      · have hz1 : ((x : Int) == 0) = true := by rw [beq_iff_eq]; omega
        have HZ := Lib.hid hz
        clear hz
        go_wp2
        go_round
        case rel => exact ⟨k, by omega, by go_num, by rw [Hid, ← Nl.trim_take_zero (by omega) (by rw [← Hx.out, HZ.out])]; exact ht.out⟩
        case measure => simp [intOf] <;> omega
      · have hz1 : ((x : Int) == 0) = false := by rw [beq_eq_false_iff_ne]; omega
        go_wp2
        go_ret
        rw [← ht.out, Nl.trim_take_some (by omega) (by rw [← Hx.out]; exact hz)]
        exact ⟨rfl, rfl⟩


theorem ret_int {k : IntKind} {a b : Int} (h : a = b) : Ending.returned (.int k a) = .returned (.int k b) := by rw [h]
theorem ret_two {k l : IntKind} {a b c d : Int} (h : a = b) (h' : c = d) : Ending.returned (.tuple #[.int k a, .int l c]) = .returned (.tuple #[.int k b, .int l d]) := by rw [h, h']
theorem ret_bool {a b : Bool} (h : a = b) : Ending.returned (.bool a) = .returned (.bool b) := by rw [h]
def cmpI (a b : Int) : Int := if a < b then -1 else if b < a then 1 else 0

theorem isNaN_int (a : Int) (w : World) : Calls Tryz.prog 270 #[.int .i64 a] w fun e w' => e = .returned (.bool false) ∧ w = w' := by
  have h : (a != a) = false := by simp
  go_enter Tryz.func270, Tryz.ntmps270
  go_wp2
  go_ret
  exact ⟨by first | rfl | simp, rfl⟩
theorem isNaN_u32 (a : Int) (w : World) : Calls Tryz.prog 271 #[.int .u32 a] w fun e w' => e = .returned (.bool false) ∧ w = w' := by
  go_enter Tryz.func271, Tryz.ntmps271
  go_wp2
  go_ret
  exact ⟨by first | rfl | simp, rfl⟩

theorem compare_int (a b : Int) (w : World) : Calls Tryz.prog 246 #[.int .i64 a, .int .i64 b] w fun e w' => e = .returned (.int .i64 (cmpI a b)) ∧ w = w' := by
  go_enter Tryz.func246, Tryz.ntmps246
  go_wp2_with (go_at_call 270; refine (isNaN_int _ _).mono ?_; rintro e w' ⟨rfl, rfl⟩)
  all_goals go_ret
  · have h : a < b := by assumption
    exact ⟨ret_int (by rw [cmpI, if_pos h]), rfl⟩
  · have h : b ≤ a := by assumption
    have h2 : b < a := by assumption
    exact ⟨ret_int (by rw [cmpI, if_neg (by omega), if_pos h2]), rfl⟩
  · have h : b ≤ a := by assumption
    have h2 : a ≤ b := by assumption
    exact ⟨ret_int (by rw [cmpI, if_neg (by omega), if_neg (by omega)]), rfl⟩
theorem compare_u32 (a b : Int) (w : World) : Calls Tryz.prog 247 #[.int .u32 a, .int .u32 b] w fun e w' => e = .returned (.int .i64 (cmpI a b)) ∧ w = w' := by
  go_enter Tryz.func247, Tryz.ntmps247
  go_wp2_with (go_at_call 271; refine (isNaN_u32 _ _).mono ?_; rintro e w' ⟨rfl, rfl⟩)
  all_goals go_ret
  · have h : a < b := by assumption
    exact ⟨ret_int (by rw [cmpI, if_pos h]), rfl⟩
  · have h : b ≤ a := by assumption
    have h2 : b < a := by assumption
    exact ⟨ret_int (by rw [cmpI, if_neg (by omega), if_pos h2]), rfl⟩
  · have h : b ≤ a := by assumption
    have h2 : a ≤ b := by assumption
    exact ⟨ret_int (by rw [cmpI, if_neg (by omega), if_neg (by omega)]), rfl⟩

theorem add32 (x y c : Nat) (hx : x < 4294967296) (hy : y < 4294967296) (hc : c < 4294967296) (w : World) :
    Calls Tryz.prog 265 #[.int .u32 x, .int .u32 y, .int .u32 c] w fun e w' => e = .returned (.tuple #[.int .u32 (((x + y + c) % 4294967296 : Nat) : Int), .int .u32 (((x + y + c) / 4294967296 : Nat) : Int)]) ∧ w = w' := by
  go_enter Tryz.func265, Tryz.ntmps265
  go_wp2
  go_ret2
  exact ⟨ret_two (by omega) (by omega), rfl⟩

/-- the borrow -/
def bor (x y c : Nat) : Nat := if x < y + c then 1 else 0
theorem bor_lt (x y c : Nat) : bor x y c < 2 := by unfold bor; split <;> omega
theorem bor_bits (x y c d : Nat) (hx : x < 4294967296) (hy : y < 4294967296) (hc : c < 2) (hd : d = (x + 4294967296 + 4294967296 - y - c) % 4294967296) :
    (((4294967295 ^^^ x) &&& y) ||| ((4294967295 ^^^ (x ^^^ y)) &&& d)) / 2147483648 = bor x y c := by
  have h31 : ∀ n : Nat, n / 2147483648 = n >>> 31 := fun n => by rw [Nat.shiftRight_eq_div_pow]
  have hd' : d < 4294967296 := by omega
  rw [h31, Nat.shiftRight_or_distrib, Nat.shiftRight_and_distrib, Nat.shiftRight_and_distrib, Nat.shiftRight_xor_distrib, Nat.shiftRight_xor_distrib, Nat.shiftRight_xor_distrib]
  simp only [← h31]
  obtain ⟨a, ha⟩ : ∃ a, a = x / 2147483648 := ⟨_, rfl⟩
  obtain ⟨b, hb⟩ : ∃ b, b = y / 2147483648 := ⟨_, rfl⟩
  obtain ⟨e, he⟩ : ∃ e, e = d / 2147483648 := ⟨_, rfl⟩
  rw [← ha, ← hb, ← he]
  have a2 : a = 0 ∨ a = 1 := by omega
  have b2 : b = 0 ∨ b = 1 := by omega
  have e2 : e = 0 ∨ e = 1 := by omega
  unfold bor
  rcases a2 with rfl | rfl <;> rcases b2 with rfl | rfl <;> rcases e2 with rfl | rfl <;> simp <;> omega

theorem sub32 (x y c : Nat) (hx : x < 4294967296) (hy : y < 4294967296) (hc : c < 2) (w : World) :
    Calls Tryz.prog 272 #[.int .u32 x, .int .u32 y, .int .u32 c] w fun e w' => e = .returned (.tuple #[.int .u32 (((x + 4294967296 + 4294967296 - y - c) % 4294967296 : Nat) : Int), .int .u32 ((bor x y c : Nat) : Int)]) ∧ w = w' := by
  go_enter Tryz.func272, Tryz.ntmps272
  go_wp2
  all_goals go_ret2
  all_goals refine ⟨ret_two (by omega) ?_, rfl⟩
  all_goals
    obtain ⟨d, hd⟩ : ∃ d : Nat, d = (x + 4294967296 + 4294967296 - y - c) % 4294967296 := ⟨_, rfl⟩
    have e1 : ((x : Int) - (y : Int) - (c : Int)) % 4294967296 = (d : Int) := by omega
    have em : IntKind.u32.max = ((4294967295 : Nat) : Int) := rfl
    have hxy : (x ^^^ y) < 4294967296 := Nat.xor_lt_two_pow (n := 32) hx hy
    have hnx : (4294967295 ^^^ x) < 4294967296 := Nat.xor_lt_two_pow (n := 32) (by decide) hx
    have hnxy : (4294967295 ^^^ (x ^^^ y)) < 4294967296 := Nat.xor_lt_two_pow (n := 32) (by decide) hxy
    have hd' : d < 4294967296 := by omega
    rw [e1, em, u32_xor_nat _ _ (by decide) hx, u32_xor_nat _ _ hx hy, u32_xor_nat _ _ (by decide) hxy, u32_and_nat _ _ hnx hy, u32_and_nat _ _ hnxy hd', u32_or_nat _ _ (Nat.and_lt_two_pow (n := 32) _ hy) (Nat.and_lt_two_pow (n := 32) _ hd'), ← bor_bits x y c d hx hy hc hd]
    omega
theorem wordOf_any (x : Nat) (w : World) : Calls Tryz.prog 255 #[.int .u32 x] w fun e w' => e = .returned (.slice (some ⟨w.heap.size, 0, none⟩) (Nl.trim [x]).length 1) ∧ w.alloc (.cells #[.int .u32 x] 77) = w' := by
  go_enter Tryz.func255, Tryz.ntmps255
  go_wp2_with fail
  refine (trimmed_cells w.heap.size 0 1 [x] _ ?_ (by simp) (by simp)).mono ?_
  · intro i hi
    match i, hi with
    | 0, _ => simp
  rintro e w' ⟨rfl, rfl⟩
  go_wp2
  go_ret
  exact ⟨rfl, rfl⟩
theorem fromUint_any (x : Nat) (w : World) (_hx : x < 18446744073709551616) : Calls Tryz.prog 192 #[.int .u64 x] w fun e w' => e = .returned (.slice (some ⟨w.heap.size, 0, none⟩) (Nl.trim [x % 4294967296, x / 4294967296]).length 2) ∧ w.alloc (.cells #[.int .u32 ((x % 4294967296 : Nat) : Int), .int .u32 ((x / 4294967296 : Nat) : Int)] 77) = w' := by
  go_enter Tryz.func192, Tryz.ntmps192
  go_wp2_with fail
  refine (trimmed_cells w.heap.size 0 2 [x % 4294967296, x / 4294967296] _ ?_ (by simp) (by simp)).mono ?_
  · intro i hi
    match i, hi with
    | 0, _ => simp
    | 1, _ => simp
  rintro e w' ⟨rfl, rfl⟩
  go_wp2
  go_ret
  exact ⟨rfl, rfl⟩
end Go.Proofs.YtipjbnbmackidaaGreat

namespace Go.Proofs.YtipjbnbmackidaaGreat
open Go.RowKit

theorem cmpI_lt {m n : Nat} (h : m < n) : cmpI m n = -1 := by rw [cmpI, if_pos (by omega)]
theorem cmpI_gt {m n : Nat} (h : n < m) : cmpI m n = 1 := by rw [cmpI, if_neg (by omega), if_pos (by omega)]
theorem cmpI_eq (m : Nat) : cmpI m m = 0 := by rw [cmpI, if_neg (by omega), if_neg (by omega)]

set_option maxHeartbeats 1000000 in
theorem compare_any (va vb : Value) (m n : Nat) (w : World) (ha : At w va (Nl.limbs m)) (hb : At w vb (Nl.limbs n)) :
    Calls Tryz.prog 198 #[va, vb] w fun e w' => e = .returned (.int .i64 (cmpI m n)) ∧ ∃ k, w' = w.drewN k := by
  have sa := ha.short
  have sb := hb.short
  obtain ⟨a, ca, rfl, fa⟩ := ha.form
  obtain ⟨b, cb, rfl, fb⟩ := hb.form
  clear ha hb
  by_cases hl : (Nl.limbs m).length = (Nl.limbs n).length
  · have hl1 : (((Nl.limbs m).length : Int) != ((Nl.limbs n).length : Int)) = false := by simp [hl]
    have HL := Lib.hid hl
    clear hl
    go_enter Tryz.func198, Tryz.ntmps198
    go_wp2
    go_loopw [5] (fun i wr => ∃ k : Nat, k ≤ (Nl.limbs m).length ∧ i = .int .i64 ((k : Int) - 1) ∧ Hid ((Nl.limbs m).drop k = (Nl.limbs n).drop k) ∧ Hid (∃ j, wr = w.drewN j)) (fun i _ => (intOf i + 1).toNat)
    case atStart => exact ⟨(Nl.limbs m).length, Nat.le_refl _, rfl, by simp [Hid, HL.out], ⟨0, rfl⟩⟩
    case round =>
      obtain ⟨k, hk, rfl, hd, hw⟩ := hrel
      obtain ⟨wo, hwo⟩ : ∃ wo, wo = w := ⟨_, rfl⟩
      cases k with
      | zero =>
        go_wp2
        go_ret
        have := hd.out
        rw [List.drop_zero, List.drop_zero] at this
        exact ⟨ret_int (by rw [Nl.limbs_inj this, cmpI_eq]), hw.out⟩
      | succ k =>
        rw [show ((k + 1 : Nat) : Int) - 1 = (k : Int) from by omega]
        obtain ⟨x, hx⟩ : ∃ x, x = (Nl.limbs m).getD k 0 := ⟨_, rfl⟩
        obtain ⟨y, hy⟩ : ∃ y, y = (Nl.limbs n).getD k 0 := ⟨_, rfl⟩
        rcases fa with fa | ⟨ba, oa, rfl, -, hca, -, hba, hcx⟩
        · rw [fa] at hk; simp at hk
        rcases fb with fb | ⟨bb, ob, rfl, -, hcb, -, hbb, hcy⟩
        · have := HL.out; rw [fb] at this; simp at this; rw [this] at hk; simp at hk
        have hkb : k < (Nl.limbs n).length := by have := HL.out; omega
        have c1 := hcx k (by omega)
        have c2 := hcy k hkb
        rw [← hx] at c1
        rw [← hy] at c2
        have c1' : wr.cell? ⟨ba, oa + k, none⟩ = some (.int .u32 (x : Int)) := by obtain ⟨q, rfl⟩ := hw.out; exact c1
        have c2' : wr.cell? ⟨bb, ob + k, none⟩ = some (.int .u32 (y : Int)) := by obtain ⟨q, rfl⟩ := hw.out; exact c2
        have Hx := Lib.hid hx
        have Hy := Lib.hid hy
        clear hx hy c1 c2 hcx hcy
        by_cases hxy : x = y
        · have e1 : ((x : Int) != (y : Int)) = false := by simp [hxy]
          have HE := Lib.hid hxy
          clear hxy
          go_wp2
          go_quiet (fail)
          go_wp2
          go_roundw
          case rel => 
            refine ⟨k, by omega, by go_num, ?_, ?_⟩
            · have h1 := hd.out
              have h2 := Hx.out
              have h3 := Hy.out
              have h4 := HE.out
              rw [Nl.getD_lt (by omega)] at h2 h3
              rw [Hid, List.drop_eq_getElem_cons (by omega), List.drop_eq_getElem_cons hkb, h1, ← h2, ← h3, h4]
            · obtain ⟨q, rfl⟩ := hw.out; exact ⟨_, drewN_drewN _ _ _⟩
          case measure => simp [intOf] <;> omega
        · have e1 : ((x : Int) != (y : Int)) = true := by rw [bne_iff_ne]; omega
          have HE := Lib.hid hxy
          clear hxy
          go_wp2
          go_quiet (fail)
          go_wp2
          obtain ⟨w2, hw2⟩ : ∃ w2, wr.drewN nq = w2 := ⟨_, rfl⟩
          rw [hw2]
          have d1 : w2.cell? ⟨ba, oa + k, none⟩ = some (.int .u32 (x : Int)) := by rw [← hw2]; exact c1'
          have d2 : w2.cell? ⟨bb, ob + k, none⟩ = some (.int .u32 (y : Int)) := by rw [← hw2]; exact c2'
          have HW := Lib.hid hw2
          clear hw2 c1' c2'
          go_quiet ((go_at_call 247; exact Calls.quiet_of_same ((compare_u32 _ _ _).mono fun _ _ h => ⟨h.1, h.2.symm⟩)))
          go_wp2
          go_ret
          refine ⟨ret_int ?_, ?_⟩
          · have h2 := Hx.out
            have h3 := Hy.out
            have hll := HL.out
            rcases Nat.lt_or_gt_of_ne HE.out with h | h
            · rw [cmpI_lt h]
              have := Nl.val_less (k := k) (Nl.limbs_small m) (by omega) hll hd.out (by rw [← h2, ← h3]; exact h)
              rw [Nl.val_limbs, Nl.val_limbs] at this
              rw [cmpI_lt this]
            · rw [cmpI_gt h]
              have := Nl.val_less (k := k) (Nl.limbs_small n) (by omega) hll.symm hd.out.symm (by rw [← h2, ← h3]; exact h)
              rw [Nl.val_limbs, Nl.val_limbs] at this
              rw [cmpI_gt this]
          · obtain ⟨q, rfl⟩ := hw.out
            rw [← HW.out, drewN_drewN, drewN_drewN]
            exact ⟨_, rfl⟩
  · have hl1 : (((Nl.limbs m).length : Int) != ((Nl.limbs n).length : Int)) = true := by rw [bne_iff_ne]; omega
    have HL := Lib.hid hl
    clear hl
    go_enter Tryz.func198, Tryz.ntmps198
    go_wp2_with (go_at_call 246; refine (compare_int _ _ _).mono ?_; rintro e w' ⟨rfl, rfl⟩)
    go_ret
    refine ⟨ret_int ?_, 0, rfl⟩
    rcases Nat.lt_or_gt_of_ne HL.out with h | h
    · rw [cmpI_lt h, cmpI_lt (Nl.limbs_shorter h)]
    · rw [cmpI_gt h, cmpI_gt (Nl.limbs_shorter h)]
end Go.Proofs.YtipjbnbmackidaaGreat
