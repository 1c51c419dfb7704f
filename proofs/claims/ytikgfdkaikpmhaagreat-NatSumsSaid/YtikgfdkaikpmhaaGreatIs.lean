/-
  What the reference's Of and the law's is do. Conditions: those that each theorem names.
-/
import Derived.Test.YtikgfdkaikpmhaaGreatRefSub
namespace Go.Proofs.YtikgfdkaikpmhaaGreat
open Go.RowKit

theorem refOf_any (x : Nat) (w : World) (hx : x < 18446744073709551616) : Calls Tryz.prog 55 #[.int .u64 x] w fun e w' => (∃ v, e = .returned v ∧ IsN w' v x) ∧ Below w.heap.size w w' := by
  have hxi : (x : Int) < 18446744073709551616 := by omega
  have e1 : (x : Int) % 4294967296 = ((x % 4294967296 : Nat) : Int) := by omega
  have e2 : (x : Int) / 4294967296 = ((x / 4294967296 : Nat) : Int) := by omega
  have hrow : Row (w.alloc (.cells #[.int .u32 ((x % 4294967296 : Nat) : Int), .int .u32 ((x / 4294967296 : Nat) : Int)] 59)) w.heap.size [x % 4294967296, x / 4294967296] := row_new w [x % 4294967296, x / 4294967296]
  have hb0 : Below w.heap.size w (w.alloc (.cells #[.int .u32 ((x % 4294967296 : Nat) : Int), .int .u32 ((x / 4294967296 : Nat) : Int)] 59)) := (Below.refl _ _).alloc (Nat.le_refl _) _
  have htr := refTrim_cells w.heap.size 0 2 [x % 4294967296, x / 4294967296] _ (hrow.cells (fun i hi => by simp at hi ⊢; omega)) (by simp) (by decide) hrow.lt (by simp)
  have hte : Nl.trim [x % 4294967296, x / 4294967296] = Nl.limbs x := by
    rw [Nl.trim_eq (by simp [Nl.Small]; omega)]
    congr 1
    simp; omega
  rw [hte] at htr
  rw [← e1, ← e2] at htr hb0
  have HT := Lib.hid htr
  have HB := Lib.hid hb0
  clear htr hb0 hrow hte e1 e2
  go_enter Tryz.func55, Tryz.ntmps55
  go_wp2_with fail
  refine HT.out.mono ?_
  rintro e w1 ⟨⟨v, rfl, hv⟩, hb1⟩
  have HV := Lib.hid hv
  have HB1 := Lib.hid (HB.out.trans (hb1.mono HB.out.size))
  clear hv hb1 HT
  go_wp2_with fail
  go_ret
  exact ⟨⟨v, rfl, HV.out.at⟩, HB1.out⟩

/-- does a call answer with a number, or refuse it because it is too large? -/
def isB (xs : List Nat) (c : Int) (zs : List Nat) : Bool := if zs.length ≤ 1024 then (decide (c = 0) && sameB xs zs) else (decide (c = 2) && decide (xs.length = 0))

set_option maxHeartbeats 1000000 in
theorem is_any (v u : Value) (xs zs : List Nat) (c : Int) (w : World) (hv : At w v xs) (hu : At w u zs) :
    Calls Tryz.prog 24 #[v, .int .i64 c, u] w fun e w' => e = .returned (.bool (isB xs c zs)) ∧ ∃ k, w' = w.drewN k := by
  have HF := Lib.hid (fits_any u zs w hu)
  have HS := Lib.hid (same_any v u xs zs w hv hu)
  obtain ⟨a, ca, rfl, -⟩ := hv.form
  obtain ⟨b, cb, rfl, -⟩ := hu.form
  clear hv hu
  by_cases hl : zs.length ≤ 1024
  · have hf : Calls Tryz.prog 65 #[.slice b zs.length cb] w fun e w' => e = .returned (.bool true) ∧ w = w' := by
      have := HF.out
      rwa [decide_eq_true hl] at this
    have HF' := Lib.hid hf
    by_cases hc : c = 0
    · have e0 : ((c : Int) == 0) = true := by simp [hc]
      have hr : isB xs c zs = sameB xs zs := by rw [isB, if_pos hl, decide_eq_true hc, Bool.true_and]
      have HR := Lib.hid hr
      clear hl hf hc hr HF
      go_enter Tryz.func24, Tryz.ntmps24
      go_wp2_with (first | (go_at_call 65; refine HF'.out.mono ?_; rintro e w' ⟨rfl, rfl⟩) | (go_at_call 34; refine HS.out.mono ?_; rintro e w' ⟨rfl, j, rfl⟩))
      go_ret
      exact ⟨by rw [HR.out]; rfl, _, rfl⟩
    · have e0 : ((c : Int) == 0) = false := by rw [beq_eq_false_iff_ne]; exact hc
      have hr : isB xs c zs = false := by rw [isB, if_pos hl, decide_eq_false hc, Bool.false_and]
      have HR := Lib.hid hr
      clear hl hf hc hr HF
      go_enter Tryz.func24, Tryz.ntmps24
      go_wp2_with (first | (go_at_call 65; refine HF'.out.mono ?_; rintro e w' ⟨rfl, rfl⟩))
      go_ret
      exact ⟨by rw [HR.out]; rfl, 0, rfl⟩
  · have hf : Calls Tryz.prog 65 #[.slice b zs.length cb] w fun e w' => e = .returned (.bool false) ∧ w = w' := by
      have := HF.out
      rwa [decide_eq_false hl] at this
    have HF' := Lib.hid hf
    by_cases hc : c = 2
    · have e0 : ((c : Int) == 2) = true := by simp [hc]
      by_cases hx : xs.length = 0
      · have e1 : ((xs.length : Int) == 0) = true := by simp [hx]
        have hr : isB xs c zs = true := by rw [isB, if_neg hl, decide_eq_true hc, decide_eq_true hx]; rfl
        have HR := Lib.hid hr
        clear hl hf hc hr HF hx
        go_enter Tryz.func24, Tryz.ntmps24
        go_wp2_with (first | (go_at_call 65; refine HF'.out.mono ?_; rintro e w' ⟨rfl, rfl⟩))
        go_ret
        exact ⟨by rw [HR.out]; rfl, 0, rfl⟩
      · have e1 : ((xs.length : Int) == 0) = false := by rw [beq_eq_false_iff_ne]; omega
        have hr : isB xs c zs = false := by rw [isB, if_neg hl, decide_eq_true hc, decide_eq_false hx]; rfl
        have HR := Lib.hid hr
        clear hl hf hc hr HF hx
        go_enter Tryz.func24, Tryz.ntmps24
        go_wp2_with (first | (go_at_call 65; refine HF'.out.mono ?_; rintro e w' ⟨rfl, rfl⟩))
        go_ret
        exact ⟨by rw [HR.out]; rfl, 0, rfl⟩
    · have e0 : ((c : Int) == 2) = false := by rw [beq_eq_false_iff_ne]; exact hc
      have hr : isB xs c zs = false := by rw [isB, if_neg hl, decide_eq_false hc]; rfl
      have HR := Lib.hid hr
      clear hl hf hc hr HF
      go_enter Tryz.func24, Tryz.ntmps24
      go_wp2_with (first | (go_at_call 65; refine HF'.out.mono ?_; rintro e w' ⟨rfl, rfl⟩))
      go_ret
      exact ⟨by rw [HR.out]; rfl, 0, rfl⟩
end Go.Proofs.YtikgfdkaikpmhaaGreat
