/-
  What the iterator of digits yields. Conditions: those that each theorem names.
-/
import Derived.RangeFuncNested
import Derived.RangeFuncBound
import Derived.RangeFuncCalls
import Derived.RangeFuncLeaves
import Derived.WalkKit
import Derived.OwnWalkIn
import Derived.TacticsInMore
import Derived.LoopNIn
import Derived.LoopIn
import Derived.Test.YtikgfdkaikpmhaaGreatClone
namespace Go.Proofs.YtikgfdkaikpmhaaGreat
open Go.RowKit

attribute [local go_sem] Oper.semAt_some

/-- the decimal digits of a number, the last one first -/
def digitsL (n : Nat) : List Nat := if h : n = 0 then [] else (48 + n % 10) :: digitsL (n / 10)
termination_by n
decreasing_by omega
theorem digitsL_zero : digitsL 0 = [] := by rw [digitsL]; simp
theorem digitsL_pos {n : Nat} (h : n ≠ 0) : digitsL n = (48 + n % 10) :: digitsL (n / 10) := by rw [digitsL]; simp [h]
theorem digits_step {q r j : Nat} (h : q ≠ 0 ∨ r ≠ 0) : digitsL (q + 10 ^ (j + 1) * r) = (48 + q % 10) :: digitsL (q / 10 + 10 ^ j * r) := by
  have e : 10 ^ (j + 1) * r = 10 * (10 ^ j * r) := by rw [Nat.pow_succ]; rw [Nat.mul_comm (10 ^ j) 10, Nat.mul_assoc]
  have hp : r ≠ 0 → 10 ^ j * r ≠ 0 := fun h => Nat.mul_ne_zero (Nat.ne_of_gt (Nat.pow_pos (by decide))) h
  rw [e]
  generalize 10 ^ j * r = s at hp ⊢
  rw [digitsL_pos (by rcases h with h | h; · omega
                      · have := hp h; omega)]
  congr 1
  · congr 1; omega
  · congr 1; omega

theorem digits_len : ∀ (k m : Nat), m < 2 ^ k → (digitsL m).length ≤ k
  | 0, m, h => by
    have : m = 0 := by have : m < 1 := h; omega
    rw [this, digitsL_zero]; simp
  | k + 1, m, h => by
    by_cases h0 : m = 0
    · rw [h0, digitsL_zero]; simp
    · rw [digitsL_pos h0, List.length_cons]
      have := digits_len k (m / 10) (by rw [Nat.pow_succ] at h; omega)
      omega
theorem digits_small {n x : Nat} (h : x ∈ digitsL n) : x < 256 := by
  induction n using Nat.strongRecOn with
  | ind n ih =>
    by_cases h0 : n = 0
    · rw [h0, digitsL_zero] at h; cases h
    · rw [digitsL_pos h0] at h
      rcases List.mem_cons.1 h with h | h
      · omega
      · exact ih (n / 10) (by omega) h

/-- what stays as it is where only rows of words from block B on change -/
def AbidesWords (B : Nat) (J : List Nat → World → Prop) : Prop := ∀ pre W W' row, J pre W → W.grownBy W' row → (∀ g, row = some g → B ≤ g ∧ ∃ cs fz, W.heap[g]? = some (Obj.cells cs 59 fz)) → J pre W'
/-- what a round keeps: the rows of words -/
def KeepWords (W W' : World) : Prop := W.heap.size ≤ W'.heap.size ∧ ∀ (g : Nat) (cs : Array Value) (fz : Nat × Nat), W.heap[g]? = some (Obj.cells cs 59 fz) → W'.heap[g]? = some (Obj.cells cs 59 fz)
theorem KeepWords.refl (W : World) : KeepWords W W := ⟨Nat.le_refl _, fun _ _ _ h => h⟩
theorem KeepWords.owns {W W' : World} (h : KeepWords W W') {base n : Nat} {v : Value} {L : List Value} (ho : W.ownsRow base 59 1 v n L) : W'.ownsRow base 59 1 v n L := by
  obtain ⟨h1, h2 | ⟨g, cap, cur, rfl, hb, hg, r⟩⟩ := ho
  · exact ⟨h1, .inl h2⟩
  · exact ⟨h1, .inr ⟨g, cap, cur, rfl, hb, h.2 g cur (0, 0) hg, r⟩⟩

/-- the number that a slice of words stands for, read off the world -/
def restOf (W : World) (v : Value) : Nat := match v with
  | .slice (some a) k _ => Nl.val ((List.range k).map fun i => match W.cell? ⟨a.block, i, none⟩ with
    | some (.int _ x) => x.toNat
    | _ => 0)
  | _ => 0
theorem restOf_eq {base : Nat} {w : World} {g n cap : Nat} {xs : List Nat} (h : w.ownsRow base 59 1 (.slice (some ⟨g, 0, none⟩) n cap) n (vals xs)) : restOf w (.slice (some ⟨g, 0, none⟩) n cap) = Nl.val xs := by
  have hl := h.1
  rw [vals_length, Nat.mul_one] at hl
  show Nl.val _ = Nl.val xs
  congr 1
  apply List.ext_getElem
  · simp [hl]
  · intro i h1 h2
    have hc := (h.cellAt i (by omega)).trans (vals_get h2)
    simp [hc, List.getElem?_eq_getElem h2]

set_option maxHeartbeats 2000000 in
theorem digits1_in (n l K m : Nat) (hn : 1 ≤ n) (va : Value) (J : List Nat → World → Prop) (W : World) (hJ : AbidesWords W.heap.size J)
    (hY : ∀ pre x W1, J pre W1 → x < 256 → pre.length < (digitsL m).length → YieldAt Fence.wide (n - 1) Tryz.prog l #[.int .u8 ((x : Nat) : Int)] W1 fun e W' => e = .returned (.bool true) ∧ J (pre ++ [x]) W' ∧ KeepWords W1 W')
    (hK : W.cell? ⟨K, 0, none⟩ = some va) (ha : IsN W va m) (h0 : m ≠ 0) (hl : (Nl.limbs m).length ≤ 1000000) (h : J [] W) :
    CallsIn Fence.wide n Tryz.prog 137 #[.func (.yield l) #[] #[], .pointer (some ⟨K, 0, none⟩)] W fun e W' => (∃ v, e = .returned v) ∧ J (digitsL m) W' := by
  have h1 : 0 < (Nl.limbs m).length := by
    rcases Nat.eq_zero_or_pos (Nl.limbs m).length with h | h
    · exact absurd (Nl.len_zero h) h0
    · exact h
  have HC := Lib.hid (clone_any va (Nl.limbs m) W ha h1 hl)
  obtain ⟨a, ca, rfl, -⟩ := ha.form
  have HJ := Lib.hid hJ
  have HY := Lib.hid hY
  have H0 := Lib.hid h
  have HL := Lib.hid hl
  clear ha hJ hY h hl h1
  refine callsIn_of_wp Tryz.func137 rfl trivial ?_ rfl
  simp only [Tryz.ntmps137, List.size_toArray, List.length_cons, List.length_nil, Nat.reduceAdd, Nat.reduceSub, Array.replicate_succ, Array.replicate_zero, List.push_toArray, List.append_toArray, List.nil_append, List.cons_append]
  gi_wp2_with (refine ⟨trivial, ?_⟩; gi_at_call 138; refine (callsIn_wide.2 HC.out).mono ?_; rintro e W1 ⟨⟨v, rfl, hv⟩, hb⟩)
  obtain ⟨g, cap, rfl, hbg, hgl, hnc, hcm⟩ := owns_slice hv (by
    rcases Nat.eq_zero_or_pos (Nl.limbs m).length with h | h
    · exact absurd (Nl.len_zero h) h0
    · exact h)
  have HB := Lib.hid (And.intro hb hbg)
  have HV := Lib.hid hv
  have HJ1 := Lib.hid (HJ.out [] W W1 none H0.out ⟨hb.os, hb.tape, hb.output, hb.size, fun k hk _ => hb.block k hk⟩ (fun _ h => by cases h))
  clear hb hbg hv H0 hgl hnc HC hK
  gi_wp2_with fail
  gi_loopw [3, 4, 5] (fun v p i wr => ∃ (r : Nat) (pre : List Nat), v = .slice (some ⟨g, 0, none⟩) (Nl.limbs r).length cap ∧ Hid (wr.ownsRow W.heap.size 59 1 (.slice (some ⟨g, 0, none⟩) (Nl.limbs r).length cap) (Nl.limbs r).length (vals (Nl.limbs r))) ∧
      Hid (J pre wr ∧ digitsL m = pre ++ digitsL r) ∧ Hid ((Nl.limbs r).length ≤ 1000000)) (fun v _ _ wr => restOf wr v)
  case atStart => exact ⟨m, [], rfl, HV.out, ⟨HJ1.out, rfl⟩, HL.out⟩
  case round =>
    obtain ⟨r, pre, rfl, ho, hj, hrl⟩ := hrel
    by_cases hz : (Nl.limbs r).length = 0
    · have t0 : decide (0 < (Nl.limbs r).length) = false := by rw [decide_eq_false_iff_not]; omega
      have hr0 := Lib.hid (Nl.len_zero hz)
      clear hz
      gi_wp2_with fail
      go_end0
      have := hj.out.2
      rw [hr0.out, digitsL_zero, List.append_nil] at this
      exact ⟨⟨_, rfl⟩, by rw [this]; exact hj.out.1⟩
    · have t0 : decide (0 < (Nl.limbs r).length) = true := by rw [decide_eq_true_eq]; omega
      have hr0 := Lib.hid (show r ≠ 0 from fun h => hz (by rw [h, Nl.limbs_zero]; rfl))
      clear hz
      have hdv := divide_own W.heap.size g (Nl.limbs r).length cap 1000000000 (Nl.limbs r) wr rfl ho.out (Nl.limbs_small r) (by have := owns_slice ho.out (by have := hr0.out; simpa using t0); obtain ⟨g', c', h1, h2, h3, h4, h5⟩ := this; simp only [Value.slice.injEq, Option.some.injEq, Addr.mk.injEq, and_true, true_and] at h1; omega) hcm (by decide) (by decide)
      rw [Nl.val_limbs] at hdv
      have HD := Lib.hid hdv
      clear hdv
      gi_wp2_with (refine ⟨trivial, ?_⟩; gi_at_call 139; refine (callsIn_wide.2 HD.out).mono ?_; rintro e W2 ⟨rfl, Z, hZ, hon, hZl, hZs, hZv⟩)
      have htz : Nl.trim Z = Nl.limbs (r / 1000000000) := by rw [Nl.trim_eq hZs, hZv]
      have htl : (Nl.limbs (r / 1000000000)).length ≤ (Nl.limbs r).length := Nl.limbs_mono (Nat.div_le_self _ _)
      have hown2 : W2.ownsRow W.heap.size 59 1 (.slice (some ⟨g, 0, none⟩) (Nl.limbs (r / 1000000000)).length cap) (Nl.limbs (r / 1000000000)).length (vals (Nl.limbs (r / 1000000000))) := by
        have h1 := owns_short hZ _ htl
        have h2 := Nl.trim_prefix Z
        rw [htz] at h2
        rwa [← h2] at h1
      have htr : Calls Tryz.prog 94 #[.slice (some ⟨g, 0, none⟩) (Nl.limbs r).length cap] W2 fun e w' => e = .returned (.slice (some ⟨g, 0, none⟩) (Nl.limbs (r / 1000000000)).length cap) ∧ W2 = w' := by
        have h1 : Cells W2 g 0 Z := fun i hi => by
          rw [Nat.zero_add]
          exact (hZ.cellAt i (by omega)).trans (vals_get hi)
        have h2 := owns_slice hZ (by have := hr0.out; simpa using t0)
        obtain ⟨g', c', e1, -, -, e4, e5⟩ := h2
        simp only [Value.slice.injEq, Option.some.injEq, Addr.mk.injEq, and_true, true_and] at e1
        have := trimmed_cells g 0 cap Z W2 h1 (by omega) hcm
        rwa [htz, hZl] at this
      have hJ2 : J pre W2 := by
        refine HJ.out pre wr W2 (some g) hj.out.1 hon (fun g' e => ?_)
        cases e
        obtain ⟨_, ⟨h', _⟩ | ⟨g'', cap', cur, h', hb', hg', _⟩⟩ := ho.out
        · simp at h'
        · simp only [Value.slice.injEq, Option.some.injEq, Addr.mk.injEq, and_true, true_and] at h'
          obtain ⟨rfl, -⟩ := h'
          exact ⟨hb', cur, (0, 0), hg'⟩
      have HT := Lib.hid htr
      have HO2 := Lib.hid hown2
      have HJ2 := Lib.hid hJ2
      have HTL := Lib.hid htl
      have HDG := Lib.hid (show digitsL m = pre ++ digitsL (r % 1000000000 + 10 ^ 9 * (r / 1000000000)) by
        rw [hj.out.2, show r % 1000000000 + 10 ^ 9 * (r / 1000000000) = r by omega])
      have HRO := Lib.hid (restOf_eq ho.out)
      clear htz htl hown2 htr hJ2 hZ hon hZl hZs hZv HD hj ho
      obtain ⟨r1, hr1⟩ : ∃ r1, r1 = r / 1000000000 := ⟨_, rfl⟩
      obtain ⟨p0, hp0⟩ : ∃ p0, p0 = r % 1000000000 := ⟨_, rfl⟩
      have hp0l : p0 < 1000000000 := by omega
      rw [show (r : Int) % 1000000000 = (p0 : Int) by omega]
      rw [← hr1] at HT HO2 HTL HDG
      rw [← hp0] at HDG
      have HR1 := Lib.hid (And.intro hr1 hp0)
      clear hr1 hp0
      gi_wp2_with (refine ⟨trivial, ?_⟩; gi_at_call 94; refine (callsIn_wide.2 HT.out).mono ?_; rintro e W3 ⟨rfl, rfl⟩)
      gi_loopw [4, 5] (fun p i wr1 => ∃ (q k : Nat) (pre1 : List Nat), p = .int .u32 q ∧ i = .int .i64 k ∧ k ≤ 9 ∧ q < 10 ^ (9 - k) ∧ Hid (wr1.ownsRow W.heap.size 59 1 (.slice (some ⟨g, 0, none⟩) (Nl.limbs r1).length cap) (Nl.limbs r1).length (vals (Nl.limbs r1))) ∧
        Hid (J pre1 wr1 ∧ digitsL m = pre1 ++ digitsL (q + 10 ^ (9 - k) * r1))) (fun _ i _ => 9 - (intOf i).toNat)
      case atStart => exact ⟨p0, 0, pre, rfl, rfl, by omega, hp0l, HO2.out, ⟨HJ2.out, HDG.out⟩⟩
      case round =>
        obtain ⟨q, k, pre1, rfl, rfl, hk, hq, ho1, hj1⟩ := hrel
        have hq9 : q < 1000000000 := Nat.lt_of_lt_of_le hq (Nat.pow_le_pow_right (n := 10) (by decide) (show 9 - k ≤ 9 by omega))
        by_cases hk9 : k < 9
        · have t1 : decide ((k : Int) < 9) = true := by rw [decide_eq_true_eq]; omega
          have t1' : decide (k < 9) = true := decide_eq_true hk9
          by_cases hq0 : q = 0
          · have t2 : decide (0 < q) = false := by rw [decide_eq_false_iff_not]; omega
            by_cases hr : (Nl.limbs r1).length = 0
            · have t3 : decide (0 < (Nl.limbs r1).length) = false := by rw [decide_eq_false_iff_not]; omega
              have hz := Lib.hid (And.intro hq0 (Nl.len_zero hr))
              clear hq0 hr
              have HM := Lib.hid (restOf_eq ho1.out)
              gi_wp2_with fail
              go_roundw
              case rel =>
                refine ⟨r1, pre1, rfl, ho1.out, ⟨hj1.out.1, by have := hj1.out.2; rw [hz.out.1, hz.out.2, Nat.mul_zero] at this; rw [hz.out.2]; exact this⟩, Nat.le_trans HTL.out hrl.out⟩
              case measure =>
                have x1 := HM.out
                have x2 := HRO.out
                rw [Nl.val_limbs] at x1 x2
                rw [x1, x2, HR1.out.1]
                exact Nat.div_lt_self (Nat.pos_of_ne_zero hr0.out) (by decide)
            · have t3 : decide (0 < (Nl.limbs r1).length) = true := by rw [decide_eq_true_eq]; omega
              have hz := Lib.hid (show q ≠ 0 ∨ r1 ≠ 0 from .inr fun h => hr (by rw [h, Nl.limbs_zero]; rfl))
              clear hr hq0
              obtain ⟨fn, tmps, assign, body, hy, hR⟩ := HY.out pre1 (48 + q % 10) wr hj1.out.1 (by omega) (by rw [hj1.out.2, show 9 - k = 9 - (k + 1) + 1 by omega, digits_step hz.out]; simp)
              rw [show ((48 + q % 10 : Nat) : Int) = 48 + (q : Int) % 10 by omega] at hy
              have HR := Lib.hid hR
              clear hR
              gi_wp2_with fail
              refine HR.out.mono ?_
              rintro e W3 ⟨rfl, hJ3, hk3⟩
              have HJ3 := Lib.hid hJ3
              have HO3 := Lib.hid (hk3.owns ho1.out)
              clear hJ3 hk3 hy
              gi_wp2_with fail
              go_roundw
              case rel =>
                refine ⟨q / 10, k + 1, pre1 ++ [48 + q % 10], by go_num, by go_num, by omega, ?_, HO3.out, HJ3.out, ?_⟩
                · rw [show 9 - k = 9 - (k + 1) + 1 by omega, Nat.pow_succ] at hq
                  exact Nat.div_lt_of_lt_mul (by rw [Nat.mul_comm]; exact hq)
                · have h1 := hj1.out.2
                  rw [show 9 - k = 9 - (k + 1) + 1 by omega, digits_step hz.out] at h1
                  rw [h1]; simp
              case measure => simp [intOf] <;> omega
          · have t2 : decide (0 < q) = true := by rw [decide_eq_true_eq]; omega
            have hz := Lib.hid (show q ≠ 0 ∨ r1 ≠ 0 from .inl hq0)
            clear hq0
            obtain ⟨fn, tmps, assign, body, hy, hR⟩ := HY.out pre1 (48 + q % 10) wr hj1.out.1 (by omega) (by rw [hj1.out.2, show 9 - k = 9 - (k + 1) + 1 by omega, digits_step hz.out]; simp)
            rw [show ((48 + q % 10 : Nat) : Int) = 48 + (q : Int) % 10 by omega] at hy
            have HR := Lib.hid hR
            clear hR
            gi_wp2_with fail
            refine HR.out.mono ?_
            rintro e W3 ⟨rfl, hJ3, hk3⟩
            have HJ3 := Lib.hid hJ3
            have HO3 := Lib.hid (hk3.owns ho1.out)
            clear hJ3 hk3 hy
            gi_wp2_with fail
            go_roundw
            case rel =>
              refine ⟨q / 10, k + 1, pre1 ++ [48 + q % 10], by go_num, by go_num, by omega, ?_, HO3.out, HJ3.out, ?_⟩
              · rw [show 9 - k = 9 - (k + 1) + 1 by omega, Nat.pow_succ] at hq
                exact Nat.div_lt_of_lt_mul (by rw [Nat.mul_comm]; exact hq)
              · have h1 := hj1.out.2
                rw [show 9 - k = 9 - (k + 1) + 1 by omega, digits_step hz.out] at h1
                rw [h1]; simp
            case measure => simp [intOf] <;> omega
        · obtain rfl : k = 9 := by omega
          obtain rfl : q = 0 := by
            have : q < 10 ^ 0 := hq
            omega
          clear hk9 hk hq hq9
          have HM := Lib.hid (restOf_eq ho1.out)
          gi_wp2_with (exfalso; have hx : ∃ b, some undef = some (Value.bool b) := ⟨_, by assumption⟩; obtain ⟨b, hb⟩ := hx; cases hb)
          go_roundw
          case rel =>
            refine ⟨r1, pre1, rfl, ho1.out, ⟨hj1.out.1, by have := hj1.out.2; rw [Nat.sub_self, Nat.pow_zero, Nat.one_mul, Nat.zero_add] at this; exact this⟩, Nat.le_trans HTL.out hrl.out⟩
          case measure =>
            have x1 := HM.out
            have x2 := HRO.out
            rw [Nl.val_limbs] at x1 x2
            rw [x1, x2, HR1.out.1]
            exact Nat.div_lt_self (Nat.pos_of_ne_zero hr0.out) (by decide)
end Go.Proofs.YtikgfdkaikpmhaaGreat
