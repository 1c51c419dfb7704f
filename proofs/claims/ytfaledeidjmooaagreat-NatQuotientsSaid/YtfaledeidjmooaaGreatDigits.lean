/-
  What the iterator of digits yields. A law for loops over an iterator that changes rows of its own. What slices.Reverse does. What text does. Conditions: those that each theorem names.
-/
import Derived.RangeFuncNested
import Derived.RangeFuncBound
import Derived.RangeFuncCalls
import Derived.RangeFuncLeaves
import Derived.WalkKit
import Derived.OwnWalkIn
import Derived.TacticsInMore
import Derived.LoopNIn
import Derived.LoopIn
import Derived.Test.YtfaledeidjmooaaGreatDivOwn
import Derived.RangeFuncWrites
import Derived.BigRegion
import Derived.Laws.IdiomStrings
namespace Go.Proofs.YtfaledeidjmooaaGreat
open Go.RowKit

attribute [local go_sem] Oper.semAt_some

/-- the decimal digits of a number, the last one first -/
def digitsL (n : Nat) : List Nat := if h : n = 0 then [] else (48 + n % 10) :: digitsL (n / 10)
termination_by n
decreasing_by omega
theorem digitsL_zero : digitsL 0 = [] := by rw [digitsL]; simp
theorem digitsL_pos {n : Nat} (h : n ≠ 0) : digitsL n = (48 + n % 10) :: digitsL (n / 10) := by rw [digitsL]; simp [h]
theorem digits_step {q r j : Nat} (h : q ≠ 0 ∨ r ≠ 0) : digitsL (q + 10 ^ (j + 1) * r) = (48 + q % 10) :: digitsL (q / 10 + 10 ^ j * r) := by
  have e : 10 ^ (j + 1) * r = 10 * (10 ^ j * r) := by rw [Nat.pow_succ]; rw [Nat.mul_comm (10 ^ j) 10, Nat.mul_assoc]
  have hp : r ≠ 0 → 10 ^ j * r ≠ 0 := fun h => Nat.mul_ne_zero (Nat.ne_of_gt (Nat.pow_pos (by decide))) h
  rw [e]
  generalize 10 ^ j * r = s at hp ⊢
  rw [digitsL_pos (by rcases h with h | h; · omega
                      · have := hp h; omega)]
  congr 1
  · congr 1; omega
  · congr 1; omega

theorem digits_len : ∀ (k m : Nat), m < 2 ^ k → (digitsL m).length ≤ k
  | 0, m, h => by
    have : m = 0 := by have : m < 1 := h; omega
    rw [this, digitsL_zero]; simp
  | k + 1, m, h => by
    by_cases h0 : m = 0
    · rw [h0, digitsL_zero]; simp
    · rw [digitsL_pos h0, List.length_cons]
      have := digits_len k (m / 10) (by rw [Nat.pow_succ] at h; omega)
      omega
theorem digits_small {n x : Nat} (h : x ∈ digitsL n) : x < 256 := by
  induction n using Nat.strongRecOn with
  | ind n ih =>
    by_cases h0 : n = 0
    · rw [h0, digitsL_zero] at h; cases h
    · rw [digitsL_pos h0] at h
      rcases List.mem_cons.1 h with h | h
      · omega
      · exact ih (n / 10) (by omega) h

/-- what stays as it is where only rows of words from block B on change -/
def AbidesWords (B : Nat) (J : List Nat → World → Prop) : Prop := ∀ pre W W' row, J pre W → W.grownBy W' row → (∀ g, row = some g → B ≤ g ∧ ∃ cs fz, W.heap[g]? = some (Obj.cells cs 59 fz)) → J pre W'
/-- what a round keeps: the rows of words -/
def KeepWords (W W' : World) : Prop := W.heap.size ≤ W'.heap.size ∧ ∀ (g : Nat) (cs : Array Value) (fz : Nat × Nat), W.heap[g]? = some (Obj.cells cs 59 fz) → W'.heap[g]? = some (Obj.cells cs 59 fz)
theorem KeepWords.refl (W : World) : KeepWords W W := ⟨Nat.le_refl _, fun _ _ _ h => h⟩
theorem KeepWords.owns {W W' : World} (h : KeepWords W W') {base n : Nat} {v : Value} {L : List Value} (ho : W.ownsRow base 59 1 v n L) : W'.ownsRow base 59 1 v n L := by
  obtain ⟨h1, h2 | ⟨g, cap, cur, rfl, hb, hg, r⟩⟩ := ho
  · exact ⟨h1, .inl h2⟩
  · exact ⟨h1, .inr ⟨g, cap, cur, rfl, hb, h.2 g cur (0, 0) hg, r⟩⟩

/-- the number that a slice of words stands for, read off the world -/
def restOf (W : World) (v : Value) : Nat := match v with
  | .slice (some a) k _ => Nl.val ((List.range k).map fun i => match W.cell? ⟨a.block, i, none⟩ with
    | some (.int _ x) => x.toNat
    | _ => 0)
  | _ => 0
theorem restOf_eq {base : Nat} {w : World} {g n cap : Nat} {xs : List Nat} (h : w.ownsRow base 59 1 (.slice (some ⟨g, 0, none⟩) n cap) n (vals xs)) : restOf w (.slice (some ⟨g, 0, none⟩) n cap) = Nl.val xs := by
  have hl := h.1
  rw [vals_length, Nat.mul_one] at hl
  show Nl.val _ = Nl.val xs
  congr 1
  apply List.ext_getElem
  · simp [hl]
  · intro i h1 h2
    have hc := (h.cellAt i (by omega)).trans (vals_get h2)
    simp [hc, List.getElem?_eq_getElem h2]

set_option maxHeartbeats 2000000 in
theorem digits1_in (n l K m : Nat) (hn : 1 ≤ n) (va : Value) (J : List Nat → World → Prop) (W : World) (hJ : AbidesWords W.heap.size J)
    (hY : ∀ pre x W1, J pre W1 → x < 256 → pre.length < (digitsL m).length → YieldAt Fence.wide (n - 1) Tryz.prog l #[.int .u8 ((x : Nat) : Int)] W1 fun e W' => e = .returned (.bool true) ∧ J (pre ++ [x]) W' ∧ KeepWords W1 W')
    (hK : W.cell? ⟨K, 0, none⟩ = some va) (ha : IsN W va m) (h0 : m ≠ 0) (hl : (Nl.limbs m).length ≤ 1000000) (h : J [] W) :
    CallsIn Fence.wide n Tryz.prog 146 #[.func (.yield l) #[] #[], .pointer (some ⟨K, 0, none⟩)] W fun e W' => (∃ v, e = .returned v) ∧ J (digitsL m) W' := by
  have h1 : 0 < (Nl.limbs m).length := by
    rcases Nat.eq_zero_or_pos (Nl.limbs m).length with h | h
    · exact absurd (Nl.len_zero h) h0
    · exact h
  have HC := Lib.hid (clone_any va (Nl.limbs m) W ha h1 hl)
  obtain ⟨a, ca, rfl, -⟩ := ha.form
  have HJ := Lib.hid hJ
  have HY := Lib.hid hY
  have H0 := Lib.hid h
  have HL := Lib.hid hl
  clear ha hJ hY h hl h1
  refine callsIn_of_wp Tryz.func146 rfl trivial ?_ rfl
  simp only [Tryz.ntmps146, List.size_toArray, List.length_cons, List.length_nil, Nat.reduceAdd, Nat.reduceSub, Array.replicate_succ, Array.replicate_zero, List.push_toArray, List.append_toArray, List.nil_append, List.cons_append]
  gi_wp2_with (refine ⟨trivial, ?_⟩; gi_at_call 147; refine (callsIn_wide.2 HC.out).mono ?_; rintro e W1 ⟨⟨v, rfl, hv⟩, hb⟩)
  obtain ⟨g, cap, rfl, hbg, hgl, hnc, hcm⟩ := owns_slice hv (by
    rcases Nat.eq_zero_or_pos (Nl.limbs m).length with h | h
    · exact absurd (Nl.len_zero h) h0
    · exact h)
  have HB := Lib.hid (And.intro hb hbg)
  have HV := Lib.hid hv
  have HJ1 := Lib.hid (HJ.out [] W W1 none H0.out ⟨hb.os, hb.tape, hb.output, hb.size, fun k hk _ => hb.block k hk⟩ (fun _ h => by cases h))
  clear hb hbg hv H0 hgl hnc HC hK
  gi_wp2_with fail
  gi_loopw [3, 4, 5] (fun v p i wr => ∃ (r : Nat) (pre : List Nat), v = .slice (some ⟨g, 0, none⟩) (Nl.limbs r).length cap ∧ Hid (wr.ownsRow W.heap.size 59 1 (.slice (some ⟨g, 0, none⟩) (Nl.limbs r).length cap) (Nl.limbs r).length (vals (Nl.limbs r))) ∧
      Hid (J pre wr ∧ digitsL m = pre ++ digitsL r) ∧ Hid ((Nl.limbs r).length ≤ 1000000)) (fun v _ _ wr => restOf wr v)
  case atStart => exact ⟨m, [], rfl, HV.out, ⟨HJ1.out, rfl⟩, HL.out⟩
  case round =>
    obtain ⟨r, pre, rfl, ho, hj, hrl⟩ := hrel
    by_cases hz : (Nl.limbs r).length = 0
    · have t0 : decide (0 < (Nl.limbs r).length) = false := by rw [decide_eq_false_iff_not]; omega
      have hr0 := Lib.hid (Nl.len_zero hz)
      clear hz
      gi_wp2_with fail
      go_end0
      have := hj.out.2
      rw [hr0.out, digitsL_zero, List.append_nil] at this
      exact ⟨⟨_, rfl⟩, by rw [this]; exact hj.out.1⟩
    · have t0 : decide (0 < (Nl.limbs r).length) = true := by rw [decide_eq_true_eq]; omega
      have hr0 := Lib.hid (show r ≠ 0 from fun h => hz (by rw [h, Nl.limbs_zero]; rfl))
      clear hz
      have hdv := divide_own W.heap.size g (Nl.limbs r).length cap 1000000000 (Nl.limbs r) wr rfl ho.out (Nl.limbs_small r) (by have := owns_slice ho.out (by have := hr0.out; simpa using t0); obtain ⟨g', c', h1, h2, h3, h4, h5⟩ := this; simp only [Value.slice.injEq, Option.some.injEq, Addr.mk.injEq, and_true, true_and] at h1; omega) hcm (by decide) (by decide)
      rw [Nl.val_limbs] at hdv
      have HD := Lib.hid hdv
      clear hdv
      gi_wp2_with (refine ⟨trivial, ?_⟩; gi_at_call 148; refine (callsIn_wide.2 HD.out).mono ?_; rintro e W2 ⟨rfl, Z, hZ, hon, hZl, hZs, hZv⟩)
      have htz : Nl.trim Z = Nl.limbs (r / 1000000000) := by rw [Nl.trim_eq hZs, hZv]
      have htl : (Nl.limbs (r / 1000000000)).length ≤ (Nl.limbs r).length := Nl.limbs_mono (Nat.div_le_self _ _)
      have hown2 : W2.ownsRow W.heap.size 59 1 (.slice (some ⟨g, 0, none⟩) (Nl.limbs (r / 1000000000)).length cap) (Nl.limbs (r / 1000000000)).length (vals (Nl.limbs (r / 1000000000))) := by
        have h1 := owns_short hZ _ htl
        have h2 := Nl.trim_prefix Z
        rw [htz] at h2
        rwa [← h2] at h1
      have htr : Calls Tryz.prog 96 #[.slice (some ⟨g, 0, none⟩) (Nl.limbs r).length cap] W2 fun e w' => e = .returned (.slice (some ⟨g, 0, none⟩) (Nl.limbs (r / 1000000000)).length cap) ∧ W2 = w' := by
        have h1 : Cells W2 g 0 Z := fun i hi => by
          rw [Nat.zero_add]
          exact (hZ.cellAt i (by omega)).trans (vals_get hi)
        have h2 := owns_slice hZ (by have := hr0.out; simpa using t0)
        obtain ⟨g', c', e1, -, -, e4, e5⟩ := h2
        simp only [Value.slice.injEq, Option.some.injEq, Addr.mk.injEq, and_true, true_and] at e1
        have := trimmed_cells g 0 cap Z W2 h1 (by omega) hcm
        rwa [htz, hZl] at this
      have hJ2 : J pre W2 := by
        refine HJ.out pre wr W2 (some g) hj.out.1 hon (fun g' e => ?_)
        cases e
        obtain ⟨_, ⟨h', _⟩ | ⟨g'', cap', cur, h', hb', hg', _⟩⟩ := ho.out
        · simp at h'
        · simp only [Value.slice.injEq, Option.some.injEq, Addr.mk.injEq, and_true, true_and] at h'
          obtain ⟨rfl, -⟩ := h'
          exact ⟨hb', cur, (0, 0), hg'⟩
      have HT := Lib.hid htr
      have HO2 := Lib.hid hown2
      have HJ2 := Lib.hid hJ2
      have HTL := Lib.hid htl
      have HDG := Lib.hid (show digitsL m = pre ++ digitsL (r % 1000000000 + 10 ^ 9 * (r / 1000000000)) by
        rw [hj.out.2, show r % 1000000000 + 10 ^ 9 * (r / 1000000000) = r by omega])
      have HRO := Lib.hid (restOf_eq ho.out)
      clear htz htl hown2 htr hJ2 hZ hon hZl hZs hZv HD hj ho
      obtain ⟨r1, hr1⟩ : ∃ r1, r1 = r / 1000000000 := ⟨_, rfl⟩
      obtain ⟨p0, hp0⟩ : ∃ p0, p0 = r % 1000000000 := ⟨_, rfl⟩
      have hp0l : p0 < 1000000000 := by omega
      rw [show (r : Int) % 1000000000 = (p0 : Int) by omega]
      rw [← hr1] at HT HO2 HTL HDG
      rw [← hp0] at HDG
      have HR1 := Lib.hid (And.intro hr1 hp0)
      clear hr1 hp0
      gi_wp2_with (refine ⟨trivial, ?_⟩; gi_at_call 96; refine (callsIn_wide.2 HT.out).mono ?_; rintro e W3 ⟨rfl, rfl⟩)
      gi_loopw [4, 5] (fun p i wr1 => ∃ (q k : Nat) (pre1 : List Nat), p = .int .u32 q ∧ i = .int .i64 k ∧ k ≤ 9 ∧ q < 10 ^ (9 - k) ∧ Hid (wr1.ownsRow W.heap.size 59 1 (.slice (some ⟨g, 0, none⟩) (Nl.limbs r1).length cap) (Nl.limbs r1).length (vals (Nl.limbs r1))) ∧
        Hid (J pre1 wr1 ∧ digitsL m = pre1 ++ digitsL (q + 10 ^ (9 - k) * r1))) (fun _ i _ => 9 - (intOf i).toNat)
      case atStart => exact ⟨p0, 0, pre, rfl, rfl, by omega, hp0l, HO2.out, ⟨HJ2.out, HDG.out⟩⟩
      case round =>
        obtain ⟨q, k, pre1, rfl, rfl, hk, hq, ho1, hj1⟩ := hrel
        have hq9 : q < 1000000000 := Nat.lt_of_lt_of_le hq (Nat.pow_le_pow_right (n := 10) (by decide) (show 9 - k ≤ 9 by omega))
        by_cases hk9 : k < 9
        · have t1 : decide ((k : Int) < 9) = true := by rw [decide_eq_true_eq]; omega
          have t1' : decide (k < 9) = true := decide_eq_true hk9
          by_cases hq0 : q = 0
          · have t2 : decide (0 < q) = false := by rw [decide_eq_false_iff_not]; omega
            by_cases hr : (Nl.limbs r1).length = 0
            · have t3 : decide (0 < (Nl.limbs r1).length) = false := by rw [decide_eq_false_iff_not]; omega
              have hz := Lib.hid (And.intro hq0 (Nl.len_zero hr))
              clear hq0 hr
              have HM := Lib.hid (restOf_eq ho1.out)
              gi_wp2_with fail
              go_roundw
              case rel =>
                refine ⟨r1, pre1, rfl, ho1.out, ⟨hj1.out.1, by have := hj1.out.2; rw [hz.out.1, hz.out.2, Nat.mul_zero] at this; rw [hz.out.2]; exact this⟩, Nat.le_trans HTL.out hrl.out⟩
              case measure =>
                have x1 := HM.out
                have x2 := HRO.out
                rw [Nl.val_limbs] at x1 x2
                rw [x1, x2, HR1.out.1]
                exact Nat.div_lt_self (Nat.pos_of_ne_zero hr0.out) (by decide)
            · have t3 : decide (0 < (Nl.limbs r1).length) = true := by rw [decide_eq_true_eq]; omega
              have hz := Lib.hid (show q ≠ 0 ∨ r1 ≠ 0 from .inr fun h => hr (by rw [h, Nl.limbs_zero]; rfl))
              clear hr hq0
              obtain ⟨fn, tmps, assign, body, hy, hR⟩ := HY.out pre1 (48 + q % 10) wr hj1.out.1 (by omega) (by rw [hj1.out.2, show 9 - k = 9 - (k + 1) + 1 by omega, digits_step hz.out]; simp)
              rw [show ((48 + q % 10 : Nat) : Int) = 48 + (q : Int) % 10 by omega] at hy
              have HR := Lib.hid hR
              clear hR
              gi_wp2_with fail
              refine HR.out.mono ?_
              rintro e W3 ⟨rfl, hJ3, hk3⟩
              have HJ3 := Lib.hid hJ3
              have HO3 := Lib.hid (hk3.owns ho1.out)
              clear hJ3 hk3 hy
              gi_wp2_with fail
              go_roundw
              case rel =>
                refine ⟨q / 10, k + 1, pre1 ++ [48 + q % 10], by go_num, by go_num, by omega, ?_, HO3.out, HJ3.out, ?_⟩
                · rw [show 9 - k = 9 - (k + 1) + 1 by omega, Nat.pow_succ] at hq
                  exact Nat.div_lt_of_lt_mul (by rw [Nat.mul_comm]; exact hq)
                · have h1 := hj1.out.2
                  rw [show 9 - k = 9 - (k + 1) + 1 by omega, digits_step hz.out] at h1
                  rw [h1]; simp
              case measure => simp [intOf] <;> omega
          · have t2 : decide (0 < q) = true := by rw [decide_eq_true_eq]; omega
            have hz := Lib.hid (show q ≠ 0 ∨ r1 ≠ 0 from .inl hq0)
            clear hq0
            obtain ⟨fn, tmps, assign, body, hy, hR⟩ := HY.out pre1 (48 + q % 10) wr hj1.out.1 (by omega) (by rw [hj1.out.2, show 9 - k = 9 - (k + 1) + 1 by omega, digits_step hz.out]; simp)
            rw [show ((48 + q % 10 : Nat) : Int) = 48 + (q : Int) % 10 by omega] at hy
            have HR := Lib.hid hR
            clear hR
            gi_wp2_with fail
            refine HR.out.mono ?_
            rintro e W3 ⟨rfl, hJ3, hk3⟩
            have HJ3 := Lib.hid hJ3
            have HO3 := Lib.hid (hk3.owns ho1.out)
            clear hJ3 hk3 hy
            gi_wp2_with fail
            go_roundw
            case rel =>
              refine ⟨q / 10, k + 1, pre1 ++ [48 + q % 10], by go_num, by go_num, by omega, ?_, HO3.out, HJ3.out, ?_⟩
              · rw [show 9 - k = 9 - (k + 1) + 1 by omega, Nat.pow_succ] at hq
                exact Nat.div_lt_of_lt_mul (by rw [Nat.mul_comm]; exact hq)
              · have h1 := hj1.out.2
                rw [show 9 - k = 9 - (k + 1) + 1 by omega, digits_step hz.out] at h1
                rw [h1]; simp
            case measure => simp [intOf] <;> omega
        · obtain rfl : k = 9 := by omega
          obtain rfl : q = 0 := by
            have : q < 10 ^ 0 := hq
            omega
          clear hk9 hk hq hq9
          have HM := Lib.hid (restOf_eq ho1.out)
          gi_wp2_with (exfalso; have hx : ∃ b, some undef = some (Value.bool b) := ⟨_, by assumption⟩; obtain ⟨b, hb⟩ := hx; cases hb)
          go_roundw
          case rel =>
            refine ⟨r1, pre1, rfl, ho1.out, ⟨hj1.out.1, by have := hj1.out.2; rw [Nat.sub_self, Nat.pow_zero, Nat.one_mul, Nat.zero_add] at this; exact this⟩, Nat.le_trans HTL.out hrl.out⟩
          case measure =>
            have x1 := HM.out
            have x2 := HRO.out
            rw [Nl.val_limbs] at x1 x2
            rw [x1, x2, HR1.out.1]
            exact Nat.div_lt_self (Nat.pos_of_ne_zero hr0.out) (by decide)


/-- what an iterator over bytes promises: it yields the bytes xs, whatever a round does that keeps the rows of words; it changes rows of words of its own alone -/
def Yields (m : Nat) (G : FuncId) (lb : Array Value) (xs : List Nat) (w : World) : Prop :=
  ∀ (l : Nat) (J : List Nat → World → Prop) (W : World), Below w.heap.size w W → AbidesWords W.heap.size J →
    (∀ pre x W1, J pre W1 → x < 256 → pre.length < xs.length → YieldAt Fence.wide (m - 1) Tryz.prog l #[.int .u8 ((x : Nat) : Int)] W1 fun e W' => e = .returned (.bool true) ∧ J (pre ++ [x]) W' ∧ KeepWords W1 W') →
    J [] W → CallsIn Fence.wide m Tryz.prog G (#[.func (.yield l) #[] #[]] ++ lb) W fun e W' => (∃ v, e = .returned v) ∧ J xs W'
/-- how a round ends -/
def RoundEnds (B : Nat) (I : List Nat → World → Prop) (xs : List Nat) (W : World) : Exit → Act → World → Prop
  | .normal, _, W' => KeepsFrom B W W' ∧ KeepWords W W' ∧ I xs W'
  | _, _, _ => False

theorem KeepWords.trans {A B C : World} (h : KeepWords A B) (k : KeepWords B C) : KeepWords A C := ⟨Nat.le_trans h.1 k.1, fun g cs fz hg => k.2 g cs fz (h.2 g cs fz hg)⟩
/-- an object that is no row is turned -/
theorem KeepWords.turned {W : World} {l : Nat} {o o' : Obj} (hl : W.heap[l]? = some o) (ho : o.isCells = false) : KeepWords W (W.putObj l o') := by
  refine ⟨by simp, fun g cs fz hg => ?_⟩
  by_cases h : g = l
  · subst h
    rw [hg] at hl
    cases hl
    cases ho
  · exact (World.putObj_heap_other h).trans hg

/-- a loop over such an iterator whose body never leaves it -/
theorem wpIn_range_bytes {n : Nat} {g : Operand} {ps : Array Tmp} {assign body : Code} {Q : Exit → Act → World → Prop} {a : Act} {w : World} {G : FuncId} {lb : Array Value} {xs : List Nat}
    (hg : a.eval g = .func (.func G) #[] lb) (hG : ∀ args w, (callFunc G args).run Tryz.prog w = .ok (.enter G args) w) (hn : 1 ≤ n) (hy : Yields (n - 1) G lb xs w) (hps : ps.size = 1)
    (I : List Nat → World → Prop) (hIw : AbidesWords w.heap.size I) (hIo : OwnFrom w.heap.size I) (h0 : I [] w) (a₁ : Nat → Act)
    (hassign : ∀ (l x : Nat) (W : World) (K : Act → World → Prop), K (a₁ x) W →
      assign.wpIn (Fence.wide.inRound l) (n - 1 - 1) Tryz.prog (Exit.then K (fun _ _ _ => False)) { tmps := (ps.zip #[Value.int .u8 ((x : Nat) : Int)]).foldl (fun t (p, v) => t.setIfInBounds p v) a.tmps, defers := [] } W)
    (hbody : ∀ (l : Nat) (pre : List Nat) (x : Nat) (W : World), I pre W → x < 256 → pre.length < xs.length → w.heap.size ≤ W.heap.size → body.wpIn (Fence.wide.inRound l) (n - 1 - 1) Tryz.prog (RoundEnds w.heap.size I (pre ++ [x]) W) (a₁ x) W)
    (hdone : ∀ W, I xs W → W.heap[w.heap.size]? = some (.deferred (some [])) → Q .normal { a with defers := { target := .collected w.heap.size, args := #[] } :: a.defers } W) :
    (Code.rangeFunc g ps assign body).wpIn Fence.wide n Tryz.prog Q a w := by
  refine wpIn_rangeFunc fun fn hfn => ?_
  obtain ⟨rc, hrc⟩ : ∃ rc : LoopState → Option Code → Loop, rc = fun st pe => { state := st, pending := pe, fn, tmps := a.tmps, params := ps, assign, body, defers := w.heap.size } := ⟨_, rfl⟩
  obtain ⟨W1, hW1⟩ : ∃ W1, W1 = (w.alloc (.deferred (some []))).alloc (.loop (rc .ready none)) := ⟨_, rfl⟩
  have hs1 : W1.heap.size = w.heap.size + 2 := by rw [hW1]; simp
  have hD1 : W1.heap[w.heap.size]? = some (.deferred (some [])) := by rw [hW1]; exact heap_alloc2_old w _ _
  have hL1 : W1.heap[w.heap.size + 1]? = some (.loop (rc .ready none)) := by rw [hW1]; exact heap_alloc2_new w _ _
  have hI1 : I [] W1 := by rw [hW1]; exact hIo.alloc _ (hIo.alloc _ h0)
  have hb1 : Below w.heap.size w W1 := by rw [hW1]; exact ((Below.refl _ w).alloc (Nat.le_refl _) _).alloc (by simp) _
  refine ⟨w.heap.size + 1, [{ target := .collected w.heap.size, args := #[] }], W1, { target := .fn (.func G) lb, args := #[.func (.yield (w.heap.size + 1)) #[] #[]] }, W1, G,
    #[.func (.yield (w.heap.size + 1)) #[] #[]] ++ lb, W1, ?_, ?_, fun _ _ => trivial, ?_, fun _ => hn, ?_⟩
  · rw [hW1, hrc]; exact run_enterLoop_outer _ _ _ _ _
  · simp only [resolve, hg]
    simp [go_sem]
  · simp [invoke, go_sem, hG]
  · refine (hy (w.heap.size + 1) (fun pre W => I pre W ∧ W.heap[w.heap.size + 1]? = some (.loop (rc .ready none)) ∧ W.heap[w.heap.size]? = some (.deferred (some []))) W1 hb1 ?_ ?_ ⟨hI1, hL1, hD1⟩).mono ?_
    · intro pre A B row hs hgr hr
      have keep : ∀ (k : Nat) (o : Obj), A.heap[k]? = some o → o.isCells = false → B.heap[k]? = some o := fun k o hk ho => by
        refine (hgr.block k (Array.getElem?_eq_some_iff.1 hk).1 fun e => ?_).trans hk
        obtain ⟨_, cs, fz, hc⟩ := hr k e.symm
        rw [hk] at hc
        cases hc
        cases ho
      exact ⟨hIw pre A B row hs.1 hgr (fun g e => ⟨Nat.le_trans (by omega) (hr g e).1, (hr g e).2⟩), keep _ _ hs.2.1 rfl, keep _ _ hs.2.2 rfl⟩
    · rintro pre x W ⟨hi, hl, hk⟩ hx hpl
      have hlt : w.heap.size + 1 < W.heap.size := (Array.getElem?_eq_some_iff.1 hl).1
      have hyl := run_yield (P := Tryz.prog) (args := #[Value.int .u8 ((x : Nat) : Int)]) hl (by rw [hrc]; simp [hps])
      rw [hrc] at hyl
      refine ⟨fn, _, assign, body, hyl, roundIn_of_wpIn hfn (hassign _ x W _ ⟨_, run_beginRound hl (by rw [hrc]), ?_⟩)⟩
      have hi2 := hIo.putObj (Obj.loop { rc .ready none with state := .busy }) hi (show w.heap.size ≤ w.heap.size + 1 by omega) hl rfl
      have hl2 : (W.putObj (w.heap.size + 1) (.loop { rc .ready none with state := .busy })).heap[w.heap.size + 1]? = some (.loop { rc .ready none with state := .busy }) := World.putObj_heap_same hlt
      have hk2 : (W.putObj (w.heap.size + 1) (.loop { rc .ready none with state := .busy })).heap[w.heap.size]? = some (.deferred (some [])) := (World.putObj_heap_other (by omega)).trans hk
      refine wpIn_mono (hbody _ pre x _ hi2 hx hpl (by simp; omega)) ?_
      rintro e a3 W3 hp
      cases e with
      | normal =>
        obtain ⟨k3, kw3, hi3⟩ := hp
        have hl3 := k3.same _ _ (by omega) hl2 rfl
        have hk3 := k3.same _ _ (Nat.le_refl _) hk2 rfl
        have he := run_endRound (P := Tryz.prog) none hl3
        have hl4 : w.heap.size + 1 < W3.heap.size := (Array.getElem?_eq_some_iff.1 hl3).1
        refine ⟨_, _, he, rfl, ⟨hIo.putObj _ hi3 (by omega) hl3 rfl, ?_, (World.putObj_heap_other (by omega)).trans hk3⟩, ((KeepWords.turned hl rfl).trans kw3).trans (KeepWords.turned hl3 rfl)⟩
        rw [World.putObj_heap_same hl4, hrc]
        rfl
      | ret => exact hp.elim
      | exit id => exact hp.elim
      | goto t => exact hp.elim
      | panic ch => exact hp.elim
      | outgrown => exact hp.elim
    · rintro e W2 ⟨⟨v, rfl⟩, hi, hl, hk⟩
      have he := run_endLoop (P := Tryz.prog) hl (by rw [hrc]; simp)
      rw [hrc] at he hl
      exact ⟨none, _, he, hdone _ (hIo.putObj _ hi (by omega) hl rfl) ((World.putObj_heap_other (by omega)).trans hk)⟩


/-- the cells of a row of bytes -/
def bvals (L : List Nat) : List Value := L.map fun x : Nat => Value.int .u8 (x : Int)
theorem bvals_length (L : List Nat) : (bvals L).length = L.length := by simp [bvals]
theorem bvals_get {L : List Nat} {i : Nat} (h : i < L.length) : (bvals L)[i]? = some (.int .u8 ((L.getD i 0 : Nat) : Int)) := by simp [bvals, h]
theorem bvals_set (xs : List Nat) (k y : Nat) : bvals (xs.set k y) = (bvals xs).set k (.int .u8 (y : Int)) := by simp [bvals, List.map_set]
theorem bvals_snoc (zs : List Nat) (z : Nat) : bvals (zs ++ [z]) = bvals zs ++ [.int .u8 (z : Int)] := by simp [bvals]

/-- the first k and the last k elements are in their new places -/
def Turned (L C : List Nat) (k : Nat) : Prop := C.length = L.length ∧ ∀ i, i < L.length → C.getD i 0 = if i < k ∨ L.length ≤ i + k then L.getD (L.length - 1 - i) 0 else L.getD i 0
theorem turned_start (L : List Nat) : Turned L L 0 := ⟨rfl, fun i hi => by rw [if_neg (by omega)]⟩
theorem getD_set (C : List Nat) (k y i : Nat) (hk : k < C.length) : (C.set k y).getD i 0 = if i = k then y else C.getD i 0 := by
  simp only [List.getD_eq_getElem?_getD, List.getElem?_set]
  by_cases h : k = i
  · subst h; simp [hk]
  · rw [if_neg h, if_neg (fun e => h e.symm)]
theorem turned_next {L C : List Nat} {k : Nat} (h : Turned L C k) (hk : k + (k + 1) < L.length) : Turned L ((C.set k (C.getD (L.length - 1 - k) 0)).set (L.length - 1 - k) (C.getD k 0)) (k + 1) := by
  obtain ⟨h1, h2⟩ := h
  refine ⟨by simp [h1], fun i hi => ?_⟩
  rw [getD_set _ _ _ _ (by simp [h1]; omega), getD_set _ _ _ _ (by omega), h2 k (by omega), h2 (L.length - 1 - k) (by omega), h2 i hi]
  rw [if_neg (show ¬ (k < k ∨ L.length ≤ k + k) by omega), if_neg (show ¬ (L.length - 1 - k < k ∨ L.length ≤ L.length - 1 - k + k) by omega)]
  by_cases e1 : i = L.length - 1 - k
  · rw [if_pos e1, if_pos (by omega), e1]; congr 1; omega
  · rw [if_neg e1]
    by_cases e2 : i = k
    · rw [if_pos e2, if_pos (by omega), e2]
    · rw [if_neg e2]
      by_cases e3 : i < k ∨ L.length ≤ i + k
      · rw [if_pos e3, if_pos (by omega)]
      · rw [if_neg e3, if_neg (by omega)]
theorem turned_end {L C : List Nat} {k : Nat} (h : Turned L C k) (hk : L.length ≤ k + (k + 1)) : C = L.reverse := by
  obtain ⟨h1, h2⟩ := h
  apply List.ext_getElem
  · simp [h1]
  · intro i hi hj
    have hiL : i < L.length := by omega
    have e := h2 i hiL
    rw [List.getD_eq_getElem?_getD, List.getElem?_eq_getElem hi] at e
    simp only [Option.getD_some] at e
    rw [e, List.getElem_reverse]
    have key : L.getD (L.length - 1 - i) 0 = L[L.length - 1 - i]'(by omega) := by
      rw [List.getD_eq_getElem?_getD, List.getElem?_eq_getElem (by omega)]; rfl
    by_cases c : i < k ∨ L.length ≤ i + k
    · rw [if_pos c, key]
    · rw [if_neg c, ← key]; congr 1; omega

set_option maxHeartbeats 2000000 in
theorem reverse_any (base g n cap : Nat) (L : List Nat) (w : World) (hL : L.length = n) (h : w.ownsRow base 5 1 (.slice (some ⟨g, 0, none⟩) n cap) n (bvals L)) (hn : n ≤ 1000000) (hnc : n ≤ cap) (hcm : cap ≤ 9223372036854775807) :
    Calls Tryz.prog 118 #[.slice (some ⟨g, 0, none⟩) n cap] w fun e w' => (∃ v, e = .returned v) ∧ w'.ownsRow base 5 1 (.slice (some ⟨g, 0, none⟩) n cap) n (bvals L.reverse) ∧ w.grownBy w' (some g) := by
  have HW := Lib.hid (And.intro h (World.grownBy.refl w (some g)))
  have HL := Lib.hid hL
  clear h hL
  go_enter Tryz.func118, Tryz.ntmps118
  go_wp2
  go_loopw [2, 3] (fun i j wr => ∃ (k : Nat) (C : List Nat), i = .int .i64 k ∧ j = .int .i64 ((n : Int) - 1 - k) ∧ k ≤ n ∧ Hid (Turned L C k) ∧ Hid (wr.ownsRow base 5 1 (.slice (some ⟨g, 0, none⟩) n cap) n (bvals C) ∧ w.grownBy wr (some g))) (fun i _ _ => n - (intOf i).toNat)
  case atStart => exact ⟨0, L, rfl, by go_num, by omega, turned_start L, HW.out⟩
  case round =>
    obtain ⟨k, C, rfl, rfl, hk, ht, ho⟩ := hrel
    by_cases hlt : k + (k + 1) < n
    · have t0 : decide ((k : Int) < (n : Int) - 1 - k) = true := by rw [decide_eq_true_eq]; omega
      obtain ⟨j, hj⟩ : ∃ j, j = n - 1 - k := ⟨_, rfl⟩
      rw [show (n : Int) - 1 - k = (j : Int) by omega] at t0 ⊢
      have t0' : decide (k < j) = true := by rw [decide_eq_true_eq]; omega
      have hjn : j < n := by omega
      have hkn : k < n := by omega
      have hkj : ¬ k = j := by omega
      obtain ⟨x, hx⟩ : ∃ x, x = C.getD k 0 := ⟨_, rfl⟩
      obtain ⟨y, hy⟩ : ∃ y, y = C.getD j 0 := ⟨_, rfl⟩
      have c1 := (ho.out.1.cellAt k (by omega)).trans (bvals_get (by rw [ht.out.1, HL.out]; omega))
      have c2 := (ho.out.1.cellAt j (by omega)).trans (bvals_get (by rw [ht.out.1, HL.out]; omega))
      rw [← hx] at c1
      rw [← hy] at c2
      have f1 := ho.out.1.frozenAt k
      have f2 := ho.out.1.frozenAt j
      have HX := Lib.hid (And.intro hx (And.intro hy hj))
      clear hx hy hj
      go_wp2
      go_region
      go_wp2
      go_roundw
      case rel =>
        refine ⟨k + 1, (C.set k y).set j x, by go_num, ?_, by omega, ?_, ?_⟩
        · have := HX.out.2.2
          rw [show (j : Int) - 1 = (n : Int) - 1 - ((k + 1 : Nat) : Int) by omega]
        · have := turned_next ht.out (by rw [HL.out]; exact hlt)
          rw [HL.out, ← HX.out.2.2, ← HX.out.1, ← HX.out.2.1] at this
          exact this
        · rw [bvals_set, bvals_set]
          have h1 := ho.out.1.stored k (.int .u8 (y : Int))
          have h2 := h1.1.stored j (.int .u8 (x : Int))
          exact ⟨h2.1.drew, grown_trans ho.out.2 (grown_trans h1.2 (grown_trans h2.2 (grown_of_below (Below.refl _ _).drew)))⟩
      case measure => simp [intOf] <;> omega
    · have t0 : decide ((k : Int) < (n : Int) - 1 - k) = false := by rw [decide_eq_false_iff_not]; omega
      have he := Lib.hid (turned_end ht.out (by rw [HL.out]; omega))
      go_wp2
      go_end0
      refine ⟨⟨_, rfl⟩, ?_⟩
      rw [← he.out]
      exact ho.out


attribute [local go_sem] Oper.semAt_some

/-- the text of a number -/
def textOf (m : Nat) : ByteArray := ⟨((if m = 0 then [48] else (digitsL m).reverse).map UInt8.ofNat).toArray⟩

theorem digits_any (a : Option Addr) (l c : Nat) (w : World) : CallsIn Fence.wide 3 Tryz.prog 117 #[.slice a l c] w fun e w' => e = .returned (.func (.func 146) #[] #[.pointer (some ⟨w.heap.size, 0, none⟩)]) ∧ w' = w.alloc (.cells #[.slice a l c] 69) := by
  have hmf : ∀ (fn : Fn) (first cap : Array Value) (w : World), (Instr.makeFunc fn first cap).run Tryz.prog w = .ok (.func fn first cap) w := fun _ _ _ _ => rfl
  refine callsIn_wide.2 ?_
  go_enter Tryz.func117, Tryz.ntmps117
  go_wp2_with fail
  go_ret
  exact ⟨rfl, rfl⟩

theorem addr_add (g j : Nat) : Addr.add ⟨g, 0, none⟩ j = ⟨g, j, none⟩ := by unfold Addr.add; split <;> simp_all
theorem byte_nat {x : Nat} (h : x < 256) : (((UInt8.ofNat x).toNat : Nat) : Int) = (x : Int) := by
  have : (UInt8.ofNat x).toNat = x := by
    rw [UInt8.toNat_ofNat']
    exact Nat.mod_eq_of_lt h
  rw [this]

/-- what has been collected: the variable and the row behind it -/
def Got (w : World) (pre : List Nat) (W : World) : Prop := (∃ v, W.heap[w.heap.size]? = some (Obj.cells #[v] 66 (0, 0)) ∧ W.ownsRow (w.heap.size + 1) 5 1 v pre.length (bvals pre)) ∧ Below w.heap.size w W
theorem Got.kept {w W W' : World} {pre : List Nat} {row : Option Nat} (h : Got w pre W) (hg : W.grownBy W' row)
    (hr : ∀ r, row = some r → w.heap.size ≤ r ∧ ∃ o : Obj, W.heap[r]? = some o ∧ (∀ cs fz, o ≠ Obj.cells cs 66 fz) ∧ (∀ cs fz, o ≠ Obj.cells cs 5 fz)) : Got w pre W' := by
  obtain ⟨⟨v, h1, h2⟩, hb⟩ := h
  refine ⟨⟨v, ?_, ?_⟩, ⟨hg.os.trans hb.os, hg.tape.trans hb.tape, hg.output.trans hb.output, Nat.le_trans hb.size hg.size, fun q hq => ?_⟩⟩
  · refine (hg.block _ (lt_of_block h1) fun e => ?_).trans h1
    obtain ⟨_, o, ho, k1, _⟩ := hr _ e.symm
    rw [h1] at ho
    cases ho
    exact k1 _ _ rfl
  · refine h2.kept hg ?_
    obtain ⟨_, ⟨rfl, _⟩ | ⟨g, cap, cur, rfl, hb', hg', _⟩⟩ := h2
    · exact .inl rfl
    · refine .inr fun e => ?_
      obtain ⟨_, o, ho, _, k2⟩ := hr _ e.symm
      rw [hg'] at ho
      cases ho
      exact k2 _ _ rfl
  · rw [← hb.block q hq]
    exact hg.block q (Nat.lt_of_lt_of_le hq hb.size) fun e => by have := (hr _ e.symm).1; omega

theorem infoByte : (Tryz.prog.info? 5).map (fun i => (i.zero, i.size, i.bytes)) = some (some (.int .u8 0), 1, 1) := by kernel_rfl
theorem got_box {w W w1 : World} {k : Nat} {x : Value} {v : Value} {L : List Value} (hc : W.heap[w.heap.size]? = some (Obj.cells #[v] 66 (0, 0))) (ho : W.ownsRow (w.heap.size + 1) 5 1 v k L)
    (hg : (W.alloc (.cells #[x] 5)).grownBy w1 v.ownBlock) : w1.heap[w.heap.size]? = some (Obj.cells #[v] 66 (0, 0)) := by
  have hkl := lt_of_block hc
  refine (hg.block _ (by simp; omega) fun e => ?_).trans ((Below.heap_alloc W _ _ hkl).trans hc)
  obtain ⟨_, ⟨rfl, _⟩ | ⟨g, cap, cur, rfl, hbg, _⟩⟩ := ho
  · cases e
  · have : w.heap.size = g := by simpa [Value.ownBlock] using e
    omega

/-- one byte more -/
theorem got_next {w W w1 : World} {pre : List Nat} {x B : Nat} {v v' : Value} (hc : W.heap[w.heap.size]? = some (Obj.cells #[v] 66 (0, 0))) (ho : W.ownsRow (w.heap.size + 1) 5 1 v pre.length (bvals pre)) (hb : Below w.heap.size w W)
    (ho' : w1.ownsRow (w.heap.size + 1) 5 1 v' (pre.length + 1) (bvals pre ++ [.int .u8 (x : Int)])) (hg : (W.alloc (.cells #[.int .u8 (x : Int)] 5)).grownBy w1 v.ownBlock) :
    KeepsFrom B W (w1.setCell ⟨w.heap.size, 0, none⟩ v') ∧ KeepWords W (w1.setCell ⟨w.heap.size, 0, none⟩ v') ∧ Got w (pre ++ [x]) (w1.setCell ⟨w.heap.size, 0, none⟩ v') := by
  have hsz : W.heap.size ≤ w1.heap.size := by have := hg.size; simp at this; omega
  have keep1 : ∀ (k : Nat) (o : Obj), W.heap[k]? = some o → (∀ cs fz, o ≠ Obj.cells cs 5 fz) → w1.heap[k]? = some o := fun k o hk hno => by
    have hkl : k < W.heap.size := (Array.getElem?_eq_some_iff.1 hk).1
    refine (hg.block k (by simp; omega) fun e => ?_).trans ((Below.heap_alloc W _ k hkl).trans hk)
    obtain ⟨_, ⟨rfl, _⟩ | ⟨g, cap, cur, rfl, _, hg', _⟩⟩ := ho
    · cases e
    · have : k = g := by simpa [Value.ownBlock] using e
      subst this
      rw [hk] at hg'
      cases hg'
      exact hno _ _ rfl
  have keep : ∀ (k : Nat) (o : Obj), W.heap[k]? = some o → (∀ cs fz, o ≠ Obj.cells cs 5 fz) → k ≠ w.heap.size → (w1.setCell ⟨w.heap.size, 0, none⟩ v').heap[k]? = some o := fun k o hk hno hne =>
    (Below.heap_setCell w1 ⟨w.heap.size, 0, none⟩ v' k hne).trans (keep1 k o hk hno)
  have hbox := keep1 _ _ hc (fun cs fz e => by cases e)
  refine ⟨⟨by simpa using hsz, fun k o _ hk hcell => keep k o hk (fun cs fz e => by rw [e] at hcell; cases hcell) (fun e => ?_)⟩, ⟨by simpa using hsz, fun g cs fz hk => keep g _ hk (fun cs' fz' e => by cases e) (fun e => ?_)⟩, ⟨v', one_setCell hbox, ?_⟩, ?_⟩
  · rw [e, hc] at hk; cases hk; cases hcell
  · rw [e, hc] at hk; cases hk
  · rw [bvals_snoc, List.length_append]
    refine World.ownsRow.kept ho' (Only.setCell w.heap.size 0 v' w1) ?_
    obtain ⟨_, ⟨rfl, h⟩ | ⟨g, cap, cur, rfl, hbg, _⟩⟩ := ho'
    · exact .inl rfl
    · refine .inr fun e => ?_
      have : g = w.heap.size := by simpa [Value.ownBlock] using e
      omega
  · have h1 : Below w.heap.size w (W.alloc (.cells #[.int .u8 (x : Int)] 5)) := hb.trans (((Below.refl W.heap.size W).alloc (Nat.le_refl _) _).mono hb.size)
    refine Below.setCell (p := ⟨w.heap.size, 0, none⟩) (show Below w.heap.size w w1 from ⟨hg.os.trans h1.os, hg.tape.trans h1.tape, hg.output.trans h1.output, Nat.le_trans hb.size hsz, fun q hq => ?_⟩) (Nat.le_refl _) _
    rw [← h1.block q hq]
    refine hg.block q (Nat.lt_of_lt_of_le hq h1.size) fun e => ?_
    obtain ⟨_, ⟨rfl, _⟩ | ⟨g, cap, cur, rfl, hbg, _⟩⟩ := ho
    · cases e
    · have : q = g := by simpa [Value.ownBlock] using e
      omega

set_option maxRecDepth 100000 in
set_option maxHeartbeats 2000000 in
theorem text_pos (va : Value) (m : Nat) (w : World) (ha : IsN w va m) (hl : (Nl.limbs m).length ≤ 1100) (h0 : m ≠ 0) :
    Calls Tryz.prog 85 #[va] w fun e w' => e = .returned (.string (textOf m)) ∧ Below w.heap.size w w' := by
  refine (callsIn_wide (n := 4)).1 ?_
  have h1 : 0 < (Nl.limbs m).length := by
    rcases Nat.eq_zero_or_pos (Nl.limbs m).length with h | h
    · exact absurd (Nl.len_zero h) h0
    · exact h
  have e0 : (((Nl.limbs m).length : Int) == 0) = false := by rw [beq_eq_false_iff_ne]; omega
  have HA := Lib.hid ha
  obtain ⟨a, ca, rfl, -⟩ := ha.form
  have HL := Lib.hid hl
  have hdl : (digitsL m).length ≤ 40000 := by
    have h := digits_len (32 * (Nl.limbs m).length) m (by rw [← pow32]; exact Nl.lt_limbs m)
    omega
  have HDL := Lib.hid hdl
  clear ha hl h1 hdl
  refine callsIn_of_wp_marks Tryz.func85 rfl trivial ?_ rfl
  simp only [Tryz.ntmps85, List.size_toArray, List.length_cons, List.length_nil, Nat.reduceAdd, Nat.reduceSub, Array.replicate_succ, Array.replicate_zero, List.push_toArray, List.append_toArray, List.nil_append, List.cons_append]
  gi_wp2_with (refine ⟨trivial, ?_⟩; gi_at_call 117; refine (digits_any _ _ _ _).mono ?_; rintro e W1 ⟨rfl, rfl⟩)
  obtain ⟨W0, hW0⟩ : ∃ W0, W0 = (w.alloc (.cells #[.slice none 0 0] 66)).alloc (.cells #[.slice a (Nl.limbs m).length ca] 69) := ⟨_, rfl⟩
  rw [← hW0]
  have hs0 : W0.heap.size = w.heap.size + 2 := by rw [hW0]; simp
  have hb0 : Below w.heap.size w W0 := by rw [hW0]; exact ((Below.refl _ _).alloc (Nat.le_refl _) _).alloc (by simp) _
  have hbox : W0.heap[w.heap.size]? = some (Obj.cells #[.slice none 0 0] 66 (0, 0)) := by rw [hW0]; exact heap_alloc2_old w _ _
  have hnat : W0.cell? ⟨w.heap.size + 1, 0, none⟩ = some (.slice a (Nl.limbs m).length ca) := by rw [hW0]; exact cell_of_one (heap_alloc2_new w _ _)
  clear hW0
  have hyl : Yields 3 146 #[.pointer (some ⟨w.heap.size + 1, 0, none⟩)] (digitsL m) W0 := fun l J W hW hJ hY hJ0 =>
    digits1_in 3 l (w.heap.size + 1) m (by decide) _ J W hJ hY ((hW.cell (p := ⟨w.heap.size + 1, 0, none⟩) (show w.heap.size + 1 < W0.heap.size by omega)).trans hnat) ((HA.out.below hb0).below hW) h0 (by have := HL.out; omega) hJ0
  refine wpIn_range_bytes (G := 146) (lb := #[.pointer (some ⟨w.heap.size + 1, 0, none⟩)]) (xs := digitsL m) rfl (fun _ _ => by kernel_rfl) (by decide) hyl rfl (Got w) ?iw ?io ⟨⟨_, hbox, World.ownsRow_nil _ _ _ _⟩, hb0⟩
    (fun x => { tmps := #[Value.slice a (Nl.limbs m).length ca, undef, Value.string { data := #[] }, Value.pointer (some { block := w.heap.size, off := 0 }), .int .u8 ((x : Nat) : Int), Value.slice a (Nl.limbs m).length ca,
          Value.int IntKind.i64 ((Nl.limbs m).length : Int), Value.bool false, Value.slice a (Nl.limbs m).length ca, Value.func (Fn.func 146) #[] #[Value.pointer (some { block := w.heap.size + 1, off := 0 })], .int .u8 ((x : Nat) : Int), undef,
          undef, undef, undef, undef, undef, undef, undef], defers := [] }) ?assign ?body ?done
  case iw =>
    intro pre A B row h hg hr
    exact h.kept hg fun r e => by
      obtain ⟨h1, cs, fz, h2⟩ := hr r e
      exact ⟨by omega, _, h2, (fun _ _ e => by cases e), (fun _ _ e => by cases e)⟩
  case io =>
    intro pre A B row h hg hr
    exact h.kept hg fun r e => by
      obtain ⟨h1, o, h2, h3⟩ := hr r e
      exact ⟨by omega, o, h2, (fun _ _ e => by rw [e] at h3; cases h3), (fun _ _ e => by rw [e] at h3; cases h3)⟩
  case assign =>
    intro l x W K hK
    gi_wp2
    exact hK
  case body =>
    rintro l pre x W ⟨⟨v, hc, ho⟩, hb⟩ hx hpl hsz
    obtain ⟨i0, hi, hz0, hz1, hz2⟩ := info_parts infoByte
    have hcell := cell_of_one hc
    have HC := Lib.hid (And.intro hc (And.intro ho hb))
    have HI := Lib.hid (And.intro hi (And.intro hz0 (And.intro hz1 hz2)))
    have hplm := HDL.out
    have hb1 := hb.size
    clear hi hz0 hz1 hz2 hc ho hb hyl hbox hnat hb0
    gi_wp2_with (gi_at_builtin; refine wpListIn_append_own _ rfl (.tmp 11) (.tmp 13) 66 rfl (w.heap.size + 1) 5 i0 (.int .u8 0) 1 1 Tryz.underlying66 HI.out.1 HI.out.2.1 HI.out.2.2.1 HI.out.2.2.2 rfl (by decide) v pre.length (bvals pre) rfl (HC.out.2.1.alloc _) ⟨W.heap.size, 0, none⟩ 1 1 [.int .u8 (x : Int)] rfl rfl ?_ ?_ ?_ ?_ ?_ ?_)
    · intro j u hj
      exact one_new_cell hj
    · intro u hu
      simp at hu
      rw [hu]; rfl
    · simp only [maxLen]; omega
    · omega
    · simp; omega
    intro v' w1 ho' hg' _
    have hnx := got_next (B := w.heap.size + 2) HC.out.1 HC.out.2.1 HC.out.2.2 ho' hg'
    have hbx := got_box HC.out.1 HC.out.2.1 hg'
    have hcb := cell_of_one hbx
    have hfb := free_of_one hbx
    obtain ⟨g', cap', rfl, -⟩ := owns_slice ho' (by omega)
    have HN := Lib.hid hnx
    clear ho' hg' hnx hbx
    gi_wp2_with fail
    exact HN.out
  case done =>
    rintro W ⟨⟨v, hc, ho⟩, hb⟩ hD
    have hpos : 0 < (digitsL m).length := by rw [digitsL_pos h0]; simp
    obtain ⟨g', cap', rfl, hg1, hg2, hg3, hg4⟩ := owns_slice ho hpos
    have hgD : W0.heap.size ≠ g' := by
      intro e
      obtain ⟨_, ⟨h, _⟩ | ⟨g, cap, cur, h, _, hg', _⟩⟩ := ho
      · cases h
      · simp only [Value.slice.injEq, Option.some.injEq, Addr.mk.injEq, and_true, true_and] at h
        rw [← h.1, ← e, hD] at hg'
        cases hg'
    have hrv := reverse_any (w.heap.size + 1) g' (digitsL m).length cap' (digitsL m) W rfl ho (by have := HDL.out; omega) hg3 hg4
    have HRV := Lib.hid hrv
    have hcell := cell_of_one hc
    have HC := Lib.hid (And.intro hc (And.intro hb hD))
    have HG := Lib.hid (And.intro hg1 (And.intro hg2 (And.intro hgD hpos)))
    clear hc ho hb hD hrv hyl hbox hnat hg1 hg2 hg3 hg4 hgD hpos hb0
    gi_wp2_with fail
    refine ⟨trivial, (callsIn_wide.2 HRV.out).mono ?_⟩
    rintro e W2 ⟨⟨u, rfl⟩, ho2, hgr2⟩
    have hbx : W2.heap[w.heap.size]? = some (Obj.cells #[.slice (some ⟨g', 0, none⟩) (digitsL m).length cap'] 66 (0, 0)) :=
      (hgr2.block _ (lt_of_block HC.out.1) (by intro e; have := HG.out.1; cases e; omega)).trans HC.out.1
    have hcell2 := cell_of_one hbx
    have hD2 : W2.heap[W0.heap.size]? = some (.deferred (some [])) :=
      (hgr2.block _ (Array.getElem?_eq_some_iff.1 HC.out.2.2).1 (by intro e; cases e; exact HG.out.2.2.1 rfl)).trans HC.out.2.2
    have hB2 : Below w.heap.size w W2 := by
      have h1 := HC.out.2.1
      refine ⟨hgr2.os.trans h1.os, hgr2.tape.trans h1.tape, hgr2.output.trans h1.output, Nat.le_trans h1.size hgr2.size, fun q hq => ?_⟩
      rw [← h1.block q hq]
      exact hgr2.block q (Nat.lt_of_lt_of_le hq h1.size) (by intro e; have := HG.out.1; cases e; omega)
    have hcv : (convert 66 9 (.slice (some ⟨g', 0, none⟩) (digitsL m).length cap')).run Tryz.prog W2 = .ok (.string (textOf m)) W2 := by
      have hlen : ((digitsL m).reverse.map UInt8.ofNat).length = (digitsL m).length := by simp
      have := run_convert_bytes_back W2 66 9 5 ⟨g', 0, none⟩ cap' ((digitsL m).reverse.map UInt8.ofNat) Tryz.underlying66 Tryz.underlying5 Tryz.underlying9 (fun j hj => by
        have hj2 : j < (digitsL m).reverse.length := by simpa using hj
        have hc := (ho2.cellAt j (by simp at hj2; omega)).trans (bvals_get hj2)
        have hb : (digitsL m).reverse.getD j 0 < 256 := by
          rw [List.getD_eq_getElem?_getD, List.getElem?_eq_getElem hj2]
          exact digits_small (List.mem_reverse.1 (List.getElem_mem hj2))
        have e : (digitsL m).reverse.getD j 0 = ((digitsL m).reverse[j]'hj2) := by rw [List.getD_eq_getElem?_getD, List.getElem?_eq_getElem hj2]; rfl
        rw [addr_add, hc, List.getElem_map, e, byte_nat (by rw [← e]; exact hb)])
      rw [hlen] at this
      rw [this, textOf, if_neg h0]
    have HD2 := Lib.hid (And.intro hD2 hB2)
    clear hbx hD2 hB2 ho2 hgr2 HRV hcell
    gi_wp2_with fail
    have HD3 : W2.heap[w.heap.size + 2]? = some (.deferred (some [])) := by rw [← hs0]; exact HD2.out.1
    refine ⟨by simp, .inl ⟨_, _, rfl, run_takeDeferred HD3, ?_⟩⟩
    exact ⟨_, results_tmp rfl _ _ _, rfl, HD2.out.2.trans (belowK_b (w := w) (Nat.le_refl _) W2 (w.heap.size + 2) _ _ (by omega) HD3 rfl rfl)⟩
end Go.Proofs.YtfaledeidjmooaaGreat
