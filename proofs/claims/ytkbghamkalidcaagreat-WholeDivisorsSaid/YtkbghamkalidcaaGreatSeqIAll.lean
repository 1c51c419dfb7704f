/-
  What Gcd of package whole gives of 12 and 18. Conditions: those that each theorem names.
  What chunkOf does: the greatest power of a base in one element. Digits of a number to a base, the last one first. Conditions: those that each theorem names.
  What the iterator of digits to a base yields. Conditions: those that each theorem names.
-/
import Derived.Test.YtkbghamkalidcaaGreatGcdW
import Derived.Test.YtkbghamkalidcaaGreatEucMAll
import Derived.Test.YtkbghamkalidcaaGreatCountAll
import Derived.RangeFuncNested
import Derived.RangeFuncBound
import Derived.RangeFuncCalls
import Derived.RangeFuncLeaves
import Derived.WalkKit
import Derived.OwnWalkIn
import Derived.TacticsInMore
import Derived.LoopNIn
import Derived.LoopIn
import Derived.RangeFuncWrites
import Derived.BigRegion
import Derived.Test.YtkbghamkalidcaaGreatEuclidI
namespace Go.Proofs.YtkbghamkalidcaaGreat
open Go.RowKit

instance (R : ERow) : Decidable (tiny R) := inferInstanceAs (Decidable (_ ∧ _ ∧ _))
/-- the rows of 12 and 18 -/
def rows1218 : Nat → ERow
  | 0 => (12, 1, 0)
  | 1 => (18, 0, 1)
  | 2 => (12, 1, 0)
  | 3 => (6, 1, 1)
  | _ => (0, 3, 2)
theorem gcd_12_18 (va vb : Value) (w : World) (ha : IsI w va 12) (hb : IsI w vb 18) :
    Calls Tryz.prog 30 #[va, vb] w fun e w' => ThreeI w w' e 6 2 (-1) := by
  obtain ⟨p0, c0, rfl, u0⟩ := ha.form
  obtain ⟨p1, c1, rfl, u1⟩ := hb.form
  have l12 : Nl.limbs (12 : Int).natAbs = [12] := limbs_one (by decide) (by decide)
  have l18 : Nl.limbs (18 : Int).natAbs = [18] := limbs_one (by decide) (by decide)
  refine wholeGcd_ok _ _ _ _ _ _ 6 2 (-1) w ha hb (validI_of (by rw [l12]; decide)) (validI_of (by rw [l18]; decide)) (fit_small (by decide)) (fit_small (by decide)) (fit_small (by decide)) (fun w' hw' => ?_)
  refine (common_small p0 p1 _ c0 _ c1 (rows1218 3) (rows1218 4) w' (by rw [l18]; decide) (by decide) (by decide) (by decide) (fun w2 hw2 => ?_)).mono ?_
  · exact euclid_small _ _ rows1218 3 12 18 w2 ((u0.below hw').below hw2) ((u1.below hw').below hw2) rfl rfl (fun i hi => by match i, hi with | 0, _ => rfl | 1, _ => rfl | 2, _ => rfl) (fun i hi => by match i, hi with | 0, _ => decide | 1, _ => decide | 2, _ => decide) rfl (fun i hi => by match i, hi with | 0, _ => decide | 1, _ => decide | 2, _ => decide | 3, _ => decide | 4, _ => decide)
  · rintro e w3 ⟨⟨u, v, t, rfl, h1, h2, h3⟩, hb3⟩
    exact ⟨⟨u, v, t, rfl, h1, h2, h3⟩, hb3⟩
end Go.Proofs.YtkbghamkalidcaaGreat

namespace Go.Proofs.YtkbghamkalidcaaGreat
open Go.RowKit

/-- a chunk of digits -/
def chunkOk (B s k : Nat) : Prop := s = B ^ k ∧ s ≤ 4294967295 ∧ 4294967295 < s * B ∧ k ≤ 31
set_option maxHeartbeats 1000000 in
theorem chunkOf_any (B : Nat) (w : World) (h2 : 2 ≤ B) (h36 : B ≤ 36) :
    Calls Tryz.prog 209 #[.int .i64 B] w fun e w' => (∃ s k : Nat, e = .returned (.tuple #[.int .u32 s, .int .i64 k]) ∧ chunkOk B s k) ∧ w = w' := by
  go_enter Tryz.func209, Tryz.ntmps209
  go_wp2
  go_loopw [2, 3] (fun i j wr => ∃ s k : Nat, i = .int .u32 s ∧ j = .int .i64 k ∧ s ≤ 4294967295 ∧ k ≤ 32 ∧ Hid (s = B ^ k ∧ 2 ^ k ≤ s) ∧ wr = w) (fun i _ _ => 4294967296 - (intOf i).toNat)
  case atStart => exact ⟨1, 0, rfl, rfl, by omega, by omega, ⟨by simp, by simp⟩, rfl⟩
  case round =>
    obtain ⟨s, k, rfl, rfl, hs, hk, hsk, rfl⟩ := hrel
    obtain ⟨p, hp⟩ : ∃ p, p = s * B := ⟨_, rfl⟩
    have hpl : p ≤ 4294967295 * 36 := by rw [hp]; exact Nat.mul_le_mul hs h36
    have hc1 : (s : Int) * (B : Int) = (p : Int) := by rw [hp, Int.natCast_mul]
    have hw1 : IntKind.u64.wrap (p : Int) = (p : Int) := by rw [IntKind.wrap_u64]; omega
    have hw0 : IntKind.u64.wrap (s : Int) = (s : Int) := by rw [IntKind.wrap_u64]; omega
    have hw2 : IntKind.u64.wrap (B : Int) = (B : Int) := by rw [IntKind.wrap_u64]; omega
    have hw3 : IntKind.u32.wrap (B : Int) = (B : Int) := by rw [IntKind.wrap_u32]; omega
    by_cases h : p ≤ 4294967295
    · have t0 : decide ((p : Int) ≤ 4294967295) = true := by rw [decide_eq_true_eq]; omega
      have t1 : decide (p ≤ 4294967295) = true := decide_eq_true h
      have hw4 : IntKind.u32.wrap (p : Int) = (p : Int) := by rw [IntKind.wrap_u32]; omega
      have hk31 : k < 32 := by
        rcases Nat.lt_or_ge k 32 with h' | h'
        · exact h'
        · have h3 := Nat.pow_le_pow_right (n := 2) (by decide) h'
          have h4 : 2 ^ 32 = 4294967296 := by decide
          have := hsk.out.2
          omega
      have HP := Lib.hid (And.intro hp (And.intro h2 h))
      clear hp hpl h h2 h36
      go_wp2
      go_roundw
      case rel =>
        have hp := HP.out.1
        have hpm := HP.out.2.2
        refine ⟨p, k + 1, rfl, by go_num, hpm, by omega, ⟨?_, ?_⟩, trivial⟩
        · rw [hp, hsk.out.1, Nat.pow_succ]
        · rw [hp, Nat.pow_succ]
          exact Nat.mul_le_mul hsk.out.2 HP.out.2.1
      case measure =>
        have hp := HP.out.1
        have h1 : 1 ≤ s := Nat.le_trans (Nat.one_le_two_pow (n := k)) hsk.out.2
        have h3 : s * 2 ≤ p := by rw [hp]; exact Nat.mul_le_mul_left _ HP.out.2.1
        have hpm := HP.out.2.2
        simp only [intOf, Int.toNat_natCast]
        omega
    · have t0 : decide ((p : Int) ≤ 4294967295) = false := by rw [decide_eq_false_iff_not]; omega
      have t1 : decide (p ≤ 4294967295) = false := decide_eq_false h
      have HP := Lib.hid (And.intro hp (And.intro h h2))
      clear hp hpl h h2 h36
      go_wp2
      refine bodyPost_ret (v := .tuple #[.int .u32 s, .int .i64 k]) (by simp [results, Tryz.results209, go_sem]) rfl ?_
      have hk31 : k ≤ 31 := by
        rcases Nat.lt_or_ge 31 k with h' | h'
        · have h3 := Nat.pow_le_pow_right (n := 2) (by decide) h'
          have h4 : 2 ^ 32 = 4294967296 := by decide
          have := hsk.out.2
          have h5 : 2 ^ (31 + 1) ≤ 2 ^ k := h3
          omega
        · exact h'
      refine ⟨⟨s, k, rfl, hsk.out.1, hs, ?_, hk31⟩, rfl⟩
      have := HP.out.2.1
      rw [HP.out.1] at this
      omega

/-- the digits of n to a base, the last one first; of 0 none -/
def digitsB (B n : Nat) : List Nat := if _h : n = 0 ∨ B < 2 then [] else n % B :: digitsB B (n / B)
termination_by n
decreasing_by exact Nat.div_lt_self (by omega) (by omega)
theorem digitsB_zero (B : Nat) : digitsB B 0 = [] := by rw [digitsB]; simp
theorem digitsB_pos {B n : Nat} (hB : 2 ≤ B) (h : n ≠ 0) : digitsB B n = n % B :: digitsB B (n / B) := by rw [digitsB, dif_neg (by omega)]
theorem digitsB_step {B q r j : Nat} (hB : 2 ≤ B) (h : q ≠ 0 ∨ r ≠ 0) : digitsB B (q + B ^ (j + 1) * r) = (q % B) :: digitsB B (q / B + B ^ j * r) := by
  have h1 : q + B ^ (j + 1) * r = q + B * (B ^ j * r) := by rw [Nat.pow_succ, Nat.mul_comm (B ^ j) B, Nat.mul_assoc]
  have h0 : q + B * (B ^ j * r) ≠ 0 := by
    rcases h with h | h
    · omega
    · have h2 : 0 < B * (B ^ j * r) := Nat.mul_pos (by omega) (Nat.mul_pos (Nat.pow_pos (by omega)) (Nat.pos_of_ne_zero h))
      omega
  rw [h1, digitsB_pos hB h0, Nat.add_mul_mod_self_left, Nat.add_mul_div_left _ _ (by omega)]
theorem digitsB_lt {B : Nat} (hB : 2 ≤ B) : ∀ (n x : Nat), x ∈ digitsB B n → x < B := by
  intro n
  induction n using Nat.strongRecOn with
  | ind n ih =>
    intro x hx
    by_cases h : n = 0
    · rw [h, digitsB_zero] at hx; cases hx
    · rw [digitsB_pos hB h] at hx
      rcases List.mem_cons.1 hx with rfl | hx
      · exact Nat.mod_lt _ (by omega)
      · exact ih _ (Nat.div_lt_self (by omega) (by omega)) x hx
/-- a division by a number of one word, whose answers lie in memory of their own -/
theorem div_own (va vb : Value) (m n : Nat) (w : World) (ha : At w va (Nl.limbs m)) (hb : At w vb (Nl.limbs n)) (hm : (Nl.limbs m).length ≤ 1024) (hn0 : n ≠ 0) (hn : n < 4294967296) :
    Calls Tryz.prog 140 #[va, vb] w fun e w' => (∃ u v, e = .returned (.tuple #[u, v, .int .i64 0]) ∧ Own w.heap.size w' u (Nl.limbs (m / n)) ∧ Own w.heap.size w' v (Nl.limbs (m % n))) ∧ Below w.heap.size w w' := by
  have ln : (Nl.limbs n).length ≤ 1 := Nl.limbs_lt (by omega)
  refine (div_any va vb _ _ w ha hb (Nl.limbs_small m) (Nl.limbs_small n) (fun _ _ _ w' hw' => ?_)).mono ?_
  · rw [Nl.val_limbs, Nl.val_limbs]
    exact over_one _ _ _ _ _ (show IsN w' va m from ha.below hw') (show IsN w' vb n from hb.below hw') (Nat.le_trans hm (by decide)) (Nat.pos_of_ne_zero hn0) hn
  · rintro e w2 ⟨c, hc, ⟨u, v, rfl, h2, h3⟩, hb⟩
    rw [Nl.val_limbs, Nl.val_limbs] at h2
    have hc0 : c = 0 := by
      rcases hc with ⟨_, _, h⟩ | ⟨h, _⟩
      · rw [h, Nl.val_limbs, divK, if_neg (fun h => absurd h.2 (by decide)), if_neg hn0]
      · rw [validB_limbs hm, validB_limbs (by omega)] at h
        rcases h with h | h <;> cases h
    subst hc0
    obtain ⟨o1, o2⟩ := h2 rfl
    exact ⟨⟨_, _, rfl, o1, o2⟩, hb⟩
end Go.Proofs.YtkbghamkalidcaaGreat

namespace Go.Proofs.YtkbghamkalidcaaGreat
open Go.RowKit

attribute [local go_sem] Oper.semAt_some

/-- what new memory alone does not end -/
def AbidesNew (J : List Nat → World → Prop) : Prop := ∀ pre W W', J pre W → Below W.heap.size W W' → J pre W'
/-- what a round keeps: the rows of words, and the variables of type int -/
def KeepTy (W W' : World) : Prop := W.heap.size ≤ W'.heap.size ∧ ∀ (g : Nat) (cs : Array Value) (t : TypeId) (fz : Nat × Nat), t = 80 ∨ t = 3 → W.heap[g]? = some (Obj.cells cs t fz) → W'.heap[g]? = some (Obj.cells cs t fz)
theorem KeepTy.refl (W : World) : KeepTy W W := ⟨Nat.le_refl _, fun _ _ _ _ _ h => h⟩
theorem KeepTy.trans {A B C : World} (h : KeepTy A B) (k : KeepTy B C) : KeepTy A C := ⟨Nat.le_trans h.1 k.1, fun g cs t fz ht hg => k.2 g cs t fz ht (h.2 g cs t fz ht hg)⟩
theorem KeepTy.own {W W' : World} (h : KeepTy W W') {base : Nat} {v : Value} {xs : List Nat} (ho : Own base W v xs) : Own base W' v xs := by
  rcases ho with h1 | ⟨g, L, h1, h2, h3, h4, h5, h6⟩
  · exact .inl h1
  · exact .inr ⟨g, L, h1, h2, h.2 g _ _ _ (.inl rfl) h3, h4, h5, h6⟩
/-- the variables of the iterator -/
structure SeqBox (W : World) (ks kz kb s z B : Nat) : Prop where
  s : W.heap[ks]? = some (.cells #[.int .u32 s] 80 (0, 0))
  z : W.heap[kz]? = some (.cells #[.int .i64 z] 3 (0, 0))
  b : W.heap[kb]? = some (.cells #[.int .i64 B] 3 (0, 0))
theorem SeqBox.keep {W W' : World} {ks kz kb s z B : Nat} (h : SeqBox W ks kz kb s z B) (k : KeepTy W W') : SeqBox W' ks kz kb s z B := ⟨k.2 _ _ _ _ (.inl rfl) h.s, k.2 _ _ _ _ (.inr rfl) h.z, k.2 _ _ _ _ (.inr rfl) h.b⟩
theorem SeqBox.below {W W' : World} {ks kz kb s z B : Nat} (h : SeqBox W ks kz kb s z B) (k : Below W.heap.size W W') : SeqBox W' ks kz kb s z B := ⟨(k.block _ (lt_of_block h.s)).trans h.s, (k.block _ (lt_of_block h.z)).trans h.z, (k.block _ (lt_of_block h.b)).trans h.b⟩
/-- the number that a slice stands for, read off the world -/
noncomputable def restN (W : World) (v : Value) : Nat := by
  classical exact if h : ∃ r, At W v (Nl.limbs r) then Classical.choose h else 0
theorem restN_of {W : World} {v : Value} {r : Nat} (h : At W v (Nl.limbs r)) : restN W v = r := by
  have hex : ∃ r, At W v (Nl.limbs r) := ⟨r, h⟩
  rw [restN, dif_pos hex]
  exact Nl.limbs_inj (iat_inj (Classical.choose_spec hex) h)
theorem one_at (x : Nat) (w : World) (h0 : x ≠ 0) (h : x < 4294967296) : At (w.alloc (.cells #[.int .u32 x] 80)) (.slice (some ⟨w.heap.size, 0, none⟩) 1 1) (Nl.limbs x) := by
  rw [limbs_one h0 h]
  refine .inr ⟨w.heap.size, 0, 1, rfl, trivial, by simp, by decide, by simp, fun i hi => ?_⟩
  match i, hi with
  | 0, _ => exact (row_new w [x]).cell (by simp)

set_option maxHeartbeats 4000000 in
theorem digitsI1_in (n l ka ks kz kb m B s z : Nat) (hn : 1 ≤ n) (hB : 2 ≤ B) (hB36 : B ≤ 36) (hok : chunkOk B s z) (va : Value) (J : List Nat → World → Prop) (W : World) (hJ : AbidesNew J)
    (hY : ∀ pre x W1, J pre W1 → x < B → pre.length < (digitsB B m).length → YieldAt Fence.wide (n - 1) Tryz.prog l #[.int .i64 ((x : Nat) : Int)] W1 fun e W' => e = .returned (.bool true) ∧ J (pre ++ [x]) W' ∧ KeepTy W1 W')
    (hK : W.cell? ⟨ka, 0, none⟩ = some va) (hX : SeqBox W ks kz kb s z B) (ha : At W va (Nl.limbs m)) (hl : (Nl.limbs m).length ≤ 1024) (h : J [] W) :
    CallsIn Fence.wide n Tryz.prog 210 #[.func (.yield l) #[] #[], .pointer (some ⟨ka, 0, none⟩), .pointer (some ⟨ks, 0, none⟩), .pointer (some ⟨kz, 0, none⟩), .pointer (some ⟨kb, 0, none⟩)] W fun e W' => (∃ v, e = .returned v) ∧ J (digitsB B m) W' := by
  obtain ⟨a, ca, rfl, -⟩ := ha.form
  have HA := Lib.hid ha
  have HJ := Lib.hid hJ
  have HY := Lib.hid hY
  have H0 := Lib.hid h
  have HL := Lib.hid hl
  have HX := Lib.hid hX
  have HB := Lib.hid (And.intro hB hB36)
  have hs0 : s ≠ 0 := by
    intro h0
    have := hok.2.2.1
    rw [h0, Nat.zero_mul] at this
    omega
  have hs1 : s < 4294967296 := by have := hok.2.1; omega
  have hz31 : z ≤ 31 := hok.2.2.2
  have hs2 : 2 ≤ s := by
    apply Classical.byContradiction
    intro hc
    have h1 : s = 1 := by omega
    have := hok.2.2.1
    rw [h1] at this
    omega
  have HS := Lib.hid (And.intro hok (And.intro hs0 (And.intro hs1 hs2)))
  have hB0 : (B : Int) ≠ 0 := by omega
  have hBw : IntKind.u64.wrap (B : Int) = (B : Int) := by rw [IntKind.wrap_u64]; omega
  clear ha hJ hY h hl hX hB hok hs0 hs1 hs2
  refine callsIn_of_wp Tryz.func210 rfl trivial ?_ rfl
  simp only [Tryz.ntmps210, List.size_toArray, List.length_cons, List.length_nil, Nat.reduceAdd, Nat.reduceSub, Array.replicate_succ, Array.replicate_zero, List.push_toArray, List.append_toArray, List.nil_append, List.cons_append]
  gi_wp2_with fail
  clear hK
  gi_loopw [6, 7, 8, 9, 10] (fun v _ _ _ _ wr => ∃ (r : Nat) (pre : List Nat) (a : Option Addr) (c : Nat), v = .slice a (Nl.limbs r).length c ∧ Hid (At wr (.slice a (Nl.limbs r).length c) (Nl.limbs r)) ∧
      Hid (J pre wr ∧ digitsB B m = pre ++ digitsB B r) ∧ Hid ((Nl.limbs r).length ≤ 1024) ∧ Hid (SeqBox wr ks kz kb s z B)) (fun v _ _ _ _ wr => restN wr v)
  case atStart => exact ⟨m, [], a, ca, rfl, HA.out, ⟨H0.out, rfl⟩, HL.out, HX.out⟩
  case round =>
    obtain ⟨r, pre, a1, c1, rfl, hat, hj, hrl, hbx⟩ := hrel
    by_cases hz : (Nl.limbs r).length = 0
    · have t0 : decide (0 < (Nl.limbs r).length) = false := by rw [decide_eq_false_iff_not]; omega
      have hr0 := Lib.hid (Nl.len_zero hz)
      clear hz
      gi_wp2_with fail
      go_end0
      have := hj.out.2
      rw [hr0.out, digitsB_zero, List.append_nil] at this
      exact ⟨⟨_, rfl⟩, by rw [this]; exact hj.out.1⟩
    · have t0 : decide (0 < (Nl.limbs r).length) = true := by rw [decide_eq_true_eq]; omega
      have hr0 := Lib.hid (show r ≠ 0 from fun h => hz (by rw [h, Nl.limbs_zero]; rfl))
      clear hz
      have hc1 := cell_of_one hbx.out.s
      have HM0 := Lib.hid (restN_of hat.out)
      obtain ⟨W1, hW1⟩ : ∃ W1, W1 = wr.alloc (.cells #[.int .u32 s] 80) := ⟨_, rfl⟩
      have hbn : Below wr.heap.size wr W1 := by rw [hW1]; exact below_one _ _
      have hD := div_own (.slice a1 (Nl.limbs r).length c1) (.slice (some ⟨wr.heap.size, 0, none⟩) 1 1) r s W1 (hat.out.below hbn) (by rw [hW1]; exact one_at s wr HS.out.2.1 HS.out.2.2.1) hrl.out HS.out.2.1 HS.out.2.2.1
      have HD := Lib.hid hD
      have HBN := Lib.hid hbn
      clear hD hbn
      gi_wp2_with fail
      rw [← hW1]
      clear hW1
      refine ⟨trivial, (callsIn_wide.2 HD.out).mono ?_⟩
      rintro e W2 ⟨⟨u, v, rfl, hu, hv⟩, hb2⟩
      obtain ⟨pu, cu, rfl, -⟩ := hu.at.form
      obtain ⟨pv, cv, rfl, -⟩ := hv.at.form
      have hb3 : Below wr.heap.size wr W2 := HBN.out.trans (hb2.mono HBN.out.size)
      have HJ2 := Lib.hid (HJ.out pre wr W2 hj.out.1 hb3)
      have HB2 := Lib.hid (hbx.out.below hb3)
      have hlm : r % s < s := Nat.mod_lt _ (by have := HS.out.2.2.2; omega)
      have HO2 := Lib.hid (hu.mono (Nat.zero_le _))
      have HWO := Lib.hid (wordOf_yes _ (r % s) W2 hv.at.at (by have := HS.out.2.2.1; omega))
      have HDG := Lib.hid (show digitsB B m = pre ++ digitsB B (r % s + B ^ z * (r / s)) by
        rw [hj.out.2, ← HS.out.1.1, Nat.mod_add_div])
      have hr1l : (Nl.limbs (r / s)).length ≤ 1024 := Nat.le_trans (Nl.limbs_mono (Nat.div_le_self _ _)) hrl.out
      have hp0l := Lib.hid hlm
      have hp0m : r % s ≤ 4294967295 := by have := HS.out.2.2.1; omega
      obtain ⟨r1, hr1⟩ : ∃ r1, r1 = r / s := ⟨_, rfl⟩
      obtain ⟨p0, hp0⟩ : ∃ p0, p0 = r % s := ⟨_, rfl⟩
      rw [← hr1] at HO2 HDG hr1l ⊢
      rw [← hp0] at HWO HDG hp0l hp0m ⊢
      have HR1 := Lib.hid hr1
      have HRL := Lib.hid hr1l
      have HMS := Lib.hid (Nat.div_lt_self (Nat.pos_of_ne_zero hr0.out) HS.out.2.2.2)
      rw [← hr1] at HMS
      clear hu hv hb2 hb3 hlm hr1l hr1 hp0 hc1 HD HBN hj hbx hat hrl
      gi_wp2_with (first
        | (refine ⟨trivial, ?_⟩; gi_at_call 139; refine (callsIn_wide.2 (foundTwo_yes _ _ _ _ _ _ _)).mono ?_; rintro e W3 ⟨rfl, rfl⟩)
        | (refine ⟨trivial, ?_⟩; gi_at_call 166; refine (callsIn_wide.2 HWO.out).mono ?_; rintro e W3 ⟨rfl, rfl⟩))
      gi_loopw [9, 10] (fun p i wr1 => ∃ (q k : Nat) (pre1 : List Nat), p = .int .u64 q ∧ i = .int .i64 k ∧ k ≤ z ∧ q ≤ 4294967295 ∧ Hid (q < B ^ (z - k)) ∧ Hid (Own 0 wr1 (.slice pu (Nl.limbs r1).length cu) (Nl.limbs r1)) ∧
        Hid (J pre1 wr1 ∧ digitsB B m = pre1 ++ digitsB B (q + B ^ (z - k) * r1)) ∧ Hid (SeqBox wr1 ks kz kb s z B)) (fun _ i _ => z - (intOf i).toNat)
      case atStart => exact ⟨p0, 0, pre, rfl, rfl, by omega, hp0m, (by rw [Nat.sub_zero, ← HS.out.1.1]; exact hp0l.out), HO2.out, ⟨HJ2.out, HDG.out⟩, HB2.out⟩
      case round =>
        obtain ⟨q, k, pre1, rfl, rfl, hk, hq9, hq, ho1, hj1, hb1⟩ := hrel
        have cz := cell_of_one hb1.out.z
        have cb := cell_of_one hb1.out.b
        by_cases hkz : k < z
        · have t1 : decide ((k : Int) < (z : Int)) = true := by rw [decide_eq_true_eq]; omega
          have t1' : decide (k < z) = true := decide_eq_true hkz
          by_cases hq0 : q = 0
          · have t2 : decide (0 < q) = false := by rw [decide_eq_false_iff_not]; omega
            by_cases hr : (Nl.limbs r1).length = 0
            · have t3 : decide (0 < (Nl.limbs r1).length) = false := by rw [decide_eq_false_iff_not]; omega
              have hz := Lib.hid (And.intro hq0 (Nl.len_zero hr))
              clear hq0 hr
              gi_wp2_with fail
              go_roundw
              case rel =>
                refine ⟨r1, pre1, pu, cu, rfl, ho1.out.at.at, ⟨hj1.out.1, ?_⟩, HRL.out, hb1.out⟩
                have := hj1.out.2
                rw [hz.out.1, hz.out.2, Nat.mul_zero] at this; rw [hz.out.2]
                exact this
              case measure =>
                have x1 := restN_of ho1.out.at.at
                have x2 := HM0.out
                have x3 := HMS.out
                rw [x1, x2]
                exact x3
            · have t3 : decide (0 < (Nl.limbs r1).length) = true := by rw [decide_eq_true_eq]; omega
              have hz := Lib.hid (show q ≠ 0 ∨ r1 ≠ 0 from .inr fun h => hr (by rw [h, Nl.limbs_zero]; rfl))
              clear hr hq0
              have hxl : q % B < B := Nat.mod_lt _ (by have := HB.out.1; omega)
              obtain ⟨fn, tmps, assign, body, hy, hR⟩ := HY.out pre1 (q % B) wr hj1.out.1 hxl (by rw [hj1.out.2, show z - k = z - (k + 1) + 1 by omega, digitsB_step HB.out.1 hz.out]; simp)
              obtain ⟨x, hx⟩ : ∃ x, x = q % B := ⟨_, rfl⟩
              obtain ⟨y, hyq⟩ : ∃ y, y = q / B := ⟨_, rfl⟩
              have hxi : (q : Int) % (B : Int) = (x : Int) := by rw [hx, Int.natCast_emod]
              have hyi : (q : Int) / (B : Int) = (y : Int) := by rw [hyq, Int.natCast_ediv]
              have hx36 : x ≤ 36 := by rw [hx]; have := HB.out.2; omega
              have hy9 : y ≤ 4294967295 := by rw [hyq]; exact Nat.le_trans (Nat.div_le_self _ _) hq9
              have hxw : IntKind.i64.wrap (x : Int) = (x : Int) := by rw [IntKind.wrap_i64]; omega
              have hyw : IntKind.u64.wrap (y : Int) = (y : Int) := by rw [IntKind.wrap_u64]; omega
              have hqw : IntKind.u64.wrap (q : Int) = (q : Int) := by rw [IntKind.wrap_u64]; omega
              rw [← hx] at hy hR
              have HR := Lib.hid hR
              have HXY := Lib.hid (And.intro hx hyq)
              clear hR hx hyq hxl
              gi_wp2_with fail
              refine HR.out.mono ?_
              rintro e W3 ⟨rfl, hJ3, hk3⟩
              have HJ3 := Lib.hid hJ3
              have HO3 := Lib.hid (hk3.own ho1.out)
              have HB3 := Lib.hid (hb1.out.keep hk3)
              have cb3 := cell_of_one HB3.out.b
              clear hJ3 hk3 hy cz cb
              gi_wp2_with fail
              go_roundw
              case rel =>
                have hq := hq.out
                refine ⟨y, k + 1, pre1 ++ [x], by go_num, by go_num, by omega, hy9, ?_, HO3.out, ⟨HJ3.out, ?_⟩, HB3.out⟩
                · rw [HXY.out.2]
                  rw [show z - k = z - (k + 1) + 1 by omega, Nat.pow_succ] at hq
                  exact Nat.div_lt_of_lt_mul (by rw [Nat.mul_comm]; exact hq)
                · have h1 := hj1.out.2
                  rw [show z - k = z - (k + 1) + 1 by omega, digitsB_step HB.out.1 hz.out] at h1
                  rw [h1, HXY.out.1, HXY.out.2]; simp
              case measure => simp [intOf] <;> omega
          · have t2 : decide (0 < q) = true := by rw [decide_eq_true_eq]; omega
            have hz := Lib.hid (show q ≠ 0 ∨ r1 ≠ 0 from .inl hq0)
            clear hq0
            have hxl : q % B < B := Nat.mod_lt _ (by have := HB.out.1; omega)
            obtain ⟨fn, tmps, assign, body, hy, hR⟩ := HY.out pre1 (q % B) wr hj1.out.1 hxl (by rw [hj1.out.2, show z - k = z - (k + 1) + 1 by omega, digitsB_step HB.out.1 hz.out]; simp)
            obtain ⟨x, hx⟩ : ∃ x, x = q % B := ⟨_, rfl⟩
            obtain ⟨y, hyq⟩ : ∃ y, y = q / B := ⟨_, rfl⟩
            have hxi : (q : Int) % (B : Int) = (x : Int) := by rw [hx, Int.natCast_emod]
            have hyi : (q : Int) / (B : Int) = (y : Int) := by rw [hyq, Int.natCast_ediv]
            have hx36 : x ≤ 36 := by rw [hx]; have := HB.out.2; omega
            have hy9 : y ≤ 4294967295 := by rw [hyq]; exact Nat.le_trans (Nat.div_le_self _ _) hq9
            have hxw : IntKind.i64.wrap (x : Int) = (x : Int) := by rw [IntKind.wrap_i64]; omega
            have hyw : IntKind.u64.wrap (y : Int) = (y : Int) := by rw [IntKind.wrap_u64]; omega
            have hqw : IntKind.u64.wrap (q : Int) = (q : Int) := by rw [IntKind.wrap_u64]; omega
            rw [← hx] at hy hR
            have HR := Lib.hid hR
            have HXY := Lib.hid (And.intro hx hyq)
            clear hR hx hyq hxl
            gi_wp2_with fail
            refine HR.out.mono ?_
            rintro e W3 ⟨rfl, hJ3, hk3⟩
            have HJ3 := Lib.hid hJ3
            have HO3 := Lib.hid (hk3.own ho1.out)
            have HB3 := Lib.hid (hb1.out.keep hk3)
            have cb3 := cell_of_one HB3.out.b
            clear hJ3 hk3 hy cz cb
            gi_wp2_with fail
            go_roundw
            case rel =>
              have hq := hq.out
              refine ⟨y, k + 1, pre1 ++ [x], by go_num, by go_num, by omega, hy9, ?_, HO3.out, ⟨HJ3.out, ?_⟩, HB3.out⟩
              · rw [HXY.out.2]
                rw [show z - k = z - (k + 1) + 1 by omega, Nat.pow_succ] at hq
                exact Nat.div_lt_of_lt_mul (by rw [Nat.mul_comm]; exact hq)
              · have h1 := hj1.out.2
                rw [show z - k = z - (k + 1) + 1 by omega, digitsB_step HB.out.1 hz.out] at h1
                rw [h1, HXY.out.1, HXY.out.2]; simp
            case measure => simp [intOf] <;> omega
        · obtain rfl : k = z := by omega
          obtain rfl : q = 0 := by
            have := hq.out
            rw [Nat.sub_self, Nat.pow_zero] at this
            omega
          have t1 : decide ((k : Int) < (k : Int)) = false := by simp
          have t1' : decide (k < k) = false := by simp
          clear hkz hk
          gi_wp2_with (exfalso; have hx : ∃ b, some undef = some (Value.bool b) := ⟨_, by assumption⟩; obtain ⟨b, hb⟩ := hx; cases hb)
          go_roundw
          case rel =>
            refine ⟨r1, pre1, pu, cu, rfl, ho1.out.at.at, ⟨hj1.out.1, ?_⟩, HRL.out, hb1.out⟩
            have := hj1.out.2
            rw [Nat.sub_self, Nat.pow_zero, Nat.one_mul, Nat.zero_add] at this
            exact this
          case measure =>
            have x1 := restN_of ho1.out.at.at
            have x2 := HM0.out
            have x3 := HMS.out
            rw [x1, x2]
            exact x3
end Go.Proofs.YtkbghamkalidcaaGreat
