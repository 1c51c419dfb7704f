/-
  What the reference's Div of integers gives, and Div of package whole, with their errors. Written by wip/tool/genrdiv.py. Conditions: those that each theorem names.
  What rounded division means: sizes, signs, and where quotients lie. Conditions: those that each theorem names.
  Pieces for the law WholeDivision: Div of two numbers without an error, a magnitude as an integer, signs as they lie in memory. Conditions: those that each theorem names.
  Blocks that a region makes which draws its order. Written by wip/tool/genbit.py. Conditions: those that each theorem names.
  Strips of words as two's complement: what they count. Conditions: those that each theorem names.
  And, Or and Xor of numbers and of strips. Conditions: those that each theorem names.
-/
import Derived.Test.YtkbghamkalidcaaGreatDivEAll
import Derived.Test.YtkbghamkalidcaaGreatLawFns
import Derived.Test.YtkbghamkalidcaaGreatAwake
import Derived.Test.YtkbghamkalidcaaGreatMath
namespace Go.Proofs.YtkbghamkalidcaaGreat
open Go.RowKit

/-- the parts of a division's result: K is the error -/
def DivS (w : World) (K x y : Int) (s : Bool) (p : Option Addr) (l c : Nat) (s' : Bool) (p' : Option Addr) (l' c' : Nat) : Prop :=
  (K = 0 → IsI w (.agg #[.bool s, .slice p l c]) x ∧ IsI w (.agg #[.bool s', .slice p' l' c']) y) ∧ (K ≠ 0 → s = false ∧ p = none ∧ l = 0 ∧ c = 0 ∧ s' = false ∧ p' = none ∧ l' = 0 ∧ c' = 0)
theorem DivS.below {w w' : World} {K x y : Int} {s s' : Bool} {p p' : Option Addr} {l c l' c' : Nat} (h : DivS w K x y s p l c s' p' l' c') (hb : Below w.heap.size w w') : DivS w' K x y s p l c s' p' l' c' := ⟨fun h0 => ⟨AtI.below (h.1 h0).1 hb, AtI.below (h.1 h0).2 hb⟩, h.2⟩
def WDivOut (w w' : World) (e : Ending) (K x y : Int) : Prop := (∃ s p l c s' p' l' c', e = .returned (.tuple #[.agg #[.bool s, .slice p l c], .agg #[.bool s', .slice p' l' c'], .int .i64 K]) ∧ DivS w' K x y s p l c s' p' l' c') ∧ Below w.heap.size w w'

theorem natAbs_lt_pos {r d : Nat} (h : d ≠ 0) : r % d < d := Nat.mod_lt _ (by omega)
/-- the rest is what is left -/
theorem divR_eq (how : Nat) (a b : Int) (hb : b ≠ 0) : divR how a b = a - divQ how a b * b := by
  have ha := sgn_self a
  have hbb := sgn_self b
  obtain ⟨A, hA⟩ : ∃ A, A = a.natAbs := ⟨_, rfl⟩
  obtain ⟨D, hD⟩ : ∃ D, D = b.natAbs := ⟨_, rfl⟩
  obtain ⟨sa, hsa⟩ : ∃ sa, sa = negB a := ⟨_, rfl⟩
  obtain ⟨sb, hsb⟩ : ∃ sb, sb = negB b := ⟨_, rfl⟩
  have hD0 : D ≠ 0 := by omega
  have hmod := natAbs_lt_pos (r := A) hD0
  have hdm := Nat.div_add_mod A D
  rw [divR, divQ, ← hA, ← hD, ← hsa, ← hsb]
  rw [← hA, ← hsa] at ha
  rw [← hD, ← hsb] at hbb
  obtain ⟨q, hq⟩ : ∃ q, q = A / D := ⟨_, rfl⟩
  obtain ⟨r, hr⟩ : ∃ r, r = A % D := ⟨_, rfl⟩
  rw [← hq, ← hr] at hdm ⊢
  rw [← hr] at hmod
  have e1 : ((A : Nat) : Int) = (D : Int) * (q : Int) + (r : Int) := by rw [← hdm]; simp
  have e2 : ((q + 1 : Nat) : Int) * (D : Int) = (D : Int) * (q : Int) + (D : Int) := by rw [Int.natCast_add, Int.add_mul, Int.mul_comm]; simp
  have e3 : (q : Int) * (D : Int) = (D : Int) * (q : Int) := Int.mul_comm _ _
  obtain ⟨P, hP⟩ : ∃ P : Int, P = (D : Int) * (q : Int) := ⟨_, rfl⟩
  rw [← hP] at e1 e2 e3
  rw [← ha, ← hbb]
  by_cases hc : r = 0 ∨ farB how sa sb q r D = false
  · rw [if_pos hc, if_pos hc]
    cases sa <;> cases sb
    · show (r : Int) = (A : Int) - (q : Int) * (D : Int); rw [e3, e1]; omega
    · show (r : Int) = (A : Int) - (-(q : Int)) * (-(D : Int)); rw [Int.neg_mul_neg, e3, e1]; omega
    · show -(r : Int) = -(A : Int) - (-(q : Int)) * (D : Int); rw [Int.neg_mul, e3, e1]; omega
    · show -(r : Int) = -(A : Int) - (q : Int) * (-(D : Int)); rw [Int.mul_neg, e3, e1]; omega
  · rw [if_neg hc, if_neg hc]
    have e4 : ((D - r : Nat) : Int) = (D : Int) - (r : Int) := by omega
    cases sa <;> cases sb
    · show -((D - r : Nat) : Int) = (A : Int) - ((q + 1 : Nat) : Int) * (D : Int); rw [e2, e1, e4]; omega
    · show -((D - r : Nat) : Int) = (A : Int) - (-((q + 1 : Nat) : Int)) * (-(D : Int)); rw [Int.neg_mul_neg, e2, e1, e4]; omega
    · show ((D - r : Nat) : Int) = -(A : Int) - (-((q + 1 : Nat) : Int)) * (D : Int); rw [Int.neg_mul, e2, e1, e4]; omega
    · show ((D - r : Nat) : Int) = -(A : Int) - ((q + 1 : Nat) : Int) * (-(D : Int)); rw [Int.mul_neg, e2, e1, e4]; omega

/-- the lengths of what a division gives -/
theorem divQ_len (how : Nat) (a b : Int) (la : (Nl.limbs a.natAbs).length ≤ 1000) : fitI (divQ how a b) := by
  have h1 : (Nl.limbs (a.natAbs / b.natAbs)).length ≤ 1000 := Nat.le_trans (Nl.limbs_mono (Nat.div_le_self _ _)) la
  have h2 := Nl.len_add (a.natAbs / b.natAbs) 1
  have h3 : (Nl.limbs 1).length ≤ 1 := Nl.limbs_lt (by decide)
  rw [divQ]
  split <;> rw [fitI, sgn_abs] <;> omega
theorem divR_len (how : Nat) (a b : Int) (lb : (Nl.limbs b.natAbs).length ≤ 1000) (hb : b ≠ 0) : fitI (divR how a b) := by
  have hm := natAbs_lt_pos (r := a.natAbs) (show b.natAbs ≠ 0 by omega)
  rw [divR]
  split
  · rw [fitI, sgn_abs]; exact Nat.le_trans (Nl.limbs_mono (Nat.le_of_lt hm)) (Nat.le_trans lb (by decide))
  · rw [fitI, sgn_abs]; exact Nat.le_trans (Nl.limbs_mono (Nat.sub_le _ _)) (Nat.le_trans lb (by decide))

theorem isI_valid {w : World} {v : Value} {s : Bool} {xs : List Nat} (h : AtI w v s xs) (hm : Nl.Small xs) (hok : validI s xs = true) : IsI w v (sgn s (Nl.val xs)) ∧ Nl.limbs (sgn s (Nl.val xs)).natAbs = xs := by
  obtain ⟨p, c, rfl, u⟩ := h.form
  obtain ⟨e1, e2, -⟩ := validI_norm hm hok
  exact ⟨(isI_of_ok (at_of h) hm hok).1, e2.symm⟩

theorem wDiv_any (va vb : Value) (s0 s1 : Bool) (xs ys : List Nat) (how : Int) (w : World) (h0 : AtI w va s0 xs) (h1 : AtI w vb s1 ys) (m0 : Nl.Small xs) (m1 : Nl.Small ys) (la : xs.length ≤ 900) (lb : ys.length ≤ 900) :
    Calls Tryz.prog 31 #[va, vb, .int .i64 how] w fun e w' => WDivOut w w' e (divK2 s0 s1 xs ys how) (divQ how.toNat (sgn s0 (Nl.val xs)) (sgn s1 (Nl.val ys))) (divR how.toNat (sgn s0 (Nl.val xs)) (sgn s1 (Nl.val ys))) := by
  by_cases hk : divK2 s0 s1 xs ys how = 0
  · have hok : (validI s0 xs && validI s1 ys) = true := by
      by_cases h : (validI s0 xs && validI s1 ys) = true
      · exact h
      · rw [divK2, if_neg h] at hk; exact absurd hk (by decide)
    have hhow : 1 ≤ how ∧ how ≤ 4 := by
      rw [divK2, if_pos hok] at hk
      by_cases h : 1 ≤ how ∧ how ≤ 4
      · exact h
      · rw [if_neg h] at hk; exact absurd hk (by decide)
    have hl : ys.length ≠ 0 := by
      rw [divK2, if_pos hok, if_pos hhow] at hk
      intro h
      rw [if_pos h] at hk; exact absurd hk (by decide)
    rw [Bool.and_eq_true] at hok
    obtain ⟨ia, ea⟩ := isI_valid h0 m0 hok.1
    obtain ⟨ib, eb⟩ := isI_valid h1 m1 hok.2
    obtain ⟨n, hn⟩ : ∃ n : Nat, how = n := ⟨how.toNat, by omega⟩
    subst hn
    have hb0 : sgn s1 (Nl.val ys) ≠ 0 := fun h => hl (by rw [← eb, h]; show (Nl.limbs 0).length = 0; rw [Nl.limbs_zero]; rfl)
    rw [hk]
    refine (wholeDiv_ok va vb s0 s1 n xs ys (divQ n (sgn s0 (Nl.val xs)) (sgn s1 (Nl.val ys))) (divR n (sgn s0 (Nl.val xs)) (sgn s1 (Nl.val ys))) w h0 h1 hok.1 hok.2 hhow.1 hhow.2 (by omega) (divQ_len _ _ _ (by rw [ea]; omega)) (divR_len _ _ _ (by rw [eb]; omega) hb0) (fun w' hw' => over_gen n (by omega) (by omega) va vb _ _ w' (AtI.below ia hw') (AtI.below ib hw') (by rw [ea]; omega) (by rw [fitI, eb]; omega) hb0)).mono ?_
    rintro e w' ⟨⟨u, v, rfl, hu, hv⟩, hb⟩
    obtain ⟨p, c, rfl, -⟩ := AtI.form hu
    obtain ⟨p', c', rfl, -⟩ := AtI.form hv
    exact ⟨⟨_, _, _, _, _, _, _, _, rfl, fun _ => ⟨hu, hv⟩, fun h => absurd rfl h⟩, hb⟩
  · refine (wholeDiv_bad va vb s0 s1 how xs ys w h0 h1 hk).mono ?_
    rintro e w' ⟨rfl, hb⟩
    exact ⟨⟨_, _, _, _, _, _, _, _, rfl, fun h => absurd h hk, fun _ => ⟨rfl, rfl, rfl, rfl, rfl, rfl, rfl, rfl⟩⟩, hb⟩

end Go.Proofs.YtkbghamkalidcaaGreat

namespace Go.Proofs.YtkbghamkalidcaaGreat
open Go.RowKit

theorem divR_less (how : Nat) (a b : Int) (hb : b ≠ 0) : (divR how a b).natAbs < b.natAbs := by
  have hm := natAbs_lt_pos (r := a.natAbs) (show b.natAbs ≠ 0 by omega)
  rw [divR]
  split
  · rw [sgn_abs]; exact hm
  · next h =>
    have h0 : a.natAbs % b.natAbs ≠ 0 := fun h0 => h (.inl h0)
    rw [sgn_abs]; omega
theorem negB_sgn_pos {s : Bool} {m : Nat} (h : 0 < m) : negB (sgn s m) = s := by rw [sgn_neg, decide_eq_true h, Bool.and_true]
theorem divR_down_way (a b : Int) (hb : b ≠ 0) (hr : divR 2 a b ≠ 0) : negB (divR 2 a b) = negB b := by
  have hm := natAbs_lt_pos (r := a.natAbs) (show b.natAbs ≠ 0 by omega)
  by_cases h0 : a.natAbs % b.natAbs = 0
  · refine absurd ?_ hr
    rw [divR, if_pos (.inl h0), h0]; cases negB a <;> rfl
  · cases hs : (negB a == negB b) with
    | true =>
      rw [divR, if_pos (.inr (by simp [farB, hs])), negB_sgn_pos (Nat.pos_of_ne_zero h0)]
      simpa using hs
    | false =>
      rw [divR, if_neg (by simp [farB, hs, h0]), negB_sgn_pos (by omega)]
      cases ha : negB a <;> cases hbb : negB b <;> rw [ha, hbb] at hs <;> first | rfl | exact absurd hs (by decide)
end Go.Proofs.YtkbghamkalidcaaGreat

namespace Go.Proofs.YtkbghamkalidcaaGreat
open Go.RowKit

theorem wDivN (va vb : Value) (a b : Int) (how : Nat) (w : World) (ha : IsI w va a) (hb : IsI w vb b) (la : (Nl.limbs a.natAbs).length ≤ 900) (lb : (Nl.limbs b.natAbs).length ≤ 900) (hb0 : b ≠ 0) (h1 : 1 ≤ how) (h4 : how ≤ 4) :
    Calls Tryz.prog 31 #[va, vb, .int .i64 how] w fun e w' => (∃ s p l c s' p' l' c', e = .returned (.tuple #[.agg #[.bool s, .slice p l c], .agg #[.bool s', .slice p' l' c'], .int .i64 0]) ∧ IsI w' (.agg #[.bool s, .slice p l c]) (divQ how a b) ∧ IsI w' (.agg #[.bool s', .slice p' l' c']) (divR how a b)) ∧ Below w.heap.size w w' := by
  have hd := wDiv_any va vb _ _ _ _ (how : Int) w ha hb (Nl.limbs_small _) (Nl.limbs_small _) la lb
  have hl : (Nl.limbs b.natAbs).length ≠ 0 := fun h => by have := limbs_nil.1 h; omega
  have hK : divK2 (negB a) (negB b) (Nl.limbs a.natAbs) (Nl.limbs b.natAbs) (how : Int) = 0 := by
    rw [divK2, validI_of (Nat.le_trans la (by decide)), validI_of (Nat.le_trans lb (by decide)), if_pos (show (true && true) = true from rfl), if_pos ⟨by omega, by omega⟩, if_neg hl]
  rw [hK, sgn_val, sgn_val, show ((how : Int)).toNat = how by omega] at hd
  refine hd.mono ?_
  rintro e w' ⟨⟨s, p, l, c, s', p', l', c', rfl, hx, -⟩, hb⟩
  exact ⟨⟨s, p, l, c, s', p', l', c', rfl, (hx rfl).1, (hx rfl).2⟩, hb⟩
end Go.Proofs.YtkbghamkalidcaaGreat

namespace Go.Proofs.YtkbghamkalidcaaGreat
open Go.RowKit

theorem sl_al {D w' : World} (h : Below D.heap.size D w') (o : Obj) : Below D.heap.size D (w'.alloc o) := h.alloc h.size o
theorem sl_dr {B : Nat} {D w' : World} (h : Below B D w') : Below B D w'.drew := h.trans (below_drewN w' 1 B)
theorem sl_st {D w' : World} {p : Addr} (h : Below D.heap.size D w') (hp : D.heap.size ≤ p.block) (v : Value) : Below D.heap.size D (w'.setCell p v) := h.setCell hp v
theorem sl_via {W wd : World} (h : Below W.heap.size W wd) {g : Nat} {o : Obj} (r : W.heap[g]? = some o) : wd.heap[g]? = some o := (h.block _ (lt_of_block r)).trans r
theorem sl_set2 {w : World} {y : Nat} {v : Value} {n : Int} (a b : Value) (h : IsI w v n) (row : w.heap[y]? = some (.cells #[.bool false, .slice none 0 0] 25 (0, 0))) : IsI ((w.setCell ⟨y, 0, none⟩ a).setCell ⟨y, 1, none⟩ b) v n := by
  obtain ⟨u, e, hu⟩ := h
  exact ⟨u, e, at_ibox a b hu row⟩
theorem sl_row2 {w : World} {y z : Nat} {o : Obj} (a b : Value) (hne : ¬ z = y) (row : w.heap[z]? = some o) : ((w.setCell ⟨y, 0, none⟩ a).setCell ⟨y, 1, none⟩ b).heap[z]? = some o := by
  rw [Below.heap_setCell _ ⟨y, 1, none⟩ _ _ hne, Below.heap_setCell _ ⟨y, 0, none⟩ _ _ hne]; exact row
theorem sl_size2 (w : World) (y : Nat) (a b : Value) : ((w.setCell ⟨y, 0, none⟩ a).setCell ⟨y, 1, none⟩ b).heap.size = w.heap.size := by simp
theorem sl_f1 {w : World} {s : Bool} {p : Option Addr} {l c : Nat} {n : Int} (o : Obj) (h : IsI w (Value.agg #[.bool s, .slice p l c]) n) : Kept ((w.alloc o).alloc (.cells #[.bool s, .slice p l c] 25)) (w.heap.size + 1) s p l c n := ⟨heap_alloc2_new w _ _, h.below (two_new w _ _)⟩
theorem sl_f2 {w : World} {s : Bool} {p : Option Addr} {l c : Nat} {n : Int} (o : Obj) (h : IsI w (Value.agg #[.bool s, .slice p l c]) n) : Kept ((w.alloc (.cells #[.bool s, .slice p l c] 25)).alloc o) w.heap.size s p l c n := ⟨heap_alloc2_old w _ _, h.below (two_new w _ _)⟩
theorem sl_f3 {w : World} {y : Nat} {s : Bool} {p : Option Addr} {l c : Nat} {n : Int} (a b : Value) (h : IsI w (Value.agg #[.bool s, .slice p l c]) n) (row : w.heap[y]? = some (.cells #[.bool false, .slice none 0 0] 25 (0, 0))) : Kept (((w.setCell ⟨y, 0, none⟩ a).setCell ⟨y, 1, none⟩ b).alloc (.cells #[.bool s, .slice p l c] 25)) w.heap.size s p l c n :=
  ⟨al_at _ _ (sl_size2 w y a b), (sl_set2 a b h row).below (below_one _ _)⟩
theorem sl_f4 {w : World} {y z : Nat} {s : Bool} {p : Option Addr} {l c : Nat} {n : Int} (a b : Value) (h : IsI w (Value.agg #[.bool s, .slice p l c]) n) (ry : w.heap[y]? = some (.cells #[.bool false, .slice none 0 0] 25 (0, 0))) (rz : w.heap[z]? = some (.cells #[.bool false, .slice none 0 0] 25 (0, 0))) (hne : ¬ z = y) : Kept ((((w.setCell ⟨y, 0, none⟩ a).setCell ⟨y, 1, none⟩ b).setCell ⟨z, 0, none⟩ (.bool s)).setCell ⟨z, 1, none⟩ (.slice p l c)) z s p l c n :=
  ⟨ibox_set _ _ (sl_row2 a b hne rz), sl_set2 _ _ (sl_set2 a b h ry) (sl_row2 a b hne rz)⟩
theorem sl_f5 {w : World} {z : Nat} {s : Bool} {p : Option Addr} {l c : Nat} {n : Int} (o : Obj) (h : IsI w (Value.agg #[.bool s, .slice p l c]) n) (rz : w.heap[z]? = some (.cells #[.bool false, .slice none 0 0] 25 (0, 0))) : Kept (((w.setCell ⟨z, 0, none⟩ (.bool s)).setCell ⟨z, 1, none⟩ (.slice p l c)).alloc o) z s p l c n :=
  ⟨al_keep _ _ (by rw [sl_size2]; exact lt_of_block rz) (ibox_set _ _ rz), (sl_set2 _ _ h rz).below (below_one _ _)⟩
theorem sl_div (va vb : Value) (a b h : Int) (how : Nat) (hh : h = (how : Int)) (w : World) (ha : IsI w va a) (hb : IsI w vb b) (la : (Nl.limbs a.natAbs).length ≤ 900) (lb : (Nl.limbs b.natAbs).length ≤ 900) (hb0 : b ≠ 0) (h1 : 1 ≤ how) (h4 : how ≤ 4) :
    Calls Tryz.prog 31 #[va, vb, .int .i64 h] w fun e w' => (∃ s p l c s' p' l' c', e = .returned (.tuple #[.agg #[.bool s, .slice p l c], .agg #[.bool s', .slice p' l' c'], .int .i64 0]) ∧ IsI w' (.agg #[.bool s, .slice p l c]) (divQ how a b) ∧ IsI w' (.agg #[.bool s', .slice p' l' c']) (divR how a b)) ∧ Below w.heap.size w w' :=
  hh ▸ wDivN va vb a b how w ha hb la lb hb0 h1 h4
end Go.Proofs.YtkbghamkalidcaaGreat

namespace Go.Proofs.YtkbghamkalidcaaGreat.Nl

/-- one step of the opposite strip -/
theorem neg_step {Z xs : List Nat} {k c s d : Nat} (hl : Z.length = xs.length) (hk : k < xs.length) (hv : val (Z.take k) + 4294967296 ^ k * c + val (xs.take k) = 4294967296 ^ k) (hx : xs.getD k 0 < 4294967296)
    (hs : s + 4294967296 * d = 4294967296 - 1 - xs.getD k 0 + c) :
    val ((Z.set k s).take (k + 1)) + 4294967296 ^ (k + 1) * d + val (xs.take (k + 1)) = 4294967296 ^ (k + 1) := by
  rw [val_take_set Z k s (by omega), val_take_succ xs k hk, Nat.pow_succ]
  obtain ⟨P, hP⟩ : ∃ P, P = 4294967296 ^ k := ⟨_, rfl⟩
  obtain ⟨x, hx'⟩ : ∃ x, x = xs.getD k 0 := ⟨_, rfl⟩
  rw [← hP] at hv ⊢
  rw [← hx'] at hx hs ⊢
  have h1 : P * (s + 4294967296 * d) = P * (4294967296 - 1 - x + c) := by rw [hs]
  have h2 : P * s + P * 4294967296 * d = P * (4294967296 - 1 - x) + P * c := by rw [Nat.mul_add, Nat.mul_add] at h1; rw [Nat.mul_assoc]; exact h1
  have h3 : P * (4294967296 - 1 - x) + P * x + P = P * 4294967296 := by
    rw [← Nat.mul_add, ← Nat.mul_succ]; congr 1; omega
  omega
theorem neg_end {Z xs : List Nat} {c : Nat} (hs : Small Z) (hl : Z.length = xs.length) (hv : val (Z.take xs.length) + 4294967296 ^ xs.length * c + val (xs.take xs.length) = 4294967296 ^ xs.length) : val Z = (4294967296 ^ xs.length - val xs) % 4294967296 ^ xs.length := by
  rw [val_take_all (Nat.le_of_eq hl), val_take_all (Nat.le_refl _)] at hv
  have h1 := val_lt hs
  rw [hl] at h1
  obtain ⟨P, hP⟩ : ∃ P, P = 4294967296 ^ xs.length := ⟨_, rfl⟩
  rw [← hP] at hv h1 ⊢
  rcases Nat.eq_zero_or_pos c with rfl | hc
  · rw [Nat.mul_zero] at hv
    rw [show P - val xs = val Z by omega, Nat.mod_eq_of_lt h1]
  · have h2 : P * 1 ≤ P * c := Nat.mul_le_mul_left _ hc
    rw [show val Z = 0 by omega, show P - val xs = P by omega, Nat.mod_self]
/-- what the lowest words of an integer count -/
def low (a : Int) (P : Nat) : Nat := (a % (P : Int)).toNat
theorem low_eq (a : Int) (P : Nat) (hP : 0 < P) : ((low a P : Nat) : Int) = a % (P : Int) := by
  rw [low, Int.toNat_of_nonneg (Int.emod_nonneg _ (by omega))]
theorem low_lt (a : Int) (P : Nat) (hP : 0 < P) : low a P < P := by
  have h := Int.emod_lt_of_pos a (b := (P : Int)) (by omega)
  have h1 := low_eq a P hP
  omega
theorem low_of {a : Int} {P v : Nat} (hv : v < P) (q : Int) (h : a = (v : Int) + (P : Int) * q) : low a P = v := by
  rw [low, h, Int.add_mul_emod_self_left, Int.emod_eq_of_lt (by omega) (by omega)]; rfl
theorem low_pos (m P : Nat) (hP : 0 < P) : low (m : Int) P = m % P := low_of (Nat.mod_lt _ hP) ((m / P : Nat) : Int) (by
  have h := Nat.mod_add_div m P
  rw [← Int.natCast_mul, ← Int.natCast_add, h])
theorem low_neg (m P : Nat) (hP : 0 < P) : low (-(m : Int)) P = (P - m % P) % P := by
  have h := Nat.mod_add_div m P
  have h1 := Nat.mod_lt m hP
  obtain ⟨r, hr⟩ : ∃ r, r = m % P := ⟨_, rfl⟩
  obtain ⟨q, hq⟩ : ∃ q, q = m / P := ⟨_, rfl⟩
  rw [← hr, ← hq] at h
  rw [← hr] at h1 ⊢
  have h2 : (m : Int) = (r : Int) + (P : Int) * (q : Int) := by rw [← h, Int.natCast_add, Int.natCast_mul]
  by_cases h0 : r = 0
  · rw [h0, Nat.sub_zero, Nat.mod_self]
    exact low_of hP (-(q : Int)) (by rw [h2, h0, Int.mul_neg]; omega)
  · rw [Nat.mod_eq_of_lt (by omega)]
    refine low_of (by omega) (-(q : Int) - 1) ?_
    rw [h2, Int.mul_sub, Int.mul_neg, Int.mul_one, Int.ofNat_sub (by omega)]; omega
/-- what a strip means -/
def twos (P v : Nat) : Int := if 2 * v < P then (v : Int) else (v : Int) - (P : Int)
theorem strip_top {xs : List Nat} {n : Nat} (hs : Small xs) (hl : xs.length = n + 1) : (2147483648 ≤ xs.getD n 0 ↔ ¬ 2 * val xs < 4294967296 ^ (n + 1)) := by
  have h1 := val_take_succ xs n (by omega)
  rw [val_take_all (by omega : xs.length ≤ n + 1)] at h1
  have h2 := val_lt (hs.take n)
  rw [List.length_take, Nat.min_eq_left (by omega)] at h2
  rw [h1, Nat.pow_succ]
  obtain ⟨P, hP⟩ : ∃ P, P = 4294967296 ^ n := ⟨_, rfl⟩
  obtain ⟨x, hx⟩ : ∃ x, x = xs.getD n 0 := ⟨_, rfl⟩
  rw [← hP] at h2 ⊢
  rw [← hx]
  constructor
  · intro h
    have h3 : P * 2147483648 ≤ P * x := Nat.mul_le_mul_left _ h
    omega
  · intro h
    refine Nat.le_of_not_lt fun h4 => h ?_
    have h3 : P * (x + 1) ≤ P * 2147483648 := Nat.mul_le_mul_left _ (by omega)
    rw [Nat.mul_succ] at h3
    omega
theorem pow32 (k : Nat) : 4294967296 ^ k = 2 ^ (32 * k) := by rw [Nat.pow_mul]

end Go.Proofs.YtkbghamkalidcaaGreat.Nl

namespace Go.Proofs.YtkbghamkalidcaaGreat.Nl

theorem bits_sum : ∀ x y : Nat, (x &&& y) + (x ||| y) = x + y ∧ (x ^^^ y) + (x &&& y) = (x ||| y) := by
  intro x
  induction x using Nat.strongRecOn with
  | _ x ih =>
    intro y
    by_cases hx : x = 0
    · subst hx; simp
    · obtain ⟨h1, h2⟩ := ih (x / 2) (by omega) (y / 2)
      have a1 := @Nat.and_div_two x y
      have a2 := @Nat.or_div_two x y
      have a3 := @Nat.xor_div_two x y
      have b1 := @Nat.and_mod_two_eq_one x y
      have b2 := @Nat.or_mod_two_eq_one x y
      have b3 := @Nat.xor_mod_two_eq_one x y
      rw [← a1, ← a2] at h1
      rw [← a1, ← a2, ← a3] at h2
      obtain ⟨p, hp⟩ : ∃ p, p = x &&& y := ⟨_, rfl⟩
      obtain ⟨q, hq⟩ : ∃ q, q = x ||| y := ⟨_, rfl⟩
      obtain ⟨r, hr⟩ : ∃ r, r = x ^^^ y := ⟨_, rfl⟩
      rw [← hp] at b1
      rw [← hq] at b2
      rw [← hr] at b3
      rw [← hp, ← hq] at h1
      rw [← hp, ← hq, ← hr] at h2
      rw [← hp, ← hq, ← hr]
      omega
theorem join_and (a b : Nat) {x y n : Nat} (hx : x < 2 ^ n) (hy : y < 2 ^ n) : (2 ^ n * a + x) &&& (2 ^ n * b + y) = 2 ^ n * (a &&& b) + (x &&& y) := by
  refine Nat.eq_of_testBit_eq fun i => ?_
  rw [Nat.testBit_and, Nat.testBit_two_pow_mul_add _ hx, Nat.testBit_two_pow_mul_add _ hy, Nat.testBit_two_pow_mul_add _ (Nat.and_lt_two_pow _ hy)]
  split <;> rw [Nat.testBit_and]
theorem join_or (a b : Nat) {x y n : Nat} (hx : x < 2 ^ n) (hy : y < 2 ^ n) : (2 ^ n * a + x) ||| (2 ^ n * b + y) = 2 ^ n * (a ||| b) + (x ||| y) := by
  refine Nat.eq_of_testBit_eq fun i => ?_
  rw [Nat.testBit_or, Nat.testBit_two_pow_mul_add _ hx, Nat.testBit_two_pow_mul_add _ hy, Nat.testBit_two_pow_mul_add _ (Nat.or_lt_two_pow hx hy)]
  split <;> rw [Nat.testBit_or]
theorem join_xor (a b : Nat) {x y n : Nat} (hx : x < 2 ^ n) (hy : y < 2 ^ n) : (2 ^ n * a + x) ^^^ (2 ^ n * b + y) = 2 ^ n * (a ^^^ b) + (x ^^^ y) := by
  refine Nat.eq_of_testBit_eq fun i => ?_
  rw [Nat.testBit_xor, Nat.testBit_two_pow_mul_add _ hx, Nat.testBit_two_pow_mul_add _ hy, Nat.testBit_two_pow_mul_add _ (Nat.xor_lt_two_pow hx hy)]
  split <;> rw [Nat.testBit_xor]
/-- the operation with a number: 1 And, 2 Or, 3 Xor -/
def bop (k : Nat) (x y : Nat) : Nat := if k = 1 then x &&& y else if k = 2 then x ||| y else x ^^^ y
theorem bop_join (k a b : Nat) {x y n : Nat} (hx : x < 2 ^ n) (hy : y < 2 ^ n) : bop k (2 ^ n * a + x) (2 ^ n * b + y) = 2 ^ n * bop k a b + bop k x y := by
  unfold bop
  split
  · exact join_and a b hx hy
  · split
    · exact join_or a b hx hy
    · exact join_xor a b hx hy
theorem bop_lt (k : Nat) {x y n : Nat} (hx : x < 2 ^ n) (hy : y < 2 ^ n) : bop k x y < 2 ^ n := by
  unfold bop
  split
  · exact Nat.and_lt_two_pow _ hy
  · split
    · exact Nat.or_lt_two_pow hx hy
    · exact Nat.xor_lt_two_pow hx hy
theorem bop_zero (k : Nat) : bop k 0 0 = 0 := by unfold bop; split <;> (try split) <;> rfl
theorem bop_take (k : Nat) {xs ys : List Nat} (hx : Small xs) (hy : Small ys) (hl : xs.length = ys.length) : val (List.zipWith (bop k) xs ys) = bop k (val xs) (val ys) := by
  induction xs generalizing ys with
  | nil => cases ys with
    | nil => exact (bop_zero k).symm
    | cons y ys => simp at hl
  | cons x xs ih => cases ys with
    | nil => simp at hl
    | cons y ys =>
      rw [small_cons] at hx hy
      rw [List.zipWith_cons_cons, val, val, val, ih hx.2 hy.2 (by simpa using hl), Nat.add_comm x, Nat.add_comm y, Nat.add_comm (bop k x y), show 4294967296 = 2 ^ 32 from rfl, bop_join k _ _ (show x < 2 ^ 32 from hx.1) (show y < 2 ^ 32 from hy.1)]
/-- what an operation gives for integers, seen through strips of P -/
def bopI (k : Nat) (a b : Int) (n : Nat) : Int := twos (2 ^ n) (bop k (low a (2 ^ n)) (low b (2 ^ n)))
/-- an integer between the bounds is what its strip means -/
theorem twos_low {a : Int} {P : Nat} (hP : 0 < P) (h1 : 2 * a < P) (h2 : -(P : Int) ≤ 2 * a) : twos P (low a P) = a := by
  by_cases h : a < 0
  · have h3 : low a P = (a + P).toNat := by
      have : low a P = ((a + P).toNat) := low_of (by omega) (-1) (by omega)
      exact this
    rw [h3, twos]
    split <;> omega
  · have h3 : low a P = a.toNat := low_of (by omega) 0 (by omega)
    rw [h3, twos]
    split <;> omega
/-- the bit of an integer at a place -/
def bitI (a : Int) (i : Nat) : Nat := low (a / ((2 ^ i : Nat) : Int)) 2
theorem bop_bits (k x y i : Nat) : (bop k x y).testBit i = (if k = 1 then x.testBit i && y.testBit i else if k = 2 then x.testBit i || y.testBit i else x.testBit i ^^ y.testBit i) := by
  unfold bop
  split
  · exact Nat.testBit_and ..
  · split
    · exact Nat.testBit_or ..
    · exact Nat.testBit_xor ..
end Go.Proofs.YtkbghamkalidcaaGreat.Nl
