/-
  What the reference's Div of integers gives, and Div of package whole, with their errors. Written by wip/tool/genrdiv.py. Conditions: those that each theorem names.
  What rounded division means: sizes, signs, and where quotients lie. Conditions: those that each theorem names.
  Pieces for the law WholeDivision: Div of two numbers without an error, a magnitude as an integer, signs as they lie in memory. Conditions: those that each theorem names.
  Blocks that a region makes which draws its order. Written by wip/tool/genbit.py. Conditions: those that each theorem names.
  WholeRing returns true for any three integers. Written by wip/tool/genring2.py. Conditions: those that each theorem names.
-/
import Derived.Test.YtkbghamkalidcaaGreatDivEAll
import Derived.Test.YtkbghamkalidcaaGreatLawFns
import Derived.Test.YtkbghamkalidcaaGreatAwake
namespace Go.Proofs.YtkbghamkalidcaaGreat
open Go.RowKit

/-- the parts of a division's result: K is the error -/
def DivS (w : World) (K x y : Int) (s : Bool) (p : Option Addr) (l c : Nat) (s' : Bool) (p' : Option Addr) (l' c' : Nat) : Prop :=
  (K = 0 → IsI w (.agg #[.bool s, .slice p l c]) x ∧ IsI w (.agg #[.bool s', .slice p' l' c']) y) ∧ (K ≠ 0 → s = false ∧ p = none ∧ l = 0 ∧ c = 0 ∧ s' = false ∧ p' = none ∧ l' = 0 ∧ c' = 0)
theorem DivS.below {w w' : World} {K x y : Int} {s s' : Bool} {p p' : Option Addr} {l c l' c' : Nat} (h : DivS w K x y s p l c s' p' l' c') (hb : Below w.heap.size w w') : DivS w' K x y s p l c s' p' l' c' := ⟨fun h0 => ⟨AtI.below (h.1 h0).1 hb, AtI.below (h.1 h0).2 hb⟩, h.2⟩
def WDivOut (w w' : World) (e : Ending) (K x y : Int) : Prop := (∃ s p l c s' p' l' c', e = .returned (.tuple #[.agg #[.bool s, .slice p l c], .agg #[.bool s', .slice p' l' c'], .int .i64 K]) ∧ DivS w' K x y s p l c s' p' l' c') ∧ Below w.heap.size w w'

theorem natAbs_lt_pos {r d : Nat} (h : d ≠ 0) : r % d < d := Nat.mod_lt _ (by omega)
/-- the rest is what is left -/
theorem divR_eq (how : Nat) (a b : Int) (hb : b ≠ 0) : divR how a b = a - divQ how a b * b := by
  have ha := sgn_self a
  have hbb := sgn_self b
  obtain ⟨A, hA⟩ : ∃ A, A = a.natAbs := ⟨_, rfl⟩
  obtain ⟨D, hD⟩ : ∃ D, D = b.natAbs := ⟨_, rfl⟩
  obtain ⟨sa, hsa⟩ : ∃ sa, sa = negB a := ⟨_, rfl⟩
  obtain ⟨sb, hsb⟩ : ∃ sb, sb = negB b := ⟨_, rfl⟩
  have hD0 : D ≠ 0 := by omega
  have hmod := natAbs_lt_pos (r := A) hD0
  have hdm := Nat.div_add_mod A D
  rw [divR, divQ, ← hA, ← hD, ← hsa, ← hsb]
  rw [← hA, ← hsa] at ha
  rw [← hD, ← hsb] at hbb
  obtain ⟨q, hq⟩ : ∃ q, q = A / D := ⟨_, rfl⟩
  obtain ⟨r, hr⟩ : ∃ r, r = A % D := ⟨_, rfl⟩
  rw [← hq, ← hr] at hdm ⊢
  rw [← hr] at hmod
  have e1 : ((A : Nat) : Int) = (D : Int) * (q : Int) + (r : Int) := by rw [← hdm]; simp
  have e2 : ((q + 1 : Nat) : Int) * (D : Int) = (D : Int) * (q : Int) + (D : Int) := by rw [Int.natCast_add, Int.add_mul, Int.mul_comm]; simp
  have e3 : (q : Int) * (D : Int) = (D : Int) * (q : Int) := Int.mul_comm _ _
  obtain ⟨P, hP⟩ : ∃ P : Int, P = (D : Int) * (q : Int) := ⟨_, rfl⟩
  rw [← hP] at e1 e2 e3
  rw [← ha, ← hbb]
  by_cases hc : r = 0 ∨ farB how sa sb q r D = false
  · rw [if_pos hc, if_pos hc]
    cases sa <;> cases sb
    · show (r : Int) = (A : Int) - (q : Int) * (D : Int); rw [e3, e1]; omega
    · show (r : Int) = (A : Int) - (-(q : Int)) * (-(D : Int)); rw [Int.neg_mul_neg, e3, e1]; omega
    · show -(r : Int) = -(A : Int) - (-(q : Int)) * (D : Int); rw [Int.neg_mul, e3, e1]; omega
    · show -(r : Int) = -(A : Int) - (q : Int) * (-(D : Int)); rw [Int.mul_neg, e3, e1]; omega
  · rw [if_neg hc, if_neg hc]
    have e4 : ((D - r : Nat) : Int) = (D : Int) - (r : Int) := by omega
    cases sa <;> cases sb
    · show -((D - r : Nat) : Int) = (A : Int) - ((q + 1 : Nat) : Int) * (D : Int); rw [e2, e1, e4]; omega
    · show -((D - r : Nat) : Int) = (A : Int) - (-((q + 1 : Nat) : Int)) * (-(D : Int)); rw [Int.neg_mul_neg, e2, e1, e4]; omega
    · show ((D - r : Nat) : Int) = -(A : Int) - (-((q + 1 : Nat) : Int)) * (D : Int); rw [Int.neg_mul, e2, e1, e4]; omega
    · show ((D - r : Nat) : Int) = -(A : Int) - ((q + 1 : Nat) : Int) * (-(D : Int)); rw [Int.mul_neg, e2, e1, e4]; omega

/-- the lengths of what a division gives -/
theorem divQ_len (how : Nat) (a b : Int) (la : (Nl.limbs a.natAbs).length ≤ 1000) : fitI (divQ how a b) := by
  have h1 : (Nl.limbs (a.natAbs / b.natAbs)).length ≤ 1000 := Nat.le_trans (Nl.limbs_mono (Nat.div_le_self _ _)) la
  have h2 := Nl.len_add (a.natAbs / b.natAbs) 1
  have h3 : (Nl.limbs 1).length ≤ 1 := Nl.limbs_lt (by decide)
  rw [divQ]
  split <;> rw [fitI, sgn_abs] <;> omega
theorem divR_len (how : Nat) (a b : Int) (lb : (Nl.limbs b.natAbs).length ≤ 1000) (hb : b ≠ 0) : fitI (divR how a b) := by
  have hm := natAbs_lt_pos (r := a.natAbs) (show b.natAbs ≠ 0 by omega)
  rw [divR]
  split
  · rw [fitI, sgn_abs]; exact Nat.le_trans (Nl.limbs_mono (Nat.le_of_lt hm)) (Nat.le_trans lb (by decide))
  · rw [fitI, sgn_abs]; exact Nat.le_trans (Nl.limbs_mono (Nat.sub_le _ _)) (Nat.le_trans lb (by decide))

theorem isI_valid {w : World} {v : Value} {s : Bool} {xs : List Nat} (h : AtI w v s xs) (hm : Nl.Small xs) (hok : validI s xs = true) : IsI w v (sgn s (Nl.val xs)) ∧ Nl.limbs (sgn s (Nl.val xs)).natAbs = xs := by
  obtain ⟨p, c, rfl, u⟩ := h.form
  obtain ⟨e1, e2, -⟩ := validI_norm hm hok
  exact ⟨(isI_of_ok (at_of h) hm hok).1, e2.symm⟩

theorem wDiv_any (va vb : Value) (s0 s1 : Bool) (xs ys : List Nat) (how : Int) (w : World) (h0 : AtI w va s0 xs) (h1 : AtI w vb s1 ys) (m0 : Nl.Small xs) (m1 : Nl.Small ys) (la : xs.length ≤ 900) (lb : ys.length ≤ 900) :
    Calls Tryz.prog 31 #[va, vb, .int .i64 how] w fun e w' => WDivOut w w' e (divK2 s0 s1 xs ys how) (divQ how.toNat (sgn s0 (Nl.val xs)) (sgn s1 (Nl.val ys))) (divR how.toNat (sgn s0 (Nl.val xs)) (sgn s1 (Nl.val ys))) := by
  by_cases hk : divK2 s0 s1 xs ys how = 0
  · have hok : (validI s0 xs && validI s1 ys) = true := by
      by_cases h : (validI s0 xs && validI s1 ys) = true
      · exact h
      · rw [divK2, if_neg h] at hk; exact absurd hk (by decide)
    have hhow : 1 ≤ how ∧ how ≤ 4 := by
      rw [divK2, if_pos hok] at hk
      by_cases h : 1 ≤ how ∧ how ≤ 4
      · exact h
      · rw [if_neg h] at hk; exact absurd hk (by decide)
    have hl : ys.length ≠ 0 := by
      rw [divK2, if_pos hok, if_pos hhow] at hk
      intro h
      rw [if_pos h] at hk; exact absurd hk (by decide)
    rw [Bool.and_eq_true] at hok
    obtain ⟨ia, ea⟩ := isI_valid h0 m0 hok.1
    obtain ⟨ib, eb⟩ := isI_valid h1 m1 hok.2
    obtain ⟨n, hn⟩ : ∃ n : Nat, how = n := ⟨how.toNat, by omega⟩
    subst hn
    have hb0 : sgn s1 (Nl.val ys) ≠ 0 := fun h => hl (by rw [← eb, h]; show (Nl.limbs 0).length = 0; rw [Nl.limbs_zero]; rfl)
    rw [hk]
    refine (wholeDiv_ok va vb s0 s1 n xs ys (divQ n (sgn s0 (Nl.val xs)) (sgn s1 (Nl.val ys))) (divR n (sgn s0 (Nl.val xs)) (sgn s1 (Nl.val ys))) w h0 h1 hok.1 hok.2 hhow.1 hhow.2 (by omega) (divQ_len _ _ _ (by rw [ea]; omega)) (divR_len _ _ _ (by rw [eb]; omega) hb0) (fun w' hw' => over_gen n (by omega) (by omega) va vb _ _ w' (AtI.below ia hw') (AtI.below ib hw') (by rw [ea]; omega) (by rw [fitI, eb]; omega) hb0)).mono ?_
    rintro e w' ⟨⟨u, v, rfl, hu, hv⟩, hb⟩
    obtain ⟨p, c, rfl, -⟩ := AtI.form hu
    obtain ⟨p', c', rfl, -⟩ := AtI.form hv
    exact ⟨⟨_, _, _, _, _, _, _, _, rfl, fun _ => ⟨hu, hv⟩, fun h => absurd rfl h⟩, hb⟩
  · refine (wholeDiv_bad va vb s0 s1 how xs ys w h0 h1 hk).mono ?_
    rintro e w' ⟨rfl, hb⟩
    exact ⟨⟨_, _, _, _, _, _, _, _, rfl, fun h => absurd h hk, fun _ => ⟨rfl, rfl, rfl, rfl, rfl, rfl, rfl, rfl⟩⟩, hb⟩

end Go.Proofs.YtkbghamkalidcaaGreat

namespace Go.Proofs.YtkbghamkalidcaaGreat
open Go.RowKit

theorem divR_less (how : Nat) (a b : Int) (hb : b ≠ 0) : (divR how a b).natAbs < b.natAbs := by
  have hm := natAbs_lt_pos (r := a.natAbs) (show b.natAbs ≠ 0 by omega)
  rw [divR]
  split
  · rw [sgn_abs]; exact hm
  · next h =>
    have h0 : a.natAbs % b.natAbs ≠ 0 := fun h0 => h (.inl h0)
    rw [sgn_abs]; omega
theorem negB_sgn_pos {s : Bool} {m : Nat} (h : 0 < m) : negB (sgn s m) = s := by rw [sgn_neg, decide_eq_true h, Bool.and_true]
theorem divR_euclid_way (a b : Int) (hb : b ≠ 0) : negB (divR 3 a b) = false := by
  have hm := natAbs_lt_pos (r := a.natAbs) (show b.natAbs ≠ 0 by omega)
  by_cases h0 : a.natAbs % b.natAbs = 0
  · rw [divR, if_pos (.inl h0), h0]; cases negB a <;> rfl
  · cases ha : negB a with
    | false => rw [divR, if_pos (.inr (by simp [farB, ha])), negB_sgn_pos (Nat.pos_of_ne_zero h0)]; exact ha
    | true => rw [divR, if_neg (by simp [farB, ha, h0]), negB_sgn_pos (by omega), ha]; rfl
end Go.Proofs.YtkbghamkalidcaaGreat

namespace Go.Proofs.YtkbghamkalidcaaGreat
open Go.RowKit

theorem isI_sign {w : World} {s : Bool} {p : Option Addr} {l c : Nat} {n : Int} (h : IsI w (.agg #[.bool s, .slice p l c]) n) : s = negB n ∧ l = (Nl.limbs n.natAbs).length := by
  obtain ⟨v, e, hv⟩ := h
  simp only [Value.agg.injEq, Array.mk.injEq, List.cons.injEq, and_true, Value.bool.injEq] at e
  obtain ⟨e1, e2⟩ := e
  obtain ⟨a, c', e3, -⟩ := hv.form
  rw [← e2] at e3
  simp only [Value.slice.injEq] at e3
  exact ⟨e1, e3.2.1⟩
/-- the magnitude of an integer, as an integer -/
theorem abs_isI {w : World} {s : Bool} {p : Option Addr} {l c : Nat} {n : Int} (h : IsI w (.agg #[.bool s, .slice p l c]) n) : IsI w (.agg #[.bool false, .slice p l c]) (n.natAbs : Int) := by
  obtain ⟨v, e, hv⟩ := h
  simp only [Value.agg.injEq, Array.mk.injEq, List.cons.injEq, and_true, Value.bool.injEq] at e
  obtain ⟨-, rfl⟩ := e
  have h1 : negB (n.natAbs : Int) = false := decide_eq_false (by omega)
  rw [IsI, h1, show ((n.natAbs : Int)).natAbs = n.natAbs by omega]
  exact AtI.mk hv
theorem wDivN (va vb : Value) (a b : Int) (how : Nat) (w : World) (ha : IsI w va a) (hb : IsI w vb b) (la : (Nl.limbs a.natAbs).length ≤ 900) (lb : (Nl.limbs b.natAbs).length ≤ 900) (hb0 : b ≠ 0) (h1 : 1 ≤ how) (h4 : how ≤ 4) :
    Calls Tryz.prog 31 #[va, vb, .int .i64 how] w fun e w' => (∃ s p l c s' p' l' c', e = .returned (.tuple #[.agg #[.bool s, .slice p l c], .agg #[.bool s', .slice p' l' c'], .int .i64 0]) ∧ IsI w' (.agg #[.bool s, .slice p l c]) (divQ how a b) ∧ IsI w' (.agg #[.bool s', .slice p' l' c']) (divR how a b)) ∧ Below w.heap.size w w' := by
  have hd := wDiv_any va vb _ _ _ _ (how : Int) w ha hb (Nl.limbs_small _) (Nl.limbs_small _) la lb
  have hl : (Nl.limbs b.natAbs).length ≠ 0 := fun h => by have := limbs_nil.1 h; omega
  have hK : divK2 (negB a) (negB b) (Nl.limbs a.natAbs) (Nl.limbs b.natAbs) (how : Int) = 0 := by
    rw [divK2, validI_of (Nat.le_trans la (by decide)), validI_of (Nat.le_trans lb (by decide)), if_pos (show (true && true) = true from rfl), if_pos ⟨by omega, by omega⟩, if_neg hl]
  rw [hK, sgn_val, sgn_val, show ((how : Int)).toNat = how by omega] at hd
  refine hd.mono ?_
  rintro e w' ⟨⟨s, p, l, c, s', p', l', c', rfl, hx, -⟩, hb⟩
  exact ⟨⟨s, p, l, c, s', p', l', c', rfl, (hx rfl).1, (hx rfl).2⟩, hb⟩
end Go.Proofs.YtkbghamkalidcaaGreat

namespace Go.Proofs.YtkbghamkalidcaaGreat
open Go.RowKit

theorem sl_div (va vb : Value) (a b h : Int) (how : Nat) (hh : h = (how : Int)) (w : World) (ha : IsI w va a) (hb : IsI w vb b) (la : (Nl.limbs a.natAbs).length ≤ 900) (lb : (Nl.limbs b.natAbs).length ≤ 900) (hb0 : b ≠ 0) (h1 : 1 ≤ how) (h4 : how ≤ 4) :
    Calls Tryz.prog 31 #[va, vb, .int .i64 h] w fun e w' => (∃ s p l c s' p' l' c', e = .returned (.tuple #[.agg #[.bool s, .slice p l c], .agg #[.bool s', .slice p' l' c'], .int .i64 0]) ∧ IsI w' (.agg #[.bool s, .slice p l c]) (divQ how a b) ∧ IsI w' (.agg #[.bool s', .slice p' l' c']) (divR how a b)) ∧ Below w.heap.size w w' :=
  hh ▸ wDivN va vb a b how w ha hb la lb hb0 h1 h4
end Go.Proofs.YtkbghamkalidcaaGreat

namespace Go.Proofs.YtkbghamkalidcaaGreat
open Go.RowKit

/-- what calls inside one expression have given so far -/
def Pend (w : World) (L : List (Value × Int × Nat)) : Prop := ∀ x ∈ L, IsS w x.1 x.2.1 x.2.2
theorem Pend.nil (w : World) : Pend w [] := fun _ h => by cases h
theorem Pend.on {w w' : World} {L : List (Value × Int × Nat)} (h : Pend w L) (hb : Below w.heap.size w w') : Pend w' L := fun x hx => (h x hx).below hb
theorem Pend.push {w : World} {L : List (Value × Int × Nat)} {v : Value} {n : Int} {k : Nat} (h : Pend w L) (hv : IsS w v n k) : Pend w ((v, n, k) :: L) := fun x hx => by
  rcases List.mem_cons.1 hx with rfl | hx
  · exact hv
  · exact h x hx
theorem Pend.g0 {w : World} {L : List (Value × Int × Nat)} {v : Value} {n : Int} {k : Nat} (h : Pend w ((v, n, k) :: L)) : IsS w v n k := h _ (List.mem_cons_self ..)
theorem Pend.g1 {w : World} {L : List (Value × Int × Nat)} {x : Value × Int × Nat} {v : Value} {n : Int} {k : Nat} (h : Pend w (x :: (v, n, k) :: L)) : IsS w v n k := h (v, n, k) (by simp)
theorem Pend.g2 {w : World} {L : List (Value × Int × Nat)} {x y : Value × Int × Nat} {v : Value} {n : Int} {k : Nat} (h : Pend w (x :: y :: (v, n, k) :: L)) : IsS w v n k := h (v, n, k) (by simp)
theorem Pend.g3 {w : World} {L : List (Value × Int × Nat)} {x y z : Value × Int × Nat} {v : Value} {n : Int} {k : Nat} (h : Pend w (x :: y :: z :: (v, n, k) :: L)) : IsS w v n k := h (v, n, k) (by simp)
theorem Pend.d {w : World} {L : List (Value × Int × Nat)} (h : Pend w L) : Pend w.drew L := h.on (below_drew0 w)
theorem equal_yes (va vb : Value) (a b : Int) (j k : Nat) (w : World) (ha : IsS w va a j) (hb : IsS w vb b k) (h : a = b) : Calls Tryz.prog 15 #[va, vb] w fun e w' => e = .returned (.bool true) ∧ Below w.heap.size w w' :=
  (equal_law va vb a b w ha.1 hb.1).mono fun e w' h' => ⟨by rw [h'.1, decide_eq_true h], h'.2⟩
theorem givenI_three {W : World} {s s' s'' : Bool} {p p' p'' : Option Addr} {l c l' c' l'' c'' : Nat} {xs ys zs : List Nat} (b : Nat) (hW : W.heap[b]? = some (.cells #[.bool s, .slice p l c, .bool s', .slice p' l' c', .bool s'', .slice p'' l'' c''] 25 (0, 0))) (h : At W (.slice p l c) xs) (h' : At W (.slice p' l' c') ys) (h'' : At W (.slice p'' l'' c'') zs) : GivenI W b [(s, .slice p l c, xs), (s', .slice p' l' c', ys), (s'', .slice p'' l'' c'', zs)] := by
  intro i hi
  have : i = 0 ∨ i = 1 ∨ i = 2 := by simp at hi; omega
  rcases this with rfl | rfl | rfl
  · exact ⟨cell_of_row _ _ 0 _ _ (0, 0) hW, cell_of_row _ _ 1 _ _ (0, 0) hW, h⟩
  · exact ⟨cell_of_row _ _ 2 _ _ (0, 0) hW, cell_of_row _ _ 3 _ _ (0, 0) hW, h'⟩
  · exact ⟨cell_of_row _ _ 4 _ _ (0, 0) hW, cell_of_row _ _ 5 _ _ (0, 0) hW, h''⟩
theorem fine_one {most : Nat} {s : Bool} {v : Value} {xs : List Nat} {w : World} (h : fineP most (s, v, xs) = true) (hat : At w v xs) (hs : Nl.Small xs) : ∃ n : Int, IsS w (.agg #[.bool s, v]) n most := by
  rw [fineP, Bool.and_eq_true] at h
  have ok := isI_of_ok hat hs h.2
  refine ⟨_, ok.1, ?_⟩
  have h1 := (validI_norm hs h.2).2.1
  rw [← h1]
  exact of_decide_eq_true h.1
end Go.Proofs.YtkbghamkalidcaaGreat
