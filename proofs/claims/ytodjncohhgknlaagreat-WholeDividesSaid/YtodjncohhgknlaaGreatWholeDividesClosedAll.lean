/-
  What Div of package whole does where there is an error. Conditions: those that each theorem names.
  What the reference's Div of integers gives, and Div of package whole, with their errors. Written by wip/tool/genrdiv.py. Conditions: those that each theorem names.
  WholeDivides returns true for any two integers and any way. Written by wip/tool/genlawdiv.py. Conditions: those that each theorem names.
  How an argument of the type of integers is opened. Conditions: those that each theorem names.
  The closed facts of the row of WholeDivides. Conditions: none.
-/
import Derived.Test.YtodjncohhgknlaaGreatDivI
import Derived.Test.YtodjncohhgknlaaGreatQuotIAll
import Derived.Test.YtodjncohhgknlaaGreatLawFns
import Derived.Test.YtodjncohhgknlaaGreatAwake
import Derived.Test.YtodjncohhgknlaaGreatInts
import Derived.Test.YtodjncohhgknlaaGreatRows
import Derived.ProofKit
import Derived.SizedLaws
import Derived.OpenShut
import Derived.Lib.SmallJoins
namespace Go.Proofs.YtodjncohhgknlaaGreat
open Go.RowKit

/-- the error of Div -/
def divK2 (s0 s1 : Bool) (xs ys : List Nat) (how : Int) : Int := if (validI s0 xs && validI s1 ys) = true then (if 1 ≤ how ∧ how ≤ 4 then (if ys.length = 0 then 8 else 0) else 1) else 1

set_option maxHeartbeats 4000000 in
theorem div1_bad (K : Nat) (s0 s1 : Bool) (p0 p1 : Option Addr) (l0 c0 l1 c1 : Nat) (how : Int) (xs ys : List Nat) (w : World) (hbox : DivBox w K s0 s1 p0 p1 l0 c0 l1 c1 how)
    (hu : At w (.slice p0 l0 c0) xs) (hv : At w (.slice p1 l1 c1) ys) (hl1 : l1 = ys.length) (hk : divK2 s0 s1 xs ys how ≠ 0) :
    Calls Tryz.prog 101 #[.pointer (some ⟨K, 0, none⟩), .pointer (some ⟨K + 1, 0, none⟩), .pointer (some ⟨K + 2, 0, none⟩), .pointer (some ⟨K + 3, 0, none⟩), .pointer (some ⟨K + 4, 0, none⟩)] w fun e w' =>
      Below w.heap.size w w' ∧ e = fault (divK2 s0 s1 xs ys how) := by
  obtain ⟨W, hW⟩ : ∃ W, W = w.alloc (.cells #[.bool s0, .slice p0 l0 c0, .bool s1, .slice p1 l1 c1] 25) := ⟨_, rfl⟩
  have hb : Below w.heap.size w W := by rw [hW]; exact below_one w _
  have hrow : W.heap[w.heap.size]? = some (.cells #[.bool s0, .slice p0 l0 c0, .bool s1, .slice p1 l1 c1] 25 (0, 0)) := by rw [hW]; exact heap_alloc_new _ _
  have HM := Lib.hid (mustBeValid_any w.heap.size [(s0, .slice p0 l0 c0, xs), (s1, .slice p1 l1 c1, ys)] W (givenI_two w.heap.size hrow (hu.below hb) (hv.below hb)) (lt_of_block hrow) (by simp))
  have HB := Lib.hid hb
  have HBX := Lib.hid hbox
  have k00 := cell_of_row _ _ 0 _ _ (0, 0) hbox.a
  have k01 := cell_of_row _ _ 1 _ _ (0, 0) hbox.a
  have k10 := cell_of_row _ _ 0 _ _ (0, 0) hbox.b
  have k11 := cell_of_row _ _ 1 _ _ (0, 0) hbox.b
  simp only [List.getElem?_toArray, List.getElem?_cons_zero, List.getElem?_cons_succ] at k00 k01 k10 k11
  have HK := Lib.hid hk
  have HL := Lib.hid hl1
  clear hu hv hb hrow hbox hk hl1
  go_enter Tryz.func101, Tryz.ntmps101
  go_wp2_with fail
  rw [← hW]
  clear hW
  refine HM.out.mono ?_
  rintro e w1 ⟨hb1, ⟨hall, rfl⟩ | ⟨⟨p, hp, hp2⟩, rfl⟩⟩
  · have hv0 : validI s0 xs = true := hall (s0, .slice p0 l0 c0, xs) (by simp)
    have hv1 : validI s1 ys = true := hall (s1, .slice p1 l1 c1, ys) (by simp)
    have hK : divK2 s0 s1 xs ys how = (if 1 ≤ how ∧ how ≤ 4 then (if l1 = 0 then 8 else 0) else 1) := by rw [divK2, hv0, hv1, if_pos (show (true && true) = true from rfl), HL.out]
    have B1 := Lib.hid (HB.out.trans (hb1.mono HB.out.size))
    have X1 := Lib.hid (HBX.out.move B1.out)
    have i00 := cell_of_row _ _ 0 _ _ (0, 0) X1.out.a
    have i01 := cell_of_row _ _ 1 _ _ (0, 0) X1.out.a
    have i10 := cell_of_row _ _ 0 _ _ (0, 0) X1.out.b
    have i11 := cell_of_row _ _ 1 _ _ (0, 0) X1.out.b
    have i20 := cell_of_one X1.out.h
    simp only [List.getElem?_toArray, List.getElem?_cons_zero, List.getElem?_cons_succ] at i00 i01 i10 i11
    rw [hK] at HK
    have HKK := Lib.hid hK
    clear hb1 HM HB k00 k01 k10 k11 hall hv0 hv1 hK
    by_cases h1 : 1 ≤ how
    · by_cases h4 : how ≤ 4
      · have t1 : decide (1 ≤ how) = true := decide_eq_true h1
        have t2 : decide (how ≤ 4) = true := decide_eq_true h4
        have hl : l1 = 0 := by
          have := HK.out
          rw [if_pos ⟨h1, h4⟩] at this
          by_cases h : l1 = 0
          · exact h
          · rw [if_neg h] at this; exact absurd rfl this
        have HQ := Lib.hid (show divK2 s0 s1 xs ys how = 8 by rw [HKK.out, if_pos ⟨h1, h4⟩, if_pos hl])
        clear HL
        subst hl
        have t3 : decide (0 < 0) = false := by decide
        clear h1 h4 HK HKK
        go_wp2_with (go_at_call_of 103 (Value.bool true); refine (must_yes _ _).mono ?_; rintro e w' ⟨rfl, rfl⟩)
        refine (must_no _ _).mono ?_
        rintro e w' ⟨rfl, rfl⟩
        first
          | exact ⟨rfl, B1.out, by rw [HQ.out]⟩
          | exact ⟨B1.out, by rw [HQ.out]⟩
      · have t1 : decide (1 ≤ how) = true := decide_eq_true h1
        have t2 : decide (how ≤ 4) = false := decide_eq_false h4
        have HQ := Lib.hid (show divK2 s0 s1 xs ys how = 1 by rw [HKK.out, if_neg (fun h => h4 h.2)])
        clear h1 h4 HK HKK
        go_wp2_with fail
        refine (must_no _ _).mono ?_
        rintro e w' ⟨rfl, rfl⟩
        first
          | exact ⟨rfl, B1.out, by rw [HQ.out]⟩
          | exact ⟨B1.out, by rw [HQ.out]⟩
    · have t1 : decide (1 ≤ how) = false := decide_eq_false h1
      have HQ := Lib.hid (show divK2 s0 s1 xs ys how = 1 by rw [HKK.out, if_neg (fun h => h1 h.1)])
      clear h1 HK HKK
      go_wp2_with fail
      refine (must_no _ _).mono ?_
      rintro e w' ⟨rfl, rfl⟩
      first
        | exact ⟨rfl, B1.out, by rw [HQ.out]⟩
        | exact ⟨B1.out, by rw [HQ.out]⟩
  · have hK : divK2 s0 s1 xs ys how = 1 := by
      rw [divK2, if_neg]
      rw [Bool.and_eq_true]
      intro hok
      simp only [List.mem_cons, List.not_mem_nil, or_false] at hp
      rcases hp with rfl | rfl
      · exact Bool.noConfusion (hp2.symm.trans hok.1)
      · exact Bool.noConfusion (hp2.symm.trans hok.2)
    have B1 := HB.out.trans (hb1.mono HB.out.size)
    first
      | exact ⟨rfl, B1, by rw [hK]⟩
      | exact ⟨B1, by rw [hK]⟩

set_option maxHeartbeats 4000000 in
theorem wholeDiv_bad (v0 v1 : Value) (s0 s1 : Bool) (how : Int) (xs ys : List Nat) (w : World) (h0 : AtI w v0 s0 xs) (h1 : AtI w v1 s1 ys) (hk : divK2 s0 s1 xs ys how ≠ 0) :
    Calls Tryz.prog 39 #[v0, v1, .int .i64 how] w fun e w' => e = .returned (.tuple #[.agg #[.bool false, .slice none 0 0], .agg #[.bool false, .slice none 0 0], .int .i64 (divK2 s0 s1 xs ys how)]) ∧ Below w.heap.size w w' := by
  have hmf : ∀ (fn : Fn) (first cap : Array Value) (w : World), (Instr.makeFunc fn first cap).run Tryz.prog w = .ok (.func fn first cap) w := fun _ _ _ _ => rfl
  obtain ⟨p0, c0, rfl, u0⟩ := h0.form
  obtain ⟨p1, c1, rfl, u1⟩ := h1.form
  obtain ⟨W, hW⟩ : ∃ W, W = ((((w.alloc (.cells #[.bool s0, .slice p0 xs.length c0] 25)).alloc (.cells #[.bool s1, .slice p1 ys.length c1] 25)).alloc (.cells #[.int .i64 how] 3)).alloc (.cells #[.bool false, .slice none 0 0] 25)).alloc (.cells #[.bool false, .slice none 0 0] 25) := ⟨_, rfl⟩
  have hb : Below w.heap.size w W := by rw [hW]; exact ((three_new w _ _ _).alloc (by simp <;> omega) _).alloc (by simp <;> omega) _
  have hs : W.heap.size = w.heap.size + 5 := by rw [hW]; simp
  have hbox : DivBox W w.heap.size s0 s1 p0 p1 xs.length c0 ys.length c1 how := by
    refine ⟨?_, ?_, ?_, ?_, ?_⟩
    · rw [hW]; exact al_keep _ _ (by simp <;> omega) (al_keep _ _ (by simp <;> omega) (al_keep _ _ (by simp <;> omega) (al_keep _ _ (by simp <;> omega) (al_at _ _ (by simp)))))
    · rw [hW]; exact al_keep _ _ (by simp <;> omega) (al_keep _ _ (by simp <;> omega) (al_keep _ _ (by simp <;> omega) (al_at _ _ (by simp))))
    · rw [hW]; exact al_keep _ _ (by simp <;> omega) (al_keep _ _ (by simp <;> omega) (al_at _ _ (by simp)))
    · rw [hW]; exact al_keep _ _ (by simp <;> omega) (al_at _ _ (by simp))
    · rw [hW]; exact al_at _ _ (by simp)
  obtain ⟨kk, hkk⟩ : ∃ kk, kk = divK2 s0 s1 xs ys how := ⟨_, rfl⟩
  have HCALL := Lib.hid (call_any 101 #[.pointer (some ⟨w.heap.size, 0, none⟩), .pointer (some ⟨w.heap.size + 1, 0, none⟩), .pointer (some ⟨w.heap.size + 2, 0, none⟩), .pointer (some ⟨w.heap.size + 3, 0, none⟩), .pointer (some ⟨w.heap.size + 4, 0, none⟩)] W (fun c a w1 => a = 0 ∧ c = kk ∧ Below w.heap.size w w1 ∧ W.heap.size + 2 ≤ w1.heap.size ∧ w1.heap[w.heap.size + 3]? = some (.cells #[.bool false, .slice none 0 0] 25 (0, 0)) ∧ w1.heap[w.heap.size + 4]? = some (.cells #[.bool false, .slice none 0 0] 25 (0, 0))) (fun V hV hsV => by
    have hwV := hb.trans (hV.mono hb.size)
    have hbV := hbox.move hV
    refine (div1_bad w.heap.size s0 s1 p0 p1 xs.length c0 ys.length c1 how xs ys V hbV (u0.below hwV) (u1.below hwV) rfl hk).mono ?_
    rintro e w1 ⟨hb1, rfl⟩
    refine ⟨fun j j1 j2 => hb1.block j j2, .inr ⟨kk, 0, by rw [hkk], rfl, rfl, hwV.trans (hb1.mono hwV.size), by have := hb1.size; omega, (hb1.block _ (lt_of_block hbV.q)).trans hbV.q, (hb1.block _ (lt_of_block hbV.r)).trans hbV.r⟩⟩) (fun _ _ => by kernel_rfl))
  have HS := Lib.hid hs
  rw [← hkk]
  clear h0 h1 hk hb hs hbox u0 u1 hkk
  go_enter Tryz.func39, Tryz.ntmps39
  go_wp2_with fail
  rw [← hW]
  clear hW
  refine HCALL.out.mono ?_
  rintro e w3 ⟨c, a', w1, rfl, ⟨rfl, rfl, hbw, hsz, g1, g2⟩, hcau⟩
  have s0 := HS.out
  have hb3 : Below w.heap.size w w3 := below_caught hbw hcau (by omega) (by omega) (by omega)
  have G1 : w3.heap[w.heap.size + 3]? = _ := (hcau.same _ (by omega) (by omega) (by omega)).trans g1
  have G2 : w3.heap[w.heap.size + 4]? = _ := (hcau.same _ (by omega) (by omega) (by omega)).trans g2
  have k00 := cell_of_row _ _ 0 _ _ (0, 0) G1
  have k01 := cell_of_row _ _ 1 _ _ (0, 0) G1
  have k10 := cell_of_row _ _ 0 _ _ (0, 0) G2
  have k11 := cell_of_row _ _ 1 _ _ (0, 0) G2
  simp only [List.getElem?_toArray, List.getElem?_cons_zero, List.getElem?_cons_succ] at k00 k01 k10 k11
  have f0 := frozen_of_row _ _ 0 _ _ G1
  have f1 := frozen_of_row _ _ 1 _ _ G1
  have f2 := frozen_of_row _ _ 0 _ _ G2
  have f3 := frozen_of_row _ _ 1 _ _ G2
  have HZ := Lib.hid (And.intro hb3 (And.intro G1 G2))
  clear hbw hsz g1 g2 hcau hb3 G1 G2 HCALL s0
  go_wp2_with fail
  go_region
  go_wp2_with fail
  obtain ⟨V, hV⟩ : ∃ V, V = (w3.setCell ⟨w.heap.size + 3, 0, none⟩ (.bool false)).setCell ⟨w.heap.size + 3, 1, none⟩ (.slice none 0 0) := ⟨_, rfl⟩
  have G1 : V.heap[w.heap.size + 3]? = some (.cells #[.bool false, .slice none 0 0] 25 (0, 0)) := by rw [hV]; exact ibox_set _ _ HZ.out.2.1
  have G2 : V.heap[w.heap.size + 4]? = some (.cells #[.bool false, .slice none 0 0] 25 (0, 0)) := by
    rw [hV, Below.heap_setCell _ ⟨w.heap.size + 3, 1, none⟩ _ _ (by simp), Below.heap_setCell _ ⟨w.heap.size + 3, 0, none⟩ _ _ (by simp)]
    exact HZ.out.2.2
  have R2 := ibox_set (g := w.heap.size + 4) (.bool false) (.slice none 0 0) G2
  have R1 : ((V.setCell ⟨w.heap.size + 4, 0, none⟩ (.bool false)).setCell ⟨w.heap.size + 4, 1, none⟩ (.slice none 0 0)).heap[w.heap.size + 3]? = some (.cells #[.bool false, .slice none 0 0] 25 (0, 0)) := by
    rw [Below.heap_setCell _ ⟨w.heap.size + 4, 1, none⟩ _ _ (by simp), Below.heap_setCell _ ⟨w.heap.size + 4, 0, none⟩ _ _ (by simp)]
    exact G1
  have hbV : Below w.heap.size w V := by rw [hV]; exact below_ibox HZ.out.1 (by omega) _ _
  show bodyPost _ _ _ _ _ ((((w3.setCell ⟨w.heap.size + 3, 0, none⟩ (.bool false)).setCell ⟨w.heap.size + 3, 1, none⟩ (.slice none 0 0)).setCell ⟨w.heap.size + 4, 0, none⟩ (.bool false)).setCell ⟨w.heap.size + 4, 1, none⟩ (.slice none 0 0)).drew
  rw [← hV]
  refine bodyPost_ret (v := .tuple #[.agg #[.bool false, .slice none 0 0], .agg #[.bool false, .slice none 0 0], .int .i64 c]) (results_int21 Tryz.results39 _ _ (w.heap.size + 3) (w.heap.size + 4) _ _ _ rfl rfl rfl (load_int (w := World.drew _) R1) (load_int (w := World.drew _) R2)) rfl ?_
  exact ⟨rfl, (below_ibox hbV (g := w.heap.size + 4) (by omega) _ _).trans (below_drewN _ 1 _)⟩
end Go.Proofs.YtodjncohhgknlaaGreat

namespace Go.Proofs.YtodjncohhgknlaaGreat
open Go.RowKit

/-- the parts of a division's result: K is the error -/
def DivS (w : World) (K x y : Int) (s : Bool) (p : Option Addr) (l c : Nat) (s' : Bool) (p' : Option Addr) (l' c' : Nat) : Prop :=
  (K = 0 → IsI w (.agg #[.bool s, .slice p l c]) x ∧ IsI w (.agg #[.bool s', .slice p' l' c']) y) ∧ (K ≠ 0 → s = false ∧ p = none ∧ l = 0 ∧ c = 0 ∧ s' = false ∧ p' = none ∧ l' = 0 ∧ c' = 0)
theorem DivS.below {w w' : World} {K x y : Int} {s s' : Bool} {p p' : Option Addr} {l c l' c' : Nat} (h : DivS w K x y s p l c s' p' l' c') (hb : Below w.heap.size w w') : DivS w' K x y s p l c s' p' l' c' := ⟨fun h0 => ⟨AtI.below (h.1 h0).1 hb, AtI.below (h.1 h0).2 hb⟩, h.2⟩
def RDivOut (w w' : World) (e : Ending) (K x y : Int) : Prop := (∃ s p l c s' p' l' c', e = .returned (.agg #[.bool s, .slice p l c, .bool s', .slice p' l' c', .int .i64 K]) ∧ DivS w' K x y s p l c s' p' l' c') ∧ Below w.heap.size w w'
def WDivOut (w w' : World) (e : Ending) (K x y : Int) : Prop := (∃ s p l c s' p' l' c', e = .returned (.tuple #[.agg #[.bool s, .slice p l c], .agg #[.bool s', .slice p' l' c'], .int .i64 K]) ∧ DivS w' K x y s p l c s' p' l' c') ∧ Below w.heap.size w w'

theorem natAbs_lt_pos {r d : Nat} (h : d ≠ 0) : r % d < d := Nat.mod_lt _ (by omega)
theorem sgn_true (m : Nat) : sgn true m = -(m : Int) := rfl
theorem sgn_false (m : Nat) : sgn false m = (m : Int) := rfl
/-- the rest is what is left -/
theorem divR_eq (how : Nat) (a b : Int) (hb : b ≠ 0) : divR how a b = a - divQ how a b * b := by
  have ha := sgn_self a
  have hbb := sgn_self b
  obtain ⟨A, hA⟩ : ∃ A, A = a.natAbs := ⟨_, rfl⟩
  obtain ⟨D, hD⟩ : ∃ D, D = b.natAbs := ⟨_, rfl⟩
  obtain ⟨sa, hsa⟩ : ∃ sa, sa = negB a := ⟨_, rfl⟩
  obtain ⟨sb, hsb⟩ : ∃ sb, sb = negB b := ⟨_, rfl⟩
  have hD0 : D ≠ 0 := by omega
  have hmod := natAbs_lt_pos (r := A) hD0
  have hdm := Nat.div_add_mod A D
  rw [divR, divQ, ← hA, ← hD, ← hsa, ← hsb]
  rw [← hA, ← hsa] at ha
  rw [← hD, ← hsb] at hbb
  obtain ⟨q, hq⟩ : ∃ q, q = A / D := ⟨_, rfl⟩
  obtain ⟨r, hr⟩ : ∃ r, r = A % D := ⟨_, rfl⟩
  rw [← hq, ← hr] at hdm ⊢
  rw [← hr] at hmod
  have e1 : ((A : Nat) : Int) = (D : Int) * (q : Int) + (r : Int) := by rw [← hdm]; simp
  have e2 : ((q + 1 : Nat) : Int) * (D : Int) = (D : Int) * (q : Int) + (D : Int) := by rw [Int.natCast_add, Int.add_mul, Int.mul_comm]; simp
  have e3 : (q : Int) * (D : Int) = (D : Int) * (q : Int) := Int.mul_comm _ _
  obtain ⟨P, hP⟩ : ∃ P : Int, P = (D : Int) * (q : Int) := ⟨_, rfl⟩
  rw [← hP] at e1 e2 e3
  rw [← ha, ← hbb]
  by_cases hc : r = 0 ∨ farB how sa sb q r D = false
  · rw [if_pos hc, if_pos hc]
    cases sa <;> cases sb
    · show (r : Int) = (A : Int) - (q : Int) * (D : Int); rw [e3, e1]; omega
    · show (r : Int) = (A : Int) - (-(q : Int)) * (-(D : Int)); rw [Int.neg_mul_neg, e3, e1]; omega
    · show -(r : Int) = -(A : Int) - (-(q : Int)) * (D : Int); rw [Int.neg_mul, e3, e1]; omega
    · show -(r : Int) = -(A : Int) - (q : Int) * (-(D : Int)); rw [Int.mul_neg, e3, e1]; omega
  · rw [if_neg hc, if_neg hc]
    have e4 : ((D - r : Nat) : Int) = (D : Int) - (r : Int) := by omega
    cases sa <;> cases sb
    · show -((D - r : Nat) : Int) = (A : Int) - ((q + 1 : Nat) : Int) * (D : Int); rw [e2, e1, e4]; omega
    · show -((D - r : Nat) : Int) = (A : Int) - (-((q + 1 : Nat) : Int)) * (-(D : Int)); rw [Int.neg_mul_neg, e2, e1, e4]; omega
    · show ((D - r : Nat) : Int) = -(A : Int) - (-((q + 1 : Nat) : Int)) * (D : Int); rw [Int.neg_mul, e2, e1, e4]; omega
    · show ((D - r : Nat) : Int) = -(A : Int) - ((q + 1 : Nat) : Int) * (-(D : Int)); rw [Int.mul_neg, e2, e1, e4]; omega

/-- the lengths of what a division gives -/
theorem divQ_len (how : Nat) (a b : Int) (la : (Nl.limbs a.natAbs).length ≤ 1000) : fitI (divQ how a b) := by
  have h1 : (Nl.limbs (a.natAbs / b.natAbs)).length ≤ 1000 := Nat.le_trans (Nl.limbs_mono (Nat.div_le_self _ _)) la
  have h2 := Nl.len_add (a.natAbs / b.natAbs) 1
  have h3 : (Nl.limbs 1).length ≤ 1 := Nl.limbs_lt (by decide)
  rw [divQ]
  split <;> rw [fitI, sgn_abs] <;> omega
theorem divR_len (how : Nat) (a b : Int) (lb : (Nl.limbs b.natAbs).length ≤ 1000) (hb : b ≠ 0) : fitI (divR how a b) := by
  have hm := natAbs_lt_pos (r := a.natAbs) (show b.natAbs ≠ 0 by omega)
  rw [divR]
  split
  · rw [fitI, sgn_abs]; exact Nat.le_trans (Nl.limbs_mono (Nat.le_of_lt hm)) (Nat.le_trans lb (by decide))
  · rw [fitI, sgn_abs]; exact Nat.le_trans (Nl.limbs_mono (Nat.sub_le _ _)) (Nat.le_trans lb (by decide))

theorem isI_valid {w : World} {v : Value} {s : Bool} {xs : List Nat} (h : AtI w v s xs) (hm : Nl.Small xs) (hok : validI s xs = true) : IsI w v (sgn s (Nl.val xs)) ∧ Nl.limbs (sgn s (Nl.val xs)).natAbs = xs := by
  obtain ⟨p, c, rfl, u⟩ := h.form
  obtain ⟨e1, e2, -⟩ := validI_norm hm hok
  exact ⟨(isI_of_ok (at_of h) hm hok).1, e2.symm⟩

theorem wDiv_any (va vb : Value) (s0 s1 : Bool) (xs ys : List Nat) (how : Int) (w : World) (h0 : AtI w va s0 xs) (h1 : AtI w vb s1 ys) (m0 : Nl.Small xs) (m1 : Nl.Small ys) (la : xs.length ≤ 900) (lb : ys.length ≤ 900) :
    Calls Tryz.prog 39 #[va, vb, .int .i64 how] w fun e w' => WDivOut w w' e (divK2 s0 s1 xs ys how) (divQ how.toNat (sgn s0 (Nl.val xs)) (sgn s1 (Nl.val ys))) (divR how.toNat (sgn s0 (Nl.val xs)) (sgn s1 (Nl.val ys))) := by
  by_cases hk : divK2 s0 s1 xs ys how = 0
  · have hok : (validI s0 xs && validI s1 ys) = true := by
      by_cases h : (validI s0 xs && validI s1 ys) = true
      · exact h
      · rw [divK2, if_neg h] at hk; exact absurd hk (by decide)
    have hhow : 1 ≤ how ∧ how ≤ 4 := by
      rw [divK2, if_pos hok] at hk
      by_cases h : 1 ≤ how ∧ how ≤ 4
      · exact h
      · rw [if_neg h] at hk; exact absurd hk (by decide)
    have hl : ys.length ≠ 0 := by
      rw [divK2, if_pos hok, if_pos hhow] at hk
      intro h
      rw [if_pos h] at hk; exact absurd hk (by decide)
    rw [Bool.and_eq_true] at hok
    obtain ⟨ia, ea⟩ := isI_valid h0 m0 hok.1
    obtain ⟨ib, eb⟩ := isI_valid h1 m1 hok.2
    obtain ⟨n, hn⟩ : ∃ n : Nat, how = n := ⟨how.toNat, by omega⟩
    subst hn
    have hb0 : sgn s1 (Nl.val ys) ≠ 0 := fun h => hl (by rw [← eb, h]; show (Nl.limbs 0).length = 0; rw [Nl.limbs_zero]; rfl)
    rw [hk]
    refine (wholeDiv_ok va vb s0 s1 n xs ys (divQ n (sgn s0 (Nl.val xs)) (sgn s1 (Nl.val ys))) (divR n (sgn s0 (Nl.val xs)) (sgn s1 (Nl.val ys))) w h0 h1 hok.1 hok.2 hhow.1 hhow.2 (by omega) (divQ_len _ _ _ (by rw [ea]; omega)) (divR_len _ _ _ (by rw [eb]; omega) hb0) (fun w' hw' => over_gen n (by omega) (by omega) va vb _ _ w' (AtI.below ia hw') (AtI.below ib hw') (by rw [ea]; omega) (by rw [fitI, eb]; omega) hb0)).mono ?_
    rintro e w' ⟨⟨u, v, rfl, hu, hv⟩, hb⟩
    obtain ⟨p, c, rfl, -⟩ := AtI.form hu
    obtain ⟨p', c', rfl, -⟩ := AtI.form hv
    exact ⟨⟨_, _, _, _, _, _, _, _, rfl, fun _ => ⟨hu, hv⟩, fun h => absurd rfl h⟩, hb⟩
  · refine (wholeDiv_bad va vb s0 s1 how xs ys w h0 h1 hk).mono ?_
    rintro e w' ⟨rfl, hb⟩
    exact ⟨⟨_, _, _, _, _, _, _, _, rfl, fun h => absurd h hk, fun _ => ⟨rfl, rfl, rfl, rfl, rfl, rfl, rfl, rfl⟩⟩, hb⟩

set_option maxHeartbeats 8000000 in
theorem rDiv_any (va vb : Value) (s0 s1 : Bool) (xs ys : List Nat) (how : Int) (w : World) (h0 : AtI w va s0 xs) (h1 : AtI w vb s1 ys) (m0 : Nl.Small xs) (m1 : Nl.Small ys) (la : xs.length ≤ 900) (lb : ys.length ≤ 900) :
    Calls Tryz.prog 40 #[va, vb, .int .i64 how] w fun e w' => RDivOut w w' e (divK2 s0 s1 xs ys how) (divQ how.toNat (sgn s0 (Nl.val xs)) (sgn s1 (Nl.val ys))) (divR how.toNat (sgn s0 (Nl.val xs)) (sgn s1 (Nl.val ys))) := by
  obtain ⟨p0, c0, rfl, -⟩ := h0.form
  obtain ⟨p1, c1, rfl, -⟩ := h1.form
  obtain ⟨l0, hl0⟩ : ∃ l0, l0 = xs.length := ⟨_, rfl⟩
  obtain ⟨l1, hl1⟩ : ∃ l1, l1 = ys.length := ⟨_, rfl⟩
  rw [← hl0] at h0 ⊢
  rw [← hl1] at h1 ⊢
  obtain ⟨W, hW⟩ : ∃ W, W = ((w.alloc (.cells #[.bool s0, .slice p0 l0 c0] 25)).alloc (.cells #[.bool s1, .slice p1 l1 c1] 25)).alloc (.cells #[.bool false, .slice none 0 0, .bool false, .slice none 0 0, .int .i64 0] 47) := ⟨_, rfl⟩
  have hbW : Below w.heap.size w W := by rw [hW]; exact three_new w _ _ _
  have B0 : W.heap[w.heap.size]? = some (.cells #[.bool s0, .slice p0 l0 c0] 25 (0, 0)) := by rw [hW]; exact al_keep _ _ (by simp <;> omega) (al_keep _ _ (by simp <;> omega) (al_at _ _ (by simp)))
  have B1 : W.heap[w.heap.size + 1]? = some (.cells #[.bool s1, .slice p1 l1 c1] 25 (0, 0)) := by rw [hW]; exact al_keep _ _ (by simp <;> omega) (al_at _ _ (by simp))
  have B2 : W.heap[w.heap.size + 1 + 1]? = some (.cells #[.bool false, .slice none 0 0, .bool false, .slice none 0 0, .int .i64 0] 47 (0, 0)) := by rw [hW]; exact al_at _ _ (by simp)
  have k00 := cell_of_row _ _ 0 _ _ (0, 0) B0
  have k01 := cell_of_row _ _ 1 _ _ (0, 0) B0
  have k10 := cell_of_row _ _ 0 _ _ (0, 0) B1
  have k11 := cell_of_row _ _ 1 _ _ (0, 0) B1
  simp only [List.getElem?_toArray, List.getElem?_cons_zero, List.getElem?_cons_succ] at k00 k01 k10 k11
  have hR := B2
  have hV0 := ref2Valid_any _ s0 xs W (h0.below hbW)
  have HV1 := Lib.hid (fun (w' : World) (h : Below W.heap.size W w') => ref2Valid_any _ s1 ys w' ((h1.below hbW).below h))
  have HB := Lib.hid (And.intro hbW (And.intro B0 (And.intro B1 B2)))
  have HA := Lib.hid (And.intro (h0.below hbW) (And.intro (h1.below hbW) (And.intro m0 (And.intro m1 (And.intro la (And.intro lb (And.intro hl0 hl1)))))))
  clear h0 h1 hl0 hl1 m0 m1 la lb hbW B0 B1 B2
  cases hok0 : validI s0 xs with
  | false =>
    rw [hok0] at hV0
    have HV0 := Lib.hid hV0
    have HK := Lib.hid (show divK2 s0 s1 xs ys how = 1 by rw [divK2, hok0, if_neg (by simp)])
    clear hok0 hV0
    go_enter Tryz.func40, Tryz.ntmps40
    go_wp2_with fail
    rw [← hW]
    clear hW
    refine HV0.out.mono ?_
    rintro e w1 ⟨rfl, hb1⟩
    have HS1 := Lib.hid hb1
    have R1 := (hb1.block _ (lt_of_block HB.out.2.2.2)).trans HB.out.2.2.2
    have x0 := frozen_of_row _ _ 0 _ _ R1
    have y0 := cell_of_row _ _ 0 _ _ (0, 0) R1
    have x1 := frozen_of_row _ _ 1 _ _ R1
    have y1 := cell_of_row _ _ 1 _ _ (0, 0) R1
    have x2 := frozen_of_row _ _ 2 _ _ R1
    have y2 := cell_of_row _ _ 2 _ _ (0, 0) R1
    have x3 := frozen_of_row _ _ 3 _ _ R1
    have y3 := cell_of_row _ _ 3 _ _ (0, 0) R1
    have x4 := frozen_of_row _ _ 4 _ _ R1
    have y4 := cell_of_row _ _ 4 _ _ (0, 0) R1
    simp only [List.getElem?_toArray, List.getElem?_cons_zero, List.getElem?_cons_succ] at y0 y1 y2 y3 y4
    have HR1 := Lib.hid R1
    clear R1
    clear hb1 k00 k01 k10 k11 HV0
    go_wp2_with fail
    refine bodyPost_ret (v := .agg #[.bool false, .slice none 0 0, .bool false, .slice none 0 0, .int .i64 1]) (results_cell_row Tryz.results40 _ _ (w.heap.size + 1 + 1) 47 _ (0, 0) _ rfl (row_set5 (g := w.heap.size + 1 + 1) _ _ _ _ _ HR1.out) Tryz.underlying47 rfl (by kernel_rfl)) rfl ?_
    rw [HK.out]
    exact ⟨⟨_, _, _, _, _, _, _, _, rfl, fun h => absurd h (by decide), fun _ => ⟨rfl, rfl, rfl, rfl, rfl, rfl, rfl, rfl⟩⟩, below_all (HB.out.1.trans (HS1.out.mono HB.out.1.size)) (by omega) _ _ _ _ _⟩
  | true =>
    rw [hok0] at hV0
    have HV0 := Lib.hid hV0
    clear hV0
    cases hok1 : validI s1 ys with
    | false =>
      have HK := Lib.hid (show divK2 s0 s1 xs ys how = 1 by rw [divK2, hok0, hok1, if_neg (by simp)])
      rw [hok1] at HV1
      clear hok0 hok1
      go_enter Tryz.func40, Tryz.ntmps40
      go_wp2_with fail
      rw [← hW]
      clear hW
      refine HV0.out.mono ?_
      rintro e w1 ⟨rfl, hb1⟩
      have HS1 := Lib.hid hb1
      have i10 := (hb1.cell (lt_of_block HB.out.2.2.1)).trans k10
      have i11 := (hb1.cell (lt_of_block HB.out.2.2.1)).trans k11
      have HV := Lib.hid (HV1.out w1 hb1)
      clear hb1 HV0 HV1
      go_wp2_with fail
      refine HV.out.mono ?_
      rintro e w2 ⟨rfl, hb2⟩
      have hs2 := HS1.out.trans (hb2.mono HS1.out.size)
      have R2 := (hs2.block _ (lt_of_block HB.out.2.2.2)).trans HB.out.2.2.2
      have x0 := frozen_of_row _ _ 0 _ _ R2
      have y0 := cell_of_row _ _ 0 _ _ (0, 0) R2
      have x1 := frozen_of_row _ _ 1 _ _ R2
      have y1 := cell_of_row _ _ 1 _ _ (0, 0) R2
      have x2 := frozen_of_row _ _ 2 _ _ R2
      have y2 := cell_of_row _ _ 2 _ _ (0, 0) R2
      have x3 := frozen_of_row _ _ 3 _ _ R2
      have y3 := cell_of_row _ _ 3 _ _ (0, 0) R2
      have x4 := frozen_of_row _ _ 4 _ _ R2
      have y4 := cell_of_row _ _ 4 _ _ (0, 0) R2
      simp only [List.getElem?_toArray, List.getElem?_cons_zero, List.getElem?_cons_succ] at y0 y1 y2 y3 y4
      have HR2 := Lib.hid R2
      have HS2 := Lib.hid hs2
      clear i10 i11 hb2 HV R2
      clear hs2 k00 k01 k10 k11
      go_wp2_with fail
      refine bodyPost_ret (v := .agg #[.bool false, .slice none 0 0, .bool false, .slice none 0 0, .int .i64 1]) (results_cell_row Tryz.results40 _ _ (w.heap.size + 1 + 1) 47 _ (0, 0) _ rfl (row_set5 (g := w.heap.size + 1 + 1) _ _ _ _ _ HR2.out) Tryz.underlying47 rfl (by kernel_rfl)) rfl ?_
      rw [HK.out]
      exact ⟨⟨_, _, _, _, _, _, _, _, rfl, fun h => absurd h (by decide), fun _ => ⟨rfl, rfl, rfl, rfl, rfl, rfl, rfl, rfl⟩⟩, below_all (HB.out.1.trans (HS2.out.mono HB.out.1.size)) (by omega) _ _ _ _ _⟩
    | true =>
      rw [hok1] at HV1
      have HOK := Lib.hid (And.intro hok0 hok1)
      have hKK : divK2 s0 s1 xs ys how = (if 1 ≤ how ∧ how ≤ 4 then (if l1 = 0 then 8 else 0) else 1) := by rw [divK2, hok0, hok1, if_pos (show (true && true) = true from rfl), HA.out.2.2.2.2.2.2.2]
      clear hok0 hok1
      by_cases h1 : 1 ≤ how
      · by_cases h4 : how ≤ 4
        · by_cases hl : l1 = 0
          · have HK := Lib.hid (show divK2 s0 s1 xs ys how = 8 by rw [hKK, if_pos ⟨h1, h4⟩, if_pos hl])
            have t1 : decide (how < 1) = false := decide_eq_false (by omega)
            have t2 : decide (how > 4) = false := decide_eq_false (by omega)
            have t2' : decide (4 < how) = false := decide_eq_false (by omega)
            clear hKK h1 h4 HA HOK
            subst hl
            go_enter Tryz.func40, Tryz.ntmps40
            go_wp2_with fail
            rw [← hW]
            clear hW
            refine HV0.out.mono ?_
            rintro e w1 ⟨rfl, hb1⟩
            have HS1 := Lib.hid hb1
            have i10 := (hb1.cell (lt_of_block HB.out.2.2.1)).trans k10
            have i11 := (hb1.cell (lt_of_block HB.out.2.2.1)).trans k11
            have HV := Lib.hid (HV1.out w1 hb1)
            clear hb1 HV0 HV1
            go_wp2_with fail
            refine HV.out.mono ?_
            rintro e w2 ⟨rfl, hb2⟩
            have hs2 := HS1.out.trans (hb2.mono HS1.out.size)
            have R2 := (hs2.block _ (lt_of_block HB.out.2.2.2)).trans HB.out.2.2.2
            have x0 := frozen_of_row _ _ 0 _ _ R2
            have y0 := cell_of_row _ _ 0 _ _ (0, 0) R2
            have x1 := frozen_of_row _ _ 1 _ _ R2
            have y1 := cell_of_row _ _ 1 _ _ (0, 0) R2
            have x2 := frozen_of_row _ _ 2 _ _ R2
            have y2 := cell_of_row _ _ 2 _ _ (0, 0) R2
            have x3 := frozen_of_row _ _ 3 _ _ R2
            have y3 := cell_of_row _ _ 3 _ _ (0, 0) R2
            have x4 := frozen_of_row _ _ 4 _ _ R2
            have y4 := cell_of_row _ _ 4 _ _ (0, 0) R2
            simp only [List.getElem?_toArray, List.getElem?_cons_zero, List.getElem?_cons_succ] at y0 y1 y2 y3 y4
            have HR2 := Lib.hid R2
            have HS2 := Lib.hid hs2
            clear i10 i11 hb2 HV R2
            have i10 := (hs2.cell (lt_of_block HB.out.2.2.1)).trans k10
            have i11 := (hs2.cell (lt_of_block HB.out.2.2.1)).trans k11
            clear hs2 k00 k01 k10 k11
            go_wp2_with fail
            refine bodyPost_ret (v := .agg #[.bool false, .slice none 0 0, .bool false, .slice none 0 0, .int .i64 8]) (results_cell_row Tryz.results40 _ _ (w.heap.size + 1 + 1) 47 _ (0, 0) _ rfl (row_set5 (g := w.heap.size + 1 + 1) _ _ _ _ _ HR2.out) Tryz.underlying47 rfl (by kernel_rfl)) rfl ?_
            rw [HK.out]
            exact ⟨⟨_, _, _, _, _, _, _, _, rfl, fun h => absurd h (by decide), fun _ => ⟨rfl, rfl, rfl, rfl, rfl, rfl, rfl, rfl⟩⟩, below_all (HB.out.1.trans (HS2.out.mono HB.out.1.size)) (by omega) _ _ _ _ _⟩
          · have HK := Lib.hid (show divK2 s0 s1 xs ys how = 0 by rw [hKK, if_pos ⟨h1, h4⟩, if_neg hl])
            have t1 : decide (how < 1) = false := decide_eq_false (by omega)
            have t2 : decide (how > 4) = false := decide_eq_false (by omega)
            have t2' : decide (4 < how) = false := decide_eq_false (by omega)
            have t3 : ((l1 : Int) == 0) = false := by rw [beq_eq_false_iff_ne]; omega
            obtain ⟨ia, ea⟩ := isI_valid HA.out.1 HA.out.2.2.1 HOK.out.1
            obtain ⟨ib, eb⟩ := isI_valid HA.out.2.1 HA.out.2.2.2.1 HOK.out.2
            have hb0 : sgn s1 (Nl.val ys) ≠ 0 := fun h => hl (by rw [HA.out.2.2.2.2.2.2.2, ← eb, h]; show (Nl.limbs 0).length = 0; rw [Nl.limbs_zero]; rfl)
            obtain ⟨n, hn⟩ : ∃ n : Nat, how = n := ⟨how.toNat, by omega⟩
            have HQT := Lib.hid (fun (w' : World) (h : Below W.heap.size W w') => rquot_any n (by omega) (by omega) _ _ _ _ w' (AtI.below ia h) (AtI.below ib h) (by rw [ea]; exact HA.out.2.2.2.2.1) (by rw [eb]; exact HA.out.2.2.2.2.2.1) hb0)
            have HRQ := Lib.hid (divR_eq n (sgn s0 (Nl.val xs)) (sgn s1 (Nl.val ys)) hb0)
            have HN := Lib.hid (show how.toNat = n by omega)
            have HNN := Lib.hid hn
            clear hKK h1 h4 hl ia ea ib eb hb0 HA HOK hn
            go_enter Tryz.func40, Tryz.ntmps40
            go_wp2_with fail
            rw [← hW]
            clear hW
            refine HV0.out.mono ?_
            rintro e w1 ⟨rfl, hb1⟩
            have HS1 := Lib.hid hb1
            have i10 := (hb1.cell (lt_of_block HB.out.2.2.1)).trans k10
            have i11 := (hb1.cell (lt_of_block HB.out.2.2.1)).trans k11
            have HV := Lib.hid (HV1.out w1 hb1)
            clear hb1 HV0 HV1
            go_wp2_with fail
            refine HV.out.mono ?_
            rintro e w2 ⟨rfl, hb2⟩
            have hs2 := HS1.out.trans (hb2.mono HS1.out.size)
            have R2 := (hs2.block _ (lt_of_block HB.out.2.2.2)).trans HB.out.2.2.2
            have x0 := frozen_of_row _ _ 0 _ _ R2
            have y0 := cell_of_row _ _ 0 _ _ (0, 0) R2
            have x1 := frozen_of_row _ _ 1 _ _ R2
            have y1 := cell_of_row _ _ 1 _ _ (0, 0) R2
            have x2 := frozen_of_row _ _ 2 _ _ R2
            have y2 := cell_of_row _ _ 2 _ _ (0, 0) R2
            have x3 := frozen_of_row _ _ 3 _ _ R2
            have y3 := cell_of_row _ _ 3 _ _ (0, 0) R2
            have x4 := frozen_of_row _ _ 4 _ _ R2
            have y4 := cell_of_row _ _ 4 _ _ (0, 0) R2
            simp only [List.getElem?_toArray, List.getElem?_cons_zero, List.getElem?_cons_succ] at y0 y1 y2 y3 y4
            have HR2 := Lib.hid R2
            have HS2 := Lib.hid hs2
            clear i10 i11 hb2 HV R2
            have i00 := (hs2.cell (lt_of_block HB.out.2.1)).trans k00
            have i01 := (hs2.cell (lt_of_block HB.out.2.1)).trans k01
            have i10 := (hs2.cell (lt_of_block HB.out.2.2.1)).trans k10
            have i11 := (hs2.cell (lt_of_block HB.out.2.2.1)).trans k11
            have hq := HQT.out w2 hs2
            rw [← HRQ.out, ← HNN.out] at hq
            have HQ := Lib.hid hq
            clear hs2 hq k00 k01 k10 k11 x0 x1 x2 x3 x4 y0 y1 y2 y3 y4 HQT HRQ
            go_wp2_with fail
            refine HQ.out.mono ?_
            rintro e w3 ⟨⟨s, p, l, c, s', p', l', c', rfl, i1, i2⟩, hb3⟩
            have R3 := (hb3.block _ (lt_of_block HR2.out)).trans HR2.out
            have x0 := frozen_of_row _ _ 0 _ _ R3
            have y0 := cell_of_row _ _ 0 _ _ (0, 0) R3
            have x1 := frozen_of_row _ _ 1 _ _ R3
            have y1 := cell_of_row _ _ 1 _ _ (0, 0) R3
            have x2 := frozen_of_row _ _ 2 _ _ R3
            have y2 := cell_of_row _ _ 2 _ _ (0, 0) R3
            have x3 := frozen_of_row _ _ 3 _ _ R3
            have y3 := cell_of_row _ _ 3 _ _ (0, 0) R3
            have x4 := frozen_of_row _ _ 4 _ _ R3
            have y4 := cell_of_row _ _ 4 _ _ (0, 0) R3
            simp only [List.getElem?_toArray, List.getElem?_cons_zero, List.getElem?_cons_succ] at y0 y1 y2 y3 y4
            have HZ := Lib.hid (And.intro R3 (And.intro i1 (And.intro i2 (HS2.out.trans (hb3.mono HS2.out.size)))))
            clear R3 i1 i2 hb3 HQ i00 i01 i10 i11
            go_wp2_with fail
            refine bodyPost_ret (v := .agg #[.bool s, .slice p l c, .bool s', .slice p' l' c', .int .i64 0]) (results_cell_row Tryz.results40 _ _ (w.heap.size + 1 + 1) 47 _ (0, 0) _ rfl (row_set5 (g := w.heap.size + 1 + 1) _ _ _ _ _ HZ.out.1) Tryz.underlying47 rfl (by kernel_rfl)) rfl ?_
            rw [HK.out, HN.out]
            exact ⟨⟨_, _, _, _, _, _, _, _, rfl, fun _ => ⟨isI_all HZ.out.1 HZ.out.2.1, isI_all HZ.out.1 HZ.out.2.2.1⟩, fun h => absurd rfl h⟩, below_all (HB.out.1.trans (HZ.out.2.2.2.mono HB.out.1.size)) (by omega) _ _ _ _ _⟩
        · have HK := Lib.hid (show divK2 s0 s1 xs ys how = 1 by rw [hKK, if_neg (fun h => h4 h.2)])
          have t1 : decide (how < 1) = false := decide_eq_false (by omega)
          have t2 : decide (how > 4) = true := decide_eq_true (by omega)
          have t2' : decide (4 < how) = true := decide_eq_true (by omega)
          clear hKK h1 h4 HA HOK
          go_enter Tryz.func40, Tryz.ntmps40
          go_wp2_with fail
          rw [← hW]
          clear hW
          refine HV0.out.mono ?_
          rintro e w1 ⟨rfl, hb1⟩
          have HS1 := Lib.hid hb1
          have i10 := (hb1.cell (lt_of_block HB.out.2.2.1)).trans k10
          have i11 := (hb1.cell (lt_of_block HB.out.2.2.1)).trans k11
          have HV := Lib.hid (HV1.out w1 hb1)
          clear hb1 HV0 HV1
          go_wp2_with fail
          refine HV.out.mono ?_
          rintro e w2 ⟨rfl, hb2⟩
          have hs2 := HS1.out.trans (hb2.mono HS1.out.size)
          have R2 := (hs2.block _ (lt_of_block HB.out.2.2.2)).trans HB.out.2.2.2
          have x0 := frozen_of_row _ _ 0 _ _ R2
          have y0 := cell_of_row _ _ 0 _ _ (0, 0) R2
          have x1 := frozen_of_row _ _ 1 _ _ R2
          have y1 := cell_of_row _ _ 1 _ _ (0, 0) R2
          have x2 := frozen_of_row _ _ 2 _ _ R2
          have y2 := cell_of_row _ _ 2 _ _ (0, 0) R2
          have x3 := frozen_of_row _ _ 3 _ _ R2
          have y3 := cell_of_row _ _ 3 _ _ (0, 0) R2
          have x4 := frozen_of_row _ _ 4 _ _ R2
          have y4 := cell_of_row _ _ 4 _ _ (0, 0) R2
          simp only [List.getElem?_toArray, List.getElem?_cons_zero, List.getElem?_cons_succ] at y0 y1 y2 y3 y4
          have HR2 := Lib.hid R2
          have HS2 := Lib.hid hs2
          clear i10 i11 hb2 HV R2
          clear hs2 k00 k01 k10 k11
          go_wp2_with fail
          refine bodyPost_ret (v := .agg #[.bool false, .slice none 0 0, .bool false, .slice none 0 0, .int .i64 1]) (results_cell_row Tryz.results40 _ _ (w.heap.size + 1 + 1) 47 _ (0, 0) _ rfl (row_set5 (g := w.heap.size + 1 + 1) _ _ _ _ _ HR2.out) Tryz.underlying47 rfl (by kernel_rfl)) rfl ?_
          rw [HK.out]
          exact ⟨⟨_, _, _, _, _, _, _, _, rfl, fun h => absurd h (by decide), fun _ => ⟨rfl, rfl, rfl, rfl, rfl, rfl, rfl, rfl⟩⟩, below_all (HB.out.1.trans (HS2.out.mono HB.out.1.size)) (by omega) _ _ _ _ _⟩
      · have HK := Lib.hid (show divK2 s0 s1 xs ys how = 1 by rw [hKK, if_neg (fun h => h1 h.1)])
        have t1 : decide (how < 1) = true := decide_eq_true (by omega)
        clear hKK h1 HA HOK
        go_enter Tryz.func40, Tryz.ntmps40
        go_wp2_with fail
        rw [← hW]
        clear hW
        refine HV0.out.mono ?_
        rintro e w1 ⟨rfl, hb1⟩
        have HS1 := Lib.hid hb1
        have i10 := (hb1.cell (lt_of_block HB.out.2.2.1)).trans k10
        have i11 := (hb1.cell (lt_of_block HB.out.2.2.1)).trans k11
        have HV := Lib.hid (HV1.out w1 hb1)
        clear hb1 HV0 HV1
        go_wp2_with fail
        refine HV.out.mono ?_
        rintro e w2 ⟨rfl, hb2⟩
        have hs2 := HS1.out.trans (hb2.mono HS1.out.size)
        have R2 := (hs2.block _ (lt_of_block HB.out.2.2.2)).trans HB.out.2.2.2
        have x0 := frozen_of_row _ _ 0 _ _ R2
        have y0 := cell_of_row _ _ 0 _ _ (0, 0) R2
        have x1 := frozen_of_row _ _ 1 _ _ R2
        have y1 := cell_of_row _ _ 1 _ _ (0, 0) R2
        have x2 := frozen_of_row _ _ 2 _ _ R2
        have y2 := cell_of_row _ _ 2 _ _ (0, 0) R2
        have x3 := frozen_of_row _ _ 3 _ _ R2
        have y3 := cell_of_row _ _ 3 _ _ (0, 0) R2
        have x4 := frozen_of_row _ _ 4 _ _ R2
        have y4 := cell_of_row _ _ 4 _ _ (0, 0) R2
        simp only [List.getElem?_toArray, List.getElem?_cons_zero, List.getElem?_cons_succ] at y0 y1 y2 y3 y4
        have HR2 := Lib.hid R2
        have HS2 := Lib.hid hs2
        clear i10 i11 hb2 HV R2
        clear hs2 k00 k01 k10 k11
        go_wp2_with fail
        refine bodyPost_ret (v := .agg #[.bool false, .slice none 0 0, .bool false, .slice none 0 0, .int .i64 1]) (results_cell_row Tryz.results40 _ _ (w.heap.size + 1 + 1) 47 _ (0, 0) _ rfl (row_set5 (g := w.heap.size + 1 + 1) _ _ _ _ _ HR2.out) Tryz.underlying47 rfl (by kernel_rfl)) rfl ?_
        rw [HK.out]
        exact ⟨⟨_, _, _, _, _, _, _, _, rfl, fun h => absurd h (by decide), fun _ => ⟨rfl, rfl, rfl, rfl, rfl, rfl, rfl, rfl⟩⟩, below_all (HB.out.1.trans (HS2.out.mono HB.out.1.size)) (by omega) _ _ _ _ _⟩
end Go.Proofs.YtodjncohhgknlaaGreat

namespace Go.Proofs.YtodjncohhgknlaaGreat
open Go.RowKit

theorem sameE (w : World) : Calls Tryz.prog 27 #[.agg #[.bool false, .slice none 0 0], .agg #[.bool false, .slice none 0 0]] w fun e w' => e = .returned (.bool true) ∧ Below w.heap.size w w' :=
  (ref2Same_any _ _ false false [] [] w (AtI.mk (.inl ⟨rfl, rfl⟩)) (AtI.mk (.inl ⟨rfl, rfl⟩))).mono fun e w' h => ⟨by rw [h.1, sameB_refl]; rfl, h.2⟩
theorem divS_q {w : World} {K x y : Int} {s s' t t' : Bool} {p p' q q' : Option Addr} {l c l' c' m d m' d' : Nat} (h : DivS w K x y s p l c s' p' l' c') (g : DivS w K x y t q m d t' q' m' d') :
    Calls Tryz.prog 27 #[.agg #[.bool s, .slice p l c], .agg #[.bool t, .slice q m d]] w fun e w' => e = .returned (.bool true) ∧ Below w.heap.size w w' := by
  by_cases hK : K = 0
  · exact sameI_yes _ _ x w (h.1 hK).1 (g.1 hK).1
  · obtain ⟨rfl, rfl, rfl, rfl, -⟩ := h.2 hK
    obtain ⟨rfl, rfl, rfl, rfl, -⟩ := g.2 hK
    exact sameE w
theorem divS_r {w : World} {K x y : Int} {s s' t t' : Bool} {p p' q q' : Option Addr} {l c l' c' m d m' d' : Nat} (h : DivS w K x y s p l c s' p' l' c') (g : DivS w K x y t q m d t' q' m' d') :
    Calls Tryz.prog 27 #[.agg #[.bool s', .slice p' l' c'], .agg #[.bool t', .slice q' m' d']] w fun e w' => e = .returned (.bool true) ∧ Below w.heap.size w w' := by
  by_cases hK : K = 0
  · exact sameI_yes _ _ y w (h.1 hK).2 (g.1 hK).2
  · obtain ⟨-, -, -, -, rfl, rfl, rfl, rfl⟩ := h.2 hK
    obtain ⟨-, -, -, -, rfl, rfl, rfl, rfl⟩ := g.2 hK
    exact sameE w

set_option maxRecDepth 10000 in
set_option maxHeartbeats 16000000 in
theorem wholeDivides_any (va vb : Value) (s0 s1 : Bool) (xs ys : List Nat) (how : Int) (w : World) (h0 : AtI w va s0 xs) (h1 : AtI w vb s1 ys) (m0 : Nl.Small xs) (m1 : Nl.Small ys) :
    Calls Tryz.prog 5 #[va, vb, .int .i64 how] w fun e w' => e = .returned (.bool true) ∧ Below w.heap.size w w' := by
  obtain ⟨p0, c0, rfl, u0⟩ := h0.form
  obtain ⟨p1, c1, rfl, u1⟩ := h1.form
  have HA := Lib.hid awake_any
  obtain ⟨l0, hl0⟩ : ∃ l0, l0 = xs.length := ⟨_, rfl⟩
  obtain ⟨l1, hl1⟩ : ∃ l1, l1 = ys.length := ⟨_, rfl⟩
  rw [← hl0] at u0 h0 ⊢
  rw [← hl1] at u1 h1 ⊢
  obtain ⟨W, hW⟩ : ∃ W, W = (w.alloc (.cells #[.bool s0, .slice p0 l0 c0] 25)).alloc (.cells #[.bool s1, .slice p1 l1 c1] 25) := ⟨_, rfl⟩
  have hb : Below w.heap.size w W := by rw [hW]; exact two_new w _ _
  have B0 : W.heap[w.heap.size]? = some (.cells #[.bool s0, .slice p0 l0 c0] 25 (0, 0)) := by rw [hW]; exact heap_alloc2_old w _ _
  have B1 : W.heap[w.heap.size + 1]? = some (.cells #[.bool s1, .slice p1 l1 c1] 25 (0, 0)) := by rw [hW]; exact heap_alloc2_new w _ _
  have b00 := cell_of_row _ _ 0 _ _ (0, 0) B0
  have b01 := cell_of_row _ _ 1 _ _ (0, 0) B0
  have b10 := cell_of_row _ _ 0 _ _ (0, 0) B1
  have b11 := cell_of_row _ _ 1 _ _ (0, 0) B1
  simp only [List.getElem?_toArray, List.getElem?_cons_zero, List.getElem?_cons_succ] at b00 b01 b10 b11
  have hlt0 := lt_of_block B0
  have hlt1 := lt_of_block B1
  have k00 : ∀ w', Below W.heap.size W w' → w'.cell? ⟨w.heap.size, 0, none⟩ = some (.bool s0) := fun w' h => (h.cell hlt0).trans b00
  have k01 : ∀ w', Below W.heap.size W w' → w'.cell? ⟨w.heap.size, 1, none⟩ = some (.slice p0 l0 c0) := fun w' h => (h.cell hlt0).trans b01
  have k10 : ∀ w', Below W.heap.size W w' → w'.cell? ⟨w.heap.size + 1, 0, none⟩ = some (.bool s1) := fun w' h => (h.cell hlt1).trans b10
  have k11 : ∀ w', Below W.heap.size W w' → w'.cell? ⟨w.heap.size + 1, 1, none⟩ = some (.slice p1 l1 c1) := fun w' h => (h.cell hlt1).trans b11
  have HW := Lib.hid hb
  have H0 := Lib.hid (And.intro (h0.below hb) m0)
  have H1 := Lib.hid (And.intro (h1.below hb) m1)
  have HK := Lib.hid (And.intro k00 (And.intro k01 (And.intro k10 k11)))
  have HS0 := Lib.hid (fun (w' : World) (h : Below W.heap.size W w') => small_law (.agg #[.bool s0, .slice p0 l0 c0]) s0 xs 40 w' (H0.out.1.below h))
  have HS1 := Lib.hid (fun (w' : World) (h : Below W.heap.size W w') => small_law (.agg #[.bool s1, .slice p1 l1 c1]) s1 ys 40 w' (H1.out.1.below h))
  rw [← hl0] at HS0
  rw [← hl1] at HS1
  have HLL := Lib.hid (And.intro hl0 hl1)
  clear u0 u1 h0 h1 m0 m1 hl0 hl1 hb B0 B1 hlt0 hlt1 k00 k01 k10 k11
  by_cases hx : l0 ≤ 40
  · by_cases hy : l1 ≤ 40
    · have q0 := decide_eq_true hx
      have q1 := decide_eq_true hy
      rw [q0] at HS0
      rw [q1] at HS1
      have HXY := Lib.hid (show xs.length ≤ 900 ∧ ys.length ≤ 900 from ⟨by rw [← HLL.out.1]; omega, by rw [← HLL.out.2]; omega⟩)
      clear hx hy q0 q1
      go_enter Tryz.func5, Tryz.ntmps5
      go_wp2_with fail
      rw [← hW]
      clear hW
      refine (HS0.out W (Below.refl _ _)).mono ?_
      rintro e w1 ⟨rfl, hbw1⟩
      have HB1 := Lib.hid hbw1
      clear hbw1 b00 b01 b10 b11
      have b00 := HK.out.1 w1 HB1.out
      have b01 := HK.out.2.1 w1 HB1.out
      have b10 := HK.out.2.2.1 w1 HB1.out
      have b11 := HK.out.2.2.2 w1 HB1.out
      go_wp2_with fail
      refine (HS1.out w1 HB1.out).mono ?_
      rintro e w2 ⟨rfl, hbw2⟩
      have HB2 := Lib.hid (HB1.out.trans (hbw2.mono HB1.out.size))
      clear hbw2 b00 b01 b10 b11
      go_wp2_with fail
      go_loopw [7] (fun i wr => ∃ k : Nat, 1 ≤ k ∧ k ≤ 5 ∧ i = .int .i64 (k : Int) ∧ Hid (Below W.heap.size W wr)) (fun i _ => 5 - (intOf i).toNat)
      case atStart => exact ⟨1, Nat.le_refl _, by decide, rfl, HB2.out⟩
      case round =>
        obtain ⟨k, hk1, hk5, rfl, hbel⟩ := hrel
        by_cases hk : k ≤ 4
        · have t0 : decide (k ≤ 4) = true := decide_eq_true hk
          have t0' : decide ((k : Int) ≤ 4) = true := decide_eq_true (by omega)
          have b00 := HK.out.1 wr hbel.out
          have b01 := HK.out.2.1 wr hbel.out
          have b10 := HK.out.2.2.1 wr hbel.out
          have b11 := HK.out.2.2.2 wr hbel.out
          have HCa := Lib.hid (wDiv_any _ _ s0 s1 xs ys (k : Int) wr (H0.out.1.below hbel.out) (H1.out.1.below hbel.out) H0.out.2 H1.out.2 HXY.out.1 HXY.out.2)
          go_wp2_with fail
          refine HCa.out.mono ?_
          rintro e u3 ⟨⟨s, p, l, c, s', p', l', c', rfl, hd⟩, hb3⟩
          obtain ⟨kk, hkk⟩ : ∃ kk, kk = divK2 s0 s1 xs ys (k : Int) := ⟨_, rfl⟩
          rw [← hkk] at hd ⊢
          obtain ⟨Z1, hZ1⟩ : ∃ Z1, Z1 = (u3.alloc (.cells #[.bool s, .slice p l c] 25)).alloc (.cells #[.bool s', .slice p' l' c'] 25) := ⟨_, rfl⟩
          have hz : Below u3.heap.size u3 Z1 := by rw [hZ1]; exact two_new _ _ _
          have r0 : Z1.heap[u3.heap.size]? = some (.cells #[.bool s, .slice p l c] 25 (0, 0)) := by rw [hZ1]; exact heap_alloc2_old _ _ _
          have r1 : Z1.heap[u3.heap.size + 1]? = some (.cells #[.bool s', .slice p' l' c'] 25 (0, 0)) := by rw [hZ1]; exact heap_alloc2_new _ _ _
          have HRa := Lib.hid (And.intro r0 r1)
          have HDa := Lib.hid (hd.below hz)
          have HZa := Lib.hid (hbel.out.trans ((hb3.trans (hz.mono hb3.size)).mono hbel.out.size))
          have HKKa := Lib.hid hkk
          clear hd hz r0 r1 hb3 hkk HCa b00 b01 b10 b11
          have b00 := HK.out.1 Z1 HZa.out
          have b01 := HK.out.2.1 Z1 HZa.out
          have b10 := HK.out.2.2.1 Z1 HZa.out
          have b11 := HK.out.2.2.2 Z1 HZa.out
          rw [hZ1] at b00 b01 b10 b11
          have hr := rDiv_any _ _ s0 s1 xs ys (k : Int) Z1 (H0.out.1.below HZa.out) (H1.out.1.below HZa.out) H0.out.2 H1.out.2 HXY.out.1 HXY.out.2
          rw [← HKKa.out] at hr
          have HC := Lib.hid hr
          clear hr
          go_wp2_with fail
          rw [← hZ1]
          clear hZ1
          refine HC.out.mono ?_
          rintro e u4 ⟨⟨t, q, m, d, t', q', m', d', rfl, hd⟩, hb4⟩
          obtain ⟨Z2, hZ2⟩ : ∃ Z2, Z2 = u4.alloc (.cells #[.bool t, .slice q m d, .bool t', .slice q' m' d', .int .i64 kk] 47) := ⟨_, rfl⟩
          have hz : Below u4.heap.size u4 Z2 := by rw [hZ2]; exact below_one _ _
          have hs := hb4.trans (hz.mono hb4.size)
          have HYa := Lib.hid (HZa.out.trans (hs.mono HZa.out.size))
          have HEa := Lib.hid (And.intro (HDa.out.below hs) (hd.below hz))
          have n0 := (hs.block _ (lt_of_block HRa.out.1)).trans HRa.out.1
          have n1 := (hs.block _ (lt_of_block HRa.out.2)).trans HRa.out.2
          have Xa : Z2.heap[u4.heap.size]? = some (.cells #[.bool t, .slice q m d, .bool t', .slice q' m' d', .int .i64 kk] 47 (0, 0)) := by rw [hZ2]; exact al_at _ _ rfl
          have HXa := Lib.hid (And.intro n0 (And.intro n1 Xa))
          have j00 := cell_of_row _ _ 0 _ _ (0, 0) n0
          have j01 := cell_of_row _ _ 1 _ _ (0, 0) n0
          have j10 := cell_of_row _ _ 0 _ _ (0, 0) n1
          have j11 := cell_of_row _ _ 1 _ _ (0, 0) n1
          have i0 := cell_of_row _ _ 0 _ _ (0, 0) Xa
          have i1 := cell_of_row _ _ 1 _ _ (0, 0) Xa
          have i2 := cell_of_row _ _ 2 _ _ (0, 0) Xa
          have i3 := cell_of_row _ _ 3 _ _ (0, 0) Xa
          have i4 := cell_of_row _ _ 4 _ _ (0, 0) Xa
          simp only [List.getElem?_toArray, List.getElem?_cons_zero, List.getElem?_cons_succ] at j00 j01 j10 j11 i0 i1 i2 i3 i4
          have ekk : (kk != kk) = false := by simp
          have ekk2 : (kk == kk) = true := by simp
          clear hd hb4 hz hs n0 n1 Xa HC b00 b01 b10 b11
          rw [hZ2] at j00 j01 j10 j11 i0 i1 i2 i3 i4
          have HS1' := Lib.hid (divS_q HEa.out.1 HEa.out.2)
          go_wp2_with fail
          rw [← hZ2]
          rw [← hZ2] at j00 j01 j10 j11 i0 i1 i2 i3 i4
          clear hZ2
          refine HS1'.out.mono ?_
          rintro e u5 ⟨rfl, hb5⟩
          have gj00 := (hb5.cell (lt_of_block HXa.out.1)).trans j00
          have gj01 := (hb5.cell (lt_of_block HXa.out.1)).trans j01
          have gj10 := (hb5.cell (lt_of_block HXa.out.2.1)).trans j10
          have gj11 := (hb5.cell (lt_of_block HXa.out.2.1)).trans j11
          have gi0 := (hb5.cell (lt_of_block HXa.out.2.2)).trans i0
          have gi1 := (hb5.cell (lt_of_block HXa.out.2.2)).trans i1
          have gi2 := (hb5.cell (lt_of_block HXa.out.2.2)).trans i2
          have gi3 := (hb5.cell (lt_of_block HXa.out.2.2)).trans i3
          have gi4 := (hb5.cell (lt_of_block HXa.out.2.2)).trans i4
          have HS2' := Lib.hid (divS_r (HEa.out.1.below hb5) (HEa.out.2.below hb5))
          have HY5 := Lib.hid (HYa.out.trans (hb5.mono HYa.out.size))
          clear j00 j01 j10 j11 i0 i1 i2 i3 i4 hb5 HS1'
          go_wp2_with fail
          refine HS2'.out.mono ?_
          rintro e u6 ⟨rfl, hb6⟩
          have HY6 := Lib.hid (HY5.out.trans (hb6.mono HY5.out.size))
          clear gj00 gj01 gj10 gj11 gi0 gi1 gi2 gi3 gi4 hb6 HS2'
          go_wp2_with fail
          go_roundw
          case rel => exact ⟨k + 1, by omega, by omega, by go_num, HY6.out⟩
          case measure => simp [intOf] <;> omega
        · obtain rfl : k = 5 := by omega
          have t0 : decide (5 ≤ 4) = false := by decide
          clear hk hk1 hk5
          have b00 := HK.out.1 wr hbel.out
          have b01 := HK.out.2.1 wr hbel.out
          have b10 := HK.out.2.2.1 wr hbel.out
          have b11 := HK.out.2.2.2 wr hbel.out
          have HCb := Lib.hid (wDiv_any _ _ s0 s1 xs ys how wr (H0.out.1.below hbel.out) (H1.out.1.below hbel.out) H0.out.2 H1.out.2 HXY.out.1 HXY.out.2)
          go_wp2_with fail
          refine HCb.out.mono ?_
          rintro e u3 ⟨⟨s, p, l, c, s', p', l', c', rfl, hd⟩, hb3⟩
          obtain ⟨kk, hkk⟩ : ∃ kk, kk = divK2 s0 s1 xs ys how := ⟨_, rfl⟩
          rw [← hkk] at hd ⊢
          obtain ⟨Z1, hZ1⟩ : ∃ Z1, Z1 = (u3.alloc (.cells #[.bool s, .slice p l c] 25)).alloc (.cells #[.bool s', .slice p' l' c'] 25) := ⟨_, rfl⟩
          have hz : Below u3.heap.size u3 Z1 := by rw [hZ1]; exact two_new _ _ _
          have r0 : Z1.heap[u3.heap.size]? = some (.cells #[.bool s, .slice p l c] 25 (0, 0)) := by rw [hZ1]; exact heap_alloc2_old _ _ _
          have r1 : Z1.heap[u3.heap.size + 1]? = some (.cells #[.bool s', .slice p' l' c'] 25 (0, 0)) := by rw [hZ1]; exact heap_alloc2_new _ _ _
          have HRb := Lib.hid (And.intro r0 r1)
          have HDb := Lib.hid (hd.below hz)
          have HZb := Lib.hid (hbel.out.trans ((hb3.trans (hz.mono hb3.size)).mono hbel.out.size))
          have HKKb := Lib.hid hkk
          clear hd hz r0 r1 hb3 hkk HCb b00 b01 b10 b11
          have b00 := HK.out.1 Z1 HZb.out
          have b01 := HK.out.2.1 Z1 HZb.out
          have b10 := HK.out.2.2.1 Z1 HZb.out
          have b11 := HK.out.2.2.2 Z1 HZb.out
          rw [hZ1] at b00 b01 b10 b11
          have hr := rDiv_any _ _ s0 s1 xs ys how Z1 (H0.out.1.below HZb.out) (H1.out.1.below HZb.out) H0.out.2 H1.out.2 HXY.out.1 HXY.out.2
          rw [← HKKb.out] at hr
          have HC := Lib.hid hr
          clear hr
          go_wp2_with fail
          rw [← hZ1]
          clear hZ1
          refine HC.out.mono ?_
          rintro e u4 ⟨⟨t, q, m, d, t', q', m', d', rfl, hd⟩, hb4⟩
          obtain ⟨Z2, hZ2⟩ : ∃ Z2, Z2 = u4.alloc (.cells #[.bool t, .slice q m d, .bool t', .slice q' m' d', .int .i64 kk] 47) := ⟨_, rfl⟩
          have hz : Below u4.heap.size u4 Z2 := by rw [hZ2]; exact below_one _ _
          have hs := hb4.trans (hz.mono hb4.size)
          have HYb := Lib.hid (HZb.out.trans (hs.mono HZb.out.size))
          have HEb := Lib.hid (And.intro (HDb.out.below hs) (hd.below hz))
          have n0 := (hs.block _ (lt_of_block HRb.out.1)).trans HRb.out.1
          have n1 := (hs.block _ (lt_of_block HRb.out.2)).trans HRb.out.2
          have Xb : Z2.heap[u4.heap.size]? = some (.cells #[.bool t, .slice q m d, .bool t', .slice q' m' d', .int .i64 kk] 47 (0, 0)) := by rw [hZ2]; exact al_at _ _ rfl
          have HXb := Lib.hid (And.intro n0 (And.intro n1 Xb))
          have j00 := cell_of_row _ _ 0 _ _ (0, 0) n0
          have j01 := cell_of_row _ _ 1 _ _ (0, 0) n0
          have j10 := cell_of_row _ _ 0 _ _ (0, 0) n1
          have j11 := cell_of_row _ _ 1 _ _ (0, 0) n1
          have i0 := cell_of_row _ _ 0 _ _ (0, 0) Xb
          have i1 := cell_of_row _ _ 1 _ _ (0, 0) Xb
          have i2 := cell_of_row _ _ 2 _ _ (0, 0) Xb
          have i3 := cell_of_row _ _ 3 _ _ (0, 0) Xb
          have i4 := cell_of_row _ _ 4 _ _ (0, 0) Xb
          simp only [List.getElem?_toArray, List.getElem?_cons_zero, List.getElem?_cons_succ] at j00 j01 j10 j11 i0 i1 i2 i3 i4
          have ekk : (kk != kk) = false := by simp
          have ekk2 : (kk == kk) = true := by simp
          clear hd hb4 hz hs n0 n1 Xb HC b00 b01 b10 b11
          rw [hZ2] at j00 j01 j10 j11 i0 i1 i2 i3 i4
          go_wp2_with fail
          rw [← hZ2]
          rw [← hZ2] at j00 j01 j10 j11 i0 i1 i2 i3 i4
          clear hZ2
          have zj00 : ∀ w', Below Z2.heap.size Z2 w' → w'.cell? ⟨u3.heap.size, 0, none⟩ = some (.bool s) := fun w' h => (h.cell (lt_of_block HXb.out.1)).trans j00
          have zj01 : ∀ w', Below Z2.heap.size Z2 w' → w'.cell? ⟨u3.heap.size, 1, none⟩ = some (.slice p l c) := fun w' h => (h.cell (lt_of_block HXb.out.1)).trans j01
          have zj10 : ∀ w', Below Z2.heap.size Z2 w' → w'.cell? ⟨u3.heap.size + 1, 0, none⟩ = some (.bool s') := fun w' h => (h.cell (lt_of_block HXb.out.2.1)).trans j10
          have zj11 : ∀ w', Below Z2.heap.size Z2 w' → w'.cell? ⟨u3.heap.size + 1, 1, none⟩ = some (.slice p' l' c') := fun w' h => (h.cell (lt_of_block HXb.out.2.1)).trans j11
          have zi0 : ∀ w', Below Z2.heap.size Z2 w' → w'.cell? ⟨u4.heap.size, 0, none⟩ = some (.bool t) := fun w' h => (h.cell (lt_of_block HXb.out.2.2)).trans i0
          have zi1 : ∀ w', Below Z2.heap.size Z2 w' → w'.cell? ⟨u4.heap.size, 1, none⟩ = some (.slice q m d) := fun w' h => (h.cell (lt_of_block HXb.out.2.2)).trans i1
          have zi2 : ∀ w', Below Z2.heap.size Z2 w' → w'.cell? ⟨u4.heap.size, 2, none⟩ = some (.bool t') := fun w' h => (h.cell (lt_of_block HXb.out.2.2)).trans i2
          have zi3 : ∀ w', Below Z2.heap.size Z2 w' → w'.cell? ⟨u4.heap.size, 3, none⟩ = some (.slice q' m' d') := fun w' h => (h.cell (lt_of_block HXb.out.2.2)).trans i3
          have zi4 : ∀ w', Below Z2.heap.size Z2 w' → w'.cell? ⟨u4.heap.size, 4, none⟩ = some (.int .i64 kk) := fun w' h => (h.cell (lt_of_block HXb.out.2.2)).trans i4
          have hrr : Below Z2.heap.size Z2 Z2 := Below.refl _ _
          clear j00 j01 j10 j11 i0 i1 i2 i3 i4
          go_at_call 18
          refine (HA.out _).mono ?_
          rintro e wa ⟨rfl, hwa⟩
          have hA0 : Below Z2.heap.size Z2 wa := hwa
          have yj00 := zj00 _ hA0
          have yj01 := zj01 _ hA0
          have yj10 := zj10 _ hA0
          have yj11 := zj11 _ hA0
          have yi0 := zi0 _ hA0
          have yi1 := zi1 _ hA0
          have yi2 := zi2 _ hA0
          have yi3 := zi3 _ hA0
          have yi4 := zi4 _ hA0
          have HSA := Lib.hid (divS_q (HEb.out.1.below hA0) (HEb.out.2.below hA0))
          clear hwa
          go_wp2_with fail
          refine HSA.out.mono ?_
          rintro e wb ⟨rfl, hwb⟩
          have hA1 := hA0.trans (hwb.mono hA0.size)
          have vj00 := zj00 _ hA1
          have vj01 := zj01 _ hA1
          have vj10 := zj10 _ hA1
          have vj11 := zj11 _ hA1
          have vi0 := zi0 _ hA1
          have vi1 := zi1 _ hA1
          have vi2 := zi2 _ hA1
          have vi3 := zi3 _ hA1
          have vi4 := zi4 _ hA1
          have HSB := Lib.hid (divS_r (HEb.out.1.below hA1) (HEb.out.2.below hA1))
          clear hwb hA0 yj00 yj01 yj10 yj11 yi0 yi1 yi2 yi3 yi4 HSA
          go_wp2_with fail
          refine HSB.out.mono ?_
          rintro e wc ⟨rfl, hwc⟩
          have hA2 := hA1.trans (hwc.mono hA1.size)
          have HA2 := Lib.hid (HW.out.trans ((HYb.out.trans (hA2.mono HYb.out.size)).mono HW.out.size))
          clear hwc hA1 hA2 HSB vj00 vj01 vj10 vj11 vi0 vi1 vi2 vi3 vi4
          go_wp2_with fail
          go_ret
          exact ⟨rfl, HA2.out⟩
    · have q0 := decide_eq_true hx
      have q1 := decide_eq_false hy
      rw [q0] at HS0
      rw [q1] at HS1
      clear hx hy q0 q1
      go_enter Tryz.func5, Tryz.ntmps5
      go_wp2_with fail
      rw [← hW]
      clear hW
      refine (HS0.out W (Below.refl _ _)).mono ?_
      rintro e w1 ⟨rfl, hbw1⟩
      have HB1 := Lib.hid hbw1
      clear hbw1 b00 b01 b10 b11
      have b00 := HK.out.1 w1 HB1.out
      have b01 := HK.out.2.1 w1 HB1.out
      have b10 := HK.out.2.2.1 w1 HB1.out
      have b11 := HK.out.2.2.2 w1 HB1.out
      go_wp2_with fail
      refine (HS1.out w1 HB1.out).mono ?_
      rintro e w2 ⟨rfl, hbw2⟩
      have HB2 := Lib.hid (HB1.out.trans (hbw2.mono HB1.out.size))
      clear hbw2 b00 b01 b10 b11
      go_wp2_with fail
      refine (HA.out _).mono ?_
      rintro e wa ⟨rfl, hwa⟩
      go_wp2_with fail
      go_ret
      exact ⟨rfl, (HW.out.trans (HB2.out.mono HW.out.size)).trans (hwa.mono (HW.out.trans (HB2.out.mono HW.out.size)).size)⟩
  · have q0 := decide_eq_false hx
    rw [q0] at HS0
    clear hx q0
    go_enter Tryz.func5, Tryz.ntmps5
    go_wp2_with fail
    rw [← hW]
    clear hW
    refine (HS0.out W (Below.refl _ _)).mono ?_
    rintro e w1 ⟨rfl, hbw1⟩
    have HB1 := Lib.hid hbw1
    clear hbw1
    go_wp2_with fail
    refine (HA.out _).mono ?_
    rintro e wa ⟨rfl, hwa⟩
    go_wp2_with fail
    go_ret
    exact ⟨rfl, (HW.out.trans (HB1.out.mono HW.out.size)).trans (hwa.mono (HW.out.trans (HB1.out.mono HW.out.size)).size)⟩
end Go.Proofs.YtodjncohhgknlaaGreat

namespace Go.Proofs.YtodjncohhgknlaaGreat
open Go.ChangeShapes Go.WideShapes Go.ChangeAt Go.RowKit Go.Joins

theorem ownNo : ownKnob Tryz.prog.godebug = none := by kernel_rfl
theorem laidOutYes : laidOutB Tryz.prog = true := by kernel_rfl
theorem cellsWord : Tryz.prog.cellsOf 77 = 1 := by kernel_rfl

set_option maxRecDepth 100000 in
/-- an argument of the type of numbers: a list of words -/
theorem arg_at {H : Type} {enc : TypeId × Value → H} {W : World} {base fuel : Nat} {a0 : Option Addr} {len cap : Nat} {d : DataW H} {p : List MemPlace} (hv : Value.okWide Tryz.prog W .any base 23 (.slice a0 len cap))
    (hf : DataW.trod enc Tryz.prog W 0 (fun _ => true) true fuel 23 (Value.slice a0 len cap).cells.toList = some (d, p)) : ∃ xs, xs.length = len ∧ At W (.slice a0 len cap) xs ∧ Nl.Small xs := by
  rcases open_ints Tryz.underlying23 Tryz.underlying77 cellsWord hf with ⟨hcs, hx⟩ | ⟨a, len', cap', zs, hcs, _, hl, hm, hz, hx, hcell, hwz⟩
  · simp [Value.cells] at hcs
    obtain ⟨rfl, rfl, rfl⟩ := hcs
    exact ⟨[], rfl, .inl ⟨rfl, rfl⟩, Nl.small_nil⟩
  · simp [Value.cells] at hcs
    obtain ⟨rfl, rfl, rfl⟩ := hcs
    simp only [if_true] at hz
    obtain ⟨b, off, spot⟩ := a
    simp only [Value.okWide, Tryz.underlying23, Cell.okWide, Cell.ok, World.has] at hv
    obtain ⟨_, _, _, hsp, rowT, count, hsh, _⟩ := hv
    have hsp' : spot = none := hsp
    subst hsp'
    have hb : b < W.heap.size := by
      unfold World.shape? at hsh
      cases ho : W.heap[b]? with
      | none => simp [ho] at hsh
      | some o => exact (Array.getElem?_eq_some_iff.1 ho).1
    have hlen : ((zs.take len).map Int.toNat).length = len := by simp; omega
    have hpt : ∀ i, i < len → ∃ n : Int, zs.getD i 0 = n ∧ 0 ≤ n ∧ n < 4294967296 := fun i hi => by
      have hmem : zs.getD i 0 ∈ zs := by
        rw [List.getD_eq_getElem?_getD, List.getElem?_eq_getElem (by omega)]
        exact List.getElem_mem _
      have hw := hwz _ hmem
      have hb2 := bounds_u32 hw
      exact ⟨_, rfl, hb2.1, by omega⟩
    have hget : ∀ i, i < len → (((zs.take len).map Int.toNat).getD i 0 : Int) = zs.getD i 0 := fun i hi => by
      obtain ⟨n, hn, h0, h1⟩ := hpt i hi
      rw [List.getD_eq_getElem?_getD, List.getElem?_eq_getElem (by rw [hlen]; exact hi)]
      rw [List.getD_eq_getElem?_getD, List.getElem?_eq_getElem (by omega)] at hn
      simp only [Option.getD_some] at hn
      rw [List.getD_eq_getElem?_getD, List.getElem?_eq_getElem (by omega)]
      simp [hn]
      omega
    refine ⟨(zs.take len).map Int.toNat, hlen, .inr ⟨b, off, cap, by rw [hlen], trivial, by rw [hlen]; exact hl, by simp only [maxLen] at hm; omega, hb, fun i hi => ?_⟩, fun x hx => ?_⟩
    · rw [hlen] at hi
      have := hcell i (by omega)
      rw [Go.WideShapes.add_plain] at this
      rw [this, hget i hi]
    · obtain ⟨n, hn, rfl⟩ := List.mem_map.1 hx
      obtain ⟨i, hi, rfl⟩ := List.getElem_of_mem hn
      have hi' : i < len := by simp at hi; omega
      obtain ⟨n, hn2, h0, h1⟩ := hpt i hi'
      rw [List.getD_eq_getElem?_getD, List.getElem?_eq_getElem (by omega)] at hn2
      simp only [Option.getD_some] at hn2
      rw [List.getElem_take, hn2]
      omega

theorem cellsInt : Tryz.prog.cellTypes Tryz.prog.depth 25 = some [4, 23 ] := by kernel_rfl

set_option maxRecDepth 100000 in
/-- an argument of the type of integers: a sign and a list of words -/
theorem argI_at {H : Type} {enc : TypeId × Value → H} {W : World} {base : Nat} {v : Value} {d : DataW H} {p : List MemPlace} (hv : Value.okWide Tryz.prog W .any base 25 v)
    (h : DataW.Trod enc Tryz.prog W 0 (fun _ => true) true 25 v d p) : ∃ s xs, AtI W v s xs ∧ Nl.Small xs := by
  obtain ⟨v0, v1, y0, y1, n, rfl, rfl, rfl, h0, h1⟩ := open_agg2 Tryz.underlying25 (by kernel_rfl) (by kernel_rfl) hv h
  simp only [Value.okWide, Tryz.underlying25 ] at hv
  obtain ⟨cs, he, -, ts, hts, -, hcells⟩ := hv
  rw [cellsInt] at hts
  cases hts
  cases he
  obtain ⟨u0, hu0, k0⟩ := hcells 0 v0 rfl
  obtain ⟨u1, hu1, k1⟩ := hcells 1 v1 rfl
  cases hu0
  cases hu1
  have w0 : Value.okWide Tryz.prog W .any base 4 v0 := by simp only [Value.okWide, Tryz.underlying4 ]; exact k0
  have w1 : Value.okWide Tryz.prog W .any base 23 v1 := by simp only [Value.okWide, Tryz.underlying23 ]; exact k1
  obtain ⟨s, rfl⟩ := okWide_bool Tryz.underlying4 w0
  obtain ⟨a, l, c, rfl⟩ := okWide_slice Tryz.underlying23 w1
  obtain ⟨xs, hl, hat, hs⟩ := arg_at (d := y1.1) (p := y1.2) w1 (by simpa [Value.cells] using h1)
  exact ⟨s, xs, AtI.mk hat, hs⟩
end Go.Proofs.YtodjncohhgknlaaGreat

namespace Go.Proofs.YtodjncohhgknlaaGreat
open Go.ChangeShapes Go.WideShapes Go.ChangeAt Go.RowKit

set_option maxRecDepth 100000 in
set_option maxHeartbeats 0 in
theorem closed_wholeDivides : joinedFacts Tryz.checked.prog 5 Tryz.f5 Rows.wholeDividesSpec Rows.wholeDividesRow = true := by
  unfold joinedFacts
  simp only [Bool.and_eq_true]
  repeat' (apply And.intro)
  all_goals (as_aux_lemma => kernel_rfl)
end Go.Proofs.YtodjncohhgknlaaGreat
