/-
  What the reference's up does: has a quotient of integers to be one greater? Conditions: those that the theorem names.
  What the reference's Shr does. Conditions: those that each theorem names.
  What the reference's Shl does. Conditions: those that each theorem names.
  What the reference's Bits does. Conditions: those that the theorem names.
  What Parse does with 007. Conditions: those that each theorem names.
  What divide does to a row of one's own. What slices.Clone does. Conditions: those that each theorem names.
  What isNumeral does. Conditions: those that each theorem names.
  What extended does to a number of one's own. Conditions: those that each theorem names.
  What fromDigits does. Conditions: those that each theorem names.
  What Parse does. Conditions: those that each theorem names.
  What the reference's Step and Parse do. Conditions: those that each theorem names.
  What the reference's short does. Conditions: those that each theorem names.
  What the reference's Div does. Conditions: those that each theorem names.
  What the reference's Div does for any numbers. Conditions: those that each theorem names.
  What the reference's Quotient of integers gives. Written by wip/tool/genquot.py. Conditions: those that each theorem names.
  What Div of package whole does where there is an error. Conditions: those that each theorem names.
-/
import Derived.Test.YtkbghamkalidcaaGreatOverG
import Derived.Test.YtkbghamkalidcaaGreatLawSumsAll
import Derived.Test.YtkbghamkalidcaaGreatRefTrim
import Derived.Test.YtkbghamkalidcaaGreatMinusAll
import Derived.Test.YtkbghamkalidcaaGreatRefAll
import Derived.Test.YtkbghamkalidcaaGreatDivideAll
import Derived.Laws.OwnMore
import Derived.Lib.Strings
import Derived.Test.YtkbghamkalidcaaGreatOne
import Derived.Laws.Rows
import Derived.Test.YtkbghamkalidcaaGreatElements
import Derived.Test.YtkbghamkalidcaaGreatThree
import Derived.Test.YtkbghamkalidcaaGreatLeadWAll
import Derived.Test.YtkbghamkalidcaaGreatRef2fAll
import Derived.Test.YtkbghamkalidcaaGreatDivI
namespace Go.Proofs.YtkbghamkalidcaaGreat
open Go.RowKit

end Go.Proofs.YtkbghamkalidcaaGreat

namespace Go.Proofs.YtkbghamkalidcaaGreat
open Go.RowKit

end Go.Proofs.YtkbghamkalidcaaGreat

namespace Go.Proofs.YtkbghamkalidcaaGreat
open Go.RowKit

end Go.Proofs.YtkbghamkalidcaaGreat

namespace Go.Proofs.YtkbghamkalidcaaGreat
open Go.RowKit

end Go.Proofs.YtkbghamkalidcaaGreat

namespace Go.Proofs.YtkbghamkalidcaaGreat
open Go.RowKit

end Go.Proofs.YtkbghamkalidcaaGreat

namespace Go.Proofs.YtkbghamkalidcaaGreat
open Go.RowKit

end Go.Proofs.YtkbghamkalidcaaGreat

namespace Go.Proofs.YtkbghamkalidcaaGreat
open Go.RowKit

end Go.Proofs.YtkbghamkalidcaaGreat

namespace Go.Proofs.YtkbghamkalidcaaGreat
open Go.RowKit

end Go.Proofs.YtkbghamkalidcaaGreat

namespace Go.Proofs.YtkbghamkalidcaaGreat
open Go.RowKit

end Go.Proofs.YtkbghamkalidcaaGreat

namespace Go.Proofs.YtkbghamkalidcaaGreat
open Go.RowKit

end Go.Proofs.YtkbghamkalidcaaGreat

namespace Go.Proofs.YtkbghamkalidcaaGreat
open Go.RowKit

end Go.Proofs.YtkbghamkalidcaaGreat

namespace Go.Proofs.YtkbghamkalidcaaGreat
open Go.RowKit

end Go.Proofs.YtkbghamkalidcaaGreat

namespace Go.Proofs.YtkbghamkalidcaaGreat
open Go.RowKit

/-- block g begins with the words Z; it may be written -/
def Head (w : World) (g : Nat) (Z : List Nat) : Prop := ∃ cur, w.heap[g]? = some (.cells cur 80 (0, 0)) ∧ cur.toList.take Z.length = vals Z
theorem Head.cell {w : World} {g : Nat} {Z : List Nat} (h : Head w g Z) {i : Nat} (hi : i < Z.length) : w.cell? ⟨g, i, none⟩ = some (.int .u32 ((Z.getD i 0 : Nat) : Int)) := by
  obtain ⟨cur, h1, h2⟩ := h
  rw [cell_of_row w g i _ _ _ h1]
  have h3 := vals_get hi
  rw [← h2, List.getElem?_take_of_lt hi] at h3
  simpa using h3
theorem Head.free {w : World} {g : Nat} {Z : List Nat} (h : Head w g Z) (i : Nat) : w.frozen? ⟨g, i, none⟩ = false := by
  obtain ⟨cur, h1, -⟩ := h
  exact frozen_of_row w g i _ _ h1
theorem Head.lt {w : World} {g : Nat} {Z : List Nat} (h : Head w g Z) : g < w.heap.size := by
  obtain ⟨cur, h1, -⟩ := h
  exact lt_of_block h1
theorem Head.set {w : World} {g : Nat} {Z : List Nat} (h : Head w g Z) (i y : Nat) : Head (w.setCell ⟨g, i, none⟩ (.int .u32 (y : Int))) g (Z.set i y) := by
  obtain ⟨cur, h1, h2⟩ := h
  refine ⟨_, heap_setCell_same w g i _ _ (.int .u32 (y : Int)) h1, ?_⟩
  rw [Array.toList_setIfInBounds, List.length_set, List.take_set, h2, vals, vals, List.map_set]
theorem Head.keeps {w w' : World} {g : Nat} {Z : List Nat} (h : Head w g Z) (hk : w'.heap[g]? = w.heap[g]?) : Head w' g Z := by
  obtain ⟨cur, h1, h2⟩ := h
  exact ⟨cur, by rw [hk]; exact h1, h2⟩
theorem Head.below {w w' : World} {g B : Nat} {Z : List Nat} (h : Head w g Z) (hb : Below B w w') (hB : g < B) : Head w' g Z := h.keeps (hb.block g hB)
theorem Row.keeps {w w' : World} {g : Nat} {Z : List Nat} (h : Row w g Z) (hk : w'.heap[g]? = w.heap[g]?) : Row w' g Z := by
  unfold Row; rw [hk]; exact h
theorem getD_mid {A Z C : List Nat} {k i : Nat} (hA : A.length = k) (hi : i < Z.length) : (A ++ (Z ++ C)).getD (k + i) 0 = Z.getD i 0 := by
  rw [getD_append_right' hA]
  simp [List.getD_eq_getElem?_getD, List.getElem?_append_left hi]
theorem set_mid {A Z C : List Nat} {k i y : Nat} (hA : A.length = k) (hi : i < Z.length) : (A ++ (Z ++ C)).set (k + i) y = A ++ (Z.set i y ++ C) := by
  rw [set_append_right' hA, List.set_append_left _ _ hi]
end Go.Proofs.YtkbghamkalidcaaGreat

namespace Go.Proofs.YtkbghamkalidcaaGreat
open Go.RowKit

end Go.Proofs.YtkbghamkalidcaaGreat

namespace Go.Proofs.YtkbghamkalidcaaGreat
open Go.RowKit

end Go.Proofs.YtkbghamkalidcaaGreat

namespace Go.Proofs.YtkbghamkalidcaaGreat
open Go.RowKit

/-- the error of Div -/
def divK2 (s0 s1 : Bool) (xs ys : List Nat) (how : Int) : Int := if (validI s0 xs && validI s1 ys) = true then (if 1 ≤ how ∧ how ≤ 4 then (if ys.length = 0 then 8 else 0) else 1) else 1

set_option maxHeartbeats 4000000 in
theorem div1_bad (K : Nat) (s0 s1 : Bool) (p0 p1 : Option Addr) (l0 c0 l1 c1 : Nat) (how : Int) (xs ys : List Nat) (w : World) (hbox : DivBox w K s0 s1 p0 p1 l0 c0 l1 c1 how)
    (hu : At w (.slice p0 l0 c0) xs) (hv : At w (.slice p1 l1 c1) ys) (hl1 : l1 = ys.length) (hk : divK2 s0 s1 xs ys how ≠ 0) :
    Calls Tryz.prog 79 #[.pointer (some ⟨K, 0, none⟩), .pointer (some ⟨K + 1, 0, none⟩), .pointer (some ⟨K + 2, 0, none⟩), .pointer (some ⟨K + 3, 0, none⟩), .pointer (some ⟨K + 4, 0, none⟩)] w fun e w' =>
      Below w.heap.size w w' ∧ e = fault (divK2 s0 s1 xs ys how) := by
  obtain ⟨W, hW⟩ : ∃ W, W = w.alloc (.cells #[.bool s0, .slice p0 l0 c0, .bool s1, .slice p1 l1 c1] 25) := ⟨_, rfl⟩
  have hb : Below w.heap.size w W := by rw [hW]; exact below_one w _
  have hrow : W.heap[w.heap.size]? = some (.cells #[.bool s0, .slice p0 l0 c0, .bool s1, .slice p1 l1 c1] 25 (0, 0)) := by rw [hW]; exact heap_alloc_new _ _
  have HM := Lib.hid (mustBeValid_any w.heap.size [(s0, .slice p0 l0 c0, xs), (s1, .slice p1 l1 c1, ys)] W (givenI_two w.heap.size hrow (hu.below hb) (hv.below hb)) (lt_of_block hrow) (by simp))
  have HB := Lib.hid hb
  have HBX := Lib.hid hbox
  have k00 := cell_of_row _ _ 0 _ _ (0, 0) hbox.a
  have k01 := cell_of_row _ _ 1 _ _ (0, 0) hbox.a
  have k10 := cell_of_row _ _ 0 _ _ (0, 0) hbox.b
  have k11 := cell_of_row _ _ 1 _ _ (0, 0) hbox.b
  simp only [List.getElem?_toArray, List.getElem?_cons_zero, List.getElem?_cons_succ] at k00 k01 k10 k11
  have HK := Lib.hid hk
  have HL := Lib.hid hl1
  clear hu hv hb hrow hbox hk hl1
  go_enter Tryz.func79, Tryz.ntmps79
  go_wp2_with fail
  rw [← hW]
  clear hW
  refine HM.out.mono ?_
  rintro e w1 ⟨hb1, ⟨hall, rfl⟩ | ⟨⟨p, hp, hp2⟩, rfl⟩⟩
  · have hv0 : validI s0 xs = true := hall (s0, .slice p0 l0 c0, xs) (by simp)
    have hv1 : validI s1 ys = true := hall (s1, .slice p1 l1 c1, ys) (by simp)
    have hK : divK2 s0 s1 xs ys how = (if 1 ≤ how ∧ how ≤ 4 then (if l1 = 0 then 8 else 0) else 1) := by rw [divK2, hv0, hv1, if_pos (show (true && true) = true from rfl), HL.out]
    have B1 := Lib.hid (HB.out.trans (hb1.mono HB.out.size))
    have X1 := Lib.hid (HBX.out.move B1.out)
    have i00 := cell_of_row _ _ 0 _ _ (0, 0) X1.out.a
    have i01 := cell_of_row _ _ 1 _ _ (0, 0) X1.out.a
    have i10 := cell_of_row _ _ 0 _ _ (0, 0) X1.out.b
    have i11 := cell_of_row _ _ 1 _ _ (0, 0) X1.out.b
    have i20 := cell_of_one X1.out.h
    simp only [List.getElem?_toArray, List.getElem?_cons_zero, List.getElem?_cons_succ] at i00 i01 i10 i11
    rw [hK] at HK
    have HKK := Lib.hid hK
    clear hb1 HM HB k00 k01 k10 k11 hall hv0 hv1 hK
    by_cases h1 : 1 ≤ how
    · by_cases h4 : how ≤ 4
      · have t1 : decide (1 ≤ how) = true := decide_eq_true h1
        have t2 : decide (how ≤ 4) = true := decide_eq_true h4
        have hl : l1 = 0 := by
          have := HK.out
          rw [if_pos ⟨h1, h4⟩] at this
          by_cases h : l1 = 0
          · exact h
          · rw [if_neg h] at this; exact absurd rfl this
        have HQ := Lib.hid (show divK2 s0 s1 xs ys how = 8 by rw [HKK.out, if_pos ⟨h1, h4⟩, if_pos hl])
        clear HL
        subst hl
        have t3 : decide (0 < 0) = false := by decide
        clear h1 h4 HK HKK
        go_wp2_with (go_at_call_of 55 (Value.bool true); refine (must_yes _ _).mono ?_; rintro e w' ⟨rfl, rfl⟩)
        refine (must_no _ _).mono ?_
        rintro e w' ⟨rfl, rfl⟩
        first
          | exact ⟨rfl, B1.out, by rw [HQ.out]⟩
          | exact ⟨B1.out, by rw [HQ.out]⟩
      · have t1 : decide (1 ≤ how) = true := decide_eq_true h1
        have t2 : decide (how ≤ 4) = false := decide_eq_false h4
        have HQ := Lib.hid (show divK2 s0 s1 xs ys how = 1 by rw [HKK.out, if_neg (fun h => h4 h.2)])
        clear h1 h4 HK HKK
        go_wp2_with fail
        refine (must_no _ _).mono ?_
        rintro e w' ⟨rfl, rfl⟩
        first
          | exact ⟨rfl, B1.out, by rw [HQ.out]⟩
          | exact ⟨B1.out, by rw [HQ.out]⟩
    · have t1 : decide (1 ≤ how) = false := decide_eq_false h1
      have HQ := Lib.hid (show divK2 s0 s1 xs ys how = 1 by rw [HKK.out, if_neg (fun h => h1 h.1)])
      clear h1 HK HKK
      go_wp2_with fail
      refine (must_no _ _).mono ?_
      rintro e w' ⟨rfl, rfl⟩
      first
        | exact ⟨rfl, B1.out, by rw [HQ.out]⟩
        | exact ⟨B1.out, by rw [HQ.out]⟩
  · have hK : divK2 s0 s1 xs ys how = 1 := by
      rw [divK2, if_neg]
      rw [Bool.and_eq_true]
      intro hok
      simp only [List.mem_cons, List.not_mem_nil, or_false] at hp
      rcases hp with rfl | rfl
      · exact Bool.noConfusion (hp2.symm.trans hok.1)
      · exact Bool.noConfusion (hp2.symm.trans hok.2)
    have B1 := HB.out.trans (hb1.mono HB.out.size)
    first
      | exact ⟨rfl, B1, by rw [hK]⟩
      | exact ⟨B1, by rw [hK]⟩

set_option maxHeartbeats 4000000 in
theorem wholeDiv_bad (v0 v1 : Value) (s0 s1 : Bool) (how : Int) (xs ys : List Nat) (w : World) (h0 : AtI w v0 s0 xs) (h1 : AtI w v1 s1 ys) (hk : divK2 s0 s1 xs ys how ≠ 0) :
    Calls Tryz.prog 31 #[v0, v1, .int .i64 how] w fun e w' => e = .returned (.tuple #[.agg #[.bool false, .slice none 0 0], .agg #[.bool false, .slice none 0 0], .int .i64 (divK2 s0 s1 xs ys how)]) ∧ Below w.heap.size w w' := by
  have hmf : ∀ (fn : Fn) (first cap : Array Value) (w : World), (Instr.makeFunc fn first cap).run Tryz.prog w = .ok (.func fn first cap) w := fun _ _ _ _ => rfl
  obtain ⟨p0, c0, rfl, u0⟩ := h0.form
  obtain ⟨p1, c1, rfl, u1⟩ := h1.form
  obtain ⟨W, hW⟩ : ∃ W, W = ((((w.alloc (.cells #[.bool s0, .slice p0 xs.length c0] 25)).alloc (.cells #[.bool s1, .slice p1 ys.length c1] 25)).alloc (.cells #[.int .i64 how] 3)).alloc (.cells #[.bool false, .slice none 0 0] 25)).alloc (.cells #[.bool false, .slice none 0 0] 25) := ⟨_, rfl⟩
  have hb : Below w.heap.size w W := by rw [hW]; exact ((three_new w _ _ _).alloc (by simp <;> omega) _).alloc (by simp <;> omega) _
  have hs : W.heap.size = w.heap.size + 5 := by rw [hW]; simp
  have hbox : DivBox W w.heap.size s0 s1 p0 p1 xs.length c0 ys.length c1 how := by
    refine ⟨?_, ?_, ?_, ?_, ?_⟩
    · rw [hW]; exact al_keep _ _ (by simp <;> omega) (al_keep _ _ (by simp <;> omega) (al_keep _ _ (by simp <;> omega) (al_keep _ _ (by simp <;> omega) (al_at _ _ (by simp)))))
    · rw [hW]; exact al_keep _ _ (by simp <;> omega) (al_keep _ _ (by simp <;> omega) (al_keep _ _ (by simp <;> omega) (al_at _ _ (by simp))))
    · rw [hW]; exact al_keep _ _ (by simp <;> omega) (al_keep _ _ (by simp <;> omega) (al_at _ _ (by simp)))
    · rw [hW]; exact al_keep _ _ (by simp <;> omega) (al_at _ _ (by simp))
    · rw [hW]; exact al_at _ _ (by simp)
  obtain ⟨kk, hkk⟩ : ∃ kk, kk = divK2 s0 s1 xs ys how := ⟨_, rfl⟩
  have HCALL := Lib.hid (call_any 79 #[.pointer (some ⟨w.heap.size, 0, none⟩), .pointer (some ⟨w.heap.size + 1, 0, none⟩), .pointer (some ⟨w.heap.size + 2, 0, none⟩), .pointer (some ⟨w.heap.size + 3, 0, none⟩), .pointer (some ⟨w.heap.size + 4, 0, none⟩)] W (fun c a w1 => a = 0 ∧ c = kk ∧ Below w.heap.size w w1 ∧ W.heap.size + 2 ≤ w1.heap.size ∧ w1.heap[w.heap.size + 3]? = some (.cells #[.bool false, .slice none 0 0] 25 (0, 0)) ∧ w1.heap[w.heap.size + 4]? = some (.cells #[.bool false, .slice none 0 0] 25 (0, 0))) (fun V hV hsV => by
    have hwV := hb.trans (hV.mono hb.size)
    have hbV := hbox.move hV
    refine (div1_bad w.heap.size s0 s1 p0 p1 xs.length c0 ys.length c1 how xs ys V hbV (u0.below hwV) (u1.below hwV) rfl hk).mono ?_
    rintro e w1 ⟨hb1, rfl⟩
    refine ⟨fun j j1 j2 => hb1.block j j2, .inr ⟨kk, 0, by rw [hkk], rfl, rfl, hwV.trans (hb1.mono hwV.size), by have := hb1.size; omega, (hb1.block _ (lt_of_block hbV.q)).trans hbV.q, (hb1.block _ (lt_of_block hbV.r)).trans hbV.r⟩⟩) (fun _ _ => by kernel_rfl))
  have HS := Lib.hid hs
  rw [← hkk]
  clear h0 h1 hk hb hs hbox u0 u1 hkk
  go_enter Tryz.func31, Tryz.ntmps31
  go_wp2_with fail
  rw [← hW]
  clear hW
  refine HCALL.out.mono ?_
  rintro e w3 ⟨c, a', w1, rfl, ⟨rfl, rfl, hbw, hsz, g1, g2⟩, hcau⟩
  have s0 := HS.out
  have hb3 : Below w.heap.size w w3 := below_caught hbw hcau (by omega) (by omega) (by omega)
  have G1 : w3.heap[w.heap.size + 3]? = _ := (hcau.same _ (by omega) (by omega) (by omega)).trans g1
  have G2 : w3.heap[w.heap.size + 4]? = _ := (hcau.same _ (by omega) (by omega) (by omega)).trans g2
  have k00 := cell_of_row _ _ 0 _ _ (0, 0) G1
  have k01 := cell_of_row _ _ 1 _ _ (0, 0) G1
  have k10 := cell_of_row _ _ 0 _ _ (0, 0) G2
  have k11 := cell_of_row _ _ 1 _ _ (0, 0) G2
  simp only [List.getElem?_toArray, List.getElem?_cons_zero, List.getElem?_cons_succ] at k00 k01 k10 k11
  have f0 := frozen_of_row _ _ 0 _ _ G1
  have f1 := frozen_of_row _ _ 1 _ _ G1
  have f2 := frozen_of_row _ _ 0 _ _ G2
  have f3 := frozen_of_row _ _ 1 _ _ G2
  have HZ := Lib.hid (And.intro hb3 (And.intro G1 G2))
  clear hbw hsz g1 g2 hcau hb3 G1 G2 HCALL s0
  go_wp2_with fail
  go_region
  go_wp2_with fail
  obtain ⟨V, hV⟩ : ∃ V, V = (w3.setCell ⟨w.heap.size + 3, 0, none⟩ (.bool false)).setCell ⟨w.heap.size + 3, 1, none⟩ (.slice none 0 0) := ⟨_, rfl⟩
  have G1 : V.heap[w.heap.size + 3]? = some (.cells #[.bool false, .slice none 0 0] 25 (0, 0)) := by rw [hV]; exact ibox_set _ _ HZ.out.2.1
  have G2 : V.heap[w.heap.size + 4]? = some (.cells #[.bool false, .slice none 0 0] 25 (0, 0)) := by
    rw [hV, Below.heap_setCell _ ⟨w.heap.size + 3, 1, none⟩ _ _ (by simp), Below.heap_setCell _ ⟨w.heap.size + 3, 0, none⟩ _ _ (by simp)]
    exact HZ.out.2.2
  have R2 := ibox_set (g := w.heap.size + 4) (.bool false) (.slice none 0 0) G2
  have R1 : ((V.setCell ⟨w.heap.size + 4, 0, none⟩ (.bool false)).setCell ⟨w.heap.size + 4, 1, none⟩ (.slice none 0 0)).heap[w.heap.size + 3]? = some (.cells #[.bool false, .slice none 0 0] 25 (0, 0)) := by
    rw [Below.heap_setCell _ ⟨w.heap.size + 4, 1, none⟩ _ _ (by simp), Below.heap_setCell _ ⟨w.heap.size + 4, 0, none⟩ _ _ (by simp)]
    exact G1
  have hbV : Below w.heap.size w V := by rw [hV]; exact below_ibox HZ.out.1 (by omega) _ _
  show bodyPost _ _ _ _ _ ((((w3.setCell ⟨w.heap.size + 3, 0, none⟩ (.bool false)).setCell ⟨w.heap.size + 3, 1, none⟩ (.slice none 0 0)).setCell ⟨w.heap.size + 4, 0, none⟩ (.bool false)).setCell ⟨w.heap.size + 4, 1, none⟩ (.slice none 0 0)).drew
  rw [← hV]
  refine bodyPost_ret (v := .tuple #[.agg #[.bool false, .slice none 0 0], .agg #[.bool false, .slice none 0 0], .int .i64 c]) (results_int21 Tryz.results31 _ _ (w.heap.size + 3) (w.heap.size + 4) _ _ _ rfl rfl rfl (load_int (w := World.drew _) R1) (load_int (w := World.drew _) R2)) rfl ?_
  exact ⟨rfl, (below_ibox hbV (g := w.heap.size + 4) (by omega) _ _).trans (below_drewN _ 1 _)⟩
end Go.Proofs.YtkbghamkalidcaaGreat
