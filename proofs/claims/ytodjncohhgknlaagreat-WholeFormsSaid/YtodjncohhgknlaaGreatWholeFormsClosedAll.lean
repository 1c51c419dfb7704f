/-
  WholeForms returns true for any two integers and any int. Written by wip/tool/genforms2.py. Conditions: those that each theorem names.
  How an argument of the type of integers is opened. Conditions: those that each theorem names.
  The closed facts of the row of WholeForms. Conditions: none.
-/
import Derived.Test.YtodjncohhgknlaaGreatAwake
import Derived.Test.YtodjncohhgknlaaGreatRef2h
import Derived.Test.YtodjncohhgknlaaGreatInts
import Derived.Test.YtodjncohhgknlaaGreatRows
import Derived.ProofKit
import Derived.SizedLaws
import Derived.OpenShut
import Derived.Lib.SmallJoins
namespace Go.Proofs.YtodjncohhgknlaaGreat
open Go.RowKit

set_option maxHeartbeats 1000000 in
theorem rToInt_any (v0 : Value) (s0 : Bool) (xs : List Nat) (w : World) (h0 : AtI w v0 s0 xs) (m0 : Nl.Small xs) :
    Calls Tryz.prog 20 #[v0] w fun e w' => ResC w w' e (validI s0 xs) (intK (sgn s0 (Nl.val xs))) (sgn s0 (Nl.val xs)) := by
  obtain ⟨p0, c0, rfl, u0⟩ := h0.form
  cases hok : validI s0 xs with
  | true =>
    have ok0 := isI_of_ok (at_of h0) m0 hok
    exact (rToInt_num _ _ w ok0.1 ok0.2).mono fun e w' h => ⟨_, rfl, h⟩
  | false =>
    obtain ⟨l0, hl0⟩ : ∃ l0, l0 = xs.length := ⟨_, rfl⟩
    rw [← hl0] at u0 h0 ⊢
    obtain ⟨W, hW⟩ : ∃ W, W = w.alloc (.cells #[.bool s0, .slice p0 l0 c0] 25) := ⟨_, rfl⟩
    have hb : Below w.heap.size w W := by rw [hW]; exact below_one w _
    have B0 : W.heap[w.heap.size]? = some (.cells #[.bool s0, .slice p0 l0 c0] 25 (0, 0)) := by rw [hW]; exact heap_alloc_new _ _
    have k00 := cell_of_row _ _ 0 _ _ (0, 0) B0
    have k01 := cell_of_row _ _ 1 _ _ (0, 0) B0
    simp only [List.getElem?_toArray, List.getElem?_cons_zero, List.getElem?_cons_succ] at k00 k01
    have hv := ref2Valid_any _ s0 xs W (h0.below hb)
    rw [hok] at hv
    have HV := Lib.hid hv
    have HB := Lib.hid hb
    clear hl0 u0 h0 m0 hb B0 hv hok
    go_enter Tryz.func20, Tryz.ntmps20
    go_wp2_with fail
    rw [← hW]
    clear hW
    refine HV.out.mono ?_
    rintro e w1 ⟨rfl, hb1⟩
    have HB1 := Lib.hid (HB.out.trans (hb1.mono HB.out.size))
    clear hb1 HV k00 k01
    go_wp2_with fail
    go_ret2
    exact ⟨1, rfl, rfl, HB1.out⟩
theorem resC_row {w w' : World} {e : Ending} {ok : Bool} {k n : Int} (h : ResC w w' e ok k n) : e = .returned (.tuple #[.int .i64 (if (if ok = true then k else 1) = 0 then n else 0), .int .i64 (if ok = true then k else 1)]) ∧ Below w.heap.size w w' := by
  obtain ⟨c, rfl, rfl, hb⟩ := h
  exact ⟨rfl, hb⟩

set_option maxRecDepth 10000 in
set_option maxHeartbeats 8000000 in
theorem wholeForms_any (va vb : Value) (s0 s1 : Bool) (xs ys : List Nat) (n : Int) (w : World) (h0 : AtI w va s0 xs) (h1 : AtI w vb s1 ys) (m0 : Nl.Small xs) (m1 : Nl.Small ys) (hn : -9223372036854775808 ≤ n ∧ n ≤ 9223372036854775807) :
    Calls Tryz.prog 3 #[va, vb, .int .i64 n] w fun e w' => e = .returned (.bool true) ∧ Below w.heap.size w w' := by
  obtain ⟨p0, c0, rfl, u0⟩ := h0.form
  obtain ⟨p1, c1, rfl, u1⟩ := h1.form
  have HA := Lib.hid awake_any
  have HN := Lib.hid hn
  obtain ⟨l0, hl0⟩ : ∃ l0, l0 = xs.length := ⟨_, rfl⟩
  obtain ⟨l1, hl1⟩ : ∃ l1, l1 = ys.length := ⟨_, rfl⟩
  rw [← hl0] at u0 h0 ⊢
  rw [← hl1] at u1 h1 ⊢
  obtain ⟨W, hW⟩ : ∃ W, W = (w.alloc (.cells #[.bool s0, .slice p0 l0 c0] 25)).alloc (.cells #[.bool s1, .slice p1 l1 c1] 25) := ⟨_, rfl⟩
  have hb : Below w.heap.size w W := by rw [hW]; exact two_new w _ _
  have B0 : W.heap[w.heap.size]? = some (.cells #[.bool s0, .slice p0 l0 c0] 25 (0, 0)) := by rw [hW]; exact heap_alloc2_old w _ _
  have B1 : W.heap[w.heap.size + 1]? = some (.cells #[.bool s1, .slice p1 l1 c1] 25 (0, 0)) := by rw [hW]; exact heap_alloc2_new w _ _
  have b00 := cell_of_row _ _ 0 _ _ (0, 0) B0
  have b01 := cell_of_row _ _ 1 _ _ (0, 0) B0
  have b10 := cell_of_row _ _ 0 _ _ (0, 0) B1
  have b11 := cell_of_row _ _ 1 _ _ (0, 0) B1
  simp only [List.getElem?_toArray, List.getElem?_cons_zero, List.getElem?_cons_succ] at b00 b01 b10 b11
  have hlt0 := lt_of_block B0
  have hlt1 := lt_of_block B1
  have k00 : ∀ w', Below W.heap.size W w' → w'.cell? ⟨w.heap.size, 0, none⟩ = some (.bool s0) := fun w' h => (h.cell hlt0).trans b00
  have k01 : ∀ w', Below W.heap.size W w' → w'.cell? ⟨w.heap.size, 1, none⟩ = some (.slice p0 l0 c0) := fun w' h => (h.cell hlt0).trans b01
  have k10 : ∀ w', Below W.heap.size W w' → w'.cell? ⟨w.heap.size + 1, 0, none⟩ = some (.bool s1) := fun w' h => (h.cell hlt1).trans b10
  have k11 : ∀ w', Below W.heap.size W w' → w'.cell? ⟨w.heap.size + 1, 1, none⟩ = some (.slice p1 l1 c1) := fun w' h => (h.cell hlt1).trans b11
  have HW := Lib.hid hb
  have H0 := Lib.hid (And.intro (h0.below hb) m0)
  have H1 := Lib.hid (And.intro (h1.below hb) m1)
  have HK := Lib.hid (And.intro k00 (And.intro k01 (And.intro k10 k11)))
  have HS0 := Lib.hid (fun (w' : World) (h : Below W.heap.size W w') => small_law (.agg #[.bool s0, .slice p0 l0 c0]) s0 xs 2000 w' (H0.out.1.below h))
  have HS1 := Lib.hid (fun (w' : World) (h : Below W.heap.size W w') => small_law (.agg #[.bool s1, .slice p1 l1 c1]) s1 ys 2000 w' (H1.out.1.below h))
  rw [← hl0] at HS0
  rw [← hl1] at HS1
  clear u0 u1 h0 h1 m0 m1 hl0 hl1 hb B0 B1 hlt0 hlt1 k00 k01 k10 k11 hn
  by_cases hx : l0 ≤ 2000
  · by_cases hy : l1 ≤ 2000
    · have q0 := decide_eq_true hx
      have q1 := decide_eq_true hy
      rw [q0] at HS0
      rw [q1] at HS1
      clear hx hy q0 q1
      go_enter Tryz.func3, Tryz.ntmps3
      go_upto_region 1 with fail
      rw [← hW]
      clear hW
      go_wp2_with fail
      refine (HS0.out W (Below.refl _ _)).mono ?_
      rintro e w1 ⟨rfl, hbw1⟩
      have HB1 := Lib.hid hbw1
      clear hbw1 b00 b01 b10 b11
      have b00 := HK.out.1 w1 HB1.out
      have b01 := HK.out.2.1 w1 HB1.out
      have b10 := HK.out.2.2.1 w1 HB1.out
      have b11 := HK.out.2.2.2 w1 HB1.out
      go_wp2_with fail
      refine (HS1.out w1 HB1.out).mono ?_
      rintro e w2 ⟨rfl, hbw2⟩
      have HB2 := Lib.hid (HB1.out.trans (hbw2.mono HB1.out.size))
      clear hbw2 HS0 HS1 b00 b01 b10 b11
      have b00 := HK.out.1 w2 HB2.out
      have b01 := HK.out.2.1 w2 HB2.out
      have b10 := HK.out.2.2.1 w2 HB2.out
      have b11 := HK.out.2.2.2 w2 HB2.out
      have HC3 := Lib.hid (wholeToInt_any _ s0 xs w2 (H0.out.1.below HB2.out) H0.out.2)
      go_wp2_with fail
      refine HC3.out.mono ?_
      rintro e w3 hr
      obtain ⟨rfl, hbx⟩ := resC_row hr
      obtain ⟨e0, he0⟩ : ∃ e0 : Int, e0 = (if validI s0 xs = true then intK (sgn s0 (Nl.val xs)) else 1) := ⟨_, rfl⟩
      obtain ⟨y0, hy0⟩ : ∃ y0 : Int, y0 = (if e0 = 0 then sgn s0 (Nl.val xs) else 0) := ⟨_, rfl⟩
      rw [← he0, ← hy0]
      have HE0 := Lib.hid (And.intro he0 hy0)
      clear he0 hy0
      have HB3 := Lib.hid (HB2.out.trans (hbx.mono HB2.out.size))
      clear hr hbx HC3 b00 b01 b10 b11 HB2
      have b00 := HK.out.1 w3 HB3.out
      have b01 := HK.out.2.1 w3 HB3.out
      have b10 := HK.out.2.2.1 w3 HB3.out
      have b11 := HK.out.2.2.2 w3 HB3.out
      have HC4 := Lib.hid (rToInt_any _ s0 xs w3 (H0.out.1.below HB3.out) H0.out.2)
      go_wp2_with fail
      refine HC4.out.mono ?_
      rintro e w4 hr
      obtain ⟨rfl, hbx⟩ := resC_row hr
      rw [← HE0.out.1, ← HE0.out.2]
      have HB4 := Lib.hid (HB3.out.trans (hbx.mono HB3.out.size))
      clear hr hbx HC4 b00 b01 b10 b11 HB3
      have b00 := HK.out.1 w4 HB4.out
      have b01 := HK.out.2.1 w4 HB4.out
      have b10 := HK.out.2.2.1 w4 HB4.out
      have b11 := HK.out.2.2.2 w4 HB4.out
      have HC5 := Lib.hid (wholeSign_any _ s0 xs w4 (H0.out.1.below HB4.out) H0.out.2)
      go_wp2_with fail
      refine HC5.out.mono ?_
      rintro e w5 hr
      obtain ⟨rfl, hbx⟩ := resC_row hr
      obtain ⟨e2, he2⟩ : ∃ e2 : Int, e2 = (if validI s0 xs = true then (0 : Int) else 1) := ⟨_, rfl⟩
      obtain ⟨y2, hy2⟩ : ∃ y2 : Int, y2 = (if e2 = 0 then sgnI (sgn s0 (Nl.val xs)) else 0) := ⟨_, rfl⟩
      rw [← he2, ← hy2]
      have HE2 := Lib.hid (And.intro he2 hy2)
      clear he2 hy2
      have HB5 := Lib.hid (HB4.out.trans (hbx.mono HB4.out.size))
      clear hr hbx HC5 b00 b01 b10 b11 HB4
      have b00 := HK.out.1 w5 HB5.out
      have b01 := HK.out.2.1 w5 HB5.out
      have b10 := HK.out.2.2.1 w5 HB5.out
      have b11 := HK.out.2.2.2 w5 HB5.out
      have HC6 := Lib.hid (rSign_any _ s0 xs w5 (H0.out.1.below HB5.out) H0.out.2)
      go_wp2_with fail
      refine HC6.out.mono ?_
      rintro e w6 hr
      obtain ⟨rfl, hbx⟩ := resC_row hr
      rw [← HE2.out.1, ← HE2.out.2]
      have HB6 := Lib.hid (HB5.out.trans (hbx.mono HB5.out.size))
      clear hr hbx HC6 b00 b01 b10 b11 HB5
      have b00 := HK.out.1 w6 HB6.out
      have b01 := HK.out.2.1 w6 HB6.out
      have b10 := HK.out.2.2.1 w6 HB6.out
      have b11 := HK.out.2.2.2 w6 HB6.out
      have HC7 := Lib.hid (wholeCmp_any _ s0 xs _ s1 ys w6 (H0.out.1.below HB6.out) H0.out.2 (H1.out.1.below HB6.out) H1.out.2)
      go_wp2_with fail
      refine HC7.out.mono ?_
      rintro e w7 hr
      obtain ⟨rfl, hbx⟩ := resC_row hr
      obtain ⟨e4, he4⟩ : ∃ e4 : Int, e4 = (if (validI s0 xs && validI s1 ys) = true then (0 : Int) else 1) := ⟨_, rfl⟩
      obtain ⟨y4, hy4⟩ : ∃ y4 : Int, y4 = (if e4 = 0 then cmpI (sgn s0 (Nl.val xs)) (sgn s1 (Nl.val ys)) else 0) := ⟨_, rfl⟩
      rw [← he4, ← hy4]
      have HE4 := Lib.hid (And.intro he4 hy4)
      clear he4 hy4
      have HB7 := Lib.hid (HB6.out.trans (hbx.mono HB6.out.size))
      clear hr hbx HC7 b00 b01 b10 b11 HB6
      have b00 := HK.out.1 w7 HB7.out
      have b01 := HK.out.2.1 w7 HB7.out
      have b10 := HK.out.2.2.1 w7 HB7.out
      have b11 := HK.out.2.2.2 w7 HB7.out
      have HC8 := Lib.hid (rCmp_any _ s0 xs _ s1 ys w7 (H0.out.1.below HB7.out) H0.out.2 (H1.out.1.below HB7.out) H1.out.2)
      go_wp2_with fail
      refine HC8.out.mono ?_
      rintro e w8 hr
      obtain ⟨rfl, hbx⟩ := resC_row hr
      rw [← HE4.out.1, ← HE4.out.2]
      have HB8 := Lib.hid (HB7.out.trans (hbx.mono HB7.out.size))
      clear hr hbx HC8 b00 b01 b10 b11 HB7
      have b00 := HK.out.1 w8 HB8.out
      have b01 := HK.out.2.1 w8 HB8.out
      have b10 := HK.out.2.2.1 w8 HB8.out
      have b11 := HK.out.2.2.2 w8 HB8.out
      clear b00 b01 b10 b11
      have z00 : ∀ w', Below w8.heap.size w8 w' → w'.cell? ⟨w.heap.size, 0, none⟩ = some (.bool s0) := fun w' h => HK.out.1 w' (HB8.out.trans (h.mono HB8.out.size))
      have z01 : ∀ w', Below w8.heap.size w8 w' → w'.cell? ⟨w.heap.size, 1, none⟩ = some (.slice p0 l0 c0) := fun w' h => HK.out.2.1 w' (HB8.out.trans (h.mono HB8.out.size))
      have z10 : ∀ w', Below w8.heap.size w8 w' → w'.cell? ⟨w.heap.size + 1, 0, none⟩ = some (.bool s1) := fun w' h => HK.out.2.2.1 w' (HB8.out.trans (h.mono HB8.out.size))
      have z11 : ∀ w', Below w8.heap.size w8 w' → w'.cell? ⟨w.heap.size + 1, 1, none⟩ = some (.slice p1 l1 c1) := fun w' h => HK.out.2.2.2 w' (HB8.out.trans (h.mono HB8.out.size))
      have hr0 : Below w8.heap.size w8 w8 := Below.refl _ _
      obtain ⟨vi, hvi⟩ : ∃ vi, vi = validI s0 xs := ⟨_, rfl⟩
      have HV1 := Lib.hid (fun (w' : World) (h : Below w8.heap.size w8 w') => validI_any (.agg #[.bool s0, .slice p0 l0 c0]) s0 xs w' ((H0.out.1.below HB8.out).below h))
      have HV2 := Lib.hid (fun (w' : World) (h : Below w8.heap.size w8 w') => ref2Valid_any (.agg #[.bool s0, .slice p0 l0 c0]) s0 xs w' ((H0.out.1.below HB8.out).below h))
      rw [← hvi] at HV1 HV2
      have evi : (vi == vi) = true := by simp
      clear hvi
      go_wp2_with fail
      go_region_held3 (fun w' => Below w8.heap.size w8 w')
        (first
          | assumption
          | exact below_drew0 _
          | exact below_drew1 (by assumption))
        (first
          | (go_at_call 18; refine (HA.out _).mono ?_; rintro e wa ⟨rfl, hwa⟩; have belA := below_on (D := w8) (by assumption) hwa; clear hwa)
          | (go_at_call 25; refine (HV1.out _ (by assumption)).mono ?_; rintro e wv ⟨rfl, hwv⟩; have belV := below_on (D := w8) (by assumption) hwv; clear hwv)
          | (go_at_call 26; refine (HV2.out _ (by assumption)).mono ?_; rintro e wu ⟨rfl, hwu⟩; have belU := below_on (D := w8) (by assumption) hwu; clear hwu)
          | (go_at_call 28; refine (fromInt_row n _ HN.out.1 HN.out.2).mono ?_; rintro e wf ⟨⟨t1, t2, t3, t4, rfl, hk1⟩, hwf⟩; have belF := below_on (D := w8) (by assumption) hwf; clear hwf)
          | (go_at_call 29; refine (ref2FromInt_any n _ HN.out).mono ?_; rintro e wr ⟨⟨r1, r2, r3, r4, rfl, hk2⟩, hwr⟩; have hk3 : IsI wr (.agg #[.bool t1, .slice t2 t3 t4]) n := (by first | exact AtI.below hk1 hwr | exact AtI.below (AtI.below hk1 (below_drew0 _)) hwr); have belR := below_on (D := w8) (by assumption) hwr; clear hwr hk1)
          | (go_at_call 27; refine (sameI_yes _ _ n _ (by first | exact hk3 | exact AtI.below hk3 (below_drew0 _)) (by first | exact hk2 | exact AtI.below hk2 (below_drew0 _))).mono ?_; rintro e wg ⟨rfl, hwg⟩; have belS := below_on (D := w8) (by assumption) hwg; clear hwg hk2 hk3))
      all_goals (try (go_wp2_with fail))
      all_goals (try go_ret)
      all_goals (exact ⟨rfl, (HW.out.trans (HB8.out.mono HW.out.size)).trans (Below.mono (by assumption) (HW.out.trans (HB8.out.mono HW.out.size)).size)⟩)
    · have q0 := decide_eq_true hx
      have q1 := decide_eq_false hy
      rw [q0] at HS0
      rw [q1] at HS1
      clear hx hy q0 q1
      go_enter Tryz.func3, Tryz.ntmps3
      go_upto_region 1 with fail
      rw [← hW]
      clear hW
      go_wp2_with fail
      refine (HS0.out W (Below.refl _ _)).mono ?_
      rintro e w1 ⟨rfl, hbw1⟩
      have HB1 := Lib.hid hbw1
      clear hbw1 b00 b01 b10 b11
      have b00 := HK.out.1 w1 HB1.out
      have b01 := HK.out.2.1 w1 HB1.out
      have b10 := HK.out.2.2.1 w1 HB1.out
      have b11 := HK.out.2.2.2 w1 HB1.out
      go_wp2_with fail
      refine (HS1.out w1 HB1.out).mono ?_
      rintro e w2 ⟨rfl, hbw2⟩
      have HB2 := Lib.hid (HB1.out.trans (hbw2.mono HB1.out.size))
      clear hbw2 b00 b01 b10 b11
      go_wp2_with fail
      refine (HA.out _).mono ?_
      rintro e wa ⟨rfl, hwa⟩
      go_wp2_with fail
      go_ret
      exact ⟨rfl, (HW.out.trans (HB2.out.mono HW.out.size)).trans (hwa.mono (HW.out.trans (HB2.out.mono HW.out.size)).size)⟩
  · have q0 := decide_eq_false hx
    rw [q0] at HS0
    clear hx q0
    go_enter Tryz.func3, Tryz.ntmps3
    go_upto_region 1 with fail
    rw [← hW]
    clear hW
    go_wp2_with fail
    refine (HS0.out W (Below.refl _ _)).mono ?_
    rintro e w1 ⟨rfl, hbw1⟩
    have HB1 := Lib.hid hbw1
    clear hbw1
    go_wp2_with fail
    refine (HA.out _).mono ?_
    rintro e wa ⟨rfl, hwa⟩
    go_wp2_with fail
    go_ret
    exact ⟨rfl, (HW.out.trans (HB1.out.mono HW.out.size)).trans (hwa.mono (HW.out.trans (HB1.out.mono HW.out.size)).size)⟩
end Go.Proofs.YtodjncohhgknlaaGreat

namespace Go.Proofs.YtodjncohhgknlaaGreat
open Go.ChangeShapes Go.WideShapes Go.ChangeAt Go.RowKit Go.Joins

theorem ownNo : ownKnob Tryz.prog.godebug = none := by kernel_rfl
theorem laidOutYes : laidOutB Tryz.prog = true := by kernel_rfl
theorem cellsWord : Tryz.prog.cellsOf 77 = 1 := by kernel_rfl

set_option maxRecDepth 100000 in
/-- an argument of the type of numbers: a list of words -/
theorem arg_at {H : Type} {enc : TypeId × Value → H} {W : World} {base fuel : Nat} {a0 : Option Addr} {len cap : Nat} {d : DataW H} {p : List MemPlace} (hv : Value.okWide Tryz.prog W .any base 23 (.slice a0 len cap))
    (hf : DataW.trod enc Tryz.prog W 0 (fun _ => true) true fuel 23 (Value.slice a0 len cap).cells.toList = some (d, p)) : ∃ xs, xs.length = len ∧ At W (.slice a0 len cap) xs ∧ Nl.Small xs := by
  rcases open_ints Tryz.underlying23 Tryz.underlying77 cellsWord hf with ⟨hcs, hx⟩ | ⟨a, len', cap', zs, hcs, _, hl, hm, hz, hx, hcell, hwz⟩
  · simp [Value.cells] at hcs
    obtain ⟨rfl, rfl, rfl⟩ := hcs
    exact ⟨[], rfl, .inl ⟨rfl, rfl⟩, Nl.small_nil⟩
  · simp [Value.cells] at hcs
    obtain ⟨rfl, rfl, rfl⟩ := hcs
    simp only [if_true] at hz
    obtain ⟨b, off, spot⟩ := a
    simp only [Value.okWide, Tryz.underlying23, Cell.okWide, Cell.ok, World.has] at hv
    obtain ⟨_, _, _, hsp, rowT, count, hsh, _⟩ := hv
    have hsp' : spot = none := hsp
    subst hsp'
    have hb : b < W.heap.size := by
      unfold World.shape? at hsh
      cases ho : W.heap[b]? with
      | none => simp [ho] at hsh
      | some o => exact (Array.getElem?_eq_some_iff.1 ho).1
    have hlen : ((zs.take len).map Int.toNat).length = len := by simp; omega
    have hpt : ∀ i, i < len → ∃ n : Int, zs.getD i 0 = n ∧ 0 ≤ n ∧ n < 4294967296 := fun i hi => by
      have hmem : zs.getD i 0 ∈ zs := by
        rw [List.getD_eq_getElem?_getD, List.getElem?_eq_getElem (by omega)]
        exact List.getElem_mem _
      have hw := hwz _ hmem
      have hb2 := bounds_u32 hw
      exact ⟨_, rfl, hb2.1, by omega⟩
    have hget : ∀ i, i < len → (((zs.take len).map Int.toNat).getD i 0 : Int) = zs.getD i 0 := fun i hi => by
      obtain ⟨n, hn, h0, h1⟩ := hpt i hi
      rw [List.getD_eq_getElem?_getD, List.getElem?_eq_getElem (by rw [hlen]; exact hi)]
      rw [List.getD_eq_getElem?_getD, List.getElem?_eq_getElem (by omega)] at hn
      simp only [Option.getD_some] at hn
      rw [List.getD_eq_getElem?_getD, List.getElem?_eq_getElem (by omega)]
      simp [hn]
      omega
    refine ⟨(zs.take len).map Int.toNat, hlen, .inr ⟨b, off, cap, by rw [hlen], trivial, by rw [hlen]; exact hl, by simp only [maxLen] at hm; omega, hb, fun i hi => ?_⟩, fun x hx => ?_⟩
    · rw [hlen] at hi
      have := hcell i (by omega)
      rw [Go.WideShapes.add_plain] at this
      rw [this, hget i hi]
    · obtain ⟨n, hn, rfl⟩ := List.mem_map.1 hx
      obtain ⟨i, hi, rfl⟩ := List.getElem_of_mem hn
      have hi' : i < len := by simp at hi; omega
      obtain ⟨n, hn2, h0, h1⟩ := hpt i hi'
      rw [List.getD_eq_getElem?_getD, List.getElem?_eq_getElem (by omega)] at hn2
      simp only [Option.getD_some] at hn2
      rw [List.getElem_take, hn2]
      omega

theorem cellsInt : Tryz.prog.cellTypes Tryz.prog.depth 25 = some [4, 23 ] := by kernel_rfl

set_option maxRecDepth 100000 in
/-- an argument of the type of integers: a sign and a list of words -/
theorem argI_at {H : Type} {enc : TypeId × Value → H} {W : World} {base : Nat} {v : Value} {d : DataW H} {p : List MemPlace} (hv : Value.okWide Tryz.prog W .any base 25 v)
    (h : DataW.Trod enc Tryz.prog W 0 (fun _ => true) true 25 v d p) : ∃ s xs, AtI W v s xs ∧ Nl.Small xs := by
  obtain ⟨v0, v1, y0, y1, n, rfl, rfl, rfl, h0, h1⟩ := open_agg2 Tryz.underlying25 (by kernel_rfl) (by kernel_rfl) hv h
  simp only [Value.okWide, Tryz.underlying25 ] at hv
  obtain ⟨cs, he, -, ts, hts, -, hcells⟩ := hv
  rw [cellsInt] at hts
  cases hts
  cases he
  obtain ⟨u0, hu0, k0⟩ := hcells 0 v0 rfl
  obtain ⟨u1, hu1, k1⟩ := hcells 1 v1 rfl
  cases hu0
  cases hu1
  have w0 : Value.okWide Tryz.prog W .any base 4 v0 := by simp only [Value.okWide, Tryz.underlying4 ]; exact k0
  have w1 : Value.okWide Tryz.prog W .any base 23 v1 := by simp only [Value.okWide, Tryz.underlying23 ]; exact k1
  obtain ⟨s, rfl⟩ := okWide_bool Tryz.underlying4 w0
  obtain ⟨a, l, c, rfl⟩ := okWide_slice Tryz.underlying23 w1
  obtain ⟨xs, hl, hat, hs⟩ := arg_at (d := y1.1) (p := y1.2) w1 (by simpa [Value.cells] using h1)
  exact ⟨s, xs, AtI.mk hat, hs⟩
end Go.Proofs.YtodjncohhgknlaaGreat

namespace Go.Proofs.YtodjncohhgknlaaGreat
open Go.ChangeShapes Go.WideShapes Go.ChangeAt Go.RowKit

set_option maxRecDepth 100000 in
set_option maxHeartbeats 0 in
theorem closed_wholeForms : joinedFacts Tryz.checked.prog 3 Tryz.f3 Rows.wholeFormsSpec Rows.wholeFormsRow = true := by
  unfold joinedFacts
  simp only [Bool.and_eq_true]
  repeat' (apply And.intro)
  all_goals (as_aux_lemma => kernel_rfl)
end Go.Proofs.YtodjncohhgknlaaGreat
