/-
  WholeSums returns true for any two integers, if its self-test does. Written by wip/tool/genlaw2.py. Conditions: those that each theorem names.
-/
import Derived.Test.YtodjncohhgknlaaGreatRef2e
namespace Go.Proofs.YtodjncohhgknlaaGreat
open Go.RowKit

/-- the error of a call -/
def kOf (ok : Bool) (n : Int) : Int := if ok = true then codeI 0 n else 1
theorem GotV.below {w w' : World} {k n : Int} {s : Bool} {p : Option Addr} {l c : Nat} (h : GotV w k n s p l c) (hb : Below w.heap.size w w') : GotV w' k n s p l c := ⟨fun h0 => (h.1 h0).below hb, h.2⟩
theorem res_got {w w' : World} {e : Ending} {ok : Bool} {n : Int} (h : ResI w w' e ok n) : (∃ s p l c, e = .returned (.tuple #[.agg #[.bool s, .slice p l c], .int .i64 (kOf ok n)]) ∧ GotV w' (kOf ok n) n s p l c) ∧ Below w.heap.size w w' := by
  obtain ⟨k, hk, ⟨v, rfl, h1, h2⟩, hb⟩ := h
  have hk' : k = kOf ok n := hk
  subst hk'
  refine ⟨?_, hb⟩
  by_cases h0 : kOf ok n = 0
  · obtain ⟨a, c, rfl, -⟩ := AtI.form (h1 h0)
    exact ⟨_, _, _, _, rfl, fun _ => h1 h0, fun h => absurd h0 h⟩
  · rw [h2 h0]
    exact ⟨_, _, _, _, rfl, fun h => absurd h h0, fun _ => ⟨rfl, rfl, rfl, rfl⟩⟩
theorem below_drew0 (D : World) : Below D.heap.size D D.drew := below_drewN D 1 _
theorem below_drew1 {D w : World} (h : Below D.heap.size D w) : Below D.heap.size D w.drew := h.trans (below_drewN w 1 _)
theorem below_on {D w w' : World} (h : Below D.heap.size D w) (h' : Below w.heap.size w w') : Below D.heap.size D w' := h.trans (h'.mono h.size)
/-- what the self-test does -/
def Awake : Prop := ∀ w : World, Calls Tryz.prog 18 #[] w fun e w' => e = .returned (.bool true) ∧ Below w.heap.size w w'

set_option maxRecDepth 10000 in
set_option maxHeartbeats 8000000 in
theorem wholeSums_any (haw : Awake) (va vb : Value) (s0 s1 : Bool) (xs ys : List Nat) (w : World) (h0 : AtI w va s0 xs) (h1 : AtI w vb s1 ys) (m0 : Nl.Small xs) (m1 : Nl.Small ys) :
    Calls Tryz.prog 4 #[va, vb] w fun e w' => e = .returned (.bool true) ∧ Below w.heap.size w w' := by
  obtain ⟨p0, c0, rfl, u0⟩ := h0.form
  obtain ⟨p1, c1, rfl, u1⟩ := h1.form
  have HA := Lib.hid haw
  obtain ⟨l0, hl0⟩ : ∃ l0, l0 = xs.length := ⟨_, rfl⟩
  obtain ⟨l1, hl1⟩ : ∃ l1, l1 = ys.length := ⟨_, rfl⟩
  rw [← hl0] at u0 h0 ⊢
  rw [← hl1] at u1 h1 ⊢
  obtain ⟨W, hW⟩ : ∃ W, W = (w.alloc (.cells #[.bool s0, .slice p0 l0 c0] 25)).alloc (.cells #[.bool s1, .slice p1 l1 c1] 25) := ⟨_, rfl⟩
  have hb : Below w.heap.size w W := by rw [hW]; exact two_new w _ _
  have B0 : W.heap[w.heap.size]? = some (.cells #[.bool s0, .slice p0 l0 c0] 25 (0, 0)) := by rw [hW]; exact heap_alloc2_old w _ _
  have B1 : W.heap[w.heap.size + 1]? = some (.cells #[.bool s1, .slice p1 l1 c1] 25 (0, 0)) := by rw [hW]; exact heap_alloc2_new w _ _
  have b00 := cell_of_row _ _ 0 _ _ (0, 0) B0
  have b01 := cell_of_row _ _ 1 _ _ (0, 0) B0
  have b10 := cell_of_row _ _ 0 _ _ (0, 0) B1
  have b11 := cell_of_row _ _ 1 _ _ (0, 0) B1
  simp only [List.getElem?_toArray, List.getElem?_cons_zero, List.getElem?_cons_succ] at b00 b01 b10 b11
  have hlt0 := lt_of_block B0
  have hlt1 := lt_of_block B1
  have k00 : ∀ w', Below W.heap.size W w' → w'.cell? ⟨w.heap.size, 0, none⟩ = some (.bool s0) := fun w' h => (h.cell hlt0).trans b00
  have k01 : ∀ w', Below W.heap.size W w' → w'.cell? ⟨w.heap.size, 1, none⟩ = some (.slice p0 l0 c0) := fun w' h => (h.cell hlt0).trans b01
  have k10 : ∀ w', Below W.heap.size W w' → w'.cell? ⟨w.heap.size + 1, 0, none⟩ = some (.bool s1) := fun w' h => (h.cell hlt1).trans b10
  have k11 : ∀ w', Below W.heap.size W w' → w'.cell? ⟨w.heap.size + 1, 1, none⟩ = some (.slice p1 l1 c1) := fun w' h => (h.cell hlt1).trans b11
  have HW := Lib.hid (And.intro hb (And.intro B0 B1))
  have H0 := Lib.hid (And.intro (h0.below hb) m0)
  have H1 := Lib.hid (And.intro (h1.below hb) m1)
  have HK := Lib.hid (And.intro k00 (And.intro k01 (And.intro k10 k11)))
  have HS0 := Lib.hid (fun (w' : World) (h : Below W.heap.size W w') => small_law (.agg #[.bool s0, .slice p0 l0 c0]) s0 xs 1200 w' (H0.out.1.below h))
  have HS1 := Lib.hid (fun (w' : World) (h : Below W.heap.size W w') => small_law (.agg #[.bool s1, .slice p1 l1 c1]) s1 ys 1200 w' (H1.out.1.below h))
  rw [← hl0] at HS0
  rw [← hl1] at HS1
  have HLL := Lib.hid (And.intro hl0 hl1)
  have HSZ := Lib.hid (And.intro u0.short u1.short)
  rw [← hl0, ← hl1] at HSZ
  clear haw u0 u1 h0 h1 m0 m1 hl0 hl1 hb B0 B1 hlt0 hlt1 k00 k01 k10 k11
  by_cases hx : l0 ≤ 1200
  · by_cases hy : l1 ≤ 1200
    · have q0 := decide_eq_true hx
      have q1 := decide_eq_true hy
      obtain ⟨pr, hpr⟩ : ∃ pr, pr = l0 * l1 := ⟨_, rfl⟩
      have hpb : pr ≤ 1440000 := by rw [hpr]; exact Nat.le_trans (Nat.mul_le_mul hx hy) (by decide)
      have hwp : IntKind.i64.wrap ((l0 : Int) * (l1 : Int)) = (pr : Int) := by rw [IntKind.wrap_i64, ← Int.natCast_mul, ← hpr]; omega
      have hmul : (l0 : Int) * (l1 : Int) = (pr : Int) := by rw [← Int.natCast_mul, ← hpr]
      have HPR := Lib.hid (And.intro hx (And.intro hy hpr))
      rw [q0] at HS0
      rw [q1] at HS1
      clear hx hy q0 q1 hpr
      by_cases hp : pr ≤ 300000
      · have e3 : decide ((pr : Int) > 300000) = false := decide_eq_false (by omega)
        have e4 : decide (300000 < pr) = false := decide_eq_false (by omega)
        have e5 : decide ((300000 : Int) < (pr : Int)) = false := decide_eq_false (by omega)
        clear hp
        go_enter Tryz.func4, Tryz.ntmps4
        go_upto_region 1 with fail
        rw [← hW]
        clear hW
        go_wp2_with fail
        refine (HS0.out W (Below.refl _ _)).mono ?_
        rintro e w1 ⟨rfl, hbw1⟩
        have HB1 := Lib.hid hbw1
        have k10 := HK.out.2.2.1 w1 hbw1
        have k11 := HK.out.2.2.2 w1 hbw1
        clear hbw1 b00 b01 b10 b11
        go_wp2_with fail
        refine (HS1.out w1 HB1.out).mono ?_
        rintro e w2 ⟨rfl, hbw2⟩
        have HB2 := Lib.hid (HB1.out.trans (hbw2.mono HB1.out.size))
        have b00 := HK.out.1 w2 HB2.out
        have b01 := HK.out.2.1 w2 HB2.out
        have b10 := HK.out.2.2.1 w2 HB2.out
        have b11 := HK.out.2.2.2 w2 HB2.out
        clear hbw2 k10 k11 HS0 HS1
        have HC0 := Lib.hid (wholeNeg_any _ s0 xs w2 (H0.out.1.below HB2.out) H0.out.2)
        go_wp2_with fail
        refine HC0.out.mono ?_
        rintro e w3 hr
        obtain ⟨⟨sr0, pr0, lr0, cr0, rfl, hg⟩, hbx⟩ := res_got hr
        obtain ⟨nr0, hnr0⟩ : ∃ nr0 : Int, nr0 = -sgn s0 (Nl.val xs) := ⟨_, rfl⟩
        obtain ⟨kr0, hkr0⟩ : ∃ kr0 : Int, kr0 = kOf (validI s0 xs) (-sgn s0 (Nl.val xs)) := ⟨_, rfl⟩
        rw [← hkr0, ← hnr0] at hg
        rw [← hkr0]
        obtain ⟨Z0, hZ0⟩ : ∃ Z0, Z0 = w3.alloc (.cells #[.bool sr0, .slice pr0 lr0 cr0] 25) := ⟨_, rfl⟩
        have hx1 := HB2.out.trans (hbx.mono HB2.out.size)
        have hx2 : Below w3.heap.size w3 Z0 := by rw [hZ0]; exact below_one _ _
        have HX0 := Lib.hid (hx1.trans (hx2.mono hx1.size))
        have HG0 := Lib.hid (hg.below hx2)
        have HR0 := Lib.hid (show Z0.heap[w3.heap.size]? = some (.cells #[.bool sr0, .slice pr0 lr0 cr0] 25 (0, 0)) by rw [hZ0]; exact al_at _ _ rfl)
        have HE0 := Lib.hid (And.intro hnr0 hkr0)
        clear hr hg hbx hx1 hx2 hnr0 hkr0 HC0 b00 b01 b10 b11
        have b00 := HK.out.1 Z0 HX0.out
        have b01 := HK.out.2.1 Z0 HX0.out
        have b10 := HK.out.2.2.1 Z0 HX0.out
        have b11 := HK.out.2.2.2 Z0 HX0.out
        rw [hZ0] at b00 b01 b10 b11
        have HC1 := Lib.hid (wholeAdd_any _ s0 xs _ s1 ys Z0 (H0.out.1.below HX0.out) H0.out.2 (H1.out.1.below HX0.out) H1.out.2)
        go_wp2_with fail
        rw [← hZ0]
        clear hZ0
        refine HC1.out.mono ?_
        rintro e w4 hr
        obtain ⟨⟨sr1, pr1, lr1, cr1, rfl, hg⟩, hbx⟩ := res_got hr
        obtain ⟨nr1, hnr1⟩ : ∃ nr1 : Int, nr1 = sgn s0 (Nl.val xs) + sgn s1 (Nl.val ys) := ⟨_, rfl⟩
        obtain ⟨kr1, hkr1⟩ : ∃ kr1 : Int, kr1 = kOf ((validI s0 xs && validI s1 ys)) (sgn s0 (Nl.val xs) + sgn s1 (Nl.val ys)) := ⟨_, rfl⟩
        rw [← hkr1, ← hnr1] at hg
        rw [← hkr1]
        obtain ⟨Z1, hZ1⟩ : ∃ Z1, Z1 = w4.alloc (.cells #[.bool sr1, .slice pr1 lr1 cr1] 25) := ⟨_, rfl⟩
        have hx1 := HX0.out.trans (hbx.mono HX0.out.size)
        have hx2 : Below w4.heap.size w4 Z1 := by rw [hZ1]; exact below_one _ _
        have HX1 := Lib.hid (hx1.trans (hx2.mono hx1.size))
        have HG1 := Lib.hid (hg.below hx2)
        have HR1 := Lib.hid (show Z1.heap[w4.heap.size]? = some (.cells #[.bool sr1, .slice pr1 lr1 cr1] 25 (0, 0)) by rw [hZ1]; exact al_at _ _ rfl)
        have HE1 := Lib.hid (And.intro hnr1 hkr1)
        have HBZ1 := Lib.hid ((hbx.trans (hx2.mono hbx.size)))
        clear hr hg hbx hx1 hx2 hnr1 hkr1 HC1 b00 b01 b10 b11
        have b00 := HK.out.1 Z1 HX1.out
        have b01 := HK.out.2.1 Z1 HX1.out
        have b10 := HK.out.2.2.1 Z1 HX1.out
        have b11 := HK.out.2.2.2 Z1 HX1.out
        rw [hZ1] at b00 b01 b10 b11
        have HC2 := Lib.hid (wholeSub_any _ s0 xs _ s1 ys Z1 (H0.out.1.below HX1.out) H0.out.2 (H1.out.1.below HX1.out) H1.out.2)
        go_wp2_with fail
        rw [← hZ1]
        clear hZ1
        refine HC2.out.mono ?_
        rintro e w5 hr
        obtain ⟨⟨sr2, pr2, lr2, cr2, rfl, hg⟩, hbx⟩ := res_got hr
        obtain ⟨nr2, hnr2⟩ : ∃ nr2 : Int, nr2 = sgn s0 (Nl.val xs) - sgn s1 (Nl.val ys) := ⟨_, rfl⟩
        obtain ⟨kr2, hkr2⟩ : ∃ kr2 : Int, kr2 = kOf ((validI s0 xs && validI s1 ys)) (sgn s0 (Nl.val xs) - sgn s1 (Nl.val ys)) := ⟨_, rfl⟩
        rw [← hkr2, ← hnr2] at hg
        rw [← hkr2]
        obtain ⟨Z2, hZ2⟩ : ∃ Z2, Z2 = w5.alloc (.cells #[.bool sr2, .slice pr2 lr2 cr2] 25) := ⟨_, rfl⟩
        have hx1 := HX1.out.trans (hbx.mono HX1.out.size)
        have hx2 : Below w5.heap.size w5 Z2 := by rw [hZ2]; exact below_one _ _
        have HX2 := Lib.hid (hx1.trans (hx2.mono hx1.size))
        have HG2 := Lib.hid (hg.below hx2)
        have HR2 := Lib.hid (show Z2.heap[w5.heap.size]? = some (.cells #[.bool sr2, .slice pr2 lr2 cr2] 25 (0, 0)) by rw [hZ2]; exact al_at _ _ rfl)
        have HE2 := Lib.hid (And.intro hnr2 hkr2)
        have HBZ2 := Lib.hid ((hbx.trans (hx2.mono hbx.size)))
        clear hr hg hbx hx1 hx2 hnr2 hkr2 HC2 b00 b01 b10 b11
        have b00 := HK.out.1 Z2 HX2.out
        have b01 := HK.out.2.1 Z2 HX2.out
        have b10 := HK.out.2.2.1 Z2 HX2.out
        have b11 := HK.out.2.2.2 Z2 HX2.out
        rw [hZ2] at b00 b01 b10 b11
        have HC3 := Lib.hid (wholeMul_any _ s0 xs _ s1 ys Z2 (H0.out.1.below HX2.out) H0.out.2 (H1.out.1.below HX2.out) H1.out.2)
        go_wp2_with fail
        rw [← hZ2]
        clear hZ2
        refine HC3.out.mono ?_
        rintro e w6 hr
        obtain ⟨⟨sr3, pr3, lr3, cr3, rfl, hg⟩, hbx⟩ := res_got hr
        obtain ⟨nr3, hnr3⟩ : ∃ nr3 : Int, nr3 = sgn s0 (Nl.val xs) * sgn s1 (Nl.val ys) := ⟨_, rfl⟩
        obtain ⟨kr3, hkr3⟩ : ∃ kr3 : Int, kr3 = kOf ((validI s0 xs && validI s1 ys)) (sgn s0 (Nl.val xs) * sgn s1 (Nl.val ys)) := ⟨_, rfl⟩
        rw [← hkr3, ← hnr3] at hg
        rw [← hkr3]
        obtain ⟨Z3, hZ3⟩ : ∃ Z3, Z3 = w6.alloc (.cells #[.bool sr3, .slice pr3 lr3 cr3] 25) := ⟨_, rfl⟩
        have hx1 := HX2.out.trans (hbx.mono HX2.out.size)
        have hx2 : Below w6.heap.size w6 Z3 := by rw [hZ3]; exact below_one _ _
        have HX3 := Lib.hid (hx1.trans (hx2.mono hx1.size))
        have HG3 := Lib.hid (hg.below hx2)
        have HR3 := Lib.hid (show Z3.heap[w6.heap.size]? = some (.cells #[.bool sr3, .slice pr3 lr3 cr3] 25 (0, 0)) by rw [hZ3]; exact al_at _ _ rfl)
        have HE3 := Lib.hid (And.intro hnr3 hkr3)
        have HBZ3 := Lib.hid ((hbx.trans (hx2.mono hbx.size)))
        clear hr hg hbx hx1 hx2 hnr3 hkr3 HC3 b00 b01 b10 b11
        have b00 := HK.out.1 Z3 HX3.out
        have b01 := HK.out.2.1 Z3 HX3.out
        have b10 := HK.out.2.2.1 Z3 HX3.out
        have b11 := HK.out.2.2.2 Z3 HX3.out
        rw [hZ3] at b00 b01 b10 b11
        have HDD := Lib.hid (HW.out.1.trans (HX3.out.mono HW.out.1.size))
        have r0 : Z3.heap[w3.heap.size]? = some (.cells #[.bool sr0, .slice pr0 lr0 cr0] 25 (0, 0)) := (((HBZ1.out.trans (HBZ2.out.mono HBZ1.out.size)).trans (HBZ3.out.mono (HBZ1.out.trans (HBZ2.out.mono HBZ1.out.size)).size)).block _ (lt_of_block HR0.out)).trans HR0.out
        have HGD0 := Lib.hid (HG0.out.below ((HBZ1.out.trans (HBZ2.out.mono HBZ1.out.size)).trans (HBZ3.out.mono (HBZ1.out.trans (HBZ2.out.mono HBZ1.out.size)).size)))
        have c00 := cell_of_row _ _ 0 _ _ (0, 0) r0
        have c01 := cell_of_row _ _ 1 _ _ (0, 0) r0
        simp only [List.getElem?_toArray, List.getElem?_cons_zero, List.getElem?_cons_succ] at c00 c01
        have q00 : ∀ w', Below Z3.heap.size Z3 w' → w'.cell? ⟨w3.heap.size, 0, none⟩ = some (.bool sr0) := fun w' h => (h.cell (lt_of_block r0)).trans c00
        have q01 : ∀ w', Below Z3.heap.size Z3 w' → w'.cell? ⟨w3.heap.size, 1, none⟩ = some (.slice pr0 lr0 cr0) := fun w' h => (h.cell (lt_of_block r0)).trans c01
        clear r0 c00 c01
        have r1 : Z3.heap[w4.heap.size]? = some (.cells #[.bool sr1, .slice pr1 lr1 cr1] 25 (0, 0)) := ((HBZ2.out.trans (HBZ3.out.mono HBZ2.out.size)).block _ (lt_of_block HR1.out)).trans HR1.out
        have HGD1 := Lib.hid (HG1.out.below (HBZ2.out.trans (HBZ3.out.mono HBZ2.out.size)))
        have c10 := cell_of_row _ _ 0 _ _ (0, 0) r1
        have c11 := cell_of_row _ _ 1 _ _ (0, 0) r1
        simp only [List.getElem?_toArray, List.getElem?_cons_zero, List.getElem?_cons_succ] at c10 c11
        have q10 : ∀ w', Below Z3.heap.size Z3 w' → w'.cell? ⟨w4.heap.size, 0, none⟩ = some (.bool sr1) := fun w' h => (h.cell (lt_of_block r1)).trans c10
        have q11 : ∀ w', Below Z3.heap.size Z3 w' → w'.cell? ⟨w4.heap.size, 1, none⟩ = some (.slice pr1 lr1 cr1) := fun w' h => (h.cell (lt_of_block r1)).trans c11
        clear r1 c10 c11
        have r2 : Z3.heap[w5.heap.size]? = some (.cells #[.bool sr2, .slice pr2 lr2 cr2] 25 (0, 0)) := (HBZ3.out.block _ (lt_of_block HR2.out)).trans HR2.out
        have HGD2 := Lib.hid (HG2.out.below HBZ3.out)
        have c20 := cell_of_row _ _ 0 _ _ (0, 0) r2
        have c21 := cell_of_row _ _ 1 _ _ (0, 0) r2
        simp only [List.getElem?_toArray, List.getElem?_cons_zero, List.getElem?_cons_succ] at c20 c21
        have q20 : ∀ w', Below Z3.heap.size Z3 w' → w'.cell? ⟨w5.heap.size, 0, none⟩ = some (.bool sr2) := fun w' h => (h.cell (lt_of_block r2)).trans c20
        have q21 : ∀ w', Below Z3.heap.size Z3 w' → w'.cell? ⟨w5.heap.size, 1, none⟩ = some (.slice pr2 lr2 cr2) := fun w' h => (h.cell (lt_of_block r2)).trans c21
        clear r2 c20 c21
        have r3 : Z3.heap[w6.heap.size]? = some (.cells #[.bool sr3, .slice pr3 lr3 cr3] 25 (0, 0)) := HR3.out
        have HGD3 := Lib.hid (HG3.out)
        have c30 := cell_of_row _ _ 0 _ _ (0, 0) r3
        have c31 := cell_of_row _ _ 1 _ _ (0, 0) r3
        simp only [List.getElem?_toArray, List.getElem?_cons_zero, List.getElem?_cons_succ] at c30 c31
        have q30 : ∀ w', Below Z3.heap.size Z3 w' → w'.cell? ⟨w6.heap.size, 0, none⟩ = some (.bool sr3) := fun w' h => (h.cell (lt_of_block r3)).trans c30
        have q31 : ∀ w', Below Z3.heap.size Z3 w' → w'.cell? ⟨w6.heap.size, 1, none⟩ = some (.slice pr3 lr3 cr3) := fun w' h => (h.cell (lt_of_block r3)).trans c31
        clear r3 c30 c31
        have y00 : ∀ w', Below Z3.heap.size Z3 w' → w'.cell? ⟨w.heap.size, 0, none⟩ = some (.bool s0) := fun w' h => HK.out.1 w' (HX3.out.trans (h.mono HX3.out.size))
        have y01 : ∀ w', Below Z3.heap.size Z3 w' → w'.cell? ⟨w.heap.size, 1, none⟩ = some (.slice p0 l0 c0) := fun w' h => HK.out.2.1 w' (HX3.out.trans (h.mono HX3.out.size))
        have y10 : ∀ w', Below Z3.heap.size Z3 w' → w'.cell? ⟨w.heap.size + 1, 0, none⟩ = some (.bool s1) := fun w' h => HK.out.2.2.1 w' (HX3.out.trans (h.mono HX3.out.size))
        have y11 : ∀ w', Below Z3.heap.size Z3 w' → w'.cell? ⟨w.heap.size + 1, 1, none⟩ = some (.slice p1 l1 c1) := fun w' h => HK.out.2.2.2 w' (HX3.out.trans (h.mono HX3.out.size))
        have HRF0 := Lib.hid (fun (w' : World) (h : Below Z3.heap.size Z3 w') => (show Calls Tryz.prog 35 #[.agg #[.bool s0, .slice p0 l0 c0]] w' fun e w'' => GotI w' w'' e kr0 nr0 by
          rw [HE0.out.2, HE0.out.1]
          exact rNeg_any _ s0 xs w' ((H0.out.1.below HX3.out).below h) H0.out.2))
        have HRF1 := Lib.hid (fun (w' : World) (h : Below Z3.heap.size Z3 w') => (show Calls Tryz.prog 36 #[.agg #[.bool s0, .slice p0 l0 c0], .agg #[.bool s1, .slice p1 l1 c1]] w' fun e w'' => GotI w' w'' e kr1 nr1 by
          rw [HE1.out.2, HE1.out.1]
          exact rAdd_any _ s0 xs _ s1 ys w' ((H0.out.1.below HX3.out).below h) H0.out.2 ((H1.out.1.below HX3.out).below h) H1.out.2))
        have HRF2 := Lib.hid (fun (w' : World) (h : Below Z3.heap.size Z3 w') => (show Calls Tryz.prog 37 #[.agg #[.bool s0, .slice p0 l0 c0], .agg #[.bool s1, .slice p1 l1 c1]] w' fun e w'' => GotI w' w'' e kr2 nr2 by
          rw [HE2.out.2, HE2.out.1]
          exact rSub_any _ s0 xs _ s1 ys w' ((H0.out.1.below HX3.out).below h) H0.out.2 ((H1.out.1.below HX3.out).below h) H1.out.2))
        have HRF3 := Lib.hid (fun (w' : World) (h : Below Z3.heap.size Z3 w') => (show Calls Tryz.prog 38 #[.agg #[.bool s0, .slice p0 l0 c0], .agg #[.bool s1, .slice p1 l1 c1]] w' fun e w'' => GotI w' w'' e kr3 nr3 by
          rw [HE3.out.2, HE3.out.1]
          exact rMul_any _ s0 xs _ s1 ys w' ((H0.out.1.below HX3.out).below h) H0.out.2 ((H1.out.1.below HX3.out).below h) H1.out.2))
        clear b00 b01 b10 b11
        go_wp2_with fail
        rw [← hZ3]
        clear hZ3
        go_region_held3 (fun w' => Below Z3.heap.size Z3 w')
          (first
            | assumption
            | exact below_drew0 _
            | exact below_drew1 (by assumption))
          (first
            | (go_at_call 18; refine (HA.out _).mono ?_; rintro e wa ⟨rfl, hwa⟩; have sa := below_on (D := Z3) (by assumption) hwa; clear hwa)
            | (go_at_call 35; refine (HRF0.out _ (by assumption)).mono ?_; rintro e wr0 ⟨hwr, st0, pt0, lt0, ct0, rfl, hgt0⟩; have sr0_ := below_on (D := Z3) (by assumption) hwr; clear hwr)
            | (go_at_call 36; refine (HRF1.out _ (by assumption)).mono ?_; rintro e wr1 ⟨hwr, st1, pt1, lt1, ct1, rfl, hgt1⟩; have sr1_ := below_on (D := Z3) (by assumption) hwr; clear hwr)
            | (go_at_call 37; refine (HRF2.out _ (by assumption)).mono ?_; rintro e wr2 ⟨hwr, st2, pt2, lt2, ct2, rfl, hgt2⟩; have sr2_ := below_on (D := Z3) (by assumption) hwr; clear hwr)
            | (go_at_call 38; refine (HRF3.out _ (by assumption)).mono ?_; rintro e wr3 ⟨hwr, st3, pt3, lt3, ct3, rfl, hgt3⟩; have sr3_ := below_on (D := Z3) (by assumption) hwr; clear hwr)
            | (go_at_call_of 34 (Value.agg #[.bool sr0, .slice pr0 lr0 cr0]); refine (got_yes _ _ _ _ _ _ _ _ _ _ _ (HGD0.out.below (by assumption)) hgt0).mono ?_; rintro e wg0 ⟨rfl, hwg⟩; have sg0_ := below_on (D := Z3) (by assumption) hwg; clear hwg hgt0)
            | (go_at_call_of 34 (Value.agg #[.bool sr1, .slice pr1 lr1 cr1]); refine (got_yes _ _ _ _ _ _ _ _ _ _ _ (HGD1.out.below (by assumption)) hgt1).mono ?_; rintro e wg1 ⟨rfl, hwg⟩; have sg1_ := below_on (D := Z3) (by assumption) hwg; clear hwg hgt1)
            | (go_at_call_of 34 (Value.agg #[.bool sr2, .slice pr2 lr2 cr2]); refine (got_yes _ _ _ _ _ _ _ _ _ _ _ (HGD2.out.below (by assumption)) hgt2).mono ?_; rintro e wg2 ⟨rfl, hwg⟩; have sg2_ := below_on (D := Z3) (by assumption) hwg; clear hwg hgt2)
            | (go_at_call_of 34 (Value.agg #[.bool sr3, .slice pr3 lr3 cr3]); refine (got_yes _ _ _ _ _ _ _ _ _ _ _ (HGD3.out.below (by assumption)) hgt3).mono ?_; rintro e wg3 ⟨rfl, hwg⟩; have sg3_ := below_on (D := Z3) (by assumption) hwg; clear hwg hgt3))
        all_goals (try (go_wp2_with fail))
        all_goals (try go_ret)
        all_goals (exact ⟨rfl, HDD.out.trans (Below.mono (by assumption) HDD.out.size)⟩)
      · have e3 : decide ((pr : Int) > 300000) = true := decide_eq_true (by omega)
        have e4 : decide (300000 < pr) = true := decide_eq_true (by omega)
        have e5 : decide ((300000 : Int) < (pr : Int)) = true := decide_eq_true (by omega)
        clear hp
        go_enter Tryz.func4, Tryz.ntmps4
        go_upto_region 1 with fail
        rw [← hW]
        clear hW
        go_wp2_with fail
        refine (HS0.out W (Below.refl _ _)).mono ?_
        rintro e w1 ⟨rfl, hbw1⟩
        have HB1 := Lib.hid hbw1
        have k10 := HK.out.2.2.1 w1 hbw1
        have k11 := HK.out.2.2.2 w1 hbw1
        clear hbw1 b00 b01 b10 b11
        go_wp2_with fail
        refine (HS1.out w1 HB1.out).mono ?_
        rintro e w2 ⟨rfl, hbw2⟩
        have HB2 := Lib.hid (HB1.out.trans (hbw2.mono HB1.out.size))
        have b00 := HK.out.1 w2 HB2.out
        have b01 := HK.out.2.1 w2 HB2.out
        have b10 := HK.out.2.2.1 w2 HB2.out
        have b11 := HK.out.2.2.2 w2 HB2.out
        clear hbw2 k10 k11 HS0 HS1
        go_wp2_with fail
        refine (HA.out _).mono ?_
        rintro e wa ⟨rfl, hwa⟩
        go_wp2_with fail
        go_ret
        exact ⟨rfl, (HW.out.1.trans (HB2.out.mono HW.out.1.size)).trans (hwa.mono (HW.out.1.trans (HB2.out.mono HW.out.1.size)).size)⟩
    · have q0 := decide_eq_true hx
      have q1 := decide_eq_false hy
      rw [q0] at HS0
      rw [q1] at HS1
      clear hx hy q0 q1
      go_enter Tryz.func4, Tryz.ntmps4
      go_upto_region 1 with fail
      rw [← hW]
      clear hW
      go_wp2_with fail
      refine (HS0.out W (Below.refl _ _)).mono ?_
      rintro e w1 ⟨rfl, hbw1⟩
      have HB1 := Lib.hid hbw1
      have k10 := HK.out.2.2.1 w1 hbw1
      have k11 := HK.out.2.2.2 w1 hbw1
      clear hbw1 b00 b01 b10 b11
      go_wp2_with fail
      refine (HS1.out w1 HB1.out).mono ?_
      rintro e w2 ⟨rfl, hbw2⟩
      have HB2 := Lib.hid (HB1.out.trans (hbw2.mono HB1.out.size))
      clear hbw2 k10 k11
      go_wp2_with fail
      refine (HA.out _).mono ?_
      rintro e wa ⟨rfl, hwa⟩
      go_wp2_with fail
      go_ret
      exact ⟨rfl, (HW.out.1.trans (HB2.out.mono HW.out.1.size)).trans (hwa.mono (HW.out.1.trans (HB2.out.mono HW.out.1.size)).size)⟩
  · have q0 := decide_eq_false hx
    rw [q0] at HS0
    clear hx q0
    go_enter Tryz.func4, Tryz.ntmps4
    go_upto_region 1 with fail
    rw [← hW]
    clear hW
    go_wp2_with fail
    refine (HS0.out W (Below.refl _ _)).mono ?_
    rintro e w1 ⟨rfl, hbw1⟩
    have HB1 := Lib.hid hbw1
    clear hbw1
    go_wp2_with fail
    refine (HA.out _).mono ?_
    rintro e wa ⟨rfl, hwa⟩
    go_wp2_with fail
    go_ret
    exact ⟨rfl, (HW.out.1.trans (HB1.out.mono HW.out.1.size)).trans (hwa.mono (HW.out.1.trans (HB1.out.mono HW.out.1.size)).size)⟩
end Go.Proofs.YtodjncohhgknlaaGreat
