/-
  The self-test of layer 2 says yes. Written by wip/tool/genawake.py. Conditions: none.
-/
import Derived.Test.YtkbghamkalidcaaGreatLawSumsAll
import Derived.Test.YtkbghamkalidcaaGreatSeqIAll
import Derived.Test.YtkbghamkalidcaaGreatRef2fAll
namespace Go.Proofs.YtkbghamkalidcaaGreat
open Go.RowKit

/-- an integer that is kept in a block -/
structure Kept (D : World) (g : Nat) (s : Bool) (p : Option Addr) (l c : Nat) (n : Int) : Prop where
  row : D.heap[g]? = some (.cells #[.bool s, .slice p l c] 25 (0, 0))
  num : IsI D (.agg #[.bool s, .slice p l c]) n
theorem Kept.on {D D' : World} {g : Nat} {s : Bool} {p : Option Addr} {l c : Nat} {n : Int} (h : Kept D g s p l c n) (hb : Below D.heap.size D D') : Kept D' g s p l c n := ⟨(hb.block _ (lt_of_block h.row)).trans h.row, h.num.below hb⟩
theorem Kept.c0 {D : World} {g : Nat} {s : Bool} {p : Option Addr} {l c : Nat} {n : Int} (h : Kept D g s p l c n) : D.cell? ⟨g, 0, none⟩ = some (.bool s) := by have := cell_of_row _ _ 0 _ _ (0, 0) h.row; simpa using this
theorem Kept.c1 {D : World} {g : Nat} {s : Bool} {p : Option Addr} {l c : Nat} {n : Int} (h : Kept D g s p l c n) : D.cell? ⟨g, 1, none⟩ = some (.slice p l c) := by have := cell_of_row _ _ 1 _ _ (0, 0) h.row; simpa using this
/-- an integer that is held -/
structure HeldI (D : World) (v : Value) (n : Int) : Prop where
  num : IsI D v n
theorem HeldI.on {D D' : World} {v : Value} {n : Int} (h : HeldI D v n) (hb : Below D.heap.size D D') : HeldI D' v n := ⟨h.num.below hb⟩

theorem fromInt_row (n : Int) (w : World) (h1 : -9223372036854775808 ≤ n) (h2 : n ≤ 9223372036854775807) : Calls Tryz.prog 18 #[.int .i64 n] w fun e w' => (∃ s p l c, e = .returned (.agg #[.bool s, .slice p l c]) ∧ IsI w' (.agg #[.bool s, .slice p l c]) n) ∧ Below w.heap.size w w' :=
  (wholeFromInt_any n w ⟨h1, h2⟩).mono fun e w' h => by
    obtain ⟨⟨v, rfl, hv⟩, hb⟩ := h
    obtain ⟨p, c, rfl, -⟩ := AtI.form hv
    exact ⟨⟨_, _, _, _, rfl, hv⟩, hb⟩
theorem limbs_lit {n : Nat} (h0 : n ≠ 0) (h : n < 4294967296) : (Nl.limbs n).length = 1 := by rw [limbs_one h0 h]; rfl
theorem div_7_2 (va vb : Value) (w : World) (ha : IsI w va (-7)) (hb : IsI w vb 2) : Calls Tryz.prog 31 #[va, vb, .int .i64 4] w fun e w' =>
    (∃ s p l c s' p' l' c', e = .returned (.tuple #[.agg #[.bool s, .slice p l c], .agg #[.bool s', .slice p' l' c'], .int .i64 0]) ∧ IsI w' (.agg #[.bool s, .slice p l c]) (-4) ∧ IsI w' (.agg #[.bool s', .slice p' l' c']) 1) ∧ Below w.heap.size w w' := by
  obtain ⟨p0, c0, rfl, u0⟩ := ha.form
  obtain ⟨p1, c1, rfl, u1⟩ := hb.form
  have l7 : Nl.limbs (-7 : Int).natAbs = [7] := limbs_one (by decide) (by decide)
  have l2 : Nl.limbs (2 : Int).natAbs = [2] := limbs_one (by decide) (by decide)
  refine (wholeDiv_ok _ _ _ _ 4 _ _ (-4) 1 w ha hb (validI_of (by rw [l7]; decide)) (validI_of (by rw [l2]; decide)) (by decide) (by decide) (by rw [l2]; decide) (fit_small (by decide)) (fit_small (by decide)) (fun w' hw' => ?_)).mono ?_
  · refine (over4_far p0 p1 _ c0 _ c1 (-7) 2 3 1 w' (u0.below hw') (u1.below hw') (fit_small (by decide)) (fun w2 hw2 => div_small _ _ 7 2 w2 ((u0.below hw').below hw2) ((u1.below hw').below hw2) (by rw [limbs_lit (by decide) (by decide)]; decide) (by decide) (by decide)) (by decide) (by decide) (by rw [limbs_lit (by decide) (by decide)]; decide) (by decide)).mono ?_
    rintro e w3 ⟨⟨x, y, rfl, h1, h2⟩, hb3⟩
    exact ⟨⟨x, y, rfl, h1, h2⟩, hb3⟩
  · rintro e w3 ⟨⟨u, v, rfl, h1, h2⟩, hb3⟩
    obtain ⟨p, c, rfl, -⟩ := AtI.form h1
    obtain ⟨p', c', rfl, -⟩ := AtI.form h2
    exact ⟨⟨_, _, _, _, _, _, _, _, rfl, h1, h2⟩, hb3⟩
theorem gcd_row (va vb : Value) (w : World) (ha : IsI w va 12) (hb : IsI w vb 18) : Calls Tryz.prog 30 #[va, vb] w fun e w' =>
    (∃ s p l c s' p' l' c' s'' p'' l'' c'', e = .returned (.tuple #[.agg #[.bool s, .slice p l c], .agg #[.bool s', .slice p' l' c'], .agg #[.bool s'', .slice p'' l'' c''], .int .i64 0]) ∧ IsI w' (.agg #[.bool s, .slice p l c]) 6 ∧ IsI w' (.agg #[.bool s', .slice p' l' c']) 2 ∧ IsI w' (.agg #[.bool s'', .slice p'' l'' c'']) (-1)) ∧ Below w.heap.size w w' :=
  (gcd_12_18 va vb w ha hb).mono fun e w' h => by
    obtain ⟨⟨u, v, t, rfl, h1, h2, h3⟩, hb⟩ := h
    obtain ⟨p, c, rfl, -⟩ := AtI.form h1
    obtain ⟨p', c', rfl, -⟩ := AtI.form h2
    obtain ⟨p'', c'', rfl, -⟩ := AtI.form h3
    exact ⟨⟨_, _, _, _, _, _, _, _, _, _, _, _, rfl, h1, h2, h3⟩, hb⟩
theorem text_255 : textB 16 true true 255 = ⟨#[45, 70, 70]⟩ := by
  rw [textB, textL, if_neg (by decide), digitsB_pos (by decide) (by decide), digitsB_pos (by decide) (by decide), show (255 / 16 / 16 : Nat) = 0 by decide, digitsB_zero]
  rfl
theorem text_row (va : Value) (w : World) (ha : IsI w va (-255)) : Calls Tryz.prog 40 #[va, .int .i64 16, .bool true] w fun e w' => e = .returned (.tuple #[.string ⟨#[45, 70, 70]⟩, .int .i64 0]) ∧ Below w.heap.size w w' := by
  have l255 : Nl.limbs (-255 : Int).natAbs = [255] := limbs_one (by decide) (by decide)
  rw [← text_255]
  exact wholeText_ok va _ _ 16 true _ w ha (validI_of (by rw [l255]; decide)) (by decide) (by decide) (fun w' hw' => text_true true va 255 16 w' (ha.below hw') (by rw [limbs_lit (by decide) (by decide)]; decide) (by decide) (by decide) (by decide) (by rw [digitsB_pos (by decide) (by decide), digitsB_pos (by decide) (by decide), show (255 / 16 / 16 : Nat) = 0 by decide, digitsB_zero]; decide))
theorem sameI_yes (va vb : Value) (n : Int) (w : World) (ha : IsI w va n) (hb : IsI w vb n) : Calls Tryz.prog 34 #[va, vb] w fun e w' => e = .returned (.bool true) ∧ Below w.heap.size w w' :=
  (ref2Same_any va vb _ _ _ _ w ha hb).mono fun e w' h => ⟨by rw [h.1, sameB_refl]; simp, h.2⟩

set_option maxRecDepth 10000 in
set_option maxHeartbeats 8000000 in
theorem awake_any : Awake := by
  intro w
  go_enter Tryz.func11, Tryz.ntmps11
  have HC1 := Lib.hid (fromInt_row (-7) w (by decide) (by decide))
  go_wp2_with fail
  refine HC1.out.mono ?_
  rintro e w1 ⟨⟨sa, pa, la, ca, rfl, hia⟩, hbx⟩
  obtain ⟨Z1, hZ1⟩ : ∃ Z1, Z1 = (w1.alloc (.cells #[.bool sa, .slice pa la ca] 25)) := ⟨_, rfl⟩
  have hz : Below w1.heap.size w1 Z1 := by rw [hZ1]; exact below_one w1 _
  have Ra : Z1.heap[w1.heap.size]? = some (.cells #[.bool sa, .slice pa la ca] 25 (0, 0)) := by rw [hZ1]; exact al_at _ _ (by simp)
  have Ia := hia.below hz
  have hs := hbx.trans (hz.mono hbx.size)
  clear hia hz
  clear hbx HC1
  have Va := Lib.hid (Kept.mk Ra Ia)
  clear Ra Ia
  have HB1 := Lib.hid (below_on (Below.refl _ _) hs)
  clear hs
  have HC2 := Lib.hid (fromInt_row 2 Z1 (by decide) (by decide))
  go_wp2_with fail
  rw [← hZ1]
  clear hZ1
  refine HC2.out.mono ?_
  rintro e w2 ⟨⟨sb, pb, lb, cb, rfl, hib⟩, hbx⟩
  obtain ⟨Z2, hZ2⟩ : ∃ Z2, Z2 = (w2.alloc (.cells #[.bool sb, .slice pb lb cb] 25)) := ⟨_, rfl⟩
  have hz : Below w2.heap.size w2 Z2 := by rw [hZ2]; exact below_one w2 _
  have Rb : Z2.heap[w2.heap.size]? = some (.cells #[.bool sb, .slice pb lb cb] 25 (0, 0)) := by rw [hZ2]; exact al_at _ _ (by simp)
  have Ib := hib.below hz
  have hs := hbx.trans (hz.mono hbx.size)
  clear hib hz
  clear hbx HC2
  have Ya := Lib.hid (Va.out.on hs)
  clear Va
  have Va := Ya
  clear Ya
  have Vb := Lib.hid (Kept.mk Rb Ib)
  clear Rb Ib
  have HB2 := Lib.hid (below_on HB1.out hs)
  clear hs
  clear HB1
  have c0a := Va.out.c0
  have c1a := Va.out.c1
  have c0b := Vb.out.c0
  have c1b := Vb.out.c1
  rw [hZ2] at c0a c1a c0b c1b
  have HC3 := Lib.hid (div_7_2 _ _ Z2 Va.out.num Vb.out.num)
  go_wp2_with fail
  rw [← hZ2]
  clear hZ2
  refine HC3.out.mono ?_
  rintro e w3 ⟨⟨sq, pq, lq, cq, sr, pr, lr, cr, rfl, hiq, hir⟩, hbx⟩
  obtain ⟨Z3, hZ3⟩ : ∃ Z3, Z3 = ((w3.alloc (.cells #[.bool sq, .slice pq lq cq] 25)).alloc (.cells #[.bool sr, .slice pr lr cr] 25)) := ⟨_, rfl⟩
  have hz : Below w3.heap.size w3 Z3 := by rw [hZ3]; exact two_new w3 _ _
  have Rq : Z3.heap[w3.heap.size]? = some (.cells #[.bool sq, .slice pq lq cq] 25 (0, 0)) := by rw [hZ3]; exact al_keep _ _ (by simp <;> omega) (al_at _ _ (by simp))
  have Iq := hiq.below hz
  have Rr : Z3.heap[w3.heap.size + 1]? = some (.cells #[.bool sr, .slice pr lr cr] 25 (0, 0)) := by rw [hZ3]; exact al_at _ _ (by simp)
  have Ir := hir.below hz
  have hs := hbx.trans (hz.mono hbx.size)
  clear hiq hir hz
  clear hbx HC3
  have Ya := Lib.hid (Va.out.on hs)
  clear Va
  have Va := Ya
  clear Ya
  have Yb := Lib.hid (Vb.out.on hs)
  clear Vb
  have Vb := Yb
  clear Yb
  have Vq := Lib.hid (Kept.mk Rq Iq)
  clear Rq Iq
  have Vr := Lib.hid (Kept.mk Rr Ir)
  clear Rr Ir
  have HB3 := Lib.hid (below_on HB2.out hs)
  clear hs
  clear HB2
  clear c0a c1a c0b c1b Va Vb
  have HC4 := Lib.hid (fromInt_row 12 Z3 (by decide) (by decide))
  go_wp2_with fail
  rw [← hZ3]
  clear hZ3
  refine HC4.out.mono ?_
  rintro e w4 ⟨⟨sm, pm, lm, cm, rfl, him⟩, hbx⟩
  have hs := hbx
  clear hbx HC4
  have Yq := Lib.hid (Vq.out.on hs)
  clear Vq
  have Vq := Yq
  clear Yq
  have Yr := Lib.hid (Vr.out.on hs)
  clear Vr
  have Vr := Yr
  clear Yr
  have Vm := Lib.hid (HeldI.mk (by first | exact him | assumption))
  clear him
  have HB4 := Lib.hid (below_on HB3.out hs)
  clear hs
  clear HB3
  have HC5 := Lib.hid (fromInt_row 18 w4 (by decide) (by decide))
  go_wp2_with fail
  refine HC5.out.mono ?_
  rintro e w5 ⟨⟨sn, pn, ln, cn, rfl, hin⟩, hbx⟩
  have hs := hbx
  clear hbx HC5
  have Yq := Lib.hid (Vq.out.on hs)
  clear Vq
  have Vq := Yq
  clear Yq
  have Yr := Lib.hid (Vr.out.on hs)
  clear Vr
  have Vr := Yr
  clear Yr
  have Ym := Lib.hid (Vm.out.on hs)
  clear Vm
  have Vm := Ym
  clear Ym
  have Vn := Lib.hid (HeldI.mk (by first | exact hin | assumption))
  clear hin
  have HB5 := Lib.hid (below_on HB4.out hs)
  clear hs
  clear HB4
  have HC6 := Lib.hid (gcd_row _ _ w5 Vm.out.num Vn.out.num)
  go_wp2_with fail
  refine HC6.out.mono ?_
  rintro e w6 ⟨⟨sg, pg, lg, cg, sx, px, lx, cx, sy, py, ly, cy, rfl, hig, hix, hiy⟩, hbx⟩
  obtain ⟨Z6, hZ6⟩ : ∃ Z6, Z6 = (((w6.alloc (.cells #[.bool sg, .slice pg lg cg] 25)).alloc (.cells #[.bool sx, .slice px lx cx] 25)).alloc (.cells #[.bool sy, .slice py ly cy] 25)) := ⟨_, rfl⟩
  have hz : Below w6.heap.size w6 Z6 := by rw [hZ6]; exact three_new w6 _ _ _
  have Rg : Z6.heap[w6.heap.size]? = some (.cells #[.bool sg, .slice pg lg cg] 25 (0, 0)) := by rw [hZ6]; exact al_keep _ _ (by simp <;> omega) (al_keep _ _ (by simp <;> omega) (al_at _ _ (by simp)))
  have Ig := hig.below hz
  have Rx : Z6.heap[w6.heap.size + 1]? = some (.cells #[.bool sx, .slice px lx cx] 25 (0, 0)) := by rw [hZ6]; exact al_keep _ _ (by simp <;> omega) (al_at _ _ (by simp))
  have Ix := hix.below hz
  have Ry : Z6.heap[w6.heap.size + 1 + 1]? = some (.cells #[.bool sy, .slice py ly cy] 25 (0, 0)) := by rw [hZ6]; exact al_at _ _ (by simp)
  have Iy := hiy.below hz
  have hs := hbx.trans (hz.mono hbx.size)
  clear hig hix hiy hz
  clear hbx HC6
  have Yq := Lib.hid (Vq.out.on hs)
  clear Vq
  have Vq := Yq
  clear Yq
  have Yr := Lib.hid (Vr.out.on hs)
  clear Vr
  have Vr := Yr
  clear Yr
  have Ym := Lib.hid (Vm.out.on hs)
  clear Vm
  have Vm := Ym
  clear Ym
  have Yn := Lib.hid (Vn.out.on hs)
  clear Vn
  have Vn := Yn
  clear Yn
  have Vg := Lib.hid (Kept.mk Rg Ig)
  clear Rg Ig
  have Vx := Lib.hid (Kept.mk Rx Ix)
  clear Rx Ix
  have Vy := Lib.hid (Kept.mk Ry Iy)
  clear Ry Iy
  have HB6 := Lib.hid (below_on HB5.out hs)
  clear hs
  clear HB5
  clear Vm Vn
  have HC7 := Lib.hid (fromInt_row (-255) Z6 (by decide) (by decide))
  go_wp2_with fail
  rw [← hZ6]
  clear hZ6
  refine HC7.out.mono ?_
  rintro e w7 ⟨⟨st, pt, lt, ct, rfl, hit⟩, hbx⟩
  have hs := hbx
  clear hbx HC7
  have Yq := Lib.hid (Vq.out.on hs)
  clear Vq
  have Vq := Yq
  clear Yq
  have Yr := Lib.hid (Vr.out.on hs)
  clear Vr
  have Vr := Yr
  clear Yr
  have Yg := Lib.hid (Vg.out.on hs)
  clear Vg
  have Vg := Yg
  clear Yg
  have Yx := Lib.hid (Vx.out.on hs)
  clear Vx
  have Vx := Yx
  clear Yx
  have Yy := Lib.hid (Vy.out.on hs)
  clear Vy
  have Vy := Yy
  clear Yy
  have Vt := Lib.hid (HeldI.mk (by first | exact hit | assumption))
  clear hit
  have HB7 := Lib.hid (below_on HB6.out hs)
  clear hs
  clear HB6
  have HC8 := Lib.hid (text_row _ w7 Vt.out.num)
  go_wp2_with fail
  refine HC8.out.mono ?_
  rintro e w8 ⟨rfl, hbx⟩
  have hs := hbx
  clear hbx HC8
  have Yq := Lib.hid (Vq.out.on hs)
  clear Vq
  have Vq := Yq
  clear Yq
  have Yr := Lib.hid (Vr.out.on hs)
  clear Vr
  have Vr := Yr
  clear Yr
  have Yg := Lib.hid (Vg.out.on hs)
  clear Vg
  have Vg := Yg
  clear Yg
  have Yx := Lib.hid (Vx.out.on hs)
  clear Vx
  have Vx := Yx
  clear Yx
  have Yy := Lib.hid (Vy.out.on hs)
  clear Vy
  have Vy := Yy
  clear Yy
  have Yt := Lib.hid (Vt.out.on hs)
  clear Vt
  have Vt := Yt
  clear Yt
  have HB8 := Lib.hid (below_on HB7.out hs)
  clear hs
  clear HB7
  clear Vt
  have z0q : ∀ w', Below w8.heap.size w8 w' → w'.cell? ⟨w3.heap.size, 0, none⟩ = some (.bool sq) := fun w' h => (Vq.out.on h).c0
  have z1q : ∀ w', Below w8.heap.size w8 w' → w'.cell? ⟨w3.heap.size, 1, none⟩ = some (.slice pq lq cq) := fun w' h => (Vq.out.on h).c1
  have z0r : ∀ w', Below w8.heap.size w8 w' → w'.cell? ⟨w3.heap.size + 1, 0, none⟩ = some (.bool sr) := fun w' h => (Vr.out.on h).c0
  have z1r : ∀ w', Below w8.heap.size w8 w' → w'.cell? ⟨w3.heap.size + 1, 1, none⟩ = some (.slice pr lr cr) := fun w' h => (Vr.out.on h).c1
  have z0g : ∀ w', Below w8.heap.size w8 w' → w'.cell? ⟨w6.heap.size, 0, none⟩ = some (.bool sg) := fun w' h => (Vg.out.on h).c0
  have z1g : ∀ w', Below w8.heap.size w8 w' → w'.cell? ⟨w6.heap.size, 1, none⟩ = some (.slice pg lg cg) := fun w' h => (Vg.out.on h).c1
  have z0x : ∀ w', Below w8.heap.size w8 w' → w'.cell? ⟨w6.heap.size + 1, 0, none⟩ = some (.bool sx) := fun w' h => (Vx.out.on h).c0
  have z1x : ∀ w', Below w8.heap.size w8 w' → w'.cell? ⟨w6.heap.size + 1, 1, none⟩ = some (.slice px lx cx) := fun w' h => (Vx.out.on h).c1
  have z0y : ∀ w', Below w8.heap.size w8 w' → w'.cell? ⟨w6.heap.size + 1 + 1, 0, none⟩ = some (.bool sy) := fun w' h => (Vy.out.on h).c0
  have z1y : ∀ w', Below w8.heap.size w8 w' → w'.cell? ⟨w6.heap.size + 1 + 1, 1, none⟩ = some (.slice py ly cy) := fun w' h => (Vy.out.on h).c1
  have hr0 : Below w8.heap.size w8 w8 := Below.refl _ _
  go_wp2_with fail
  go_region_held3 (fun w' => Below w8.heap.size w8 w')
      (first
        | assumption
        | exact below_drew0 _
        | exact below_drew1 (by assumption))
      (first
        | (go_at_call 45; refine (ref2FromInt_any _ _ ⟨by decide, by decide⟩).mono ?_; rintro e wr ⟨⟨t1, t2, t3, t4, rfl, hk⟩, hwr⟩; have belF := below_on (D := w8) (by assumption) hwr; clear hwr)
        | (go_at_call_of 34 (Value.agg #[.bool sq, .slice pq lq cq]); refine (sameI_yes _ _ (-4) _ (Vq.out.on (by assumption)).num hk).mono ?_; rintro e wg ⟨rfl, hwg⟩; have belS := below_on (D := w8) (by assumption) hwg; clear hwg hk)
        | (go_at_call_of 34 (Value.agg #[.bool sr, .slice pr lr cr]); refine (sameI_yes _ _ (1) _ (Vr.out.on (by assumption)).num hk).mono ?_; rintro e wg ⟨rfl, hwg⟩; have belS := below_on (D := w8) (by assumption) hwg; clear hwg hk)
        | (go_at_call_of 34 (Value.agg #[.bool sg, .slice pg lg cg]); refine (sameI_yes _ _ (6) _ (Vg.out.on (by assumption)).num hk).mono ?_; rintro e wg ⟨rfl, hwg⟩; have belS := below_on (D := w8) (by assumption) hwg; clear hwg hk)
        | (go_at_call_of 34 (Value.agg #[.bool sx, .slice px lx cx]); refine (sameI_yes _ _ (2) _ (Vx.out.on (by assumption)).num hk).mono ?_; rintro e wg ⟨rfl, hwg⟩; have belS := below_on (D := w8) (by assumption) hwg; clear hwg hk)
        | (go_at_call_of 34 (Value.agg #[.bool sy, .slice py ly cy]); refine (sameI_yes _ _ (-1) _ (Vy.out.on (by assumption)).num hk).mono ?_; rintro e wg ⟨rfl, hwg⟩; have belS := below_on (D := w8) (by assumption) hwg; clear hwg hk))
  all_goals (try (go_wp2_with fail))
  all_goals (try go_ret)
  all_goals (exact ⟨rfl, HB8.out.trans (Below.mono (by assumption) HB8.out.size)⟩)
end Go.Proofs.YtkbghamkalidcaaGreat
