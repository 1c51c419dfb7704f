/-
  WholeRing returns true for any three integers. Written by wip/tool/genring2.py. Conditions: those that each theorem names.
-/
import Derived.Test.YtodjncohhgknlaaGreatAwake
import Derived.Test.YtodjncohhgknlaaGreatLawFns
namespace Go.Proofs.YtodjncohhgknlaaGreat
open Go.RowKit

/-- what calls inside one expression have given so far -/
def Pend (w : World) (L : List (Value × Int × Nat)) : Prop := ∀ x ∈ L, IsS w x.1 x.2.1 x.2.2
theorem Pend.nil (w : World) : Pend w [] := fun _ h => by cases h
theorem Pend.on {w w' : World} {L : List (Value × Int × Nat)} (h : Pend w L) (hb : Below w.heap.size w w') : Pend w' L := fun x hx => (h x hx).below hb
theorem Pend.push {w : World} {L : List (Value × Int × Nat)} {v : Value} {n : Int} {k : Nat} (h : Pend w L) (hv : IsS w v n k) : Pend w ((v, n, k) :: L) := fun x hx => by
  rcases List.mem_cons.1 hx with rfl | hx
  · exact hv
  · exact h x hx
theorem Pend.g0 {w : World} {L : List (Value × Int × Nat)} {v : Value} {n : Int} {k : Nat} (h : Pend w ((v, n, k) :: L)) : IsS w v n k := h _ (List.mem_cons_self ..)
theorem Pend.g1 {w : World} {L : List (Value × Int × Nat)} {x : Value × Int × Nat} {v : Value} {n : Int} {k : Nat} (h : Pend w (x :: (v, n, k) :: L)) : IsS w v n k := h (v, n, k) (by simp)
theorem Pend.g2 {w : World} {L : List (Value × Int × Nat)} {x y : Value × Int × Nat} {v : Value} {n : Int} {k : Nat} (h : Pend w (x :: y :: (v, n, k) :: L)) : IsS w v n k := h (v, n, k) (by simp)
theorem Pend.g3 {w : World} {L : List (Value × Int × Nat)} {x y z : Value × Int × Nat} {v : Value} {n : Int} {k : Nat} (h : Pend w (x :: y :: z :: (v, n, k) :: L)) : IsS w v n k := h (v, n, k) (by simp)
theorem Pend.d {w : World} {L : List (Value × Int × Nat)} (h : Pend w L) : Pend w.drew L := h.on (below_drew0 w)
theorem equal_yes (va vb : Value) (a b : Int) (j k : Nat) (w : World) (ha : IsS w va a j) (hb : IsS w vb b k) (h : a = b) : Calls Tryz.prog 62 #[va, vb] w fun e w' => e = .returned (.bool true) ∧ Below w.heap.size w w' :=
  (equal_law va vb a b w ha.1 hb.1).mono fun e w' h' => ⟨by rw [h'.1, decide_eq_true h], h'.2⟩
theorem cmp_is (va vb : Value) (a b K : Int) (j k : Nat) (w : World) (ha : IsS w va a j) (hb : IsS w vb b k) (hj : j ≤ 1024) (hk : k ≤ 1024) (h : cmpI a b = K) : Calls Tryz.prog 66 #[va, vb] w fun e w' => e = .returned (.int .i64 K) ∧ Below w.heap.size w w' :=
  h ▸ cmp_law va vb a b w ha.1 hb.1 (Nat.le_trans ha.2 hj) (Nat.le_trans hb.2 hk)
theorem sign_is (va : Value) (n K : Int) (k : Nat) (w : World) (ha : IsS w va n k) (hk : k ≤ 1024) (h : sgnI n = K) : Calls Tryz.prog 21 #[va] w fun e w' => e = .returned (.tuple #[.int .i64 K, .int .i64 0]) ∧ Below w.heap.size w w' := by
  have hs := wholeSign_any va _ _ w ha.1 (Nl.limbs_small _)
  rw [validI_of (Nat.le_trans ha.2 hk), sgn_val, h] at hs
  refine hs.mono ?_
  rintro e w' ⟨c, rfl, rfl, hb⟩
  exact ⟨rfl, hb⟩
theorem givenI_three {W : World} {s s' s'' : Bool} {p p' p'' : Option Addr} {l c l' c' l'' c'' : Nat} {xs ys zs : List Nat} (b : Nat) (hW : W.heap[b]? = some (.cells #[.bool s, .slice p l c, .bool s', .slice p' l' c', .bool s'', .slice p'' l'' c''] 25 (0, 0))) (h : At W (.slice p l c) xs) (h' : At W (.slice p' l' c') ys) (h'' : At W (.slice p'' l'' c'') zs) : GivenI W b [(s, .slice p l c, xs), (s', .slice p' l' c', ys), (s'', .slice p'' l'' c'', zs)] := by
  intro i hi
  have : i = 0 ∨ i = 1 ∨ i = 2 := by simp at hi; omega
  rcases this with rfl | rfl | rfl
  · exact ⟨cell_of_row _ _ 0 _ _ (0, 0) hW, cell_of_row _ _ 1 _ _ (0, 0) hW, h⟩
  · exact ⟨cell_of_row _ _ 2 _ _ (0, 0) hW, cell_of_row _ _ 3 _ _ (0, 0) hW, h'⟩
  · exact ⟨cell_of_row _ _ 4 _ _ (0, 0) hW, cell_of_row _ _ 5 _ _ (0, 0) hW, h''⟩
theorem fine_one {most : Nat} {s : Bool} {v : Value} {xs : List Nat} {w : World} (h : fineP most (s, v, xs) = true) (hat : At w v xs) (hs : Nl.Small xs) : ∃ n : Int, IsS w (.agg #[.bool s, v]) n most := by
  rw [fineP, Bool.and_eq_true] at h
  have ok := isI_of_ok hat hs h.2
  refine ⟨_, ok.1, ?_⟩
  have h1 := (validI_norm hs h.2).2.1
  rw [← h1]
  exact of_decide_eq_true h.1
theorem cmpI_bounds (a b : Int) : -1 ≤ cmpI a b ∧ cmpI a b ≤ 1 := by rw [cmpI]; split <;> (try split) <;> omega
theorem cmpI_turn (a b : Int) : cmpI b a = -cmpI a b := by rw [cmpI, cmpI]; split <;> split <;> (try split) <;> (try split) <;> omega
theorem cmpI_add (a b c : Int) : cmpI (a + c) (b + c) = cmpI a b := by rw [cmpI, cmpI]; split <;> split <;> (try split) <;> (try split) <;> omega
theorem cmpI_zero (a b : Int) : (cmpI a b == 0) = decide (a = b) := by
  by_cases h : a = b
  · rw [decide_eq_true h, beq_iff_eq, cmpI]; split <;> (try split) <;> omega
  · rw [decide_eq_false h, beq_eq_false_iff_ne, cmpI]; split <;> (try split) <;> omega
theorem cmpI_le (a b c : Int) (h1 : ¬ cmpI a b > 0) (h2 : ¬ cmpI b c > 0) : cmpI a c ≤ 0 := by
  rw [cmpI] at *; split at h1 <;> split at h2 <;> (try split at h1) <;> (try split at h2) <;> split <;> (try split) <;> omega

set_option maxRecDepth 10000 in
set_option maxHeartbeats 16000000 in
theorem wholeRing_any (va vb vc : Value) (sa sb sc : Bool) (xa xb xc : List Nat) (w : World) (ha : AtI w va sa xa) (hb : AtI w vb sb xb) (hc : AtI w vc sc xc) (ma : Nl.Small xa) (mb : Nl.Small xb) (mc : Nl.Small xc) :
    Calls Tryz.prog 10 #[va, vb, vc] w fun e w' => e = .returned (.bool true) ∧ Below w.heap.size w w' := by
  obtain ⟨pa, ca, rfl, ua⟩ := ha.form
  obtain ⟨la, hla⟩ : ∃ la, la = xa.length := ⟨_, rfl⟩
  rw [← hla] at ua ha ⊢
  obtain ⟨pb, cb, rfl, ub⟩ := hb.form
  obtain ⟨lb, hlb⟩ : ∃ lb, lb = xb.length := ⟨_, rfl⟩
  rw [← hlb] at ub hb ⊢
  obtain ⟨pc, cc, rfl, uc⟩ := hc.form
  obtain ⟨lc, hlc⟩ : ∃ lc, lc = xc.length := ⟨_, rfl⟩
  rw [← hlc] at uc hc ⊢
  obtain ⟨W, hW⟩ : ∃ W, W = ((w.alloc (.cells #[.bool sa, .slice pa la ca] 25)).alloc (.cells #[.bool sb, .slice pb lb cb] 25)).alloc (.cells #[.bool sc, .slice pc lc cc] 25) := ⟨_, rfl⟩
  have hbW : Below w.heap.size w W := by rw [hW]; exact three_new w _ _ _
  have Ba : W.heap[w.heap.size]? = some (.cells #[.bool sa, .slice pa la ca] 25 (0, 0)) := by rw [hW]; exact al_keep _ _ (by simp <;> omega) (al_keep _ _ (by simp <;> omega) (al_at _ _ (by simp)))
  have Aa := ua.below hbW
  have Bb : W.heap[w.heap.size + 1]? = some (.cells #[.bool sb, .slice pb lb cb] 25 (0, 0)) := by rw [hW]; exact al_keep _ _ (by simp <;> omega) (al_at _ _ (by simp))
  have Ab := ub.below hbW
  have Bc : W.heap[w.heap.size + 1 + 1]? = some (.cells #[.bool sc, .slice pc lc cc] 25 (0, 0)) := by rw [hW]; exact al_at _ _ (by simp)
  have Ac := uc.below hbW
  have HW := Lib.hid hbW
  have HR := Lib.hid (And.intro Ba (And.intro Bb Bc))
  have HU := Lib.hid (And.intro Aa (And.intro Ab Ac))
  have HM := Lib.hid (And.intro ma (And.intro mb mc))
  have HL := Lib.hid (And.intro hla (And.intro hlb hlc))
  have hr0 := Ba; have hr1 := Bb; have hr2 := Bc
  clear ha hb hc ua ub uc ma mb mc hla hlb hlc hbW Ba Bb Bc Aa Ab Ac hr0 hr1 hr2
  go_enter Tryz.func10, Tryz.ntmps10
  go_wp2_with fail
  rw [← hW]
  clear hW
  refine (awake_any W).mono ?_
  rintro e w1 ⟨rfl, hb1⟩
  have Ra := (hb1.block _ (lt_of_block HR.out.1)).trans HR.out.1
  have c0a := cell_of_row _ _ 0 _ _ (0, 0) Ra
  have c1a := cell_of_row _ _ 1 _ _ (0, 0) Ra
  simp only [List.getElem?_toArray, List.getElem?_cons_zero, List.getElem?_cons_succ] at c0a c1a
  have Rb := (hb1.block _ (lt_of_block HR.out.2.1)).trans HR.out.2.1
  have c0b := cell_of_row _ _ 0 _ _ (0, 0) Rb
  have c1b := cell_of_row _ _ 1 _ _ (0, 0) Rb
  simp only [List.getElem?_toArray, List.getElem?_cons_zero, List.getElem?_cons_succ] at c0b c1b
  have Rc := (hb1.block _ (lt_of_block HR.out.2.2)).trans HR.out.2.2
  have c0c := cell_of_row _ _ 0 _ _ (0, 0) Rc
  have c1c := cell_of_row _ _ 1 _ _ (0, 0) Rc
  simp only [List.getElem?_toArray, List.getElem?_cons_zero, List.getElem?_cons_succ] at c0c c1c
  obtain ⟨G, hG⟩ : ∃ G, G = w1.alloc (.cells #[.bool sa, .slice pa la ca, .bool sb, .slice pb lb cb, .bool sc, .slice pc lc cc] 25) := ⟨_, rfl⟩
  have hg : Below w1.heap.size w1 G := by rw [hG]; exact below_one _ _
  have RG : G.heap[w1.heap.size]? = some (.cells #[.bool sa, .slice pa la ca, .bool sb, .slice pb lb cb, .bool sc, .slice pc lc cc] 25 (0, 0)) := by rw [hG]; exact al_at _ _ rfl
  have hF := fine_law w1.heap.size 60 [(sa, Value.slice pa la ca, xa), (sb, Value.slice pb lb cb, xb), (sc, Value.slice pc lc cc, xc)] G (givenI_three w1.heap.size RG ((HU.out.1.below hb1).below hg) ((HU.out.2.1.below hb1).below hg) ((HU.out.2.2.below hb1).below hg)) (lt_of_block RG) (by simp)
  obtain ⟨fb, hfb⟩ : ∃ fb, fb = List.all [(sa, Value.slice pa la ca, xa), (sb, Value.slice pb lb cb, xb), (sc, Value.slice pc lc cc, xc)] (fineP 60) := ⟨_, rfl⟩
  rw [← hfb] at hF
  have HF := Lib.hid hF
  have HFB := Lib.hid hfb
  have HB1 := Lib.hid (hb1.trans (hg.mono hb1.size))
  clear hF hfb Ra Rb Rc RG hb1 hg
  go_wp2_with fail
  rw [← hG]
  clear hG
  refine HF.out.mono ?_
  rintro e w2 ⟨rfl, hb2⟩
  have hW2 := HB1.out.trans (hb2.mono HB1.out.size)
  clear c0a c1a c0b c1b c0c c1c HF HB1 hb2
  cases fb with
  | false =>
    go_wp2_with fail
    go_ret
    exact ⟨rfl, HW.out.trans (hW2.mono HW.out.size)⟩
  | true =>
    have hall := List.all_eq_true.1 HFB.out.symm
    obtain ⟨na, ka⟩ := fine_one (hall (sa, .slice pa la ca, xa) (by simp)) (HU.out.1.below hW2) HM.out.1
    have Va := Lib.hid (Kept.mk ((hW2.block _ (lt_of_block HR.out.1)).trans HR.out.1) ka.1)
    have La := Lib.hid ka.2
    obtain ⟨nb, kb⟩ := fine_one (hall (sb, .slice pb lb cb, xb) (by simp)) (HU.out.2.1.below hW2) HM.out.2.1
    have Vb := Lib.hid (Kept.mk ((hW2.block _ (lt_of_block HR.out.2.1)).trans HR.out.2.1) kb.1)
    have Lb := Lib.hid kb.2
    obtain ⟨nc, kc⟩ := fine_one (hall (sc, .slice pc lc cc, xc) (by simp)) (HU.out.2.2.below hW2) HM.out.2.2
    have Vc := Lib.hid (Kept.mk ((hW2.block _ (lt_of_block HR.out.2.2)).trans HR.out.2.2) kc.1)
    have Lc := Lib.hid kc.2
    have HB2 := Lib.hid (HW.out.trans (hW2.mono HW.out.size))
    clear hall ka kb kc hW2 HFB HR HU HM HL HW
    have c0a := Va.out.c0
    have c1a := Va.out.c1
    have HC3 := Lib.hid ((wNeg_fit _ na w2 Va.out.num (Nat.le_trans La.out (by decide)) : Calls _ _ _ w2 fun e w' => (∃ s p l c, e = .returned (.tuple #[.agg #[.bool s, .slice p l c], .int .i64 0]) ∧ IsI w' (.agg #[.bool s, .slice p l c]) (-na)) ∧ Below w2.heap.size w2 w'))
    go_wp2_with fail
    refine HC3.out.mono ?_
    rintro e w3 ⟨⟨sn, pn, ln, cn, rfl, hin⟩, hbx⟩
    obtain ⟨Z3, hZ3⟩ : ∃ Z3, Z3 = (w3.alloc (.cells #[.bool sn, .slice pn ln cn] 25)) := ⟨_, rfl⟩
    have hz : Below w3.heap.size w3 Z3 := by rw [hZ3]; exact below_one w3 _
    have Rn : Z3.heap[w3.heap.size]? = some (.cells #[.bool sn, .slice pn ln cn] 25 (0, 0)) := by rw [hZ3]; exact al_at _ _ (by simp)
    have In := hin.below hz
    have hs := hbx.trans (hz.mono hbx.size)
    clear hin hz
    clear hbx HC3
    have Ya := Lib.hid (Va.out.on hs)
    clear Va
    have Va := Ya
    clear Ya
    have Yb := Lib.hid (Vb.out.on hs)
    clear Vb
    have Vb := Yb
    clear Yb
    have Yc := Lib.hid (Vc.out.on hs)
    clear Vc
    have Vc := Yc
    clear Yc
    have Vn := Lib.hid (Kept.mk Rn In)
    clear Rn In
    have HB3 := Lib.hid (below_on HB2.out hs)
    clear hs
    clear HB2
    clear c0a c1a
    have HC4 := Lib.hid (fromInt_row 0 Z3 (by decide) (by decide))
    go_wp2_with fail
    rw [← hZ3]
    clear hZ3
    refine HC4.out.mono ?_
    rintro e w4 ⟨⟨sz, pz, lz, cz, rfl, hiz⟩, hbx⟩
    obtain ⟨Z4, hZ4⟩ : ∃ Z4, Z4 = (w4.alloc (.cells #[.bool sz, .slice pz lz cz] 25)) := ⟨_, rfl⟩
    have hz : Below w4.heap.size w4 Z4 := by rw [hZ4]; exact below_one w4 _
    have Rz : Z4.heap[w4.heap.size]? = some (.cells #[.bool sz, .slice pz lz cz] 25 (0, 0)) := by rw [hZ4]; exact al_at _ _ (by simp)
    have Iz := hiz.below hz
    have hs := hbx.trans (hz.mono hbx.size)
    clear hiz hz
    clear hbx HC4
    have Ya := Lib.hid (Va.out.on hs)
    clear Va
    have Va := Ya
    clear Ya
    have Yb := Lib.hid (Vb.out.on hs)
    clear Vb
    have Vb := Yb
    clear Yb
    have Yc := Lib.hid (Vc.out.on hs)
    clear Vc
    have Vc := Yc
    clear Yc
    have Yn := Lib.hid (Vn.out.on hs)
    clear Vn
    have Vn := Yn
    clear Yn
    have Vz := Lib.hid (Kept.mk Rz Iz)
    clear Rz Iz
    have HB4 := Lib.hid (below_on HB3.out hs)
    clear hs
    clear HB3
    have HC5 := Lib.hid (fromInt_row 1 Z4 (by decide) (by decide))
    go_wp2_with fail
    rw [← hZ4]
    clear hZ4
    refine HC5.out.mono ?_
    rintro e w5 ⟨⟨so, po, lo, co, rfl, hio⟩, hbx⟩
    obtain ⟨Z5, hZ5⟩ : ∃ Z5, Z5 = (w5.alloc (.cells #[.bool so, .slice po lo co] 25)) := ⟨_, rfl⟩
    have hz : Below w5.heap.size w5 Z5 := by rw [hZ5]; exact below_one w5 _
    have Ro : Z5.heap[w5.heap.size]? = some (.cells #[.bool so, .slice po lo co] 25 (0, 0)) := by rw [hZ5]; exact al_at _ _ (by simp)
    have Io := hio.below hz
    have hs := hbx.trans (hz.mono hbx.size)
    clear hio hz
    clear hbx HC5
    have Ya := Lib.hid (Va.out.on hs)
    clear Va
    have Va := Ya
    clear Ya
    have Yb := Lib.hid (Vb.out.on hs)
    clear Vb
    have Vb := Yb
    clear Yb
    have Yc := Lib.hid (Vc.out.on hs)
    clear Vc
    have Vc := Yc
    clear Yc
    have Yn := Lib.hid (Vn.out.on hs)
    clear Vn
    have Vn := Yn
    clear Yn
    have Yz := Lib.hid (Vz.out.on hs)
    clear Vz
    have Vz := Yz
    clear Yz
    have Vo := Lib.hid (Kept.mk Ro Io)
    clear Ro Io
    have HB5 := Lib.hid (below_on HB4.out hs)
    clear hs
    clear HB4
    have z0a : ∀ w', Below Z5.heap.size Z5 w' → w'.cell? ⟨w.heap.size, 0, none⟩ = some (.bool sa) := fun w' h => (Va.out.on h).c0
    have z1a : ∀ w', Below Z5.heap.size Z5 w' → w'.cell? ⟨w.heap.size, 1, none⟩ = some (.slice pa la ca) := fun w' h => (Va.out.on h).c1
    have Fa := Lib.hid (fun (w' : World) (h : Below Z5.heap.size Z5 w') => (⟨(Va.out.on h).num, La.out⟩ : IsS w' (Value.agg #[.bool sa, .slice pa la ca]) na 60))
    have z0b : ∀ w', Below Z5.heap.size Z5 w' → w'.cell? ⟨w.heap.size + 1, 0, none⟩ = some (.bool sb) := fun w' h => (Vb.out.on h).c0
    have z1b : ∀ w', Below Z5.heap.size Z5 w' → w'.cell? ⟨w.heap.size + 1, 1, none⟩ = some (.slice pb lb cb) := fun w' h => (Vb.out.on h).c1
    have Fb := Lib.hid (fun (w' : World) (h : Below Z5.heap.size Z5 w') => (⟨(Vb.out.on h).num, Lb.out⟩ : IsS w' (Value.agg #[.bool sb, .slice pb lb cb]) nb 60))
    have z0c : ∀ w', Below Z5.heap.size Z5 w' → w'.cell? ⟨w.heap.size + 1 + 1, 0, none⟩ = some (.bool sc) := fun w' h => (Vc.out.on h).c0
    have z1c : ∀ w', Below Z5.heap.size Z5 w' → w'.cell? ⟨w.heap.size + 1 + 1, 1, none⟩ = some (.slice pc lc cc) := fun w' h => (Vc.out.on h).c1
    have Fc := Lib.hid (fun (w' : World) (h : Below Z5.heap.size Z5 w') => (⟨(Vc.out.on h).num, Lc.out⟩ : IsS w' (Value.agg #[.bool sc, .slice pc lc cc]) nc 60))
    have z0n : ∀ w', Below Z5.heap.size Z5 w' → w'.cell? ⟨w3.heap.size, 0, none⟩ = some (.bool sn) := fun w' h => (Vn.out.on h).c0
    have z1n : ∀ w', Below Z5.heap.size Z5 w' → w'.cell? ⟨w3.heap.size, 1, none⟩ = some (.slice pn ln cn) := fun w' h => (Vn.out.on h).c1
    have Fn := Lib.hid (fun (w' : World) (h : Below Z5.heap.size Z5 w') => (⟨(Vn.out.on h).num, (by rw [show (-na).natAbs = na.natAbs by omega]; exact La.out)⟩ : IsS w' (Value.agg #[.bool sn, .slice pn ln cn]) (-na) 60))
    have z0z : ∀ w', Below Z5.heap.size Z5 w' → w'.cell? ⟨w4.heap.size, 0, none⟩ = some (.bool sz) := fun w' h => (Vz.out.on h).c0
    have z1z : ∀ w', Below Z5.heap.size Z5 w' → w'.cell? ⟨w4.heap.size, 1, none⟩ = some (.slice pz lz cz) := fun w' h => (Vz.out.on h).c1
    have Fz := Lib.hid (fun (w' : World) (h : Below Z5.heap.size Z5 w') => (⟨(Vz.out.on h).num, (by rw [show Nl.limbs (0 : Int).natAbs = [] from Nl.limbs_zero]; decide)⟩ : IsS w' (Value.agg #[.bool sz, .slice pz lz cz]) 0 1))
    have hrr : Below Z5.heap.size Z5 Z5 := Below.refl _ _
    have hp := Pend.nil Z5
    go_wp2_with fail
    rw [← hZ5]
    clear hZ5
    go_region_held3 (fun w' => Below Z5.heap.size Z5 w')
      (first
        | assumption
        | exact below_drew0 _
        | exact below_drew1 (by assumption))
      (first
        | (go_at_call 63; refine (add_law _ _ _ _ _ _ _ (by first | exact Fa.out _ (by assumption) | exact Fb.out _ (by assumption) | exact Fc.out _ (by assumption) | exact Fn.out _ (by assumption) | exact Fz.out _ (by assumption) | exact hp.g0 | exact hp.g1 | exact hp.g2 | exact hp.g3 | exact hp.d.g0 | exact hp.d.g1 | exact hp.d.g2 | exact hp.d.g3) (by first | exact Fa.out _ (by assumption) | exact Fb.out _ (by assumption) | exact Fc.out _ (by assumption) | exact Fn.out _ (by assumption) | exact Fz.out _ (by assumption) | exact hp.g0 | exact hp.g1 | exact hp.g2 | exact hp.g3 | exact hp.d.g0 | exact hp.d.g1 | exact hp.d.g2 | exact hp.d.g3) (by decide) (by decide) (by decide)).mono ?_; rintro e wr ⟨⟨t1, t2, t3, t4, rfl, hi⟩, hwr⟩; have hp := (show Pend wr _ from (by first | exact hp.on hwr | exact hp.d.on hwr)).push hi; have belR := below_on (D := Z5) (by assumption) hwr; clear hwr hi)
        | (go_at_call 64; refine (sub_law _ _ _ _ _ _ _ (by first | exact Fa.out _ (by assumption) | exact Fb.out _ (by assumption) | exact Fc.out _ (by assumption) | exact Fn.out _ (by assumption) | exact Fz.out _ (by assumption) | exact hp.g0 | exact hp.g1 | exact hp.g2 | exact hp.g3 | exact hp.d.g0 | exact hp.d.g1 | exact hp.d.g2 | exact hp.d.g3) (by first | exact Fa.out _ (by assumption) | exact Fb.out _ (by assumption) | exact Fc.out _ (by assumption) | exact Fn.out _ (by assumption) | exact Fz.out _ (by assumption) | exact hp.g0 | exact hp.g1 | exact hp.g2 | exact hp.g3 | exact hp.d.g0 | exact hp.d.g1 | exact hp.d.g2 | exact hp.d.g3) (by decide) (by decide) (by decide)).mono ?_; rintro e wr ⟨⟨t1, t2, t3, t4, rfl, hi⟩, hwr⟩; have hp := (show Pend wr _ from (by first | exact hp.on hwr | exact hp.d.on hwr)).push hi; have belR := below_on (D := Z5) (by assumption) hwr; clear hwr hi)
        | (go_at_call 62; refine (equal_yes _ _ _ _ _ _ _ (by first | exact Fa.out _ (by assumption) | exact Fb.out _ (by assumption) | exact Fc.out _ (by assumption) | exact Fn.out _ (by assumption) | exact Fz.out _ (by assumption) | exact hp.g0 | exact hp.g1 | exact hp.g2 | exact hp.g3 | exact hp.d.g0 | exact hp.d.g1 | exact hp.d.g2 | exact hp.d.g3) (by first | exact Fa.out _ (by assumption) | exact Fb.out _ (by assumption) | exact Fc.out _ (by assumption) | exact Fn.out _ (by assumption) | exact Fz.out _ (by assumption) | exact hp.g0 | exact hp.g1 | exact hp.g2 | exact hp.g3 | exact hp.d.g0 | exact hp.d.g1 | exact hp.d.g2 | exact hp.d.g3) (by first | omega | exact (Int.mul_assoc _ _ _).symm | exact Int.mul_comm _ _ | exact Int.mul_one _ | exact Int.mul_add _ _ _)).mono ?_; rintro e wr ⟨rfl, hwr⟩; have hp := Pend.nil wr; have belR := below_on (D := Z5) (by assumption) hwr; clear hwr))
    have hs : Below Z5.heap.size Z5 wr := by assumption
    have Ya := Lib.hid (Va.out.on hs)
    clear Va
    have Va := Ya
    clear Ya
    have Yb := Lib.hid (Vb.out.on hs)
    clear Vb
    have Vb := Yb
    clear Yb
    have Yc := Lib.hid (Vc.out.on hs)
    clear Vc
    have Vc := Yc
    clear Yc
    have Yn := Lib.hid (Vn.out.on hs)
    clear Vn
    have Vn := Yn
    clear Yn
    have Yz := Lib.hid (Vz.out.on hs)
    clear Vz
    have Vz := Yz
    clear Yz
    have Yo := Lib.hid (Vo.out.on hs)
    clear Vo
    have Vo := Yo
    clear Yo
    have HBa := Lib.hid (below_on HB5.out hs)
    clear hs
    clear z0a z1a Fa z0b z1b Fb z0c z1c Fc z0n z1n Fn z0z z1z Fz
    clear Vn Vz
    obtain ⟨D1, hD1⟩ : ∃ D1, D1 = wr := ⟨_, rfl⟩
    rw [← hD1] at Va Vb Vc Vo HBa ⊢
    clear hD1
    have z0a : ∀ w', Below D1.heap.size D1 w' → w'.cell? ⟨w.heap.size, 0, none⟩ = some (.bool sa) := fun w' h => (Va.out.on h).c0
    have z1a : ∀ w', Below D1.heap.size D1 w' → w'.cell? ⟨w.heap.size, 1, none⟩ = some (.slice pa la ca) := fun w' h => (Va.out.on h).c1
    have Fa := Lib.hid (fun (w' : World) (h : Below D1.heap.size D1 w') => (⟨(Va.out.on h).num, La.out⟩ : IsS w' (Value.agg #[.bool sa, .slice pa la ca]) na 60))
    have z0b : ∀ w', Below D1.heap.size D1 w' → w'.cell? ⟨w.heap.size + 1, 0, none⟩ = some (.bool sb) := fun w' h => (Vb.out.on h).c0
    have z1b : ∀ w', Below D1.heap.size D1 w' → w'.cell? ⟨w.heap.size + 1, 1, none⟩ = some (.slice pb lb cb) := fun w' h => (Vb.out.on h).c1
    have Fb := Lib.hid (fun (w' : World) (h : Below D1.heap.size D1 w') => (⟨(Vb.out.on h).num, Lb.out⟩ : IsS w' (Value.agg #[.bool sb, .slice pb lb cb]) nb 60))
    have z0c : ∀ w', Below D1.heap.size D1 w' → w'.cell? ⟨w.heap.size + 1 + 1, 0, none⟩ = some (.bool sc) := fun w' h => (Vc.out.on h).c0
    have z1c : ∀ w', Below D1.heap.size D1 w' → w'.cell? ⟨w.heap.size + 1 + 1, 1, none⟩ = some (.slice pc lc cc) := fun w' h => (Vc.out.on h).c1
    have Fc := Lib.hid (fun (w' : World) (h : Below D1.heap.size D1 w') => (⟨(Vc.out.on h).num, Lc.out⟩ : IsS w' (Value.agg #[.bool sc, .slice pc lc cc]) nc 60))
    have z0o : ∀ w', Below D1.heap.size D1 w' → w'.cell? ⟨w5.heap.size, 0, none⟩ = some (.bool so) := fun w' h => (Vo.out.on h).c0
    have z1o : ∀ w', Below D1.heap.size D1 w' → w'.cell? ⟨w5.heap.size, 1, none⟩ = some (.slice po lo co) := fun w' h => (Vo.out.on h).c1
    have Fo := Lib.hid (fun (w' : World) (h : Below D1.heap.size D1 w') => (⟨(Vo.out.on h).num, (by rw [show Nl.limbs (1 : Int).natAbs = [1] from limbs_one (by decide) (by decide)]; decide)⟩ : IsS w' (Value.agg #[.bool so, .slice po lo co]) 1 1))
    have hrr : Below D1.heap.size D1 D1 := Below.refl _ _
    have hp := Pend.nil D1
    go_wp2_with fail
    go_region_held3 (fun w' => Below D1.heap.size D1 w')
      (first
        | assumption
        | exact below_drew0 _
        | exact below_drew1 (by assumption))
      (first
        | (go_at_call 63; refine (add_law _ _ _ _ _ _ _ (by first | exact Fa.out _ (by assumption) | exact Fb.out _ (by assumption) | exact Fc.out _ (by assumption) | exact Fo.out _ (by assumption) | exact hp.g0 | exact hp.g1 | exact hp.g2 | exact hp.g3 | exact hp.d.g0 | exact hp.d.g1 | exact hp.d.g2 | exact hp.d.g3) (by first | exact Fa.out _ (by assumption) | exact Fb.out _ (by assumption) | exact Fc.out _ (by assumption) | exact Fo.out _ (by assumption) | exact hp.g0 | exact hp.g1 | exact hp.g2 | exact hp.g3 | exact hp.d.g0 | exact hp.d.g1 | exact hp.d.g2 | exact hp.d.g3) (by decide) (by decide) (by decide)).mono ?_; rintro e wr ⟨⟨t1, t2, t3, t4, rfl, hi⟩, hwr⟩; have hp := (show Pend wr _ from (by first | exact hp.on hwr | exact hp.d.on hwr)).push hi; have belR := below_on (D := D1) (by assumption) hwr; clear hwr hi)
        | (go_at_call 65; refine (mul_law _ _ _ _ _ _ _ (by first | exact Fa.out _ (by assumption) | exact Fb.out _ (by assumption) | exact Fc.out _ (by assumption) | exact Fo.out _ (by assumption) | exact hp.g0 | exact hp.g1 | exact hp.g2 | exact hp.g3 | exact hp.d.g0 | exact hp.d.g1 | exact hp.d.g2 | exact hp.d.g3) (by first | exact Fa.out _ (by assumption) | exact Fb.out _ (by assumption) | exact Fc.out _ (by assumption) | exact Fo.out _ (by assumption) | exact hp.g0 | exact hp.g1 | exact hp.g2 | exact hp.g3 | exact hp.d.g0 | exact hp.d.g1 | exact hp.d.g2 | exact hp.d.g3) (by decide) (by decide) (by decide)).mono ?_; rintro e wr ⟨⟨t1, t2, t3, t4, rfl, hi⟩, hwr⟩; have hp := (show Pend wr _ from (by first | exact hp.on hwr | exact hp.d.on hwr)).push hi; have belR := below_on (D := D1) (by assumption) hwr; clear hwr hi)
        | (go_at_call 62; refine (equal_yes _ _ _ _ _ _ _ (by first | exact Fa.out _ (by assumption) | exact Fb.out _ (by assumption) | exact Fc.out _ (by assumption) | exact Fo.out _ (by assumption) | exact hp.g0 | exact hp.g1 | exact hp.g2 | exact hp.g3 | exact hp.d.g0 | exact hp.d.g1 | exact hp.d.g2 | exact hp.d.g3) (by first | exact Fa.out _ (by assumption) | exact Fb.out _ (by assumption) | exact Fc.out _ (by assumption) | exact Fo.out _ (by assumption) | exact hp.g0 | exact hp.g1 | exact hp.g2 | exact hp.g3 | exact hp.d.g0 | exact hp.d.g1 | exact hp.d.g2 | exact hp.d.g3) (by first | omega | exact (Int.mul_assoc _ _ _).symm | exact Int.mul_comm _ _ | exact Int.mul_one _ | exact Int.mul_add _ _ _)).mono ?_; rintro e wr ⟨rfl, hwr⟩; have hp := Pend.nil wr; have belR := below_on (D := D1) (by assumption) hwr; clear hwr))
    have hs : Below D1.heap.size D1 wr := by assumption
    have Ya := Lib.hid (Va.out.on hs)
    clear Va
    have Va := Ya
    clear Ya
    have Yb := Lib.hid (Vb.out.on hs)
    clear Vb
    have Vb := Yb
    clear Yb
    have Yc := Lib.hid (Vc.out.on hs)
    clear Vc
    have Vc := Yc
    clear Yc
    have Yo := Lib.hid (Vo.out.on hs)
    clear Vo
    have Vo := Yo
    clear Yo
    have HBb := Lib.hid (below_on HBa.out hs)
    clear hs
    clear z0a z1a Fa z0b z1b Fb z0c z1c Fc z0o z1o Fo
    clear Vo
    obtain ⟨D2, hD2⟩ : ∃ D2, D2 = wr := ⟨_, rfl⟩
    rw [← hD2] at Va Vb Vc HBb ⊢
    clear hD2
    obtain ⟨K, hK⟩ : ∃ K, K = cmpI na nb := ⟨_, rfl⟩
    have hK1 : -1 ≤ K := by rw [hK]; exact (cmpI_bounds _ _).1
    have hK2 : K ≤ 1 := by rw [hK]; exact (cmpI_bounds _ _).2
    have HKK := Lib.hid hK
    clear hK
    have c0a := Va.out.c0
    have c1a := Va.out.c1
    have c0b := Vb.out.c0
    have c1b := Vb.out.c1
    have HC := Lib.hid (sub_law _ _ na nb 60 60 D2 ⟨Va.out.num, La.out⟩ ⟨Vb.out.num, Lb.out⟩ (by decide) (by decide) (by decide))
    go_wp2_with fail
    refine HC.out.mono ?_
    rintro e w6 ⟨⟨t1, t2, t3, t4, rfl, hi⟩, hb6⟩
    have HC2 := Lib.hid (sign_is _ (na - nb) K _ w6 hi (by decide) (by rw [HKK.out]; exact cmpI_sgn na nb))
    have hs6 := hb6
    clear hb6 hi HC c0a c1a c0b c1b
    go_wp2_with fail
    refine HC2.out.mono ?_
    rintro e w7 ⟨rfl, hb7⟩
    have hs := hs6.trans (hb7.mono hs6.size)
    clear hs6 hb7 HC2
    have Ya := Lib.hid (Va.out.on hs)
    clear Va
    have Va := Ya
    clear Ya
    have Yb := Lib.hid (Vb.out.on hs)
    clear Vb
    have Vb := Yb
    clear Yb
    have Yc := Lib.hid (Vc.out.on hs)
    clear Vc
    have Vc := Yc
    clear Yc
    have HBc := Lib.hid (below_on HBb.out hs)
    clear hs
    have c0a := Va.out.c0
    have c1a := Va.out.c1
    have c0b := Vb.out.c0
    have c1b := Vb.out.c1
    have HC := Lib.hid (cmp_is _ _ na nb K 60 60 w7 ⟨Va.out.num, La.out⟩ ⟨Vb.out.num, Lb.out⟩ (by decide) (by decide) HKK.out.symm)
    go_wp2_with fail
    refine HC.out.mono ?_
    rintro e w8 ⟨rfl, hb8⟩
    have hs := hb8
    clear hb8 HC c0a c1a c0b c1b
    have Ya := Lib.hid (Va.out.on hs)
    clear Va
    have Va := Ya
    clear Ya
    have Yb := Lib.hid (Vb.out.on hs)
    clear Vb
    have Vb := Yb
    clear Yb
    have Yc := Lib.hid (Vc.out.on hs)
    clear Vc
    have Vc := Yc
    clear Yc
    have HBd := Lib.hid (below_on HBc.out hs)
    clear hs
    by_cases q1 : K > 0
    · have d1 : decide (K > 0) = true := decide_eq_true q1
      have d1' : decide (0 < K) = true := decide_eq_true q1
      clear q1
      have z0a : ∀ w', Below w8.heap.size w8 w' → w'.cell? ⟨w.heap.size, 0, none⟩ = some (.bool sa) := fun w' h => (Va.out.on h).c0
      have z1a : ∀ w', Below w8.heap.size w8 w' → w'.cell? ⟨w.heap.size, 1, none⟩ = some (.slice pa la ca) := fun w' h => (Va.out.on h).c1
      have Fa := Lib.hid (fun (w' : World) (h : Below w8.heap.size w8 w') => (⟨(Va.out.on h).num, La.out⟩ : IsS w' (Value.agg #[.bool sa, .slice pa la ca]) na 60))
      have z0b : ∀ w', Below w8.heap.size w8 w' → w'.cell? ⟨w.heap.size + 1, 0, none⟩ = some (.bool sb) := fun w' h => (Vb.out.on h).c0
      have z1b : ∀ w', Below w8.heap.size w8 w' → w'.cell? ⟨w.heap.size + 1, 1, none⟩ = some (.slice pb lb cb) := fun w' h => (Vb.out.on h).c1
      have Fb := Lib.hid (fun (w' : World) (h : Below w8.heap.size w8 w') => (⟨(Vb.out.on h).num, Lb.out⟩ : IsS w' (Value.agg #[.bool sb, .slice pb lb cb]) nb 60))
      have z0c : ∀ w', Below w8.heap.size w8 w' → w'.cell? ⟨w.heap.size + 1 + 1, 0, none⟩ = some (.bool sc) := fun w' h => (Vc.out.on h).c0
      have z1c : ∀ w', Below w8.heap.size w8 w' → w'.cell? ⟨w.heap.size + 1 + 1, 1, none⟩ = some (.slice pc lc cc) := fun w' h => (Vc.out.on h).c1
      have Fc := Lib.hid (fun (w' : World) (h : Below w8.heap.size w8 w') => (⟨(Vc.out.on h).num, Lc.out⟩ : IsS w' (Value.agg #[.bool sc, .slice pc lc cc]) nc 60))
      have hrr : Below w8.heap.size w8 w8 := Below.refl _ _
      have hp := Pend.nil w8
      obtain ⟨EQ, hEQ⟩ : ∃ EQ, EQ = decide (na = nb) := ⟨_, rfl⟩
      have hKE : (K == 0) = EQ := by rw [HKK.out, hEQ]; exact cmpI_zero na nb
      have hEE : (EQ == EQ) = true := by simp
      have hKm : (-K == -K) = true := by simp
      have hKw : IntKind.i64.wrap (-K) = -K := by rw [IntKind.wrap_i64]; omega
      have hKv : wrap64 (-K) = -K := by unfold wrap64; omega
      have hKK : (K == K) = true := by simp
      have HEQ := Lib.hid hEQ
      clear hEQ
      go_wp2_with fail
      go_region_held3 (fun w' => Below w8.heap.size w8 w')
        (first
          | assumption
          | exact below_drew0 _
          | exact below_drew1 (by assumption))
        (first
          | (go_at_call_of 66 (Value.agg #[.bool sa, .slice pa la ca]); refine (cmp_is _ _ nb na (-K) 60 60 _ (Fb.out _ (by assumption)) (Fa.out _ (by assumption)) (by decide) (by decide) (by rw [HKK.out]; exact cmpI_turn na nb)).mono ?_; rintro e wr ⟨rfl, hwr⟩; have hp := Pend.nil wr; have belR := below_on (D := w8) (by assumption) hwr; clear hwr)
          | (go_at_call 66; refine (cmp_is _ _ (na + nc) (nb + nc) K _ _ _ (by first | exact hp.g1 | exact hp.d.g1) (by first | exact hp.g0 | exact hp.d.g0) (by decide) (by decide) (by rw [HKK.out]; exact cmpI_add na nb nc)).mono ?_; rintro e wr ⟨rfl, hwr⟩; have belR := below_on (D := w8) (by assumption) hwr; clear hwr)
          | (go_at_call 62; refine (equal_law _ _ na nb _ (Fa.out _ (by assumption)).1 (Fb.out _ (by assumption)).1).mono ?_; rintro e wr ⟨he, hwr⟩; rw [← HEQ.out] at he; subst he; have hp := Pend.nil wr; have belR := below_on (D := w8) (by assumption) hwr; clear hwr)
          | (go_at_call 63; refine (add_law _ _ _ _ _ _ _ (by first | exact Fa.out _ (by assumption) | exact Fb.out _ (by assumption) | exact Fc.out _ (by assumption) | exact hp.g0 | exact hp.g1 | exact hp.g2 | exact hp.g3 | exact hp.d.g0 | exact hp.d.g1 | exact hp.d.g2 | exact hp.d.g3) (by first | exact Fa.out _ (by assumption) | exact Fb.out _ (by assumption) | exact Fc.out _ (by assumption) | exact hp.g0 | exact hp.g1 | exact hp.g2 | exact hp.g3 | exact hp.d.g0 | exact hp.d.g1 | exact hp.d.g2 | exact hp.d.g3) (by decide) (by decide) (by decide)).mono ?_; rintro e wr ⟨⟨t1, t2, t3, t4, rfl, hi⟩, hwr⟩; have hp := (show Pend wr _ from (by first | exact hp.on hwr | exact hp.d.on hwr)).push hi; have belR := below_on (D := w8) (by assumption) hwr; clear hwr hi))
      all_goals (try (go_wp2_with fail))
      all_goals (try go_ret)
      all_goals (exact ⟨rfl, HBd.out.trans (Below.mono (by assumption) HBd.out.size)⟩)
    · obtain ⟨K2, hK2'⟩ : ∃ K2, K2 = cmpI nb nc := ⟨_, rfl⟩
      have HK2 := Lib.hid hK2'
      have d1 : decide (K > 0) = false := decide_eq_false q1
      have d1' : decide (0 < K) = false := decide_eq_false q1
      have HQ1 := Lib.hid q1
      clear q1 hK2'
      by_cases q2 : K2 > 0
      · have d2 : decide (K2 > 0) = true := decide_eq_true q2
        have d2' : decide (0 < K2) = true := decide_eq_true q2
        clear q2
        have c0b := Vb.out.c0
        have c1b := Vb.out.c1
        have c0c := Vc.out.c0
        have c1c := Vc.out.c1
        have HC := Lib.hid (cmp_is _ _ nb nc K2 60 60 w8 ⟨Vb.out.num, Lb.out⟩ ⟨Vc.out.num, Lc.out⟩ (by decide) (by decide) HK2.out.symm)
        go_wp2_with fail
        refine HC.out.mono ?_
        rintro e w9 ⟨rfl, hbx⟩
        have hs := hbx
        clear hbx HC c0b c1b c0c c1c
        have Ya := Lib.hid (Va.out.on hs)
        clear Va
        have Va := Ya
        clear Ya
        have Yb := Lib.hid (Vb.out.on hs)
        clear Vb
        have Vb := Yb
        clear Yb
        have Yc := Lib.hid (Vc.out.on hs)
        clear Vc
        have Vc := Yc
        clear Yc
        have HBe := Lib.hid (below_on HBd.out hs)
        clear hs
        have z0a : ∀ w', Below w9.heap.size w9 w' → w'.cell? ⟨w.heap.size, 0, none⟩ = some (.bool sa) := fun w' h => (Va.out.on h).c0
        have z1a : ∀ w', Below w9.heap.size w9 w' → w'.cell? ⟨w.heap.size, 1, none⟩ = some (.slice pa la ca) := fun w' h => (Va.out.on h).c1
        have Fa := Lib.hid (fun (w' : World) (h : Below w9.heap.size w9 w') => (⟨(Va.out.on h).num, La.out⟩ : IsS w' (Value.agg #[.bool sa, .slice pa la ca]) na 60))
        have z0b : ∀ w', Below w9.heap.size w9 w' → w'.cell? ⟨w.heap.size + 1, 0, none⟩ = some (.bool sb) := fun w' h => (Vb.out.on h).c0
        have z1b : ∀ w', Below w9.heap.size w9 w' → w'.cell? ⟨w.heap.size + 1, 1, none⟩ = some (.slice pb lb cb) := fun w' h => (Vb.out.on h).c1
        have Fb := Lib.hid (fun (w' : World) (h : Below w9.heap.size w9 w') => (⟨(Vb.out.on h).num, Lb.out⟩ : IsS w' (Value.agg #[.bool sb, .slice pb lb cb]) nb 60))
        have z0c : ∀ w', Below w9.heap.size w9 w' → w'.cell? ⟨w.heap.size + 1 + 1, 0, none⟩ = some (.bool sc) := fun w' h => (Vc.out.on h).c0
        have z1c : ∀ w', Below w9.heap.size w9 w' → w'.cell? ⟨w.heap.size + 1 + 1, 1, none⟩ = some (.slice pc lc cc) := fun w' h => (Vc.out.on h).c1
        have Fc := Lib.hid (fun (w' : World) (h : Below w9.heap.size w9 w') => (⟨(Vc.out.on h).num, Lc.out⟩ : IsS w' (Value.agg #[.bool sc, .slice pc lc cc]) nc 60))
        have hrr : Below w9.heap.size w9 w9 := Below.refl _ _
        have hp := Pend.nil w9
        obtain ⟨EQ, hEQ⟩ : ∃ EQ, EQ = decide (na = nb) := ⟨_, rfl⟩
        have hKE : (K == 0) = EQ := by rw [HKK.out, hEQ]; exact cmpI_zero na nb
        have hEE : (EQ == EQ) = true := by simp
        have hKm : (-K == -K) = true := by simp
        have hKw : IntKind.i64.wrap (-K) = -K := by rw [IntKind.wrap_i64]; omega
        have hKv : wrap64 (-K) = -K := by unfold wrap64; omega
        have hKK : (K == K) = true := by simp
        have HEQ := Lib.hid hEQ
        clear hEQ
        go_wp2_with fail
        go_region_held3 (fun w' => Below w9.heap.size w9 w')
          (first
            | assumption
            | exact below_drew0 _
            | exact below_drew1 (by assumption))
          (first
            | (go_at_call_of 66 (Value.agg #[.bool sa, .slice pa la ca]); refine (cmp_is _ _ nb na (-K) 60 60 _ (Fb.out _ (by assumption)) (Fa.out _ (by assumption)) (by decide) (by decide) (by rw [HKK.out]; exact cmpI_turn na nb)).mono ?_; rintro e wr ⟨rfl, hwr⟩; have hp := Pend.nil wr; have belR := below_on (D := w9) (by assumption) hwr; clear hwr)
            | (go_at_call 66; refine (cmp_is _ _ (na + nc) (nb + nc) K _ _ _ (by first | exact hp.g1 | exact hp.d.g1) (by first | exact hp.g0 | exact hp.d.g0) (by decide) (by decide) (by rw [HKK.out]; exact cmpI_add na nb nc)).mono ?_; rintro e wr ⟨rfl, hwr⟩; have belR := below_on (D := w9) (by assumption) hwr; clear hwr)
            | (go_at_call 62; refine (equal_law _ _ na nb _ (Fa.out _ (by assumption)).1 (Fb.out _ (by assumption)).1).mono ?_; rintro e wr ⟨he, hwr⟩; rw [← HEQ.out] at he; subst he; have hp := Pend.nil wr; have belR := below_on (D := w9) (by assumption) hwr; clear hwr)
            | (go_at_call 63; refine (add_law _ _ _ _ _ _ _ (by first | exact Fa.out _ (by assumption) | exact Fb.out _ (by assumption) | exact Fc.out _ (by assumption) | exact hp.g0 | exact hp.g1 | exact hp.g2 | exact hp.g3 | exact hp.d.g0 | exact hp.d.g1 | exact hp.d.g2 | exact hp.d.g3) (by first | exact Fa.out _ (by assumption) | exact Fb.out _ (by assumption) | exact Fc.out _ (by assumption) | exact hp.g0 | exact hp.g1 | exact hp.g2 | exact hp.g3 | exact hp.d.g0 | exact hp.d.g1 | exact hp.d.g2 | exact hp.d.g3) (by decide) (by decide) (by decide)).mono ?_; rintro e wr ⟨⟨t1, t2, t3, t4, rfl, hi⟩, hwr⟩; have hp := (show Pend wr _ from (by first | exact hp.on hwr | exact hp.d.on hwr)).push hi; have belR := below_on (D := w9) (by assumption) hwr; clear hwr hi))
        all_goals (try (go_wp2_with fail))
        all_goals (try go_ret)
        all_goals (exact ⟨rfl, HBe.out.trans (Below.mono (by assumption) HBe.out.size)⟩)
      · obtain ⟨K3, hK3'⟩ : ∃ K3, K3 = cmpI na nc := ⟨_, rfl⟩
        have HK3 := Lib.hid hK3'
        have d2 : decide (K2 > 0) = false := decide_eq_false q2
        have d2' : decide (0 < K2) = false := decide_eq_false q2
        have d3 : decide (K3 ≤ 0) = true := decide_eq_true (by rw [hK3']; exact cmpI_le na nb nc (by rw [← HKK.out]; exact HQ1.out) (by rw [← HK2.out]; exact q2))
        clear q2 hK3'
        have c0b := Vb.out.c0
        have c1b := Vb.out.c1
        have c0c := Vc.out.c0
        have c1c := Vc.out.c1
        have HC := Lib.hid (cmp_is _ _ nb nc K2 60 60 w8 ⟨Vb.out.num, Lb.out⟩ ⟨Vc.out.num, Lc.out⟩ (by decide) (by decide) HK2.out.symm)
        go_wp2_with fail
        refine HC.out.mono ?_
        rintro e w9 ⟨rfl, hbx⟩
        have hs := hbx
        clear hbx HC c0b c1b c0c c1c
        have Ya := Lib.hid (Va.out.on hs)
        clear Va
        have Va := Ya
        clear Ya
        have Yb := Lib.hid (Vb.out.on hs)
        clear Vb
        have Vb := Yb
        clear Yb
        have Yc := Lib.hid (Vc.out.on hs)
        clear Vc
        have Vc := Yc
        clear Yc
        have HBe := Lib.hid (below_on HBd.out hs)
        clear hs
        have c0a := Va.out.c0
        have c1a := Va.out.c1
        have c0c := Vc.out.c0
        have c1c := Vc.out.c1
        have HC := Lib.hid (cmp_is _ _ na nc K3 60 60 w9 ⟨Va.out.num, La.out⟩ ⟨Vc.out.num, Lc.out⟩ (by decide) (by decide) HK3.out.symm)
        go_wp2_with fail
        refine HC.out.mono ?_
        rintro e w10 ⟨rfl, hbx⟩
        have hs := hbx
        clear hbx HC c0a c1a c0c c1c
        have Ya := Lib.hid (Va.out.on hs)
        clear Va
        have Va := Ya
        clear Ya
        have Yb := Lib.hid (Vb.out.on hs)
        clear Vb
        have Vb := Yb
        clear Yb
        have Yc := Lib.hid (Vc.out.on hs)
        clear Vc
        have Vc := Yc
        clear Yc
        have HBf := Lib.hid (below_on HBe.out hs)
        clear hs
        have z0a : ∀ w', Below w10.heap.size w10 w' → w'.cell? ⟨w.heap.size, 0, none⟩ = some (.bool sa) := fun w' h => (Va.out.on h).c0
        have z1a : ∀ w', Below w10.heap.size w10 w' → w'.cell? ⟨w.heap.size, 1, none⟩ = some (.slice pa la ca) := fun w' h => (Va.out.on h).c1
        have Fa := Lib.hid (fun (w' : World) (h : Below w10.heap.size w10 w') => (⟨(Va.out.on h).num, La.out⟩ : IsS w' (Value.agg #[.bool sa, .slice pa la ca]) na 60))
        have z0b : ∀ w', Below w10.heap.size w10 w' → w'.cell? ⟨w.heap.size + 1, 0, none⟩ = some (.bool sb) := fun w' h => (Vb.out.on h).c0
        have z1b : ∀ w', Below w10.heap.size w10 w' → w'.cell? ⟨w.heap.size + 1, 1, none⟩ = some (.slice pb lb cb) := fun w' h => (Vb.out.on h).c1
        have Fb := Lib.hid (fun (w' : World) (h : Below w10.heap.size w10 w') => (⟨(Vb.out.on h).num, Lb.out⟩ : IsS w' (Value.agg #[.bool sb, .slice pb lb cb]) nb 60))
        have z0c : ∀ w', Below w10.heap.size w10 w' → w'.cell? ⟨w.heap.size + 1 + 1, 0, none⟩ = some (.bool sc) := fun w' h => (Vc.out.on h).c0
        have z1c : ∀ w', Below w10.heap.size w10 w' → w'.cell? ⟨w.heap.size + 1 + 1, 1, none⟩ = some (.slice pc lc cc) := fun w' h => (Vc.out.on h).c1
        have Fc := Lib.hid (fun (w' : World) (h : Below w10.heap.size w10 w') => (⟨(Vc.out.on h).num, Lc.out⟩ : IsS w' (Value.agg #[.bool sc, .slice pc lc cc]) nc 60))
        have hrr : Below w10.heap.size w10 w10 := Below.refl _ _
        have hp := Pend.nil w10
        obtain ⟨EQ, hEQ⟩ : ∃ EQ, EQ = decide (na = nb) := ⟨_, rfl⟩
        have hKE : (K == 0) = EQ := by rw [HKK.out, hEQ]; exact cmpI_zero na nb
        have hEE : (EQ == EQ) = true := by simp
        have hKm : (-K == -K) = true := by simp
        have hKw : IntKind.i64.wrap (-K) = -K := by rw [IntKind.wrap_i64]; omega
        have hKv : wrap64 (-K) = -K := by unfold wrap64; omega
        have hKK : (K == K) = true := by simp
        have HEQ := Lib.hid hEQ
        clear hEQ
        go_wp2_with fail
        go_region_held3 (fun w' => Below w10.heap.size w10 w')
          (first
            | assumption
            | exact below_drew0 _
            | exact below_drew1 (by assumption))
          (first
            | (go_at_call_of 66 (Value.agg #[.bool sa, .slice pa la ca]); refine (cmp_is _ _ nb na (-K) 60 60 _ (Fb.out _ (by assumption)) (Fa.out _ (by assumption)) (by decide) (by decide) (by rw [HKK.out]; exact cmpI_turn na nb)).mono ?_; rintro e wr ⟨rfl, hwr⟩; have hp := Pend.nil wr; have belR := below_on (D := w10) (by assumption) hwr; clear hwr)
            | (go_at_call 66; refine (cmp_is _ _ (na + nc) (nb + nc) K _ _ _ (by first | exact hp.g1 | exact hp.d.g1) (by first | exact hp.g0 | exact hp.d.g0) (by decide) (by decide) (by rw [HKK.out]; exact cmpI_add na nb nc)).mono ?_; rintro e wr ⟨rfl, hwr⟩; have belR := below_on (D := w10) (by assumption) hwr; clear hwr)
            | (go_at_call 62; refine (equal_law _ _ na nb _ (Fa.out _ (by assumption)).1 (Fb.out _ (by assumption)).1).mono ?_; rintro e wr ⟨he, hwr⟩; rw [← HEQ.out] at he; subst he; have hp := Pend.nil wr; have belR := below_on (D := w10) (by assumption) hwr; clear hwr)
            | (go_at_call 63; refine (add_law _ _ _ _ _ _ _ (by first | exact Fa.out _ (by assumption) | exact Fb.out _ (by assumption) | exact Fc.out _ (by assumption) | exact hp.g0 | exact hp.g1 | exact hp.g2 | exact hp.g3 | exact hp.d.g0 | exact hp.d.g1 | exact hp.d.g2 | exact hp.d.g3) (by first | exact Fa.out _ (by assumption) | exact Fb.out _ (by assumption) | exact Fc.out _ (by assumption) | exact hp.g0 | exact hp.g1 | exact hp.g2 | exact hp.g3 | exact hp.d.g0 | exact hp.d.g1 | exact hp.d.g2 | exact hp.d.g3) (by decide) (by decide) (by decide)).mono ?_; rintro e wr ⟨⟨t1, t2, t3, t4, rfl, hi⟩, hwr⟩; have hp := (show Pend wr _ from (by first | exact hp.on hwr | exact hp.d.on hwr)).push hi; have belR := below_on (D := w10) (by assumption) hwr; clear hwr hi))
        all_goals (try (go_wp2_with fail))
        all_goals (try go_ret)
        all_goals (exact ⟨rfl, HBf.out.trans (Below.mono (by assumption) HBf.out.size)⟩)
end Go.Proofs.YtodjncohhgknlaaGreat
