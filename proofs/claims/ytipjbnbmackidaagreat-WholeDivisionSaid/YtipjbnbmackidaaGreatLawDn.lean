/-
  WholeDivision returns true for any two integers. Written by wip/tool/genlawdn.py. Conditions: those that each theorem names.
-/
import Derived.Test.YtipjbnbmackidaaGreatLawRingAll
namespace Go.Proofs.YtipjbnbmackidaaGreat
open Go.RowKit

theorem wDivL (va vb : Value) (a b h : Int) (how : Nat) (hh : h = (how : Int)) (w : World) (ha : IsI w va a) (hb : IsI w vb b) (la : (Nl.limbs a.natAbs).length ≤ 900) (lb : (Nl.limbs b.natAbs).length ≤ 900) (hb0 : b ≠ 0) (h1 : 1 ≤ how) (h4 : how ≤ 4) :
    Calls Tryz.prog 39 #[va, vb, .int .i64 h] w fun e w' => (∃ s p l c s' p' l' c', e = .returned (.tuple #[.agg #[.bool s, .slice p l c], .agg #[.bool s', .slice p' l' c'], .int .i64 0]) ∧ IsI w' (.agg #[.bool s, .slice p l c]) (divQ how a b) ∧ IsI w' (.agg #[.bool s', .slice p' l' c']) (divR how a b)) ∧ Below w.heap.size w w' :=
  hh ▸ wDivN va vb a b how w ha hb la lb hb0 h1 h4
theorem cmp_less {a b : Int} (h : a < b) : cmpI a b = -1 := by rw [cmpI, if_pos h]
/-- one of the two quotients -/
def TwoQ (a b n : Int) : Prop := n = sgn (negB a != negB b) (a.natAbs / b.natAbs) ∨ n = sgn (negB a != negB b) (a.natAbs / b.natAbs + 1)
/-- what holds at the head of the loop -/
structure DnInv (w wr : World) (gL gM gS : Nat) (sa : Bool) (pa : Option Addr) (la ca : Nat) (na : Int) (sb : Bool) (pb : Option Addr) (lb cb : Nat) (nb j : Int) : Prop where
  below : Below w.heap.size w wr
  a : Kept wr w.heap.size sa pa la ca na
  b : Kept wr (w.heap.size + 1) sb pb lb cb nb
  z : Kept wr gS false pb lb cb (nb.natAbs : Int)
  l : ∃ s p l c n, Kept wr gL s p l c n ∧ (Nl.limbs n.natAbs).length ≤ 61 ∧ (2 ≤ j → TwoQ na nb n)
  m : ∃ s p l c n, Kept wr gM s p l c n ∧ (Nl.limbs n.natAbs).length ≤ 61 ∧ (2 ≤ j → TwoQ na nb n)
theorem Kept.store {w : World} {g h : Nat} {s t u : Bool} {p q r : Option Addr} {l c m d m' d' : Nat} {n : Int} (x : Kept w g s p l c n) (hg : ¬ g = h) (row : w.heap[h]? = some (.cells #[.bool t, .slice q m d] 25 (0, 0))) :
    Kept ((w.setCell ⟨h, 0, none⟩ (.bool u)).setCell ⟨h, 1, none⟩ (.slice r m' d')) g s p l c n :=
  ⟨by rw [Below.heap_setCell _ ⟨h, 1, none⟩ _ _ hg, Below.heap_setCell _ ⟨h, 0, none⟩ _ _ hg]; exact x.row, (by
    obtain ⟨v, e, hv⟩ := x.num
    exact ⟨v, e, at_ibox _ _ hv row⟩)⟩
theorem Kept.put {w : World} {g h : Nat} {s t : Bool} {p q : Option Addr} {l c m d : Nat} {n : Int} (x : Kept w g s p l c n) (row : w.heap[h]? = some (.cells #[.bool t, .slice q m d] 25 (0, 0))) :
    Kept ((w.setCell ⟨h, 0, none⟩ (.bool s)).setCell ⟨h, 1, none⟩ (.slice p l c)) h s p l c n :=
  ⟨ibox_set _ _ row, (by
    obtain ⟨v, e, hv⟩ := x.num
    exact ⟨v, e, at_ibox _ _ hv row⟩)⟩
theorem abs_isS {w : World} {s : Bool} {p : Option Addr} {l c : Nat} {n : Int} {k : Nat} (h : IsS w (.agg #[.bool s, .slice p l c]) n k) : IsS w (.agg #[.bool false, .slice p l c]) (n.natAbs : Int) k := ⟨abs_isI h.1, by rw [show ((n.natAbs : Int)).natAbs = n.natAbs by omega]; exact h.2⟩
/-- the lowest word of an even number -/
theorem limb_zero {w : World} {s : Bool} {p : Option Addr} {l c : Nat} {n : Int} (h : IsI w (.agg #[.bool s, .slice p l c]) n) (he : n.natAbs % 2 = 0) (hl : 0 < l) : ∃ b f x, p = some ⟨b, f, none⟩ ∧ w.cell? ⟨b, f, none⟩ = some (.int .u32 ((x : Nat) : Int)) ∧ x % 2 = 0 := by
  have h1 := (isI_sign h).2
  have hs := (isI_sign h).1
  rw [hs] at h
  have h2 := at_of (show AtI w (.agg #[.bool (negB n), .slice p l c]) (negB n) (Nl.limbs n.natAbs) from h)
  obtain ⟨b, f, rfl, -, hc⟩ := h2.cells (by omega)
  have h3 := hc 0 (by omega)
  rw [Nat.add_zero] at h3
  refine ⟨b, f, _, rfl, h3, ?_⟩
  have h4 : n.natAbs ≠ 0 := fun h0 => by rw [h0, Nl.limbs_zero] at h1; exact absurd h1 (by simp; omega)
  rw [Nl.limbs_pos h4]
  show n.natAbs % 4294967296 % 2 = 0
  omega

set_option maxRecDepth 10000 in
set_option maxHeartbeats 32000000 in
theorem wholeDivision_any (va vb : Value) (sa sb : Bool) (xa xb : List Nat) (w : World) (ha : AtI w va sa xa) (hb : AtI w vb sb xb) (ma : Nl.Small xa) (mb : Nl.Small xb) :
    Calls Tryz.prog 11 #[va, vb] w fun e w' => e = .returned (.bool true) ∧ Below w.heap.size w w' := by
  obtain ⟨pa, ca, rfl, ua⟩ := ha.form
  obtain ⟨la, hla⟩ : ∃ la, la = xa.length := ⟨_, rfl⟩
  rw [← hla] at ua ha ⊢
  obtain ⟨pb, cb, rfl, ub⟩ := hb.form
  obtain ⟨lb, hlb⟩ : ∃ lb, lb = xb.length := ⟨_, rfl⟩
  rw [← hlb] at ub hb ⊢
  obtain ⟨W, hW⟩ : ∃ W, W = (w.alloc (.cells #[.bool sa, .slice pa la ca] 25)).alloc (.cells #[.bool sb, .slice pb lb cb] 25) := ⟨_, rfl⟩
  have hbW : Below w.heap.size w W := by rw [hW]; exact two_new w _ _
  have Ba : W.heap[w.heap.size]? = some (.cells #[.bool sa, .slice pa la ca] 25 (0, 0)) := by rw [hW]; exact heap_alloc2_old w _ _
  have Bb : W.heap[w.heap.size + 1]? = some (.cells #[.bool sb, .slice pb lb cb] 25 (0, 0)) := by rw [hW]; exact heap_alloc2_new w _ _
  have HW := Lib.hid hbW
  have HR := Lib.hid (And.intro Ba Bb)
  have HU := Lib.hid (And.intro (ua.below hbW) (ub.below hbW))
  have HM := Lib.hid (And.intro ma mb)
  have HLB := Lib.hid hlb
  clear ha hb ua ub ma mb hla hlb hbW Ba Bb
  go_enter Tryz.func11, Tryz.ntmps11
  go_wp2_with fail
  rw [← hW]
  clear hW
  refine (awake_any W).mono ?_
  rintro e w1 ⟨rfl, hb1⟩
  have Ra := (hb1.block _ (lt_of_block HR.out.1)).trans HR.out.1
  have c0a := cell_of_row _ _ 0 _ _ (0, 0) Ra
  have c1a := cell_of_row _ _ 1 _ _ (0, 0) Ra
  simp only [List.getElem?_toArray, List.getElem?_cons_zero, List.getElem?_cons_succ] at c0a c1a
  have Rb := (hb1.block _ (lt_of_block HR.out.2)).trans HR.out.2
  have c0b := cell_of_row _ _ 0 _ _ (0, 0) Rb
  have c1b := cell_of_row _ _ 1 _ _ (0, 0) Rb
  simp only [List.getElem?_toArray, List.getElem?_cons_zero, List.getElem?_cons_succ] at c0b c1b
  obtain ⟨G, hG⟩ : ∃ G, G = w1.alloc (.cells #[.bool sa, .slice pa la ca, .bool sb, .slice pb lb cb] 25) := ⟨_, rfl⟩
  have hg : Below w1.heap.size w1 G := by rw [hG]; exact below_one _ _
  have RG : G.heap[w1.heap.size]? = some (.cells #[.bool sa, .slice pa la ca, .bool sb, .slice pb lb cb] 25 (0, 0)) := by rw [hG]; exact al_at _ _ rfl
  have hF := fine_law w1.heap.size 60 [(sa, Value.slice pa la ca, xa), (sb, Value.slice pb lb cb, xb)] G (givenI_two w1.heap.size RG ((HU.out.1.below hb1).below hg) ((HU.out.2.below hb1).below hg)) (lt_of_block RG) (by simp)
  obtain ⟨fb, hfb⟩ : ∃ fb, fb = List.all [(sa, Value.slice pa la ca, xa), (sb, Value.slice pb lb cb, xb)] (fineP 60) := ⟨_, rfl⟩
  rw [← hfb] at hF
  have HF := Lib.hid hF
  have HFB := Lib.hid hfb
  have HB1 := Lib.hid (hb1.trans (hg.mono hb1.size))
  clear hF hfb Ra Rb RG hb1 hg
  go_wp2_with fail
  rw [← hG]
  clear hG
  refine HF.out.mono ?_
  rintro e w2 ⟨rfl, hb2⟩
  have hW2 := HB1.out.trans (hb2.mono HB1.out.size)
  clear c0a c1a c0b c1b HF HB1 hb2
  cases fb with
  | false =>
    go_wp2_with fail
    go_ret
    exact ⟨rfl, HW.out.trans (hW2.mono HW.out.size)⟩
  | true =>
    have hall := List.all_eq_true.1 HFB.out.symm
    obtain ⟨na, ka⟩ := fine_one (hall (sa, .slice pa la ca, xa) (by simp)) (HU.out.1.below hW2) HM.out.1
    have Va := Lib.hid (Kept.mk ((hW2.block _ (lt_of_block HR.out.1)).trans HR.out.1) ka.1)
    have La := Lib.hid ka.2
    obtain ⟨nb, kb⟩ := fine_one (hall (sb, .slice pb lb cb, xb) (by simp)) (HU.out.2.below hW2) HM.out.2
    have Vb := Lib.hid (Kept.mk ((hW2.block _ (lt_of_block HR.out.2)).trans HR.out.2) kb.1)
    have Lb := Lib.hid kb.2
    have HB2 := Lib.hid (HW.out.trans (hW2.mono HW.out.size))
    clear hall ka kb hW2 HFB HR HU HM HW HLB
    have Vb0 := Vb
    have c1b := Vb.out.c1
    have c0b := Vb.out.c0
    have hsgb := isI_sign Vb.out.num
    by_cases hl0 : lb = 0
    · subst hl0
      clear hsgb
      go_wp2_with fail
      go_ret
      exact ⟨rfl, HB2.out⟩
    · have hnb : nb ≠ 0 := fun h => hl0 (by rw [hsgb.2, h]; show (Nl.limbs 0).length = 0; rw [Nl.limbs_zero]; rfl)
      have HNB := Lib.hid hnb
      have e0 : ((lb : Int) == 0) = false := by rw [beq_eq_false_iff_ne]; omega
      clear hsgb hnb hl0
      have HC1 := Lib.hid (fromInt_row 0 w2 (by decide) (by decide))
      go_wp2_with fail
      refine HC1.out.mono ?_
      rintro e w3 ⟨⟨sl, pl, ll, cl, rfl, hil⟩, hbx⟩
      obtain ⟨Z3, hZ3⟩ : ∃ Z3, Z3 = w3.alloc (.cells #[.bool sl, .slice pl ll cl] 25) := ⟨_, rfl⟩
      have hz : Below w3.heap.size w3 Z3 := by rw [hZ3]; exact below_one _ _
      have Rl : Z3.heap[w3.heap.size]? = some (.cells #[.bool sl, .slice pl ll cl] 25 (0, 0)) := by rw [hZ3]; exact al_at _ _ rfl
      have Vl := Lib.hid (Kept.mk Rl (AtI.below hil hz))
      have hs := hbx.trans (hz.mono hbx.size)
      have Ya := Lib.hid (Va.out.on hs)
      clear Va
      have Va := Ya
      clear Ya
      have Yb := Lib.hid (Vb.out.on hs)
      clear Vb
      have Vb := Yb
      clear Yb
      have HGL := Lib.hid (show w.heap.size + 1 < w3.heap.size from Nat.lt_of_lt_of_le (lt_of_block (show w2.heap[w.heap.size + 1]? = _ from Vb0.out.row)) hbx.size)
      have HB3 := Lib.hid (HB2.out.trans (hs.mono HB2.out.size))
      clear hbx hz hil Rl hs HC1 c1b c0b HB2 Vb0
      have HC2 := Lib.hid (fromInt_row 0 Z3 (by decide) (by decide))
      go_wp2_with fail
      rw [← hZ3]
      clear hZ3
      refine HC2.out.mono ?_
      rintro e w4 ⟨⟨sm, pm, lm, cm, rfl, him⟩, hbx⟩
      obtain ⟨Z4, hZ4⟩ : ∃ Z4, Z4 = w4.alloc (.cells #[.bool sm, .slice pm lm cm] 25) := ⟨_, rfl⟩
      have hz : Below w4.heap.size w4 Z4 := by rw [hZ4]; exact below_one _ _
      have Rm : Z4.heap[w4.heap.size]? = some (.cells #[.bool sm, .slice pm lm cm] 25 (0, 0)) := by rw [hZ4]; exact al_at _ _ rfl
      have Vm := Lib.hid (Kept.mk Rm (AtI.below him hz))
      have hs := hbx.trans (hz.mono hbx.size)
      have HGM := Lib.hid (show w3.heap.size < w4.heap.size from Nat.lt_of_lt_of_le (lt_of_block Vl.out.row) hbx.size)
      have Ya := Lib.hid (Va.out.on hs)
      clear Va
      have Va := Ya
      clear Ya
      have Yb := Lib.hid (Vb.out.on hs)
      clear Vb
      have Vb := Yb
      clear Yb
      have Yl := Lib.hid (Vl.out.on hs)
      clear Vl
      have Vl := Yl
      clear Yl
      have HB4 := Lib.hid (HB3.out.trans (hs.mono HB3.out.size))
      clear hbx hz him Rm hs HC2 HB3
      have c0b := Vb.out.c0
      have c1b := Vb.out.c1
      rw [hZ4] at c0b c1b
      obtain ⟨Z5, hZ5⟩ : ∃ Z5, Z5 = Z4.alloc (.cells #[.bool false, .slice pb lb cb] 25) := ⟨_, rfl⟩
      have hz : Below Z4.heap.size Z4 Z5 := by rw [hZ5]; exact below_one _ _
      have hZs : Z4.heap.size = w4.heap.size + 1 := by rw [hZ4]; simp
      have Rz : Z5.heap[w4.heap.size + 1]? = some (.cells #[.bool false, .slice pb lb cb] 25 (0, 0)) := by rw [hZ5]; exact al_at _ _ hZs
      have Vz := Lib.hid (Kept.mk Rz (abs_isI (Vb.out.on hz).num))
      have HGS := Lib.hid (show w4.heap.size < w4.heap.size + 1 from Nat.lt_succ_self _)
      have Ya := Lib.hid (Va.out.on hz)
      clear Va
      have Va := Ya
      clear Ya
      have Yb := Lib.hid (Vb.out.on hz)
      clear Vb
      have Vb := Yb
      clear Yb
      have Yl := Lib.hid (Vl.out.on hz)
      clear Vl
      have Vl := Yl
      clear Yl
      have Ym := Lib.hid (Vm.out.on hz)
      clear Vm
      have Vm := Ym
      clear Ym
      have HB5 := Lib.hid (HB4.out.trans (hz.mono HB4.out.size))
      rw [hZ4] at hZ5
      clear hz Rz HB4 hZs
      go_wp2_with fail
      rw [← hZ5]
      clear hZ5 hZ4 c0b c1b
      obtain ⟨gS, hgS⟩ : ∃ g, g = w4.heap.size + 1 := ⟨_, rfl⟩
      rw [← hgS] at Vz HGS ⊢
      clear hgS
      go_loopw [9] (fun i wr => ∃ j : Int, (j = 1 ∨ j = 2 ∨ j = 3 ∨ j = 4 ∨ j = 5) ∧ i = .int .i64 j ∧ Hid (DnInv w wr w3.heap.size w4.heap.size gS sa pa la ca na sb pb lb cb nb j)) (fun i _ => 5 - (intOf i).toNat)
      case atStart => exact ⟨1, .inl rfl, rfl, ⟨HB5.out, Va.out, Vb.out, Vz.out, ⟨_, _, _, _, _, Vl.out, by rw [show Nl.limbs (0 : Int).natAbs = [] from Nl.limbs_zero]; decide, fun h => absurd h (by decide)⟩, ⟨_, _, _, _, _, Vm.out, by rw [show Nl.limbs (0 : Int).natAbs = [] from Nl.limbs_zero]; decide, fun h => absurd h (by decide)⟩⟩⟩
      case round =>
        clear Va Vb Vz Vl Vm HB5
        obtain ⟨j, hj, rfl, hinv⟩ := hrel
        obtain ⟨sl, pl, ll, cl, nl, kl, hll, tl⟩ := hinv.out.l
        obtain ⟨sm, pm, lm, cm, nm, km, hlm, tm⟩ := hinv.out.m
        have Va := Lib.hid hinv.out.a
        have Vb := Lib.hid hinv.out.b
        have Vz := Lib.hid hinv.out.z
        have Vl := Lib.hid kl
        have Vm := Lib.hid km
        have HB := Lib.hid hinv.out.below
        have HLl := Lib.hid (And.intro hll tl)
        have HLm := Lib.hid (And.intro hlm tm)
        clear hinv kl km hll tl hlm tm
        rcases hj with rfl | rfl | rfl | rfl | rfl
        · as_aux_lemma =>
            have c0a := Va.out.c0
            have c1a := Va.out.c1
            have c0b := Vb.out.c0
            have c1b := Vb.out.c1
            have HC := Lib.hid (wDivL _ _ na nb 1 1 rfl wr Va.out.num Vb.out.num (Nat.le_trans La.out (by decide)) (Nat.le_trans Lb.out (by decide)) HNB.out (by decide) (by decide))
            go_wp2_with fail
            refine HC.out.mono ?_
            rintro e u3 ⟨⟨sq, pq, lq, cq, sr, pr, lr, cr, rfl, hiq, hir⟩, hbx⟩
            obtain ⟨Q, hQ⟩ : ∃ Q, Q = divQ 1 na nb := ⟨_, rfl⟩
            obtain ⟨R, hR⟩ : ∃ R, R = divR 1 na nb := ⟨_, rfl⟩
            rw [← hQ] at hiq
            rw [← hR] at hir
            have HQR := Lib.hid (And.intro hQ hR)
            have HEQ := Lib.hid (show Q * nb + R = na by have := divR_eq 1 na nb HNB.out; rw [← hQ, ← hR] at this; omega)
            have HLS := Lib.hid (show R.natAbs < nb.natAbs by rw [hR]; exact divR_less 1 na nb HNB.out)
            have LQ := Lib.hid (show (Nl.limbs Q.natAbs).length ≤ 61 by rw [hQ]; exact divQ_words 1 na nb 60 La.out)
            have LR := Lib.hid (show (Nl.limbs R.natAbs).length ≤ 60 by rw [hR]; exact divR_words 1 na nb 60 Lb.out HNB.out)
            have HTQ := Lib.hid (show TwoQ na nb Q by rw [TwoQ, hQ]; exact divQ_two 1 na nb)
            clear hQ hR
            obtain ⟨Z6, hZ6⟩ : ∃ Z6, Z6 = (u3.alloc (.cells #[.bool sq, .slice pq lq cq] 25)).alloc (.cells #[.bool sr, .slice pr lr cr] 25) := ⟨_, rfl⟩
            have hz : Below u3.heap.size u3 Z6 := by rw [hZ6]; exact two_new _ _ _
            have Rq : Z6.heap[u3.heap.size]? = some (.cells #[.bool sq, .slice pq lq cq] 25 (0, 0)) := by rw [hZ6]; exact heap_alloc2_old _ _ _
            have Rr : Z6.heap[u3.heap.size + 1]? = some (.cells #[.bool sr, .slice pr lr cr] 25 (0, 0)) := by rw [hZ6]; exact heap_alloc2_new _ _ _
            have Vq := Lib.hid (Kept.mk Rq (AtI.below hiq hz))
            have Vr := Lib.hid (Kept.mk Rr (AtI.below hir hz))
            have hs := hbx.trans (hz.mono hbx.size)
            have NE := Lib.hid (show w.heap.size + 1 < w3.heap.size ∧ w3.heap.size < w4.heap.size ∧ w4.heap.size < gS ∧ gS < u3.heap.size from ⟨HGL.out, HGM.out, HGS.out, Nat.lt_of_lt_of_le (lt_of_block Vz.out.row) hbx.size⟩)
            have Ya := Lib.hid (Va.out.on hs)
            clear Va
            have Va := Ya
            clear Ya
            have Yb := Lib.hid (Vb.out.on hs)
            clear Vb
            have Vb := Yb
            clear Yb
            have Yz := Lib.hid (Vz.out.on hs)
            clear Vz
            have Vz := Yz
            clear Yz
            have Yl := Lib.hid (Vl.out.on hs)
            clear Vl
            have Vl := Yl
            clear Yl
            have Ym := Lib.hid (Vm.out.on hs)
            clear Vm
            have Vm := Ym
            clear Ym
            have HB6 := Lib.hid (HB.out.trans (hs.mono HB.out.size))
            clear c0a c1a c0b c1b
            clear hbx hz hiq hir Rq Rr hs HC HB
            have z0a : ∀ w', Below Z6.heap.size Z6 w' → w'.cell? ⟨w.heap.size, 0, none⟩ = some (.bool sa) := fun w' h => (Va.out.on h).c0
            have z1a : ∀ w', Below Z6.heap.size Z6 w' → w'.cell? ⟨w.heap.size, 1, none⟩ = some (.slice pa la ca) := fun w' h => (Va.out.on h).c1
            have Fa := Lib.hid (fun (w' : World) (h : Below Z6.heap.size Z6 w') => (⟨(Va.out.on h).num, La.out⟩ : IsS w' (Value.agg #[.bool sa, .slice pa la ca]) na 60))
            have z0b : ∀ w', Below Z6.heap.size Z6 w' → w'.cell? ⟨w.heap.size + 1, 0, none⟩ = some (.bool sb) := fun w' h => (Vb.out.on h).c0
            have z1b : ∀ w', Below Z6.heap.size Z6 w' → w'.cell? ⟨w.heap.size + 1, 1, none⟩ = some (.slice pb lb cb) := fun w' h => (Vb.out.on h).c1
            have Fb := Lib.hid (fun (w' : World) (h : Below Z6.heap.size Z6 w') => (⟨(Vb.out.on h).num, Lb.out⟩ : IsS w' (Value.agg #[.bool sb, .slice pb lb cb]) nb 60))
            have z0q : ∀ w', Below Z6.heap.size Z6 w' → w'.cell? ⟨u3.heap.size, 0, none⟩ = some (.bool sq) := fun w' h => (Vq.out.on h).c0
            have z1q : ∀ w', Below Z6.heap.size Z6 w' → w'.cell? ⟨u3.heap.size, 1, none⟩ = some (.slice pq lq cq) := fun w' h => (Vq.out.on h).c1
            have Fq := Lib.hid (fun (w' : World) (h : Below Z6.heap.size Z6 w') => (⟨(Vq.out.on h).num, LQ.out⟩ : IsS w' (Value.agg #[.bool sq, .slice pq lq cq]) Q 61))
            have z0r : ∀ w', Below Z6.heap.size Z6 w' → w'.cell? ⟨u3.heap.size + 1, 0, none⟩ = some (.bool sr) := fun w' h => (Vr.out.on h).c0
            have z1r : ∀ w', Below Z6.heap.size Z6 w' → w'.cell? ⟨u3.heap.size + 1, 1, none⟩ = some (.slice pr lr cr) := fun w' h => (Vr.out.on h).c1
            have Fr := Lib.hid (fun (w' : World) (h : Below Z6.heap.size Z6 w') => (⟨(Vr.out.on h).num, LR.out⟩ : IsS w' (Value.agg #[.bool sr, .slice pr lr cr]) R 60))
            have z0z : ∀ w', Below Z6.heap.size Z6 w' → w'.cell? ⟨gS, 0, none⟩ = some (.bool false) := fun w' h => (Vz.out.on h).c0
            have z1z : ∀ w', Below Z6.heap.size Z6 w' → w'.cell? ⟨gS, 1, none⟩ = some (.slice pb lb cb) := fun w' h => (Vz.out.on h).c1
            have FZ := Lib.hid (fun (w' : World) (h : Below Z6.heap.size Z6 w') => (⟨(Vz.out.on h).num, by rw [show ((nb.natAbs : Int)).natAbs = nb.natAbs by omega]; exact Lb.out⟩ : IsS w' (Value.agg #[.bool false, .slice pb lb cb]) (nb.natAbs : Int) 60))
            have FR := Lib.hid (fun (w' : World) (h : Below Z6.heap.size Z6 w') => (⟨abs_isI (Vr.out.on h).num, by rw [show ((R.natAbs : Int)).natAbs = R.natAbs by omega]; exact LR.out⟩ : IsS w' (Value.agg #[.bool false, .slice pr lr cr]) (R.natAbs : Int) 60))
            have hrr : Below Z6.heap.size Z6 Z6 := Below.refl _ _
            have hp := Pend.nil Z6
            go_wp2_with fail
            rw [← hZ6]
            clear hZ6
            go_region_held3 (fun w' => Below Z6.heap.size Z6 w')
              (first
                | assumption
                | exact below_drew0 _
                | exact below_drew1 (by assumption))
              (first
                | (go_at_call 65; refine (mul_law _ _ _ _ _ _ _ (by first | exact Fa.out _ (by first | assumption | exact below_drew0 _) | exact Fb.out _ (by first | assumption | exact below_drew0 _) | exact Fq.out _ (by first | assumption | exact below_drew0 _) | exact Fr.out _ (by first | assumption | exact below_drew0 _) | exact hp.g0 | exact hp.g1 | exact hp.g2 | exact hp.d.g0 | exact hp.d.g1 | exact hp.d.g2) (by first | exact Fa.out _ (by first | assumption | exact below_drew0 _) | exact Fb.out _ (by first | assumption | exact below_drew0 _) | exact Fq.out _ (by first | assumption | exact below_drew0 _) | exact Fr.out _ (by first | assumption | exact below_drew0 _) | exact hp.g0 | exact hp.g1 | exact hp.g2 | exact hp.d.g0 | exact hp.d.g1 | exact hp.d.g2) (by decide) (by decide) (by decide)).mono ?_; rintro e wx ⟨⟨t1, t2, t3, t4, rfl, hi⟩, hwr⟩; have hp := (show Pend wx _ from (by first | exact hp.on hwr | exact hp.d.on hwr)).push hi; have belR := below_on (D := Z6) (by first | assumption | exact below_drew0 _) hwr; clear hwr hi)
                | (go_at_call 63; refine (add_law _ _ _ _ _ _ _ (by first | exact Fa.out _ (by first | assumption | exact below_drew0 _) | exact Fb.out _ (by first | assumption | exact below_drew0 _) | exact Fq.out _ (by first | assumption | exact below_drew0 _) | exact Fr.out _ (by first | assumption | exact below_drew0 _) | exact hp.g0 | exact hp.g1 | exact hp.g2 | exact hp.d.g0 | exact hp.d.g1 | exact hp.d.g2) (by first | exact Fa.out _ (by first | assumption | exact below_drew0 _) | exact Fb.out _ (by first | assumption | exact below_drew0 _) | exact Fq.out _ (by first | assumption | exact below_drew0 _) | exact Fr.out _ (by first | assumption | exact below_drew0 _) | exact hp.g0 | exact hp.g1 | exact hp.g2 | exact hp.d.g0 | exact hp.d.g1 | exact hp.d.g2) (by decide) (by decide) (by decide)).mono ?_; rintro e wx ⟨⟨t1, t2, t3, t4, rfl, hi⟩, hwr⟩; have hp := (show Pend wx _ from (by first | exact hp.on hwr | exact hp.d.on hwr)).push hi; have belR := below_on (D := Z6) (by first | assumption | exact below_drew0 _) hwr; clear hwr hi)
                | (go_at_call 62; refine (equal_yes _ _ (Q * nb + R) na _ _ _ (by first | exact Fa.out _ (by first | assumption | exact below_drew0 _) | exact Fb.out _ (by first | assumption | exact below_drew0 _) | exact Fq.out _ (by first | assumption | exact below_drew0 _) | exact Fr.out _ (by first | assumption | exact below_drew0 _) | exact hp.g0 | exact hp.g1 | exact hp.g2 | exact hp.d.g0 | exact hp.d.g1 | exact hp.d.g2) (by first | exact Fa.out _ (by first | assumption | exact below_drew0 _) | exact Fb.out _ (by first | assumption | exact below_drew0 _) | exact Fq.out _ (by first | assumption | exact below_drew0 _) | exact Fr.out _ (by first | assumption | exact below_drew0 _) | exact hp.g0 | exact hp.g1 | exact hp.g2 | exact hp.d.g0 | exact hp.d.g1 | exact hp.d.g2) HEQ.out).mono ?_; rintro e wx ⟨rfl, hwr⟩; have hp := Pend.nil wx; have belR := below_on (D := Z6) (by first | assumption | exact below_drew0 _) hwr; clear hwr)
                | (go_at_call 66; refine (cmp_is _ _ (R.natAbs : Int) (nb.natAbs : Int) (-1) 60 60 _ (FR.out _ (by first | assumption | exact below_drew0 _)) (FZ.out _ (by first | assumption | exact below_drew0 _)) (by decide) (by decide) (cmp_less (by have := HLS.out; omega))).mono ?_; rintro e wx ⟨rfl, hwr⟩; have belR := below_on (D := Z6) (by first | assumption | exact below_drew0 _) hwr; clear hwr))
            have hs : Below Z6.heap.size Z6 wx := by assumption
            have Ya := Lib.hid (Va.out.on hs)
            clear Va
            have Va := Ya
            clear Ya
            have Yb := Lib.hid (Vb.out.on hs)
            clear Vb
            have Vb := Yb
            clear Yb
            have Yz := Lib.hid (Vz.out.on hs)
            clear Vz
            have Vz := Yz
            clear Yz
            have Yl := Lib.hid (Vl.out.on hs)
            clear Vl
            have Vl := Yl
            clear Yl
            have Ym := Lib.hid (Vm.out.on hs)
            clear Vm
            have Vm := Ym
            clear Ym
            have Yq := Lib.hid (Vq.out.on hs)
            clear Vq
            have Vq := Yq
            clear Yq
            have Yr := Lib.hid (Vr.out.on hs)
            clear Vr
            have Vr := Yr
            clear Yr
            have HB7 := Lib.hid (HB6.out.trans (hs.mono HB6.out.size))
            clear hs HB6 z0z z1z FZ FR hrr hp z0a z1a Fa z0b z1b Fb z0q z1q Fq z0r z1r Fr
            obtain ⟨X, hX⟩ : ∃ X, X = wx := ⟨_, rfl⟩
            rw [← hX] at Va Vb Vz Vl Vm Vq Vr HB7 ⊢
            clear hX
            have hsr := isI_sign Vr.out.num
            have hsa := isI_sign Va.out.num
            have hsb := isI_sign Vb.out.num
            have HSR := Lib.hid (And.intro hsr (And.intro hsa hsb))
            clear hsr hsa hsb
            have nLs := NE.out
            have m1 : ¬ u3.heap.size = w3.heap.size := by omega
            have m2 : ¬ w3.heap.size = u3.heap.size := by omega
            have m3 : ¬ u3.heap.size = w4.heap.size := by omega
            have m4 : ¬ w4.heap.size = u3.heap.size := by omega
            have m5 : ¬ w3.heap.size = w4.heap.size := by omega
            have m6 : ¬ w4.heap.size = w3.heap.size := by omega
            clear nLs
            have c0a := Va.out.c0
            have c1a := Va.out.c1
            have c0b := Vb.out.c0
            have c1b := Vb.out.c1
            have c0q := Vq.out.c0
            have c1q := Vq.out.c1
            have c0r := Vr.out.c0
            have c1r := Vr.out.c1
            have c0l := Vl.out.c0
            have c1l := Vl.out.c1
            have c0m := Vm.out.c0
            have c1m := Vm.out.c1
            have f0l := frozen_of_row _ _ 0 _ _ Vl.out.row
            have f1l := frozen_of_row _ _ 1 _ _ Vl.out.row
            have f0m := frozen_of_row _ _ 0 _ _ Vm.out.row
            have f1m := frozen_of_row _ _ 1 _ _ Vm.out.row
            by_cases hr0 : lr = 0
            · subst hr0
              go_wp2_with fail
              go_roundw
              case rel =>
                have HBL := Lib.hid (below_ibox (g := w3.heap.size) HB7.out (by have := NE.out; omega) (.bool sq) (.slice pq lq cq))
                have kq := Vq.out.store (u := sq) (r := pq) (m' := lq) (d' := cq) (by have := NE.out; omega) Vl.out.row
                have km := Vm.out.store (u := sq) (r := pq) (m' := lq) (d' := cq) (by have := NE.out; omega) Vl.out.row
                have ka := Va.out.store (u := sq) (r := pq) (m' := lq) (d' := cq) (by have := NE.out; omega) Vl.out.row
                have kb := Vb.out.store (u := sq) (r := pq) (m' := lq) (d' := cq) (by have := NE.out; omega) Vl.out.row
                have kz := Vz.out.store (u := sq) (r := pq) (m' := lq) (d' := cq) (by have := NE.out; omega) Vl.out.row
                have kl := Vq.out.put Vl.out.row
                exact ⟨2, by decide, by first | rfl | go_num, ⟨below_ibox (g := w4.heap.size) HBL.out (by have := NE.out; omega) _ _, ka.store (by have := NE.out; omega) km.row, kb.store (by have := NE.out; omega) km.row, kz.store (by have := NE.out; omega) km.row, ⟨_, _, _, _, _, kl.store (by have := NE.out; omega) km.row, LQ.out, fun _ => HTQ.out⟩, ⟨_, _, _, _, _, kq.put km.row, LQ.out, fun _ => HTQ.out⟩⟩⟩
              case measure => simp [intOf]
            · have er : ((lr : Int) == 0) = false := by rw [beq_eq_false_iff_ne]; omega
              have hRn : R ≠ 0 := fun h => hr0 (by rw [HSR.out.1.2, h]; show (Nl.limbs 0).length = 0; rw [Nl.limbs_zero]; rfl)
              have es : (sr == sa) = true := by rw [HSR.out.1.1, HSR.out.2.1.1, HQR.out.2, divR_zero_way na nb (by rw [← HQR.out.2]; exact hRn)]; simp
              clear hRn hr0
              go_wp2_with fail
              go_roundw
              case rel =>
                have HBL := Lib.hid (below_ibox (g := w3.heap.size) HB7.out (by have := NE.out; omega) (.bool sq) (.slice pq lq cq))
                have kq := Vq.out.store (u := sq) (r := pq) (m' := lq) (d' := cq) (by have := NE.out; omega) Vl.out.row
                have km := Vm.out.store (u := sq) (r := pq) (m' := lq) (d' := cq) (by have := NE.out; omega) Vl.out.row
                have ka := Va.out.store (u := sq) (r := pq) (m' := lq) (d' := cq) (by have := NE.out; omega) Vl.out.row
                have kb := Vb.out.store (u := sq) (r := pq) (m' := lq) (d' := cq) (by have := NE.out; omega) Vl.out.row
                have kz := Vz.out.store (u := sq) (r := pq) (m' := lq) (d' := cq) (by have := NE.out; omega) Vl.out.row
                have kl := Vq.out.put Vl.out.row
                exact ⟨2, by decide, by first | rfl | go_num, ⟨below_ibox (g := w4.heap.size) HBL.out (by have := NE.out; omega) _ _, ka.store (by have := NE.out; omega) km.row, kb.store (by have := NE.out; omega) km.row, kz.store (by have := NE.out; omega) km.row, ⟨_, _, _, _, _, kl.store (by have := NE.out; omega) km.row, LQ.out, fun _ => HTQ.out⟩, ⟨_, _, _, _, _, kq.put km.row, LQ.out, fun _ => HTQ.out⟩⟩⟩
              case measure => simp [intOf]
        · as_aux_lemma =>
            have c0a := Va.out.c0
            have c1a := Va.out.c1
            have c0b := Vb.out.c0
            have c1b := Vb.out.c1
            have HC := Lib.hid (wDivL _ _ na nb 2 2 rfl wr Va.out.num Vb.out.num (Nat.le_trans La.out (by decide)) (Nat.le_trans Lb.out (by decide)) HNB.out (by decide) (by decide))
            go_wp2_with fail
            refine HC.out.mono ?_
            rintro e u3 ⟨⟨sq, pq, lq, cq, sr, pr, lr, cr, rfl, hiq, hir⟩, hbx⟩
            obtain ⟨Q, hQ⟩ : ∃ Q, Q = divQ 2 na nb := ⟨_, rfl⟩
            obtain ⟨R, hR⟩ : ∃ R, R = divR 2 na nb := ⟨_, rfl⟩
            rw [← hQ] at hiq
            rw [← hR] at hir
            have HQR := Lib.hid (And.intro hQ hR)
            have HEQ := Lib.hid (show Q * nb + R = na by have := divR_eq 2 na nb HNB.out; rw [← hQ, ← hR] at this; omega)
            have HLS := Lib.hid (show R.natAbs < nb.natAbs by rw [hR]; exact divR_less 2 na nb HNB.out)
            have LQ := Lib.hid (show (Nl.limbs Q.natAbs).length ≤ 61 by rw [hQ]; exact divQ_words 2 na nb 60 La.out)
            have LR := Lib.hid (show (Nl.limbs R.natAbs).length ≤ 60 by rw [hR]; exact divR_words 2 na nb 60 Lb.out HNB.out)
            have HTQ := Lib.hid (show TwoQ na nb Q by rw [TwoQ, hQ]; exact divQ_two 2 na nb)
            clear hQ hR
            obtain ⟨Z6, hZ6⟩ : ∃ Z6, Z6 = (u3.alloc (.cells #[.bool sq, .slice pq lq cq] 25)).alloc (.cells #[.bool sr, .slice pr lr cr] 25) := ⟨_, rfl⟩
            have hz : Below u3.heap.size u3 Z6 := by rw [hZ6]; exact two_new _ _ _
            have Rq : Z6.heap[u3.heap.size]? = some (.cells #[.bool sq, .slice pq lq cq] 25 (0, 0)) := by rw [hZ6]; exact heap_alloc2_old _ _ _
            have Rr : Z6.heap[u3.heap.size + 1]? = some (.cells #[.bool sr, .slice pr lr cr] 25 (0, 0)) := by rw [hZ6]; exact heap_alloc2_new _ _ _
            have Vq := Lib.hid (Kept.mk Rq (AtI.below hiq hz))
            have Vr := Lib.hid (Kept.mk Rr (AtI.below hir hz))
            have hs := hbx.trans (hz.mono hbx.size)
            have NE := Lib.hid (show w.heap.size + 1 < w3.heap.size ∧ w3.heap.size < w4.heap.size ∧ w4.heap.size < gS ∧ gS < u3.heap.size from ⟨HGL.out, HGM.out, HGS.out, Nat.lt_of_lt_of_le (lt_of_block Vz.out.row) hbx.size⟩)
            have Ya := Lib.hid (Va.out.on hs)
            clear Va
            have Va := Ya
            clear Ya
            have Yb := Lib.hid (Vb.out.on hs)
            clear Vb
            have Vb := Yb
            clear Yb
            have Yz := Lib.hid (Vz.out.on hs)
            clear Vz
            have Vz := Yz
            clear Yz
            have Yl := Lib.hid (Vl.out.on hs)
            clear Vl
            have Vl := Yl
            clear Yl
            have Ym := Lib.hid (Vm.out.on hs)
            clear Vm
            have Vm := Ym
            clear Ym
            have HB6 := Lib.hid (HB.out.trans (hs.mono HB.out.size))
            clear c0a c1a c0b c1b
            clear hbx hz hiq hir Rq Rr hs HC HB
            have z0a : ∀ w', Below Z6.heap.size Z6 w' → w'.cell? ⟨w.heap.size, 0, none⟩ = some (.bool sa) := fun w' h => (Va.out.on h).c0
            have z1a : ∀ w', Below Z6.heap.size Z6 w' → w'.cell? ⟨w.heap.size, 1, none⟩ = some (.slice pa la ca) := fun w' h => (Va.out.on h).c1
            have Fa := Lib.hid (fun (w' : World) (h : Below Z6.heap.size Z6 w') => (⟨(Va.out.on h).num, La.out⟩ : IsS w' (Value.agg #[.bool sa, .slice pa la ca]) na 60))
            have z0b : ∀ w', Below Z6.heap.size Z6 w' → w'.cell? ⟨w.heap.size + 1, 0, none⟩ = some (.bool sb) := fun w' h => (Vb.out.on h).c0
            have z1b : ∀ w', Below Z6.heap.size Z6 w' → w'.cell? ⟨w.heap.size + 1, 1, none⟩ = some (.slice pb lb cb) := fun w' h => (Vb.out.on h).c1
            have Fb := Lib.hid (fun (w' : World) (h : Below Z6.heap.size Z6 w') => (⟨(Vb.out.on h).num, Lb.out⟩ : IsS w' (Value.agg #[.bool sb, .slice pb lb cb]) nb 60))
            have z0q : ∀ w', Below Z6.heap.size Z6 w' → w'.cell? ⟨u3.heap.size, 0, none⟩ = some (.bool sq) := fun w' h => (Vq.out.on h).c0
            have z1q : ∀ w', Below Z6.heap.size Z6 w' → w'.cell? ⟨u3.heap.size, 1, none⟩ = some (.slice pq lq cq) := fun w' h => (Vq.out.on h).c1
            have Fq := Lib.hid (fun (w' : World) (h : Below Z6.heap.size Z6 w') => (⟨(Vq.out.on h).num, LQ.out⟩ : IsS w' (Value.agg #[.bool sq, .slice pq lq cq]) Q 61))
            have z0r : ∀ w', Below Z6.heap.size Z6 w' → w'.cell? ⟨u3.heap.size + 1, 0, none⟩ = some (.bool sr) := fun w' h => (Vr.out.on h).c0
            have z1r : ∀ w', Below Z6.heap.size Z6 w' → w'.cell? ⟨u3.heap.size + 1, 1, none⟩ = some (.slice pr lr cr) := fun w' h => (Vr.out.on h).c1
            have Fr := Lib.hid (fun (w' : World) (h : Below Z6.heap.size Z6 w') => (⟨(Vr.out.on h).num, LR.out⟩ : IsS w' (Value.agg #[.bool sr, .slice pr lr cr]) R 60))
            have z0z : ∀ w', Below Z6.heap.size Z6 w' → w'.cell? ⟨gS, 0, none⟩ = some (.bool false) := fun w' h => (Vz.out.on h).c0
            have z1z : ∀ w', Below Z6.heap.size Z6 w' → w'.cell? ⟨gS, 1, none⟩ = some (.slice pb lb cb) := fun w' h => (Vz.out.on h).c1
            have FZ := Lib.hid (fun (w' : World) (h : Below Z6.heap.size Z6 w') => (⟨(Vz.out.on h).num, by rw [show ((nb.natAbs : Int)).natAbs = nb.natAbs by omega]; exact Lb.out⟩ : IsS w' (Value.agg #[.bool false, .slice pb lb cb]) (nb.natAbs : Int) 60))
            have FR := Lib.hid (fun (w' : World) (h : Below Z6.heap.size Z6 w') => (⟨abs_isI (Vr.out.on h).num, by rw [show ((R.natAbs : Int)).natAbs = R.natAbs by omega]; exact LR.out⟩ : IsS w' (Value.agg #[.bool false, .slice pr lr cr]) (R.natAbs : Int) 60))
            have hrr : Below Z6.heap.size Z6 Z6 := Below.refl _ _
            have hp := Pend.nil Z6
            go_wp2_with fail
            rw [← hZ6]
            clear hZ6
            go_region_held3 (fun w' => Below Z6.heap.size Z6 w')
              (first
                | assumption
                | exact below_drew0 _
                | exact below_drew1 (by assumption))
              (first
                | (go_at_call 65; refine (mul_law _ _ _ _ _ _ _ (by first | exact Fa.out _ (by first | assumption | exact below_drew0 _) | exact Fb.out _ (by first | assumption | exact below_drew0 _) | exact Fq.out _ (by first | assumption | exact below_drew0 _) | exact Fr.out _ (by first | assumption | exact below_drew0 _) | exact hp.g0 | exact hp.g1 | exact hp.g2 | exact hp.d.g0 | exact hp.d.g1 | exact hp.d.g2) (by first | exact Fa.out _ (by first | assumption | exact below_drew0 _) | exact Fb.out _ (by first | assumption | exact below_drew0 _) | exact Fq.out _ (by first | assumption | exact below_drew0 _) | exact Fr.out _ (by first | assumption | exact below_drew0 _) | exact hp.g0 | exact hp.g1 | exact hp.g2 | exact hp.d.g0 | exact hp.d.g1 | exact hp.d.g2) (by decide) (by decide) (by decide)).mono ?_; rintro e wx ⟨⟨t1, t2, t3, t4, rfl, hi⟩, hwr⟩; have hp := (show Pend wx _ from (by first | exact hp.on hwr | exact hp.d.on hwr)).push hi; have belR := below_on (D := Z6) (by first | assumption | exact below_drew0 _) hwr; clear hwr hi)
                | (go_at_call 63; refine (add_law _ _ _ _ _ _ _ (by first | exact Fa.out _ (by first | assumption | exact below_drew0 _) | exact Fb.out _ (by first | assumption | exact below_drew0 _) | exact Fq.out _ (by first | assumption | exact below_drew0 _) | exact Fr.out _ (by first | assumption | exact below_drew0 _) | exact hp.g0 | exact hp.g1 | exact hp.g2 | exact hp.d.g0 | exact hp.d.g1 | exact hp.d.g2) (by first | exact Fa.out _ (by first | assumption | exact below_drew0 _) | exact Fb.out _ (by first | assumption | exact below_drew0 _) | exact Fq.out _ (by first | assumption | exact below_drew0 _) | exact Fr.out _ (by first | assumption | exact below_drew0 _) | exact hp.g0 | exact hp.g1 | exact hp.g2 | exact hp.d.g0 | exact hp.d.g1 | exact hp.d.g2) (by decide) (by decide) (by decide)).mono ?_; rintro e wx ⟨⟨t1, t2, t3, t4, rfl, hi⟩, hwr⟩; have hp := (show Pend wx _ from (by first | exact hp.on hwr | exact hp.d.on hwr)).push hi; have belR := below_on (D := Z6) (by first | assumption | exact below_drew0 _) hwr; clear hwr hi)
                | (go_at_call 62; refine (equal_yes _ _ (Q * nb + R) na _ _ _ (by first | exact Fa.out _ (by first | assumption | exact below_drew0 _) | exact Fb.out _ (by first | assumption | exact below_drew0 _) | exact Fq.out _ (by first | assumption | exact below_drew0 _) | exact Fr.out _ (by first | assumption | exact below_drew0 _) | exact hp.g0 | exact hp.g1 | exact hp.g2 | exact hp.d.g0 | exact hp.d.g1 | exact hp.d.g2) (by first | exact Fa.out _ (by first | assumption | exact below_drew0 _) | exact Fb.out _ (by first | assumption | exact below_drew0 _) | exact Fq.out _ (by first | assumption | exact below_drew0 _) | exact Fr.out _ (by first | assumption | exact below_drew0 _) | exact hp.g0 | exact hp.g1 | exact hp.g2 | exact hp.d.g0 | exact hp.d.g1 | exact hp.d.g2) HEQ.out).mono ?_; rintro e wx ⟨rfl, hwr⟩; have hp := Pend.nil wx; have belR := below_on (D := Z6) (by first | assumption | exact below_drew0 _) hwr; clear hwr)
                | (go_at_call 66; refine (cmp_is _ _ (R.natAbs : Int) (nb.natAbs : Int) (-1) 60 60 _ (FR.out _ (by first | assumption | exact below_drew0 _)) (FZ.out _ (by first | assumption | exact below_drew0 _)) (by decide) (by decide) (cmp_less (by have := HLS.out; omega))).mono ?_; rintro e wx ⟨rfl, hwr⟩; have belR := below_on (D := Z6) (by first | assumption | exact below_drew0 _) hwr; clear hwr))
            have hs : Below Z6.heap.size Z6 wx := by assumption
            have Ya := Lib.hid (Va.out.on hs)
            clear Va
            have Va := Ya
            clear Ya
            have Yb := Lib.hid (Vb.out.on hs)
            clear Vb
            have Vb := Yb
            clear Yb
            have Yz := Lib.hid (Vz.out.on hs)
            clear Vz
            have Vz := Yz
            clear Yz
            have Yl := Lib.hid (Vl.out.on hs)
            clear Vl
            have Vl := Yl
            clear Yl
            have Ym := Lib.hid (Vm.out.on hs)
            clear Vm
            have Vm := Ym
            clear Ym
            have Yq := Lib.hid (Vq.out.on hs)
            clear Vq
            have Vq := Yq
            clear Yq
            have Yr := Lib.hid (Vr.out.on hs)
            clear Vr
            have Vr := Yr
            clear Yr
            have HB7 := Lib.hid (HB6.out.trans (hs.mono HB6.out.size))
            clear hs HB6 z0z z1z FZ FR hrr hp z0a z1a Fa z0b z1b Fb z0q z1q Fq z0r z1r Fr
            obtain ⟨X, hX⟩ : ∃ X, X = wx := ⟨_, rfl⟩
            rw [← hX] at Va Vb Vz Vl Vm Vq Vr HB7 ⊢
            clear hX
            have hsr := isI_sign Vr.out.num
            have hsa := isI_sign Va.out.num
            have hsb := isI_sign Vb.out.num
            have HSR := Lib.hid (And.intro hsr (And.intro hsa hsb))
            clear hsr hsa hsb
            have nLs := NE.out
            have m1 : ¬ u3.heap.size = w3.heap.size := by omega
            have m2 : ¬ w3.heap.size = u3.heap.size := by omega
            have m3 : ¬ u3.heap.size = w4.heap.size := by omega
            have m4 : ¬ w4.heap.size = u3.heap.size := by omega
            have m5 : ¬ w3.heap.size = w4.heap.size := by omega
            have m6 : ¬ w4.heap.size = w3.heap.size := by omega
            clear nLs
            have c0a := Va.out.c0
            have c1a := Va.out.c1
            have c0b := Vb.out.c0
            have c1b := Vb.out.c1
            have c0q := Vq.out.c0
            have c1q := Vq.out.c1
            have c0r := Vr.out.c0
            have c1r := Vr.out.c1
            have c0l := Vl.out.c0
            have c1l := Vl.out.c1
            have c0m := Vm.out.c0
            have c1m := Vm.out.c1
            have f0l := frozen_of_row _ _ 0 _ _ Vl.out.row
            have f1l := frozen_of_row _ _ 1 _ _ Vl.out.row
            have f0m := frozen_of_row _ _ 0 _ _ Vm.out.row
            have f1m := frozen_of_row _ _ 1 _ _ Vm.out.row
            by_cases hr0 : lr = 0
            · subst hr0
              obtain ⟨K1, hK1⟩ : ∃ K1, K1 = cmpI Q nl := ⟨_, rfl⟩
              have HC := Lib.hid (cmp_is _ _ Q nl K1 61 61 X ⟨Vq.out.num, LQ.out⟩ ⟨Vl.out.num, HLl.out.1⟩ (by decide) (by decide) hK1.symm)
              clear hK1
              go_wp2_with fail
              refine HC.out.mono ?_
              rintro e x1 ⟨rfl, hs⟩
              clear HC
              clear c0a c1a c0b c1b c0q c1q c0r c1r c0l c1l c0m c1m f0l f1l f0m f1m
              have Ya := Lib.hid (Va.out.on hs)
              clear Va
              have Va := Ya
              clear Ya
              have Yb := Lib.hid (Vb.out.on hs)
              clear Vb
              have Vb := Yb
              clear Yb
              have Yz := Lib.hid (Vz.out.on hs)
              clear Vz
              have Vz := Yz
              clear Yz
              have Yl := Lib.hid (Vl.out.on hs)
              clear Vl
              have Vl := Yl
              clear Yl
              have Ym := Lib.hid (Vm.out.on hs)
              clear Vm
              have Vm := Ym
              clear Ym
              have Yq := Lib.hid (Vq.out.on hs)
              clear Vq
              have Vq := Yq
              clear Yq
              have HB8 := Lib.hid (HB7.out.trans (hs.mono HB7.out.size))
              clear hs
              have c0q := Vq.out.c0
              have c1q := Vq.out.c1
              have c0l := Vl.out.c0
              have c1l := Vl.out.c1
              have c0m := Vm.out.c0
              have c1m := Vm.out.c1
              have f0l := frozen_of_row _ _ 0 _ _ Vl.out.row
              have f1l := frozen_of_row _ _ 1 _ _ Vl.out.row
              by_cases q1 : K1 < 0
              · have d1 : decide (K1 < 0) = true := decide_eq_true q1
                clear q1
                go_wp2_with fail
                obtain ⟨X2, hX2⟩ : ∃ X2, X2 = (x1.setCell ⟨w3.heap.size, 0, none⟩ (.bool sq)).setCell ⟨w3.heap.size, 1, none⟩ (.slice pq lq cq) := ⟨_, rfl⟩
                rw [← hX2]
                have Ya := Lib.hid (hX2 ▸ (Va.out.store (by have := NE.out; omega) Vl.out.row) : Kept X2 _ _ _ _ _ _)
                have Yb := Lib.hid (hX2 ▸ (Vb.out.store (by have := NE.out; omega) Vl.out.row) : Kept X2 _ _ _ _ _ _)
                have Yz := Lib.hid (hX2 ▸ (Vz.out.store (by have := NE.out; omega) Vl.out.row) : Kept X2 _ _ _ _ _ _)
                have Ym := Lib.hid (hX2 ▸ (Vm.out.store (by have := NE.out; omega) Vl.out.row) : Kept X2 _ _ _ _ _ _)
                have Yq := Lib.hid (hX2 ▸ (Vq.out.store (by have := NE.out; omega) Vl.out.row) : Kept X2 _ _ _ _ _ _)
                have Yl := Lib.hid (hX2 ▸ (Vq.out.put Vl.out.row) : Kept X2 _ _ _ _ _ _)
                have HBX := Lib.hid (hX2 ▸ (below_ibox (g := w3.heap.size) HB8.out (by have := NE.out; omega) (.bool sq) (.slice pq lq cq)) : Below w.heap.size w X2)
                clear Va Vb Vz Vm Vq Vl HB8 HLl hX2
                have HLl := Lib.hid (And.intro LQ.out (fun _ : (2 : Int) ≤ 2 => HTQ.out))
                have Va := Ya
                have Vb := Yb
                have Vz := Yz
                have Vm := Ym
                have Vq := Yq
                have Vl := Yl
                clear Ya Yb Yz Ym Yq Yl c0q c1q c0l c1l c0m c1m f0l f1l
                obtain ⟨K2, hK2⟩ : ∃ K2, K2 = cmpI Q nm := ⟨_, rfl⟩
                have HC := Lib.hid (cmp_is _ _ Q nm K2 61 61 X2 ⟨Vq.out.num, LQ.out⟩ ⟨Vm.out.num, HLm.out.1⟩ (by decide) (by decide) hK2.symm)
                clear hK2
                refine HC.out.mono ?_
                rintro e x3 ⟨rfl, hs⟩
                clear HC
                have Ya := Lib.hid (Va.out.on hs)
                clear Va
                have Va := Ya
                clear Ya
                have Yb := Lib.hid (Vb.out.on hs)
                clear Vb
                have Vb := Yb
                clear Yb
                have Yz := Lib.hid (Vz.out.on hs)
                clear Vz
                have Vz := Yz
                clear Yz
                have Yl := Lib.hid (Vl.out.on hs)
                clear Vl
                have Vl := Yl
                clear Yl
                have Ym := Lib.hid (Vm.out.on hs)
                clear Vm
                have Vm := Ym
                clear Ym
                have Yq := Lib.hid (Vq.out.on hs)
                clear Vq
                have Vq := Yq
                clear Yq
                have HB9 := Lib.hid (HBX.out.trans (hs.mono HBX.out.size))
                clear hs
                have c0q := Vq.out.c0
                have c1q := Vq.out.c1
                have c0m := Vm.out.c0
                have c1m := Vm.out.c1
                have f0m := frozen_of_row _ _ 0 _ _ Vm.out.row
                have f1m := frozen_of_row _ _ 1 _ _ Vm.out.row
                by_cases q2 : K2 > 0
                · have d2 : decide (K2 > 0) = true := decide_eq_true q2
                  have d2' : decide (0 < K2) = true := decide_eq_true q2
                  clear q2
                  go_wp2_with fail
                  go_roundw
                  case rel =>
                    exact ⟨3, by decide, by first | rfl | go_num, ⟨below_ibox (g := w4.heap.size) HB9.out (by have := NE.out; omega) _ _, Va.out.store (by have := NE.out; omega) Vm.out.row, Vb.out.store (by have := NE.out; omega) Vm.out.row, Vz.out.store (by have := NE.out; omega) Vm.out.row, ⟨_, _, _, _, _, Vl.out.store (by have := NE.out; omega) Vm.out.row, HLl.out.1, fun _ => HLl.out.2 (by decide)⟩, ⟨_, _, _, _, _, Vq.out.put Vm.out.row, LQ.out, fun _ => HTQ.out⟩⟩⟩
                  case measure => simp [intOf]
                · have d2 : decide (K2 > 0) = false := decide_eq_false q2
                  have d2' : decide (0 < K2) = false := decide_eq_false q2
                  clear q2
                  go_wp2_with fail
                  go_roundw
                  case rel =>
                    exact ⟨3, by decide, by first | rfl | go_num, ⟨HB9.out, Va.out, Vb.out, Vz.out, ⟨_, _, _, _, _, Vl.out, HLl.out.1, fun _ => HLl.out.2 (by decide)⟩, ⟨_, _, _, _, _, Vm.out, HLm.out.1, fun _ => HLm.out.2 (by decide)⟩⟩⟩
                  case measure => simp [intOf]
              · have d1 : decide (K1 < 0) = false := decide_eq_false q1
                clear q1
                go_wp2_with fail
                clear c0q c1q c0l c1l c0m c1m f0l f1l
                obtain ⟨K2, hK2⟩ : ∃ K2, K2 = cmpI Q nm := ⟨_, rfl⟩
                have HC := Lib.hid (cmp_is _ _ Q nm K2 61 61 x1 ⟨Vq.out.num, LQ.out⟩ ⟨Vm.out.num, HLm.out.1⟩ (by decide) (by decide) hK2.symm)
                clear hK2
                refine HC.out.mono ?_
                rintro e x3 ⟨rfl, hs⟩
                clear HC
                have Ya := Lib.hid (Va.out.on hs)
                clear Va
                have Va := Ya
                clear Ya
                have Yb := Lib.hid (Vb.out.on hs)
                clear Vb
                have Vb := Yb
                clear Yb
                have Yz := Lib.hid (Vz.out.on hs)
                clear Vz
                have Vz := Yz
                clear Yz
                have Yl := Lib.hid (Vl.out.on hs)
                clear Vl
                have Vl := Yl
                clear Yl
                have Ym := Lib.hid (Vm.out.on hs)
                clear Vm
                have Vm := Ym
                clear Ym
                have Yq := Lib.hid (Vq.out.on hs)
                clear Vq
                have Vq := Yq
                clear Yq
                have HB9 := Lib.hid (HB8.out.trans (hs.mono HB8.out.size))
                clear hs
                have c0q := Vq.out.c0
                have c1q := Vq.out.c1
                have c0m := Vm.out.c0
                have c1m := Vm.out.c1
                have f0m := frozen_of_row _ _ 0 _ _ Vm.out.row
                have f1m := frozen_of_row _ _ 1 _ _ Vm.out.row
                by_cases q2 : K2 > 0
                · have d2 : decide (K2 > 0) = true := decide_eq_true q2
                  have d2' : decide (0 < K2) = true := decide_eq_true q2
                  clear q2
                  go_wp2_with fail
                  go_roundw
                  case rel =>
                    exact ⟨3, by decide, by first | rfl | go_num, ⟨below_ibox (g := w4.heap.size) HB9.out (by have := NE.out; omega) _ _, Va.out.store (by have := NE.out; omega) Vm.out.row, Vb.out.store (by have := NE.out; omega) Vm.out.row, Vz.out.store (by have := NE.out; omega) Vm.out.row, ⟨_, _, _, _, _, Vl.out.store (by have := NE.out; omega) Vm.out.row, HLl.out.1, fun _ => HLl.out.2 (by decide)⟩, ⟨_, _, _, _, _, Vq.out.put Vm.out.row, LQ.out, fun _ => HTQ.out⟩⟩⟩
                  case measure => simp [intOf]
                · have d2 : decide (K2 > 0) = false := decide_eq_false q2
                  have d2' : decide (0 < K2) = false := decide_eq_false q2
                  clear q2
                  go_wp2_with fail
                  go_roundw
                  case rel =>
                    exact ⟨3, by decide, by first | rfl | go_num, ⟨HB9.out, Va.out, Vb.out, Vz.out, ⟨_, _, _, _, _, Vl.out, HLl.out.1, fun _ => HLl.out.2 (by decide)⟩, ⟨_, _, _, _, _, Vm.out, HLm.out.1, fun _ => HLm.out.2 (by decide)⟩⟩⟩
                  case measure => simp [intOf]
            · have er : ((lr : Int) == 0) = false := by rw [beq_eq_false_iff_ne]; omega
              have hRn : R ≠ 0 := fun h => hr0 (by rw [HSR.out.1.2, h]; show (Nl.limbs 0).length = 0; rw [Nl.limbs_zero]; rfl)
              have es : (sr == sb) = true := by rw [HSR.out.1.1, HSR.out.2.2.1, HQR.out.2, divR_down_way na nb HNB.out (by rw [← HQR.out.2]; exact hRn)]; simp
              clear hRn hr0
              obtain ⟨K1, hK1⟩ : ∃ K1, K1 = cmpI Q nl := ⟨_, rfl⟩
              have HC := Lib.hid (cmp_is _ _ Q nl K1 61 61 X ⟨Vq.out.num, LQ.out⟩ ⟨Vl.out.num, HLl.out.1⟩ (by decide) (by decide) hK1.symm)
              clear hK1
              go_wp2_with fail
              refine HC.out.mono ?_
              rintro e x1 ⟨rfl, hs⟩
              clear HC
              clear c0a c1a c0b c1b c0q c1q c0r c1r c0l c1l c0m c1m f0l f1l f0m f1m
              have Ya := Lib.hid (Va.out.on hs)
              clear Va
              have Va := Ya
              clear Ya
              have Yb := Lib.hid (Vb.out.on hs)
              clear Vb
              have Vb := Yb
              clear Yb
              have Yz := Lib.hid (Vz.out.on hs)
              clear Vz
              have Vz := Yz
              clear Yz
              have Yl := Lib.hid (Vl.out.on hs)
              clear Vl
              have Vl := Yl
              clear Yl
              have Ym := Lib.hid (Vm.out.on hs)
              clear Vm
              have Vm := Ym
              clear Ym
              have Yq := Lib.hid (Vq.out.on hs)
              clear Vq
              have Vq := Yq
              clear Yq
              have HB8 := Lib.hid (HB7.out.trans (hs.mono HB7.out.size))
              clear hs
              have c0q := Vq.out.c0
              have c1q := Vq.out.c1
              have c0l := Vl.out.c0
              have c1l := Vl.out.c1
              have c0m := Vm.out.c0
              have c1m := Vm.out.c1
              have f0l := frozen_of_row _ _ 0 _ _ Vl.out.row
              have f1l := frozen_of_row _ _ 1 _ _ Vl.out.row
              by_cases q1 : K1 < 0
              · have d1 : decide (K1 < 0) = true := decide_eq_true q1
                clear q1
                go_wp2_with fail
                obtain ⟨X2, hX2⟩ : ∃ X2, X2 = (x1.setCell ⟨w3.heap.size, 0, none⟩ (.bool sq)).setCell ⟨w3.heap.size, 1, none⟩ (.slice pq lq cq) := ⟨_, rfl⟩
                rw [← hX2]
                have Ya := Lib.hid (hX2 ▸ (Va.out.store (by have := NE.out; omega) Vl.out.row) : Kept X2 _ _ _ _ _ _)
                have Yb := Lib.hid (hX2 ▸ (Vb.out.store (by have := NE.out; omega) Vl.out.row) : Kept X2 _ _ _ _ _ _)
                have Yz := Lib.hid (hX2 ▸ (Vz.out.store (by have := NE.out; omega) Vl.out.row) : Kept X2 _ _ _ _ _ _)
                have Ym := Lib.hid (hX2 ▸ (Vm.out.store (by have := NE.out; omega) Vl.out.row) : Kept X2 _ _ _ _ _ _)
                have Yq := Lib.hid (hX2 ▸ (Vq.out.store (by have := NE.out; omega) Vl.out.row) : Kept X2 _ _ _ _ _ _)
                have Yl := Lib.hid (hX2 ▸ (Vq.out.put Vl.out.row) : Kept X2 _ _ _ _ _ _)
                have HBX := Lib.hid (hX2 ▸ (below_ibox (g := w3.heap.size) HB8.out (by have := NE.out; omega) (.bool sq) (.slice pq lq cq)) : Below w.heap.size w X2)
                clear Va Vb Vz Vm Vq Vl HB8 HLl hX2
                have HLl := Lib.hid (And.intro LQ.out (fun _ : (2 : Int) ≤ 2 => HTQ.out))
                have Va := Ya
                have Vb := Yb
                have Vz := Yz
                have Vm := Ym
                have Vq := Yq
                have Vl := Yl
                clear Ya Yb Yz Ym Yq Yl c0q c1q c0l c1l c0m c1m f0l f1l
                obtain ⟨K2, hK2⟩ : ∃ K2, K2 = cmpI Q nm := ⟨_, rfl⟩
                have HC := Lib.hid (cmp_is _ _ Q nm K2 61 61 X2 ⟨Vq.out.num, LQ.out⟩ ⟨Vm.out.num, HLm.out.1⟩ (by decide) (by decide) hK2.symm)
                clear hK2
                refine HC.out.mono ?_
                rintro e x3 ⟨rfl, hs⟩
                clear HC
                have Ya := Lib.hid (Va.out.on hs)
                clear Va
                have Va := Ya
                clear Ya
                have Yb := Lib.hid (Vb.out.on hs)
                clear Vb
                have Vb := Yb
                clear Yb
                have Yz := Lib.hid (Vz.out.on hs)
                clear Vz
                have Vz := Yz
                clear Yz
                have Yl := Lib.hid (Vl.out.on hs)
                clear Vl
                have Vl := Yl
                clear Yl
                have Ym := Lib.hid (Vm.out.on hs)
                clear Vm
                have Vm := Ym
                clear Ym
                have Yq := Lib.hid (Vq.out.on hs)
                clear Vq
                have Vq := Yq
                clear Yq
                have HB9 := Lib.hid (HBX.out.trans (hs.mono HBX.out.size))
                clear hs
                have c0q := Vq.out.c0
                have c1q := Vq.out.c1
                have c0m := Vm.out.c0
                have c1m := Vm.out.c1
                have f0m := frozen_of_row _ _ 0 _ _ Vm.out.row
                have f1m := frozen_of_row _ _ 1 _ _ Vm.out.row
                by_cases q2 : K2 > 0
                · have d2 : decide (K2 > 0) = true := decide_eq_true q2
                  have d2' : decide (0 < K2) = true := decide_eq_true q2
                  clear q2
                  go_wp2_with fail
                  go_roundw
                  case rel =>
                    exact ⟨3, by decide, by first | rfl | go_num, ⟨below_ibox (g := w4.heap.size) HB9.out (by have := NE.out; omega) _ _, Va.out.store (by have := NE.out; omega) Vm.out.row, Vb.out.store (by have := NE.out; omega) Vm.out.row, Vz.out.store (by have := NE.out; omega) Vm.out.row, ⟨_, _, _, _, _, Vl.out.store (by have := NE.out; omega) Vm.out.row, HLl.out.1, fun _ => HLl.out.2 (by decide)⟩, ⟨_, _, _, _, _, Vq.out.put Vm.out.row, LQ.out, fun _ => HTQ.out⟩⟩⟩
                  case measure => simp [intOf]
                · have d2 : decide (K2 > 0) = false := decide_eq_false q2
                  have d2' : decide (0 < K2) = false := decide_eq_false q2
                  clear q2
                  go_wp2_with fail
                  go_roundw
                  case rel =>
                    exact ⟨3, by decide, by first | rfl | go_num, ⟨HB9.out, Va.out, Vb.out, Vz.out, ⟨_, _, _, _, _, Vl.out, HLl.out.1, fun _ => HLl.out.2 (by decide)⟩, ⟨_, _, _, _, _, Vm.out, HLm.out.1, fun _ => HLm.out.2 (by decide)⟩⟩⟩
                  case measure => simp [intOf]
              · have d1 : decide (K1 < 0) = false := decide_eq_false q1
                clear q1
                go_wp2_with fail
                clear c0q c1q c0l c1l c0m c1m f0l f1l
                obtain ⟨K2, hK2⟩ : ∃ K2, K2 = cmpI Q nm := ⟨_, rfl⟩
                have HC := Lib.hid (cmp_is _ _ Q nm K2 61 61 x1 ⟨Vq.out.num, LQ.out⟩ ⟨Vm.out.num, HLm.out.1⟩ (by decide) (by decide) hK2.symm)
                clear hK2
                refine HC.out.mono ?_
                rintro e x3 ⟨rfl, hs⟩
                clear HC
                have Ya := Lib.hid (Va.out.on hs)
                clear Va
                have Va := Ya
                clear Ya
                have Yb := Lib.hid (Vb.out.on hs)
                clear Vb
                have Vb := Yb
                clear Yb
                have Yz := Lib.hid (Vz.out.on hs)
                clear Vz
                have Vz := Yz
                clear Yz
                have Yl := Lib.hid (Vl.out.on hs)
                clear Vl
                have Vl := Yl
                clear Yl
                have Ym := Lib.hid (Vm.out.on hs)
                clear Vm
                have Vm := Ym
                clear Ym
                have Yq := Lib.hid (Vq.out.on hs)
                clear Vq
                have Vq := Yq
                clear Yq
                have HB9 := Lib.hid (HB8.out.trans (hs.mono HB8.out.size))
                clear hs
                have c0q := Vq.out.c0
                have c1q := Vq.out.c1
                have c0m := Vm.out.c0
                have c1m := Vm.out.c1
                have f0m := frozen_of_row _ _ 0 _ _ Vm.out.row
                have f1m := frozen_of_row _ _ 1 _ _ Vm.out.row
                by_cases q2 : K2 > 0
                · have d2 : decide (K2 > 0) = true := decide_eq_true q2
                  have d2' : decide (0 < K2) = true := decide_eq_true q2
                  clear q2
                  go_wp2_with fail
                  go_roundw
                  case rel =>
                    exact ⟨3, by decide, by first | rfl | go_num, ⟨below_ibox (g := w4.heap.size) HB9.out (by have := NE.out; omega) _ _, Va.out.store (by have := NE.out; omega) Vm.out.row, Vb.out.store (by have := NE.out; omega) Vm.out.row, Vz.out.store (by have := NE.out; omega) Vm.out.row, ⟨_, _, _, _, _, Vl.out.store (by have := NE.out; omega) Vm.out.row, HLl.out.1, fun _ => HLl.out.2 (by decide)⟩, ⟨_, _, _, _, _, Vq.out.put Vm.out.row, LQ.out, fun _ => HTQ.out⟩⟩⟩
                  case measure => simp [intOf]
                · have d2 : decide (K2 > 0) = false := decide_eq_false q2
                  have d2' : decide (0 < K2) = false := decide_eq_false q2
                  clear q2
                  go_wp2_with fail
                  go_roundw
                  case rel =>
                    exact ⟨3, by decide, by first | rfl | go_num, ⟨HB9.out, Va.out, Vb.out, Vz.out, ⟨_, _, _, _, _, Vl.out, HLl.out.1, fun _ => HLl.out.2 (by decide)⟩, ⟨_, _, _, _, _, Vm.out, HLm.out.1, fun _ => HLm.out.2 (by decide)⟩⟩⟩
                  case measure => simp [intOf]
        · as_aux_lemma =>
            have c0a := Va.out.c0
            have c1a := Va.out.c1
            have c0b := Vb.out.c0
            have c1b := Vb.out.c1
            have HC := Lib.hid (wDivL _ _ na nb 3 3 rfl wr Va.out.num Vb.out.num (Nat.le_trans La.out (by decide)) (Nat.le_trans Lb.out (by decide)) HNB.out (by decide) (by decide))
            go_wp2_with fail
            refine HC.out.mono ?_
            rintro e u3 ⟨⟨sq, pq, lq, cq, sr, pr, lr, cr, rfl, hiq, hir⟩, hbx⟩
            obtain ⟨Q, hQ⟩ : ∃ Q, Q = divQ 3 na nb := ⟨_, rfl⟩
            obtain ⟨R, hR⟩ : ∃ R, R = divR 3 na nb := ⟨_, rfl⟩
            rw [← hQ] at hiq
            rw [← hR] at hir
            have HQR := Lib.hid (And.intro hQ hR)
            have HEQ := Lib.hid (show Q * nb + R = na by have := divR_eq 3 na nb HNB.out; rw [← hQ, ← hR] at this; omega)
            have HLS := Lib.hid (show R.natAbs < nb.natAbs by rw [hR]; exact divR_less 3 na nb HNB.out)
            have LQ := Lib.hid (show (Nl.limbs Q.natAbs).length ≤ 61 by rw [hQ]; exact divQ_words 3 na nb 60 La.out)
            have LR := Lib.hid (show (Nl.limbs R.natAbs).length ≤ 60 by rw [hR]; exact divR_words 3 na nb 60 Lb.out HNB.out)
            have HTQ := Lib.hid (show TwoQ na nb Q by rw [TwoQ, hQ]; exact divQ_two 3 na nb)
            clear hQ hR
            obtain ⟨Z6, hZ6⟩ : ∃ Z6, Z6 = (u3.alloc (.cells #[.bool sq, .slice pq lq cq] 25)).alloc (.cells #[.bool sr, .slice pr lr cr] 25) := ⟨_, rfl⟩
            have hz : Below u3.heap.size u3 Z6 := by rw [hZ6]; exact two_new _ _ _
            have Rq : Z6.heap[u3.heap.size]? = some (.cells #[.bool sq, .slice pq lq cq] 25 (0, 0)) := by rw [hZ6]; exact heap_alloc2_old _ _ _
            have Rr : Z6.heap[u3.heap.size + 1]? = some (.cells #[.bool sr, .slice pr lr cr] 25 (0, 0)) := by rw [hZ6]; exact heap_alloc2_new _ _ _
            have Vq := Lib.hid (Kept.mk Rq (AtI.below hiq hz))
            have Vr := Lib.hid (Kept.mk Rr (AtI.below hir hz))
            have hs := hbx.trans (hz.mono hbx.size)
            have NE := Lib.hid (show w.heap.size + 1 < w3.heap.size ∧ w3.heap.size < w4.heap.size ∧ w4.heap.size < gS ∧ gS < u3.heap.size from ⟨HGL.out, HGM.out, HGS.out, Nat.lt_of_lt_of_le (lt_of_block Vz.out.row) hbx.size⟩)
            have Ya := Lib.hid (Va.out.on hs)
            clear Va
            have Va := Ya
            clear Ya
            have Yb := Lib.hid (Vb.out.on hs)
            clear Vb
            have Vb := Yb
            clear Yb
            have Yz := Lib.hid (Vz.out.on hs)
            clear Vz
            have Vz := Yz
            clear Yz
            have Yl := Lib.hid (Vl.out.on hs)
            clear Vl
            have Vl := Yl
            clear Yl
            have Ym := Lib.hid (Vm.out.on hs)
            clear Vm
            have Vm := Ym
            clear Ym
            have HB6 := Lib.hid (HB.out.trans (hs.mono HB.out.size))
            clear c0a c1a c0b c1b
            clear hbx hz hiq hir Rq Rr hs HC HB
            have z0a : ∀ w', Below Z6.heap.size Z6 w' → w'.cell? ⟨w.heap.size, 0, none⟩ = some (.bool sa) := fun w' h => (Va.out.on h).c0
            have z1a : ∀ w', Below Z6.heap.size Z6 w' → w'.cell? ⟨w.heap.size, 1, none⟩ = some (.slice pa la ca) := fun w' h => (Va.out.on h).c1
            have Fa := Lib.hid (fun (w' : World) (h : Below Z6.heap.size Z6 w') => (⟨(Va.out.on h).num, La.out⟩ : IsS w' (Value.agg #[.bool sa, .slice pa la ca]) na 60))
            have z0b : ∀ w', Below Z6.heap.size Z6 w' → w'.cell? ⟨w.heap.size + 1, 0, none⟩ = some (.bool sb) := fun w' h => (Vb.out.on h).c0
            have z1b : ∀ w', Below Z6.heap.size Z6 w' → w'.cell? ⟨w.heap.size + 1, 1, none⟩ = some (.slice pb lb cb) := fun w' h => (Vb.out.on h).c1
            have Fb := Lib.hid (fun (w' : World) (h : Below Z6.heap.size Z6 w') => (⟨(Vb.out.on h).num, Lb.out⟩ : IsS w' (Value.agg #[.bool sb, .slice pb lb cb]) nb 60))
            have z0q : ∀ w', Below Z6.heap.size Z6 w' → w'.cell? ⟨u3.heap.size, 0, none⟩ = some (.bool sq) := fun w' h => (Vq.out.on h).c0
            have z1q : ∀ w', Below Z6.heap.size Z6 w' → w'.cell? ⟨u3.heap.size, 1, none⟩ = some (.slice pq lq cq) := fun w' h => (Vq.out.on h).c1
            have Fq := Lib.hid (fun (w' : World) (h : Below Z6.heap.size Z6 w') => (⟨(Vq.out.on h).num, LQ.out⟩ : IsS w' (Value.agg #[.bool sq, .slice pq lq cq]) Q 61))
            have z0r : ∀ w', Below Z6.heap.size Z6 w' → w'.cell? ⟨u3.heap.size + 1, 0, none⟩ = some (.bool sr) := fun w' h => (Vr.out.on h).c0
            have z1r : ∀ w', Below Z6.heap.size Z6 w' → w'.cell? ⟨u3.heap.size + 1, 1, none⟩ = some (.slice pr lr cr) := fun w' h => (Vr.out.on h).c1
            have Fr := Lib.hid (fun (w' : World) (h : Below Z6.heap.size Z6 w') => (⟨(Vr.out.on h).num, LR.out⟩ : IsS w' (Value.agg #[.bool sr, .slice pr lr cr]) R 60))
            have z0z : ∀ w', Below Z6.heap.size Z6 w' → w'.cell? ⟨gS, 0, none⟩ = some (.bool false) := fun w' h => (Vz.out.on h).c0
            have z1z : ∀ w', Below Z6.heap.size Z6 w' → w'.cell? ⟨gS, 1, none⟩ = some (.slice pb lb cb) := fun w' h => (Vz.out.on h).c1
            have FZ := Lib.hid (fun (w' : World) (h : Below Z6.heap.size Z6 w') => (⟨(Vz.out.on h).num, by rw [show ((nb.natAbs : Int)).natAbs = nb.natAbs by omega]; exact Lb.out⟩ : IsS w' (Value.agg #[.bool false, .slice pb lb cb]) (nb.natAbs : Int) 60))
            have FR := Lib.hid (fun (w' : World) (h : Below Z6.heap.size Z6 w') => (⟨abs_isI (Vr.out.on h).num, by rw [show ((R.natAbs : Int)).natAbs = R.natAbs by omega]; exact LR.out⟩ : IsS w' (Value.agg #[.bool false, .slice pr lr cr]) (R.natAbs : Int) 60))
            have hrr : Below Z6.heap.size Z6 Z6 := Below.refl _ _
            have hp := Pend.nil Z6
            go_wp2_with fail
            rw [← hZ6]
            clear hZ6
            go_region_held3 (fun w' => Below Z6.heap.size Z6 w')
              (first
                | assumption
                | exact below_drew0 _
                | exact below_drew1 (by assumption))
              (first
                | (go_at_call 65; refine (mul_law _ _ _ _ _ _ _ (by first | exact Fa.out _ (by first | assumption | exact below_drew0 _) | exact Fb.out _ (by first | assumption | exact below_drew0 _) | exact Fq.out _ (by first | assumption | exact below_drew0 _) | exact Fr.out _ (by first | assumption | exact below_drew0 _) | exact hp.g0 | exact hp.g1 | exact hp.g2 | exact hp.d.g0 | exact hp.d.g1 | exact hp.d.g2) (by first | exact Fa.out _ (by first | assumption | exact below_drew0 _) | exact Fb.out _ (by first | assumption | exact below_drew0 _) | exact Fq.out _ (by first | assumption | exact below_drew0 _) | exact Fr.out _ (by first | assumption | exact below_drew0 _) | exact hp.g0 | exact hp.g1 | exact hp.g2 | exact hp.d.g0 | exact hp.d.g1 | exact hp.d.g2) (by decide) (by decide) (by decide)).mono ?_; rintro e wx ⟨⟨t1, t2, t3, t4, rfl, hi⟩, hwr⟩; have hp := (show Pend wx _ from (by first | exact hp.on hwr | exact hp.d.on hwr)).push hi; have belR := below_on (D := Z6) (by first | assumption | exact below_drew0 _) hwr; clear hwr hi)
                | (go_at_call 63; refine (add_law _ _ _ _ _ _ _ (by first | exact Fa.out _ (by first | assumption | exact below_drew0 _) | exact Fb.out _ (by first | assumption | exact below_drew0 _) | exact Fq.out _ (by first | assumption | exact below_drew0 _) | exact Fr.out _ (by first | assumption | exact below_drew0 _) | exact hp.g0 | exact hp.g1 | exact hp.g2 | exact hp.d.g0 | exact hp.d.g1 | exact hp.d.g2) (by first | exact Fa.out _ (by first | assumption | exact below_drew0 _) | exact Fb.out _ (by first | assumption | exact below_drew0 _) | exact Fq.out _ (by first | assumption | exact below_drew0 _) | exact Fr.out _ (by first | assumption | exact below_drew0 _) | exact hp.g0 | exact hp.g1 | exact hp.g2 | exact hp.d.g0 | exact hp.d.g1 | exact hp.d.g2) (by decide) (by decide) (by decide)).mono ?_; rintro e wx ⟨⟨t1, t2, t3, t4, rfl, hi⟩, hwr⟩; have hp := (show Pend wx _ from (by first | exact hp.on hwr | exact hp.d.on hwr)).push hi; have belR := below_on (D := Z6) (by first | assumption | exact below_drew0 _) hwr; clear hwr hi)
                | (go_at_call 62; refine (equal_yes _ _ (Q * nb + R) na _ _ _ (by first | exact Fa.out _ (by first | assumption | exact below_drew0 _) | exact Fb.out _ (by first | assumption | exact below_drew0 _) | exact Fq.out _ (by first | assumption | exact below_drew0 _) | exact Fr.out _ (by first | assumption | exact below_drew0 _) | exact hp.g0 | exact hp.g1 | exact hp.g2 | exact hp.d.g0 | exact hp.d.g1 | exact hp.d.g2) (by first | exact Fa.out _ (by first | assumption | exact below_drew0 _) | exact Fb.out _ (by first | assumption | exact below_drew0 _) | exact Fq.out _ (by first | assumption | exact below_drew0 _) | exact Fr.out _ (by first | assumption | exact below_drew0 _) | exact hp.g0 | exact hp.g1 | exact hp.g2 | exact hp.d.g0 | exact hp.d.g1 | exact hp.d.g2) HEQ.out).mono ?_; rintro e wx ⟨rfl, hwr⟩; have hp := Pend.nil wx; have belR := below_on (D := Z6) (by first | assumption | exact below_drew0 _) hwr; clear hwr)
                | (go_at_call 66; refine (cmp_is _ _ (R.natAbs : Int) (nb.natAbs : Int) (-1) 60 60 _ (FR.out _ (by first | assumption | exact below_drew0 _)) (FZ.out _ (by first | assumption | exact below_drew0 _)) (by decide) (by decide) (cmp_less (by have := HLS.out; omega))).mono ?_; rintro e wx ⟨rfl, hwr⟩; have belR := below_on (D := Z6) (by first | assumption | exact below_drew0 _) hwr; clear hwr))
            have hs : Below Z6.heap.size Z6 wx := by assumption
            have Ya := Lib.hid (Va.out.on hs)
            clear Va
            have Va := Ya
            clear Ya
            have Yb := Lib.hid (Vb.out.on hs)
            clear Vb
            have Vb := Yb
            clear Yb
            have Yz := Lib.hid (Vz.out.on hs)
            clear Vz
            have Vz := Yz
            clear Yz
            have Yl := Lib.hid (Vl.out.on hs)
            clear Vl
            have Vl := Yl
            clear Yl
            have Ym := Lib.hid (Vm.out.on hs)
            clear Vm
            have Vm := Ym
            clear Ym
            have Yq := Lib.hid (Vq.out.on hs)
            clear Vq
            have Vq := Yq
            clear Yq
            have Yr := Lib.hid (Vr.out.on hs)
            clear Vr
            have Vr := Yr
            clear Yr
            have HB7 := Lib.hid (HB6.out.trans (hs.mono HB6.out.size))
            clear hs HB6 z0z z1z FZ FR hrr hp z0a z1a Fa z0b z1b Fb z0q z1q Fq z0r z1r Fr
            obtain ⟨X, hX⟩ : ∃ X, X = wx := ⟨_, rfl⟩
            rw [← hX] at Va Vb Vz Vl Vm Vq Vr HB7 ⊢
            clear hX
            have hsr := isI_sign Vr.out.num
            have hsa := isI_sign Va.out.num
            have hsb := isI_sign Vb.out.num
            have HSR := Lib.hid (And.intro hsr (And.intro hsa hsb))
            clear hsr hsa hsb
            have nLs := NE.out
            have m1 : ¬ u3.heap.size = w3.heap.size := by omega
            have m2 : ¬ w3.heap.size = u3.heap.size := by omega
            have m3 : ¬ u3.heap.size = w4.heap.size := by omega
            have m4 : ¬ w4.heap.size = u3.heap.size := by omega
            have m5 : ¬ w3.heap.size = w4.heap.size := by omega
            have m6 : ¬ w4.heap.size = w3.heap.size := by omega
            clear nLs
            have c0a := Va.out.c0
            have c1a := Va.out.c1
            have c0b := Vb.out.c0
            have c1b := Vb.out.c1
            have c0q := Vq.out.c0
            have c1q := Vq.out.c1
            have c0r := Vr.out.c0
            have c1r := Vr.out.c1
            have c0l := Vl.out.c0
            have c1l := Vl.out.c1
            have c0m := Vm.out.c0
            have c1m := Vm.out.c1
            have f0l := frozen_of_row _ _ 0 _ _ Vl.out.row
            have f1l := frozen_of_row _ _ 1 _ _ Vl.out.row
            have f0m := frozen_of_row _ _ 0 _ _ Vm.out.row
            have f1m := frozen_of_row _ _ 1 _ _ Vm.out.row
            by_cases hr0 : lr = 0
            · subst hr0
              obtain ⟨K1, hK1⟩ : ∃ K1, K1 = cmpI Q nl := ⟨_, rfl⟩
              have HC := Lib.hid (cmp_is _ _ Q nl K1 61 61 X ⟨Vq.out.num, LQ.out⟩ ⟨Vl.out.num, HLl.out.1⟩ (by decide) (by decide) hK1.symm)
              clear hK1
              go_wp2_with fail
              refine HC.out.mono ?_
              rintro e x1 ⟨rfl, hs⟩
              clear HC
              clear c0a c1a c0b c1b c0q c1q c0r c1r c0l c1l c0m c1m f0l f1l f0m f1m
              have Ya := Lib.hid (Va.out.on hs)
              clear Va
              have Va := Ya
              clear Ya
              have Yb := Lib.hid (Vb.out.on hs)
              clear Vb
              have Vb := Yb
              clear Yb
              have Yz := Lib.hid (Vz.out.on hs)
              clear Vz
              have Vz := Yz
              clear Yz
              have Yl := Lib.hid (Vl.out.on hs)
              clear Vl
              have Vl := Yl
              clear Yl
              have Ym := Lib.hid (Vm.out.on hs)
              clear Vm
              have Vm := Ym
              clear Ym
              have Yq := Lib.hid (Vq.out.on hs)
              clear Vq
              have Vq := Yq
              clear Yq
              have HB8 := Lib.hid (HB7.out.trans (hs.mono HB7.out.size))
              clear hs
              have c0q := Vq.out.c0
              have c1q := Vq.out.c1
              have c0l := Vl.out.c0
              have c1l := Vl.out.c1
              have c0m := Vm.out.c0
              have c1m := Vm.out.c1
              have f0l := frozen_of_row _ _ 0 _ _ Vl.out.row
              have f1l := frozen_of_row _ _ 1 _ _ Vl.out.row
              by_cases q1 : K1 < 0
              · have d1 : decide (K1 < 0) = true := decide_eq_true q1
                clear q1
                go_wp2_with fail
                obtain ⟨X2, hX2⟩ : ∃ X2, X2 = (x1.setCell ⟨w3.heap.size, 0, none⟩ (.bool sq)).setCell ⟨w3.heap.size, 1, none⟩ (.slice pq lq cq) := ⟨_, rfl⟩
                rw [← hX2]
                have Ya := Lib.hid (hX2 ▸ (Va.out.store (by have := NE.out; omega) Vl.out.row) : Kept X2 _ _ _ _ _ _)
                have Yb := Lib.hid (hX2 ▸ (Vb.out.store (by have := NE.out; omega) Vl.out.row) : Kept X2 _ _ _ _ _ _)
                have Yz := Lib.hid (hX2 ▸ (Vz.out.store (by have := NE.out; omega) Vl.out.row) : Kept X2 _ _ _ _ _ _)
                have Ym := Lib.hid (hX2 ▸ (Vm.out.store (by have := NE.out; omega) Vl.out.row) : Kept X2 _ _ _ _ _ _)
                have Yq := Lib.hid (hX2 ▸ (Vq.out.store (by have := NE.out; omega) Vl.out.row) : Kept X2 _ _ _ _ _ _)
                have Yl := Lib.hid (hX2 ▸ (Vq.out.put Vl.out.row) : Kept X2 _ _ _ _ _ _)
                have HBX := Lib.hid (hX2 ▸ (below_ibox (g := w3.heap.size) HB8.out (by have := NE.out; omega) (.bool sq) (.slice pq lq cq)) : Below w.heap.size w X2)
                clear Va Vb Vz Vm Vq Vl HB8 HLl hX2
                have HLl := Lib.hid (And.intro LQ.out (fun _ : (2 : Int) ≤ 3 => HTQ.out))
                have Va := Ya
                have Vb := Yb
                have Vz := Yz
                have Vm := Ym
                have Vq := Yq
                have Vl := Yl
                clear Ya Yb Yz Ym Yq Yl c0q c1q c0l c1l c0m c1m f0l f1l
                obtain ⟨K2, hK2⟩ : ∃ K2, K2 = cmpI Q nm := ⟨_, rfl⟩
                have HC := Lib.hid (cmp_is _ _ Q nm K2 61 61 X2 ⟨Vq.out.num, LQ.out⟩ ⟨Vm.out.num, HLm.out.1⟩ (by decide) (by decide) hK2.symm)
                clear hK2
                refine HC.out.mono ?_
                rintro e x3 ⟨rfl, hs⟩
                clear HC
                have Ya := Lib.hid (Va.out.on hs)
                clear Va
                have Va := Ya
                clear Ya
                have Yb := Lib.hid (Vb.out.on hs)
                clear Vb
                have Vb := Yb
                clear Yb
                have Yz := Lib.hid (Vz.out.on hs)
                clear Vz
                have Vz := Yz
                clear Yz
                have Yl := Lib.hid (Vl.out.on hs)
                clear Vl
                have Vl := Yl
                clear Yl
                have Ym := Lib.hid (Vm.out.on hs)
                clear Vm
                have Vm := Ym
                clear Ym
                have Yq := Lib.hid (Vq.out.on hs)
                clear Vq
                have Vq := Yq
                clear Yq
                have HB9 := Lib.hid (HBX.out.trans (hs.mono HBX.out.size))
                clear hs
                have c0q := Vq.out.c0
                have c1q := Vq.out.c1
                have c0m := Vm.out.c0
                have c1m := Vm.out.c1
                have f0m := frozen_of_row _ _ 0 _ _ Vm.out.row
                have f1m := frozen_of_row _ _ 1 _ _ Vm.out.row
                by_cases q2 : K2 > 0
                · have d2 : decide (K2 > 0) = true := decide_eq_true q2
                  have d2' : decide (0 < K2) = true := decide_eq_true q2
                  clear q2
                  go_wp2_with fail
                  go_roundw
                  case rel =>
                    exact ⟨4, by decide, by first | rfl | go_num, ⟨below_ibox (g := w4.heap.size) HB9.out (by have := NE.out; omega) _ _, Va.out.store (by have := NE.out; omega) Vm.out.row, Vb.out.store (by have := NE.out; omega) Vm.out.row, Vz.out.store (by have := NE.out; omega) Vm.out.row, ⟨_, _, _, _, _, Vl.out.store (by have := NE.out; omega) Vm.out.row, HLl.out.1, fun _ => HLl.out.2 (by decide)⟩, ⟨_, _, _, _, _, Vq.out.put Vm.out.row, LQ.out, fun _ => HTQ.out⟩⟩⟩
                  case measure => simp [intOf]
                · have d2 : decide (K2 > 0) = false := decide_eq_false q2
                  have d2' : decide (0 < K2) = false := decide_eq_false q2
                  clear q2
                  go_wp2_with fail
                  go_roundw
                  case rel =>
                    exact ⟨4, by decide, by first | rfl | go_num, ⟨HB9.out, Va.out, Vb.out, Vz.out, ⟨_, _, _, _, _, Vl.out, HLl.out.1, fun _ => HLl.out.2 (by decide)⟩, ⟨_, _, _, _, _, Vm.out, HLm.out.1, fun _ => HLm.out.2 (by decide)⟩⟩⟩
                  case measure => simp [intOf]
              · have d1 : decide (K1 < 0) = false := decide_eq_false q1
                clear q1
                go_wp2_with fail
                clear c0q c1q c0l c1l c0m c1m f0l f1l
                obtain ⟨K2, hK2⟩ : ∃ K2, K2 = cmpI Q nm := ⟨_, rfl⟩
                have HC := Lib.hid (cmp_is _ _ Q nm K2 61 61 x1 ⟨Vq.out.num, LQ.out⟩ ⟨Vm.out.num, HLm.out.1⟩ (by decide) (by decide) hK2.symm)
                clear hK2
                refine HC.out.mono ?_
                rintro e x3 ⟨rfl, hs⟩
                clear HC
                have Ya := Lib.hid (Va.out.on hs)
                clear Va
                have Va := Ya
                clear Ya
                have Yb := Lib.hid (Vb.out.on hs)
                clear Vb
                have Vb := Yb
                clear Yb
                have Yz := Lib.hid (Vz.out.on hs)
                clear Vz
                have Vz := Yz
                clear Yz
                have Yl := Lib.hid (Vl.out.on hs)
                clear Vl
                have Vl := Yl
                clear Yl
                have Ym := Lib.hid (Vm.out.on hs)
                clear Vm
                have Vm := Ym
                clear Ym
                have Yq := Lib.hid (Vq.out.on hs)
                clear Vq
                have Vq := Yq
                clear Yq
                have HB9 := Lib.hid (HB8.out.trans (hs.mono HB8.out.size))
                clear hs
                have c0q := Vq.out.c0
                have c1q := Vq.out.c1
                have c0m := Vm.out.c0
                have c1m := Vm.out.c1
                have f0m := frozen_of_row _ _ 0 _ _ Vm.out.row
                have f1m := frozen_of_row _ _ 1 _ _ Vm.out.row
                by_cases q2 : K2 > 0
                · have d2 : decide (K2 > 0) = true := decide_eq_true q2
                  have d2' : decide (0 < K2) = true := decide_eq_true q2
                  clear q2
                  go_wp2_with fail
                  go_roundw
                  case rel =>
                    exact ⟨4, by decide, by first | rfl | go_num, ⟨below_ibox (g := w4.heap.size) HB9.out (by have := NE.out; omega) _ _, Va.out.store (by have := NE.out; omega) Vm.out.row, Vb.out.store (by have := NE.out; omega) Vm.out.row, Vz.out.store (by have := NE.out; omega) Vm.out.row, ⟨_, _, _, _, _, Vl.out.store (by have := NE.out; omega) Vm.out.row, HLl.out.1, fun _ => HLl.out.2 (by decide)⟩, ⟨_, _, _, _, _, Vq.out.put Vm.out.row, LQ.out, fun _ => HTQ.out⟩⟩⟩
                  case measure => simp [intOf]
                · have d2 : decide (K2 > 0) = false := decide_eq_false q2
                  have d2' : decide (0 < K2) = false := decide_eq_false q2
                  clear q2
                  go_wp2_with fail
                  go_roundw
                  case rel =>
                    exact ⟨4, by decide, by first | rfl | go_num, ⟨HB9.out, Va.out, Vb.out, Vz.out, ⟨_, _, _, _, _, Vl.out, HLl.out.1, fun _ => HLl.out.2 (by decide)⟩, ⟨_, _, _, _, _, Vm.out, HLm.out.1, fun _ => HLm.out.2 (by decide)⟩⟩⟩
                  case measure => simp [intOf]
            · have er : ((lr : Int) == 0) = false := by rw [beq_eq_false_iff_ne]; omega
              have hRn : R ≠ 0 := fun h => hr0 (by rw [HSR.out.1.2, h]; show (Nl.limbs 0).length = 0; rw [Nl.limbs_zero]; rfl)
              have es : (!sr) = true := by rw [HSR.out.1.1, HQR.out.2, divR_euclid_way na nb HNB.out]; rfl
              clear hRn hr0
              obtain ⟨K1, hK1⟩ : ∃ K1, K1 = cmpI Q nl := ⟨_, rfl⟩
              have HC := Lib.hid (cmp_is _ _ Q nl K1 61 61 X ⟨Vq.out.num, LQ.out⟩ ⟨Vl.out.num, HLl.out.1⟩ (by decide) (by decide) hK1.symm)
              clear hK1
              go_wp2_with fail
              refine HC.out.mono ?_
              rintro e x1 ⟨rfl, hs⟩
              clear HC
              clear c0a c1a c0b c1b c0q c1q c0r c1r c0l c1l c0m c1m f0l f1l f0m f1m
              have Ya := Lib.hid (Va.out.on hs)
              clear Va
              have Va := Ya
              clear Ya
              have Yb := Lib.hid (Vb.out.on hs)
              clear Vb
              have Vb := Yb
              clear Yb
              have Yz := Lib.hid (Vz.out.on hs)
              clear Vz
              have Vz := Yz
              clear Yz
              have Yl := Lib.hid (Vl.out.on hs)
              clear Vl
              have Vl := Yl
              clear Yl
              have Ym := Lib.hid (Vm.out.on hs)
              clear Vm
              have Vm := Ym
              clear Ym
              have Yq := Lib.hid (Vq.out.on hs)
              clear Vq
              have Vq := Yq
              clear Yq
              have HB8 := Lib.hid (HB7.out.trans (hs.mono HB7.out.size))
              clear hs
              have c0q := Vq.out.c0
              have c1q := Vq.out.c1
              have c0l := Vl.out.c0
              have c1l := Vl.out.c1
              have c0m := Vm.out.c0
              have c1m := Vm.out.c1
              have f0l := frozen_of_row _ _ 0 _ _ Vl.out.row
              have f1l := frozen_of_row _ _ 1 _ _ Vl.out.row
              by_cases q1 : K1 < 0
              · have d1 : decide (K1 < 0) = true := decide_eq_true q1
                clear q1
                go_wp2_with fail
                obtain ⟨X2, hX2⟩ : ∃ X2, X2 = (x1.setCell ⟨w3.heap.size, 0, none⟩ (.bool sq)).setCell ⟨w3.heap.size, 1, none⟩ (.slice pq lq cq) := ⟨_, rfl⟩
                rw [← hX2]
                have Ya := Lib.hid (hX2 ▸ (Va.out.store (by have := NE.out; omega) Vl.out.row) : Kept X2 _ _ _ _ _ _)
                have Yb := Lib.hid (hX2 ▸ (Vb.out.store (by have := NE.out; omega) Vl.out.row) : Kept X2 _ _ _ _ _ _)
                have Yz := Lib.hid (hX2 ▸ (Vz.out.store (by have := NE.out; omega) Vl.out.row) : Kept X2 _ _ _ _ _ _)
                have Ym := Lib.hid (hX2 ▸ (Vm.out.store (by have := NE.out; omega) Vl.out.row) : Kept X2 _ _ _ _ _ _)
                have Yq := Lib.hid (hX2 ▸ (Vq.out.store (by have := NE.out; omega) Vl.out.row) : Kept X2 _ _ _ _ _ _)
                have Yl := Lib.hid (hX2 ▸ (Vq.out.put Vl.out.row) : Kept X2 _ _ _ _ _ _)
                have HBX := Lib.hid (hX2 ▸ (below_ibox (g := w3.heap.size) HB8.out (by have := NE.out; omega) (.bool sq) (.slice pq lq cq)) : Below w.heap.size w X2)
                clear Va Vb Vz Vm Vq Vl HB8 HLl hX2
                have HLl := Lib.hid (And.intro LQ.out (fun _ : (2 : Int) ≤ 3 => HTQ.out))
                have Va := Ya
                have Vb := Yb
                have Vz := Yz
                have Vm := Ym
                have Vq := Yq
                have Vl := Yl
                clear Ya Yb Yz Ym Yq Yl c0q c1q c0l c1l c0m c1m f0l f1l
                obtain ⟨K2, hK2⟩ : ∃ K2, K2 = cmpI Q nm := ⟨_, rfl⟩
                have HC := Lib.hid (cmp_is _ _ Q nm K2 61 61 X2 ⟨Vq.out.num, LQ.out⟩ ⟨Vm.out.num, HLm.out.1⟩ (by decide) (by decide) hK2.symm)
                clear hK2
                refine HC.out.mono ?_
                rintro e x3 ⟨rfl, hs⟩
                clear HC
                have Ya := Lib.hid (Va.out.on hs)
                clear Va
                have Va := Ya
                clear Ya
                have Yb := Lib.hid (Vb.out.on hs)
                clear Vb
                have Vb := Yb
                clear Yb
                have Yz := Lib.hid (Vz.out.on hs)
                clear Vz
                have Vz := Yz
                clear Yz
                have Yl := Lib.hid (Vl.out.on hs)
                clear Vl
                have Vl := Yl
                clear Yl
                have Ym := Lib.hid (Vm.out.on hs)
                clear Vm
                have Vm := Ym
                clear Ym
                have Yq := Lib.hid (Vq.out.on hs)
                clear Vq
                have Vq := Yq
                clear Yq
                have HB9 := Lib.hid (HBX.out.trans (hs.mono HBX.out.size))
                clear hs
                have c0q := Vq.out.c0
                have c1q := Vq.out.c1
                have c0m := Vm.out.c0
                have c1m := Vm.out.c1
                have f0m := frozen_of_row _ _ 0 _ _ Vm.out.row
                have f1m := frozen_of_row _ _ 1 _ _ Vm.out.row
                by_cases q2 : K2 > 0
                · have d2 : decide (K2 > 0) = true := decide_eq_true q2
                  have d2' : decide (0 < K2) = true := decide_eq_true q2
                  clear q2
                  go_wp2_with fail
                  go_roundw
                  case rel =>
                    exact ⟨4, by decide, by first | rfl | go_num, ⟨below_ibox (g := w4.heap.size) HB9.out (by have := NE.out; omega) _ _, Va.out.store (by have := NE.out; omega) Vm.out.row, Vb.out.store (by have := NE.out; omega) Vm.out.row, Vz.out.store (by have := NE.out; omega) Vm.out.row, ⟨_, _, _, _, _, Vl.out.store (by have := NE.out; omega) Vm.out.row, HLl.out.1, fun _ => HLl.out.2 (by decide)⟩, ⟨_, _, _, _, _, Vq.out.put Vm.out.row, LQ.out, fun _ => HTQ.out⟩⟩⟩
                  case measure => simp [intOf]
                · have d2 : decide (K2 > 0) = false := decide_eq_false q2
                  have d2' : decide (0 < K2) = false := decide_eq_false q2
                  clear q2
                  go_wp2_with fail
                  go_roundw
                  case rel =>
                    exact ⟨4, by decide, by first | rfl | go_num, ⟨HB9.out, Va.out, Vb.out, Vz.out, ⟨_, _, _, _, _, Vl.out, HLl.out.1, fun _ => HLl.out.2 (by decide)⟩, ⟨_, _, _, _, _, Vm.out, HLm.out.1, fun _ => HLm.out.2 (by decide)⟩⟩⟩
                  case measure => simp [intOf]
              · have d1 : decide (K1 < 0) = false := decide_eq_false q1
                clear q1
                go_wp2_with fail
                clear c0q c1q c0l c1l c0m c1m f0l f1l
                obtain ⟨K2, hK2⟩ : ∃ K2, K2 = cmpI Q nm := ⟨_, rfl⟩
                have HC := Lib.hid (cmp_is _ _ Q nm K2 61 61 x1 ⟨Vq.out.num, LQ.out⟩ ⟨Vm.out.num, HLm.out.1⟩ (by decide) (by decide) hK2.symm)
                clear hK2
                refine HC.out.mono ?_
                rintro e x3 ⟨rfl, hs⟩
                clear HC
                have Ya := Lib.hid (Va.out.on hs)
                clear Va
                have Va := Ya
                clear Ya
                have Yb := Lib.hid (Vb.out.on hs)
                clear Vb
                have Vb := Yb
                clear Yb
                have Yz := Lib.hid (Vz.out.on hs)
                clear Vz
                have Vz := Yz
                clear Yz
                have Yl := Lib.hid (Vl.out.on hs)
                clear Vl
                have Vl := Yl
                clear Yl
                have Ym := Lib.hid (Vm.out.on hs)
                clear Vm
                have Vm := Ym
                clear Ym
                have Yq := Lib.hid (Vq.out.on hs)
                clear Vq
                have Vq := Yq
                clear Yq
                have HB9 := Lib.hid (HB8.out.trans (hs.mono HB8.out.size))
                clear hs
                have c0q := Vq.out.c0
                have c1q := Vq.out.c1
                have c0m := Vm.out.c0
                have c1m := Vm.out.c1
                have f0m := frozen_of_row _ _ 0 _ _ Vm.out.row
                have f1m := frozen_of_row _ _ 1 _ _ Vm.out.row
                by_cases q2 : K2 > 0
                · have d2 : decide (K2 > 0) = true := decide_eq_true q2
                  have d2' : decide (0 < K2) = true := decide_eq_true q2
                  clear q2
                  go_wp2_with fail
                  go_roundw
                  case rel =>
                    exact ⟨4, by decide, by first | rfl | go_num, ⟨below_ibox (g := w4.heap.size) HB9.out (by have := NE.out; omega) _ _, Va.out.store (by have := NE.out; omega) Vm.out.row, Vb.out.store (by have := NE.out; omega) Vm.out.row, Vz.out.store (by have := NE.out; omega) Vm.out.row, ⟨_, _, _, _, _, Vl.out.store (by have := NE.out; omega) Vm.out.row, HLl.out.1, fun _ => HLl.out.2 (by decide)⟩, ⟨_, _, _, _, _, Vq.out.put Vm.out.row, LQ.out, fun _ => HTQ.out⟩⟩⟩
                  case measure => simp [intOf]
                · have d2 : decide (K2 > 0) = false := decide_eq_false q2
                  have d2' : decide (0 < K2) = false := decide_eq_false q2
                  clear q2
                  go_wp2_with fail
                  go_roundw
                  case rel =>
                    exact ⟨4, by decide, by first | rfl | go_num, ⟨HB9.out, Va.out, Vb.out, Vz.out, ⟨_, _, _, _, _, Vl.out, HLl.out.1, fun _ => HLl.out.2 (by decide)⟩, ⟨_, _, _, _, _, Vm.out, HLm.out.1, fun _ => HLm.out.2 (by decide)⟩⟩⟩
                  case measure => simp [intOf]
        · as_aux_lemma =>
            have c0a := Va.out.c0
            have c1a := Va.out.c1
            have c0b := Vb.out.c0
            have c1b := Vb.out.c1
            have HC := Lib.hid (wDivL _ _ na nb 4 4 rfl wr Va.out.num Vb.out.num (Nat.le_trans La.out (by decide)) (Nat.le_trans Lb.out (by decide)) HNB.out (by decide) (by decide))
            go_wp2_with fail
            refine HC.out.mono ?_
            rintro e u3 ⟨⟨sq, pq, lq, cq, sr, pr, lr, cr, rfl, hiq, hir⟩, hbx⟩
            obtain ⟨Q, hQ⟩ : ∃ Q, Q = divQ 4 na nb := ⟨_, rfl⟩
            obtain ⟨R, hR⟩ : ∃ R, R = divR 4 na nb := ⟨_, rfl⟩
            rw [← hQ] at hiq
            rw [← hR] at hir
            have HQR := Lib.hid (And.intro hQ hR)
            have HEQ := Lib.hid (show Q * nb + R = na by have := divR_eq 4 na nb HNB.out; rw [← hQ, ← hR] at this; omega)
            have HLS := Lib.hid (show R.natAbs < nb.natAbs by rw [hR]; exact divR_less 4 na nb HNB.out)
            have LQ := Lib.hid (show (Nl.limbs Q.natAbs).length ≤ 61 by rw [hQ]; exact divQ_words 4 na nb 60 La.out)
            have LR := Lib.hid (show (Nl.limbs R.natAbs).length ≤ 60 by rw [hR]; exact divR_words 4 na nb 60 Lb.out HNB.out)
            have HTQ := Lib.hid (show TwoQ na nb Q by rw [TwoQ, hQ]; exact divQ_two 4 na nb)
            clear hQ hR
            obtain ⟨Z6, hZ6⟩ : ∃ Z6, Z6 = (u3.alloc (.cells #[.bool sq, .slice pq lq cq] 25)).alloc (.cells #[.bool sr, .slice pr lr cr] 25) := ⟨_, rfl⟩
            have hz : Below u3.heap.size u3 Z6 := by rw [hZ6]; exact two_new _ _ _
            have Rq : Z6.heap[u3.heap.size]? = some (.cells #[.bool sq, .slice pq lq cq] 25 (0, 0)) := by rw [hZ6]; exact heap_alloc2_old _ _ _
            have Rr : Z6.heap[u3.heap.size + 1]? = some (.cells #[.bool sr, .slice pr lr cr] 25 (0, 0)) := by rw [hZ6]; exact heap_alloc2_new _ _ _
            have Vq := Lib.hid (Kept.mk Rq (AtI.below hiq hz))
            have Vr := Lib.hid (Kept.mk Rr (AtI.below hir hz))
            have hs := hbx.trans (hz.mono hbx.size)
            have NE := Lib.hid (show w.heap.size + 1 < w3.heap.size ∧ w3.heap.size < w4.heap.size ∧ w4.heap.size < gS ∧ gS < u3.heap.size from ⟨HGL.out, HGM.out, HGS.out, Nat.lt_of_lt_of_le (lt_of_block Vz.out.row) hbx.size⟩)
            have Ya := Lib.hid (Va.out.on hs)
            clear Va
            have Va := Ya
            clear Ya
            have Yb := Lib.hid (Vb.out.on hs)
            clear Vb
            have Vb := Yb
            clear Yb
            have Yz := Lib.hid (Vz.out.on hs)
            clear Vz
            have Vz := Yz
            clear Yz
            have Yl := Lib.hid (Vl.out.on hs)
            clear Vl
            have Vl := Yl
            clear Yl
            have Ym := Lib.hid (Vm.out.on hs)
            clear Vm
            have Vm := Ym
            clear Ym
            have HB6 := Lib.hid (HB.out.trans (hs.mono HB.out.size))
            clear c0a c1a c0b c1b
            clear hbx hz hiq hir Rq Rr hs HC HB
            have z0a : ∀ w', Below Z6.heap.size Z6 w' → w'.cell? ⟨w.heap.size, 0, none⟩ = some (.bool sa) := fun w' h => (Va.out.on h).c0
            have z1a : ∀ w', Below Z6.heap.size Z6 w' → w'.cell? ⟨w.heap.size, 1, none⟩ = some (.slice pa la ca) := fun w' h => (Va.out.on h).c1
            have Fa := Lib.hid (fun (w' : World) (h : Below Z6.heap.size Z6 w') => (⟨(Va.out.on h).num, La.out⟩ : IsS w' (Value.agg #[.bool sa, .slice pa la ca]) na 60))
            have z0b : ∀ w', Below Z6.heap.size Z6 w' → w'.cell? ⟨w.heap.size + 1, 0, none⟩ = some (.bool sb) := fun w' h => (Vb.out.on h).c0
            have z1b : ∀ w', Below Z6.heap.size Z6 w' → w'.cell? ⟨w.heap.size + 1, 1, none⟩ = some (.slice pb lb cb) := fun w' h => (Vb.out.on h).c1
            have Fb := Lib.hid (fun (w' : World) (h : Below Z6.heap.size Z6 w') => (⟨(Vb.out.on h).num, Lb.out⟩ : IsS w' (Value.agg #[.bool sb, .slice pb lb cb]) nb 60))
            have z0q : ∀ w', Below Z6.heap.size Z6 w' → w'.cell? ⟨u3.heap.size, 0, none⟩ = some (.bool sq) := fun w' h => (Vq.out.on h).c0
            have z1q : ∀ w', Below Z6.heap.size Z6 w' → w'.cell? ⟨u3.heap.size, 1, none⟩ = some (.slice pq lq cq) := fun w' h => (Vq.out.on h).c1
            have Fq := Lib.hid (fun (w' : World) (h : Below Z6.heap.size Z6 w') => (⟨(Vq.out.on h).num, LQ.out⟩ : IsS w' (Value.agg #[.bool sq, .slice pq lq cq]) Q 61))
            have z0r : ∀ w', Below Z6.heap.size Z6 w' → w'.cell? ⟨u3.heap.size + 1, 0, none⟩ = some (.bool sr) := fun w' h => (Vr.out.on h).c0
            have z1r : ∀ w', Below Z6.heap.size Z6 w' → w'.cell? ⟨u3.heap.size + 1, 1, none⟩ = some (.slice pr lr cr) := fun w' h => (Vr.out.on h).c1
            have Fr := Lib.hid (fun (w' : World) (h : Below Z6.heap.size Z6 w') => (⟨(Vr.out.on h).num, LR.out⟩ : IsS w' (Value.agg #[.bool sr, .slice pr lr cr]) R 60))
            have z0z : ∀ w', Below Z6.heap.size Z6 w' → w'.cell? ⟨gS, 0, none⟩ = some (.bool false) := fun w' h => (Vz.out.on h).c0
            have z1z : ∀ w', Below Z6.heap.size Z6 w' → w'.cell? ⟨gS, 1, none⟩ = some (.slice pb lb cb) := fun w' h => (Vz.out.on h).c1
            have FZ := Lib.hid (fun (w' : World) (h : Below Z6.heap.size Z6 w') => (⟨(Vz.out.on h).num, by rw [show ((nb.natAbs : Int)).natAbs = nb.natAbs by omega]; exact Lb.out⟩ : IsS w' (Value.agg #[.bool false, .slice pb lb cb]) (nb.natAbs : Int) 60))
            have FR := Lib.hid (fun (w' : World) (h : Below Z6.heap.size Z6 w') => (⟨abs_isI (Vr.out.on h).num, by rw [show ((R.natAbs : Int)).natAbs = R.natAbs by omega]; exact LR.out⟩ : IsS w' (Value.agg #[.bool false, .slice pr lr cr]) (R.natAbs : Int) 60))
            have hrr : Below Z6.heap.size Z6 Z6 := Below.refl _ _
            have hp := Pend.nil Z6
            go_wp2_with fail
            rw [← hZ6]
            clear hZ6
            go_region_held3 (fun w' => Below Z6.heap.size Z6 w')
              (first
                | assumption
                | exact below_drew0 _
                | exact below_drew1 (by assumption))
              (first
                | (go_at_call 65; refine (mul_law _ _ _ _ _ _ _ (by first | exact Fa.out _ (by first | assumption | exact below_drew0 _) | exact Fb.out _ (by first | assumption | exact below_drew0 _) | exact Fq.out _ (by first | assumption | exact below_drew0 _) | exact Fr.out _ (by first | assumption | exact below_drew0 _) | exact hp.g0 | exact hp.g1 | exact hp.g2 | exact hp.d.g0 | exact hp.d.g1 | exact hp.d.g2) (by first | exact Fa.out _ (by first | assumption | exact below_drew0 _) | exact Fb.out _ (by first | assumption | exact below_drew0 _) | exact Fq.out _ (by first | assumption | exact below_drew0 _) | exact Fr.out _ (by first | assumption | exact below_drew0 _) | exact hp.g0 | exact hp.g1 | exact hp.g2 | exact hp.d.g0 | exact hp.d.g1 | exact hp.d.g2) (by decide) (by decide) (by decide)).mono ?_; rintro e wx ⟨⟨t1, t2, t3, t4, rfl, hi⟩, hwr⟩; have hp := (show Pend wx _ from (by first | exact hp.on hwr | exact hp.d.on hwr)).push hi; have belR := below_on (D := Z6) (by first | assumption | exact below_drew0 _) hwr; clear hwr hi)
                | (go_at_call 63; refine (add_law _ _ _ _ _ _ _ (by first | exact Fa.out _ (by first | assumption | exact below_drew0 _) | exact Fb.out _ (by first | assumption | exact below_drew0 _) | exact Fq.out _ (by first | assumption | exact below_drew0 _) | exact Fr.out _ (by first | assumption | exact below_drew0 _) | exact hp.g0 | exact hp.g1 | exact hp.g2 | exact hp.d.g0 | exact hp.d.g1 | exact hp.d.g2) (by first | exact Fa.out _ (by first | assumption | exact below_drew0 _) | exact Fb.out _ (by first | assumption | exact below_drew0 _) | exact Fq.out _ (by first | assumption | exact below_drew0 _) | exact Fr.out _ (by first | assumption | exact below_drew0 _) | exact hp.g0 | exact hp.g1 | exact hp.g2 | exact hp.d.g0 | exact hp.d.g1 | exact hp.d.g2) (by decide) (by decide) (by decide)).mono ?_; rintro e wx ⟨⟨t1, t2, t3, t4, rfl, hi⟩, hwr⟩; have hp := (show Pend wx _ from (by first | exact hp.on hwr | exact hp.d.on hwr)).push hi; have belR := below_on (D := Z6) (by first | assumption | exact below_drew0 _) hwr; clear hwr hi)
                | (go_at_call 62; refine (equal_yes _ _ (Q * nb + R) na _ _ _ (by first | exact Fa.out _ (by first | assumption | exact below_drew0 _) | exact Fb.out _ (by first | assumption | exact below_drew0 _) | exact Fq.out _ (by first | assumption | exact below_drew0 _) | exact Fr.out _ (by first | assumption | exact below_drew0 _) | exact hp.g0 | exact hp.g1 | exact hp.g2 | exact hp.d.g0 | exact hp.d.g1 | exact hp.d.g2) (by first | exact Fa.out _ (by first | assumption | exact below_drew0 _) | exact Fb.out _ (by first | assumption | exact below_drew0 _) | exact Fq.out _ (by first | assumption | exact below_drew0 _) | exact Fr.out _ (by first | assumption | exact below_drew0 _) | exact hp.g0 | exact hp.g1 | exact hp.g2 | exact hp.d.g0 | exact hp.d.g1 | exact hp.d.g2) HEQ.out).mono ?_; rintro e wx ⟨rfl, hwr⟩; have hp := Pend.nil wx; have belR := below_on (D := Z6) (by first | assumption | exact below_drew0 _) hwr; clear hwr)
                | (go_at_call 66; refine (cmp_is _ _ (R.natAbs : Int) (nb.natAbs : Int) (-1) 60 60 _ (FR.out _ (by first | assumption | exact below_drew0 _)) (FZ.out _ (by first | assumption | exact below_drew0 _)) (by decide) (by decide) (cmp_less (by have := HLS.out; omega))).mono ?_; rintro e wx ⟨rfl, hwr⟩; have belR := below_on (D := Z6) (by first | assumption | exact below_drew0 _) hwr; clear hwr))
            have hs : Below Z6.heap.size Z6 wx := by assumption
            have Ya := Lib.hid (Va.out.on hs)
            clear Va
            have Va := Ya
            clear Ya
            have Yb := Lib.hid (Vb.out.on hs)
            clear Vb
            have Vb := Yb
            clear Yb
            have Yz := Lib.hid (Vz.out.on hs)
            clear Vz
            have Vz := Yz
            clear Yz
            have Yl := Lib.hid (Vl.out.on hs)
            clear Vl
            have Vl := Yl
            clear Yl
            have Ym := Lib.hid (Vm.out.on hs)
            clear Vm
            have Vm := Ym
            clear Ym
            have Yq := Lib.hid (Vq.out.on hs)
            clear Vq
            have Vq := Yq
            clear Yq
            have Yr := Lib.hid (Vr.out.on hs)
            clear Vr
            have Vr := Yr
            clear Yr
            have HB7 := Lib.hid (HB6.out.trans (hs.mono HB6.out.size))
            clear hs HB6 z0z z1z FZ FR hrr hp z0a z1a Fa z0b z1b Fb z0q z1q Fq z0r z1r Fr
            obtain ⟨X, hX⟩ : ∃ X, X = wx := ⟨_, rfl⟩
            rw [← hX] at Va Vb Vz Vl Vm Vq Vr HB7 ⊢
            clear hX
            have hsr := isI_sign Vr.out.num
            have hsa := isI_sign Va.out.num
            have hsb := isI_sign Vb.out.num
            have HSR := Lib.hid (And.intro hsr (And.intro hsa hsb))
            clear hsr hsa hsb
            have nLs := NE.out
            have m1 : ¬ u3.heap.size = w3.heap.size := by omega
            have m2 : ¬ w3.heap.size = u3.heap.size := by omega
            have m3 : ¬ u3.heap.size = w4.heap.size := by omega
            have m4 : ¬ w4.heap.size = u3.heap.size := by omega
            have m5 : ¬ w3.heap.size = w4.heap.size := by omega
            have m6 : ¬ w4.heap.size = w3.heap.size := by omega
            clear nLs
            have c0a := Va.out.c0
            have c1a := Va.out.c1
            have c0b := Vb.out.c0
            have c1b := Vb.out.c1
            have c0q := Vq.out.c0
            have c1q := Vq.out.c1
            have c0r := Vr.out.c0
            have c1r := Vr.out.c1
            have c0l := Vl.out.c0
            have c1l := Vl.out.c1
            have c0m := Vm.out.c0
            have c1m := Vm.out.c1
            have f0l := frozen_of_row _ _ 0 _ _ Vl.out.row
            have f1l := frozen_of_row _ _ 1 _ _ Vl.out.row
            have f0m := frozen_of_row _ _ 0 _ _ Vm.out.row
            have f1m := frozen_of_row _ _ 1 _ _ Vm.out.row
            have hsq := isI_sign Vq.out.num
            have HSQ := Lib.hid hsq
            clear hsq
            have hnear := divR_near_way na nb HNB.out
            rw [← HQR.out.2, ← HQR.out.1] at hnear
            rcases hnear with h | ⟨h, he⟩
            · have HNK := Lib.hid (show cmpI (((R * 2).natAbs : Nat) : Int) (nb.natAbs : Int) = -1 from by rw [cmpI, if_pos (by omega)])
              clear h
              by_cases hr0 : lr = 0
              · have er : ((lr : Int) == 0) = true := by rw [beq_iff_eq]; omega
                clear hr0
                go_wp2_with fail
                clear er
                clear c0a c1a c0b c1b c0q c1q c0r c1r c0l c1l c0m c1m f0l f1l f0m f1m
                have z0r : ∀ w', Below X.heap.size X w' → w'.cell? ⟨u3.heap.size + 1, 0, none⟩ = some (.bool sr) := fun w' h => (Vr.out.on h).c0
                have z1r : ∀ w', Below X.heap.size X w' → w'.cell? ⟨u3.heap.size + 1, 1, none⟩ = some (.slice pr lr cr) := fun w' h => (Vr.out.on h).c1
                have z0z : ∀ w', Below X.heap.size X w' → w'.cell? ⟨gS, 0, none⟩ = some (.bool false) := fun w' h => (Vz.out.on h).c0
                have z1z : ∀ w', Below X.heap.size X w' → w'.cell? ⟨gS, 1, none⟩ = some (.slice pb lb cb) := fun w' h => (Vz.out.on h).c1
                have FR2 := Lib.hid (fun (w' : World) (h : Below X.heap.size X w') => (⟨(Vr.out.on h).num, LR.out⟩ : IsS w' (Value.agg #[.bool sr, .slice pr lr cr]) R 60))
                have FZ := Lib.hid (fun (w' : World) (h : Below X.heap.size X w') => (⟨(Vz.out.on h).num, by rw [show ((nb.natAbs : Int)).natAbs = nb.natAbs by omega]; exact Lb.out⟩ : IsS w' (Value.agg #[.bool false, .slice pb lb cb]) (nb.natAbs : Int) 60))
                have hrr : Below X.heap.size X X := Below.refl _ _
                have hp := Pend.nil X
                have hfi : ∀ (s : Bool) (p : Option Addr) (l c : Nat) (w : World), (Instr.field 25 (.agg #[.bool s, .slice p l c]) 1).run Tryz.prog w = .ok (.slice p l c) w := fun _ _ _ _ _ => by kernel_rfl
                go_region_held3 (fun w' => Below X.heap.size X w')
                  (first
                    | assumption
                    | exact below_drew0 _
                    | exact below_drew1 (by assumption))
                  (first
                    | (go_at_call 28; refine (fromInt_row 2 _ (by decide) (by decide)).mono ?_; rintro e wx ⟨⟨o1, o2, o3, o4, rfl, ho⟩, hwr⟩; have hp := (show Pend wx _ from (by first | exact hp.on hwr | exact hp.d.on hwr)).push (show IsS wx _ 2 1 from ⟨ho, by rw [show Nl.limbs (2 : Int).natAbs = [2] from limbs_one (by decide) (by decide)]; decide⟩); have belR := below_on (D := X) (by first | assumption | exact below_drew0 _) hwr; clear hwr ho)
                    | (go_at_call 65; refine (mul_law _ _ R 2 60 1 _ (FR2.out _ (by first | assumption | exact below_drew0 _)) (by first | exact hp.g0 | exact hp.d.g0) (by decide) (by decide) (by decide)).mono ?_; rintro e wx ⟨⟨t1, t2, t3, t4, rfl, hi⟩, hwr⟩; have hp := (show Pend wx _ from (by first | exact hp.on hwr | exact hp.d.on hwr)).push hi; have belR := below_on (D := X) (by first | assumption | exact below_drew0 _) hwr; clear hwr hi)
                    | (go_at_call 66; refine (cmp_is _ _ (((R * 2).natAbs : Nat) : Int) (nb.natAbs : Int) (-1) 61 60 _ (abs_isS (by first | exact hp.g0 | exact hp.d.g0)) (FZ.out _ (by first | assumption | exact below_drew0 _)) (by decide) (by decide) HNK.out).mono ?_; rintro e wx ⟨rfl, hwr⟩; have hp := Pend.nil wx; have belR := below_on (D := X) (by first | assumption | exact below_drew0 _) hwr; clear hwr))
                have hs : Below X.heap.size X wx := by assumption
                have Ya := Lib.hid (Va.out.on hs)
                clear Va
                have Va := Ya
                clear Ya
                have Yb := Lib.hid (Vb.out.on hs)
                clear Vb
                have Vb := Yb
                clear Yb
                have Yz := Lib.hid (Vz.out.on hs)
                clear Vz
                have Vz := Yz
                clear Yz
                have Yl := Lib.hid (Vl.out.on hs)
                clear Vl
                have Vl := Yl
                clear Yl
                have Ym := Lib.hid (Vm.out.on hs)
                clear Vm
                have Vm := Ym
                clear Ym
                have Yq := Lib.hid (Vq.out.on hs)
                clear Vq
                have Vq := Yq
                clear Yq
                have Yr := Lib.hid (Vr.out.on hs)
                clear Vr
                have Vr := Yr
                clear Yr
                have HB7 := Lib.hid (HB7.out.trans (hs.mono HB7.out.size))
                clear hs z0z z1z FZ FR2 hrr hp hfi z0r z1r
                obtain ⟨Y, hY⟩ : ∃ Y, Y = wx := ⟨_, rfl⟩
                rw [← hY] at Va Vb Vz Vl Vm Vq Vr HB7 ⊢
                clear hY
                have c0a := Va.out.c0
                have c1a := Va.out.c1
                have c0b := Vb.out.c0
                have c1b := Vb.out.c1
                have c0q := Vq.out.c0
                have c1q := Vq.out.c1
                have c0r := Vr.out.c0
                have c1r := Vr.out.c1
                have c0l := Vl.out.c0
                have c1l := Vl.out.c1
                have c0m := Vm.out.c0
                have c1m := Vm.out.c1
                have f0l := frozen_of_row _ _ 0 _ _ Vl.out.row
                have f1l := frozen_of_row _ _ 1 _ _ Vl.out.row
                have f0m := frozen_of_row _ _ 0 _ _ Vm.out.row
                have f1m := frozen_of_row _ _ 1 _ _ Vm.out.row
                obtain ⟨K1, hK1⟩ : ∃ K1, K1 = cmpI Q nl := ⟨_, rfl⟩
                have HC := Lib.hid (cmp_is _ _ Q nl K1 61 61 Y ⟨Vq.out.num, LQ.out⟩ ⟨Vl.out.num, HLl.out.1⟩ (by decide) (by decide) hK1.symm)
                clear hK1
                go_wp2_with fail
                refine HC.out.mono ?_
                rintro e x1 ⟨rfl, hs⟩
                clear HC
                clear c0a c1a c0b c1b c0q c1q c0r c1r c0l c1l c0m c1m f0l f1l f0m f1m
                have Ya := Lib.hid (Va.out.on hs)
                clear Va
                have Va := Ya
                clear Ya
                have Yb := Lib.hid (Vb.out.on hs)
                clear Vb
                have Vb := Yb
                clear Yb
                have Yz := Lib.hid (Vz.out.on hs)
                clear Vz
                have Vz := Yz
                clear Yz
                have Yl := Lib.hid (Vl.out.on hs)
                clear Vl
                have Vl := Yl
                clear Yl
                have Ym := Lib.hid (Vm.out.on hs)
                clear Vm
                have Vm := Ym
                clear Ym
                have Yq := Lib.hid (Vq.out.on hs)
                clear Vq
                have Vq := Yq
                clear Yq
                have HB8 := Lib.hid (HB7.out.trans (hs.mono HB7.out.size))
                clear hs
                have c0q := Vq.out.c0
                have c1q := Vq.out.c1
                have c0l := Vl.out.c0
                have c1l := Vl.out.c1
                have c0m := Vm.out.c0
                have c1m := Vm.out.c1
                have f0l := frozen_of_row _ _ 0 _ _ Vl.out.row
                have f1l := frozen_of_row _ _ 1 _ _ Vl.out.row
                by_cases q1 : K1 < 0
                · have d1 : decide (K1 < 0) = true := decide_eq_true q1
                  clear q1
                  go_wp2_with fail
                  obtain ⟨X2, hX2⟩ : ∃ X2, X2 = (x1.setCell ⟨w3.heap.size, 0, none⟩ (.bool sq)).setCell ⟨w3.heap.size, 1, none⟩ (.slice pq lq cq) := ⟨_, rfl⟩
                  rw [← hX2]
                  have Ya := Lib.hid (hX2 ▸ (Va.out.store (by have := NE.out; omega) Vl.out.row) : Kept X2 _ _ _ _ _ _)
                  have Yb := Lib.hid (hX2 ▸ (Vb.out.store (by have := NE.out; omega) Vl.out.row) : Kept X2 _ _ _ _ _ _)
                  have Yz := Lib.hid (hX2 ▸ (Vz.out.store (by have := NE.out; omega) Vl.out.row) : Kept X2 _ _ _ _ _ _)
                  have Ym := Lib.hid (hX2 ▸ (Vm.out.store (by have := NE.out; omega) Vl.out.row) : Kept X2 _ _ _ _ _ _)
                  have Yq := Lib.hid (hX2 ▸ (Vq.out.store (by have := NE.out; omega) Vl.out.row) : Kept X2 _ _ _ _ _ _)
                  have Yl := Lib.hid (hX2 ▸ (Vq.out.put Vl.out.row) : Kept X2 _ _ _ _ _ _)
                  have HBX := Lib.hid (hX2 ▸ (below_ibox (g := w3.heap.size) HB8.out (by have := NE.out; omega) (.bool sq) (.slice pq lq cq)) : Below w.heap.size w X2)
                  clear Va Vb Vz Vm Vq Vl HB8 HLl hX2
                  have HLl := Lib.hid (And.intro LQ.out (fun _ : (2 : Int) ≤ 4 => HTQ.out))
                  have Va := Ya
                  have Vb := Yb
                  have Vz := Yz
                  have Vm := Ym
                  have Vq := Yq
                  have Vl := Yl
                  clear Ya Yb Yz Ym Yq Yl c0q c1q c0l c1l c0m c1m f0l f1l
                  obtain ⟨K2, hK2⟩ : ∃ K2, K2 = cmpI Q nm := ⟨_, rfl⟩
                  have HC := Lib.hid (cmp_is _ _ Q nm K2 61 61 X2 ⟨Vq.out.num, LQ.out⟩ ⟨Vm.out.num, HLm.out.1⟩ (by decide) (by decide) hK2.symm)
                  clear hK2
                  refine HC.out.mono ?_
                  rintro e x3 ⟨rfl, hs⟩
                  clear HC
                  have Ya := Lib.hid (Va.out.on hs)
                  clear Va
                  have Va := Ya
                  clear Ya
                  have Yb := Lib.hid (Vb.out.on hs)
                  clear Vb
                  have Vb := Yb
                  clear Yb
                  have Yz := Lib.hid (Vz.out.on hs)
                  clear Vz
                  have Vz := Yz
                  clear Yz
                  have Yl := Lib.hid (Vl.out.on hs)
                  clear Vl
                  have Vl := Yl
                  clear Yl
                  have Ym := Lib.hid (Vm.out.on hs)
                  clear Vm
                  have Vm := Ym
                  clear Ym
                  have Yq := Lib.hid (Vq.out.on hs)
                  clear Vq
                  have Vq := Yq
                  clear Yq
                  have HB9 := Lib.hid (HBX.out.trans (hs.mono HBX.out.size))
                  clear hs
                  have c0q := Vq.out.c0
                  have c1q := Vq.out.c1
                  have c0m := Vm.out.c0
                  have c1m := Vm.out.c1
                  have f0m := frozen_of_row _ _ 0 _ _ Vm.out.row
                  have f1m := frozen_of_row _ _ 1 _ _ Vm.out.row
                  by_cases q2 : K2 > 0
                  · have d2 : decide (K2 > 0) = true := decide_eq_true q2
                    have d2' : decide (0 < K2) = true := decide_eq_true q2
                    clear q2
                    go_wp2_with fail
                    go_roundw
                    case rel =>
                      exact ⟨5, by decide, by first | rfl | go_num, ⟨below_ibox (g := w4.heap.size) HB9.out (by have := NE.out; omega) _ _, Va.out.store (by have := NE.out; omega) Vm.out.row, Vb.out.store (by have := NE.out; omega) Vm.out.row, Vz.out.store (by have := NE.out; omega) Vm.out.row, ⟨_, _, _, _, _, Vl.out.store (by have := NE.out; omega) Vm.out.row, HLl.out.1, fun _ => HLl.out.2 (by decide)⟩, ⟨_, _, _, _, _, Vq.out.put Vm.out.row, LQ.out, fun _ => HTQ.out⟩⟩⟩
                    case measure => simp [intOf]
                  · have d2 : decide (K2 > 0) = false := decide_eq_false q2
                    have d2' : decide (0 < K2) = false := decide_eq_false q2
                    clear q2
                    go_wp2_with fail
                    go_roundw
                    case rel =>
                      exact ⟨5, by decide, by first | rfl | go_num, ⟨HB9.out, Va.out, Vb.out, Vz.out, ⟨_, _, _, _, _, Vl.out, HLl.out.1, fun _ => HLl.out.2 (by decide)⟩, ⟨_, _, _, _, _, Vm.out, HLm.out.1, fun _ => HLm.out.2 (by decide)⟩⟩⟩
                    case measure => simp [intOf]
                · have d1 : decide (K1 < 0) = false := decide_eq_false q1
                  clear q1
                  go_wp2_with fail
                  clear c0q c1q c0l c1l c0m c1m f0l f1l
                  obtain ⟨K2, hK2⟩ : ∃ K2, K2 = cmpI Q nm := ⟨_, rfl⟩
                  have HC := Lib.hid (cmp_is _ _ Q nm K2 61 61 x1 ⟨Vq.out.num, LQ.out⟩ ⟨Vm.out.num, HLm.out.1⟩ (by decide) (by decide) hK2.symm)
                  clear hK2
                  refine HC.out.mono ?_
                  rintro e x3 ⟨rfl, hs⟩
                  clear HC
                  have Ya := Lib.hid (Va.out.on hs)
                  clear Va
                  have Va := Ya
                  clear Ya
                  have Yb := Lib.hid (Vb.out.on hs)
                  clear Vb
                  have Vb := Yb
                  clear Yb
                  have Yz := Lib.hid (Vz.out.on hs)
                  clear Vz
                  have Vz := Yz
                  clear Yz
                  have Yl := Lib.hid (Vl.out.on hs)
                  clear Vl
                  have Vl := Yl
                  clear Yl
                  have Ym := Lib.hid (Vm.out.on hs)
                  clear Vm
                  have Vm := Ym
                  clear Ym
                  have Yq := Lib.hid (Vq.out.on hs)
                  clear Vq
                  have Vq := Yq
                  clear Yq
                  have HB9 := Lib.hid (HB8.out.trans (hs.mono HB8.out.size))
                  clear hs
                  have c0q := Vq.out.c0
                  have c1q := Vq.out.c1
                  have c0m := Vm.out.c0
                  have c1m := Vm.out.c1
                  have f0m := frozen_of_row _ _ 0 _ _ Vm.out.row
                  have f1m := frozen_of_row _ _ 1 _ _ Vm.out.row
                  by_cases q2 : K2 > 0
                  · have d2 : decide (K2 > 0) = true := decide_eq_true q2
                    have d2' : decide (0 < K2) = true := decide_eq_true q2
                    clear q2
                    go_wp2_with fail
                    go_roundw
                    case rel =>
                      exact ⟨5, by decide, by first | rfl | go_num, ⟨below_ibox (g := w4.heap.size) HB9.out (by have := NE.out; omega) _ _, Va.out.store (by have := NE.out; omega) Vm.out.row, Vb.out.store (by have := NE.out; omega) Vm.out.row, Vz.out.store (by have := NE.out; omega) Vm.out.row, ⟨_, _, _, _, _, Vl.out.store (by have := NE.out; omega) Vm.out.row, HLl.out.1, fun _ => HLl.out.2 (by decide)⟩, ⟨_, _, _, _, _, Vq.out.put Vm.out.row, LQ.out, fun _ => HTQ.out⟩⟩⟩
                    case measure => simp [intOf]
                  · have d2 : decide (K2 > 0) = false := decide_eq_false q2
                    have d2' : decide (0 < K2) = false := decide_eq_false q2
                    clear q2
                    go_wp2_with fail
                    go_roundw
                    case rel =>
                      exact ⟨5, by decide, by first | rfl | go_num, ⟨HB9.out, Va.out, Vb.out, Vz.out, ⟨_, _, _, _, _, Vl.out, HLl.out.1, fun _ => HLl.out.2 (by decide)⟩, ⟨_, _, _, _, _, Vm.out, HLm.out.1, fun _ => HLm.out.2 (by decide)⟩⟩⟩
                    case measure => simp [intOf]
              · have er : ((lr : Int) == 0) = false := by rw [beq_eq_false_iff_ne]; omega
                clear hr0
                go_wp2_with fail
                clear er
                clear c0a c1a c0b c1b c0q c1q c0r c1r c0l c1l c0m c1m f0l f1l f0m f1m
                have z0r : ∀ w', Below X.heap.size X w' → w'.cell? ⟨u3.heap.size + 1, 0, none⟩ = some (.bool sr) := fun w' h => (Vr.out.on h).c0
                have z1r : ∀ w', Below X.heap.size X w' → w'.cell? ⟨u3.heap.size + 1, 1, none⟩ = some (.slice pr lr cr) := fun w' h => (Vr.out.on h).c1
                have z0z : ∀ w', Below X.heap.size X w' → w'.cell? ⟨gS, 0, none⟩ = some (.bool false) := fun w' h => (Vz.out.on h).c0
                have z1z : ∀ w', Below X.heap.size X w' → w'.cell? ⟨gS, 1, none⟩ = some (.slice pb lb cb) := fun w' h => (Vz.out.on h).c1
                have FR2 := Lib.hid (fun (w' : World) (h : Below X.heap.size X w') => (⟨(Vr.out.on h).num, LR.out⟩ : IsS w' (Value.agg #[.bool sr, .slice pr lr cr]) R 60))
                have FZ := Lib.hid (fun (w' : World) (h : Below X.heap.size X w') => (⟨(Vz.out.on h).num, by rw [show ((nb.natAbs : Int)).natAbs = nb.natAbs by omega]; exact Lb.out⟩ : IsS w' (Value.agg #[.bool false, .slice pb lb cb]) (nb.natAbs : Int) 60))
                have hrr : Below X.heap.size X X := Below.refl _ _
                have hp := Pend.nil X
                have hfi : ∀ (s : Bool) (p : Option Addr) (l c : Nat) (w : World), (Instr.field 25 (.agg #[.bool s, .slice p l c]) 1).run Tryz.prog w = .ok (.slice p l c) w := fun _ _ _ _ _ => by kernel_rfl
                go_region_held3 (fun w' => Below X.heap.size X w')
                  (first
                    | assumption
                    | exact below_drew0 _
                    | exact below_drew1 (by assumption))
                  (first
                    | (go_at_call 28; refine (fromInt_row 2 _ (by decide) (by decide)).mono ?_; rintro e wx ⟨⟨o1, o2, o3, o4, rfl, ho⟩, hwr⟩; have hp := (show Pend wx _ from (by first | exact hp.on hwr | exact hp.d.on hwr)).push (show IsS wx _ 2 1 from ⟨ho, by rw [show Nl.limbs (2 : Int).natAbs = [2] from limbs_one (by decide) (by decide)]; decide⟩); have belR := below_on (D := X) (by first | assumption | exact below_drew0 _) hwr; clear hwr ho)
                    | (go_at_call 65; refine (mul_law _ _ R 2 60 1 _ (FR2.out _ (by first | assumption | exact below_drew0 _)) (by first | exact hp.g0 | exact hp.d.g0) (by decide) (by decide) (by decide)).mono ?_; rintro e wx ⟨⟨t1, t2, t3, t4, rfl, hi⟩, hwr⟩; have hp := (show Pend wx _ from (by first | exact hp.on hwr | exact hp.d.on hwr)).push hi; have belR := below_on (D := X) (by first | assumption | exact below_drew0 _) hwr; clear hwr hi)
                    | (go_at_call 66; refine (cmp_is _ _ (((R * 2).natAbs : Nat) : Int) (nb.natAbs : Int) (-1) 61 60 _ (abs_isS (by first | exact hp.g0 | exact hp.d.g0)) (FZ.out _ (by first | assumption | exact below_drew0 _)) (by decide) (by decide) HNK.out).mono ?_; rintro e wx ⟨rfl, hwr⟩; have hp := Pend.nil wx; have belR := below_on (D := X) (by first | assumption | exact below_drew0 _) hwr; clear hwr))
                have hs : Below X.heap.size X wx := by assumption
                have Ya := Lib.hid (Va.out.on hs)
                clear Va
                have Va := Ya
                clear Ya
                have Yb := Lib.hid (Vb.out.on hs)
                clear Vb
                have Vb := Yb
                clear Yb
                have Yz := Lib.hid (Vz.out.on hs)
                clear Vz
                have Vz := Yz
                clear Yz
                have Yl := Lib.hid (Vl.out.on hs)
                clear Vl
                have Vl := Yl
                clear Yl
                have Ym := Lib.hid (Vm.out.on hs)
                clear Vm
                have Vm := Ym
                clear Ym
                have Yq := Lib.hid (Vq.out.on hs)
                clear Vq
                have Vq := Yq
                clear Yq
                have Yr := Lib.hid (Vr.out.on hs)
                clear Vr
                have Vr := Yr
                clear Yr
                have HB7 := Lib.hid (HB7.out.trans (hs.mono HB7.out.size))
                clear hs z0z z1z FZ FR2 hrr hp hfi z0r z1r
                obtain ⟨Y, hY⟩ : ∃ Y, Y = wx := ⟨_, rfl⟩
                rw [← hY] at Va Vb Vz Vl Vm Vq Vr HB7 ⊢
                clear hY
                have c0a := Va.out.c0
                have c1a := Va.out.c1
                have c0b := Vb.out.c0
                have c1b := Vb.out.c1
                have c0q := Vq.out.c0
                have c1q := Vq.out.c1
                have c0r := Vr.out.c0
                have c1r := Vr.out.c1
                have c0l := Vl.out.c0
                have c1l := Vl.out.c1
                have c0m := Vm.out.c0
                have c1m := Vm.out.c1
                have f0l := frozen_of_row _ _ 0 _ _ Vl.out.row
                have f1l := frozen_of_row _ _ 1 _ _ Vl.out.row
                have f0m := frozen_of_row _ _ 0 _ _ Vm.out.row
                have f1m := frozen_of_row _ _ 1 _ _ Vm.out.row
                obtain ⟨K1, hK1⟩ : ∃ K1, K1 = cmpI Q nl := ⟨_, rfl⟩
                have HC := Lib.hid (cmp_is _ _ Q nl K1 61 61 Y ⟨Vq.out.num, LQ.out⟩ ⟨Vl.out.num, HLl.out.1⟩ (by decide) (by decide) hK1.symm)
                clear hK1
                go_wp2_with fail
                refine HC.out.mono ?_
                rintro e x1 ⟨rfl, hs⟩
                clear HC
                clear c0a c1a c0b c1b c0q c1q c0r c1r c0l c1l c0m c1m f0l f1l f0m f1m
                have Ya := Lib.hid (Va.out.on hs)
                clear Va
                have Va := Ya
                clear Ya
                have Yb := Lib.hid (Vb.out.on hs)
                clear Vb
                have Vb := Yb
                clear Yb
                have Yz := Lib.hid (Vz.out.on hs)
                clear Vz
                have Vz := Yz
                clear Yz
                have Yl := Lib.hid (Vl.out.on hs)
                clear Vl
                have Vl := Yl
                clear Yl
                have Ym := Lib.hid (Vm.out.on hs)
                clear Vm
                have Vm := Ym
                clear Ym
                have Yq := Lib.hid (Vq.out.on hs)
                clear Vq
                have Vq := Yq
                clear Yq
                have HB8 := Lib.hid (HB7.out.trans (hs.mono HB7.out.size))
                clear hs
                have c0q := Vq.out.c0
                have c1q := Vq.out.c1
                have c0l := Vl.out.c0
                have c1l := Vl.out.c1
                have c0m := Vm.out.c0
                have c1m := Vm.out.c1
                have f0l := frozen_of_row _ _ 0 _ _ Vl.out.row
                have f1l := frozen_of_row _ _ 1 _ _ Vl.out.row
                by_cases q1 : K1 < 0
                · have d1 : decide (K1 < 0) = true := decide_eq_true q1
                  clear q1
                  go_wp2_with fail
                  obtain ⟨X2, hX2⟩ : ∃ X2, X2 = (x1.setCell ⟨w3.heap.size, 0, none⟩ (.bool sq)).setCell ⟨w3.heap.size, 1, none⟩ (.slice pq lq cq) := ⟨_, rfl⟩
                  rw [← hX2]
                  have Ya := Lib.hid (hX2 ▸ (Va.out.store (by have := NE.out; omega) Vl.out.row) : Kept X2 _ _ _ _ _ _)
                  have Yb := Lib.hid (hX2 ▸ (Vb.out.store (by have := NE.out; omega) Vl.out.row) : Kept X2 _ _ _ _ _ _)
                  have Yz := Lib.hid (hX2 ▸ (Vz.out.store (by have := NE.out; omega) Vl.out.row) : Kept X2 _ _ _ _ _ _)
                  have Ym := Lib.hid (hX2 ▸ (Vm.out.store (by have := NE.out; omega) Vl.out.row) : Kept X2 _ _ _ _ _ _)
                  have Yq := Lib.hid (hX2 ▸ (Vq.out.store (by have := NE.out; omega) Vl.out.row) : Kept X2 _ _ _ _ _ _)
                  have Yl := Lib.hid (hX2 ▸ (Vq.out.put Vl.out.row) : Kept X2 _ _ _ _ _ _)
                  have HBX := Lib.hid (hX2 ▸ (below_ibox (g := w3.heap.size) HB8.out (by have := NE.out; omega) (.bool sq) (.slice pq lq cq)) : Below w.heap.size w X2)
                  clear Va Vb Vz Vm Vq Vl HB8 HLl hX2
                  have HLl := Lib.hid (And.intro LQ.out (fun _ : (2 : Int) ≤ 4 => HTQ.out))
                  have Va := Ya
                  have Vb := Yb
                  have Vz := Yz
                  have Vm := Ym
                  have Vq := Yq
                  have Vl := Yl
                  clear Ya Yb Yz Ym Yq Yl c0q c1q c0l c1l c0m c1m f0l f1l
                  obtain ⟨K2, hK2⟩ : ∃ K2, K2 = cmpI Q nm := ⟨_, rfl⟩
                  have HC := Lib.hid (cmp_is _ _ Q nm K2 61 61 X2 ⟨Vq.out.num, LQ.out⟩ ⟨Vm.out.num, HLm.out.1⟩ (by decide) (by decide) hK2.symm)
                  clear hK2
                  refine HC.out.mono ?_
                  rintro e x3 ⟨rfl, hs⟩
                  clear HC
                  have Ya := Lib.hid (Va.out.on hs)
                  clear Va
                  have Va := Ya
                  clear Ya
                  have Yb := Lib.hid (Vb.out.on hs)
                  clear Vb
                  have Vb := Yb
                  clear Yb
                  have Yz := Lib.hid (Vz.out.on hs)
                  clear Vz
                  have Vz := Yz
                  clear Yz
                  have Yl := Lib.hid (Vl.out.on hs)
                  clear Vl
                  have Vl := Yl
                  clear Yl
                  have Ym := Lib.hid (Vm.out.on hs)
                  clear Vm
                  have Vm := Ym
                  clear Ym
                  have Yq := Lib.hid (Vq.out.on hs)
                  clear Vq
                  have Vq := Yq
                  clear Yq
                  have HB9 := Lib.hid (HBX.out.trans (hs.mono HBX.out.size))
                  clear hs
                  have c0q := Vq.out.c0
                  have c1q := Vq.out.c1
                  have c0m := Vm.out.c0
                  have c1m := Vm.out.c1
                  have f0m := frozen_of_row _ _ 0 _ _ Vm.out.row
                  have f1m := frozen_of_row _ _ 1 _ _ Vm.out.row
                  by_cases q2 : K2 > 0
                  · have d2 : decide (K2 > 0) = true := decide_eq_true q2
                    have d2' : decide (0 < K2) = true := decide_eq_true q2
                    clear q2
                    go_wp2_with fail
                    go_roundw
                    case rel =>
                      exact ⟨5, by decide, by first | rfl | go_num, ⟨below_ibox (g := w4.heap.size) HB9.out (by have := NE.out; omega) _ _, Va.out.store (by have := NE.out; omega) Vm.out.row, Vb.out.store (by have := NE.out; omega) Vm.out.row, Vz.out.store (by have := NE.out; omega) Vm.out.row, ⟨_, _, _, _, _, Vl.out.store (by have := NE.out; omega) Vm.out.row, HLl.out.1, fun _ => HLl.out.2 (by decide)⟩, ⟨_, _, _, _, _, Vq.out.put Vm.out.row, LQ.out, fun _ => HTQ.out⟩⟩⟩
                    case measure => simp [intOf]
                  · have d2 : decide (K2 > 0) = false := decide_eq_false q2
                    have d2' : decide (0 < K2) = false := decide_eq_false q2
                    clear q2
                    go_wp2_with fail
                    go_roundw
                    case rel =>
                      exact ⟨5, by decide, by first | rfl | go_num, ⟨HB9.out, Va.out, Vb.out, Vz.out, ⟨_, _, _, _, _, Vl.out, HLl.out.1, fun _ => HLl.out.2 (by decide)⟩, ⟨_, _, _, _, _, Vm.out, HLm.out.1, fun _ => HLm.out.2 (by decide)⟩⟩⟩
                    case measure => simp [intOf]
                · have d1 : decide (K1 < 0) = false := decide_eq_false q1
                  clear q1
                  go_wp2_with fail
                  clear c0q c1q c0l c1l c0m c1m f0l f1l
                  obtain ⟨K2, hK2⟩ : ∃ K2, K2 = cmpI Q nm := ⟨_, rfl⟩
                  have HC := Lib.hid (cmp_is _ _ Q nm K2 61 61 x1 ⟨Vq.out.num, LQ.out⟩ ⟨Vm.out.num, HLm.out.1⟩ (by decide) (by decide) hK2.symm)
                  clear hK2
                  refine HC.out.mono ?_
                  rintro e x3 ⟨rfl, hs⟩
                  clear HC
                  have Ya := Lib.hid (Va.out.on hs)
                  clear Va
                  have Va := Ya
                  clear Ya
                  have Yb := Lib.hid (Vb.out.on hs)
                  clear Vb
                  have Vb := Yb
                  clear Yb
                  have Yz := Lib.hid (Vz.out.on hs)
                  clear Vz
                  have Vz := Yz
                  clear Yz
                  have Yl := Lib.hid (Vl.out.on hs)
                  clear Vl
                  have Vl := Yl
                  clear Yl
                  have Ym := Lib.hid (Vm.out.on hs)
                  clear Vm
                  have Vm := Ym
                  clear Ym
                  have Yq := Lib.hid (Vq.out.on hs)
                  clear Vq
                  have Vq := Yq
                  clear Yq
                  have HB9 := Lib.hid (HB8.out.trans (hs.mono HB8.out.size))
                  clear hs
                  have c0q := Vq.out.c0
                  have c1q := Vq.out.c1
                  have c0m := Vm.out.c0
                  have c1m := Vm.out.c1
                  have f0m := frozen_of_row _ _ 0 _ _ Vm.out.row
                  have f1m := frozen_of_row _ _ 1 _ _ Vm.out.row
                  by_cases q2 : K2 > 0
                  · have d2 : decide (K2 > 0) = true := decide_eq_true q2
                    have d2' : decide (0 < K2) = true := decide_eq_true q2
                    clear q2
                    go_wp2_with fail
                    go_roundw
                    case rel =>
                      exact ⟨5, by decide, by first | rfl | go_num, ⟨below_ibox (g := w4.heap.size) HB9.out (by have := NE.out; omega) _ _, Va.out.store (by have := NE.out; omega) Vm.out.row, Vb.out.store (by have := NE.out; omega) Vm.out.row, Vz.out.store (by have := NE.out; omega) Vm.out.row, ⟨_, _, _, _, _, Vl.out.store (by have := NE.out; omega) Vm.out.row, HLl.out.1, fun _ => HLl.out.2 (by decide)⟩, ⟨_, _, _, _, _, Vq.out.put Vm.out.row, LQ.out, fun _ => HTQ.out⟩⟩⟩
                    case measure => simp [intOf]
                  · have d2 : decide (K2 > 0) = false := decide_eq_false q2
                    have d2' : decide (0 < K2) = false := decide_eq_false q2
                    clear q2
                    go_wp2_with fail
                    go_roundw
                    case rel =>
                      exact ⟨5, by decide, by first | rfl | go_num, ⟨HB9.out, Va.out, Vb.out, Vz.out, ⟨_, _, _, _, _, Vl.out, HLl.out.1, fun _ => HLl.out.2 (by decide)⟩, ⟨_, _, _, _, _, Vm.out, HLm.out.1, fun _ => HLm.out.2 (by decide)⟩⟩⟩
                    case measure => simp [intOf]
            · have HNK := Lib.hid (show cmpI (((R * 2).natAbs : Nat) : Int) (nb.natAbs : Int) = 0 from by rw [cmpI, if_neg (by omega), if_neg (by omega)])
              have HE := Lib.hid he
              clear h he
              by_cases hr0 : lr = 0
              · have er : ((lr : Int) == 0) = true := by rw [beq_iff_eq]; omega
                clear hr0
                go_wp2_with fail
                clear er
                clear c0a c1a c0b c1b c0q c1q c0r c1r c0l c1l c0m c1m f0l f1l f0m f1m
                have z0r : ∀ w', Below X.heap.size X w' → w'.cell? ⟨u3.heap.size + 1, 0, none⟩ = some (.bool sr) := fun w' h => (Vr.out.on h).c0
                have z1r : ∀ w', Below X.heap.size X w' → w'.cell? ⟨u3.heap.size + 1, 1, none⟩ = some (.slice pr lr cr) := fun w' h => (Vr.out.on h).c1
                have z0z : ∀ w', Below X.heap.size X w' → w'.cell? ⟨gS, 0, none⟩ = some (.bool false) := fun w' h => (Vz.out.on h).c0
                have z1z : ∀ w', Below X.heap.size X w' → w'.cell? ⟨gS, 1, none⟩ = some (.slice pb lb cb) := fun w' h => (Vz.out.on h).c1
                have FR2 := Lib.hid (fun (w' : World) (h : Below X.heap.size X w') => (⟨(Vr.out.on h).num, LR.out⟩ : IsS w' (Value.agg #[.bool sr, .slice pr lr cr]) R 60))
                have FZ := Lib.hid (fun (w' : World) (h : Below X.heap.size X w') => (⟨(Vz.out.on h).num, by rw [show ((nb.natAbs : Int)).natAbs = nb.natAbs by omega]; exact Lb.out⟩ : IsS w' (Value.agg #[.bool false, .slice pb lb cb]) (nb.natAbs : Int) 60))
                have hrr : Below X.heap.size X X := Below.refl _ _
                have hp := Pend.nil X
                have hfi : ∀ (s : Bool) (p : Option Addr) (l c : Nat) (w : World), (Instr.field 25 (.agg #[.bool s, .slice p l c]) 1).run Tryz.prog w = .ok (.slice p l c) w := fun _ _ _ _ _ => by kernel_rfl
                go_region_held3 (fun w' => Below X.heap.size X w')
                  (first
                    | assumption
                    | exact below_drew0 _
                    | exact below_drew1 (by assumption))
                  (first
                    | (go_at_call 28; refine (fromInt_row 2 _ (by decide) (by decide)).mono ?_; rintro e wx ⟨⟨o1, o2, o3, o4, rfl, ho⟩, hwr⟩; have hp := (show Pend wx _ from (by first | exact hp.on hwr | exact hp.d.on hwr)).push (show IsS wx _ 2 1 from ⟨ho, by rw [show Nl.limbs (2 : Int).natAbs = [2] from limbs_one (by decide) (by decide)]; decide⟩); have belR := below_on (D := X) (by first | assumption | exact below_drew0 _) hwr; clear hwr ho)
                    | (go_at_call 65; refine (mul_law _ _ R 2 60 1 _ (FR2.out _ (by first | assumption | exact below_drew0 _)) (by first | exact hp.g0 | exact hp.d.g0) (by decide) (by decide) (by decide)).mono ?_; rintro e wx ⟨⟨t1, t2, t3, t4, rfl, hi⟩, hwr⟩; have hp := (show Pend wx _ from (by first | exact hp.on hwr | exact hp.d.on hwr)).push hi; have belR := below_on (D := X) (by first | assumption | exact below_drew0 _) hwr; clear hwr hi)
                    | (go_at_call 66; refine (cmp_is _ _ (((R * 2).natAbs : Nat) : Int) (nb.natAbs : Int) (0) 61 60 _ (abs_isS (by first | exact hp.g0 | exact hp.d.g0)) (FZ.out _ (by first | assumption | exact below_drew0 _)) (by decide) (by decide) HNK.out).mono ?_; rintro e wx ⟨rfl, hwr⟩; have hp := Pend.nil wx; have belR := below_on (D := X) (by first | assumption | exact below_drew0 _) hwr; clear hwr))
                have hs : Below X.heap.size X wx := by assumption
                have Ya := Lib.hid (Va.out.on hs)
                clear Va
                have Va := Ya
                clear Ya
                have Yb := Lib.hid (Vb.out.on hs)
                clear Vb
                have Vb := Yb
                clear Yb
                have Yz := Lib.hid (Vz.out.on hs)
                clear Vz
                have Vz := Yz
                clear Yz
                have Yl := Lib.hid (Vl.out.on hs)
                clear Vl
                have Vl := Yl
                clear Yl
                have Ym := Lib.hid (Vm.out.on hs)
                clear Vm
                have Vm := Ym
                clear Ym
                have Yq := Lib.hid (Vq.out.on hs)
                clear Vq
                have Vq := Yq
                clear Yq
                have Yr := Lib.hid (Vr.out.on hs)
                clear Vr
                have Vr := Yr
                clear Yr
                have HB7 := Lib.hid (HB7.out.trans (hs.mono HB7.out.size))
                clear hs z0z z1z FZ FR2 hrr hp hfi z0r z1r
                obtain ⟨Y, hY⟩ : ∃ Y, Y = wx := ⟨_, rfl⟩
                rw [← hY] at Va Vb Vz Vl Vm Vq Vr HB7 ⊢
                clear hY
                have c0a := Va.out.c0
                have c1a := Va.out.c1
                have c0b := Vb.out.c0
                have c1b := Vb.out.c1
                have c0q := Vq.out.c0
                have c1q := Vq.out.c1
                have c0r := Vr.out.c0
                have c1r := Vr.out.c1
                have c0l := Vl.out.c0
                have c1l := Vl.out.c1
                have c0m := Vm.out.c0
                have c1m := Vm.out.c1
                have f0l := frozen_of_row _ _ 0 _ _ Vl.out.row
                have f1l := frozen_of_row _ _ 1 _ _ Vl.out.row
                have f0m := frozen_of_row _ _ 0 _ _ Vm.out.row
                have f1m := frozen_of_row _ _ 1 _ _ Vm.out.row
                by_cases hq0 : lq = 0
                · have eq0 : ((lq : Int) == 0) = true := by rw [beq_iff_eq]; omega
                  clear hq0
                  obtain ⟨K1, hK1⟩ : ∃ K1, K1 = cmpI Q nl := ⟨_, rfl⟩
                  have HC := Lib.hid (cmp_is _ _ Q nl K1 61 61 Y ⟨Vq.out.num, LQ.out⟩ ⟨Vl.out.num, HLl.out.1⟩ (by decide) (by decide) hK1.symm)
                  clear hK1
                  go_wp2_with fail
                  refine HC.out.mono ?_
                  rintro e x1 ⟨rfl, hs⟩
                  clear HC
                  clear c0a c1a c0b c1b c0q c1q c0r c1r c0l c1l c0m c1m f0l f1l f0m f1m
                  have Ya := Lib.hid (Va.out.on hs)
                  clear Va
                  have Va := Ya
                  clear Ya
                  have Yb := Lib.hid (Vb.out.on hs)
                  clear Vb
                  have Vb := Yb
                  clear Yb
                  have Yz := Lib.hid (Vz.out.on hs)
                  clear Vz
                  have Vz := Yz
                  clear Yz
                  have Yl := Lib.hid (Vl.out.on hs)
                  clear Vl
                  have Vl := Yl
                  clear Yl
                  have Ym := Lib.hid (Vm.out.on hs)
                  clear Vm
                  have Vm := Ym
                  clear Ym
                  have Yq := Lib.hid (Vq.out.on hs)
                  clear Vq
                  have Vq := Yq
                  clear Yq
                  have HB8 := Lib.hid (HB7.out.trans (hs.mono HB7.out.size))
                  clear hs
                  have c0q := Vq.out.c0
                  have c1q := Vq.out.c1
                  have c0l := Vl.out.c0
                  have c1l := Vl.out.c1
                  have c0m := Vm.out.c0
                  have c1m := Vm.out.c1
                  have f0l := frozen_of_row _ _ 0 _ _ Vl.out.row
                  have f1l := frozen_of_row _ _ 1 _ _ Vl.out.row
                  by_cases q1 : K1 < 0
                  · have d1 : decide (K1 < 0) = true := decide_eq_true q1
                    clear q1
                    go_wp2_with fail
                    obtain ⟨X2, hX2⟩ : ∃ X2, X2 = (x1.setCell ⟨w3.heap.size, 0, none⟩ (.bool sq)).setCell ⟨w3.heap.size, 1, none⟩ (.slice pq lq cq) := ⟨_, rfl⟩
                    rw [← hX2]
                    have Ya := Lib.hid (hX2 ▸ (Va.out.store (by have := NE.out; omega) Vl.out.row) : Kept X2 _ _ _ _ _ _)
                    have Yb := Lib.hid (hX2 ▸ (Vb.out.store (by have := NE.out; omega) Vl.out.row) : Kept X2 _ _ _ _ _ _)
                    have Yz := Lib.hid (hX2 ▸ (Vz.out.store (by have := NE.out; omega) Vl.out.row) : Kept X2 _ _ _ _ _ _)
                    have Ym := Lib.hid (hX2 ▸ (Vm.out.store (by have := NE.out; omega) Vl.out.row) : Kept X2 _ _ _ _ _ _)
                    have Yq := Lib.hid (hX2 ▸ (Vq.out.store (by have := NE.out; omega) Vl.out.row) : Kept X2 _ _ _ _ _ _)
                    have Yl := Lib.hid (hX2 ▸ (Vq.out.put Vl.out.row) : Kept X2 _ _ _ _ _ _)
                    have HBX := Lib.hid (hX2 ▸ (below_ibox (g := w3.heap.size) HB8.out (by have := NE.out; omega) (.bool sq) (.slice pq lq cq)) : Below w.heap.size w X2)
                    clear Va Vb Vz Vm Vq Vl HB8 HLl hX2
                    have HLl := Lib.hid (And.intro LQ.out (fun _ : (2 : Int) ≤ 4 => HTQ.out))
                    have Va := Ya
                    have Vb := Yb
                    have Vz := Yz
                    have Vm := Ym
                    have Vq := Yq
                    have Vl := Yl
                    clear Ya Yb Yz Ym Yq Yl c0q c1q c0l c1l c0m c1m f0l f1l
                    obtain ⟨K2, hK2⟩ : ∃ K2, K2 = cmpI Q nm := ⟨_, rfl⟩
                    have HC := Lib.hid (cmp_is _ _ Q nm K2 61 61 X2 ⟨Vq.out.num, LQ.out⟩ ⟨Vm.out.num, HLm.out.1⟩ (by decide) (by decide) hK2.symm)
                    clear hK2
                    refine HC.out.mono ?_
                    rintro e x3 ⟨rfl, hs⟩
                    clear HC
                    have Ya := Lib.hid (Va.out.on hs)
                    clear Va
                    have Va := Ya
                    clear Ya
                    have Yb := Lib.hid (Vb.out.on hs)
                    clear Vb
                    have Vb := Yb
                    clear Yb
                    have Yz := Lib.hid (Vz.out.on hs)
                    clear Vz
                    have Vz := Yz
                    clear Yz
                    have Yl := Lib.hid (Vl.out.on hs)
                    clear Vl
                    have Vl := Yl
                    clear Yl
                    have Ym := Lib.hid (Vm.out.on hs)
                    clear Vm
                    have Vm := Ym
                    clear Ym
                    have Yq := Lib.hid (Vq.out.on hs)
                    clear Vq
                    have Vq := Yq
                    clear Yq
                    have HB9 := Lib.hid (HBX.out.trans (hs.mono HBX.out.size))
                    clear hs
                    have c0q := Vq.out.c0
                    have c1q := Vq.out.c1
                    have c0m := Vm.out.c0
                    have c1m := Vm.out.c1
                    have f0m := frozen_of_row _ _ 0 _ _ Vm.out.row
                    have f1m := frozen_of_row _ _ 1 _ _ Vm.out.row
                    by_cases q2 : K2 > 0
                    · have d2 : decide (K2 > 0) = true := decide_eq_true q2
                      have d2' : decide (0 < K2) = true := decide_eq_true q2
                      clear q2
                      go_wp2_with fail
                      go_roundw
                      case rel =>
                        exact ⟨5, by decide, by first | rfl | go_num, ⟨below_ibox (g := w4.heap.size) HB9.out (by have := NE.out; omega) _ _, Va.out.store (by have := NE.out; omega) Vm.out.row, Vb.out.store (by have := NE.out; omega) Vm.out.row, Vz.out.store (by have := NE.out; omega) Vm.out.row, ⟨_, _, _, _, _, Vl.out.store (by have := NE.out; omega) Vm.out.row, HLl.out.1, fun _ => HLl.out.2 (by decide)⟩, ⟨_, _, _, _, _, Vq.out.put Vm.out.row, LQ.out, fun _ => HTQ.out⟩⟩⟩
                      case measure => simp [intOf]
                    · have d2 : decide (K2 > 0) = false := decide_eq_false q2
                      have d2' : decide (0 < K2) = false := decide_eq_false q2
                      clear q2
                      go_wp2_with fail
                      go_roundw
                      case rel =>
                        exact ⟨5, by decide, by first | rfl | go_num, ⟨HB9.out, Va.out, Vb.out, Vz.out, ⟨_, _, _, _, _, Vl.out, HLl.out.1, fun _ => HLl.out.2 (by decide)⟩, ⟨_, _, _, _, _, Vm.out, HLm.out.1, fun _ => HLm.out.2 (by decide)⟩⟩⟩
                      case measure => simp [intOf]
                  · have d1 : decide (K1 < 0) = false := decide_eq_false q1
                    clear q1
                    go_wp2_with fail
                    clear c0q c1q c0l c1l c0m c1m f0l f1l
                    obtain ⟨K2, hK2⟩ : ∃ K2, K2 = cmpI Q nm := ⟨_, rfl⟩
                    have HC := Lib.hid (cmp_is _ _ Q nm K2 61 61 x1 ⟨Vq.out.num, LQ.out⟩ ⟨Vm.out.num, HLm.out.1⟩ (by decide) (by decide) hK2.symm)
                    clear hK2
                    refine HC.out.mono ?_
                    rintro e x3 ⟨rfl, hs⟩
                    clear HC
                    have Ya := Lib.hid (Va.out.on hs)
                    clear Va
                    have Va := Ya
                    clear Ya
                    have Yb := Lib.hid (Vb.out.on hs)
                    clear Vb
                    have Vb := Yb
                    clear Yb
                    have Yz := Lib.hid (Vz.out.on hs)
                    clear Vz
                    have Vz := Yz
                    clear Yz
                    have Yl := Lib.hid (Vl.out.on hs)
                    clear Vl
                    have Vl := Yl
                    clear Yl
                    have Ym := Lib.hid (Vm.out.on hs)
                    clear Vm
                    have Vm := Ym
                    clear Ym
                    have Yq := Lib.hid (Vq.out.on hs)
                    clear Vq
                    have Vq := Yq
                    clear Yq
                    have HB9 := Lib.hid (HB8.out.trans (hs.mono HB8.out.size))
                    clear hs
                    have c0q := Vq.out.c0
                    have c1q := Vq.out.c1
                    have c0m := Vm.out.c0
                    have c1m := Vm.out.c1
                    have f0m := frozen_of_row _ _ 0 _ _ Vm.out.row
                    have f1m := frozen_of_row _ _ 1 _ _ Vm.out.row
                    by_cases q2 : K2 > 0
                    · have d2 : decide (K2 > 0) = true := decide_eq_true q2
                      have d2' : decide (0 < K2) = true := decide_eq_true q2
                      clear q2
                      go_wp2_with fail
                      go_roundw
                      case rel =>
                        exact ⟨5, by decide, by first | rfl | go_num, ⟨below_ibox (g := w4.heap.size) HB9.out (by have := NE.out; omega) _ _, Va.out.store (by have := NE.out; omega) Vm.out.row, Vb.out.store (by have := NE.out; omega) Vm.out.row, Vz.out.store (by have := NE.out; omega) Vm.out.row, ⟨_, _, _, _, _, Vl.out.store (by have := NE.out; omega) Vm.out.row, HLl.out.1, fun _ => HLl.out.2 (by decide)⟩, ⟨_, _, _, _, _, Vq.out.put Vm.out.row, LQ.out, fun _ => HTQ.out⟩⟩⟩
                      case measure => simp [intOf]
                    · have d2 : decide (K2 > 0) = false := decide_eq_false q2
                      have d2' : decide (0 < K2) = false := decide_eq_false q2
                      clear q2
                      go_wp2_with fail
                      go_roundw
                      case rel =>
                        exact ⟨5, by decide, by first | rfl | go_num, ⟨HB9.out, Va.out, Vb.out, Vz.out, ⟨_, _, _, _, _, Vl.out, HLl.out.1, fun _ => HLl.out.2 (by decide)⟩, ⟨_, _, _, _, _, Vm.out, HLm.out.1, fun _ => HLm.out.2 (by decide)⟩⟩⟩
                      case measure => simp [intOf]
                · have eq0 : ((lq : Int) == 0) = false := by rw [beq_eq_false_iff_ne]; omega
                  have hql : 0 < lq := by omega
                  have hwit := limb_zero Vq.out.num HE.out hql
                  obtain ⟨bq, fq, x0, rfl, hc0, hx0⟩ := hwit
                  have ex : ((x0 : Int) % 2 == 0) = true := by rw [beq_iff_eq]; omega
                  have ex2 : ((x0 : Int).tmod 2 == 0) = true := by rw [Int.tmod_eq_emod_of_nonneg (by omega)]; exact ex
                  clear hq0
                  obtain ⟨K1, hK1⟩ : ∃ K1, K1 = cmpI Q nl := ⟨_, rfl⟩
                  have HC := Lib.hid (cmp_is _ _ Q nl K1 61 61 Y ⟨Vq.out.num, LQ.out⟩ ⟨Vl.out.num, HLl.out.1⟩ (by decide) (by decide) hK1.symm)
                  clear hK1
                  go_wp2_with fail
                  refine HC.out.mono ?_
                  rintro e x1 ⟨rfl, hs⟩
                  clear HC
                  clear c0a c1a c0b c1b c0q c1q c0r c1r c0l c1l c0m c1m f0l f1l f0m f1m
                  have Ya := Lib.hid (Va.out.on hs)
                  clear Va
                  have Va := Ya
                  clear Ya
                  have Yb := Lib.hid (Vb.out.on hs)
                  clear Vb
                  have Vb := Yb
                  clear Yb
                  have Yz := Lib.hid (Vz.out.on hs)
                  clear Vz
                  have Vz := Yz
                  clear Yz
                  have Yl := Lib.hid (Vl.out.on hs)
                  clear Vl
                  have Vl := Yl
                  clear Yl
                  have Ym := Lib.hid (Vm.out.on hs)
                  clear Vm
                  have Vm := Ym
                  clear Ym
                  have Yq := Lib.hid (Vq.out.on hs)
                  clear Vq
                  have Vq := Yq
                  clear Yq
                  have HB8 := Lib.hid (HB7.out.trans (hs.mono HB7.out.size))
                  clear hs
                  have c0q := Vq.out.c0
                  have c1q := Vq.out.c1
                  have c0l := Vl.out.c0
                  have c1l := Vl.out.c1
                  have c0m := Vm.out.c0
                  have c1m := Vm.out.c1
                  have f0l := frozen_of_row _ _ 0 _ _ Vl.out.row
                  have f1l := frozen_of_row _ _ 1 _ _ Vl.out.row
                  by_cases q1 : K1 < 0
                  · have d1 : decide (K1 < 0) = true := decide_eq_true q1
                    clear q1
                    go_wp2_with fail
                    obtain ⟨X2, hX2⟩ : ∃ X2, X2 = (x1.setCell ⟨w3.heap.size, 0, none⟩ (.bool sq)).setCell ⟨w3.heap.size, 1, none⟩ (.slice (some ⟨bq, fq, none⟩) lq cq) := ⟨_, rfl⟩
                    rw [← hX2]
                    have Ya := Lib.hid (hX2 ▸ (Va.out.store (by have := NE.out; omega) Vl.out.row) : Kept X2 _ _ _ _ _ _)
                    have Yb := Lib.hid (hX2 ▸ (Vb.out.store (by have := NE.out; omega) Vl.out.row) : Kept X2 _ _ _ _ _ _)
                    have Yz := Lib.hid (hX2 ▸ (Vz.out.store (by have := NE.out; omega) Vl.out.row) : Kept X2 _ _ _ _ _ _)
                    have Ym := Lib.hid (hX2 ▸ (Vm.out.store (by have := NE.out; omega) Vl.out.row) : Kept X2 _ _ _ _ _ _)
                    have Yq := Lib.hid (hX2 ▸ (Vq.out.store (by have := NE.out; omega) Vl.out.row) : Kept X2 _ _ _ _ _ _)
                    have Yl := Lib.hid (hX2 ▸ (Vq.out.put Vl.out.row) : Kept X2 _ _ _ _ _ _)
                    have HBX := Lib.hid (hX2 ▸ (below_ibox (g := w3.heap.size) HB8.out (by have := NE.out; omega) (.bool sq) (.slice (some ⟨bq, fq, none⟩) lq cq)) : Below w.heap.size w X2)
                    clear Va Vb Vz Vm Vq Vl HB8 HLl hX2
                    have HLl := Lib.hid (And.intro LQ.out (fun _ : (2 : Int) ≤ 4 => HTQ.out))
                    have Va := Ya
                    have Vb := Yb
                    have Vz := Yz
                    have Vm := Ym
                    have Vq := Yq
                    have Vl := Yl
                    clear Ya Yb Yz Ym Yq Yl c0q c1q c0l c1l c0m c1m f0l f1l
                    obtain ⟨K2, hK2⟩ : ∃ K2, K2 = cmpI Q nm := ⟨_, rfl⟩
                    have HC := Lib.hid (cmp_is _ _ Q nm K2 61 61 X2 ⟨Vq.out.num, LQ.out⟩ ⟨Vm.out.num, HLm.out.1⟩ (by decide) (by decide) hK2.symm)
                    clear hK2
                    refine HC.out.mono ?_
                    rintro e x3 ⟨rfl, hs⟩
                    clear HC
                    have Ya := Lib.hid (Va.out.on hs)
                    clear Va
                    have Va := Ya
                    clear Ya
                    have Yb := Lib.hid (Vb.out.on hs)
                    clear Vb
                    have Vb := Yb
                    clear Yb
                    have Yz := Lib.hid (Vz.out.on hs)
                    clear Vz
                    have Vz := Yz
                    clear Yz
                    have Yl := Lib.hid (Vl.out.on hs)
                    clear Vl
                    have Vl := Yl
                    clear Yl
                    have Ym := Lib.hid (Vm.out.on hs)
                    clear Vm
                    have Vm := Ym
                    clear Ym
                    have Yq := Lib.hid (Vq.out.on hs)
                    clear Vq
                    have Vq := Yq
                    clear Yq
                    have HB9 := Lib.hid (HBX.out.trans (hs.mono HBX.out.size))
                    clear hs
                    have c0q := Vq.out.c0
                    have c1q := Vq.out.c1
                    have c0m := Vm.out.c0
                    have c1m := Vm.out.c1
                    have f0m := frozen_of_row _ _ 0 _ _ Vm.out.row
                    have f1m := frozen_of_row _ _ 1 _ _ Vm.out.row
                    by_cases q2 : K2 > 0
                    · have d2 : decide (K2 > 0) = true := decide_eq_true q2
                      have d2' : decide (0 < K2) = true := decide_eq_true q2
                      clear q2
                      go_wp2_with fail
                      go_roundw
                      case rel =>
                        exact ⟨5, by decide, by first | rfl | go_num, ⟨below_ibox (g := w4.heap.size) HB9.out (by have := NE.out; omega) _ _, Va.out.store (by have := NE.out; omega) Vm.out.row, Vb.out.store (by have := NE.out; omega) Vm.out.row, Vz.out.store (by have := NE.out; omega) Vm.out.row, ⟨_, _, _, _, _, Vl.out.store (by have := NE.out; omega) Vm.out.row, HLl.out.1, fun _ => HLl.out.2 (by decide)⟩, ⟨_, _, _, _, _, Vq.out.put Vm.out.row, LQ.out, fun _ => HTQ.out⟩⟩⟩
                      case measure => simp [intOf]
                    · have d2 : decide (K2 > 0) = false := decide_eq_false q2
                      have d2' : decide (0 < K2) = false := decide_eq_false q2
                      clear q2
                      go_wp2_with fail
                      go_roundw
                      case rel =>
                        exact ⟨5, by decide, by first | rfl | go_num, ⟨HB9.out, Va.out, Vb.out, Vz.out, ⟨_, _, _, _, _, Vl.out, HLl.out.1, fun _ => HLl.out.2 (by decide)⟩, ⟨_, _, _, _, _, Vm.out, HLm.out.1, fun _ => HLm.out.2 (by decide)⟩⟩⟩
                      case measure => simp [intOf]
                  · have d1 : decide (K1 < 0) = false := decide_eq_false q1
                    clear q1
                    go_wp2_with fail
                    clear c0q c1q c0l c1l c0m c1m f0l f1l
                    obtain ⟨K2, hK2⟩ : ∃ K2, K2 = cmpI Q nm := ⟨_, rfl⟩
                    have HC := Lib.hid (cmp_is _ _ Q nm K2 61 61 x1 ⟨Vq.out.num, LQ.out⟩ ⟨Vm.out.num, HLm.out.1⟩ (by decide) (by decide) hK2.symm)
                    clear hK2
                    refine HC.out.mono ?_
                    rintro e x3 ⟨rfl, hs⟩
                    clear HC
                    have Ya := Lib.hid (Va.out.on hs)
                    clear Va
                    have Va := Ya
                    clear Ya
                    have Yb := Lib.hid (Vb.out.on hs)
                    clear Vb
                    have Vb := Yb
                    clear Yb
                    have Yz := Lib.hid (Vz.out.on hs)
                    clear Vz
                    have Vz := Yz
                    clear Yz
                    have Yl := Lib.hid (Vl.out.on hs)
                    clear Vl
                    have Vl := Yl
                    clear Yl
                    have Ym := Lib.hid (Vm.out.on hs)
                    clear Vm
                    have Vm := Ym
                    clear Ym
                    have Yq := Lib.hid (Vq.out.on hs)
                    clear Vq
                    have Vq := Yq
                    clear Yq
                    have HB9 := Lib.hid (HB8.out.trans (hs.mono HB8.out.size))
                    clear hs
                    have c0q := Vq.out.c0
                    have c1q := Vq.out.c1
                    have c0m := Vm.out.c0
                    have c1m := Vm.out.c1
                    have f0m := frozen_of_row _ _ 0 _ _ Vm.out.row
                    have f1m := frozen_of_row _ _ 1 _ _ Vm.out.row
                    by_cases q2 : K2 > 0
                    · have d2 : decide (K2 > 0) = true := decide_eq_true q2
                      have d2' : decide (0 < K2) = true := decide_eq_true q2
                      clear q2
                      go_wp2_with fail
                      go_roundw
                      case rel =>
                        exact ⟨5, by decide, by first | rfl | go_num, ⟨below_ibox (g := w4.heap.size) HB9.out (by have := NE.out; omega) _ _, Va.out.store (by have := NE.out; omega) Vm.out.row, Vb.out.store (by have := NE.out; omega) Vm.out.row, Vz.out.store (by have := NE.out; omega) Vm.out.row, ⟨_, _, _, _, _, Vl.out.store (by have := NE.out; omega) Vm.out.row, HLl.out.1, fun _ => HLl.out.2 (by decide)⟩, ⟨_, _, _, _, _, Vq.out.put Vm.out.row, LQ.out, fun _ => HTQ.out⟩⟩⟩
                      case measure => simp [intOf]
                    · have d2 : decide (K2 > 0) = false := decide_eq_false q2
                      have d2' : decide (0 < K2) = false := decide_eq_false q2
                      clear q2
                      go_wp2_with fail
                      go_roundw
                      case rel =>
                        exact ⟨5, by decide, by first | rfl | go_num, ⟨HB9.out, Va.out, Vb.out, Vz.out, ⟨_, _, _, _, _, Vl.out, HLl.out.1, fun _ => HLl.out.2 (by decide)⟩, ⟨_, _, _, _, _, Vm.out, HLm.out.1, fun _ => HLm.out.2 (by decide)⟩⟩⟩
                      case measure => simp [intOf]
              · have er : ((lr : Int) == 0) = false := by rw [beq_eq_false_iff_ne]; omega
                clear hr0
                go_wp2_with fail
                clear er
                clear c0a c1a c0b c1b c0q c1q c0r c1r c0l c1l c0m c1m f0l f1l f0m f1m
                have z0r : ∀ w', Below X.heap.size X w' → w'.cell? ⟨u3.heap.size + 1, 0, none⟩ = some (.bool sr) := fun w' h => (Vr.out.on h).c0
                have z1r : ∀ w', Below X.heap.size X w' → w'.cell? ⟨u3.heap.size + 1, 1, none⟩ = some (.slice pr lr cr) := fun w' h => (Vr.out.on h).c1
                have z0z : ∀ w', Below X.heap.size X w' → w'.cell? ⟨gS, 0, none⟩ = some (.bool false) := fun w' h => (Vz.out.on h).c0
                have z1z : ∀ w', Below X.heap.size X w' → w'.cell? ⟨gS, 1, none⟩ = some (.slice pb lb cb) := fun w' h => (Vz.out.on h).c1
                have FR2 := Lib.hid (fun (w' : World) (h : Below X.heap.size X w') => (⟨(Vr.out.on h).num, LR.out⟩ : IsS w' (Value.agg #[.bool sr, .slice pr lr cr]) R 60))
                have FZ := Lib.hid (fun (w' : World) (h : Below X.heap.size X w') => (⟨(Vz.out.on h).num, by rw [show ((nb.natAbs : Int)).natAbs = nb.natAbs by omega]; exact Lb.out⟩ : IsS w' (Value.agg #[.bool false, .slice pb lb cb]) (nb.natAbs : Int) 60))
                have hrr : Below X.heap.size X X := Below.refl _ _
                have hp := Pend.nil X
                have hfi : ∀ (s : Bool) (p : Option Addr) (l c : Nat) (w : World), (Instr.field 25 (.agg #[.bool s, .slice p l c]) 1).run Tryz.prog w = .ok (.slice p l c) w := fun _ _ _ _ _ => by kernel_rfl
                go_region_held3 (fun w' => Below X.heap.size X w')
                  (first
                    | assumption
                    | exact below_drew0 _
                    | exact below_drew1 (by assumption))
                  (first
                    | (go_at_call 28; refine (fromInt_row 2 _ (by decide) (by decide)).mono ?_; rintro e wx ⟨⟨o1, o2, o3, o4, rfl, ho⟩, hwr⟩; have hp := (show Pend wx _ from (by first | exact hp.on hwr | exact hp.d.on hwr)).push (show IsS wx _ 2 1 from ⟨ho, by rw [show Nl.limbs (2 : Int).natAbs = [2] from limbs_one (by decide) (by decide)]; decide⟩); have belR := below_on (D := X) (by first | assumption | exact below_drew0 _) hwr; clear hwr ho)
                    | (go_at_call 65; refine (mul_law _ _ R 2 60 1 _ (FR2.out _ (by first | assumption | exact below_drew0 _)) (by first | exact hp.g0 | exact hp.d.g0) (by decide) (by decide) (by decide)).mono ?_; rintro e wx ⟨⟨t1, t2, t3, t4, rfl, hi⟩, hwr⟩; have hp := (show Pend wx _ from (by first | exact hp.on hwr | exact hp.d.on hwr)).push hi; have belR := below_on (D := X) (by first | assumption | exact below_drew0 _) hwr; clear hwr hi)
                    | (go_at_call 66; refine (cmp_is _ _ (((R * 2).natAbs : Nat) : Int) (nb.natAbs : Int) (0) 61 60 _ (abs_isS (by first | exact hp.g0 | exact hp.d.g0)) (FZ.out _ (by first | assumption | exact below_drew0 _)) (by decide) (by decide) HNK.out).mono ?_; rintro e wx ⟨rfl, hwr⟩; have hp := Pend.nil wx; have belR := below_on (D := X) (by first | assumption | exact below_drew0 _) hwr; clear hwr))
                have hs : Below X.heap.size X wx := by assumption
                have Ya := Lib.hid (Va.out.on hs)
                clear Va
                have Va := Ya
                clear Ya
                have Yb := Lib.hid (Vb.out.on hs)
                clear Vb
                have Vb := Yb
                clear Yb
                have Yz := Lib.hid (Vz.out.on hs)
                clear Vz
                have Vz := Yz
                clear Yz
                have Yl := Lib.hid (Vl.out.on hs)
                clear Vl
                have Vl := Yl
                clear Yl
                have Ym := Lib.hid (Vm.out.on hs)
                clear Vm
                have Vm := Ym
                clear Ym
                have Yq := Lib.hid (Vq.out.on hs)
                clear Vq
                have Vq := Yq
                clear Yq
                have Yr := Lib.hid (Vr.out.on hs)
                clear Vr
                have Vr := Yr
                clear Yr
                have HB7 := Lib.hid (HB7.out.trans (hs.mono HB7.out.size))
                clear hs z0z z1z FZ FR2 hrr hp hfi z0r z1r
                obtain ⟨Y, hY⟩ : ∃ Y, Y = wx := ⟨_, rfl⟩
                rw [← hY] at Va Vb Vz Vl Vm Vq Vr HB7 ⊢
                clear hY
                have c0a := Va.out.c0
                have c1a := Va.out.c1
                have c0b := Vb.out.c0
                have c1b := Vb.out.c1
                have c0q := Vq.out.c0
                have c1q := Vq.out.c1
                have c0r := Vr.out.c0
                have c1r := Vr.out.c1
                have c0l := Vl.out.c0
                have c1l := Vl.out.c1
                have c0m := Vm.out.c0
                have c1m := Vm.out.c1
                have f0l := frozen_of_row _ _ 0 _ _ Vl.out.row
                have f1l := frozen_of_row _ _ 1 _ _ Vl.out.row
                have f0m := frozen_of_row _ _ 0 _ _ Vm.out.row
                have f1m := frozen_of_row _ _ 1 _ _ Vm.out.row
                by_cases hq0 : lq = 0
                · have eq0 : ((lq : Int) == 0) = true := by rw [beq_iff_eq]; omega
                  clear hq0
                  obtain ⟨K1, hK1⟩ : ∃ K1, K1 = cmpI Q nl := ⟨_, rfl⟩
                  have HC := Lib.hid (cmp_is _ _ Q nl K1 61 61 Y ⟨Vq.out.num, LQ.out⟩ ⟨Vl.out.num, HLl.out.1⟩ (by decide) (by decide) hK1.symm)
                  clear hK1
                  go_wp2_with fail
                  refine HC.out.mono ?_
                  rintro e x1 ⟨rfl, hs⟩
                  clear HC
                  clear c0a c1a c0b c1b c0q c1q c0r c1r c0l c1l c0m c1m f0l f1l f0m f1m
                  have Ya := Lib.hid (Va.out.on hs)
                  clear Va
                  have Va := Ya
                  clear Ya
                  have Yb := Lib.hid (Vb.out.on hs)
                  clear Vb
                  have Vb := Yb
                  clear Yb
                  have Yz := Lib.hid (Vz.out.on hs)
                  clear Vz
                  have Vz := Yz
                  clear Yz
                  have Yl := Lib.hid (Vl.out.on hs)
                  clear Vl
                  have Vl := Yl
                  clear Yl
                  have Ym := Lib.hid (Vm.out.on hs)
                  clear Vm
                  have Vm := Ym
                  clear Ym
                  have Yq := Lib.hid (Vq.out.on hs)
                  clear Vq
                  have Vq := Yq
                  clear Yq
                  have HB8 := Lib.hid (HB7.out.trans (hs.mono HB7.out.size))
                  clear hs
                  have c0q := Vq.out.c0
                  have c1q := Vq.out.c1
                  have c0l := Vl.out.c0
                  have c1l := Vl.out.c1
                  have c0m := Vm.out.c0
                  have c1m := Vm.out.c1
                  have f0l := frozen_of_row _ _ 0 _ _ Vl.out.row
                  have f1l := frozen_of_row _ _ 1 _ _ Vl.out.row
                  by_cases q1 : K1 < 0
                  · have d1 : decide (K1 < 0) = true := decide_eq_true q1
                    clear q1
                    go_wp2_with fail
                    obtain ⟨X2, hX2⟩ : ∃ X2, X2 = (x1.setCell ⟨w3.heap.size, 0, none⟩ (.bool sq)).setCell ⟨w3.heap.size, 1, none⟩ (.slice pq lq cq) := ⟨_, rfl⟩
                    rw [← hX2]
                    have Ya := Lib.hid (hX2 ▸ (Va.out.store (by have := NE.out; omega) Vl.out.row) : Kept X2 _ _ _ _ _ _)
                    have Yb := Lib.hid (hX2 ▸ (Vb.out.store (by have := NE.out; omega) Vl.out.row) : Kept X2 _ _ _ _ _ _)
                    have Yz := Lib.hid (hX2 ▸ (Vz.out.store (by have := NE.out; omega) Vl.out.row) : Kept X2 _ _ _ _ _ _)
                    have Ym := Lib.hid (hX2 ▸ (Vm.out.store (by have := NE.out; omega) Vl.out.row) : Kept X2 _ _ _ _ _ _)
                    have Yq := Lib.hid (hX2 ▸ (Vq.out.store (by have := NE.out; omega) Vl.out.row) : Kept X2 _ _ _ _ _ _)
                    have Yl := Lib.hid (hX2 ▸ (Vq.out.put Vl.out.row) : Kept X2 _ _ _ _ _ _)
                    have HBX := Lib.hid (hX2 ▸ (below_ibox (g := w3.heap.size) HB8.out (by have := NE.out; omega) (.bool sq) (.slice pq lq cq)) : Below w.heap.size w X2)
                    clear Va Vb Vz Vm Vq Vl HB8 HLl hX2
                    have HLl := Lib.hid (And.intro LQ.out (fun _ : (2 : Int) ≤ 4 => HTQ.out))
                    have Va := Ya
                    have Vb := Yb
                    have Vz := Yz
                    have Vm := Ym
                    have Vq := Yq
                    have Vl := Yl
                    clear Ya Yb Yz Ym Yq Yl c0q c1q c0l c1l c0m c1m f0l f1l
                    obtain ⟨K2, hK2⟩ : ∃ K2, K2 = cmpI Q nm := ⟨_, rfl⟩
                    have HC := Lib.hid (cmp_is _ _ Q nm K2 61 61 X2 ⟨Vq.out.num, LQ.out⟩ ⟨Vm.out.num, HLm.out.1⟩ (by decide) (by decide) hK2.symm)
                    clear hK2
                    refine HC.out.mono ?_
                    rintro e x3 ⟨rfl, hs⟩
                    clear HC
                    have Ya := Lib.hid (Va.out.on hs)
                    clear Va
                    have Va := Ya
                    clear Ya
                    have Yb := Lib.hid (Vb.out.on hs)
                    clear Vb
                    have Vb := Yb
                    clear Yb
                    have Yz := Lib.hid (Vz.out.on hs)
                    clear Vz
                    have Vz := Yz
                    clear Yz
                    have Yl := Lib.hid (Vl.out.on hs)
                    clear Vl
                    have Vl := Yl
                    clear Yl
                    have Ym := Lib.hid (Vm.out.on hs)
                    clear Vm
                    have Vm := Ym
                    clear Ym
                    have Yq := Lib.hid (Vq.out.on hs)
                    clear Vq
                    have Vq := Yq
                    clear Yq
                    have HB9 := Lib.hid (HBX.out.trans (hs.mono HBX.out.size))
                    clear hs
                    have c0q := Vq.out.c0
                    have c1q := Vq.out.c1
                    have c0m := Vm.out.c0
                    have c1m := Vm.out.c1
                    have f0m := frozen_of_row _ _ 0 _ _ Vm.out.row
                    have f1m := frozen_of_row _ _ 1 _ _ Vm.out.row
                    by_cases q2 : K2 > 0
                    · have d2 : decide (K2 > 0) = true := decide_eq_true q2
                      have d2' : decide (0 < K2) = true := decide_eq_true q2
                      clear q2
                      go_wp2_with fail
                      go_roundw
                      case rel =>
                        exact ⟨5, by decide, by first | rfl | go_num, ⟨below_ibox (g := w4.heap.size) HB9.out (by have := NE.out; omega) _ _, Va.out.store (by have := NE.out; omega) Vm.out.row, Vb.out.store (by have := NE.out; omega) Vm.out.row, Vz.out.store (by have := NE.out; omega) Vm.out.row, ⟨_, _, _, _, _, Vl.out.store (by have := NE.out; omega) Vm.out.row, HLl.out.1, fun _ => HLl.out.2 (by decide)⟩, ⟨_, _, _, _, _, Vq.out.put Vm.out.row, LQ.out, fun _ => HTQ.out⟩⟩⟩
                      case measure => simp [intOf]
                    · have d2 : decide (K2 > 0) = false := decide_eq_false q2
                      have d2' : decide (0 < K2) = false := decide_eq_false q2
                      clear q2
                      go_wp2_with fail
                      go_roundw
                      case rel =>
                        exact ⟨5, by decide, by first | rfl | go_num, ⟨HB9.out, Va.out, Vb.out, Vz.out, ⟨_, _, _, _, _, Vl.out, HLl.out.1, fun _ => HLl.out.2 (by decide)⟩, ⟨_, _, _, _, _, Vm.out, HLm.out.1, fun _ => HLm.out.2 (by decide)⟩⟩⟩
                      case measure => simp [intOf]
                  · have d1 : decide (K1 < 0) = false := decide_eq_false q1
                    clear q1
                    go_wp2_with fail
                    clear c0q c1q c0l c1l c0m c1m f0l f1l
                    obtain ⟨K2, hK2⟩ : ∃ K2, K2 = cmpI Q nm := ⟨_, rfl⟩
                    have HC := Lib.hid (cmp_is _ _ Q nm K2 61 61 x1 ⟨Vq.out.num, LQ.out⟩ ⟨Vm.out.num, HLm.out.1⟩ (by decide) (by decide) hK2.symm)
                    clear hK2
                    refine HC.out.mono ?_
                    rintro e x3 ⟨rfl, hs⟩
                    clear HC
                    have Ya := Lib.hid (Va.out.on hs)
                    clear Va
                    have Va := Ya
                    clear Ya
                    have Yb := Lib.hid (Vb.out.on hs)
                    clear Vb
                    have Vb := Yb
                    clear Yb
                    have Yz := Lib.hid (Vz.out.on hs)
                    clear Vz
                    have Vz := Yz
                    clear Yz
                    have Yl := Lib.hid (Vl.out.on hs)
                    clear Vl
                    have Vl := Yl
                    clear Yl
                    have Ym := Lib.hid (Vm.out.on hs)
                    clear Vm
                    have Vm := Ym
                    clear Ym
                    have Yq := Lib.hid (Vq.out.on hs)
                    clear Vq
                    have Vq := Yq
                    clear Yq
                    have HB9 := Lib.hid (HB8.out.trans (hs.mono HB8.out.size))
                    clear hs
                    have c0q := Vq.out.c0
                    have c1q := Vq.out.c1
                    have c0m := Vm.out.c0
                    have c1m := Vm.out.c1
                    have f0m := frozen_of_row _ _ 0 _ _ Vm.out.row
                    have f1m := frozen_of_row _ _ 1 _ _ Vm.out.row
                    by_cases q2 : K2 > 0
                    · have d2 : decide (K2 > 0) = true := decide_eq_true q2
                      have d2' : decide (0 < K2) = true := decide_eq_true q2
                      clear q2
                      go_wp2_with fail
                      go_roundw
                      case rel =>
                        exact ⟨5, by decide, by first | rfl | go_num, ⟨below_ibox (g := w4.heap.size) HB9.out (by have := NE.out; omega) _ _, Va.out.store (by have := NE.out; omega) Vm.out.row, Vb.out.store (by have := NE.out; omega) Vm.out.row, Vz.out.store (by have := NE.out; omega) Vm.out.row, ⟨_, _, _, _, _, Vl.out.store (by have := NE.out; omega) Vm.out.row, HLl.out.1, fun _ => HLl.out.2 (by decide)⟩, ⟨_, _, _, _, _, Vq.out.put Vm.out.row, LQ.out, fun _ => HTQ.out⟩⟩⟩
                      case measure => simp [intOf]
                    · have d2 : decide (K2 > 0) = false := decide_eq_false q2
                      have d2' : decide (0 < K2) = false := decide_eq_false q2
                      clear q2
                      go_wp2_with fail
                      go_roundw
                      case rel =>
                        exact ⟨5, by decide, by first | rfl | go_num, ⟨HB9.out, Va.out, Vb.out, Vz.out, ⟨_, _, _, _, _, Vl.out, HLl.out.1, fun _ => HLl.out.2 (by decide)⟩, ⟨_, _, _, _, _, Vm.out, HLm.out.1, fun _ => HLm.out.2 (by decide)⟩⟩⟩
                      case measure => simp [intOf]
                · have eq0 : ((lq : Int) == 0) = false := by rw [beq_eq_false_iff_ne]; omega
                  have hql : 0 < lq := by omega
                  have hwit := limb_zero Vq.out.num HE.out hql
                  obtain ⟨bq, fq, x0, rfl, hc0, hx0⟩ := hwit
                  have ex : ((x0 : Int) % 2 == 0) = true := by rw [beq_iff_eq]; omega
                  have ex2 : ((x0 : Int).tmod 2 == 0) = true := by rw [Int.tmod_eq_emod_of_nonneg (by omega)]; exact ex
                  clear hq0
                  obtain ⟨K1, hK1⟩ : ∃ K1, K1 = cmpI Q nl := ⟨_, rfl⟩
                  have HC := Lib.hid (cmp_is _ _ Q nl K1 61 61 Y ⟨Vq.out.num, LQ.out⟩ ⟨Vl.out.num, HLl.out.1⟩ (by decide) (by decide) hK1.symm)
                  clear hK1
                  go_wp2_with fail
                  refine HC.out.mono ?_
                  rintro e x1 ⟨rfl, hs⟩
                  clear HC
                  clear c0a c1a c0b c1b c0q c1q c0r c1r c0l c1l c0m c1m f0l f1l f0m f1m
                  have Ya := Lib.hid (Va.out.on hs)
                  clear Va
                  have Va := Ya
                  clear Ya
                  have Yb := Lib.hid (Vb.out.on hs)
                  clear Vb
                  have Vb := Yb
                  clear Yb
                  have Yz := Lib.hid (Vz.out.on hs)
                  clear Vz
                  have Vz := Yz
                  clear Yz
                  have Yl := Lib.hid (Vl.out.on hs)
                  clear Vl
                  have Vl := Yl
                  clear Yl
                  have Ym := Lib.hid (Vm.out.on hs)
                  clear Vm
                  have Vm := Ym
                  clear Ym
                  have Yq := Lib.hid (Vq.out.on hs)
                  clear Vq
                  have Vq := Yq
                  clear Yq
                  have HB8 := Lib.hid (HB7.out.trans (hs.mono HB7.out.size))
                  clear hs
                  have c0q := Vq.out.c0
                  have c1q := Vq.out.c1
                  have c0l := Vl.out.c0
                  have c1l := Vl.out.c1
                  have c0m := Vm.out.c0
                  have c1m := Vm.out.c1
                  have f0l := frozen_of_row _ _ 0 _ _ Vl.out.row
                  have f1l := frozen_of_row _ _ 1 _ _ Vl.out.row
                  by_cases q1 : K1 < 0
                  · have d1 : decide (K1 < 0) = true := decide_eq_true q1
                    clear q1
                    go_wp2_with fail
                    obtain ⟨X2, hX2⟩ : ∃ X2, X2 = (x1.setCell ⟨w3.heap.size, 0, none⟩ (.bool sq)).setCell ⟨w3.heap.size, 1, none⟩ (.slice (some ⟨bq, fq, none⟩) lq cq) := ⟨_, rfl⟩
                    rw [← hX2]
                    have Ya := Lib.hid (hX2 ▸ (Va.out.store (by have := NE.out; omega) Vl.out.row) : Kept X2 _ _ _ _ _ _)
                    have Yb := Lib.hid (hX2 ▸ (Vb.out.store (by have := NE.out; omega) Vl.out.row) : Kept X2 _ _ _ _ _ _)
                    have Yz := Lib.hid (hX2 ▸ (Vz.out.store (by have := NE.out; omega) Vl.out.row) : Kept X2 _ _ _ _ _ _)
                    have Ym := Lib.hid (hX2 ▸ (Vm.out.store (by have := NE.out; omega) Vl.out.row) : Kept X2 _ _ _ _ _ _)
                    have Yq := Lib.hid (hX2 ▸ (Vq.out.store (by have := NE.out; omega) Vl.out.row) : Kept X2 _ _ _ _ _ _)
                    have Yl := Lib.hid (hX2 ▸ (Vq.out.put Vl.out.row) : Kept X2 _ _ _ _ _ _)
                    have HBX := Lib.hid (hX2 ▸ (below_ibox (g := w3.heap.size) HB8.out (by have := NE.out; omega) (.bool sq) (.slice (some ⟨bq, fq, none⟩) lq cq)) : Below w.heap.size w X2)
                    clear Va Vb Vz Vm Vq Vl HB8 HLl hX2
                    have HLl := Lib.hid (And.intro LQ.out (fun _ : (2 : Int) ≤ 4 => HTQ.out))
                    have Va := Ya
                    have Vb := Yb
                    have Vz := Yz
                    have Vm := Ym
                    have Vq := Yq
                    have Vl := Yl
                    clear Ya Yb Yz Ym Yq Yl c0q c1q c0l c1l c0m c1m f0l f1l
                    obtain ⟨K2, hK2⟩ : ∃ K2, K2 = cmpI Q nm := ⟨_, rfl⟩
                    have HC := Lib.hid (cmp_is _ _ Q nm K2 61 61 X2 ⟨Vq.out.num, LQ.out⟩ ⟨Vm.out.num, HLm.out.1⟩ (by decide) (by decide) hK2.symm)
                    clear hK2
                    refine HC.out.mono ?_
                    rintro e x3 ⟨rfl, hs⟩
                    clear HC
                    have Ya := Lib.hid (Va.out.on hs)
                    clear Va
                    have Va := Ya
                    clear Ya
                    have Yb := Lib.hid (Vb.out.on hs)
                    clear Vb
                    have Vb := Yb
                    clear Yb
                    have Yz := Lib.hid (Vz.out.on hs)
                    clear Vz
                    have Vz := Yz
                    clear Yz
                    have Yl := Lib.hid (Vl.out.on hs)
                    clear Vl
                    have Vl := Yl
                    clear Yl
                    have Ym := Lib.hid (Vm.out.on hs)
                    clear Vm
                    have Vm := Ym
                    clear Ym
                    have Yq := Lib.hid (Vq.out.on hs)
                    clear Vq
                    have Vq := Yq
                    clear Yq
                    have HB9 := Lib.hid (HBX.out.trans (hs.mono HBX.out.size))
                    clear hs
                    have c0q := Vq.out.c0
                    have c1q := Vq.out.c1
                    have c0m := Vm.out.c0
                    have c1m := Vm.out.c1
                    have f0m := frozen_of_row _ _ 0 _ _ Vm.out.row
                    have f1m := frozen_of_row _ _ 1 _ _ Vm.out.row
                    by_cases q2 : K2 > 0
                    · have d2 : decide (K2 > 0) = true := decide_eq_true q2
                      have d2' : decide (0 < K2) = true := decide_eq_true q2
                      clear q2
                      go_wp2_with fail
                      go_roundw
                      case rel =>
                        exact ⟨5, by decide, by first | rfl | go_num, ⟨below_ibox (g := w4.heap.size) HB9.out (by have := NE.out; omega) _ _, Va.out.store (by have := NE.out; omega) Vm.out.row, Vb.out.store (by have := NE.out; omega) Vm.out.row, Vz.out.store (by have := NE.out; omega) Vm.out.row, ⟨_, _, _, _, _, Vl.out.store (by have := NE.out; omega) Vm.out.row, HLl.out.1, fun _ => HLl.out.2 (by decide)⟩, ⟨_, _, _, _, _, Vq.out.put Vm.out.row, LQ.out, fun _ => HTQ.out⟩⟩⟩
                      case measure => simp [intOf]
                    · have d2 : decide (K2 > 0) = false := decide_eq_false q2
                      have d2' : decide (0 < K2) = false := decide_eq_false q2
                      clear q2
                      go_wp2_with fail
                      go_roundw
                      case rel =>
                        exact ⟨5, by decide, by first | rfl | go_num, ⟨HB9.out, Va.out, Vb.out, Vz.out, ⟨_, _, _, _, _, Vl.out, HLl.out.1, fun _ => HLl.out.2 (by decide)⟩, ⟨_, _, _, _, _, Vm.out, HLm.out.1, fun _ => HLm.out.2 (by decide)⟩⟩⟩
                      case measure => simp [intOf]
                  · have d1 : decide (K1 < 0) = false := decide_eq_false q1
                    clear q1
                    go_wp2_with fail
                    clear c0q c1q c0l c1l c0m c1m f0l f1l
                    obtain ⟨K2, hK2⟩ : ∃ K2, K2 = cmpI Q nm := ⟨_, rfl⟩
                    have HC := Lib.hid (cmp_is _ _ Q nm K2 61 61 x1 ⟨Vq.out.num, LQ.out⟩ ⟨Vm.out.num, HLm.out.1⟩ (by decide) (by decide) hK2.symm)
                    clear hK2
                    refine HC.out.mono ?_
                    rintro e x3 ⟨rfl, hs⟩
                    clear HC
                    have Ya := Lib.hid (Va.out.on hs)
                    clear Va
                    have Va := Ya
                    clear Ya
                    have Yb := Lib.hid (Vb.out.on hs)
                    clear Vb
                    have Vb := Yb
                    clear Yb
                    have Yz := Lib.hid (Vz.out.on hs)
                    clear Vz
                    have Vz := Yz
                    clear Yz
                    have Yl := Lib.hid (Vl.out.on hs)
                    clear Vl
                    have Vl := Yl
                    clear Yl
                    have Ym := Lib.hid (Vm.out.on hs)
                    clear Vm
                    have Vm := Ym
                    clear Ym
                    have Yq := Lib.hid (Vq.out.on hs)
                    clear Vq
                    have Vq := Yq
                    clear Yq
                    have HB9 := Lib.hid (HB8.out.trans (hs.mono HB8.out.size))
                    clear hs
                    have c0q := Vq.out.c0
                    have c1q := Vq.out.c1
                    have c0m := Vm.out.c0
                    have c1m := Vm.out.c1
                    have f0m := frozen_of_row _ _ 0 _ _ Vm.out.row
                    have f1m := frozen_of_row _ _ 1 _ _ Vm.out.row
                    by_cases q2 : K2 > 0
                    · have d2 : decide (K2 > 0) = true := decide_eq_true q2
                      have d2' : decide (0 < K2) = true := decide_eq_true q2
                      clear q2
                      go_wp2_with fail
                      go_roundw
                      case rel =>
                        exact ⟨5, by decide, by first | rfl | go_num, ⟨below_ibox (g := w4.heap.size) HB9.out (by have := NE.out; omega) _ _, Va.out.store (by have := NE.out; omega) Vm.out.row, Vb.out.store (by have := NE.out; omega) Vm.out.row, Vz.out.store (by have := NE.out; omega) Vm.out.row, ⟨_, _, _, _, _, Vl.out.store (by have := NE.out; omega) Vm.out.row, HLl.out.1, fun _ => HLl.out.2 (by decide)⟩, ⟨_, _, _, _, _, Vq.out.put Vm.out.row, LQ.out, fun _ => HTQ.out⟩⟩⟩
                      case measure => simp [intOf]
                    · have d2 : decide (K2 > 0) = false := decide_eq_false q2
                      have d2' : decide (0 < K2) = false := decide_eq_false q2
                      clear q2
                      go_wp2_with fail
                      go_roundw
                      case rel =>
                        exact ⟨5, by decide, by first | rfl | go_num, ⟨HB9.out, Va.out, Vb.out, Vz.out, ⟨_, _, _, _, _, Vl.out, HLl.out.1, fun _ => HLl.out.2 (by decide)⟩, ⟨_, _, _, _, _, Vm.out, HLm.out.1, fun _ => HLm.out.2 (by decide)⟩⟩⟩
                      case measure => simp [intOf]
        · as_aux_lemma =>
            have c0l := Vl.out.c0
            have c1l := Vl.out.c1
            have c0m := Vm.out.c0
            have c1m := Vm.out.c1
            have HC := Lib.hid (sub_law _ _ nm nl 61 61 wr ⟨Vm.out.num, HLm.out.1⟩ ⟨Vl.out.num, HLl.out.1⟩ (by decide) (by decide) (by decide))
            go_wp2_with fail
            refine HC.out.mono ?_
            rintro e y1 ⟨⟨t1, t2, t3, t4, rfl, hi⟩, hb1⟩
            have HI := Lib.hid (And.intro hi hb1)
            have HC2 := Lib.hid (fromInt_row 1 y1 (by decide) (by decide))
            clear hi hb1 HC c0l c1l c0m c1m
            go_wp2_with fail
            refine HC2.out.mono ?_
            rintro e y2 ⟨⟨o1, o2, o3, o4, rfl, ho⟩, hb2⟩
            obtain ⟨K3, hK3⟩ : ∃ K3, K3 = cmpI (nm - nl) 1 := ⟨_, rfl⟩
            have HC3 := Lib.hid (cmp_is _ _ (nm - nl) 1 K3 62 1 y2 (HI.out.1.below hb2) ⟨ho, by rw [show Nl.limbs (1 : Int).natAbs = [1] from limbs_one (by decide) (by decide)]; decide⟩ (by decide) (by decide) hK3.symm)
            have d3 : decide (K3 ≤ 0) = true := decide_eq_true (by
              have h1 := two_near (HLm.out.2 (by decide)) (HLl.out.2 (by decide))
              rw [hK3, cmpI]; split <;> (try split) <;> omega)
            have HB3 := Lib.hid (HB.out.trans ((HI.out.2.trans (hb2.mono HI.out.2.size)).mono HB.out.size))
            clear hK3 hb2 ho HC2 HI
            go_wp2_with fail
            refine HC3.out.mono ?_
            rintro e y3 ⟨rfl, hb3⟩
            go_wp2_with fail
            go_ret
            exact ⟨rfl, HB3.out.trans (hb3.mono HB3.out.size)⟩
end Go.Proofs.YtipjbnbmackidaaGreat
