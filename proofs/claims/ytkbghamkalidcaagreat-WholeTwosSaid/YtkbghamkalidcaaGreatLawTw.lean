/-
  WholeTwos returns true for any two integers and any place. Written by wip/tool/genlawtw.py. Conditions: those that each theorem names.
-/
import Derived.Test.YtkbghamkalidcaaGreatOpsLAll
import Derived.Test.YtkbghamkalidcaaGreatNotWAll
namespace Go.Proofs.YtkbghamkalidcaaGreat
open Go.RowKit

theorem inside_len {a : Int} {j n : Nat} (h : (Nl.limbs a.natAbs).length ≤ j) (hn : 32 * j + 1 ≤ n) : Nl.inside a n := by
  refine Nl.inside_le (n := 32 * j + 1) ?_ hn
  have h1 : a.natAbs < 2 ^ (32 * j) := by rw [← pow32]; exact Nat.lt_of_lt_of_le (Nl.lt_limbs _) (Nl.pow_le h)
  rw [Nl.inside, Nat.pow_succ]
  obtain ⟨P, hP⟩ : ∃ P, P = 2 ^ (32 * j) := ⟨_, rfl⟩
  rw [← hP] at h1 ⊢
  omega
theorem opI_bop (k : Nat) (a b : Int) (n : Nat) (hn : 32 * (max (Nl.limbs a.natAbs).length (Nl.limbs b.natAbs).length + 1) ≤ n) : opI k a b = Nl.bopI k a b n := by
  obtain ⟨j, hj⟩ : ∃ j, j = max (Nl.limbs a.natAbs).length (Nl.limbs b.natAbs).length := ⟨_, rfl⟩
  have h := Nl.bopI_le (k := k) (a := a) (b := b) (n := 32 * (j + 1)) (m := n) (by omega) (inside_len (j := j) (by omega) (by omega)) (inside_len (j := j) (by omega) (by omega)) (by rw [hj]; exact hn)
  rw [h, opI, ← hj, Nl.bopI, pow32]
theorem opI_sums {a b : Int} {j : Nat} (la : (Nl.limbs a.natAbs).length ≤ j) (lb : (Nl.limbs b.natAbs).length ≤ j) : opI 1 a b + opI 2 a b = a + b ∧ opI 3 a b = opI 2 a b - opI 1 a b := by
  have e := fun k => opI_bop k a b (32 * (j + 1)) (by omega)
  rw [e 1, e 2, e 3]
  exact Nl.bopI_sums (by omega) (inside_len la (by omega)) (inside_len lb (by omega))
theorem opI_not {a b : Int} {j : Nat} (la : (Nl.limbs a.natAbs).length ≤ j) (lb : (Nl.limbs b.natAbs).length ≤ j) (ka : (Nl.limbs (-1 - a).natAbs).length ≤ j) (kb : (Nl.limbs (-1 - b).natAbs).length ≤ j) : opI 2 (-1 - a) (-1 - b) = -1 - opI 1 a b := by
  rw [opI_bop 2 _ _ (32 * (j + 1)) (by omega), opI_bop 1 a b (32 * (j + 1)) (by omega)]
  exact Nl.bopI_not (by omega) (inside_len la (by omega)) (inside_len lb (by omega))
theorem opI_bit {k : Nat} {a b : Int} {t p q : Nat} (hp : Nl.bitI a t = p) (hq : Nl.bitI b t = q) : Nl.bitI (opI k a b) t = if Nl.bopB k (decide (p = 1)) (decide (q = 1)) = true then 1 else 0 := by
  rw [opI_bop k a b (32 * (max (Nl.limbs a.natAbs).length (Nl.limbs b.natAbs).length + 1) + t + 1) (by omega), Nl.bits_bop (by omega), hp, hq]
theorem not_bit {a : Int} {t p : Nat} (hp : Nl.bitI a t = p) : Nl.bitI (-1 - a) t = 1 - p := by
  rw [Nl.bits_not (n := 32 * (Nl.limbs a.natAbs).length + 1 + t + 1) (by omega) (inside_len (Nat.le_refl _) (by omega)), hp]
theorem len_not {a : Int} {j : Nat} (h : (Nl.limbs a.natAbs).length ≤ j) : (Nl.limbs (-1 - a).natAbs).length ≤ j + 1 := by
  have h1 := Nl.len_add a.natAbs 1
  have h2 : (Nl.limbs 1).length ≤ 1 := by rw [limbs_one (by decide) (by decide)]; decide
  refine Nat.le_trans (Nl.limbs_mono (show (-1 - a).natAbs ≤ a.natAbs + 1 by omega)) ?_
  by_cases h0 : j = 0
  · subst h0
    have := limbs_nil.1 (Nat.le_zero.1 h)
    rw [this, Nat.zero_add]; exact h2
  · omega
theorem wNot_ok (va : Value) (a : Int) (w : World) (ha : IsI w va a) (la : (Nl.limbs a.natAbs).length ≤ 900) :
    Calls Tryz.prog 14 #[va] w fun e w' => (∃ s p l c, e = .returned (.tuple #[.agg #[.bool s, .slice p l c], .int .i64 0]) ∧ IsI w' (.agg #[.bool s, .slice p l c]) (-1 - a)) ∧ Below w.heap.size w w' := by
  have hf : fitI (a + 1) := by
    have h := len_not la
    rw [fitI, show (a + 1).natAbs = (-1 - a).natAbs by omega]; omega
  have hw := wholeNot_fit va (negB a) (Nl.limbs a.natAbs) w ha (Nl.limbs_small _) (by rw [sgn_val]; exact hf)
  rw [sgn_val] at hw
  refine hw.mono ?_
  rintro e w' ⟨c, hc, ⟨v, rfl, h3, h4⟩, hb⟩
  rw [if_pos (validI_of (Nat.le_trans la (by decide))), codeI_fit (show fitI _ from Nat.le_trans (len_not la) (by decide))] at hc
  subst hc
  obtain ⟨p, cp, rfl, hu⟩ := (h3 rfl).form
  exact ⟨⟨_, _, _, _, rfl, h3 rfl⟩, hb⟩
theorem bit_is (va : Value) (a : Int) (t k : Nat) (h : Int) (hh : h = (k : Int)) (hb : Nl.bitI a t = k) (w : World) (ha : IsI w va a) (la : (Nl.limbs a.natAbs).length ≤ 100) (ht : t ≤ 2000) :
    Calls Tryz.prog 19 #[va, .int .i64 t] w fun e w' => e = .returned (.int .i64 h) ∧ Below w.heap.size w w' := by
  have h1 := bit_law va a t w ha la ht
  rw [hb, ← hh] at h1
  exact h1

set_option maxRecDepth 10000 in
set_option maxHeartbeats 32000000 in
theorem wholeTwos_any (va vb : Value) (sa sb : Bool) (xa xb : List Nat) (n : Int) (w : World) (ha : AtI w va sa xa) (hb : AtI w vb sb xb) (ma : Nl.Small xa) (mb : Nl.Small xb) :
    Calls Tryz.prog 3 #[va, vb, .int .i64 n] w fun e w' => e = .returned (.bool true) ∧ Below w.heap.size w w' := by
  obtain ⟨pa, ca, rfl, ua⟩ := ha.form
  obtain ⟨la, hla⟩ : ∃ la, la = xa.length := ⟨_, rfl⟩
  rw [← hla] at ua ha ⊢
  obtain ⟨pb, cb, rfl, ub⟩ := hb.form
  obtain ⟨lb, hlb⟩ : ∃ lb, lb = xb.length := ⟨_, rfl⟩
  rw [← hlb] at ub hb ⊢
  obtain ⟨W, hW⟩ : ∃ W, W = (w.alloc (.cells #[.bool sa, .slice pa la ca] 25)).alloc (.cells #[.bool sb, .slice pb lb cb] 25) := ⟨_, rfl⟩
  have hbW : Below w.heap.size w W := by rw [hW]; exact two_new w _ _
  have Ba : W.heap[w.heap.size]? = some (.cells #[.bool sa, .slice pa la ca] 25 (0, 0)) := by rw [hW]; exact heap_alloc2_old w _ _
  have Bb : W.heap[w.heap.size + 1]? = some (.cells #[.bool sb, .slice pb lb cb] 25 (0, 0)) := by rw [hW]; exact heap_alloc2_new w _ _
  have HW := Lib.hid hbW
  have HR := Lib.hid (And.intro Ba Bb)
  have HU := Lib.hid (And.intro (ua.below hbW) (ub.below hbW))
  have HM := Lib.hid (And.intro ma mb)
  clear ha hb ua ub ma mb hla hlb hbW Ba Bb
  go_enter Tryz.func3, Tryz.ntmps3
  go_wp2_with fail
  rw [← hW]
  clear hW
  refine (awake_any W).mono ?_
  rintro e w1 ⟨rfl, hb1⟩
  have Ra := (hb1.block _ (lt_of_block HR.out.1)).trans HR.out.1
  have c0a := cell_of_row _ _ 0 _ _ (0, 0) Ra
  have c1a := cell_of_row _ _ 1 _ _ (0, 0) Ra
  simp only [List.getElem?_toArray, List.getElem?_cons_zero, List.getElem?_cons_succ] at c0a c1a
  have Rb := (hb1.block _ (lt_of_block HR.out.2)).trans HR.out.2
  have c0b := cell_of_row _ _ 0 _ _ (0, 0) Rb
  have c1b := cell_of_row _ _ 1 _ _ (0, 0) Rb
  simp only [List.getElem?_toArray, List.getElem?_cons_zero, List.getElem?_cons_succ] at c0b c1b
  obtain ⟨G, hG⟩ : ∃ G, G = w1.alloc (.cells #[.bool sa, .slice pa la ca, .bool sb, .slice pb lb cb] 25) := ⟨_, rfl⟩
  have hg : Below w1.heap.size w1 G := by rw [hG]; exact below_one _ _
  have RG : G.heap[w1.heap.size]? = some (.cells #[.bool sa, .slice pa la ca, .bool sb, .slice pb lb cb] 25 (0, 0)) := by rw [hG]; exact al_at _ _ rfl
  have hF := fine_law w1.heap.size 40 [(sa, Value.slice pa la ca, xa), (sb, Value.slice pb lb cb, xb)] G (givenI_two w1.heap.size RG ((HU.out.1.below hb1).below hg) ((HU.out.2.below hb1).below hg)) (lt_of_block RG) (by simp)
  obtain ⟨fb, hfb⟩ : ∃ fb, fb = List.all [(sa, Value.slice pa la ca, xa), (sb, Value.slice pb lb cb, xb)] (fineP 40) := ⟨_, rfl⟩
  rw [← hfb] at hF
  have HF := Lib.hid hF
  have HFB := Lib.hid hfb
  have HB1 := Lib.hid (hb1.trans (hg.mono hb1.size))
  clear hF hfb Ra Rb RG hb1 hg
  go_wp2_with fail
  rw [← hG]
  clear hG
  refine HF.out.mono ?_
  rintro e w2 ⟨rfl, hb2⟩
  have hW2 := HB1.out.trans (hb2.mono HB1.out.size)
  clear c0a c1a c0b c1b HF HB1 hb2
  cases fb with
  | false =>
    go_wp2_with fail
    go_ret
    exact ⟨rfl, HW.out.trans (hW2.mono HW.out.size)⟩
  | true =>
    have hall := List.all_eq_true.1 HFB.out.symm
    obtain ⟨na, ka⟩ := fine_one (hall (sa, .slice pa la ca, xa) (by simp)) (HU.out.1.below hW2) HM.out.1
    have Va := Lib.hid (Kept.mk ((hW2.block _ (lt_of_block HR.out.1)).trans HR.out.1) ka.1)
    have La := Lib.hid ka.2
    obtain ⟨nb, kb⟩ := fine_one (hall (sb, .slice pb lb cb, xb) (by simp)) (HU.out.2.below hW2) HM.out.2
    have Vb := Lib.hid (Kept.mk ((hW2.block _ (lt_of_block HR.out.2)).trans HR.out.2) kb.1)
    have Lb := Lib.hid kb.2
    have HB2 := Lib.hid (HW.out.trans (hW2.mono HW.out.size))
    clear hall ka kb hW2 HFB HR HU HM HW
    have c0a := Va.out.c0
    have c1a := Va.out.c1
    have c0b := Vb.out.c0
    have c1b := Vb.out.c1
    have HC3 := Lib.hid (ops_law _ _ na nb w2 Va.out.num Vb.out.num (Nat.le_trans La.out (by decide)) (Nat.le_trans Lb.out (by decide)))
    go_wp2_with fail
    refine HC3.out.mono ?_
    rintro e w3 ⟨⟨sx, px, lx, cx, sy, py, ly, cy, sz, pz, lz, cz, rfl, hix, hiy, hiz⟩, hbx⟩
    obtain ⟨Z3, hZ3⟩ : ∃ Z3, Z3 = (((w3.alloc (.cells #[.bool sx, .slice px lx cx] 25)).alloc (.cells #[.bool sy, .slice py ly cy] 25)).alloc (.cells #[.bool sz, .slice pz lz cz] 25)) := ⟨_, rfl⟩
    have hz : Below w3.heap.size w3 Z3 := by rw [hZ3]; exact three_new w3 _ _ _
    have Rx : Z3.heap[w3.heap.size]? = some (.cells #[.bool sx, .slice px lx cx] 25 (0, 0)) := by rw [hZ3]; exact al_keep _ _ (by simp <;> omega) (al_keep _ _ (by simp <;> omega) (al_at _ _ (by simp)))
    have Ry : Z3.heap[w3.heap.size + 1]? = some (.cells #[.bool sy, .slice py ly cy] 25 (0, 0)) := by rw [hZ3]; exact al_keep _ _ (by simp <;> omega) (al_at _ _ (by simp))
    have Rz : Z3.heap[w3.heap.size + 1 + 1]? = some (.cells #[.bool sz, .slice pz lz cz] 25 (0, 0)) := by rw [hZ3]; exact al_at _ _ (by simp)
    have Ix := hix.below hz
    have Iy := hiy.below hz
    have Iz := hiz.below hz
    have hs := hbx.trans (hz.mono hbx.size)
    clear hix hiy hiz hz
    clear hbx HC3
    have Ya := Lib.hid (Va.out.on hs)
    clear Va
    have Va := Ya
    clear Ya
    have Yb := Lib.hid (Vb.out.on hs)
    clear Vb
    have Vb := Yb
    clear Yb
    have Vx := Lib.hid (Kept.mk Rx Ix)
    clear Rx Ix
    have Vy := Lib.hid (Kept.mk Ry Iy)
    clear Ry Iy
    have Vz := Lib.hid (Kept.mk Rz Iz)
    clear Rz Iz
    have HB3 := Lib.hid (below_on HB2.out hs)
    clear hs
    clear c0a c1a c0b c1b
    have c0a := Va.out.c0
    have c1a := Va.out.c1
    rw [hZ3] at c0a c1a
    have HC4 := Lib.hid (wNot_ok _ na Z3 Va.out.num (Nat.le_trans La.out (by decide)))
    go_wp2_with fail
    rw [← hZ3]
    clear hZ3
    refine HC4.out.mono ?_
    rintro e w4 ⟨⟨sk, pk, lk, ck, rfl, hik⟩, hbx⟩
    obtain ⟨Z4, hZ4⟩ : ∃ Z4, Z4 = (w4.alloc (.cells #[.bool sk, .slice pk lk ck] 25)) := ⟨_, rfl⟩
    have hz : Below w4.heap.size w4 Z4 := by rw [hZ4]; exact below_one w4 _
    have Rk : Z4.heap[w4.heap.size]? = some (.cells #[.bool sk, .slice pk lk ck] 25 (0, 0)) := by rw [hZ4]; exact al_at _ _ (by simp)
    have Ik := hik.below hz
    have hs := hbx.trans (hz.mono hbx.size)
    clear hik hz
    clear hbx HC4
    have Ya := Lib.hid (Va.out.on hs)
    clear Va
    have Va := Ya
    clear Ya
    have Yb := Lib.hid (Vb.out.on hs)
    clear Vb
    have Vb := Yb
    clear Yb
    have Yx := Lib.hid (Vx.out.on hs)
    clear Vx
    have Vx := Yx
    clear Yx
    have Yy := Lib.hid (Vy.out.on hs)
    clear Vy
    have Vy := Yy
    clear Yy
    have Yz := Lib.hid (Vz.out.on hs)
    clear Vz
    have Vz := Yz
    clear Yz
    have Vk := Lib.hid (Kept.mk Rk Ik)
    clear Rk Ik
    have HB4 := Lib.hid (below_on HB3.out hs)
    clear hs
    clear HB3
    clear c0a c1a
    have c0b := Vb.out.c0
    have c1b := Vb.out.c1
    rw [hZ4] at c0b c1b
    have HC5 := Lib.hid (wNot_ok _ nb Z4 Vb.out.num (Nat.le_trans Lb.out (by decide)))
    go_wp2_with fail
    rw [← hZ4]
    clear hZ4
    refine HC5.out.mono ?_
    rintro e w5 ⟨⟨sj, pj, lj, cj, rfl, hij⟩, hbx⟩
    obtain ⟨Z5, hZ5⟩ : ∃ Z5, Z5 = (w5.alloc (.cells #[.bool sj, .slice pj lj cj] 25)) := ⟨_, rfl⟩
    have hz : Below w5.heap.size w5 Z5 := by rw [hZ5]; exact below_one w5 _
    have Rj : Z5.heap[w5.heap.size]? = some (.cells #[.bool sj, .slice pj lj cj] 25 (0, 0)) := by rw [hZ5]; exact al_at _ _ (by simp)
    have Ij := hij.below hz
    have hs := hbx.trans (hz.mono hbx.size)
    clear hij hz
    clear hbx HC5
    have Ya := Lib.hid (Va.out.on hs)
    clear Va
    have Va := Ya
    clear Ya
    have Yb := Lib.hid (Vb.out.on hs)
    clear Vb
    have Vb := Yb
    clear Yb
    have Yx := Lib.hid (Vx.out.on hs)
    clear Vx
    have Vx := Yx
    clear Yx
    have Yy := Lib.hid (Vy.out.on hs)
    clear Vy
    have Vy := Yy
    clear Yy
    have Yz := Lib.hid (Vz.out.on hs)
    clear Vz
    have Vz := Yz
    clear Yz
    have Yk := Lib.hid (Vk.out.on hs)
    clear Vk
    have Vk := Yk
    clear Yk
    have Vj := Lib.hid (Kept.mk Rj Ij)
    clear Rj Ij
    have HB5 := Lib.hid (below_on HB4.out hs)
    clear hs
    clear HB4
    clear c0b c1b
    have c0k := Vk.out.c0
    have c1k := Vk.out.c1
    have c0j := Vj.out.c0
    have c1j := Vj.out.c1
    rw [hZ5] at c0k c1k c0j c1j
    have HC6 := Lib.hid (ops_law _ _ (-1 - na) (-1 - nb) Z5 Vk.out.num Vj.out.num (Nat.le_trans (len_not La.out) (by decide)) (Nat.le_trans (len_not Lb.out) (by decide)))
    go_wp2_with fail
    rw [← hZ5]
    clear hZ5
    refine HC6.out.mono ?_
    rintro e w6 ⟨⟨sd, pd, ld, cd, so, po, lo, co, sv, pv, lv, cv, rfl, hid, hio, hiv⟩, hbx⟩
    obtain ⟨Z6, hZ6⟩ : ∃ Z6, Z6 = (((w6.alloc (.cells #[.bool sd, .slice pd ld cd] 25)).alloc (.cells #[.bool so, .slice po lo co] 25)).alloc (.cells #[.bool sv, .slice pv lv cv] 25)) := ⟨_, rfl⟩
    have hz : Below w6.heap.size w6 Z6 := by rw [hZ6]; exact three_new w6 _ _ _
    have Rd : Z6.heap[w6.heap.size]? = some (.cells #[.bool sd, .slice pd ld cd] 25 (0, 0)) := by rw [hZ6]; exact al_keep _ _ (by simp <;> omega) (al_keep _ _ (by simp <;> omega) (al_at _ _ (by simp)))
    have Ro : Z6.heap[w6.heap.size + 1]? = some (.cells #[.bool so, .slice po lo co] 25 (0, 0)) := by rw [hZ6]; exact al_keep _ _ (by simp <;> omega) (al_at _ _ (by simp))
    have Rv : Z6.heap[w6.heap.size + 1 + 1]? = some (.cells #[.bool sv, .slice pv lv cv] 25 (0, 0)) := by rw [hZ6]; exact al_at _ _ (by simp)
    have Id := hid.below hz
    have Io := hio.below hz
    have Iv := hiv.below hz
    have hs := hbx.trans (hz.mono hbx.size)
    clear hid hio hiv hz
    clear hbx HC6
    have Ya := Lib.hid (Va.out.on hs)
    clear Va
    have Va := Ya
    clear Ya
    have Yb := Lib.hid (Vb.out.on hs)
    clear Vb
    have Vb := Yb
    clear Yb
    have Yx := Lib.hid (Vx.out.on hs)
    clear Vx
    have Vx := Yx
    clear Yx
    have Yy := Lib.hid (Vy.out.on hs)
    clear Vy
    have Vy := Yy
    clear Yy
    have Yz := Lib.hid (Vz.out.on hs)
    clear Vz
    have Vz := Yz
    clear Yz
    have Yk := Lib.hid (Vk.out.on hs)
    clear Vk
    have Vk := Yk
    clear Yk
    have Yj := Lib.hid (Vj.out.on hs)
    clear Vj
    have Vj := Yj
    clear Yj
    have Vd := Lib.hid (Kept.mk Rd Id)
    clear Rd Id
    have Vo := Lib.hid (Kept.mk Ro Io)
    clear Ro Io
    have Vv := Lib.hid (Kept.mk Rv Iv)
    clear Rv Iv
    have HB6 := Lib.hid (below_on HB5.out hs)
    clear hs
    clear HB5
    clear c0k c1k c0j c1j
    clear Vj
    clear Vd
    clear Vv
    have c0x := Vx.out.c0
    have c1x := Vx.out.c1
    rw [hZ6] at c0x c1x
    have HC7 := Lib.hid (wNot_ok _ (opI 1 na nb) Z6 Vx.out.num (Nat.le_trans (opI_size 1 na nb La.out Lb.out) (by decide)))
    go_wp2_with fail
    rw [← hZ6]
    clear hZ6
    refine HC7.out.mono ?_
    rintro e w7 ⟨⟨st, pt, lt, ct, rfl, hit⟩, hbx⟩
    obtain ⟨Z7, hZ7⟩ : ∃ Z7, Z7 = (w7.alloc (.cells #[.bool st, .slice pt lt ct] 25)) := ⟨_, rfl⟩
    have hz : Below w7.heap.size w7 Z7 := by rw [hZ7]; exact below_one w7 _
    have Rt : Z7.heap[w7.heap.size]? = some (.cells #[.bool st, .slice pt lt ct] 25 (0, 0)) := by rw [hZ7]; exact al_at _ _ (by simp)
    have It := hit.below hz
    have hs := hbx.trans (hz.mono hbx.size)
    clear hit hz
    clear hbx HC7
    have Ya := Lib.hid (Va.out.on hs)
    clear Va
    have Va := Ya
    clear Ya
    have Yb := Lib.hid (Vb.out.on hs)
    clear Vb
    have Vb := Yb
    clear Yb
    have Yx := Lib.hid (Vx.out.on hs)
    clear Vx
    have Vx := Yx
    clear Yx
    have Yy := Lib.hid (Vy.out.on hs)
    clear Vy
    have Vy := Yy
    clear Yy
    have Yz := Lib.hid (Vz.out.on hs)
    clear Vz
    have Vz := Yz
    clear Yz
    have Yk := Lib.hid (Vk.out.on hs)
    clear Vk
    have Vk := Yk
    clear Yk
    have Yo := Lib.hid (Vo.out.on hs)
    clear Vo
    have Vo := Yo
    clear Yo
    have Vt := Lib.hid (Kept.mk Rt It)
    clear Rt It
    have HB7 := Lib.hid (below_on HB6.out hs)
    clear hs
    clear HB6
    clear c0x c1x
    have z0a : ∀ w', Below Z7.heap.size Z7 w' → w'.cell? ⟨w.heap.size, 0, none⟩ = some (.bool sa) := fun w' h => (Va.out.on h).c0
    have z1a : ∀ w', Below Z7.heap.size Z7 w' → w'.cell? ⟨w.heap.size, 1, none⟩ = some (.slice pa la ca) := fun w' h => (Va.out.on h).c1
    have Fa := Lib.hid (fun (w' : World) (h : Below Z7.heap.size Z7 w') => (⟨(Va.out.on h).num, La.out⟩ : IsS w' (Value.agg #[.bool sa, .slice pa la ca]) na 40))
    have z0b : ∀ w', Below Z7.heap.size Z7 w' → w'.cell? ⟨w.heap.size + 1, 0, none⟩ = some (.bool sb) := fun w' h => (Vb.out.on h).c0
    have z1b : ∀ w', Below Z7.heap.size Z7 w' → w'.cell? ⟨w.heap.size + 1, 1, none⟩ = some (.slice pb lb cb) := fun w' h => (Vb.out.on h).c1
    have Fb := Lib.hid (fun (w' : World) (h : Below Z7.heap.size Z7 w') => (⟨(Vb.out.on h).num, Lb.out⟩ : IsS w' (Value.agg #[.bool sb, .slice pb lb cb]) nb 40))
    have z0x : ∀ w', Below Z7.heap.size Z7 w' → w'.cell? ⟨w3.heap.size, 0, none⟩ = some (.bool sx) := fun w' h => (Vx.out.on h).c0
    have z1x : ∀ w', Below Z7.heap.size Z7 w' → w'.cell? ⟨w3.heap.size, 1, none⟩ = some (.slice px lx cx) := fun w' h => (Vx.out.on h).c1
    have Fx := Lib.hid (fun (w' : World) (h : Below Z7.heap.size Z7 w') => (⟨(Vx.out.on h).num, (opI_size 1 na nb La.out Lb.out)⟩ : IsS w' (Value.agg #[.bool sx, .slice px lx cx]) (opI 1 na nb) 41))
    have z0y : ∀ w', Below Z7.heap.size Z7 w' → w'.cell? ⟨w3.heap.size + 1, 0, none⟩ = some (.bool sy) := fun w' h => (Vy.out.on h).c0
    have z1y : ∀ w', Below Z7.heap.size Z7 w' → w'.cell? ⟨w3.heap.size + 1, 1, none⟩ = some (.slice py ly cy) := fun w' h => (Vy.out.on h).c1
    have Fy := Lib.hid (fun (w' : World) (h : Below Z7.heap.size Z7 w') => (⟨(Vy.out.on h).num, (opI_size 2 na nb La.out Lb.out)⟩ : IsS w' (Value.agg #[.bool sy, .slice py ly cy]) (opI 2 na nb) 41))
    have z0z : ∀ w', Below Z7.heap.size Z7 w' → w'.cell? ⟨w3.heap.size + 1 + 1, 0, none⟩ = some (.bool sz) := fun w' h => (Vz.out.on h).c0
    have z1z : ∀ w', Below Z7.heap.size Z7 w' → w'.cell? ⟨w3.heap.size + 1 + 1, 1, none⟩ = some (.slice pz lz cz) := fun w' h => (Vz.out.on h).c1
    have Fz := Lib.hid (fun (w' : World) (h : Below Z7.heap.size Z7 w') => (⟨(Vz.out.on h).num, (opI_size 3 na nb La.out Lb.out)⟩ : IsS w' (Value.agg #[.bool sz, .slice pz lz cz]) (opI 3 na nb) 41))
    have z0k : ∀ w', Below Z7.heap.size Z7 w' → w'.cell? ⟨w4.heap.size, 0, none⟩ = some (.bool sk) := fun w' h => (Vk.out.on h).c0
    have z1k : ∀ w', Below Z7.heap.size Z7 w' → w'.cell? ⟨w4.heap.size, 1, none⟩ = some (.slice pk lk ck) := fun w' h => (Vk.out.on h).c1
    have Fk := Lib.hid (fun (w' : World) (h : Below Z7.heap.size Z7 w') => (⟨(Vk.out.on h).num, (len_not La.out)⟩ : IsS w' (Value.agg #[.bool sk, .slice pk lk ck]) (-1 - na) 41))
    have z0o : ∀ w', Below Z7.heap.size Z7 w' → w'.cell? ⟨w6.heap.size + 1, 0, none⟩ = some (.bool so) := fun w' h => (Vo.out.on h).c0
    have z1o : ∀ w', Below Z7.heap.size Z7 w' → w'.cell? ⟨w6.heap.size + 1, 1, none⟩ = some (.slice po lo co) := fun w' h => (Vo.out.on h).c1
    have Fo := Lib.hid (fun (w' : World) (h : Below Z7.heap.size Z7 w') => (⟨(Vo.out.on h).num, (opI_size 2 (-1 - na) (-1 - nb) (len_not La.out) (len_not Lb.out))⟩ : IsS w' (Value.agg #[.bool so, .slice po lo co]) (opI 2 (-1 - na) (-1 - nb)) 42))
    have z0t : ∀ w', Below Z7.heap.size Z7 w' → w'.cell? ⟨w7.heap.size, 0, none⟩ = some (.bool st) := fun w' h => (Vt.out.on h).c0
    have z1t : ∀ w', Below Z7.heap.size Z7 w' → w'.cell? ⟨w7.heap.size, 1, none⟩ = some (.slice pt lt ct) := fun w' h => (Vt.out.on h).c1
    have Ft := Lib.hid (fun (w' : World) (h : Below Z7.heap.size Z7 w') => (⟨(Vt.out.on h).num, (len_not (opI_size 1 na nb La.out Lb.out))⟩ : IsS w' (Value.agg #[.bool st, .slice pt lt ct]) (-1 - opI 1 na nb) 42))
    have hrr : Below Z7.heap.size Z7 Z7 := Below.refl _ _
    have hp := Pend.nil Z7
    have HE := Lib.hid (And.intro (opI_sums La.out Lb.out) (opI_not (j := 41) (Nat.le_trans La.out (by decide)) (Nat.le_trans Lb.out (by decide)) (len_not La.out) (len_not Lb.out)))
    go_wp2_with fail
    rw [← hZ7]
    clear hZ7
    go_region_held3 (fun w' => Below Z7.heap.size Z7 w')
      (first
        | assumption
        | exact below_drew0 _
        | exact below_drew1 (by assumption))
      (first
        | (go_at_call 16; refine (add_law _ _ _ _ _ _ _ (by first | exact Fa.out _ (by first | assumption | exact below_drew0 _) | exact Fb.out _ (by first | assumption | exact below_drew0 _) | exact Fx.out _ (by first | assumption | exact below_drew0 _) | exact Fy.out _ (by first | assumption | exact below_drew0 _) | exact Fz.out _ (by first | assumption | exact below_drew0 _) | exact Fk.out _ (by first | assumption | exact below_drew0 _) | exact Fo.out _ (by first | assumption | exact below_drew0 _) | exact Ft.out _ (by first | assumption | exact below_drew0 _) | exact hp.g0 | exact hp.g1 | exact hp.g2 | exact hp.d.g0 | exact hp.d.g1 | exact hp.d.g2) (by first | exact Fa.out _ (by first | assumption | exact below_drew0 _) | exact Fb.out _ (by first | assumption | exact below_drew0 _) | exact Fx.out _ (by first | assumption | exact below_drew0 _) | exact Fy.out _ (by first | assumption | exact below_drew0 _) | exact Fz.out _ (by first | assumption | exact below_drew0 _) | exact Fk.out _ (by first | assumption | exact below_drew0 _) | exact Fo.out _ (by first | assumption | exact below_drew0 _) | exact Ft.out _ (by first | assumption | exact below_drew0 _) | exact hp.g0 | exact hp.g1 | exact hp.g2 | exact hp.d.g0 | exact hp.d.g1 | exact hp.d.g2) (by decide) (by decide) (by decide)).mono ?_; rintro e wr ⟨⟨t1, t2, t3, t4, rfl, hi⟩, hwr⟩; have hp := (show Pend wr _ from (by first | exact hp.on hwr | exact hp.d.on hwr)).push hi; have belR := below_on (D := Z7) (by first | assumption | exact below_drew0 _) hwr; clear hwr hi)
        | (go_at_call 17; refine (sub_law _ _ _ _ _ _ _ (by first | exact Fa.out _ (by first | assumption | exact below_drew0 _) | exact Fb.out _ (by first | assumption | exact below_drew0 _) | exact Fx.out _ (by first | assumption | exact below_drew0 _) | exact Fy.out _ (by first | assumption | exact below_drew0 _) | exact Fz.out _ (by first | assumption | exact below_drew0 _) | exact Fk.out _ (by first | assumption | exact below_drew0 _) | exact Fo.out _ (by first | assumption | exact below_drew0 _) | exact Ft.out _ (by first | assumption | exact below_drew0 _) | exact hp.g0 | exact hp.g1 | exact hp.g2 | exact hp.d.g0 | exact hp.d.g1 | exact hp.d.g2) (by first | exact Fa.out _ (by first | assumption | exact below_drew0 _) | exact Fb.out _ (by first | assumption | exact below_drew0 _) | exact Fx.out _ (by first | assumption | exact below_drew0 _) | exact Fy.out _ (by first | assumption | exact below_drew0 _) | exact Fz.out _ (by first | assumption | exact below_drew0 _) | exact Fk.out _ (by first | assumption | exact below_drew0 _) | exact Fo.out _ (by first | assumption | exact below_drew0 _) | exact Ft.out _ (by first | assumption | exact below_drew0 _) | exact hp.g0 | exact hp.g1 | exact hp.g2 | exact hp.d.g0 | exact hp.d.g1 | exact hp.d.g2) (by decide) (by decide) (by decide)).mono ?_; rintro e wr ⟨⟨t1, t2, t3, t4, rfl, hi⟩, hwr⟩; have hp := (show Pend wr _ from (by first | exact hp.on hwr | exact hp.d.on hwr)).push hi; have belR := below_on (D := Z7) (by first | assumption | exact below_drew0 _) hwr; clear hwr hi)
        | (go_at_call 15; refine (equal_yes _ _ _ _ _ _ _ (by first | exact Fa.out _ (by first | assumption | exact below_drew0 _) | exact Fb.out _ (by first | assumption | exact below_drew0 _) | exact Fx.out _ (by first | assumption | exact below_drew0 _) | exact Fy.out _ (by first | assumption | exact below_drew0 _) | exact Fz.out _ (by first | assumption | exact below_drew0 _) | exact Fk.out _ (by first | assumption | exact below_drew0 _) | exact Fo.out _ (by first | assumption | exact below_drew0 _) | exact Ft.out _ (by first | assumption | exact below_drew0 _) | exact hp.g0 | exact hp.g1 | exact hp.g2 | exact hp.d.g0 | exact hp.d.g1 | exact hp.d.g2) (by first | exact Fa.out _ (by first | assumption | exact below_drew0 _) | exact Fb.out _ (by first | assumption | exact below_drew0 _) | exact Fx.out _ (by first | assumption | exact below_drew0 _) | exact Fy.out _ (by first | assumption | exact below_drew0 _) | exact Fz.out _ (by first | assumption | exact below_drew0 _) | exact Fk.out _ (by first | assumption | exact below_drew0 _) | exact Fo.out _ (by first | assumption | exact below_drew0 _) | exact Ft.out _ (by first | assumption | exact below_drew0 _) | exact hp.g0 | exact hp.g1 | exact hp.g2 | exact hp.d.g0 | exact hp.d.g1 | exact hp.d.g2) (by first | (with_reducible exact HE.out.1.1) | (with_reducible exact HE.out.1.2) | (with_reducible exact HE.out.2) | omega)).mono ?_; rintro e wr ⟨rfl, hwr⟩; have hp := Pend.nil wr; have belR := below_on (D := Z7) (by first | assumption | exact below_drew0 _) hwr; clear hwr)
        | (go_at_call 18; refine (fromInt_row (-1) _ (by decide) (by decide)).mono ?_; rintro e wr ⟨⟨o1, o2, o3, o4, rfl, hoo⟩, hwr⟩; have hp := (show Pend wr _ from (by first | exact hp.on hwr | exact hp.d.on hwr)).push (show IsS wr _ (-1) 1 from ⟨hoo, by rw [show Nl.limbs (-1 : Int).natAbs = [1] from limbs_one (by decide) (by decide)]; decide⟩); have belR := below_on (D := Z7) (by first | assumption | exact below_drew0 _) hwr; clear hwr hoo))
    have hs : Below Z7.heap.size Z7 wr := by assumption
    clear Vt
    clear Vo
    have Ya := Lib.hid (Va.out.on hs)
    clear Va
    have Va := Ya
    clear Ya
    have Yb := Lib.hid (Vb.out.on hs)
    clear Vb
    have Vb := Yb
    clear Yb
    have Yx := Lib.hid (Vx.out.on hs)
    clear Vx
    have Vx := Yx
    clear Yx
    have Yy := Lib.hid (Vy.out.on hs)
    clear Vy
    have Vy := Yy
    clear Yy
    have Yz := Lib.hid (Vz.out.on hs)
    clear Vz
    have Vz := Yz
    clear Yz
    have Yk := Lib.hid (Vk.out.on hs)
    clear Vk
    have Vk := Yk
    clear Yk
    have HBa := Lib.hid (below_on HB7.out hs)
    clear hs hrr hp HE z0a z1a Fa z0b z1b Fb z0x z1x Fx z0y z1y Fy z0z z1z Fz z0k z1k Fk z0o z1o Fo z0t z1t Ft
    obtain ⟨D1, hD1⟩ : ∃ D1, D1 = wr := ⟨_, rfl⟩
    rw [← hD1] at Va Vb Vx Vy Vz Vk HBa ⊢
    clear hD1
    by_cases q1 : n < 0
    · have d1 : decide (n < 0) = true := decide_eq_true q1
      clear q1
      go_wp2_with fail
      go_ret
      exact ⟨rfl, HBa.out⟩
    have d1 : decide (n < 0) = false := decide_eq_false q1
    by_cases q2 : n > 2000
    · have d2 : decide (n > 2000) = true := decide_eq_true q2
      have d2' : decide (2000 < n) = true := decide_eq_true q2
      clear q1 q2
      go_wp2_with fail
      go_ret
      exact ⟨rfl, HBa.out⟩
    obtain ⟨t, rfl⟩ : ∃ t : Nat, n = t := ⟨n.toNat, by omega⟩
    have d2 : decide ((t : Int) > 2000) = false := decide_eq_false q2
    have d2' : decide (2000 < (t : Int)) = false := decide_eq_false q2
    have HT := Lib.hid (show t ≤ 2000 by omega)
    clear q1 q2
    obtain ⟨P, hP⟩ : ∃ P, P = Nl.bitI na t := ⟨_, rfl⟩
    obtain ⟨Q, hQ⟩ : ∃ Q, Q = Nl.bitI nb t := ⟨_, rfl⟩
    have HPQ := Lib.hid (And.intro hP hQ)
    have hP2 : P = 0 ∨ P = 1 := by rw [hP]; exact Nl.bitI_two na t
    have hQ2 : Q = 0 ∨ Q = 1 := by rw [hQ]; exact Nl.bitI_two nb t
    clear hP hQ
    obtain ⟨M, hM⟩ : ∃ M, M = min P Q := ⟨_, rfl⟩
    obtain ⟨X, hX⟩ : ∃ X, X = max P Q := ⟨_, rfl⟩
    obtain ⟨Y, hY⟩ : ∃ Y, Y = (P + Q) % 2 := ⟨_, rfl⟩
    obtain ⟨Z, hZ⟩ : ∃ Z, Z = 1 - P := ⟨_, rfl⟩
    have hP1 : P ≤ 1 := by omega
    have hQ1 : Q ≤ 1 := by omega
    have hmin : min (P : Int) (Q : Int) = (M : Int) := by omega
    have hmax : max (P : Int) (Q : Int) = (X : Int) := by omega
    have hsum : ((P : Int) + (Q : Int)) % 2 = (Y : Int) := by omega
    have hsub : (1 : Int) - (P : Int) = (Z : Int) := by omega
    have HMX := Lib.hid (And.intro hM (And.intro hX (And.intro hY (And.intro hZ (And.intro hP2 hQ2)))))
    clear hM hX hY hZ hP2 hQ2
    have Kx := Lib.hid (show Nl.bitI (opI 1 na nb) t = M by
      rw [opI_bit HPQ.out.1.symm HPQ.out.2.symm, HMX.out.1]
      rcases HMX.out.2.2.2.2.1 with h | h <;> rcases HMX.out.2.2.2.2.2 with h' | h' <;> rw [h, h'] <;> rfl)
    have Ky := Lib.hid (show Nl.bitI (opI 2 na nb) t = X by
      rw [opI_bit HPQ.out.1.symm HPQ.out.2.symm, HMX.out.2.1]
      rcases HMX.out.2.2.2.2.1 with h | h <;> rcases HMX.out.2.2.2.2.2 with h' | h' <;> rw [h, h'] <;> rfl)
    have Kz := Lib.hid (show Nl.bitI (opI 3 na nb) t = Y by
      rw [opI_bit HPQ.out.1.symm HPQ.out.2.symm, HMX.out.2.2.1]
      rcases HMX.out.2.2.2.2.1 with h | h <;> rcases HMX.out.2.2.2.2.2 with h' | h' <;> rw [h, h'] <;> rfl)
    have Kk := Lib.hid (show Nl.bitI (-1 - na) t = Z by rw [not_bit HPQ.out.1.symm, HMX.out.2.2.2.1])
    have c0a := Va.out.c0
    have c1a := Va.out.c1
    have HC8 := Lib.hid (bit_is _ na t P P rfl HPQ.out.1.symm D1 Va.out.num (Nat.le_trans La.out (by decide)) HT.out)
    go_wp2_with fail
    refine HC8.out.mono ?_
    rintro e w8 ⟨rfl, hbx⟩
    have hs := hbx
    clear hbx HC8
    have Ya := Lib.hid (Va.out.on hs)
    clear Va
    have Va := Ya
    clear Ya
    have Yb := Lib.hid (Vb.out.on hs)
    clear Vb
    have Vb := Yb
    clear Yb
    have Yx := Lib.hid (Vx.out.on hs)
    clear Vx
    have Vx := Yx
    clear Yx
    have Yy := Lib.hid (Vy.out.on hs)
    clear Vy
    have Vy := Yy
    clear Yy
    have Yz := Lib.hid (Vz.out.on hs)
    clear Vz
    have Vz := Yz
    clear Yz
    have Yk := Lib.hid (Vk.out.on hs)
    clear Vk
    have Vk := Yk
    clear Yk
    have HB8 := Lib.hid (below_on HBa.out hs)
    clear hs
    clear c0a c1a
    have c0b := Vb.out.c0
    have c1b := Vb.out.c1
    have HC9 := Lib.hid (bit_is _ nb t Q Q rfl HPQ.out.2.symm w8 Vb.out.num (Nat.le_trans Lb.out (by decide)) HT.out)
    go_wp2_with fail
    refine HC9.out.mono ?_
    rintro e w9 ⟨rfl, hbx⟩
    have hs := hbx
    clear hbx HC9
    have Ya := Lib.hid (Va.out.on hs)
    clear Va
    have Va := Ya
    clear Ya
    have Yb := Lib.hid (Vb.out.on hs)
    clear Vb
    have Vb := Yb
    clear Yb
    have Yx := Lib.hid (Vx.out.on hs)
    clear Vx
    have Vx := Yx
    clear Yx
    have Yy := Lib.hid (Vy.out.on hs)
    clear Vy
    have Vy := Yy
    clear Yy
    have Yz := Lib.hid (Vz.out.on hs)
    clear Vz
    have Vz := Yz
    clear Yz
    have Yk := Lib.hid (Vk.out.on hs)
    clear Vk
    have Vk := Yk
    clear Yk
    have HB9 := Lib.hid (below_on HB8.out hs)
    clear hs
    clear c0b c1b
    have c0x := Vx.out.c0
    have c1x := Vx.out.c1
    have HC10 := Lib.hid (bit_is _ (opI 1 na nb) t M M rfl Kx.out w9 Vx.out.num (Nat.le_trans (opI_size 1 na nb La.out Lb.out) (by decide)) HT.out)
    go_wp2_with fail
    refine HC10.out.mono ?_
    rintro e w10 ⟨rfl, hbx⟩
    have hs := hbx
    clear hbx HC10
    have Ya := Lib.hid (Va.out.on hs)
    clear Va
    have Va := Ya
    clear Ya
    have Yb := Lib.hid (Vb.out.on hs)
    clear Vb
    have Vb := Yb
    clear Yb
    have Yx := Lib.hid (Vx.out.on hs)
    clear Vx
    have Vx := Yx
    clear Yx
    have Yy := Lib.hid (Vy.out.on hs)
    clear Vy
    have Vy := Yy
    clear Yy
    have Yz := Lib.hid (Vz.out.on hs)
    clear Vz
    have Vz := Yz
    clear Yz
    have Yk := Lib.hid (Vk.out.on hs)
    clear Vk
    have Vk := Yk
    clear Yk
    have HB10 := Lib.hid (below_on HB9.out hs)
    clear hs
    clear HB9
    clear c0x c1x
    have c0y := Vy.out.c0
    have c1y := Vy.out.c1
    have HC11 := Lib.hid (bit_is _ (opI 2 na nb) t X X rfl Ky.out w10 Vy.out.num (Nat.le_trans (opI_size 2 na nb La.out Lb.out) (by decide)) HT.out)
    go_wp2_with fail
    refine HC11.out.mono ?_
    rintro e w11 ⟨rfl, hbx⟩
    have hs := hbx
    clear hbx HC11
    have Ya := Lib.hid (Va.out.on hs)
    clear Va
    have Va := Ya
    clear Ya
    have Yb := Lib.hid (Vb.out.on hs)
    clear Vb
    have Vb := Yb
    clear Yb
    have Yx := Lib.hid (Vx.out.on hs)
    clear Vx
    have Vx := Yx
    clear Yx
    have Yy := Lib.hid (Vy.out.on hs)
    clear Vy
    have Vy := Yy
    clear Yy
    have Yz := Lib.hid (Vz.out.on hs)
    clear Vz
    have Vz := Yz
    clear Yz
    have Yk := Lib.hid (Vk.out.on hs)
    clear Vk
    have Vk := Yk
    clear Yk
    have HB11 := Lib.hid (below_on HB10.out hs)
    clear hs
    clear HB10
    clear c0y c1y
    have c0z := Vz.out.c0
    have c1z := Vz.out.c1
    have HC12 := Lib.hid (bit_is _ (opI 3 na nb) t Y Y rfl Kz.out w11 Vz.out.num (Nat.le_trans (opI_size 3 na nb La.out Lb.out) (by decide)) HT.out)
    go_wp2_with fail
    refine HC12.out.mono ?_
    rintro e w12 ⟨rfl, hbx⟩
    have hs := hbx
    clear hbx HC12
    have Ya := Lib.hid (Va.out.on hs)
    clear Va
    have Va := Ya
    clear Ya
    have Yb := Lib.hid (Vb.out.on hs)
    clear Vb
    have Vb := Yb
    clear Yb
    have Yx := Lib.hid (Vx.out.on hs)
    clear Vx
    have Vx := Yx
    clear Yx
    have Yy := Lib.hid (Vy.out.on hs)
    clear Vy
    have Vy := Yy
    clear Yy
    have Yz := Lib.hid (Vz.out.on hs)
    clear Vz
    have Vz := Yz
    clear Yz
    have Yk := Lib.hid (Vk.out.on hs)
    clear Vk
    have Vk := Yk
    clear Yk
    have HB12 := Lib.hid (below_on HB11.out hs)
    clear hs
    clear HB11
    clear c0z c1z
    have c0k := Vk.out.c0
    have c1k := Vk.out.c1
    have HC13 := Lib.hid (bit_is _ (-1 - na) t Z Z rfl Kk.out w12 Vk.out.num (Nat.le_trans (len_not La.out) (by decide)) HT.out)
    go_wp2_with fail
    refine HC13.out.mono ?_
    rintro e w13 ⟨rfl, hbx⟩
    have hs := hbx
    clear hbx HC13
    have Ya := Lib.hid (Va.out.on hs)
    clear Va
    have Va := Ya
    clear Ya
    have Yb := Lib.hid (Vb.out.on hs)
    clear Vb
    have Vb := Yb
    clear Yb
    have Yx := Lib.hid (Vx.out.on hs)
    clear Vx
    have Vx := Yx
    clear Yx
    have Yy := Lib.hid (Vy.out.on hs)
    clear Vy
    have Vy := Yy
    clear Yy
    have Yz := Lib.hid (Vz.out.on hs)
    clear Vz
    have Vz := Yz
    clear Yz
    have Yk := Lib.hid (Vk.out.on hs)
    clear Vk
    have Vk := Yk
    clear Yk
    have HB13 := Lib.hid (below_on HB12.out hs)
    clear hs
    clear HB12
    clear c0k c1k
    go_wp2_with fail
    go_ret
    exact ⟨rfl, HB13.out⟩
end Go.Proofs.YtkbghamkalidcaaGreat
