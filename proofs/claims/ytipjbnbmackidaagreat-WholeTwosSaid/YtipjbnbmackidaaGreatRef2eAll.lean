/-
  Division of natural numbers, for all valid numbers, as package whole meets it. Conditions: those that each theorem names.
  What ToInt, Sign and Cmp of package whole do. Written by wip/tool/gencnt.py. Conditions: those that each theorem names.
  What the reference of integers does: Of, Same, Valid, Opposite, Sgn; and the law's small. Conditions: those that each theorem names.
  What the reference of integers does: Same, Opposite, Sgn. Conditions: those that each theorem names.
  What the reference's Mul does. Conditions: those that each theorem names.
  What the reference's Plus, Minus and Times of integers do. Written by wip/tool/genref2.py. Conditions: those that each theorem names.
  What the reference's limited, Neg, Add, Sub, Mul, Sign and Cmp of integers do, and the law's got. Conditions: those that each theorem names.
  What the reference's Neg, Add, Sub, Mul, Sign and Cmp of integers do. Written by wip/tool/genref2e.py. Conditions: those that each theorem names.
-/
import Derived.Test.YtipjbnbmackidaaGreatBlocks
import Derived.Test.YtipjbnbmackidaaGreatOverG
import Derived.Test.YtipjbnbmackidaaGreatGcdI
import Derived.Test.YtipjbnbmackidaaGreatWholeOps
import Derived.Test.YtipjbnbmackidaaGreatRefTrim
namespace Go.Proofs.YtipjbnbmackidaaGreat
open Go.RowKit

theorem div_gen (va vb : Value) (m n : Nat) (w : World) (ha : At w va (Nl.limbs m)) (hb : At w vb (Nl.limbs n)) (hm : (Nl.limbs m).length ≤ 1024) (hn : (Nl.limbs n).length ≤ 1024) (h0 : n ≠ 0) :
    Calls Tryz.prog 161 #[va, vb] w fun e w' => DivN w w' e (m / n) (m % n) := by
  refine (div_any va vb _ _ w ha hb (Nl.limbs_small m) (Nl.limbs_small n) (fun v1 v2 h1 w' hw' => ?_)).mono ?_
  · rw [Nl.val_limbs, Nl.val_limbs]
    exact over_all _ _ _ _ w' (show IsN w' va m from ha.below hw') (show IsN w' vb n from hb.below hw') (Nat.le_trans hm (by decide)) (Nat.le_trans hn (by decide)) (Nat.pos_of_ne_zero h0)
  · rintro e w2 ⟨c, hc, ⟨u, v, rfl, h2, h3⟩, hb⟩
    rw [Nl.val_limbs, Nl.val_limbs] at h2
    have hc0 : c = 0 := by
      rcases hc with ⟨_, _, h⟩ | ⟨h, _⟩
      · rw [h, Nl.val_limbs, divK, if_neg (fun h => absurd h.2 (by decide)), if_neg h0]
      · rw [validB_limbs hm, validB_limbs hn] at h
        rcases h with h | h <;> cases h
    subst hc0
    obtain ⟨o1, o2⟩ := h2 rfl
    obtain ⟨a1, c1, rfl, -⟩ := o1.at.form
    obtain ⟨a2, c2, rfl, -⟩ := o2.at.form
    exact ⟨⟨_, _, _, _, _, _, rfl, o1.at.at, o2.at.at⟩, hb⟩

/-- the quotient and the rest of integers, rounded in a way -/
def divQ (how : Nat) (a b : Int) : Int := if a.natAbs % b.natAbs = 0 ∨ farB how (negB a) (negB b) (a.natAbs / b.natAbs) (a.natAbs % b.natAbs) b.natAbs = false then sgn (negB a != negB b) (a.natAbs / b.natAbs) else sgn (negB a != negB b) (a.natAbs / b.natAbs + 1)
def divR (how : Nat) (a b : Int) : Int := if a.natAbs % b.natAbs = 0 ∨ farB how (negB a) (negB b) (a.natAbs / b.natAbs) (a.natAbs % b.natAbs) b.natAbs = false then sgn (negB a) (a.natAbs % b.natAbs) else sgn (!negB a) (b.natAbs - a.natAbs % b.natAbs)

/-- over, for any way and any numbers that are not too long -/
theorem over_gen (how : Nat) (h1 : 1 ≤ how) (h4 : how ≤ 4) (va vb : Value) (a b : Int) (w : World) (ha : IsI w va a) (hb : IsI w vb b) (la : (Nl.limbs a.natAbs).length ≤ 1023) (lb : fitI b) (hb0 : b ≠ 0) :
    Calls Tryz.prog 104 #[va, vb, .int .i64 how] w fun e w' => (∃ x y, e = .returned (.tuple #[x, y]) ∧ IsI w' x (divQ how a b) ∧ IsI w' y (divR how a b)) ∧ Below w.heap.size w w' := by
  obtain ⟨p0, c0, rfl, u0⟩ := AtI.form ha
  obtain ⟨p1, c1, rfl, u1⟩ := AtI.form hb
  have hn0 : b.natAbs ≠ 0 := by omega
  have hdiv : ∀ w', Below w.heap.size w w' → Calls Tryz.prog 161 #[.slice p0 (Nl.limbs a.natAbs).length c0, .slice p1 (Nl.limbs b.natAbs).length c1] w' fun e w'' => DivN w' w'' e (a.natAbs / b.natAbs) (a.natAbs % b.natAbs) :=
    fun w' hw' => div_gen _ _ _ _ w' (u0.below hw') (u1.below hw') (Nat.le_trans la (by decide)) lb hn0
  have hrb : a.natAbs % b.natAbs ≤ b.natAbs := Nat.le_of_lt (Nat.mod_lt _ (by omega))
  have fq : (Nl.limbs (a.natAbs / b.natAbs)).length ≤ 1023 := Nat.le_trans (Nl.limbs_mono (Nat.div_le_self _ _)) la
  by_cases hr0 : a.natAbs % b.natAbs = 0
  · have hQ : divQ how a b = sgn (negB a != negB b) (a.natAbs / b.natAbs) := by rw [divQ, if_pos (.inl hr0)]
    have hR : divR how a b = sgn (negB a) 0 := by rw [divR, if_pos (.inl hr0), hr0]
    rw [hr0] at hdiv
    rw [hQ, hR]
    exact over_even p0 p1 _ c0 _ c1 a b how _ w u0 u1 hdiv
  · cases hf : farB how (negB a) (negB b) (a.natAbs / b.natAbs) (a.natAbs % b.natAbs) b.natAbs with
    | false =>
      have hQ : divQ how a b = sgn (negB a != negB b) (a.natAbs / b.natAbs) := by rw [divQ, if_pos (.inr hf)]
      have hR : divR how a b = sgn (negB a) (a.natAbs % b.natAbs) := by rw [divR, if_pos (.inr hf)]
      rw [hQ, hR]
      have hh : how = 1 ∨ how = 2 ∨ how = 3 ∨ how = 4 := by omega
      rcases hh with rfl | rfl | rfl | rfl
      · exact over1_near p0 p1 _ c0 _ c1 a b _ _ w u0 u1 lb hdiv hr0 hrb fq rfl
      · exact over2_near p0 p1 _ c0 _ c1 a b _ _ w u0 u1 lb hdiv hr0 hrb fq hf
      · exact over3_near p0 p1 _ c0 _ c1 a b _ _ w u0 u1 lb hdiv hr0 hrb fq hf
      · exact over4_near p0 p1 _ c0 _ c1 a b _ _ w u0 u1 lb hdiv hr0 hrb fq hf
    | true =>
      have hn : ¬ (a.natAbs % b.natAbs = 0 ∨ farB how (negB a) (negB b) (a.natAbs / b.natAbs) (a.natAbs % b.natAbs) b.natAbs = false) := by rw [hf]; simp [hr0]
      have hQ : divQ how a b = sgn (negB a != negB b) (a.natAbs / b.natAbs + 1) := by rw [divQ, if_neg hn]
      have hR : divR how a b = sgn (!negB a) (b.natAbs - a.natAbs % b.natAbs) := by rw [divR, if_neg hn]
      rw [hQ, hR]
      have hh : how = 1 ∨ how = 2 ∨ how = 3 ∨ how = 4 := by omega
      rcases hh with rfl | rfl | rfl | rfl
      · exact Bool.noConfusion hf
      · exact over2_far p0 p1 _ c0 _ c1 a b _ _ w u0 u1 lb hdiv hr0 hrb fq hf
      · exact over3_far p0 p1 _ c0 _ c1 a b _ _ w u0 u1 lb hdiv hr0 hrb fq hf
      · exact over4_far p0 p1 _ c0 _ c1 a b _ _ w u0 u1 lb hdiv hr0 hrb fq hf
end Go.Proofs.YtipjbnbmackidaaGreat

namespace Go.Proofs.YtipjbnbmackidaaGreat
open Go.RowKit

theorem icompare_does (va vb : Value) (a b : Int) (w : World) (ha : IsI w va a) (hb : IsI w vb b) (la : fitI a) (lb : fitI b) :
    Calls Tryz.prog 78 #[va, vb] w fun e w' => Below w.heap.size w w' ∧ (((0 : Int) = 0 ∧ e = .returned (.int .i64 (cmpI a b))) ∨ ((0 : Int) ≠ 0 ∧ e = fault 0)) :=
  (icompare_any va vb a b w ha hb la lb).mono fun _ _ h => ⟨h.2, .inl ⟨rfl, h.1⟩⟩

/-- what a call gives: a number, or an error -/
def ResC (w w' : World) (e : Ending) (ok : Bool) (k x : Int) : Prop := ∃ c, c = (if ok = true then k else 1) ∧ CntOut w w' e c x
set_option maxHeartbeats 1000000 in
theorem Cmp_1_does (s0 : Bool) (p0 : Option Addr) (l0 c0 : Nat) (a : Int) (s1 : Bool) (p1 : Option Addr) (l1 c1 : Nat) (b : Int) (K : Nat) (w : World) (h0 : BoxI w (K) s0 p0 l0 c0) (g0 : IsI w (.agg #[.bool s0, .slice p0 l0 c0]) a) (f0 : fitI a) (h1 : BoxI w (K + 1) s1 p1 l1 c1) (g1 : IsI w (.agg #[.bool s1, .slice p1 l1 c1]) b) (f1 : fitI b) :
    CntDoes 77 #[.pointer (some ⟨K, 0, none⟩), .pointer (some ⟨K + 1, 0, none⟩)] w (0) (cmpI a b) := by
  intro W hW
  have b0 := (hW.block (K) (lt_of_block h0)).trans h0
  have k00 := cell_of_row _ _ 0 _ _ (0, 0) b0
  have k01 := cell_of_row _ _ 1 _ _ (0, 0) b0
  have b1 := (hW.block (K + 1) (lt_of_block h1)).trans h1
  have k10 := cell_of_row _ _ 0 _ _ (0, 0) b1
  have k11 := cell_of_row _ _ 1 _ _ (0, 0) b1
  simp only [List.getElem?_toArray, List.getElem?_cons_zero, List.getElem?_cons_succ] at k00 k01 k10 k11
  have hc := icompare_does _ _ a b W (g0.below hW) (g1.below hW) f0 f1
  obtain ⟨x, hx⟩ : ∃ x : Int, x = cmpI a b := ⟨_, rfl⟩
  rw [← hx] at hc ⊢
  have HC := Lib.hid hc
  clear h0 g0 f0 b0 h1 g1 f1 b1 hW hc hx
  go_enter Tryz.func77, Tryz.ntmps77
  go_wp2_with fail
  refine HC.out.mono ?_
  rintro e w1 ⟨hb1, ⟨hf, rfl⟩ | ⟨hf, rfl⟩⟩
  · have HH := Lib.hid (And.intro hb1 hf)
    clear hb1 hf HC
    go_wp2_with fail
    go_ret
    exact ⟨HH.out.1, .inl ⟨HH.out.2, rfl⟩⟩
  · first
      | exact ⟨rfl, hb1, .inr ⟨hf, rfl⟩⟩
      | exact ⟨hb1, .inr ⟨hf, rfl⟩⟩

set_option maxHeartbeats 1000000 in
theorem wholeCmp_any (v0 : Value) (s0 : Bool) (xs : List Nat) (v1 : Value) (s1 : Bool) (ys : List Nat) (w : World) (h0 : AtI w v0 s0 xs) (m0 : Nl.Small xs) (h1 : AtI w v1 s1 ys) (m1 : Nl.Small ys) :
    Calls Tryz.prog 23 #[v0, v1] w fun e w' => ResC w w' e (validI s0 xs && validI s1 ys) (0) (cmpI (sgn s0 (Nl.val xs)) (sgn s1 (Nl.val ys))) := by
  have hmf : ∀ (fn : Fn) (first cap : Array Value) (w : World), (Instr.makeFunc fn first cap).run Tryz.prog w = .ok (.func fn first cap) w := fun _ _ _ _ => rfl
  obtain ⟨p0, c0, rfl, u0⟩ := h0.form
  obtain ⟨p1, c1, rfl, u1⟩ := h1.form
  obtain ⟨W, hW⟩ : ∃ W, W = ((w.alloc (.cells #[.bool s0, .slice p0 xs.length c0] 25)).alloc (.cells #[.bool s1, .slice p1 ys.length c1] 25)).alloc (.cells #[.bool s0, .slice p0 xs.length c0, .bool s1, .slice p1 ys.length c1] 25) := ⟨_, rfl⟩
  have hb : Below w.heap.size w W := by rw [hW]; exact ((((Below.refl _ _).alloc (by simp <;> omega) _).alloc (by simp <;> omega) _).alloc (by simp <;> omega) _)
  have hs : W.heap.size = w.heap.size + 3 := by rw [hW]; simp
  have B0 : W.heap[w.heap.size + 0]? = some (.cells #[.bool s0, .slice p0 xs.length c0] 25 (0, 0)) := by rw [hW]; exact al_keep _ _ (by simp <;> omega) (al_keep _ _ (by simp <;> omega) (al_at _ _ (by simp)))
  have B1 : W.heap[w.heap.size + 1]? = some (.cells #[.bool s1, .slice p1 ys.length c1] 25 (0, 0)) := by rw [hW]; exact al_keep _ _ (by simp <;> omega) (al_at _ _ (by simp))
  have B2 : W.heap[w.heap.size + 2]? = some (.cells #[.bool s0, .slice p0 xs.length c0, .bool s1, .slice p1 ys.length c1] 25 (0, 0)) := by rw [hW]; exact al_at _ _ (by simp)
  have HO := Lib.hid (icount_any 77 #[.pointer (some ⟨w.heap.size, 0, none⟩), .pointer (some ⟨w.heap.size + 1, 0, none⟩)] W (0) (cmpI (sgn s0 (Nl.val xs)) (sgn s1 (Nl.val ys))) (w.heap.size + 2) [(s0, .slice p0 xs.length c0, xs), (s1, .slice p1 ys.length c1, ys)] (givenI_two (w.heap.size + 2) B2 (u0.below hb) (u1.below hb)) (by omega) (by simp) (fun hall => by
    have o0 := isI_of_ok (u0.below hb) m0 (hall (s0, .slice p0 xs.length c0, xs) (by simp))
    have o1 := isI_of_ok (u1.below hb) m1 (hall (s1, .slice p1 ys.length c1, ys) (by simp))
    exact Cmp_1_does _ _ _ _ _ _ _ _ _ _ w.heap.size W B0 o0.1 o0.2 B1 o1.1 o1.2) (fun _ _ => by kernel_rfl))
  have HB := Lib.hid hb
  clear h0 u0 m0 h1 u1 m1 hb hs B0 B1 B2
  go_enter Tryz.func23, Tryz.ntmps23
  go_wp2_with fail
  rw [← hW]
  clear hW
  refine HO.out.mono ?_
  rintro e w1 ⟨c, hc, rfl, hb1⟩
  have HR := Lib.hid (And.intro hc hb1)
  clear hc hb1 HO
  obtain ⟨y, hy⟩ : ∃ y : Int, y = if c = 0 then cmpI (sgn s0 (Nl.val xs)) (sgn s1 (Nl.val ys)) else 0 := ⟨_, rfl⟩
  rw [← hy]
  have HY := Lib.hid hy
  clear hy
  go_wp2_with fail
  go_ret2
  refine ⟨c, ?_, by rw [← HY.out]; rfl, HB.out.trans (HR.out.2.mono HB.out.size)⟩
  rcases HR.out.1 with ⟨hall, h1⟩ | ⟨⟨q, hq, h5⟩, h1⟩
  · rw [h1, if_pos (by rw [Bool.and_eq_true]; exact ⟨hall (s0, .slice p0 xs.length c0, xs) (by simp), hall (s1, .slice p1 ys.length c1, ys) (by simp)⟩)]
  · rw [h1, if_neg]
    intro hok
    rw [Bool.and_eq_true] at hok; simp only [List.mem_cons, List.not_mem_nil, or_false] at hq; rcases hq with rfl | rfl; exact Bool.noConfusion (h5.symm.trans hok.1); exact Bool.noConfusion (h5.symm.trans hok.2)

end Go.Proofs.YtipjbnbmackidaaGreat

namespace Go.Proofs.YtipjbnbmackidaaGreat
open Go.RowKit

theorem refTrim_any (v : Value) (m : Nat) (w : World) (h : At w v (Nl.limbs m)) (hl : (Nl.limbs m).length ≤ 1000000) :
    Calls Tryz.prog 147 #[v] w fun e w' => (∃ p n c, e = .returned (.slice p n c) ∧ At w' (.slice p n c) (Nl.limbs m)) ∧ Below w.heap.size w w' := by
  have ht : Nl.trim (Nl.limbs m) = Nl.limbs m := by rw [Nl.trim_eq (Nl.limbs_small m), Nl.val_limbs]
  have hgen : ∀ (e : Ending) (w' : World), (∃ v, e = .returned v ∧ AtP (w.heap.size ≤ ·) w' v (Nl.limbs m)) ∧ Below w.heap.size w w' → (∃ p n c, e = .returned (.slice p n c) ∧ At w' (.slice p n c) (Nl.limbs m)) ∧ Below w.heap.size w w' := by
    rintro e w' ⟨⟨v, rfl, hv⟩, hb⟩
    obtain ⟨p, c, rfl, -⟩ := hv.form
    exact ⟨⟨p, _, c, rfl, hv.at⟩, hb⟩
  rcases h with ⟨rfl, h⟩ | ⟨b, off, cap, rfl, -, hc, hm, hb, hx⟩
  · refine (refTrim_nil w).mono fun e w' h' => hgen e w' ?_
    rw [h]; exact h'
  · have := refTrim_cells b off cap (Nl.limbs m) w hx hc hm hb hl
    rw [ht] at this
    exact this.mono hgen

set_option maxHeartbeats 1000000 in
theorem ref2Of_any (s : Bool) (v : Value) (m : Nat) (w : World) (h : At w v (Nl.limbs m)) (hl : (Nl.limbs m).length ≤ 1000000) :
    Calls Tryz.prog 84 #[.bool s, v] w fun e w' => (∃ t p n c, e = .returned (.agg #[.bool t, .slice p n c]) ∧ IsI w' (.agg #[.bool t, .slice p n c]) (sgn s m)) ∧ Below w.heap.size w w' := by
  obtain ⟨W, hW⟩ : ∃ W, W = w.alloc (.cells #[.bool false, .slice none 0 0] 25) := ⟨_, rfl⟩
  have hb : Below w.heap.size w W := by rw [hW]; exact below_one w _
  have hQ : W.heap[w.heap.size]? = some (.cells #[.bool false, .slice none 0 0] 25 (0, 0)) := by rw [hW]; exact heap_alloc_new _ _
  have HT := Lib.hid (refTrim_any v m W (h.below hb) hl)
  have HB := Lib.hid (And.intro hb hQ)
  obtain ⟨a, c, rfl, -⟩ := h.form
  obtain ⟨l, hl'⟩ : ∃ l, l = (Nl.limbs m).length := ⟨_, rfl⟩
  have hsg : negB (sgn s m) = (s && decide (0 < l)) := by
    rw [sgn_neg]
    by_cases h0 : 0 < m
    · rw [decide_eq_true h0, decide_eq_true (by rw [hl']; exact Nl.len_pos (by omega))]
    · rw [decide_eq_false h0, decide_eq_false (fun h => h0 (Nat.pos_of_ne_zero fun h1 => by rw [hl', h1, Nl.limbs_zero] at h; exact absurd h (by decide)))]
  have HSG := Lib.hid hsg
  rw [← hl'] at HT ⊢
  clear h hl hb hQ hl' hsg
  obtain ⟨t, ht⟩ : ∃ t, t = (s && decide (0 < l)) := ⟨_, rfl⟩
  have hcase : (s = false ∧ t = false) ∨ (s = true ∧ decide (0 < l) = true ∧ t = true) ∨ (s = true ∧ decide (0 < l) = false ∧ t = false) := by
    rw [ht]
    cases s
    · exact .inl ⟨rfl, rfl⟩
    · cases hd : decide (0 < l)
      · exact .inr (.inr ⟨rfl, rfl, rfl⟩)
      · exact .inr (.inl ⟨rfl, rfl, rfl⟩)
  have HTE := Lib.hid ht
  clear ht
  rcases hcase with ⟨rfl, rfl⟩ | ⟨rfl, e0, rfl⟩ | ⟨rfl, e0, rfl⟩
  · go_enter Tryz.func84, Tryz.ntmps84
    go_upto_region 1 with fail
    rw [← hW]
    clear hW
    go_wp2_with fail
    refine HT.out.mono ?_
    rintro e w1 ⟨⟨p, n, c1, rfl, hat⟩, hb1⟩
    have BQ := (hb1.block _ (lt_of_block HB.out.2)).trans HB.out.2
    have f0 := frozen_of_row _ _ 0 _ _ BQ
    have f1 := frozen_of_row _ _ 1 _ _ BQ
    have g0 := cell_of_row _ _ 0 _ _ (0, 0) BQ
    have g1 := cell_of_row _ _ 1 _ _ (0, 0) BQ
    have HZ := Lib.hid (And.intro hat (And.intro hb1 BQ))
    clear hat hb1 BQ HT
    go_wp2_with fail
    refine bodyPost_ret (v := .agg #[.bool false, .slice p n c1]) (results_cell_row Tryz.results84 _ _ w.heap.size 25 _ (0, 0) _ rfl (ibox_set _ _ HZ.out.2.2) Tryz.underlying25 rfl (by kernel_rfl)) rfl ?_
    exact ⟨⟨_, _, _, _, rfl, isI_mk (at_ibox _ _ HZ.out.1 HZ.out.2.2) (by rw [HSG.out, ← HTE.out]) rfl⟩, below_ibox (HB.out.1.trans (HZ.out.2.1.mono HB.out.1.size)) (Nat.le_refl _) _ _⟩
  · go_enter Tryz.func84, Tryz.ntmps84
    go_upto_region 1 with fail
    rw [← hW]
    clear hW
    go_wp2_with fail
    refine HT.out.mono ?_
    rintro e w1 ⟨⟨p, n, c1, rfl, hat⟩, hb1⟩
    have BQ := (hb1.block _ (lt_of_block HB.out.2)).trans HB.out.2
    have f0 := frozen_of_row _ _ 0 _ _ BQ
    have f1 := frozen_of_row _ _ 1 _ _ BQ
    have g0 := cell_of_row _ _ 0 _ _ (0, 0) BQ
    have g1 := cell_of_row _ _ 1 _ _ (0, 0) BQ
    have HZ := Lib.hid (And.intro hat (And.intro hb1 BQ))
    clear hat hb1 BQ HT
    go_wp2_with fail
    refine bodyPost_ret (v := .agg #[.bool true, .slice p n c1]) (results_cell_row Tryz.results84 _ _ w.heap.size 25 _ (0, 0) _ rfl (ibox_set _ _ HZ.out.2.2) Tryz.underlying25 rfl (by kernel_rfl)) rfl ?_
    exact ⟨⟨_, _, _, _, rfl, isI_mk (at_ibox _ _ HZ.out.1 HZ.out.2.2) (by rw [HSG.out, ← HTE.out]) rfl⟩, below_ibox (HB.out.1.trans (HZ.out.2.1.mono HB.out.1.size)) (Nat.le_refl _) _ _⟩
  · go_enter Tryz.func84, Tryz.ntmps84
    go_upto_region 1 with fail
    rw [← hW]
    clear hW
    go_wp2_with fail
    refine HT.out.mono ?_
    rintro e w1 ⟨⟨p, n, c1, rfl, hat⟩, hb1⟩
    have BQ := (hb1.block _ (lt_of_block HB.out.2)).trans HB.out.2
    have f0 := frozen_of_row _ _ 0 _ _ BQ
    have f1 := frozen_of_row _ _ 1 _ _ BQ
    have g0 := cell_of_row _ _ 0 _ _ (0, 0) BQ
    have g1 := cell_of_row _ _ 1 _ _ (0, 0) BQ
    have HZ := Lib.hid (And.intro hat (And.intro hb1 BQ))
    clear hat hb1 BQ HT
    go_wp2_with fail
    refine bodyPost_ret (v := .agg #[.bool false, .slice p n c1]) (results_cell_row Tryz.results84 _ _ w.heap.size 25 _ (0, 0) _ rfl (ibox_set _ _ HZ.out.2.2) Tryz.underlying25 rfl (by kernel_rfl)) rfl ?_
    exact ⟨⟨_, _, _, _, rfl, isI_mk (at_ibox _ _ HZ.out.1 HZ.out.2.2) (by rw [HSG.out, ← HTE.out]) rfl⟩, below_ibox (HB.out.1.trans (HZ.out.2.1.mono HB.out.1.size)) (Nat.le_refl _) _ _⟩

end Go.Proofs.YtipjbnbmackidaaGreat

namespace Go.Proofs.YtipjbnbmackidaaGreat
open Go.RowKit

set_option maxHeartbeats 1000000 in
theorem ref2Same_any (va vb : Value) (s t : Bool) (xs ys : List Nat) (w : World) (ha : AtI w va s xs) (hb : AtI w vb t ys) :
    Calls Tryz.prog 27 #[va, vb] w fun e w' => e = .returned (.bool ((s == t) && sameB xs ys)) ∧ Below w.heap.size w w' := by
  obtain ⟨p0, c0, rfl, hu⟩ := ha.form
  obtain ⟨p1, c1, rfl, hv⟩ := hb.form
  obtain ⟨W, hW⟩ : ∃ W, W = (w.alloc (.cells #[.bool s, .slice p0 xs.length c0] 25)).alloc (.cells #[.bool t, .slice p1 ys.length c1] 25) := ⟨_, rfl⟩
  have hbW : Below w.heap.size w W := by rw [hW]; exact two_new w _ _
  have B0 : W.heap[w.heap.size]? = some (.cells #[.bool s, .slice p0 xs.length c0] 25 (0, 0)) := by rw [hW]; exact heap_alloc2_old w _ _
  have B1 : W.heap[w.heap.size + 1]? = some (.cells #[.bool t, .slice p1 ys.length c1] 25 (0, 0)) := by rw [hW]; exact heap_alloc2_new w _ _
  have k00 := cell_of_row _ _ 0 _ _ (0, 0) B0
  have k01 := cell_of_row _ _ 1 _ _ (0, 0) B0
  have k10 := cell_of_row _ _ 0 _ _ (0, 0) B1
  have k11 := cell_of_row _ _ 1 _ _ (0, 0) B1
  simp only [List.getElem?_toArray, List.getElem?_cons_zero, List.getElem?_cons_succ] at k00 k01 k10 k11
  have HS := Lib.hid (same_any _ _ xs ys W (hu.below hbW) (hv.below hbW))
  have HB := Lib.hid hbW
  obtain ⟨b, hbb⟩ : ∃ b, b = sameB xs ys := ⟨_, rfl⟩
  rw [← hbb] at HS ⊢
  clear ha hb hu hv hbW B0 B1 hbb
  by_cases hst : s = t
  · subst hst
    rw [show (s == s) = true by simp, Bool.true_and]
    cases s
    all_goals
      go_enter Tryz.func27, Tryz.ntmps27
      go_upto_region 1 with fail
      rw [← hW]
      clear hW
      go_wp2_with (go_at_call 82; refine HS.out.mono ?_; rintro e w' ⟨rfl, j, rfl⟩)
      go_ret
      exact ⟨rfl, HB.out.trans (below_drewN W j _)⟩
  · have hne : (s == t) = false := by simpa using hst
    rw [hne, Bool.false_and]
    cases s <;> cases t
    · exact absurd rfl hst
    · clear hst hne
      go_enter Tryz.func27, Tryz.ntmps27
      go_upto_region 1 with fail
      rw [← hW]
      clear hW
      go_wp2_with (go_at_call 82; refine HS.out.mono ?_; rintro e w' ⟨rfl, j, rfl⟩)
      go_ret
      exact ⟨rfl, HB.out⟩
    · clear hst hne
      go_enter Tryz.func27, Tryz.ntmps27
      go_upto_region 1 with fail
      rw [← hW]
      clear hW
      go_wp2_with (go_at_call 82; refine HS.out.mono ?_; rintro e w' ⟨rfl, j, rfl⟩)
      go_ret
      exact ⟨rfl, HB.out⟩
    · exact absurd rfl hst

end Go.Proofs.YtipjbnbmackidaaGreat

namespace Go.Proofs.YtipjbnbmackidaaGreat
open Go.RowKit

theorem getD_append_right' {A Y : List Nat} {k j : Nat} (hA : A.length = k) : (A ++ Y).getD (k + j) 0 = Y.getD j 0 := by
  subst hA
  rw [List.getD_eq_getElem?_getD, List.getD_eq_getElem?_getD, List.getElem?_append_right (by omega)]
  congr 2; omega
theorem set_append_right' {A Y : List Nat} {k j y : Nat} (hA : A.length = k) : (A ++ Y).set (k + j) y = A ++ Y.set j y := by
  subst hA
  rw [List.set_append_right _ _ (by omega)]
  congr 2; omega

end Go.Proofs.YtipjbnbmackidaaGreat

namespace Go.Proofs.YtipjbnbmackidaaGreat
open Go.RowKit

theorem isI_box {w : World} {g : Nat} {T : TypeId} {s t : Bool} {p q : Option Addr} {l c m d : Nat} {n : Int} (h : IsI w (.agg #[.bool t, .slice q m d]) n) (hbx : w.heap[g]? = some (.cells #[.bool s, .slice p l c] T (0, 0))) :
    IsI ((w.setCell ⟨g, 0, none⟩ (.bool t)).setCell ⟨g, 1, none⟩ (.slice q m d)) (.agg #[.bool t, .slice q m d]) n := by
  obtain ⟨u, hu1, hu2⟩ := h
  simp only [Value.agg.injEq, Array.mk.injEq, List.cons.injEq, Value.bool.injEq, and_true] at hu1
  obtain ⟨rfl, rfl⟩ := hu1
  exact AtI.mk (at_ibox _ _ hu2 hbx)
end Go.Proofs.YtipjbnbmackidaaGreat

namespace Go.Proofs.YtipjbnbmackidaaGreat
open Go.RowKit

theorem sameB_refl (xs : List Nat) : sameB xs xs = true := decide_eq_true rfl
/-- what the reference gives: an integer, or an error -/
instance (n : Int) : Decidable (fitI n) := inferInstanceAs (Decidable (_ ≤ _))
def GotV (w : World) (k : Int) (n : Int) (s : Bool) (p : Option Addr) (l c : Nat) : Prop := (k = 0 → IsI w (.agg #[.bool s, .slice p l c]) n) ∧ (k ≠ 0 → s = false ∧ p = none ∧ l = 0 ∧ c = 0)
end Go.Proofs.YtipjbnbmackidaaGreat

namespace Go.Proofs.YtipjbnbmackidaaGreat
open Go.RowKit

theorem at_of {w : World} {s : Bool} {p : Option Addr} {l c : Nat} {xs : List Nat} (h : AtI w (.agg #[.bool s, .slice p l c]) s xs) : At w (.slice p l c) xs := by
  obtain ⟨u, hu1, hu2⟩ := h
  simp only [Value.agg.injEq, Array.mk.injEq, List.cons.injEq, and_true, true_and] at hu1
  rw [hu1]; exact hu2
end Go.Proofs.YtipjbnbmackidaaGreat
