/-
  What the small functions of the laws of layer 2 do: add, sub, mul, cmp, equal, fine. Conditions: those that each theorem names.
-/
import Derived.Test.YtkbghamkalidcaaGreatLawSumsAll
namespace Go.Proofs.YtkbghamkalidcaaGreat
open Go.RowKit

/-- an integer with at most k words -/
def IsS (w : World) (v : Value) (n : Int) (k : Nat) : Prop := IsI w v n ∧ (Nl.limbs n.natAbs).length ≤ k
theorem IsS.below {w w' : World} {v : Value} {n : Int} {k : Nat} (h : IsS w v n k) (hb : Below w.heap.size w w') : IsS w' v n k := ⟨AtI.below h.1 hb, h.2⟩
theorem len_sum {a b : Int} {j k : Nat} (ha : (Nl.limbs a.natAbs).length ≤ j) (hb : (Nl.limbs b.natAbs).length ≤ k) : (Nl.limbs (a + b).natAbs).length ≤ max j k + 1 := by
  have h1 := Nl.limbs_mono (show (a + b).natAbs ≤ a.natAbs + b.natAbs by omega)
  have h2 := Nl.len_add a.natAbs b.natAbs
  omega
theorem len_pro {a b : Int} {j k : Nat} (ha : (Nl.limbs a.natAbs).length ≤ j) (hb : (Nl.limbs b.natAbs).length ≤ k) : (Nl.limbs (a * b).natAbs).length ≤ j + k := by
  rw [Int.natAbs_mul]
  have h2 := Nl.len_mul a.natAbs b.natAbs
  omega
theorem sgn_val (n : Int) : sgn (negB n) (Nl.val (Nl.limbs n.natAbs)) = n := by rw [Nl.val_limbs, sgn_self]
/-- an integer as a call returns it -/
def RetI (w w' : World) (e : Ending) (n : Int) (k : Nat) : Prop := (∃ s p l c, e = .returned (.agg #[.bool s, .slice p l c]) ∧ IsS w' (.agg #[.bool s, .slice p l c]) n k) ∧ Below w.heap.size w w'
def RetI2 (w w' : World) (e : Ending) (n : Int) : Prop := (∃ s p l c, e = .returned (.tuple #[.agg #[.bool s, .slice p l c], .int .i64 0]) ∧ IsI w' (.agg #[.bool s, .slice p l c]) n) ∧ Below w.heap.size w w'
theorem res_fit {w w' : World} {e : Ending} {ok : Bool} {n m : Int} (h : ResI w w' e ok n) (hok : ok = true) (hf : fitI n) (hm : n = m) : RetI2 w w' e m := by
  subst hm
  obtain ⟨⟨s, p, l, c, rfl, hg⟩, hb⟩ := res_got h
  have h0 : kOf ok n = 0 := by rw [kOf, if_pos hok, codeI_fit hf]
  rw [h0] at hg ⊢
  exact ⟨⟨s, p, l, c, rfl, hg.1 rfl⟩, hb⟩
theorem wAdd_fit (va vb : Value) (a b : Int) (w : World) (ha : IsI w va a) (hb : IsI w vb b) (la : fitI a) (lb : fitI b) (hf : fitI (a + b)) : Calls Tryz.prog 50 #[va, vb] w fun e w' => RetI2 w w' e (a + b) :=
  (wholeAdd_any va _ _ vb _ _ w ha (Nl.limbs_small _) hb (Nl.limbs_small _)).mono fun e w' h => res_fit h (by rw [validI_of la, validI_of lb]; rfl) (by rw [sgn_val, sgn_val]; exact hf) (by rw [sgn_val, sgn_val])
theorem wMul_fit (va vb : Value) (a b : Int) (w : World) (ha : IsI w va a) (hb : IsI w vb b) (la : fitI a) (lb : fitI b) (hf : fitI (a * b)) : Calls Tryz.prog 73 #[va, vb] w fun e w' => RetI2 w w' e (a * b) :=
  (wholeMul_any va _ _ vb _ _ w ha (Nl.limbs_small _) hb (Nl.limbs_small _)).mono fun e w' h => res_fit h (by rw [validI_of la, validI_of lb]; rfl) (by rw [sgn_val, sgn_val]; exact hf) (by rw [sgn_val, sgn_val])
set_option maxHeartbeats 1000000 in
theorem add_law (va vb : Value) (a b : Int) (j k : Nat) (w : World) (ha : IsS w va a j) (hb : IsS w vb b k) (hj : j ≤ 1024) (hk : k ≤ 1024) (hjk : max j k + 1 ≤ 1024) :
    Calls Tryz.prog 16 #[va, vb] w fun e w' => RetI w w' e (a + b) (max j k + 1) := by
  have hlen := len_sum ha.2 hb.2
  obtain ⟨p0, c0, rfl, -⟩ := AtI.form ha.1
  obtain ⟨p1, c1, rfl, -⟩ := AtI.form hb.1
  obtain ⟨W, hW⟩ : ∃ W, W = ((w.alloc (.cells #[.bool (negB a), .slice p0 (Nl.limbs a.natAbs).length c0] 25)).alloc (.cells #[.bool (negB b), .slice p1 (Nl.limbs b.natAbs).length c1] 25)).alloc (.cells #[.bool false, .slice none 0 0] 25) := ⟨_, rfl⟩
  have hbW : Below w.heap.size w W := by rw [hW]; exact three_new w _ _ _
  have hQ : W.heap[w.heap.size + 1 + 1]? = some (.cells #[.bool false, .slice none 0 0] 25 (0, 0)) := by rw [hW]; exact al_at _ _ (by simp)
  have HC := Lib.hid (wAdd_fit _ _ a b W (AtI.below ha.1 hbW) (AtI.below hb.1 hbW) (Nat.le_trans ha.2 hj) (Nat.le_trans hb.2 hk) (Nat.le_trans hlen hjk))
  have HB := Lib.hid (And.intro hbW hQ)
  have HL := Lib.hid hlen
  obtain ⟨s0, hs0⟩ : ∃ s0, s0 = negB a := ⟨_, rfl⟩
  obtain ⟨s1, hs1⟩ : ∃ s1, s1 = negB b := ⟨_, rfl⟩
  obtain ⟨l0, hl0⟩ : ∃ l0, l0 = (Nl.limbs a.natAbs).length := ⟨_, rfl⟩
  obtain ⟨l1, hl1⟩ : ∃ l1, l1 = (Nl.limbs b.natAbs).length := ⟨_, rfl⟩
  rw [← hs0, ← hs1, ← hl0, ← hl1] at hW HC
  rw [← hs0, ← hs1, ← hl0, ← hl1]
  clear ha hb hbW hQ hs0 hs1 hl0 hl1 hj hk hjk hlen
  go_enter Tryz.func16, Tryz.ntmps16
  go_wp2_with fail
  rw [← hW]
  clear hW
  refine HC.out.mono ?_
  rintro e w1 ⟨⟨s, p, l, c, rfl, hi⟩, hb1⟩
  obtain ⟨Z, hZ⟩ : ∃ Z, Z = w1.alloc (.cells #[.bool s, .slice p l c] 25) := ⟨_, rfl⟩
  have hb2 : Below w1.heap.size w1 Z := by rw [hZ]; exact below_one w1 _
  have hbq := hb1.trans (hb2.mono hb1.size)
  have BQ := (hbq.block _ (lt_of_block HB.out.2)).trans HB.out.2
  have f0 := frozen_of_row _ _ 0 _ _ BQ
  have f1 := frozen_of_row _ _ 1 _ _ BQ
  have g0 := cell_of_row _ _ 0 _ _ (0, 0) BQ
  have g1 := cell_of_row _ _ 1 _ _ (0, 0) BQ
  have HI := Lib.hid (And.intro (AtI.below hi hb2) (And.intro (HB.out.1.trans (hbq.mono HB.out.1.size)) BQ))
  rw [hZ] at f0 f1 g0 g1
  clear hi hb1 hb2 hbq BQ HC
  go_wp2_with fail
  refine bodyPost_ret (v := .agg #[.bool s, .slice p l c]) (results_cell_row Tryz.results16 _ _ (w.heap.size + 1 + 1) 25 _ (0, 0) _ rfl (ibox_set (g := w.heap.size + 1 + 1) _ _ (by rw [← hZ]; exact HI.out.2.2)) Tryz.underlying25 rfl (by kernel_rfl)) rfl ?_
  rw [← hZ]
  exact ⟨⟨s, p, l, c, rfl, isI_box (g := w.heap.size + 1 + 1) HI.out.1 HI.out.2.2, HL.out⟩, below_ibox (g := w.heap.size + 1 + 1) HI.out.2.1 (by omega) _ _⟩

set_option maxHeartbeats 1000000 in
theorem mul_law (va vb : Value) (a b : Int) (j k : Nat) (w : World) (ha : IsS w va a j) (hb : IsS w vb b k) (hj : j ≤ 1024) (hk : k ≤ 1024) (hjk : j + k ≤ 1024) :
    Calls Tryz.prog 29 #[va, vb] w fun e w' => RetI w w' e (a * b) (j + k) := by
  have hlen := len_pro ha.2 hb.2
  obtain ⟨p0, c0, rfl, -⟩ := AtI.form ha.1
  obtain ⟨p1, c1, rfl, -⟩ := AtI.form hb.1
  obtain ⟨W, hW⟩ : ∃ W, W = ((w.alloc (.cells #[.bool (negB a), .slice p0 (Nl.limbs a.natAbs).length c0] 25)).alloc (.cells #[.bool (negB b), .slice p1 (Nl.limbs b.natAbs).length c1] 25)).alloc (.cells #[.bool false, .slice none 0 0] 25) := ⟨_, rfl⟩
  have hbW : Below w.heap.size w W := by rw [hW]; exact three_new w _ _ _
  have hQ : W.heap[w.heap.size + 1 + 1]? = some (.cells #[.bool false, .slice none 0 0] 25 (0, 0)) := by rw [hW]; exact al_at _ _ (by simp)
  have HC := Lib.hid (wMul_fit _ _ a b W (AtI.below ha.1 hbW) (AtI.below hb.1 hbW) (Nat.le_trans ha.2 hj) (Nat.le_trans hb.2 hk) (Nat.le_trans hlen hjk))
  have HB := Lib.hid (And.intro hbW hQ)
  have HL := Lib.hid hlen
  obtain ⟨s0, hs0⟩ : ∃ s0, s0 = negB a := ⟨_, rfl⟩
  obtain ⟨s1, hs1⟩ : ∃ s1, s1 = negB b := ⟨_, rfl⟩
  obtain ⟨l0, hl0⟩ : ∃ l0, l0 = (Nl.limbs a.natAbs).length := ⟨_, rfl⟩
  obtain ⟨l1, hl1⟩ : ∃ l1, l1 = (Nl.limbs b.natAbs).length := ⟨_, rfl⟩
  rw [← hs0, ← hs1, ← hl0, ← hl1] at hW HC
  rw [← hs0, ← hs1, ← hl0, ← hl1]
  clear ha hb hbW hQ hs0 hs1 hl0 hl1 hj hk hjk hlen
  go_enter Tryz.func29, Tryz.ntmps29
  go_wp2_with fail
  rw [← hW]
  clear hW
  refine HC.out.mono ?_
  rintro e w1 ⟨⟨s, p, l, c, rfl, hi⟩, hb1⟩
  obtain ⟨Z, hZ⟩ : ∃ Z, Z = w1.alloc (.cells #[.bool s, .slice p l c] 25) := ⟨_, rfl⟩
  have hb2 : Below w1.heap.size w1 Z := by rw [hZ]; exact below_one w1 _
  have hbq := hb1.trans (hb2.mono hb1.size)
  have BQ := (hbq.block _ (lt_of_block HB.out.2)).trans HB.out.2
  have f0 := frozen_of_row _ _ 0 _ _ BQ
  have f1 := frozen_of_row _ _ 1 _ _ BQ
  have g0 := cell_of_row _ _ 0 _ _ (0, 0) BQ
  have g1 := cell_of_row _ _ 1 _ _ (0, 0) BQ
  have HI := Lib.hid (And.intro (AtI.below hi hb2) (And.intro (HB.out.1.trans (hbq.mono HB.out.1.size)) BQ))
  rw [hZ] at f0 f1 g0 g1
  clear hi hb1 hb2 hbq BQ HC
  go_wp2_with fail
  refine bodyPost_ret (v := .agg #[.bool s, .slice p l c]) (results_cell_row Tryz.results29 _ _ (w.heap.size + 1 + 1) 25 _ (0, 0) _ rfl (ibox_set (g := w.heap.size + 1 + 1) _ _ (by rw [← hZ]; exact HI.out.2.2)) Tryz.underlying25 rfl (by kernel_rfl)) rfl ?_
  rw [← hZ]
  exact ⟨⟨s, p, l, c, rfl, isI_box (g := w.heap.size + 1 + 1) HI.out.1 HI.out.2.2, HL.out⟩, below_ibox (g := w.heap.size + 1 + 1) HI.out.2.1 (by omega) _ _⟩

theorem eqI_same {a b : Int} (hn : negB a = negB b) (hl : Nl.limbs a.natAbs = Nl.limbs b.natAbs) : a = b := by
  have h1 : a.natAbs = b.natAbs := by rw [← Nl.val_limbs a.natAbs, hl, Nl.val_limbs]
  have h3 : decide (a < 0) = decide (b < 0) := hn
  by_cases h4 : a < 0 <;> by_cases h5 : b < 0 <;> simp [h4, h5] at h3 <;> omega

set_option maxHeartbeats 2000000 in
theorem equal_law (va vb : Value) (a b : Int) (w : World) (ha : IsI w va a) (hb : IsI w vb b) :
    Calls Tryz.prog 15 #[va, vb] w fun e w' => e = .returned (.bool (decide (a = b))) ∧ Below w.heap.size w w' := by
  obtain ⟨p0, c0, rfl, u0⟩ := AtI.form ha
  obtain ⟨p1, c1, rfl, u1⟩ := AtI.form hb
  obtain ⟨xs, hxs⟩ : ∃ xs, xs = Nl.limbs a.natAbs := ⟨_, rfl⟩
  obtain ⟨ys, hys⟩ : ∃ ys, ys = Nl.limbs b.natAbs := ⟨_, rfl⟩
  rw [← hxs] at u0 ⊢
  rw [← hys] at u1 ⊢
  obtain ⟨s0, hs0⟩ : ∃ s0, s0 = negB a := ⟨_, rfl⟩
  obtain ⟨s1, hs1⟩ : ∃ s1, s1 = negB b := ⟨_, rfl⟩
  rw [← hs0, ← hs1]
  have HS := Lib.hid (And.intro hs0 (And.intro hs1 (And.intro hxs hys)))
  obtain ⟨l0, hl0⟩ : ∃ l0, l0 = xs.length := ⟨_, rfl⟩
  obtain ⟨l1, hl1⟩ : ∃ l1, l1 = ys.length := ⟨_, rfl⟩
  rw [← hl0] at u0 ⊢
  rw [← hl1] at u1 ⊢
  obtain ⟨W, hW⟩ : ∃ W, W = (w.alloc (.cells #[.bool s0, .slice p0 l0 c0] 25)).alloc (.cells #[.bool s1, .slice p1 l1 c1] 25) := ⟨_, rfl⟩
  have hbW : Below w.heap.size w W := by rw [hW]; exact two_new w _ _
  have B0 : W.heap[w.heap.size]? = some (.cells #[.bool s0, .slice p0 l0 c0] 25 (0, 0)) := by rw [hW]; exact heap_alloc2_old w _ _
  have B1 : W.heap[w.heap.size + 1]? = some (.cells #[.bool s1, .slice p1 l1 c1] 25 (0, 0)) := by rw [hW]; exact heap_alloc2_new w _ _
  have k00 := cell_of_row _ _ 0 _ _ (0, 0) B0
  have k01 := cell_of_row _ _ 1 _ _ (0, 0) B0
  have k10 := cell_of_row _ _ 0 _ _ (0, 0) B1
  have k11 := cell_of_row _ _ 1 _ _ (0, 0) B1
  simp only [List.getElem?_toArray, List.getElem?_cons_zero, List.getElem?_cons_succ] at k00 k01 k10 k11
  have HK := Lib.hid (And.intro (lt_of_block B0) (And.intro (lt_of_block B1) (And.intro k01 k11)))
  have HB := Lib.hid hbW
  have HU := Lib.hid (And.intro (u0.below hbW) (u1.below hbW))
  have HL := Lib.hid (And.intro hl0 hl1)
  have hsb := u0.short
  rw [← hl0] at hsb
  clear ha hb u0 u1 hxs hys hs0 hs1 hbW B0 B1 hl0 hl1
  by_cases hst : s0 = s1
  · subst hst
    by_cases hl : l0 = l1
    · cases s0
      all_goals
        have HLE := Lib.hid hl
        have e0 : ((l0 : Int) != (l1 : Int)) = false := by simp [hl]
        clear hl
        have hWW : W.heap.size ≤ W.heap.size := Nat.le_refl _
        go_enter Tryz.func15, Tryz.ntmps15
        go_wp2_with fail
        rw [← hW]
        clear hW
        go_loopw [5] (fun i wr => ∃ k : Nat, k ≤ l0 ∧ i = .int .i64 (k : Int) ∧ Hid (xs.take k = ys.take k) ∧ Hid (Below W.heap.size W wr)) (fun i _ => l0 - (intOf i).toNat)
        case atStart => exact ⟨0, Nat.zero_le _, rfl, by simp [Hid], Below.refl _ _⟩
        case round =>
          obtain ⟨k, hk, rfl, hd, hbel⟩ := hrel
          have i01 := (hbel.out.cell (p := ⟨w.heap.size, 1, none⟩) HK.out.1).trans HK.out.2.2.1
          have i11 := (hbel.out.cell (p := ⟨w.heap.size + 1, 1, none⟩) HK.out.2.1).trans HK.out.2.2.2
          clear k00 k01 k10 k11
          by_cases hkl : k < l0
          · have t0 : decide (k < l0) = true := decide_eq_true hkl
            have ux := HU.out.1.below hbel.out
            have uy := HU.out.2.below hbel.out
            obtain ⟨x, hx⟩ : ∃ x, x = xs.getD k 0 := ⟨_, rfl⟩
            obtain ⟨y, hy⟩ : ∃ y, y = ys.getD k 0 := ⟨_, rfl⟩
            have hkx : k < xs.length := by rw [← HL.out.1]; exact hkl
            have hky : k < ys.length := by rw [← HL.out.2, ← HLE.out]; exact hkl
            have hky' : k < l1 := by rw [← HLE.out]; exact hkl
            rcases ux with ⟨-, h⟩ | ⟨ba, oa, ca', he, -, hca, hma, hba, hcx⟩
            · rw [h] at hkx; simp at hkx
            simp only [Value.slice.injEq] at he
            obtain ⟨rfl, -, rfl⟩ := he
            rcases uy with ⟨-, h⟩ | ⟨bb, ob, cb', he, -, hcb, hmb, hbb, hcy⟩
            · rw [h] at hky; simp at hky
            simp only [Value.slice.injEq] at he
            obtain ⟨rfl, -, rfl⟩ := he
            have d1 := hcx k hkx
            have d2 := hcy k hky
            rw [← hx] at d1
            rw [← hy] at d2
            have Hx := Lib.hid hx
            have Hy := Lib.hid hy
            have HKX := Lib.hid (And.intro hkx hky)
            clear hx hy hcx hcy hkx hky hca hma hba hcb hmb hbb
            by_cases hxy : x = y
            · have e1 : ((x : Int) != (y : Int)) = false := by simp [hxy]
              have HE := Lib.hid hxy
              clear hxy
              go_wp2_with fail
              go_quiet (fail)
              go_wp2_with fail
              go_roundw
              case rel =>
                exact ⟨k + 1, hkl, by go_num, take_snoc (by rw [← HL.out.1, ← HL.out.2]; exact HLE.out) HKX.out.1 hd.out (by rw [← Hx.out, ← Hy.out]; exact HE.out), hbel.out.trans (below_drewN wr nq _)⟩
              case measure => simp [intOf] <;> omega
            · have e1 : ((x : Int) != (y : Int)) = true := by rw [bne_iff_ne]; omega
              have hf : decide (a = b) = false := decide_eq_false fun h => hxy (by rw [Hx.out, Hy.out, HS.out.2.2.1, HS.out.2.2.2, h])
              have HF := Lib.hid hf
              clear hxy hf
              go_wp2_with fail
              go_quiet (fail)
              go_wp2_with fail
              go_ret
              exact ⟨by rw [HF.out]; rfl, HB.out.trans ((hbel.out.trans (below_drewN wr nq _)).mono HB.out.size)⟩
          · have t0 : decide (k < l0) = false := decide_eq_false hkl
            have hf : decide (a = b) = true := decide_eq_true (eqI_same (by rw [← HS.out.1, ← HS.out.2.1]) (by rw [← HS.out.2.2.1, ← HS.out.2.2.2]; exact (take_all (by rw [← HL.out.1, ← HL.out.2]; exact HLE.out) (by rw [← HL.out.1]; omega) hd.out)))
            have HF := Lib.hid hf
            clear hf hkl
            go_wp2_with fail
            go_ret
            exact ⟨by rw [HF.out]; rfl, HB.out.trans (hbel.out.mono HB.out.size)⟩
    · cases s0
      all_goals
        have e0 : ((l0 : Int) != (l1 : Int)) = true := by rw [bne_iff_ne]; omega
        have hf : decide (a = b) = false := decide_eq_false fun h => hl (by rw [HL.out.1, HL.out.2, HS.out.2.2.1, HS.out.2.2.2, h])
        rw [hf]
        clear hl hf
        go_enter Tryz.func15, Tryz.ntmps15
        go_wp2_with fail
        rw [← hW]
        go_ret
        exact ⟨rfl, HB.out⟩
  · have hf : decide (a = b) = false := decide_eq_false fun h => hst (by rw [HS.out.1, HS.out.2.1, h])
    rw [hf]
    clear hf
    cases s0 <;> cases s1
    · exact absurd rfl hst
    · clear hst
      go_enter Tryz.func15, Tryz.ntmps15
      go_wp2_with fail
      rw [← hW]
      go_ret
      exact ⟨rfl, HB.out⟩
    · clear hst
      go_enter Tryz.func15, Tryz.ntmps15
      go_wp2_with fail
      rw [← hW]
      go_ret
      exact ⟨rfl, HB.out⟩
    · exact absurd rfl hst

/-- what fine asks of one integer -/
def fineP (most : Nat) (p : IntArg) : Bool := decide (p.2.2.length ≤ most) && okI p

set_option maxHeartbeats 2000000 in
theorem fine_law (b most : Nat) (vs : List IntArg) (w : World) (hg : GivenI w b vs) (hb : b < w.heap.size) (hl : vs.length ≤ 100) :
    Calls Tryz.prog 12 #[.slice (some ⟨b, 0, none⟩) vs.length vs.length, .int .i64 most] w fun e w' => e = .returned (.bool (vs.all (fineP most))) ∧ Below w.heap.size w w' := by
  have HG := Lib.hid hg
  have HB := Lib.hid hb
  clear hg hb
  go_enter Tryz.func12, Tryz.ntmps12
  go_wp2_with fail
  go_loopw [5] (fun i wr => ∃ k : Nat, k ≤ vs.length ∧ i = .int .i64 k ∧ Hid (∀ j, j < k → fineP most (vs.getD j noArg) = true) ∧ Hid (Below w.heap.size w wr)) (fun i _ => vs.length - (intOf i).toNat)
  case atStart => exact ⟨0, Nat.zero_le _, rfl, fun j hj => by omega, Below.refl _ _⟩
  case round =>
    obtain ⟨k, hk, rfl, hval, hbel⟩ := hrel
    by_cases hlt : k < vs.length
    · have t0 : decide (k < vs.length) = true := decide_eq_true hlt
      obtain ⟨g1, g2, g3⟩ := HG.out k hlt
      have hmem : vs.getD k noArg ∈ vs := by
        rw [show vs.getD k noArg = vs[k] from by simp [hlt]]
        exact List.getElem_mem hlt
      obtain ⟨p, hp⟩ : ∃ p, p = vs.getD k noArg := ⟨_, rfl⟩
      rw [← hp] at g1 g2 g3 hmem
      obtain ⟨s, v, xs⟩ := p
      simp only at g1 g2 g3
      obtain ⟨a, c, rfl, -⟩ := g3.form
      have c1 := (hbel.out.cell (p := ⟨b, k * 2, none⟩) HB.out).trans g1
      have c2 := (hbel.out.cell (p := ⟨b, k * 2 + 1, none⟩) HB.out).trans g2
      have hV := validI_any _ s xs wr (AtI.mk (g3.below hbel.out))
      obtain ⟨l, hl'⟩ : ∃ l, l = xs.length := ⟨_, rfl⟩
      rw [← hl'] at c2 hV
      have HP := Lib.hid (And.intro hp (And.intro hmem hl'))
      by_cases hle : l ≤ most
      · have t1 : decide (most < l) = false := decide_eq_false (by omega)
        have t2 : decide ((l : Int) > (most : Int)) = false := decide_eq_false (by omega)
        have HLE := Lib.hid hle
        cases hvi : validI s xs with
        | true =>
          rw [hvi] at hV
          have HV := Lib.hid hV
          have HVI := Lib.hid hvi
          clear g1 g2 g3 hp hmem hV hvi hl' hle
          go_wp2_with fail
          refine HV.out.mono ?_
          rintro e w2 ⟨rfl, hb2⟩
          have B2 := Lib.hid (hbel.out.trans (hb2.mono hbel.out.size))
          clear hb2 HV c1 c2
          go_wp2_with fail
          go_roundw
          case rel =>
            refine ⟨k + 1, by omega, by go_num, fun j hj => ?_, B2.out⟩
            rcases Nat.lt_or_eq_of_le (Nat.le_of_lt_succ hj) with hj | rfl
            · exact hval.out j hj
            · rw [← HP.out.1, fineP, Bool.and_eq_true]; exact ⟨decide_eq_true (by rw [← HP.out.2.2]; exact HLE.out), HVI.out⟩
          case measure => simp [intOf] <;> omega
        | false =>
          rw [hvi] at hV
          have HV := Lib.hid hV
          have HF := Lib.hid (show vs.all (fineP most) = false from List.all_eq_false.2 ⟨_, hmem, by rw [fineP, show okI (s, .slice a xs.length c, xs) = false from hvi]; simp⟩)
          clear g1 g2 g3 hp hmem hV hvi hl' hle
          go_wp2_with fail
          refine HV.out.mono ?_
          rintro e w2 ⟨rfl, hb2⟩
          have B2 := Lib.hid (hbel.out.trans (hb2.mono hbel.out.size))
          clear hb2 HV c1 c2
          go_wp2_with fail
          go_ret
          exact ⟨by rw [HF.out]; rfl, B2.out⟩
      · have t1 : decide (most < l) = true := decide_eq_true (by omega)
        have t2 : decide ((l : Int) > (most : Int)) = true := decide_eq_true (by omega)
        have HF := Lib.hid (show vs.all (fineP most) = false from List.all_eq_false.2 ⟨_, hmem, by rw [fineP, decide_eq_false (by rw [← hl']; exact hle)]; simp⟩)
        clear g1 g2 g3 hp hmem hV hl' hle
        go_wp2_with fail
        go_ret
        exact ⟨by rw [HF.out]; rfl, hbel.out⟩
    · have t0 : decide (k < vs.length) = false := decide_eq_false hlt
      have HF := Lib.hid (show vs.all (fineP most) = true from List.all_eq_true.2 fun p hp => by
        obtain ⟨j, hj, rfl⟩ := List.getElem_of_mem hp
        have := hval.out j (by omega)
        rwa [show vs.getD j noArg = vs[j] from by simp [hj]] at this)
      clear hlt
      go_wp2_with fail
      go_ret
      exact ⟨by rw [HF.out]; rfl, hbel.out⟩
end Go.Proofs.YtkbghamkalidcaaGreat
