/-
  What Neg, Add, Sub, Mul, ToInt, Sign and Cmp of package whole do. Written by wip/tool/genops.py. Conditions: those that each theorem names.
-/
import Derived.Test.YtkbghamkalidcaaGreatWhole
namespace Go.Proofs.YtkbghamkalidcaaGreat
open Go.RowKit

theorem plus_does (va vb : Value) (a b : Int) (w : World) (ha : IsI w va a) (hb : IsI w vb b) (la : fitI a) (lb : fitI b) :
    Calls Tryz.prog 109 #[va, vb] w fun e w' => IDoes w w' e (a + b) := by
  by_cases hs : negB a = negB b
  · by_cases hf : fitI (a + b)
    · exact (plus_same va vb a b w ha hb la lb hs hf).mono fun e w' h => ⟨h.1, .inl ⟨hf, h.2⟩⟩
    · exact (plus_same_no va vb a b w ha hb la lb hs hf).mono fun e w' h => ⟨h.1, .inr ⟨hf, h.2⟩⟩
  · have hf := sum_fits hs la lb
    by_cases hl : a.natAbs < b.natAbs
    · exact (plus_less va vb a b w ha hb la lb hs hl).mono fun e w' h => ⟨h.1, .inl ⟨hf, h.2⟩⟩
    · exact (plus_more va vb a b w ha hb la lb hs (by omega)).mono fun e w' h => ⟨h.1, .inl ⟨hf, h.2⟩⟩
theorem times_does (va vb : Value) (a b : Int) (w : World) (ha : IsI w va a) (hb : IsI w vb b) (la : fitI a) (lb : fitI b) :
    Calls Tryz.prog 135 #[va, vb] w fun e w' => IDoes w w' e (a * b) := by
  by_cases hf : fitI (a * b)
  · exact (times_yes va vb a b w ha hb la lb hf).mono fun e w' h => ⟨h.1, .inl ⟨hf, h.2⟩⟩
  · exact (times_no va vb a b w ha hb la lb hf).mono fun e w' h => ⟨h.1, .inr ⟨hf, h.2⟩⟩
theorem codeI_fit {n : Int} (h : fitI n) : codeI 0 n = 0 := by rw [codeI, if_neg (by decide), if_pos (show (Nl.limbs n.natAbs).length ≤ 1024 from h)]
theorem codeI_no {n : Int} (h : ¬ fitI n) : codeI 0 n = 2 := by rw [codeI, if_neg (by decide), if_neg (show ¬ (Nl.limbs n.natAbs).length ≤ 1024 from h)]
theorem codeI_twice (n : Int) : codeI (codeI 0 n) n = codeI 0 n := by
  by_cases h : fitI n
  · rw [codeI_fit h, codeI_fit h]
  · rw [codeI_no h]; rfl

theorem plus_yes (va vb : Value) (a b : Int) (w : World) (ha : IsI w va a) (hb : IsI w vb b) (la : fitI a) (lb : fitI b) (hf : fitI (a + b)) :
    Calls Tryz.prog 109 #[va, vb] w fun e w' => Below w.heap.size w w' ∧ ∃ v, e = .returned v ∧ IsI w' v (a + b) :=
  (plus_does va vb a b w ha hb la lb).mono fun _e _w' h => ⟨h.1, h.2.elim (fun h => h.2) (fun h => absurd hf h.1)⟩
theorem plus_no (va vb : Value) (a b : Int) (w : World) (ha : IsI w va a) (hb : IsI w vb b) (la : fitI a) (lb : fitI b) (hf : ¬ fitI (a + b)) :
    Calls Tryz.prog 109 #[va, vb] w fun e w' => Below w.heap.size w w' ∧ e = fault 2 :=
  (plus_does va vb a b w ha hb la lb).mono fun _e _w' h => ⟨h.1, h.2.elim (fun h => absurd h.1 hf) (fun h => h.2)⟩
set_option maxHeartbeats 2000000 in
theorem minus_does (va vb : Value) (a b : Int) (w : World) (ha : IsI w va a) (hb : IsI w vb b) (la : fitI a) (lb : fitI b) :
    Calls Tryz.prog 113 #[va, vb] w fun e w' => IDoes w w' e (a - b) := by
  obtain ⟨p0, c0, rfl, hu⟩ := ha.form
  obtain ⟨p1, c1, rfl, hv⟩ := hb.form
  obtain ⟨l0, hl0⟩ : ∃ l0, l0 = (Nl.limbs a.natAbs).length := ⟨_, rfl⟩
  obtain ⟨l1, hl1⟩ : ∃ l1, l1 = (Nl.limbs b.natAbs).length := ⟨_, rfl⟩
  rw [← hl0] at ha ⊢
  rw [← hl1] at hb ⊢
  obtain ⟨s0, hs0⟩ : ∃ s0, s0 = negB a := ⟨_, rfl⟩
  obtain ⟨s1, hs1⟩ : ∃ s1, s1 = negB b := ⟨_, rfl⟩
  rw [← hs0] at ha ⊢
  rw [← hs1] at hb ⊢
  obtain ⟨W, hW⟩ : ∃ W, W = ((w.alloc (.cells #[.bool s0, .slice p0 l0 c0] 78)).alloc (.cells #[.bool s1, .slice p1 l1 c1] 78)).alloc (.cells #[.bool false, .slice none 0 0] 78) := ⟨_, rfl⟩
  have h3 := three_mk w W _ _ _ _ _ _ hW
  have bW := h3.below.trans (below_drewN W 1 w.heap.size)
  have HA := Lib.hid (ha.below bW)
  have HOP := Lib.hid (opposite_any _ b W.drew (hb.below bW))
  have k00 := cell_of_row _ _ 0 _ _ (0, 0) h3.a
  have k01 := cell_of_row _ _ 1 _ _ (0, 0) h3.a
  have k10 := cell_of_row _ _ 0 _ _ (0, 0) h3.b
  have k11 := cell_of_row _ _ 1 _ _ (0, 0) h3.b
  simp only [List.getElem?_toArray, List.getElem?_cons_zero, List.getElem?_cons_succ] at k00 k01 k10 k11
  have hK0 : w.heap.size < W.heap.size := lt_of_block h3.a
  have hK1 : w.heap.size + 1 < W.heap.size := lt_of_block h3.b
  have hK2 : w.heap.size + 2 < W.heap.size := lt_of_block h3.r
  have n1 : ¬ w.heap.size = w.heap.size + 1 + 1 := by omega
  have n2 : ¬ w.heap.size + 1 + 1 = w.heap.size := by omega
  have H3 := Lib.hid h3
  have HF := Lib.hid (And.intro la (show fitI (-b) by rw [fitI, show (-b).natAbs = b.natAbs by omega]; exact lb))
  clear ha hb hu hv h3 la lb bW hl0 hl1 hs0 hs1
  show Calls Tryz.prog 113 _ w fun e w' => IDoes w w' e (a + -b)
  by_cases hf : fitI (a + -b)
  · have HP := Lib.hid (fun (w2 : World) (u : Value) (h : Below W.drew.heap.size W.drew w2) (hu : IsI w2 u (-b)) => plus_yes _ u a (-b) w2 (HA.out.below h) hu HF.out.1 HF.out.2 hf)
    have HFF := Lib.hid hf
    clear hf
    go_enter Tryz.func113, Tryz.ntmps113
    go_upto_region 1 with fail
    rw [← hW]
    clear hW
    go_region_held3 (fun w' => w'.cell? ⟨w.heap.size, 0, none⟩ = some (.bool s0) ∧ w'.cell? ⟨w.heap.size, 1, none⟩ = some (.slice p0 l0 c0) ∧ w'.cell? ⟨w.heap.size + 1, 0, none⟩ = some (.bool s1) ∧ w'.cell? ⟨w.heap.size + 1, 1, none⟩ = some (.slice p1 l1 c1))
      (first
        | go_keep
        | assumption)
      (first
        | (go_at_call 110; refine HOP.out.mono ?_; rintro e w2 ⟨⟨u2, rfl, hu2⟩, hb2⟩; have d00 := (hb2.cell (p := ⟨w.heap.size, 0, none⟩) hK0).trans k00; have d01 := (hb2.cell (p := ⟨w.heap.size, 1, none⟩) hK0).trans k01; have d10 := (hb2.cell (p := ⟨w.heap.size + 1, 0, none⟩) hK1).trans k10; have d11 := (hb2.cell (p := ⟨w.heap.size + 1, 1, none⟩) hK1).trans k11)
        | (go_at_call 109; refine (HP.out w2 u2 hb2 hu2).mono ?_; rintro e w4 ⟨hb4, v4, rfl, hv4⟩; obtain ⟨p2, c2, rfl, hat2⟩ := AtI.form hv4; have e00 := (hb4.cell (p := ⟨w.heap.size, 0, none⟩) (Nat.lt_of_lt_of_le hK0 hb2.size)).trans d00; have e01 := (hb4.cell (p := ⟨w.heap.size, 1, none⟩) (Nat.lt_of_lt_of_le hK0 hb2.size)).trans d01; have e10 := (hb4.cell (p := ⟨w.heap.size + 1, 0, none⟩) (Nat.lt_of_lt_of_le hK1 hb2.size)).trans d10; have e11 := (hb4.cell (p := ⟨w.heap.size + 1, 1, none⟩) (Nat.lt_of_lt_of_le hK1 hb2.size)).trans d11; have BQ := (hb4.block (w.heap.size + 2) (Nat.lt_of_lt_of_le hK2 hb2.size)).trans ((hb2.block (w.heap.size + 2) hK2).trans H3.out.r); have f0 := frozen_of_row _ _ 0 _ _ BQ; have f1 := frozen_of_row _ _ 1 _ _ BQ; have g0 := cell_of_row _ _ 0 _ _ (0, 0) BQ; have g1 := cell_of_row _ _ 1 _ _ (0, 0) BQ; have HQ := Lib.hid (And.intro BQ (And.intro hat2 (And.intro hb2 hb4))); clear BQ))
    clear hb2 hb4 hat2 hu2 hv4
    go_wp2_with fail
    refine bodyPost_ret (v := .agg #[.bool (negB (a + -b)), .slice p2 (Nl.limbs (a + -b).natAbs).length c2]) (results_cell_row Tryz.results113 _ _ (w.heap.size + 2) 78 _ (0, 0) _ rfl (ibox_set (g := w.heap.size + 2) _ _ HQ.out.1) Tryz.underlying78 rfl (by kernel_rfl)) rfl ?_
    exact ⟨below_ibox (below_three2 H3.out HQ.out.2.2.1 HQ.out.2.2.2) (g := w.heap.size + 2) (by omega) _ _, .inl ⟨HFF.out, _, rfl, AtI.mk (at_ibox (g := w.heap.size + 2) _ _ HQ.out.2.1 HQ.out.1)⟩⟩
  · have HP := Lib.hid (fun (w2 : World) (u : Value) (h : Below W.drew.heap.size W.drew w2) (hu : IsI w2 u (-b)) => plus_no _ u a (-b) w2 (HA.out.below h) hu HF.out.1 HF.out.2 hf)
    have HFF := Lib.hid hf
    clear hf
    go_enter Tryz.func113, Tryz.ntmps113
    go_upto_region 1 with fail
    rw [← hW]
    clear hW
    refine wp_region_held_drew (S := fun w' => w'.cell? ⟨w.heap.size, 0, none⟩ = some (.bool s0) ∧ w'.cell? ⟨w.heap.size, 1, none⟩ = some (.slice p0 l0 c0) ∧ w'.cell? ⟨w.heap.size + 1, 0, none⟩ = some (.bool s1) ∧ w'.cell? ⟨w.heap.size + 1, 1, none⟩ = some (.slice p1 l1 c1)) (by kernel_rfl) ⟨k00, k01, k10, k11⟩ (fun hHeld => ?_)
    refine wpAnyH_take (i := 0) (v := ?_) rfl (by kernel_rfl) (by kernel_rfl) (by kernel_rfl) (fun _ _ _ h => h) (Or.inl ⟨by rfl, ?_⟩) (by assumption) ?_
    rotate_left
    · intro w hSw; (try dsimp only at hSw); go_simp; (try (with_reducible rfl))
    try simp only [Act.put, List.setIfInBounds_toArray]
    refine wpAnyH_take (i := 1) (v := ?_) rfl (by kernel_rfl) (by kernel_rfl) (by kernel_rfl) (fun _ _ _ h => h) (Or.inl ⟨by rfl, ?_⟩) (by assumption) ?_
    rotate_left
    · intro w hSw; (try dsimp only at hSw); go_simp; (try (with_reducible rfl))
    try simp only [Act.put]
    refine wpAnyH_ready (rs := [2]) (by kernel_rfl) (by simp) ?_
    refine AllReadyH.cons rfl (fun K hK => ?_) AllReadyH.nil
    go_simp
    go_at_call 110
    refine HOP.out.mono ?_
    rintro e w2 ⟨⟨u2, rfl, hu2⟩, hb2⟩
    have d00 := (hb2.cell (p := ⟨w.heap.size, 0, none⟩) hK0).trans k00
    have d01 := (hb2.cell (p := ⟨w.heap.size, 1, none⟩) hK0).trans k01
    have d10 := (hb2.cell (p := ⟨w.heap.size + 1, 0, none⟩) hK1).trans k10
    have d11 := (hb2.cell (p := ⟨w.heap.size + 1, 1, none⟩) hK1).trans k11
    refine hK.out _ _ ⟨d00, d01, d10, d11⟩ (fun hHeld2 => ?_)
    clear hK K hHeld
    try simp only [Act.put, List.setIfInBounds_toArray, List.set_cons_zero, List.set_cons_succ]
    refine wpAnyH_ready (rs := [3]) (by kernel_rfl) (by simp) ?_
    refine AllReadyH.cons rfl (fun K hK => ?_) AllReadyH.nil
    go_simp
    go_at_call 109
    refine (HP.out w2 u2 hb2 hu2).mono ?_
    rintro e w4 ⟨hb4, rfl⟩
    exact ⟨rfl, below_three2 H3.out hb2 hb4, .inr ⟨HFF.out, rfl⟩⟩

theorem al_at {w : World} (A : Obj) (i : Nat) (hi : w.heap.size = i) : (w.alloc A).heap[i]? = some A := by rw [← hi]; exact heap_alloc_new w A
theorem al_keep {w : World} {x : Option Obj} (A : Obj) (i : Nat) (hi : i < w.heap.size) (hx : w.heap[i]? = x) : (w.alloc A).heap[i]? = x := (Below.heap_alloc w A i hi).trans hx
/-- arguments in boxes: an integer's block -/
def BoxI (w : World) (K : Nat) (s : Bool) (p : Option Addr) (l c : Nat) : Prop := w.heap[K]? = some (.cells #[.bool s, .slice p l c] 25 (0, 0))
theorem givenI_one {W : World} {s : Bool} {p : Option Addr} {l c : Nat} {xs : List Nat} (b : Nat) (hW : W.heap[b]? = some (.cells #[.bool s, .slice p l c] 25 (0, 0))) (h : At W (.slice p l c) xs) : GivenI W b [(s, .slice p l c, xs)] := by
  intro i hi
  have : i = 0 := by simp at hi; omega
  subst this
  exact ⟨cell_of_row _ _ 0 _ _ (0, 0) hW, cell_of_row _ _ 1 _ _ (0, 0) hW, h⟩
theorem givenI_two {W : World} {s s' : Bool} {p p' : Option Addr} {l c l' c' : Nat} {xs ys : List Nat} (b : Nat) (hW : W.heap[b]? = some (.cells #[.bool s, .slice p l c, .bool s', .slice p' l' c'] 25 (0, 0))) (h : At W (.slice p l c) xs) (h' : At W (.slice p' l' c') ys) : GivenI W b [(s, .slice p l c, xs), (s', .slice p' l' c', ys)] := by
  intro i hi
  have : i = 0 ∨ i = 1 := by simp at hi; omega
  rcases this with rfl | rfl
  · exact ⟨cell_of_row _ _ 0 _ _ (0, 0) hW, cell_of_row _ _ 1 _ _ (0, 0) hW, h⟩
  · exact ⟨cell_of_row _ _ 2 _ _ (0, 0) hW, cell_of_row _ _ 3 _ _ (0, 0) hW, h'⟩
theorem isI_of_ok {w : World} {s : Bool} {v : Value} {xs : List Nat} (h : At w v xs) (hs : Nl.Small xs) (hok : validI s xs = true) : IsI w (.agg #[.bool s, v]) (sgn s (Nl.val xs)) ∧ fitI (sgn s (Nl.val xs)) := by
  obtain ⟨h1, h2, h3⟩ := validI_norm hs hok
  refine ⟨?_, h3⟩
  rw [IsI, ← h1, ← h2]
  exact AtI.mk h

/-- what a call gives: an integer, or an error; k: its own error, n: the result -/
def ResI (w w' : World) (e : Ending) (ok : Bool) (n : Int) : Prop := ∃ c, c = (if ok = true then codeI 0 n else 1) ∧ WOut w w' e c n
set_option maxHeartbeats 1000000 in
theorem Add_1_does (s0 : Bool) (p0 : Option Addr) (l0 c0 : Nat) (a : Int) (s1 : Bool) (p1 : Option Addr) (l1 c1 : Nat) (b : Int) (K : Nat) (w : World) (h0 : BoxI w (K) s0 p0 l0 c0) (g0 : IsI w (.agg #[.bool s0, .slice p0 l0 c0]) a) (f0 : fitI a) (h1 : BoxI w (K + 1) s1 p1 l1 c1) (g1 : IsI w (.agg #[.bool s1, .slice p1 l1 c1]) b) (f1 : fitI b) :
    IntDoes 111 #[.pointer (some ⟨K, 0, none⟩), .pointer (some ⟨K + 1, 0, none⟩)] w (codeI 0 (a + b)) (a + b) := by
  intro W hW
  obtain ⟨V, hV⟩ : ∃ V, V = W.alloc (.cells #[.bool false, .slice none 0 0] 78) := ⟨_, rfl⟩
  have hbV : Below W.heap.size W V := by rw [hV]; exact below_one W _
  have hQ : V.heap[W.heap.size]? = some (.cells #[.bool false, .slice none 0 0] 78 (0, 0)) := by rw [hV]; exact heap_alloc_new _ _
  have b0 := (hbV.block (K) (Nat.lt_of_lt_of_le (lt_of_block h0) hW.size)).trans ((hW.block (K) (lt_of_block h0)).trans h0)
  have k00 := cell_of_row _ _ 0 _ _ (0, 0) b0
  have k01 := cell_of_row _ _ 1 _ _ (0, 0) b0
  have b1 := (hbV.block (K + 1) (Nat.lt_of_lt_of_le (lt_of_block h1) hW.size)).trans ((hW.block (K + 1) (lt_of_block h1)).trans h1)
  have k10 := cell_of_row _ _ 0 _ _ (0, 0) b1
  have k11 := cell_of_row _ _ 1 _ _ (0, 0) b1
  simp only [List.getElem?_toArray, List.getElem?_cons_zero, List.getElem?_cons_succ] at k00 k01 k10 k11
  have HC := Lib.hid (plus_does _ _ a b V ((g0.below hW).below hbV) ((g1.below hW).below hbV) f0 f1)
  have HV := Lib.hid (And.intro hbV hQ)
  clear h0 g0 f0 b0 h1 g1 f1 b1 hW hbV hQ
  go_enter Tryz.func111, Tryz.ntmps111
  go_upto_region 1 with fail
  rw [← hV]
  clear hV
  go_wp2_with fail
  refine HC.out.mono ?_
  rintro e w1 ⟨hb1, ⟨hf, v, rfl, hv⟩ | ⟨hf, rfl⟩⟩
  · obtain ⟨a', c', rfl, hu⟩ := AtI.form hv
    have BQ := (hb1.block _ (lt_of_block HV.out.2)).trans HV.out.2
    have f0 := frozen_of_row _ _ 0 _ _ BQ
    have f1 := frozen_of_row _ _ 1 _ _ BQ
    have g0 := cell_of_row _ _ 0 _ _ (0, 0) BQ
    have g1 := cell_of_row _ _ 1 _ _ (0, 0) BQ
    have HH := Lib.hid (And.intro hu (And.intro hb1 (And.intro BQ hf)))
    obtain ⟨l', hl'⟩ : ∃ l', l' = (Nl.limbs (a + b).natAbs).length := ⟨_, rfl⟩
    rw [← hl'] at HH ⊢
    obtain ⟨t, ht⟩ : ∃ t, t = negB (a + b) := ⟨_, rfl⟩
    rw [← ht]
    have HT := Lib.hid ht
    clear hv hu hb1 BQ HC hf hl' ht
    go_wp2_with fail
    refine bodyPost_ret (v := .agg #[.bool t, .slice a' l' c']) (results_cell_row Tryz.results111 _ _ W.heap.size 78 _ (0, 0) _ rfl (ibox_set _ _ HH.out.2.2.1) Tryz.underlying78 rfl (by kernel_rfl)) rfl ?_
    refine ⟨below_ibox (HV.out.1.trans (HH.out.2.1.mono HV.out.1.size)) (Nat.le_refl _) _ _, .inl ⟨codeI_fit HH.out.2.2.2, _, rfl, ?_⟩⟩
    rw [HT.out]
    exact AtI.mk (at_ibox _ _ HH.out.1 HH.out.2.2.1)
  · have hb := HV.out.1.trans (hb1.mono HV.out.1.size)
    first
      | exact ⟨rfl, hb, .inr ⟨by rw [codeI_no hf]; decide, by rw [codeI_no hf]⟩⟩
      | exact ⟨hb, .inr ⟨by rw [codeI_no hf]; decide, by rw [codeI_no hf]⟩⟩

set_option maxHeartbeats 1000000 in
theorem Mul_1_does (s0 : Bool) (p0 : Option Addr) (l0 c0 : Nat) (a : Int) (s1 : Bool) (p1 : Option Addr) (l1 c1 : Nat) (b : Int) (K : Nat) (w : World) (h0 : BoxI w (K) s0 p0 l0 c0) (g0 : IsI w (.agg #[.bool s0, .slice p0 l0 c0]) a) (f0 : fitI a) (h1 : BoxI w (K + 1) s1 p1 l1 c1) (g1 : IsI w (.agg #[.bool s1, .slice p1 l1 c1]) b) (f1 : fitI b) :
    IntDoes 134 #[.pointer (some ⟨K, 0, none⟩), .pointer (some ⟨K + 1, 0, none⟩)] w (codeI 0 (a * b)) (a * b) := by
  intro W hW
  obtain ⟨V, hV⟩ : ∃ V, V = W.alloc (.cells #[.bool false, .slice none 0 0] 78) := ⟨_, rfl⟩
  have hbV : Below W.heap.size W V := by rw [hV]; exact below_one W _
  have hQ : V.heap[W.heap.size]? = some (.cells #[.bool false, .slice none 0 0] 78 (0, 0)) := by rw [hV]; exact heap_alloc_new _ _
  have b0 := (hbV.block (K) (Nat.lt_of_lt_of_le (lt_of_block h0) hW.size)).trans ((hW.block (K) (lt_of_block h0)).trans h0)
  have k00 := cell_of_row _ _ 0 _ _ (0, 0) b0
  have k01 := cell_of_row _ _ 1 _ _ (0, 0) b0
  have b1 := (hbV.block (K + 1) (Nat.lt_of_lt_of_le (lt_of_block h1) hW.size)).trans ((hW.block (K + 1) (lt_of_block h1)).trans h1)
  have k10 := cell_of_row _ _ 0 _ _ (0, 0) b1
  have k11 := cell_of_row _ _ 1 _ _ (0, 0) b1
  simp only [List.getElem?_toArray, List.getElem?_cons_zero, List.getElem?_cons_succ] at k00 k01 k10 k11
  have HC := Lib.hid (times_does _ _ a b V ((g0.below hW).below hbV) ((g1.below hW).below hbV) f0 f1)
  have HV := Lib.hid (And.intro hbV hQ)
  clear h0 g0 f0 b0 h1 g1 f1 b1 hW hbV hQ
  go_enter Tryz.func134, Tryz.ntmps134
  go_upto_region 1 with fail
  rw [← hV]
  clear hV
  go_wp2_with fail
  refine HC.out.mono ?_
  rintro e w1 ⟨hb1, ⟨hf, v, rfl, hv⟩ | ⟨hf, rfl⟩⟩
  · obtain ⟨a', c', rfl, hu⟩ := AtI.form hv
    have BQ := (hb1.block _ (lt_of_block HV.out.2)).trans HV.out.2
    have f0 := frozen_of_row _ _ 0 _ _ BQ
    have f1 := frozen_of_row _ _ 1 _ _ BQ
    have g0 := cell_of_row _ _ 0 _ _ (0, 0) BQ
    have g1 := cell_of_row _ _ 1 _ _ (0, 0) BQ
    have HH := Lib.hid (And.intro hu (And.intro hb1 (And.intro BQ hf)))
    obtain ⟨l', hl'⟩ : ∃ l', l' = (Nl.limbs (a * b).natAbs).length := ⟨_, rfl⟩
    rw [← hl'] at HH ⊢
    obtain ⟨t, ht⟩ : ∃ t, t = negB (a * b) := ⟨_, rfl⟩
    rw [← ht]
    have HT := Lib.hid ht
    clear hv hu hb1 BQ HC hf hl' ht
    go_wp2_with fail
    refine bodyPost_ret (v := .agg #[.bool t, .slice a' l' c']) (results_cell_row Tryz.results134 _ _ W.heap.size 78 _ (0, 0) _ rfl (ibox_set _ _ HH.out.2.2.1) Tryz.underlying78 rfl (by kernel_rfl)) rfl ?_
    refine ⟨below_ibox (HV.out.1.trans (HH.out.2.1.mono HV.out.1.size)) (Nat.le_refl _) _ _, .inl ⟨codeI_fit HH.out.2.2.2, _, rfl, ?_⟩⟩
    rw [HT.out]
    exact AtI.mk (at_ibox _ _ HH.out.1 HH.out.2.2.1)
  · have hb := HV.out.1.trans (hb1.mono HV.out.1.size)
    first
      | exact ⟨rfl, hb, .inr ⟨by rw [codeI_no hf]; decide, by rw [codeI_no hf]⟩⟩
      | exact ⟨hb, .inr ⟨by rw [codeI_no hf]; decide, by rw [codeI_no hf]⟩⟩

set_option maxHeartbeats 1000000 in
theorem wholeAdd_any (v0 : Value) (s0 : Bool) (xs : List Nat) (v1 : Value) (s1 : Bool) (ys : List Nat) (w : World) (h0 : AtI w v0 s0 xs) (m0 : Nl.Small xs) (h1 : AtI w v1 s1 ys) (m1 : Nl.Small ys) :
    Calls Tryz.prog 50 #[v0, v1] w fun e w' => ResI w w' e (validI s0 xs && validI s1 ys) (sgn s0 (Nl.val xs) + sgn s1 (Nl.val ys)) := by
  have hmf : ∀ (fn : Fn) (first cap : Array Value) (w : World), (Instr.makeFunc fn first cap).run Tryz.prog w = .ok (.func fn first cap) w := fun _ _ _ _ => rfl
  obtain ⟨p0, c0, rfl, u0⟩ := h0.form
  obtain ⟨p1, c1, rfl, u1⟩ := h1.form
  obtain ⟨W, hW⟩ : ∃ W, W = (((w.alloc (.cells #[.bool s0, .slice p0 xs.length c0] 25)).alloc (.cells #[.bool s1, .slice p1 ys.length c1] 25)).alloc (.cells #[.bool false, .slice none 0 0] 25)).alloc (.cells #[.bool s0, .slice p0 xs.length c0, .bool s1, .slice p1 ys.length c1] 25) := ⟨_, rfl⟩
  have hb : Below w.heap.size w W := by rw [hW]; exact (((((Below.refl _ _).alloc (by simp <;> omega) _).alloc (by simp <;> omega) _).alloc (by simp <;> omega) _).alloc (by simp <;> omega) _)
  have hs : W.heap.size = w.heap.size + 4 := by rw [hW]; simp
  have B0 : W.heap[w.heap.size + 0]? = some (.cells #[.bool s0, .slice p0 xs.length c0] 25 (0, 0)) := by rw [hW]; exact al_keep _ _ (by simp <;> omega) (al_keep _ _ (by simp <;> omega) (al_keep _ _ (by simp <;> omega) (al_at _ _ (by simp))))
  have B1 : W.heap[w.heap.size + 1]? = some (.cells #[.bool s1, .slice p1 ys.length c1] 25 (0, 0)) := by rw [hW]; exact al_keep _ _ (by simp <;> omega) (al_keep _ _ (by simp <;> omega) (al_at _ _ (by simp)))
  have B2 : W.heap[w.heap.size + 2]? = some (.cells #[.bool false, .slice none 0 0] 25 (0, 0)) := by rw [hW]; exact al_keep _ _ (by simp <;> omega) (al_at _ _ (by simp))
  have B3 : W.heap[w.heap.size + 3]? = some (.cells #[.bool s0, .slice p0 xs.length c0, .bool s1, .slice p1 ys.length c1] 25 (0, 0)) := by rw [hW]; exact al_at _ _ (by simp)
  have HO := Lib.hid (ione_any 111 #[.pointer (some ⟨w.heap.size, 0, none⟩), .pointer (some ⟨w.heap.size + 1, 0, none⟩)] W (codeI 0 (sgn s0 (Nl.val xs) + sgn s1 (Nl.val ys))) (sgn s0 (Nl.val xs) + sgn s1 (Nl.val ys)) (w.heap.size + 3) [(s0, .slice p0 xs.length c0, xs), (s1, .slice p1 ys.length c1, ys)] (givenI_two (w.heap.size + 3) B3 (u0.below hb) (u1.below hb)) (by omega) (by simp) (fun hall => by
    have o0 := isI_of_ok (u0.below hb) m0 (hall (s0, .slice p0 xs.length c0, xs) (by simp))
    have o1 := isI_of_ok (u1.below hb) m1 (hall (s1, .slice p1 ys.length c1, ys) (by simp))
    exact Add_1_does _ _ _ _ _ _ _ _ _ _ w.heap.size W B0 o0.1 o0.2 B1 o1.1 o1.2) (fun _ _ => by kernel_rfl))
  have HB := Lib.hid (And.intro hb (And.intro hs B2))
  clear h0 u0 m0 h1 u1 m1 hb hs B0 B1 B2 B3
  go_enter Tryz.func50, Tryz.ntmps50
  go_wp2_with fail
  rw [← hW]
  clear hW
  refine HO.out.mono ?_
  rintro e w1 ⟨c, hc, ⟨v, rfl, h2, h3⟩, hb1⟩
  have hform : ∃ t p l cp, v = .agg #[.bool t, .slice p l cp] := by
    by_cases h0 : c = 0
    · obtain ⟨pp, cc, rfl, -⟩ := (h2 h0).form
      exact ⟨_, _, _, _, rfl⟩
    · rw [h3 h0]; exact ⟨_, _, _, _, rfl⟩
  obtain ⟨t, p, l, cp, rfl⟩ := hform
  have BQ := (hb1.block _ (lt_of_block HB.out.2.2)).trans HB.out.2.2
  have f0 := frozen_of_row _ _ 0 _ _ BQ
  have f1 := frozen_of_row _ _ 1 _ _ BQ
  have g0 := cell_of_row _ _ 0 _ _ (0, 0) BQ
  have g1 := cell_of_row _ _ 1 _ _ (0, 0) BQ
  have HR := Lib.hid (And.intro hc (And.intro h2 (And.intro h3 (And.intro hb1 BQ))))
  clear hc h2 h3 hb1 BQ HO
  go_wp2_with fail
  refine bodyPost_ret (v := .tuple #[.agg #[.bool t, .slice p l cp], .int .i64 c]) (results_int1 Tryz.results50 _ _ (w.heap.size + 2) _ _ rfl rfl (load_int (ibox_set (g := w.heap.size + 2) _ _ HR.out.2.2.2.2))) rfl ?_
  refine ⟨c, ?_, ⟨_, rfl, fun h0 => ?_, HR.out.2.2.1⟩, below_ibox (HB.out.1.trans (HR.out.2.2.2.1.mono HB.out.1.size)) (g := w.heap.size + 2) (by omega) _ _⟩
  · rcases HR.out.1 with ⟨hall, h1⟩ | ⟨⟨q, hq, h5⟩, h1⟩
    · rw [h1, codeI_twice, if_pos (by rw [Bool.and_eq_true]; exact ⟨hall (s0, .slice p0 xs.length c0, xs) (by simp), hall (s1, .slice p1 ys.length c1, ys) (by simp)⟩)]
    · rw [h1, if_neg]
      intro hok
      rw [Bool.and_eq_true] at hok; simp only [List.mem_cons, List.not_mem_nil, or_false] at hq; rcases hq with rfl | rfl; exact Bool.noConfusion (h5.symm.trans hok.1); exact Bool.noConfusion (h5.symm.trans hok.2)
  · obtain ⟨u, hu1, hu2⟩ := HR.out.2.1 h0
    simp only [Value.agg.injEq, Array.mk.injEq, List.cons.injEq, Value.bool.injEq, and_true] at hu1
    obtain ⟨rfl, rfl⟩ := hu1
    exact AtI.mk (at_ibox (g := w.heap.size + 2) _ _ hu2 HR.out.2.2.2.2)

set_option maxHeartbeats 1000000 in
theorem wholeMul_any (v0 : Value) (s0 : Bool) (xs : List Nat) (v1 : Value) (s1 : Bool) (ys : List Nat) (w : World) (h0 : AtI w v0 s0 xs) (m0 : Nl.Small xs) (h1 : AtI w v1 s1 ys) (m1 : Nl.Small ys) :
    Calls Tryz.prog 73 #[v0, v1] w fun e w' => ResI w w' e (validI s0 xs && validI s1 ys) (sgn s0 (Nl.val xs) * sgn s1 (Nl.val ys)) := by
  have hmf : ∀ (fn : Fn) (first cap : Array Value) (w : World), (Instr.makeFunc fn first cap).run Tryz.prog w = .ok (.func fn first cap) w := fun _ _ _ _ => rfl
  obtain ⟨p0, c0, rfl, u0⟩ := h0.form
  obtain ⟨p1, c1, rfl, u1⟩ := h1.form
  obtain ⟨W, hW⟩ : ∃ W, W = (((w.alloc (.cells #[.bool s0, .slice p0 xs.length c0] 25)).alloc (.cells #[.bool s1, .slice p1 ys.length c1] 25)).alloc (.cells #[.bool false, .slice none 0 0] 25)).alloc (.cells #[.bool s0, .slice p0 xs.length c0, .bool s1, .slice p1 ys.length c1] 25) := ⟨_, rfl⟩
  have hb : Below w.heap.size w W := by rw [hW]; exact (((((Below.refl _ _).alloc (by simp <;> omega) _).alloc (by simp <;> omega) _).alloc (by simp <;> omega) _).alloc (by simp <;> omega) _)
  have hs : W.heap.size = w.heap.size + 4 := by rw [hW]; simp
  have B0 : W.heap[w.heap.size + 0]? = some (.cells #[.bool s0, .slice p0 xs.length c0] 25 (0, 0)) := by rw [hW]; exact al_keep _ _ (by simp <;> omega) (al_keep _ _ (by simp <;> omega) (al_keep _ _ (by simp <;> omega) (al_at _ _ (by simp))))
  have B1 : W.heap[w.heap.size + 1]? = some (.cells #[.bool s1, .slice p1 ys.length c1] 25 (0, 0)) := by rw [hW]; exact al_keep _ _ (by simp <;> omega) (al_keep _ _ (by simp <;> omega) (al_at _ _ (by simp)))
  have B2 : W.heap[w.heap.size + 2]? = some (.cells #[.bool false, .slice none 0 0] 25 (0, 0)) := by rw [hW]; exact al_keep _ _ (by simp <;> omega) (al_at _ _ (by simp))
  have B3 : W.heap[w.heap.size + 3]? = some (.cells #[.bool s0, .slice p0 xs.length c0, .bool s1, .slice p1 ys.length c1] 25 (0, 0)) := by rw [hW]; exact al_at _ _ (by simp)
  have HO := Lib.hid (ione_any 134 #[.pointer (some ⟨w.heap.size, 0, none⟩), .pointer (some ⟨w.heap.size + 1, 0, none⟩)] W (codeI 0 (sgn s0 (Nl.val xs) * sgn s1 (Nl.val ys))) (sgn s0 (Nl.val xs) * sgn s1 (Nl.val ys)) (w.heap.size + 3) [(s0, .slice p0 xs.length c0, xs), (s1, .slice p1 ys.length c1, ys)] (givenI_two (w.heap.size + 3) B3 (u0.below hb) (u1.below hb)) (by omega) (by simp) (fun hall => by
    have o0 := isI_of_ok (u0.below hb) m0 (hall (s0, .slice p0 xs.length c0, xs) (by simp))
    have o1 := isI_of_ok (u1.below hb) m1 (hall (s1, .slice p1 ys.length c1, ys) (by simp))
    exact Mul_1_does _ _ _ _ _ _ _ _ _ _ w.heap.size W B0 o0.1 o0.2 B1 o1.1 o1.2) (fun _ _ => by kernel_rfl))
  have HB := Lib.hid (And.intro hb (And.intro hs B2))
  clear h0 u0 m0 h1 u1 m1 hb hs B0 B1 B2 B3
  go_enter Tryz.func73, Tryz.ntmps73
  go_wp2_with fail
  rw [← hW]
  clear hW
  refine HO.out.mono ?_
  rintro e w1 ⟨c, hc, ⟨v, rfl, h2, h3⟩, hb1⟩
  have hform : ∃ t p l cp, v = .agg #[.bool t, .slice p l cp] := by
    by_cases h0 : c = 0
    · obtain ⟨pp, cc, rfl, -⟩ := (h2 h0).form
      exact ⟨_, _, _, _, rfl⟩
    · rw [h3 h0]; exact ⟨_, _, _, _, rfl⟩
  obtain ⟨t, p, l, cp, rfl⟩ := hform
  have BQ := (hb1.block _ (lt_of_block HB.out.2.2)).trans HB.out.2.2
  have f0 := frozen_of_row _ _ 0 _ _ BQ
  have f1 := frozen_of_row _ _ 1 _ _ BQ
  have g0 := cell_of_row _ _ 0 _ _ (0, 0) BQ
  have g1 := cell_of_row _ _ 1 _ _ (0, 0) BQ
  have HR := Lib.hid (And.intro hc (And.intro h2 (And.intro h3 (And.intro hb1 BQ))))
  clear hc h2 h3 hb1 BQ HO
  go_wp2_with fail
  refine bodyPost_ret (v := .tuple #[.agg #[.bool t, .slice p l cp], .int .i64 c]) (results_int1 Tryz.results73 _ _ (w.heap.size + 2) _ _ rfl rfl (load_int (ibox_set (g := w.heap.size + 2) _ _ HR.out.2.2.2.2))) rfl ?_
  refine ⟨c, ?_, ⟨_, rfl, fun h0 => ?_, HR.out.2.2.1⟩, below_ibox (HB.out.1.trans (HR.out.2.2.2.1.mono HB.out.1.size)) (g := w.heap.size + 2) (by omega) _ _⟩
  · rcases HR.out.1 with ⟨hall, h1⟩ | ⟨⟨q, hq, h5⟩, h1⟩
    · rw [h1, codeI_twice, if_pos (by rw [Bool.and_eq_true]; exact ⟨hall (s0, .slice p0 xs.length c0, xs) (by simp), hall (s1, .slice p1 ys.length c1, ys) (by simp)⟩)]
    · rw [h1, if_neg]
      intro hok
      rw [Bool.and_eq_true] at hok; simp only [List.mem_cons, List.not_mem_nil, or_false] at hq; rcases hq with rfl | rfl; exact Bool.noConfusion (h5.symm.trans hok.1); exact Bool.noConfusion (h5.symm.trans hok.2)
  · obtain ⟨u, hu1, hu2⟩ := HR.out.2.1 h0
    simp only [Value.agg.injEq, Array.mk.injEq, List.cons.injEq, Value.bool.injEq, and_true] at hu1
    obtain ⟨rfl, rfl⟩ := hu1
    exact AtI.mk (at_ibox (g := w.heap.size + 2) _ _ hu2 HR.out.2.2.2.2)

end Go.Proofs.YtkbghamkalidcaaGreat
