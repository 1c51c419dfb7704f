/-
  What ToInt, Sign and Cmp of package whole do. Written by wip/tool/gencnt.py. Conditions: those that each theorem names.
  What commonDivisor of package whole does. Written by wip/tool/gencz.py. Conditions: those that each theorem names.
-/
import Derived.Test.YtkbghamkalidcaaGreatWholeOps
import Derived.Test.YtkbghamkalidcaaGreatCommonG
namespace Go.Proofs.YtkbghamkalidcaaGreat
open Go.RowKit

end Go.Proofs.YtkbghamkalidcaaGreat

namespace Go.Proofs.YtkbghamkalidcaaGreat
open Go.RowKit

/-- where Euclid's algorithm ends -/
theorem eros_ends (a b : Nat) : ∃ N, (eros a b (N + 1)).1 = 0 ∧ ∀ j, j < N → (eros a b (j + 1)).1 ≠ 0 := by
  have main : ∀ m i, (∀ j, j < i → (eros a b (j + 1)).1 ≠ 0) → (eros a b (i + 1)).1 ≤ m → ∃ N, (eros a b (N + 1)).1 = 0 ∧ ∀ j, j < N → (eros a b (j + 1)).1 ≠ 0 := by
    intro m
    induction m with
    | zero => exact fun i h hm => ⟨i, by omega, h⟩
    | succ m ih =>
      intro i h hm
      by_cases h0 : (eros a b (i + 1)).1 = 0
      · exact ⟨i, h0, h⟩
      · have h1 : (eros a b (i + 2)).1 < (eros a b (i + 1)).1 := by rw [eros_rest]; exact Nat.mod_lt _ (Nat.pos_of_ne_zero h0)
        refine ih (i + 1) (fun j hj => ?_) (by rw [show i + 1 + 1 = i + 2 from rfl]; omega)
        rcases Nat.lt_or_eq_of_le (Nat.le_of_lt_succ hj) with h2 | h2
        · exact h j h2
        · rw [h2]; exact h0
  exact main _ 0 (fun j hj => absurd hj (Nat.not_lt_zero j)) (Nat.le_refl _)
theorem ends_same {a b N M : Nat} (h : (eros a b (N + 1)).1 = 0) (h' : ∀ j, j < N → (eros a b (j + 1)).1 ≠ 0) (k : (eros a b (M + 1)).1 = 0) (k' : ∀ j, j < M → (eros a b (j + 1)).1 ≠ 0) : N = M := by
  rcases Nat.lt_trichotomy N M with h1 | h1 | h1
  · exact absurd h (k' N h1)
  · exact h1
  · exact absurd k (h' M h1)
noncomputable def endN (a b : Nat) : Nat := Classical.choose (eros_ends a b)
theorem endN_spec (a b : Nat) : (eros a b (endN a b + 1)).1 = 0 ∧ ∀ j, j < endN a b → (eros a b (j + 1)).1 ≠ 0 := Classical.choose_spec (eros_ends a b)
noncomputable def rowL (a b : Nat) : ERow := eros a b (endN a b)
noncomputable def rowE (a b : Nat) : ERow := eros a b (endN a b + 1)
noncomputable def rowT (a b : Nat) : Bool := decide (endN a b % 2 = 1)
/-- what the two last rows say -/
theorem row_facts (a b : Nat) (hb : b ≠ 0) : 0 < (rowL a b).1 ∧ a = (rowL a b).1 * (rowE a b).2.2 ∧ b = (rowL a b).1 * (rowE a b).2.1 ∧ (rowL a b).2.1 < (rowE a b).2.1 ∧
    ((rowL a b).1 : Int) = (if rowT a b = true then -1 else 1) * (((rowL a b).2.1 : Int) * a - ((rowL a b).2.2 : Int) * b) := by
  obtain ⟨h1, h2⟩ := endN_spec a b
  obtain ⟨s1, s2⟩ := eros_sums a b (endN a b)
  obtain ⟨g1, -⟩ := eros_signs a b (endN a b)
  rw [h1] at s1 s2
  unfold rowL rowE rowT
  have hN : endN a b ≠ 0 := fun h0 => hb (by rw [h0] at h1; exact h1)
  obtain ⟨i, hi⟩ : ∃ i, endN a b = i + 1 := ⟨endN a b - 1, by omega⟩
  rw [hi] at h1 h2 s1 s2 g1 ⊢
  have hpos : (eros a b (i + 1)).1 ≠ 0 := h2 i (by omega)
  obtain ⟨k1, k2, k3, k4⟩ := eros_grow a b i h2
  rw [show i + 1 + 1 = i + 2 from rfl] at *
  refine ⟨Nat.pos_of_ne_zero hpos, by omega, by omega, ?_, ?_⟩
  · rcases Nat.lt_or_eq_of_le k2 with h | h
    · exact h
    · exact absurd h1 (k4 h)
  · rw [g1]
    unfold esg
    by_cases h : (i + 1) % 2 = 1
    · rw [if_pos h, if_pos (decide_eq_true h)]
    · rw [if_neg h, if_neg (by rw [decide_eq_false h]; decide)]
/-- the greatest common divisor, and its factors, for a second number other than 0 -/
noncomputable def gG (a b : Int) : Int := ((rowL a.natAbs b.natAbs).1 : Int)
noncomputable def gX (a b : Int) : Int := cdX (rowT a.natAbs b.natAbs) (negB a) (rowL a.natAbs b.natAbs) (rowE a.natAbs b.natAbs)
noncomputable def gY (a b : Int) : Int := cdY (rowT a.natAbs b.natAbs) (negB a) (negB b) (rowL a.natAbs b.natAbs) (rowE a.natAbs b.natAbs)
theorem sgn_neg_abs (a : Int) : a = sgn (negB a) a.natAbs := by
  unfold sgn negB
  by_cases h : a < 0
  · rw [decide_eq_true h, if_pos rfl]; omega
  · rw [decide_eq_false h, if_neg (by decide)]; omega
theorem g_facts (a b : Int) (hb : b ≠ 0) : 0 < gG a b ∧ a * gX a b + b * gY a b = gG a b ∧ gG a b ∣ a ∧ gG a b ∣ b ∧ 0 ≤ gX a b ∧ gX a b * gG a b < b.natAbs := by
  obtain ⟨h0, h1, h2, h3, h4⟩ := row_facts a.natAbs b.natAbs (by omega)
  have ea := sgn_neg_abs a
  have eb := sgn_neg_abs b
  unfold gG gX gY cdX cdY cdNeg
  generalize rowT a.natAbs b.natAbs = t at *
  generalize rowL a.natAbs b.natAbs = R at *
  generalize rowE a.natAbs b.natAbs = S at *
  obtain ⟨r, x, y⟩ := R
  obtain ⟨z, u, v⟩ := S
  simp only at *
  generalize negB a = s at *
  generalize negB b = q at *
  generalize ha : a.natAbs = A at *
  generalize hbb : b.natAbs = B at *
  have e1 : (A : Int) = (r : Int) * v := by rw [h1]; push_cast; rfl
  have e2 : (B : Int) = (r : Int) * u := by rw [h2]; push_cast; rfl
  have pu : (x : Int) * r < B := by
    have h5 : (x : Int) * r < (u : Int) * r := Int.mul_lt_mul_of_pos_right (by omega) (by omega)
    rw [e2, Int.mul_comm (r : Int)]; exact h5
  have px : 0 ≤ (x : Int) * r := Int.mul_nonneg (by omega) (by omega)
  have pB : (0 : Int) < B := by omega
  have px' : 0 < x → 0 < (x : Int) * r := fun h => Int.mul_pos (by omega) (by omega)
  have eu : ((u : Int) - x) * r = B - x * r := by rw [e2]; grind
  subst ea
  subst eb
  refine ⟨by omega, ?_, ?_, ?_, ?_, ?_⟩
  · cases t <;> cases s <;> cases q <;> simp [sgn] at h4 ⊢ <;> (try split) <;> grind
  · cases s <;> simp only [sgn] <;> simp <;> rw [e1] <;> exact Int.dvd_mul_right _ _
  · cases q <;> simp only [sgn] <;> simp <;> rw [e2] <;> exact Int.dvd_mul_right _ _
  · cases t <;> cases s <;> simp [sgn] <;> (try split) <;> omega
  · have eu' : (-(x : Int) + u) * r = B - x * r := by rw [e2]; grind
    have z0 : (x : Int) = 0 → (x : Int) * r = 0 := fun h => by rw [h, Int.zero_mul]
    cases t <;> cases s <;> simp [sgn] <;> (try split) <;> (first | omega | (rename_i h; have := px' h; omega) | (rename_i h; have := z0 (by omega); grind))

theorem euclid_at (va vb : Value) (a b : Nat) (w : World) (ha : At w va (Nl.limbs a)) (hb : At w vb (Nl.limbs b)) (la : (Nl.limbs a).length ≤ 50) (lb : (Nl.limbs b).length ≤ 50) :
    Calls Tryz.prog 137 #[va, vb] w fun e w' => EucOut w w' e (rowL a b) (rowE a b) (rowT a b) := by
  refine (euclid_gen va vb a b w ha hb la lb).mono ?_
  rintro e w' ⟨N, h, h1, h2⟩
  have hN := ends_same h1 h2 (endN_spec a b).1 (endN_spec a b).2
  rw [hN] at h
  exact h
theorem at_ofI {w : World} {s : Bool} {v : Value} {xs : List Nat} (h : AtI w (.agg #[.bool s, v]) s xs) : At w v xs := by
  obtain ⟨u, e, hu⟩ := h
  simp only [Value.agg.injEq, Array.mk.injEq, List.cons.injEq, true_and, and_true] at e
  rw [e]; exact hu
theorem isI_nilI (w : World) : IsI w (.agg #[.bool false, .slice none 0 0]) 0 := ⟨_, rfl, .inl ⟨rfl, Nl.limbs_zero⟩⟩
theorem sgnI_small (a : Int) : isInt (sgnI a) := by unfold isInt sgnI; split <;> (try split) <;> decide

set_option maxRecDepth 10000 in
set_option maxHeartbeats 8000000 in
theorem common_zero (a : Int) (p0 p1 : Option Addr) (c0 c1 : Nat) (w : World) (ha : IsI w (.agg #[.bool (negB a), .slice p0 (Nl.limbs a.natAbs).length c0]) a) :
    Calls Tryz.prog 77 #[.agg #[.bool (negB a), .slice p0 (Nl.limbs a.natAbs).length c0], .agg #[.bool false, .slice p1 0 c1]] w fun e w' =>
      (∃ u v y, e = .returned (.tuple #[u, v, y]) ∧ IsI w' u (a.natAbs : Int) ∧ IsI w' v (sgnI a) ∧ IsI w' y 0) ∧ Below w.heap.size w w' := by
  obtain ⟨K, hK⟩ : ∃ K, K = w.heap.size := ⟨_, rfl⟩
  have HA0 := Lib.hid ha
  clear ha
  obtain ⟨s0, hs0⟩ : ∃ s, s = negB a := ⟨_, rfl⟩
  obtain ⟨l0, hl0⟩ : ∃ l, l = (Nl.limbs a.natAbs).length := ⟨_, rfl⟩
  rw [← hs0, ← hl0] at HA0 ⊢
  have HSL := Lib.hid (And.intro hs0 hl0)
  clear hs0 hl0
  obtain ⟨W, hW⟩ : ∃ W, W = ((((w.alloc (.cells #[.bool s0, .slice p0 l0 c0] 78)).alloc (.cells #[.bool false, .slice p1 0 c1] 78)).alloc (.cells #[.bool false, .slice none 0 0] 78)).alloc (.cells #[.bool false, .slice none 0 0] 78)).alloc (.cells #[.bool false, .slice none 0 0] 78) := ⟨_, rfl⟩
  have hb : Below w.heap.size w W := by rw [hW]; exact ((three_new w _ _ _).alloc (by simp <;> omega) _).alloc (by simp <;> omega) _
  have B0 : W.heap[K]? = some (.cells #[.bool s0, .slice p0 l0 c0] 78 (0, 0)) := by rw [hW, hK]; exact al_keep _ _ (by simp <;> omega) (al_keep _ _ (by simp <;> omega) (al_keep _ _ (by simp <;> omega) (al_keep _ _ (by simp <;> omega) (al_at _ _ (by simp)))))
  have B1 : W.heap[K + 1]? = some (.cells #[.bool false, .slice p1 0 c1] 78 (0, 0)) := by rw [hW, hK]; exact al_keep _ _ (by simp <;> omega) (al_keep _ _ (by simp <;> omega) (al_keep _ _ (by simp <;> omega) (al_at _ _ (by simp))))
  have B2 : W.heap[K + 1 + 1]? = some (.cells #[.bool false, .slice none 0 0] 78 (0, 0)) := by rw [hW, hK]; exact al_keep _ _ (by simp <;> omega) (al_keep _ _ (by simp <;> omega) (al_at _ _ (by simp)))
  have B3 : W.heap[K + 1 + 1 + 1]? = some (.cells #[.bool false, .slice none 0 0] 78 (0, 0)) := by rw [hW, hK]; exact al_keep _ _ (by simp <;> omega) (al_at _ _ (by simp))
  have B4 : W.heap[K + 1 + 1 + 1 + 1]? = some (.cells #[.bool false, .slice none 0 0] 78 (0, 0)) := by rw [hW, hK]; exact al_at _ _ (by simp)
  have ka0 := cell_of_row _ _ 0 _ _ (0, 0) B0
  have ka1 := cell_of_row _ _ 1 _ _ (0, 0) B0
  simp only [List.getElem?_toArray, List.getElem?_cons_zero, List.getElem?_cons_succ] at ka0 ka1
  have kb0 := cell_of_row _ _ 0 _ _ (0, 0) B1
  have kb1 := cell_of_row _ _ 1 _ _ (0, 0) B1
  simp only [List.getElem?_toArray, List.getElem?_cons_zero, List.getElem?_cons_succ] at kb0 kb1
  have HB := Lib.hid (And.intro hb (And.intro B0 (And.intro B2 (And.intro B3 B4))))
  have dr : Below W.heap.size W W.drew := below_drewN W 1 _
  have HS := Lib.hid (isign_any _ a W.drew ((HA0.out.below hb).below dr))
  have HF := Lib.hid (fun (w3 : World) => fromInt_any (sgnI a) w3 (sgnI_small a))
  have HAW := Lib.hid (HA0.out.below hb)
  clear hb B0 B1 B2 B3 B4 dr HA0
  go_enter Tryz.func77, Tryz.ntmps77
  go_upto_region 1 with fail
  rw [← hW, ← hK]
  have HK := Lib.hid hK
  clear hW hK
  go_wp2_with fail
  clear ka0 ka1 kb0 kb1
  obtain ⟨-, X0, X2, X3, X4⟩ := HB.out
  refine wp_region_until [(9, K, .cells #[.bool s0, .slice p0 l0 c0] 78 (0, 0))] (by kernel_rfl) (until_cons (fun _ => X0) until_nil) (fun hU => ?_)
  refine wpU_take (i := 0) (v := ?_) [] rfl (by kernel_rfl) (by kernel_rfl) (by kernel_rfl) (by kernel_rfl) (by kernel_rfl) (fun _ _ _ h => h) (Or.inl ⟨by rfl, ?_⟩) hU (fun hU0 => ?_)
  rotate_left
  · intro w hSw
    go_simp
    try (with_reducible rfl)
  clear hU
  try simp only [Act.put, List.setIfInBounds_toArray]
  refine wpU_take (i := 1) (v := ?_) [9] rfl (by kernel_rfl) (by kernel_rfl) (by kernel_rfl) (by kernel_rfl) (by kernel_rfl) (fun _ _ _ h => h) (Or.inl ⟨by rfl, ?_⟩) hU0 (fun hU1 => ?_)
  rotate_left
  · intro w hSw
    have e := hSw.fst (by decide)
    have e0 := cell_of_row _ _ 0 _ _ (0, 0) e
    have e1 := cell_of_row _ _ 1 _ _ (0, 0) e
    simp only [List.getElem?_toArray, List.getElem?_cons_zero, List.getElem?_cons_succ] at e0 e1
    go_simp
    try (with_reducible rfl)
  clear hU0
  try simp only [Act.put]
  refine wpU_take (i := 2) (v := ?_) [] rfl (by kernel_rfl) (by kernel_rfl) (by kernel_rfl) (by kernel_rfl) (by kernel_rfl) (fun _ _ _ h => h) (Or.inl ⟨by rfl, ?_⟩) hU1 (fun hU2 => ?_)
  rotate_left
  · intro w hSw
    go_simp
    try (with_reducible rfl)
  clear hU1
  try simp only [Act.put]
  refine wpU_take (i := 3) (v := ?_) [9] rfl (by kernel_rfl) (by kernel_rfl) (by kernel_rfl) (by kernel_rfl) (by kernel_rfl) (fun _ _ _ h => h) (Or.inl ⟨by rfl, ?_⟩) hU2 (fun hU3 => ?_)
  rotate_left
  · intro w hSw
    have e := hSw.fst (by decide)
    have e0 := cell_of_row _ _ 0 _ _ (0, 0) e
    have e1 := cell_of_row _ _ 1 _ _ (0, 0) e
    simp only [List.getElem?_toArray, List.getElem?_cons_zero, List.getElem?_cons_succ] at e0 e1
    go_simp
    try (with_reducible rfl)
  clear hU2
  try simp only [Act.put]
  refine wpU_take (i := 6) (v := ?_) [] rfl (by kernel_rfl) (by kernel_rfl) (by kernel_rfl) (by kernel_rfl) (by kernel_rfl) (fun _ _ _ h => h) (Or.inl ⟨by rfl, ?_⟩) hU3 (fun hU6 => ?_)
  rotate_left
  · intro w hSw
    go_simp
    try (with_reducible rfl)
  clear hU3
  try simp only [Act.put]
  refine wpU_next (i := 4) (by kernel_rfl) rfl (fun N hN => ?_)
  go_simp
  go_at_call 136
  refine HS.out.mono ?_
  rintro e w3 ⟨rfl, hb3⟩
  replace X0 := (hb3.block _ (lt_of_block X0)).trans X0
  replace X2 := (hb3.block _ (lt_of_block X2)).trans X2
  replace X3 := (hb3.block _ (lt_of_block X3)).trans X3
  replace X4 := (hb3.block _ (lt_of_block X4)).trans X4
  refine hN.out _ _ (until_cons (fun _ => X0) until_nil) (fun hU4 => ?_)
  clear hN N hU6 HS
  try simp only [Act.put, List.setIfInBounds_toArray, List.set_cons_zero, List.set_cons_succ]
  refine wpU_next (i := 5) (by kernel_rfl) rfl (fun N hN => ?_)
  go_simp
  go_at_call 52
  refine (HF.out w3).mono ?_
  rintro e w4 ⟨⟨v4, rfl, hv4⟩, hb4⟩
  obtain ⟨p4, c4, rfl, -⟩ := AtI.form hv4
  obtain ⟨s4, hs4⟩ : ∃ s, s = negB (sgnI a) := ⟨_, rfl⟩
  obtain ⟨l4, hl4⟩ : ∃ l, l = (Nl.limbs (sgnI a).natAbs).length := ⟨_, rfl⟩
  rw [← hs4, ← hl4] at hv4 ⊢
  clear hs4 hl4
  replace X0 := (hb4.block _ (lt_of_block X0)).trans X0
  replace X2 := (hb4.block _ (lt_of_block X2)).trans X2
  replace X3 := (hb4.block _ (lt_of_block X3)).trans X3
  replace X4 := (hb4.block _ (lt_of_block X4)).trans X4
  refine hN.out _ _ (until_cons (fun _ => X0) until_nil) (fun hU5 => ?_)
  clear hN N hU4 hU5 HF
  try simp only [Act.put, List.setIfInBounds_toArray, List.set_cons_zero, List.set_cons_succ]
  have hb04 : Below W.heap.size W w4 := (below_drewN W 1 _).trans ((hb3.trans (hb4.mono hb3.size)).mono (Nat.le_refl _))
  have H4 := Lib.hid (And.intro hv4 (And.intro (HAW.out.below hb04) (HB.out.1.trans (hb04.mono HB.out.1.size))))
  clear hv4 hb3 hb4 hb04 HB HAW
  have kx0 := cell_of_row _ _ 0 _ _ (0, 0) X2
  have kx1 := cell_of_row _ _ 1 _ _ (0, 0) X2
  simp only [List.getElem?_toArray, List.getElem?_cons_zero, List.getElem?_cons_succ] at kx0 kx1
  have fkx0 := frozen_of_row _ _ 0 _ _ X2
  have fkx1 := frozen_of_row _ _ 1 _ _ X2
  refine wpU_next (i := 7) (by kernel_rfl) rfl (fun N hN => ?_)
  go_simp
  refine hN.out _ _ (until_cons (fun _ => (box_other _ _ (by omega)).trans X0) until_nil) (fun hU7 => ?_)
  clear hN N hU7 kx0 kx1 fkx0 fkx1
  try simp only [Act.put, List.setIfInBounds_toArray, List.set_cons_zero, List.set_cons_succ]
  obtain ⟨V1, hV1⟩ : ∃ V1, V1 = (w4.setCell ⟨K + 1 + 1, 0, none⟩ (.bool false)).setCell ⟨K + 1 + 1, 1, none⟩ (.slice p0 l0 c0) := ⟨_, rfl⟩
  rw [← hV1]
  have X0' := (show V1.heap[K]? = w4.heap[K]? by rw [hV1]; exact box_other _ _ (by omega)).trans X0
  have X2' := (show V1.heap[K + 1 + 1]? = some (.cells #[(.bool false), (.slice p0 l0 c0)] 78 (0, 0)) by rw [hV1]; exact ibox_set (g := K + 1 + 1) (.bool false) (.slice p0 l0 c0) X2)
  have X3' := (show V1.heap[K + 1 + 1 + 1]? = w4.heap[K + 1 + 1 + 1]? by rw [hV1]; exact box_other _ _ (by omega)).trans X3
  have X4' := (show V1.heap[K + 1 + 1 + 1 + 1]? = w4.heap[K + 1 + 1 + 1 + 1]? by rw [hV1]; exact box_other _ _ (by omega)).trans X4
  have mvV1 : ∀ {v : Value} {n : Int}, IsI w4 v n → IsI V1 v n := fun h => by rw [hV1]; obtain ⟨u, e, hu⟩ := h; exact ⟨u, e, at_ibox (g := K + 1 + 1) _ _ hu X2⟩
  have B1 : Below w.heap.size w V1 := by rw [hV1]; exact below_ibox (g := K + 1 + 1) H4.out.2.2 (by rw [← HK.out]; omega) _ _
  clear X0 X2 X3 X4
  have X0 := X0'
  have X2 := X2'
  have X3 := X3'
  have X4 := X4'
  clear X0' X2' X3' X4' hV1
  have kx0 := cell_of_row _ _ 0 _ _ (0, 0) X3
  have kx1 := cell_of_row _ _ 1 _ _ (0, 0) X3
  simp only [List.getElem?_toArray, List.getElem?_cons_zero, List.getElem?_cons_succ] at kx0 kx1
  have fkx0 := frozen_of_row _ _ 0 _ _ X3
  have fkx1 := frozen_of_row _ _ 1 _ _ X3
  refine wpU_next (i := 8) (by kernel_rfl) rfl (fun N hN => ?_)
  go_simp
  refine hN.out _ _ (until_cons (fun _ => (box_other _ _ (by omega)).trans X0) until_nil) (fun hU8 => ?_)
  clear hN N hU8 kx0 kx1 fkx0 fkx1
  try simp only [Act.put, List.setIfInBounds_toArray, List.set_cons_zero, List.set_cons_succ]
  obtain ⟨V2, hV2⟩ : ∃ V2, V2 = (V1.setCell ⟨K + 1 + 1 + 1, 0, none⟩ (.bool s4)).setCell ⟨K + 1 + 1 + 1, 1, none⟩ (.slice p4 l4 c4) := ⟨_, rfl⟩
  rw [← hV2]
  have X0' := (show V2.heap[K]? = V1.heap[K]? by rw [hV2]; exact box_other _ _ (by omega)).trans X0
  have X2' := (show V2.heap[K + 1 + 1]? = V1.heap[K + 1 + 1]? by rw [hV2]; exact box_other _ _ (by omega)).trans X2
  have X3' := (show V2.heap[K + 1 + 1 + 1]? = some (.cells #[(.bool s4), (.slice p4 l4 c4)] 78 (0, 0)) by rw [hV2]; exact ibox_set (g := K + 1 + 1 + 1) (.bool s4) (.slice p4 l4 c4) X3)
  have X4' := (show V2.heap[K + 1 + 1 + 1 + 1]? = V1.heap[K + 1 + 1 + 1 + 1]? by rw [hV2]; exact box_other _ _ (by omega)).trans X4
  have mvV2 : ∀ {v : Value} {n : Int}, IsI V1 v n → IsI V2 v n := fun h => by rw [hV2]; obtain ⟨u, e, hu⟩ := h; exact ⟨u, e, at_ibox (g := K + 1 + 1 + 1) _ _ hu X3⟩
  have B2 : Below w.heap.size w V2 := by rw [hV2]; exact below_ibox (g := K + 1 + 1 + 1) B1 (by rw [← HK.out]; omega) _ _
  clear X0 X2 X3 X4
  have X0 := X0'
  have X2 := X2'
  have X3 := X3'
  have X4 := X4'
  clear X0' X2' X3' X4' hV2
  have kx0 := cell_of_row _ _ 0 _ _ (0, 0) X4
  have kx1 := cell_of_row _ _ 1 _ _ (0, 0) X4
  simp only [List.getElem?_toArray, List.getElem?_cons_zero, List.getElem?_cons_succ] at kx0 kx1
  have fkx0 := frozen_of_row _ _ 0 _ _ X4
  have fkx1 := frozen_of_row _ _ 1 _ _ X4
  refine wpU_next (i := 9) (by kernel_rfl) rfl (fun N hN => ?_)
  go_simp
  refine hN.out _ _ (until_cons (until_past (by kernel_rfl)) until_nil) (fun hU9 => ?_)
  clear hN N hU9 kx0 kx1 fkx0 fkx1
  try simp only [Act.put, List.setIfInBounds_toArray, List.set_cons_zero, List.set_cons_succ]
  refine wpU_done (by kernel_rfl) ?_ _
  obtain ⟨V3, hV3⟩ : ∃ V3, V3 = (V2.setCell ⟨K + 1 + 1 + 1 + 1, 0, none⟩ (.bool false)).setCell ⟨K + 1 + 1 + 1 + 1, 1, none⟩ (.slice none 0 0) := ⟨_, rfl⟩
  rw [← hV3]
  have X0' := (show V3.heap[K]? = V2.heap[K]? by rw [hV3]; exact box_other _ _ (by omega)).trans X0
  have X2' := (show V3.heap[K + 1 + 1]? = V2.heap[K + 1 + 1]? by rw [hV3]; exact box_other _ _ (by omega)).trans X2
  have X3' := (show V3.heap[K + 1 + 1 + 1]? = V2.heap[K + 1 + 1 + 1]? by rw [hV3]; exact box_other _ _ (by omega)).trans X3
  have X4' := (show V3.heap[K + 1 + 1 + 1 + 1]? = some (.cells #[(.bool false), (.slice none 0 0)] 78 (0, 0)) by rw [hV3]; exact ibox_set (g := K + 1 + 1 + 1 + 1) (.bool false) (.slice none 0 0) X4)
  have mvV3 : ∀ {v : Value} {n : Int}, IsI V2 v n → IsI V3 v n := fun h => by rw [hV3]; obtain ⟨u, e, hu⟩ := h; exact ⟨u, e, at_ibox (g := K + 1 + 1 + 1 + 1) _ _ hu X4⟩
  have B3 : Below w.heap.size w V3 := by rw [hV3]; exact below_ibox (g := K + 1 + 1 + 1 + 1) B2 (by rw [← HK.out]; omega) _ _
  clear X0 X2 X3 X4
  have X0 := X0'
  have X2 := X2'
  have X3 := X3'
  have X4 := X4'
  clear X0' X2' X3' X4' hV3
  have ix := mvV3 (mvV2 (mvV1 H4.out.1))
  have ia := mvV3 (mvV2 (mvV1 H4.out.2.1))
  rw [HSL.out.1, HSL.out.2] at ia
  have HZ := Lib.hid (And.intro X2 (And.intro X3 (And.intro X4 (And.intro ix (And.intro ia B3)))))
  clear X0 X2 X3 X4 ix ia mvV1 mvV2 mvV3 B1 B2 B3 H4
  go_wp2_with fail
  refine bodyPost_ret (v := .tuple #[.agg #[.bool false, .slice p0 l0 c0], .agg #[.bool s4, .slice p4 l4 c4], .agg #[.bool false, .slice none 0 0]]) (results_int3 Tryz.results77 _ _ (K + 1 + 1) (K + 1 + 1 + 1) (K + 1 + 1 + 1 + 1) _ _ _ rfl rfl rfl (load_whole HZ.out.1) (load_whole HZ.out.2.1) (load_whole HZ.out.2.2.1)) rfl ?_
  refine ⟨⟨_, _, _, rfl, ?_, HZ.out.2.2.2.1, isI_nilI _⟩, HZ.out.2.2.2.2.2⟩
  rw [HSL.out.2]
  exact isI_pos (at_ofI HZ.out.2.2.2.2.1)

/-- the greatest common divisor and its factors -/
noncomputable def cG (a b : Int) : Int := if b = 0 then (a.natAbs : Int) else gG a b
noncomputable def cX (a b : Int) : Int := if b = 0 then sgnI a else gX a b
noncomputable def cY (a b : Int) : Int := if b = 0 then 0 else gY a b
theorem wee_rows (a b : Nat) (la : (Nl.limbs a).length ≤ 50) (lb : (Nl.limbs b).length ≤ 50) : wee (rowL a b) ∧ wee (rowE a b) := eros_wee (endN_spec a b).2 la lb
theorem common_any (va vb : Value) (a b : Int) (w : World) (ha : IsI w va a) (hb : IsI w vb b) (la : (Nl.limbs a.natAbs).length ≤ 50) (lb : (Nl.limbs b.natAbs).length ≤ 50) :
    Calls Tryz.prog 77 #[va, vb] w fun e w' => (∃ u v y, e = .returned (.tuple #[u, v, y]) ∧ IsI w' u (cG a b) ∧ IsI w' v (cX a b) ∧ IsI w' y (cY a b)) ∧ Below w.heap.size w w' := by
  obtain ⟨p0, c0, rfl, u0⟩ := AtI.form ha
  obtain ⟨p1, c1, rfl, u1⟩ := AtI.form hb
  by_cases h0 : b = 0
  · subst h0
    rw [cG, cX, cY, if_pos rfl, if_pos rfl, if_pos rfl]
    have e1 : (Nl.limbs (0 : Int).natAbs).length = 0 := by show (Nl.limbs 0).length = 0; rw [Nl.limbs_zero]; rfl
    rw [e1, show negB (0 : Int) = false from rfl]
    exact common_zero a p0 p1 c0 c1 w ha
  · rw [cG, cX, cY, if_neg h0, if_neg h0, if_neg h0]
    obtain ⟨w1, w2⟩ := wee_rows a.natAbs b.natAbs la lb
    refine common_gen p0 p1 _ c0 _ c1 (negB a) (negB b) (rowT a.natAbs b.natAbs) (rowL a.natAbs b.natAbs) (rowE a.natAbs b.natAbs) w (Nl.len_pos (by omega)) w1 w2 (fun w' hw' => ?_)
    exact euclid_at _ _ a.natAbs b.natAbs w' (u0.below hw') (u1.below hw') la lb
end Go.Proofs.YtkbghamkalidcaaGreat
