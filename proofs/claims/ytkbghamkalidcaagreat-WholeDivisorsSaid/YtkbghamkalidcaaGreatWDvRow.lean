/-
  Proved: WholeDivisors returns true for any arguments, and they read afterwards as they read before. Conditions: none but those of the statement.
-/
import Derived.Test.YtkbghamkalidcaaGreatWholeDivisorsClosedAll
namespace Go.Proofs.YtkbghamkalidcaaGreat
open Go.ChangeShapes Go.WideShapes Go.ChangeAt Go.RowKit

set_option maxRecDepth 100000 in
theorem wholeDivisors_lifted (os : Os) (started : os.Started) (H : Type) (enc : TypeId × Value → H) :
    ReturnsInHanded {} Tryz.checked os 6 .any (Rows.wholeDivisorsSpec.pre6 enc Tryz.prog Tryz.f6 Rows.wholeDivisorsRow.domain false) (Rows.wholeDivisorsSpec.post enc Tryz.prog Tryz.f6 false true false false) := by
  refine returnsInHanded_of_change_sized (C := Tryz.checked) ownNo started (by kernel_rfl) Tryz.func6
    (ChangeSpec.witness6 (enc := enc) (C := Tryz.checked) false ⟨#[], #[.agg #[.bool false, .slice none 0 0], .agg #[.bool false, .slice none 0 0]], []⟩ 8 (by kernel_rfl) (by kernel_rfl) (by kernel_rfl) (by kernel_rfl)) ?_
  intro W base args ds gs before hval0 hW _ _ _
  have hval : ∀ (j : Nat) t v, Tryz.f6.params[j]? = some t → args[j]? = some v → Value.okWide Tryz.prog W .any base t v := hval0
  have hW' := hW
  obtain ⟨p, q, hA0, hV, rfl, _, _⟩ := hW
  have hA : DataW.TrodAll enc Tryz.prog W 0 (fun _ => true) true Tryz.f6.params.toList args.toList ds p := hA0
  rw [Tryz.params6] at hA hval
  obtain ⟨v0, v1, d0, d1, p0, p1, rfl, rfl, rfl, h0, h1⟩ := trodAll_two hA
  obtain ⟨rfl, rfl⟩ := trodVars_none hV
  have k0 := hval 0 25 v0 rfl rfl
  have k1 := hval 1 25 v1 rfl rfl
  have h0k := h0
  have h1k := h1
  clear hA0 hval0
  simp only [List.append_nil] at hW'
  have hlt : ∀ x ∈ p0 ++ p1, x.block < W.heap.size := fun x hx => by simpa using hW'.lt x (by simpa using hx)
  obtain ⟨s0, xs0, hxs0, hsx0⟩ := argI_at k0 h0
  obtain ⟨s1, xs1, hxs1, hsx1⟩ := argI_at k1 h1
  refine (wholeDivisors_any _ _ _ _ _ _ W hxs0 hxs1 hsx0 hsx1).mono ?_
  rintro e W' ⟨rfl, hnx⟩
  have er : (Rows.wholeDivisorsSpec.fn H ([d0, d1] ++ [])).results = [.lit (.bool true)] := rfl
  have res0 : DataW.Trod enc Tryz.prog W' W.heap.size (fun _ => false) false 4 (.bool true) (.lit (.bool true)) [] := shut_bool Tryz.underlying4 true
  refine ⟨_, rfl, _, _, _, [], _, [], hW', ?_, (by have h3 := trodAll_mk2 (Below.trod laidOutYes (by kernel_rfl) (of_decide_eq_true (by kernel_rfl)) h0k hnx (fun x hx => hlt x (by simp [hx]))) (Below.trod laidOutYes (by kernel_rfl) (of_decide_eq_true (by kernel_rfl)) h1k hnx (fun x hx => hlt x (by simp [hx]))); (try simp only [List.append_nil] at h3); first | exact h3 | (rw [← List.append_assoc] at h3; exact h3)), rfl, hnx.frame _, fun h => by cases h⟩
  rw [er]
  exact trodAll_mk1 res0

theorem wholeDivisors_said : Rows.WholeDivisorsSaid :=
  OpenClaim.holds_of_wide 6 Tryz.f6 rfl rfl rfl rfl rfl rfl rfl ⟨rfl, rfl, rfl, rfl, rfl⟩ rfl rfl rfl rfl rfl (by kernel_rfl) Tryz.func6 closed_wholeDivisors
    (of_decide_eq_true (by kernel_rfl)) (by unfold Func.isWrapper; first | (rw [if_pos (by decide +kernel)]; kernel_rfl) | (rw [if_neg (by decide +kernel)]; exact ⟨rfl, rfl⟩))
    (fun os started H enc _ => wholeDivisors_lifted os started H enc)
end Go.Proofs.YtkbghamkalidcaaGreat
