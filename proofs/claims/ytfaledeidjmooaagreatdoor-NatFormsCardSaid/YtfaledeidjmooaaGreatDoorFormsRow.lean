/-
  Proved: NatForms returns true for any arguments, and they read afterwards as they read before: the row and its tied card. Conditions: none but those of the statement.
-/
import Derived.Test.YtfaledeidjmooaaGreatDoorNatForms
import Derived.Test.YtfaledeidjmooaaGreatDoorTabRow
import Derived.Test.YtfaledeidjmooaaGreatDoorTie
import Derived.Test.YtfaledeidjmooaaGreatDoorCards
import Derived.LaidMore
import Derived.Lay
import Derived.SevenTiedAt
import Derived.Stop.Joined
import Derived.Lib.AtoiErrMem
namespace Go.Proofs.YtfaledeidjmooaaGreatDoor
open Go.ChangeShapes Go.WideShapes Go.ChangeAt Go.RowKit

set_option maxRecDepth 100000 in
theorem natForms_lifted (os : Os) (started : os.Started) (H : Type) (enc : TypeId × Value → H) :
    ReturnsInHanded {} Tryz.checked os 3 .any (fun w args => (Rows.natFormsSpec.pre enc Tryz.prog Tryz.f3 Rows.natFormsRow.domain false w args ∧ laidMetH Tryz.prog [("math/bits.deBruijn32tab", Rows.laid_math_bits_deBruijn32tab)] w) ∧ sizedMet enc Tryz.prog Tryz.f3 (OpenSpec.ofChange Rows.natFormsSpec) false w args)
      (Rows.natFormsSpec.post enc Tryz.prog Tryz.f3 false true false false) := by
  refine returnsInHanded_of_change_and (C := Tryz.checked) (X := fun w _ => laidMetH Tryz.prog [("math/bits.deBruijn32tab", Rows.laid_math_bits_deBruijn32tab)] w) (fun _ _ _ hh h => h.of_heap hh) ownNo started (by kernel_rfl) Tryz.func3
    (ChangeSpec.witness_shaped (enc := enc) (C := Tryz.checked) (os := os) (X := fun w _ => laidMetH Tryz.prog [("math/bits.deBruijn32tab", Rows.laid_math_bits_deBruijn32tab)] w) false (World.laidAll Tryz.prog os [("math/bits.deBruijn32tab", Rows.laid_math_bits_deBruijn32tab)]) #[.slice none 0 0, .slice none 0 0, .int .u64 0] 8 (World.laidAll_os _ _ _)
      (World.shaped_of_ZipB (by kernel_rfl) (by kernel_rfl)) (by kernel_rfl) (by kernel_rfl) (by kernel_rfl)
      (by rw [MakeChecks.laidMetH_plain _ _ _ (by kernel_rfl)]; exact laidMet_laidAll _ (by kernel_rfl) (by kernel_rfl))) ?_
  intro W base args ds gs before hval0 hW _ _ hL _
  have hval : ∀ (j : Nat) t v, Tryz.f3.params[j]? = some t → args[j]? = some v → Value.okWide Tryz.prog W .any base t v := hval0
  have hW' := hW
  obtain ⟨p, q, hA0, hV, rfl, _, _⟩ := hW
  have hA : DataW.TrodAll enc Tryz.prog W 0 (fun _ => true) true Tryz.f3.params.toList args.toList ds p := hA0
  rw [Tryz.params3] at hA hval
  obtain ⟨v0, v1, v2, d0, d1, d2, p0, p1, p2, rfl, rfl, rfl, h0, h1, h2⟩ := trodAll_three hA
  obtain ⟨rfl, rfl⟩ := trodVars_none hV
  have k0 := hval 0 23 v0 rfl rfl
  have k1 := hval 1 23 v1 rfl rfl
  obtain ⟨a0, l0, c0, rfl⟩ := okWide_slice Tryz.underlying23 k0
  obtain ⟨a1, l1, c1, rfl⟩ := okWide_slice Tryz.underlying23 k1
  obtain ⟨x, rfl, rfl, rfl, wx⟩ := open_int Tryz.underlying24 (hval 2 24 v2 rfl rfl) h2
  have h0k := h0
  have h1k := h1
  obtain ⟨e0, hf0⟩ := h0
  obtain ⟨e1, hf1⟩ := h1
  clear hA0 hval0
  simp only [List.append_nil] at hW'
  have hlt : ∀ x ∈ p0 ++ p1, x.block < W.heap.size := fun x hx => by simpa using hW'.lt x (by simpa using hx)
  obtain ⟨xs0, hxs0, hsx0⟩ := arg_at k0 hf0
  obtain ⟨xs1, hxs1, hsx1⟩ := arg_at k1 hf1
  have hb := bounds_u64 wx
  obtain ⟨n, rfl⟩ : ∃ n : Nat, x = n := ⟨x.toNat, by omega⟩
  refine (natForms_any _ _ xs0 xs1 n W hxs0 hxs1 hsx0 hsx1 (by omega) (tab_at hL)).mono ?_
  rintro e W' ⟨rfl, hnx⟩
  have er : (Rows.natFormsSpec.fn H ([d0, d1, .lit (.int .u64 n)] ++ [])).results = [.lit (.bool true)] := rfl
  have res0 : DataW.Trod enc Tryz.prog W' W.heap.size (fun _ => false) false 4 (.bool true) (.lit (.bool true)) [] := shut_bool Tryz.underlying4 true
  refine ⟨_, rfl, _, _, _, [], _, [], hW', ?_, (by have h3 := trodAll_mk3 (Below.trod laidOutYes (by kernel_rfl) (of_decide_eq_true (by kernel_rfl)) h0k hnx (fun x hx => hlt x (by simp [hx]))) (Below.trod laidOutYes (by kernel_rfl) (of_decide_eq_true (by kernel_rfl)) h1k hnx (fun x hx => hlt x (by simp [hx]))) (shut_int Tryz.underlying24 wx); rw [← List.append_assoc] at h3; exact h3), rfl, hnx.frame _, fun h => by cases h⟩
  rw [er]
  exact trodAll_mk1 res0

theorem natForms_said : Rows.NatFormsSaid :=
  OpenClaim.holds_of_wide 3 Tryz.f3 rfl rfl rfl rfl rfl rfl rfl ⟨rfl, rfl, rfl, rfl, rfl⟩ rfl rfl rfl rfl rfl (by kernel_rfl) Tryz.func3 (by kernel_rfl)
    (of_decide_eq_true (by kernel_rfl)) (by unfold Func.isWrapper; first | (rw [if_pos (by decide +kernel)]; kernel_rfl) | (rw [if_neg (by decide +kernel)]; exact ⟨rfl, rfl⟩))
    (fun os started H enc _ => natForms_lifted os started H enc)
theorem natForms_card : Rows.NatFormsCardSaid :=
  Claim7.holds_tied_plain_at .later [] [.data] true (true, "a4335bee5235823114747b3fc9d26756d057442b5f8d145a7dc9a618d4dc2c9a") true natForms_said (fun _ h => by cases h) (by kernel_rfl) (fun _ h => by cases h) natForms_row_tie rfl ⟨rfl, rfl⟩ (by kernel_rfl) rfl
    (fun f fn hf hfn => by
      obtain rfl : f = 3 := Option.some.inj ((show Tryz.prog.funcNamed "soroban/sorobanlaw01.NatForms" = some 3 by kernel_rfl).symm.trans hf) |>.symm
      obtain rfl : fn = Tryz.f3 := (Option.some.inj (Tryz.func3.symm.trans hfn)).symm
      exact ⟨by kernel_rfl, fun j t ht => by
        rw [Tryz.params3] at ht
        have hm : t ∈ [23, 23, 24 ] := by simpa using Array.mem_of_getElem? ht
        have hall : ([23, 23, 24 ].all fun u => !Tryz.prog.wantsStandIn u) = true := by kernel_rfl
        exact (show Tryz.prog.wantsStandIn t = false by simpa using List.all_eq_true.1 hall t hm)⟩)
    (by kernel_rfl)
end Go.Proofs.YtfaledeidjmooaaGreatDoor
