/-
  Proved: NatSums returns true for any two slices of words, and they read afterwards as they read before. Conditions: none but those of the statement.
-/
import Derived.Test.YtikgfdkaikpmhaaGreatNatSums
import Derived.Test.YtikgfdkaikpmhaaGreatRows
import Derived.ProofKit
import Derived.SizedLaws
import Derived.OpenShut
namespace Go.Proofs.YtikgfdkaikpmhaaGreat
open Go.ChangeShapes Go.WideShapes Go.ChangeAt Go.RowKit

theorem ownNo : ownKnob Tryz.prog.godebug = none := by kernel_rfl
theorem laidOutYes : laidOutB Tryz.prog = true := by kernel_rfl
theorem cellsWord : Tryz.prog.cellsOf 59 = 1 := by kernel_rfl

set_option maxRecDepth 100000 in
/-- an argument of the type of numbers: a list of words -/
theorem arg_at {H : Type} {enc : TypeId × Value → H} {W : World} {base fuel : Nat} {a0 : Option Addr} {len cap : Nat} {d : DataW H} {p : List MemPlace} (hv : Value.okWide Tryz.prog W .any base 23 (.slice a0 len cap))
    (hf : DataW.trod enc Tryz.prog W 0 (fun _ => true) true fuel 23 (Value.slice a0 len cap).cells.toList = some (d, p)) : ∃ xs, At W (.slice a0 len cap) xs ∧ Nl.Small xs := by
  rcases open_ints Tryz.underlying23 Tryz.underlying59 cellsWord hf with ⟨hcs, hx⟩ | ⟨a, len', cap', zs, hcs, _, hl, hm, hz, hx, hcell, hwz⟩
  · simp [Value.cells] at hcs
    obtain ⟨rfl, rfl, rfl⟩ := hcs
    exact ⟨[], .inl ⟨rfl, rfl⟩, Nl.small_nil⟩
  · simp [Value.cells] at hcs
    obtain ⟨rfl, rfl, rfl⟩ := hcs
    simp only [if_true] at hz
    obtain ⟨b, off, spot⟩ := a
    simp only [Value.okWide, Tryz.underlying23, Cell.okWide, Cell.ok, World.has] at hv
    obtain ⟨_, _, _, hsp, rowT, count, hsh, _⟩ := hv
    have hsp' : spot = none := hsp
    subst hsp'
    have hb : b < W.heap.size := by
      unfold World.shape? at hsh
      cases ho : W.heap[b]? with
      | none => simp [ho] at hsh
      | some o => exact (Array.getElem?_eq_some_iff.1 ho).1
    have hlen : ((zs.take len).map Int.toNat).length = len := by simp; omega
    have hpt : ∀ i, i < len → ∃ n : Int, zs.getD i 0 = n ∧ 0 ≤ n ∧ n < 4294967296 := fun i hi => by
      have hmem : zs.getD i 0 ∈ zs := by
        rw [List.getD_eq_getElem?_getD, List.getElem?_eq_getElem (by omega)]
        exact List.getElem_mem _
      have hw := hwz _ hmem
      have hb2 := bounds_u32 hw
      exact ⟨_, rfl, hb2.1, by omega⟩
    have hget : ∀ i, i < len → (((zs.take len).map Int.toNat).getD i 0 : Int) = zs.getD i 0 := fun i hi => by
      obtain ⟨n, hn, h0, h1⟩ := hpt i hi
      rw [List.getD_eq_getElem?_getD, List.getElem?_eq_getElem (by rw [hlen]; exact hi)]
      rw [List.getD_eq_getElem?_getD, List.getElem?_eq_getElem (by omega)] at hn
      simp only [Option.getD_some] at hn
      rw [List.getD_eq_getElem?_getD, List.getElem?_eq_getElem (by omega)]
      simp [hn]
      omega
    refine ⟨(zs.take len).map Int.toNat, .inr ⟨b, off, cap, by rw [hlen], trivial, by rw [hlen]; exact hl, by simp only [maxLen] at hm; omega, hb, fun i hi => ?_⟩, fun x hx => ?_⟩
    · rw [hlen] at hi
      have := hcell i (by omega)
      rw [Go.WideShapes.add_plain] at this
      rw [this, hget i hi]
    · obtain ⟨n, hn, rfl⟩ := List.mem_map.1 hx
      obtain ⟨i, hi, rfl⟩ := List.getElem_of_mem hn
      have hi' : i < len := by simp at hi; omega
      obtain ⟨n, hn2, h0, h1⟩ := hpt i hi'
      rw [List.getD_eq_getElem?_getD, List.getElem?_eq_getElem (by omega)] at hn2
      simp only [Option.getD_some] at hn2
      rw [List.getElem_take, hn2]
      omega

set_option maxRecDepth 100000 in
theorem natSums_lifted (os : Os) (started : os.Started) (H : Type) (enc : TypeId × Value → H) :
    ReturnsInHanded {} Tryz.checked os 3 .any (Rows.natSumsSpec.pre6 enc Tryz.prog Tryz.f3 Rows.natSumsRow.domain false) (Rows.natSumsSpec.post enc Tryz.prog Tryz.f3 false true false false) := by
  refine returnsInHanded_of_change_sized (C := Tryz.checked) ownNo started (by kernel_rfl) Tryz.func3
    (ChangeSpec.witness6 (enc := enc) (C := Tryz.checked) false ⟨#[], #[.slice none 0 0, .slice none 0 0], []⟩ 8 (by kernel_rfl) (by kernel_rfl) (by kernel_rfl) (by kernel_rfl)) ?_
  intro W base args ds gs before hval0 hW _ _ _
  have hval : ∀ (j : Nat) t v, Tryz.f3.params[j]? = some t → args[j]? = some v → Value.okWide Tryz.prog W .any base t v := hval0
  have hW' := hW
  obtain ⟨p, q, hA0, hV, rfl, _, _⟩ := hW
  have hA : DataW.TrodAll enc Tryz.prog W 0 (fun _ => true) true Tryz.f3.params.toList args.toList ds p := hA0
  rw [Tryz.params3] at hA hval
  obtain ⟨v0, v1, d0, d1, p0, p1, rfl, rfl, rfl, h0, h1⟩ := trodAll_two hA
  obtain ⟨rfl, rfl⟩ := trodVars_none hV
  have k0 := hval 0 23 v0 rfl rfl
  have k1 := hval 1 23 v1 rfl rfl
  obtain ⟨a0, la, ca, rfl⟩ := okWide_slice Tryz.underlying23 k0
  obtain ⟨b0, lb, cb, rfl⟩ := okWide_slice Tryz.underlying23 k1
  have h0k := h0
  have h1k := h1
  obtain ⟨fa, hfa⟩ := h0
  obtain ⟨fb, hfb⟩ := h1
  clear hA0 hval0
  simp only [List.append_nil] at hW'
  have hlt : ∀ x ∈ p0 ++ p1, x.block < W.heap.size := fun x hx => by simpa using hW'.lt x hx
  obtain ⟨xs, hxs, hsx⟩ := arg_at k0 hfa
  obtain ⟨ys, hys, hsy⟩ := arg_at k1 hfb
  refine (natSums_any _ _ xs ys W hxs hys hsx hsy).mono ?_
  rintro e W' ⟨rfl, hnx⟩
  have er : (Rows.natSumsSpec.fn H ([d0, d1] ++ [])).results = [.lit (.bool true)] := rfl
  have res0 : DataW.Trod enc Tryz.prog W' W.heap.size (fun _ => false) false 4 (.bool true) (.lit (.bool true)) [] := shut_bool Tryz.underlying4 true
  refine ⟨_, rfl, _, _, _, [], _, [], hW', ?_, trodAll_mk2 (Below.trod laidOutYes (by kernel_rfl) (of_decide_eq_true (by kernel_rfl)) h0k hnx (fun x hx => hlt x (by simp [hx]))) (Below.trod laidOutYes (by kernel_rfl) (of_decide_eq_true (by kernel_rfl)) h1k hnx (fun x hx => hlt x (by simp [hx]))), rfl, hnx.frame _, fun h => by cases h⟩
  rw [er]
  exact trodAll_mk1 res0

theorem natSums_said : Rows.NatSumsSaid :=
  OpenClaim.holds_of_wide 3 Tryz.f3 rfl rfl rfl rfl rfl rfl rfl ⟨rfl, rfl, rfl, rfl, rfl⟩ rfl rfl rfl rfl rfl (by kernel_rfl) Tryz.func3 (by kernel_rfl)
    (of_decide_eq_true (by kernel_rfl)) (by unfold Func.isWrapper; first | (rw [if_pos (by decide +kernel)]; kernel_rfl) | (rw [if_neg (by decide +kernel)]; exact ⟨rfl, rfl⟩))
    (fun os started H enc _ => natSums_lifted os started H enc)


end Go.Proofs.YtikgfdkaikpmhaaGreat
