/-
  How an argument of the type of integers is opened. Conditions: those that each theorem names.
  The closed facts of the row of WholeCommon. Conditions: none.
-/
import Derived.Test.YtkbghamkalidcaaGreatInts
import Derived.Test.YtkbghamkalidcaaGreatRows
import Derived.ProofKit
import Derived.SizedLaws
import Derived.OpenShut
import Derived.Lib.SmallJoins
namespace Go.Proofs.YtkbghamkalidcaaGreat
open Go.ChangeShapes Go.WideShapes Go.ChangeAt Go.RowKit Go.Joins

theorem ownNo : ownKnob Tryz.prog.godebug = none := by kernel_rfl
theorem laidOutYes : laidOutB Tryz.prog = true := by kernel_rfl
theorem cellsWord : Tryz.prog.cellsOf 80 = 1 := by kernel_rfl

set_option maxRecDepth 100000 in
/-- an argument of the type of numbers: a list of words -/
theorem arg_at {H : Type} {enc : TypeId × Value → H} {W : World} {base fuel : Nat} {a0 : Option Addr} {len cap : Nat} {d : DataW H} {p : List MemPlace} (hv : Value.okWide Tryz.prog W .any base 23 (.slice a0 len cap))
    (hf : DataW.trod enc Tryz.prog W 0 (fun _ => true) true fuel 23 (Value.slice a0 len cap).cells.toList = some (d, p)) : ∃ xs, xs.length = len ∧ At W (.slice a0 len cap) xs ∧ Nl.Small xs := by
  rcases open_ints Tryz.underlying23 Tryz.underlying80 cellsWord hf with ⟨hcs, hx⟩ | ⟨a, len', cap', zs, hcs, _, hl, hm, hz, hx, hcell, hwz⟩
  · simp [Value.cells] at hcs
    obtain ⟨rfl, rfl, rfl⟩ := hcs
    exact ⟨[], rfl, .inl ⟨rfl, rfl⟩, Nl.small_nil⟩
  · simp [Value.cells] at hcs
    obtain ⟨rfl, rfl, rfl⟩ := hcs
    simp only [if_true] at hz
    obtain ⟨b, off, spot⟩ := a
    simp only [Value.okWide, Tryz.underlying23, Cell.okWide, Cell.ok, World.has] at hv
    obtain ⟨_, _, _, hsp, rowT, count, hsh, _⟩ := hv
    have hsp' : spot = none := hsp
    subst hsp'
    have hb : b < W.heap.size := by
      unfold World.shape? at hsh
      cases ho : W.heap[b]? with
      | none => simp [ho] at hsh
      | some o => exact (Array.getElem?_eq_some_iff.1 ho).1
    have hlen : ((zs.take len).map Int.toNat).length = len := by simp; omega
    have hpt : ∀ i, i < len → ∃ n : Int, zs.getD i 0 = n ∧ 0 ≤ n ∧ n < 4294967296 := fun i hi => by
      have hmem : zs.getD i 0 ∈ zs := by
        rw [List.getD_eq_getElem?_getD, List.getElem?_eq_getElem (by omega)]
        exact List.getElem_mem _
      have hw := hwz _ hmem
      have hb2 := bounds_u32 hw
      exact ⟨_, rfl, hb2.1, by omega⟩
    have hget : ∀ i, i < len → (((zs.take len).map Int.toNat).getD i 0 : Int) = zs.getD i 0 := fun i hi => by
      obtain ⟨n, hn, h0, h1⟩ := hpt i hi
      rw [List.getD_eq_getElem?_getD, List.getElem?_eq_getElem (by rw [hlen]; exact hi)]
      rw [List.getD_eq_getElem?_getD, List.getElem?_eq_getElem (by omega)] at hn
      simp only [Option.getD_some] at hn
      rw [List.getD_eq_getElem?_getD, List.getElem?_eq_getElem (by omega)]
      simp [hn]
      omega
    refine ⟨(zs.take len).map Int.toNat, hlen, .inr ⟨b, off, cap, by rw [hlen], trivial, by rw [hlen]; exact hl, by simp only [maxLen] at hm; omega, hb, fun i hi => ?_⟩, fun x hx => ?_⟩
    · rw [hlen] at hi
      have := hcell i (by omega)
      rw [Go.WideShapes.add_plain] at this
      rw [this, hget i hi]
    · obtain ⟨n, hn, rfl⟩ := List.mem_map.1 hx
      obtain ⟨i, hi, rfl⟩ := List.getElem_of_mem hn
      have hi' : i < len := by simp at hi; omega
      obtain ⟨n, hn2, h0, h1⟩ := hpt i hi'
      rw [List.getD_eq_getElem?_getD, List.getElem?_eq_getElem (by omega)] at hn2
      simp only [Option.getD_some] at hn2
      rw [List.getElem_take, hn2]
      omega

theorem cellsInt : Tryz.prog.cellTypes Tryz.prog.depth 25 = some [4, 23 ] := by kernel_rfl

set_option maxRecDepth 100000 in
/-- an argument of the type of integers: a sign and a list of words -/
theorem argI_at {H : Type} {enc : TypeId × Value → H} {W : World} {base : Nat} {v : Value} {d : DataW H} {p : List MemPlace} (hv : Value.okWide Tryz.prog W .any base 25 v)
    (h : DataW.Trod enc Tryz.prog W 0 (fun _ => true) true 25 v d p) : ∃ s xs, AtI W v s xs ∧ Nl.Small xs := by
  obtain ⟨v0, v1, y0, y1, n, rfl, rfl, rfl, h0, h1⟩ := open_agg2 Tryz.underlying25 (by kernel_rfl) (by kernel_rfl) hv h
  simp only [Value.okWide, Tryz.underlying25 ] at hv
  obtain ⟨cs, he, -, ts, hts, -, hcells⟩ := hv
  rw [cellsInt] at hts
  cases hts
  cases he
  obtain ⟨u0, hu0, k0⟩ := hcells 0 v0 rfl
  obtain ⟨u1, hu1, k1⟩ := hcells 1 v1 rfl
  cases hu0
  cases hu1
  have w0 : Value.okWide Tryz.prog W .any base 4 v0 := by simp only [Value.okWide, Tryz.underlying4 ]; exact k0
  have w1 : Value.okWide Tryz.prog W .any base 23 v1 := by simp only [Value.okWide, Tryz.underlying23 ]; exact k1
  obtain ⟨s, rfl⟩ := okWide_bool Tryz.underlying4 w0
  obtain ⟨a, l, c, rfl⟩ := okWide_slice Tryz.underlying23 w1
  obtain ⟨xs, hl, hat, hs⟩ := arg_at (d := y1.1) (p := y1.2) w1 (by simpa [Value.cells] using h1)
  exact ⟨s, xs, AtI.mk hat, hs⟩
end Go.Proofs.YtkbghamkalidcaaGreat

namespace Go.Proofs.YtkbghamkalidcaaGreat
open Go.ChangeShapes Go.WideShapes Go.ChangeAt Go.RowKit

set_option maxRecDepth 100000 in
set_option maxHeartbeats 0 in
theorem closed_wholeCommon : joinedFacts Tryz.checked.prog 5 Tryz.f5 Rows.wholeCommonSpec Rows.wholeCommonRow = true := by
  unfold joinedFacts
  simp only [Bool.and_eq_true]
  repeat' (apply And.intro)
  all_goals (as_aux_lemma => kernel_rfl)
end Go.Proofs.YtkbghamkalidcaaGreat
