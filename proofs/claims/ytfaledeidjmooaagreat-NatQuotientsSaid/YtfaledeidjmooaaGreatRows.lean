/-
  No cell of these rows narrows 'for every input' (looked for: loops, veiled, ifaces, maps, wideKeys, modest, calm, conditions, laid).
  DERIVED. THE GIVEN ROWS OF THIS SEAT. 14 by the template 'for every input the law returns true; each argument reads behind the call as it read before'; 0 by the template 'total and deterministic' (their statements: YtfaledeidjmooaaGreatTotals.lean).
  GIVEN WITH THE SEED: the statements are not yours to turn. If you find one false, say at which input.
  Laid BY PROGRAM, IN A SANDBOX (cutbox-rows.mjs): the forced cells as the released guide's own fill.sh prints them over the translation 7cd71f1775d22f5b… (all of the seat's roots in one cut). By AI agents, Wed Nov 11 2026. No macro, syntax, notation, axiom, sorry.
-/
import Derived.Test.YtfaledeidjmooaaGreatChecked
import GoSem.Claim
import GoSem.ClaimJoined
import GoSem.ClaimMapViews
import Derived.JoinedTies
import Derived.KernelRfl
namespace Go.Proofs.YtfaledeidjmooaaGreat
/- THE CELL 'sum', in the pinned program and in every row, IS THE sha256 OF THE DUMP (.gsa) THAT YtfaledeidjmooaaGreatProg.lean LOADS. Nothing in Lean hashes anything: it is a label: what it is worth is what the hold of that sum in a sandbox is worth. -/
noncomputable def Tryz.pinned : Pinned := { name := "ytfaledeidjmooaagreat", sum := "7cd71f1775d22f5b732e50651a4f6ba9ac92c35a2024e19919185211b5fd4374", checked := Tryz.checked }
namespace Rows
def none {H : Type} : Left H := { results := [], args := [] }

/-- 'sorobanlaw01.NatSums': WHATEVER THE INPUT: true; the input reads as it did. -/
def natSumsSpec : ChangeSpec := { name := "natSums", fn := fun _ => fun
  | [d1, d2] => { results := [.lit (.bool true)], args := [d1, d2] }
  | _ => none }
def natSumsRow : OpenClaim := { program := "ytfaledeidjmooaagreat", sum := "7cd71f1775d22f5b732e50651a4f6ba9ac92c35a2024e19919185211b5fd4374", func := "soroban/sorobanlaw01.NatSums", spec := "natSums", unfollowed := true, recurses := true, apart := false }
def NatSumsSaid : Prop := natSumsRow.holds Tryz.pinned (OpenSpec.ofChange natSumsSpec)

/-- ITS FALSE NEIGHBOUR: 'it returns false'. Refute it at one input. -/
def natSumsWrong : ChangeSpec := { name := "natSums", fn := fun _ => fun
  | [d1, d2] => { results := [.lit (.bool false)], args := [d1, d2] }
  | _ => none }
def NatSumsWrongFalsely : Prop := natSumsRow.holds Tryz.pinned (OpenSpec.ofChange natSumsWrong)

/-- 'sorobanlaw01.NatProducts': WHATEVER THE INPUT: true; the input reads as it did. -/
def natProductsSpec : ChangeSpec := { name := "natProducts", fn := fun _ => fun
  | [d1, d2, d3] => { results := [.lit (.bool true)], args := [d1, d2, d3] }
  | _ => none }
def natProductsRow : OpenClaim := { program := "ytfaledeidjmooaagreat", sum := "7cd71f1775d22f5b732e50651a4f6ba9ac92c35a2024e19919185211b5fd4374", func := "soroban/sorobanlaw01.NatProducts", spec := "natProducts", unfollowed := true, recurses := true, apart := false }
def NatProductsSaid : Prop := natProductsRow.holds Tryz.pinned (OpenSpec.ofChange natProductsSpec)

/-- ITS FALSE NEIGHBOUR: 'it returns false'. Refute it at one input. -/
def natProductsWrong : ChangeSpec := { name := "natProducts", fn := fun _ => fun
  | [d1, d2, d3] => { results := [.lit (.bool false)], args := [d1, d2, d3] }
  | _ => none }
def NatProductsWrongFalsely : Prop := natProductsRow.holds Tryz.pinned (OpenSpec.ofChange natProductsWrong)

/-- 'sorobanlaw01.NatQuotients': WHATEVER THE INPUT: true; the input reads as it did. -/
def natQuotientsSpec : ChangeSpec := { name := "natQuotients", fn := fun _ => fun
  | [d1, d2] => { results := [.lit (.bool true)], args := [d1, d2] }
  | _ => none }
def natQuotientsRow : OpenClaim := { program := "ytfaledeidjmooaagreat", sum := "7cd71f1775d22f5b732e50651a4f6ba9ac92c35a2024e19919185211b5fd4374", func := "soroban/sorobanlaw01.NatQuotients", spec := "natQuotients", unfollowed := true, recurses := true, apart := false }
def NatQuotientsSaid : Prop := natQuotientsRow.holds Tryz.pinned (OpenSpec.ofChange natQuotientsSpec)

/-- ITS FALSE NEIGHBOUR: 'it returns false'. Refute it at one input. -/
def natQuotientsWrong : ChangeSpec := { name := "natQuotients", fn := fun _ => fun
  | [d1, d2] => { results := [.lit (.bool false)], args := [d1, d2] }
  | _ => none }
def NatQuotientsWrongFalsely : Prop := natQuotientsRow.holds Tryz.pinned (OpenSpec.ofChange natQuotientsWrong)

/-- 'sorobanlaw01.NatRoots': WHATEVER THE INPUT: true; the input reads as it did. -/
def natRootsSpec : ChangeSpec := { name := "natRoots", fn := fun _ => fun
  | [d1, d2] => { results := [.lit (.bool true)], args := [d1, d2] }
  | _ => none }
def natRootsRow : OpenClaim := { program := "ytfaledeidjmooaagreat", sum := "7cd71f1775d22f5b732e50651a4f6ba9ac92c35a2024e19919185211b5fd4374", func := "soroban/sorobanlaw01.NatRoots", spec := "natRoots", unfollowed := true, recurses := true, apart := false }
def NatRootsSaid : Prop := natRootsRow.holds Tryz.pinned (OpenSpec.ofChange natRootsSpec)

/-- ITS FALSE NEIGHBOUR: 'it returns false'. Refute it at one input. -/
def natRootsWrong : ChangeSpec := { name := "natRoots", fn := fun _ => fun
  | [d1, d2] => { results := [.lit (.bool false)], args := [d1, d2] }
  | _ => none }
def NatRootsWrongFalsely : Prop := natRootsRow.holds Tryz.pinned (OpenSpec.ofChange natRootsWrong)

/-- 'sorobanlaw01.NatShifts': WHATEVER THE INPUT: true; the input reads as it did. -/
def natShiftsSpec : ChangeSpec := { name := "natShifts", fn := fun _ => fun
  | [d1, d2] => { results := [.lit (.bool true)], args := [d1, d2] }
  | _ => none }
def natShiftsRow : OpenClaim := { program := "ytfaledeidjmooaagreat", sum := "7cd71f1775d22f5b732e50651a4f6ba9ac92c35a2024e19919185211b5fd4374", func := "soroban/sorobanlaw01.NatShifts", spec := "natShifts", unfollowed := true, recurses := true, apart := false }
def NatShiftsSaid : Prop := natShiftsRow.holds Tryz.pinned (OpenSpec.ofChange natShiftsSpec)

/-- ITS FALSE NEIGHBOUR: 'it returns false'. Refute it at one input. -/
def natShiftsWrong : ChangeSpec := { name := "natShifts", fn := fun _ => fun
  | [d1, d2] => { results := [.lit (.bool false)], args := [d1, d2] }
  | _ => none }
def NatShiftsWrongFalsely : Prop := natShiftsRow.holds Tryz.pinned (OpenSpec.ofChange natShiftsWrong)

/-- 'sorobanlaw01.NatTexts': WHATEVER THE INPUT: true; the input reads as it did. -/
def natTextsSpec : ChangeSpec := { name := "natTexts", fn := fun _ => fun
  | [d1, d2] => { results := [.lit (.bool true)], args := [d1, d2] }
  | _ => none }
def natTextsRow : OpenClaim := { program := "ytfaledeidjmooaagreat", sum := "7cd71f1775d22f5b732e50651a4f6ba9ac92c35a2024e19919185211b5fd4374", func := "soroban/sorobanlaw01.NatTexts", spec := "natTexts", unfollowed := true, recurses := true, apart := false }
def NatTextsSaid : Prop := natTextsRow.holds Tryz.pinned (OpenSpec.ofChange natTextsSpec)

/-- ITS FALSE NEIGHBOUR: 'it returns false'. Refute it at one input. -/
def natTextsWrong : ChangeSpec := { name := "natTexts", fn := fun _ => fun
  | [d1, d2] => { results := [.lit (.bool false)], args := [d1, d2] }
  | _ => none }
def NatTextsWrongFalsely : Prop := natTextsRow.holds Tryz.pinned (OpenSpec.ofChange natTextsWrong)

/-- 'sorobanlaw01.NatRoads': WHATEVER THE INPUT: true; the input reads as it did. -/
def natRoadsSpec : ChangeSpec := { name := "natRoads", fn := fun _ => fun
  | [d1, d2, d3] => { results := [.lit (.bool true)], args := [d1, d2, d3] }
  | _ => none }
def natRoadsRow : OpenClaim := { program := "ytfaledeidjmooaagreat", sum := "7cd71f1775d22f5b732e50651a4f6ba9ac92c35a2024e19919185211b5fd4374", func := "soroban/sorobanlaw01.NatRoads", spec := "natRoads", unfollowed := true, recurses := true, apart := false }
def NatRoadsSaid : Prop := natRoadsRow.holds Tryz.pinned (OpenSpec.ofChange natRoadsSpec)

/-- ITS FALSE NEIGHBOUR: 'it returns false'. Refute it at one input. -/
def natRoadsWrong : ChangeSpec := { name := "natRoads", fn := fun _ => fun
  | [d1, d2, d3] => { results := [.lit (.bool false)], args := [d1, d2, d3] }
  | _ => none }
def NatRoadsWrongFalsely : Prop := natRoadsRow.holds Tryz.pinned (OpenSpec.ofChange natRoadsWrong)

/-- 'sorobanlaw01.NatDivides': WHATEVER THE INPUT: true; the input reads as it did. -/
def natDividesSpec : ChangeSpec := { name := "natDivides", fn := fun _ => fun
  | [d1, d2, d3] => { results := [.lit (.bool true)], args := [d1, d2, d3] }
  | _ => none }
def natDividesRow : OpenClaim := { program := "ytfaledeidjmooaagreat", sum := "7cd71f1775d22f5b732e50651a4f6ba9ac92c35a2024e19919185211b5fd4374", func := "soroban/sorobanlaw01.NatDivides", spec := "natDivides", unfollowed := true, recurses := true, named := ["math/bits.divideError", "math/bits.overflowError"], apart := false }
def NatDividesSaid : Prop := natDividesRow.holds Tryz.pinned (OpenSpec.ofChange natDividesSpec)

/-- ITS FALSE NEIGHBOUR: 'it returns false'. Refute it at one input. -/
def natDividesWrong : ChangeSpec := { name := "natDivides", fn := fun _ => fun
  | [d1, d2, d3] => { results := [.lit (.bool false)], args := [d1, d2, d3] }
  | _ => none }
def NatDividesWrongFalsely : Prop := natDividesRow.holds Tryz.pinned (OpenSpec.ofChange natDividesWrong)

/-- 'sorobanlaw01.NatRing': WHATEVER THE INPUT: true; the input reads as it did. -/
def natRingSpec : ChangeSpec := { name := "natRing", fn := fun _ => fun
  | [d1, d2, d3] => { results := [.lit (.bool true)], args := [d1, d2, d3] }
  | _ => none }
def natRingRow : OpenClaim := { program := "ytfaledeidjmooaagreat", sum := "7cd71f1775d22f5b732e50651a4f6ba9ac92c35a2024e19919185211b5fd4374", func := "soroban/sorobanlaw01.NatRing", spec := "natRing", unfollowed := true, recurses := true, apart := false }
def NatRingSaid : Prop := natRingRow.holds Tryz.pinned (OpenSpec.ofChange natRingSpec)

/-- ITS FALSE NEIGHBOUR: 'it returns false'. Refute it at one input. -/
def natRingWrong : ChangeSpec := { name := "natRing", fn := fun _ => fun
  | [d1, d2, d3] => { results := [.lit (.bool false)], args := [d1, d2, d3] }
  | _ => none }
def NatRingWrongFalsely : Prop := natRingRow.holds Tryz.pinned (OpenSpec.ofChange natRingWrong)

/-- 'sorobanlaw01.NatOrder': WHATEVER THE INPUT: true; the input reads as it did. -/
def natOrderSpec : ChangeSpec := { name := "natOrder", fn := fun _ => fun
  | [d1, d2, d3] => { results := [.lit (.bool true)], args := [d1, d2, d3] }
  | _ => none }
def natOrderRow : OpenClaim := { program := "ytfaledeidjmooaagreat", sum := "7cd71f1775d22f5b732e50651a4f6ba9ac92c35a2024e19919185211b5fd4374", func := "soroban/sorobanlaw01.NatOrder", spec := "natOrder", unfollowed := true, recurses := true, apart := false }
def NatOrderSaid : Prop := natOrderRow.holds Tryz.pinned (OpenSpec.ofChange natOrderSpec)

/-- ITS FALSE NEIGHBOUR: 'it returns false'. Refute it at one input. -/
def natOrderWrong : ChangeSpec := { name := "natOrder", fn := fun _ => fun
  | [d1, d2, d3] => { results := [.lit (.bool false)], args := [d1, d2, d3] }
  | _ => none }
def NatOrderWrongFalsely : Prop := natOrderRow.holds Tryz.pinned (OpenSpec.ofChange natOrderWrong)

/-- 'sorobanlaw01.NatDivision': WHATEVER THE INPUT: true; the input reads as it did. -/
def natDivisionSpec : ChangeSpec := { name := "natDivision", fn := fun _ => fun
  | [d1, d2, d3] => { results := [.lit (.bool true)], args := [d1, d2, d3] }
  | _ => none }
def natDivisionRow : OpenClaim := { program := "ytfaledeidjmooaagreat", sum := "7cd71f1775d22f5b732e50651a4f6ba9ac92c35a2024e19919185211b5fd4374", func := "soroban/sorobanlaw01.NatDivision", spec := "natDivision", unfollowed := true, recurses := true, apart := false }
def NatDivisionSaid : Prop := natDivisionRow.holds Tryz.pinned (OpenSpec.ofChange natDivisionSpec)

/-- ITS FALSE NEIGHBOUR: 'it returns false'. Refute it at one input. -/
def natDivisionWrong : ChangeSpec := { name := "natDivision", fn := fun _ => fun
  | [d1, d2, d3] => { results := [.lit (.bool false)], args := [d1, d2, d3] }
  | _ => none }
def NatDivisionWrongFalsely : Prop := natDivisionRow.holds Tryz.pinned (OpenSpec.ofChange natDivisionWrong)

/-- 'sorobanlaw01.NatPowers': WHATEVER THE INPUT: true; the input reads as it did. -/
def natPowersSpec : ChangeSpec := { name := "natPowers", fn := fun _ => fun
  | [d1, d2, d3, d4] => { results := [.lit (.bool true)], args := [d1, d2, d3, d4] }
  | _ => none }
def natPowersRow : OpenClaim := { program := "ytfaledeidjmooaagreat", sum := "7cd71f1775d22f5b732e50651a4f6ba9ac92c35a2024e19919185211b5fd4374", func := "soroban/sorobanlaw01.NatPowers", spec := "natPowers", unfollowed := true, recurses := true, apart := false }
def NatPowersSaid : Prop := natPowersRow.holds Tryz.pinned (OpenSpec.ofChange natPowersSpec)

/-- ITS FALSE NEIGHBOUR: 'it returns false'. Refute it at one input. -/
def natPowersWrong : ChangeSpec := { name := "natPowers", fn := fun _ => fun
  | [d1, d2, d3, d4] => { results := [.lit (.bool false)], args := [d1, d2, d3, d4] }
  | _ => none }
def NatPowersWrongFalsely : Prop := natPowersRow.holds Tryz.pinned (OpenSpec.ofChange natPowersWrong)

/-- 'sorobanlaw01.NatGcd': WHATEVER THE INPUT: true; the input reads as it did. -/
def natGcdSpec : ChangeSpec := { name := "natGcd", fn := fun _ => fun
  | [d1, d2, d3] => { results := [.lit (.bool true)], args := [d1, d2, d3] }
  | _ => none }
def natGcdRow : OpenClaim := { program := "ytfaledeidjmooaagreat", sum := "7cd71f1775d22f5b732e50651a4f6ba9ac92c35a2024e19919185211b5fd4374", func := "soroban/sorobanlaw01.NatGcd", spec := "natGcd", unfollowed := true, recurses := true, apart := false }
def NatGcdSaid : Prop := natGcdRow.holds Tryz.pinned (OpenSpec.ofChange natGcdSpec)

/-- ITS FALSE NEIGHBOUR: 'it returns false'. Refute it at one input. -/
def natGcdWrong : ChangeSpec := { name := "natGcd", fn := fun _ => fun
  | [d1, d2, d3] => { results := [.lit (.bool false)], args := [d1, d2, d3] }
  | _ => none }
def NatGcdWrongFalsely : Prop := natGcdRow.holds Tryz.pinned (OpenSpec.ofChange natGcdWrong)

/-- 'sorobanlaw01.NatBack': WHATEVER THE INPUT: true; the input reads as it did. -/
def natBackSpec : ChangeSpec := { name := "natBack", fn := fun _ => fun
  | [d1, d2] => { results := [.lit (.bool true)], args := [d1, d2] }
  | _ => none }
def natBackRow : OpenClaim := { program := "ytfaledeidjmooaagreat", sum := "7cd71f1775d22f5b732e50651a4f6ba9ac92c35a2024e19919185211b5fd4374", func := "soroban/sorobanlaw01.NatBack", spec := "natBack", unfollowed := true, recurses := true, apart := false }
def NatBackSaid : Prop := natBackRow.holds Tryz.pinned (OpenSpec.ofChange natBackSpec)

/-- ITS FALSE NEIGHBOUR: 'it returns false'. Refute it at one input. -/
def natBackWrong : ChangeSpec := { name := "natBack", fn := fun _ => fun
  | [d1, d2] => { results := [.lit (.bool false)], args := [d1, d2] }
  | _ => none }
def NatBackWrongFalsely : Prop := natBackRow.holds Tryz.pinned (OpenSpec.ofChange natBackWrong)

/- THE SECOND FORM. 'bulk': how many values and letters a reading holds, each counted each time it is reached (what is shared counts as often as it is met; a slice's spare places count too). A statement '..UptoSaid' is the law's where the arguments, and the package variables that the reading takes, are together of bulk at most 1048576: NARROWER than '..Said'. Prove '..Said' where nothing that the law and all that it calls make is longer than what came in: it says more and counts as full. Else prove '..UptoSaid'. A law counts once. -/
mutual
def uptoBulk {H : Type} : DataW H → Nat
  | .lit (.string bytes) => bytes.length + 1
  | .lit _ => 1
  | .nil => 1
  | .ptr d => uptoBulk d + 1
  | .slice elems spare => uptoBulkAll elems + uptoBulkAll spare + 1
  | .agg parts => uptoBulkAll parts + 1
  | .iface _ d => uptoBulk d + 1
  | .map entries => uptoBulkEntries entries + 1
  | .held _ => 1
def uptoBulkAll {H : Type} : List (DataW H) → Nat
  | [] => 0
  | d :: r => uptoBulk d + uptoBulkAll r
def uptoBulkEntries {H : Type} : List (Lit × DataW H) → Nat
  | [] => 0
  | x :: r => uptoBulkEntry x + uptoBulkEntries r
def uptoBulkEntry {H : Type} : Lit × DataW H → Nat
  | (.string bytes, d) => bytes.length + uptoBulk d + 1
  | (_, d) => uptoBulk d + 1
 end
def uptoSmall : (H : Type) → List (DataW H) → Bool := fun _ ds => decide (uptoBulkAll ds ≤ 1048576)
def OpenSpec.upto (s : _root_.Go.ChangeSpec) : _root_.Go.OpenSpec := { _root_.Go.OpenSpec.ofChange s with cond := some uptoSmall }

/-- 'sorobanlaw01.NatSums', WHERE WHAT IT READS IS OF BULK AT MOST 1048576: true; the input reads as it did. -/
def natSumsUptoRow : OpenClaim := { program := "ytfaledeidjmooaagreat", sum := "7cd71f1775d22f5b732e50651a4f6ba9ac92c35a2024e19919185211b5fd4374", func := "soroban/sorobanlaw01.NatSums", spec := "natSums", unfollowed := true, recurses := true, apart := false, narrowed := true }
def NatSumsUptoSaid : Prop := natSumsUptoRow.holds Tryz.pinned (OpenSpec.upto natSumsSpec)

/-- 'sorobanlaw01.NatProducts', WHERE WHAT IT READS IS OF BULK AT MOST 1048576: true; the input reads as it did. -/
def natProductsUptoRow : OpenClaim := { program := "ytfaledeidjmooaagreat", sum := "7cd71f1775d22f5b732e50651a4f6ba9ac92c35a2024e19919185211b5fd4374", func := "soroban/sorobanlaw01.NatProducts", spec := "natProducts", unfollowed := true, recurses := true, apart := false, narrowed := true }
def NatProductsUptoSaid : Prop := natProductsUptoRow.holds Tryz.pinned (OpenSpec.upto natProductsSpec)

/-- 'sorobanlaw01.NatQuotients', WHERE WHAT IT READS IS OF BULK AT MOST 1048576: true; the input reads as it did. -/
def natQuotientsUptoRow : OpenClaim := { program := "ytfaledeidjmooaagreat", sum := "7cd71f1775d22f5b732e50651a4f6ba9ac92c35a2024e19919185211b5fd4374", func := "soroban/sorobanlaw01.NatQuotients", spec := "natQuotients", unfollowed := true, recurses := true, apart := false, narrowed := true }
def NatQuotientsUptoSaid : Prop := natQuotientsUptoRow.holds Tryz.pinned (OpenSpec.upto natQuotientsSpec)

/-- 'sorobanlaw01.NatRoots', WHERE WHAT IT READS IS OF BULK AT MOST 1048576: true; the input reads as it did. -/
def natRootsUptoRow : OpenClaim := { program := "ytfaledeidjmooaagreat", sum := "7cd71f1775d22f5b732e50651a4f6ba9ac92c35a2024e19919185211b5fd4374", func := "soroban/sorobanlaw01.NatRoots", spec := "natRoots", unfollowed := true, recurses := true, apart := false, narrowed := true }
def NatRootsUptoSaid : Prop := natRootsUptoRow.holds Tryz.pinned (OpenSpec.upto natRootsSpec)

/-- 'sorobanlaw01.NatShifts', WHERE WHAT IT READS IS OF BULK AT MOST 1048576: true; the input reads as it did. -/
def natShiftsUptoRow : OpenClaim := { program := "ytfaledeidjmooaagreat", sum := "7cd71f1775d22f5b732e50651a4f6ba9ac92c35a2024e19919185211b5fd4374", func := "soroban/sorobanlaw01.NatShifts", spec := "natShifts", unfollowed := true, recurses := true, apart := false, narrowed := true }
def NatShiftsUptoSaid : Prop := natShiftsUptoRow.holds Tryz.pinned (OpenSpec.upto natShiftsSpec)

/-- 'sorobanlaw01.NatTexts', WHERE WHAT IT READS IS OF BULK AT MOST 1048576: true; the input reads as it did. -/
def natTextsUptoRow : OpenClaim := { program := "ytfaledeidjmooaagreat", sum := "7cd71f1775d22f5b732e50651a4f6ba9ac92c35a2024e19919185211b5fd4374", func := "soroban/sorobanlaw01.NatTexts", spec := "natTexts", unfollowed := true, recurses := true, apart := false, narrowed := true }
def NatTextsUptoSaid : Prop := natTextsUptoRow.holds Tryz.pinned (OpenSpec.upto natTextsSpec)

/-- 'sorobanlaw01.NatRoads', WHERE WHAT IT READS IS OF BULK AT MOST 1048576: true; the input reads as it did. -/
def natRoadsUptoRow : OpenClaim := { program := "ytfaledeidjmooaagreat", sum := "7cd71f1775d22f5b732e50651a4f6ba9ac92c35a2024e19919185211b5fd4374", func := "soroban/sorobanlaw01.NatRoads", spec := "natRoads", unfollowed := true, recurses := true, apart := false, narrowed := true }
def NatRoadsUptoSaid : Prop := natRoadsUptoRow.holds Tryz.pinned (OpenSpec.upto natRoadsSpec)

/-- 'sorobanlaw01.NatDivides', WHERE WHAT IT READS IS OF BULK AT MOST 1048576: true; the input reads as it did. -/
def natDividesUptoRow : OpenClaim := { program := "ytfaledeidjmooaagreat", sum := "7cd71f1775d22f5b732e50651a4f6ba9ac92c35a2024e19919185211b5fd4374", func := "soroban/sorobanlaw01.NatDivides", spec := "natDivides", unfollowed := true, recurses := true, named := ["math/bits.divideError", "math/bits.overflowError"], apart := false, narrowed := true }
def NatDividesUptoSaid : Prop := natDividesUptoRow.holds Tryz.pinned (OpenSpec.upto natDividesSpec)

/-- 'sorobanlaw01.NatRing', WHERE WHAT IT READS IS OF BULK AT MOST 1048576: true; the input reads as it did. -/
def natRingUptoRow : OpenClaim := { program := "ytfaledeidjmooaagreat", sum := "7cd71f1775d22f5b732e50651a4f6ba9ac92c35a2024e19919185211b5fd4374", func := "soroban/sorobanlaw01.NatRing", spec := "natRing", unfollowed := true, recurses := true, apart := false, narrowed := true }
def NatRingUptoSaid : Prop := natRingUptoRow.holds Tryz.pinned (OpenSpec.upto natRingSpec)

/-- 'sorobanlaw01.NatOrder', WHERE WHAT IT READS IS OF BULK AT MOST 1048576: true; the input reads as it did. -/
def natOrderUptoRow : OpenClaim := { program := "ytfaledeidjmooaagreat", sum := "7cd71f1775d22f5b732e50651a4f6ba9ac92c35a2024e19919185211b5fd4374", func := "soroban/sorobanlaw01.NatOrder", spec := "natOrder", unfollowed := true, recurses := true, apart := false, narrowed := true }
def NatOrderUptoSaid : Prop := natOrderUptoRow.holds Tryz.pinned (OpenSpec.upto natOrderSpec)

/-- 'sorobanlaw01.NatDivision', WHERE WHAT IT READS IS OF BULK AT MOST 1048576: true; the input reads as it did. -/
def natDivisionUptoRow : OpenClaim := { program := "ytfaledeidjmooaagreat", sum := "7cd71f1775d22f5b732e50651a4f6ba9ac92c35a2024e19919185211b5fd4374", func := "soroban/sorobanlaw01.NatDivision", spec := "natDivision", unfollowed := true, recurses := true, apart := false, narrowed := true }
def NatDivisionUptoSaid : Prop := natDivisionUptoRow.holds Tryz.pinned (OpenSpec.upto natDivisionSpec)

/-- 'sorobanlaw01.NatPowers', WHERE WHAT IT READS IS OF BULK AT MOST 1048576: true; the input reads as it did. -/
def natPowersUptoRow : OpenClaim := { program := "ytfaledeidjmooaagreat", sum := "7cd71f1775d22f5b732e50651a4f6ba9ac92c35a2024e19919185211b5fd4374", func := "soroban/sorobanlaw01.NatPowers", spec := "natPowers", unfollowed := true, recurses := true, apart := false, narrowed := true }
def NatPowersUptoSaid : Prop := natPowersUptoRow.holds Tryz.pinned (OpenSpec.upto natPowersSpec)

/-- 'sorobanlaw01.NatGcd', WHERE WHAT IT READS IS OF BULK AT MOST 1048576: true; the input reads as it did. -/
def natGcdUptoRow : OpenClaim := { program := "ytfaledeidjmooaagreat", sum := "7cd71f1775d22f5b732e50651a4f6ba9ac92c35a2024e19919185211b5fd4374", func := "soroban/sorobanlaw01.NatGcd", spec := "natGcd", unfollowed := true, recurses := true, apart := false, narrowed := true }
def NatGcdUptoSaid : Prop := natGcdUptoRow.holds Tryz.pinned (OpenSpec.upto natGcdSpec)

/-- 'sorobanlaw01.NatBack', WHERE WHAT IT READS IS OF BULK AT MOST 1048576: true; the input reads as it did. -/
def natBackUptoRow : OpenClaim := { program := "ytfaledeidjmooaagreat", sum := "7cd71f1775d22f5b732e50651a4f6ba9ac92c35a2024e19919185211b5fd4374", func := "soroban/sorobanlaw01.NatBack", spec := "natBack", unfollowed := true, recurses := true, apart := false, narrowed := true }
def NatBackUptoSaid : Prop := natBackUptoRow.holds Tryz.pinned (OpenSpec.upto natBackSpec)

end Rows
end Go.Proofs.YtfaledeidjmooaaGreat
