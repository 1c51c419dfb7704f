/-
  No cell of these rows narrows 'for every input' (looked for: loops, veiled, ifaces, maps, wideKeys, modest, calm, conditions, laid).
  DERIVED. THE GIVEN ROWS OF THIS SEAT. 8 by the template 'for every input the law returns true; each argument reads behind the call as it read before'; 0 by the template 'total and deterministic' (their statements: YtkbghamkalidcaaGreatTotals.lean).
  GIVEN WITH THE SEED: the statements are not yours to turn. If you find one false, say at which input.
  Laid BY PROGRAM, IN A SANDBOX (cutbox-rows.mjs): the forced cells as the released guide's own fill.sh prints them over the translation 93ec5c28460ef90a… (all of the seat's roots in one cut). By AI agents, Wed Nov 11 2026. No macro, syntax, notation, axiom, sorry.
-/
import Derived.Test.YtkbghamkalidcaaGreatChecked
import GoSem.Claim
import GoSem.ClaimJoined
import GoSem.ClaimMapViews
import Derived.JoinedTies
import Derived.KernelRfl
namespace Go.Proofs.YtkbghamkalidcaaGreat
/- THE CELL 'sum', in the pinned program and in every row, IS THE sha256 OF THE DUMP (.gsa) THAT YtkbghamkalidcaaGreatProg.lean LOADS. Nothing in Lean hashes anything: it is a label: what it is worth is what the hold of that sum in a sandbox is worth. -/
noncomputable def Tryz.pinned : Pinned := { name := "ytkbghamkalidcaagreat", sum := "93ec5c28460ef90ab5973981b4a493c0e2bb061b91edd8e88b1bd5d6be5b0ec7", checked := Tryz.checked }
namespace Rows
def none {H : Type} : Left H := { results := [], args := [] }

/-- 'sorobanlaw02.WholeTwos': WHATEVER THE INPUT: true; the input reads as it did. -/
def wholeTwosSpec : ChangeSpec := { name := "wholeTwos", fn := fun _ => fun
  | [d1, d2, d3] => { results := [.lit (.bool true)], args := [d1, d2, d3] }
  | _ => none }
def wholeTwosRow : OpenClaim := { program := "ytkbghamkalidcaagreat", sum := "93ec5c28460ef90ab5973981b4a493c0e2bb061b91edd8e88b1bd5d6be5b0ec7", func := "soroban/sorobanlaw02.WholeTwos", spec := "wholeTwos", unfollowed := true, recurses := true, apart := false }
def WholeTwosSaid : Prop := wholeTwosRow.holds Tryz.pinned (OpenSpec.ofChange wholeTwosSpec)

/-- ITS FALSE NEIGHBOUR: 'it returns false'. Refute it at one input. -/
def wholeTwosWrong : ChangeSpec := { name := "wholeTwos", fn := fun _ => fun
  | [d1, d2, d3] => { results := [.lit (.bool false)], args := [d1, d2, d3] }
  | _ => none }
def WholeTwosWrongFalsely : Prop := wholeTwosRow.holds Tryz.pinned (OpenSpec.ofChange wholeTwosWrong)

/-- 'sorobanlaw02.WholeBits': WHATEVER THE INPUT: true; the input reads as it did. -/
def wholeBitsSpec : ChangeSpec := { name := "wholeBits", fn := fun _ => fun
  | [d1, d2, d3, d4, d5, d6] => { results := [.lit (.bool true)], args := [d1, d2, d3, d4, d5, d6] }
  | _ => none }
def wholeBitsRow : OpenClaim := { program := "ytkbghamkalidcaagreat", sum := "93ec5c28460ef90ab5973981b4a493c0e2bb061b91edd8e88b1bd5d6be5b0ec7", func := "soroban/sorobanlaw02.WholeBits", spec := "wholeBits", unfollowed := true, recurses := true, apart := false }
def WholeBitsSaid : Prop := wholeBitsRow.holds Tryz.pinned (OpenSpec.ofChange wholeBitsSpec)

/-- ITS FALSE NEIGHBOUR: 'it returns false'. Refute it at one input. -/
def wholeBitsWrong : ChangeSpec := { name := "wholeBits", fn := fun _ => fun
  | [d1, d2, d3, d4, d5, d6] => { results := [.lit (.bool false)], args := [d1, d2, d3, d4, d5, d6] }
  | _ => none }
def WholeBitsWrongFalsely : Prop := wholeBitsRow.holds Tryz.pinned (OpenSpec.ofChange wholeBitsWrong)

/-- 'sorobanlaw02.WholeCommon': WHATEVER THE INPUT: true; the input reads as it did. -/
def wholeCommonSpec : ChangeSpec := { name := "wholeCommon", fn := fun _ => fun
  | [d1, d2, d3] => { results := [.lit (.bool true)], args := [d1, d2, d3] }
  | _ => none }
def wholeCommonRow : OpenClaim := { program := "ytkbghamkalidcaagreat", sum := "93ec5c28460ef90ab5973981b4a493c0e2bb061b91edd8e88b1bd5d6be5b0ec7", func := "soroban/sorobanlaw02.WholeCommon", spec := "wholeCommon", unfollowed := true, recurses := true, apart := false }
def WholeCommonSaid : Prop := wholeCommonRow.holds Tryz.pinned (OpenSpec.ofChange wholeCommonSpec)

/-- ITS FALSE NEIGHBOUR: 'it returns false'. Refute it at one input. -/
def wholeCommonWrong : ChangeSpec := { name := "wholeCommon", fn := fun _ => fun
  | [d1, d2, d3] => { results := [.lit (.bool false)], args := [d1, d2, d3] }
  | _ => none }
def WholeCommonWrongFalsely : Prop := wholeCommonRow.holds Tryz.pinned (OpenSpec.ofChange wholeCommonWrong)

/-- 'sorobanlaw02.WholeDivisors': WHATEVER THE INPUT: true; the input reads as it did. -/
def wholeDivisorsSpec : ChangeSpec := { name := "wholeDivisors", fn := fun _ => fun
  | [d1, d2] => { results := [.lit (.bool true)], args := [d1, d2] }
  | _ => none }
def wholeDivisorsRow : OpenClaim := { program := "ytkbghamkalidcaagreat", sum := "93ec5c28460ef90ab5973981b4a493c0e2bb061b91edd8e88b1bd5d6be5b0ec7", func := "soroban/sorobanlaw02.WholeDivisors", spec := "wholeDivisors", unfollowed := true, recurses := true, apart := false }
def WholeDivisorsSaid : Prop := wholeDivisorsRow.holds Tryz.pinned (OpenSpec.ofChange wholeDivisorsSpec)

/-- ITS FALSE NEIGHBOUR: 'it returns false'. Refute it at one input. -/
def wholeDivisorsWrong : ChangeSpec := { name := "wholeDivisors", fn := fun _ => fun
  | [d1, d2] => { results := [.lit (.bool false)], args := [d1, d2] }
  | _ => none }
def WholeDivisorsWrongFalsely : Prop := wholeDivisorsRow.holds Tryz.pinned (OpenSpec.ofChange wholeDivisorsWrong)

/-- 'sorobanlaw02.WholePowers': WHATEVER THE INPUT: true; the input reads as it did. -/
def wholePowersSpec : ChangeSpec := { name := "wholePowers", fn := fun _ => fun
  | [d1, d2, d3, d4] => { results := [.lit (.bool true)], args := [d1, d2, d3, d4] }
  | _ => none }
def wholePowersRow : OpenClaim := { program := "ytkbghamkalidcaagreat", sum := "93ec5c28460ef90ab5973981b4a493c0e2bb061b91edd8e88b1bd5d6be5b0ec7", func := "soroban/sorobanlaw02.WholePowers", spec := "wholePowers", inPlace := ["math/bits.Add64", "math/bits.Sub64"], unfollowed := true, recurses := true, named := ["math/bits.divideError", "math/bits.overflowError"], apart := false }
def WholePowersSaid : Prop := wholePowersRow.holds Tryz.pinned (OpenSpec.ofChange wholePowersSpec)

/-- ITS FALSE NEIGHBOUR: 'it returns false'. Refute it at one input. -/
def wholePowersWrong : ChangeSpec := { name := "wholePowers", fn := fun _ => fun
  | [d1, d2, d3, d4] => { results := [.lit (.bool false)], args := [d1, d2, d3, d4] }
  | _ => none }
def WholePowersWrongFalsely : Prop := wholePowersRow.holds Tryz.pinned (OpenSpec.ofChange wholePowersWrong)

/-- 'sorobanlaw02.WholeFermat': WHATEVER THE INPUT: true; the input reads as it did. -/
def wholeFermatSpec : ChangeSpec := { name := "wholeFermat", fn := fun _ => fun
  | [d1, d2, d3, d4, d5] => { results := [.lit (.bool true)], args := [d1, d2, d3, d4, d5] }
  | _ => none }
def wholeFermatRow : OpenClaim := { program := "ytkbghamkalidcaagreat", sum := "93ec5c28460ef90ab5973981b4a493c0e2bb061b91edd8e88b1bd5d6be5b0ec7", func := "soroban/sorobanlaw02.WholeFermat", spec := "wholeFermat", inPlace := ["math/bits.Add64", "math/bits.Sub64"], unfollowed := true, recurses := true, named := ["math/bits.divideError", "math/bits.overflowError"], apart := false }
def WholeFermatSaid : Prop := wholeFermatRow.holds Tryz.pinned (OpenSpec.ofChange wholeFermatSpec)

/-- ITS FALSE NEIGHBOUR: 'it returns false'. Refute it at one input. -/
def wholeFermatWrong : ChangeSpec := { name := "wholeFermat", fn := fun _ => fun
  | [d1, d2, d3, d4, d5] => { results := [.lit (.bool false)], args := [d1, d2, d3, d4, d5] }
  | _ => none }
def WholeFermatWrongFalsely : Prop := wholeFermatRow.holds Tryz.pinned (OpenSpec.ofChange wholeFermatWrong)

/-- 'sorobanlaw02.WholeTexts': WHATEVER THE INPUT: true; the input reads as it did. -/
def wholeTextsSpec : ChangeSpec := { name := "wholeTexts", fn := fun _ => fun
  | [d1, d2, d3, d4] => { results := [.lit (.bool true)], args := [d1, d2, d3, d4] }
  | _ => none }
def wholeTextsRow : OpenClaim := { program := "ytkbghamkalidcaagreat", sum := "93ec5c28460ef90ab5973981b4a493c0e2bb061b91edd8e88b1bd5d6be5b0ec7", func := "soroban/sorobanlaw02.WholeTexts", spec := "wholeTexts", inPlace := ["internal/bytealg.IndexByteString"], unfollowed := true, recurses := true, apart := false }
def WholeTextsSaid : Prop := wholeTextsRow.holds Tryz.pinned (OpenSpec.ofChange wholeTextsSpec)

/-- ITS FALSE NEIGHBOUR: 'it returns false'. Refute it at one input. -/
def wholeTextsWrong : ChangeSpec := { name := "wholeTexts", fn := fun _ => fun
  | [d1, d2, d3, d4] => { results := [.lit (.bool false)], args := [d1, d2, d3, d4] }
  | _ => none }
def WholeTextsWrongFalsely : Prop := wholeTextsRow.holds Tryz.pinned (OpenSpec.ofChange wholeTextsWrong)

/-- 'sorobanlaw02.WholeBack': WHATEVER THE INPUT: true; the input reads as it did. -/
def wholeBackSpec : ChangeSpec := { name := "wholeBack", fn := fun _ => fun
  | [d1, d2, d3] => { results := [.lit (.bool true)], args := [d1, d2, d3] }
  | _ => none }
def wholeBackRow : OpenClaim := { program := "ytkbghamkalidcaagreat", sum := "93ec5c28460ef90ab5973981b4a493c0e2bb061b91edd8e88b1bd5d6be5b0ec7", func := "soroban/sorobanlaw02.WholeBack", spec := "wholeBack", inPlace := ["internal/bytealg.IndexByteString"], unfollowed := true, recurses := true, apart := false }
def WholeBackSaid : Prop := wholeBackRow.holds Tryz.pinned (OpenSpec.ofChange wholeBackSpec)

/-- ITS FALSE NEIGHBOUR: 'it returns false'. Refute it at one input. -/
def wholeBackWrong : ChangeSpec := { name := "wholeBack", fn := fun _ => fun
  | [d1, d2, d3] => { results := [.lit (.bool false)], args := [d1, d2, d3] }
  | _ => none }
def WholeBackWrongFalsely : Prop := wholeBackRow.holds Tryz.pinned (OpenSpec.ofChange wholeBackWrong)

/- THE SECOND FORM. 'bulk': how many values and letters a reading holds, each counted each time it is reached (what is shared counts as often as it is met; a slice's spare places count too). A statement '..UptoSaid' is the law's where the arguments, and the package variables that the reading takes, are together of bulk at most 1048576: NARROWER than '..Said'. Prove '..Said' where nothing that the law and all that it calls make is longer than what came in: it says more and counts as full. Else prove '..UptoSaid'. A law counts once. -/
mutual
def uptoBulk {H : Type} : DataW H → Nat
  | .lit (.string bytes) => bytes.length + 1
  | .lit _ => 1
  | .nil => 1
  | .ptr d => uptoBulk d + 1
  | .slice elems spare => uptoBulkAll elems + uptoBulkAll spare + 1
  | .agg parts => uptoBulkAll parts + 1
  | .iface _ d => uptoBulk d + 1
  | .map entries => uptoBulkEntries entries + 1
  | .held _ => 1
def uptoBulkAll {H : Type} : List (DataW H) → Nat
  | [] => 0
  | d :: r => uptoBulk d + uptoBulkAll r
def uptoBulkEntries {H : Type} : List (Lit × DataW H) → Nat
  | [] => 0
  | x :: r => uptoBulkEntry x + uptoBulkEntries r
def uptoBulkEntry {H : Type} : Lit × DataW H → Nat
  | (.string bytes, d) => bytes.length + uptoBulk d + 1
  | (_, d) => uptoBulk d + 1
 end
def uptoSmall : (H : Type) → List (DataW H) → Bool := fun _ ds => decide (uptoBulkAll ds ≤ 1048576)
def OpenSpec.upto (s : _root_.Go.ChangeSpec) : _root_.Go.OpenSpec := { _root_.Go.OpenSpec.ofChange s with cond := some uptoSmall }

/-- 'sorobanlaw02.WholeTwos', WHERE WHAT IT READS IS OF BULK AT MOST 1048576: true; the input reads as it did. -/
def wholeTwosUptoRow : OpenClaim := { program := "ytkbghamkalidcaagreat", sum := "93ec5c28460ef90ab5973981b4a493c0e2bb061b91edd8e88b1bd5d6be5b0ec7", func := "soroban/sorobanlaw02.WholeTwos", spec := "wholeTwos", unfollowed := true, recurses := true, apart := false, narrowed := true }
def WholeTwosUptoSaid : Prop := wholeTwosUptoRow.holds Tryz.pinned (OpenSpec.upto wholeTwosSpec)

/-- 'sorobanlaw02.WholeBits', WHERE WHAT IT READS IS OF BULK AT MOST 1048576: true; the input reads as it did. -/
def wholeBitsUptoRow : OpenClaim := { program := "ytkbghamkalidcaagreat", sum := "93ec5c28460ef90ab5973981b4a493c0e2bb061b91edd8e88b1bd5d6be5b0ec7", func := "soroban/sorobanlaw02.WholeBits", spec := "wholeBits", unfollowed := true, recurses := true, apart := false, narrowed := true }
def WholeBitsUptoSaid : Prop := wholeBitsUptoRow.holds Tryz.pinned (OpenSpec.upto wholeBitsSpec)

/-- 'sorobanlaw02.WholeCommon', WHERE WHAT IT READS IS OF BULK AT MOST 1048576: true; the input reads as it did. -/
def wholeCommonUptoRow : OpenClaim := { program := "ytkbghamkalidcaagreat", sum := "93ec5c28460ef90ab5973981b4a493c0e2bb061b91edd8e88b1bd5d6be5b0ec7", func := "soroban/sorobanlaw02.WholeCommon", spec := "wholeCommon", unfollowed := true, recurses := true, apart := false, narrowed := true }
def WholeCommonUptoSaid : Prop := wholeCommonUptoRow.holds Tryz.pinned (OpenSpec.upto wholeCommonSpec)

/-- 'sorobanlaw02.WholeDivisors', WHERE WHAT IT READS IS OF BULK AT MOST 1048576: true; the input reads as it did. -/
def wholeDivisorsUptoRow : OpenClaim := { program := "ytkbghamkalidcaagreat", sum := "93ec5c28460ef90ab5973981b4a493c0e2bb061b91edd8e88b1bd5d6be5b0ec7", func := "soroban/sorobanlaw02.WholeDivisors", spec := "wholeDivisors", unfollowed := true, recurses := true, apart := false, narrowed := true }
def WholeDivisorsUptoSaid : Prop := wholeDivisorsUptoRow.holds Tryz.pinned (OpenSpec.upto wholeDivisorsSpec)

/-- 'sorobanlaw02.WholePowers', WHERE WHAT IT READS IS OF BULK AT MOST 1048576: true; the input reads as it did. -/
def wholePowersUptoRow : OpenClaim := { program := "ytkbghamkalidcaagreat", sum := "93ec5c28460ef90ab5973981b4a493c0e2bb061b91edd8e88b1bd5d6be5b0ec7", func := "soroban/sorobanlaw02.WholePowers", spec := "wholePowers", inPlace := ["math/bits.Add64", "math/bits.Sub64"], unfollowed := true, recurses := true, named := ["math/bits.divideError", "math/bits.overflowError"], apart := false, narrowed := true }
def WholePowersUptoSaid : Prop := wholePowersUptoRow.holds Tryz.pinned (OpenSpec.upto wholePowersSpec)

/-- 'sorobanlaw02.WholeFermat', WHERE WHAT IT READS IS OF BULK AT MOST 1048576: true; the input reads as it did. -/
def wholeFermatUptoRow : OpenClaim := { program := "ytkbghamkalidcaagreat", sum := "93ec5c28460ef90ab5973981b4a493c0e2bb061b91edd8e88b1bd5d6be5b0ec7", func := "soroban/sorobanlaw02.WholeFermat", spec := "wholeFermat", inPlace := ["math/bits.Add64", "math/bits.Sub64"], unfollowed := true, recurses := true, named := ["math/bits.divideError", "math/bits.overflowError"], apart := false, narrowed := true }
def WholeFermatUptoSaid : Prop := wholeFermatUptoRow.holds Tryz.pinned (OpenSpec.upto wholeFermatSpec)

/-- 'sorobanlaw02.WholeTexts', WHERE WHAT IT READS IS OF BULK AT MOST 1048576: true; the input reads as it did. -/
def wholeTextsUptoRow : OpenClaim := { program := "ytkbghamkalidcaagreat", sum := "93ec5c28460ef90ab5973981b4a493c0e2bb061b91edd8e88b1bd5d6be5b0ec7", func := "soroban/sorobanlaw02.WholeTexts", spec := "wholeTexts", inPlace := ["internal/bytealg.IndexByteString"], unfollowed := true, recurses := true, apart := false, narrowed := true }
def WholeTextsUptoSaid : Prop := wholeTextsUptoRow.holds Tryz.pinned (OpenSpec.upto wholeTextsSpec)

/-- 'sorobanlaw02.WholeBack', WHERE WHAT IT READS IS OF BULK AT MOST 1048576: true; the input reads as it did. -/
def wholeBackUptoRow : OpenClaim := { program := "ytkbghamkalidcaagreat", sum := "93ec5c28460ef90ab5973981b4a493c0e2bb061b91edd8e88b1bd5d6be5b0ec7", func := "soroban/sorobanlaw02.WholeBack", spec := "wholeBack", inPlace := ["internal/bytealg.IndexByteString"], unfollowed := true, recurses := true, apart := false, narrowed := true }
def WholeBackUptoSaid : Prop := wholeBackUptoRow.holds Tryz.pinned (OpenSpec.upto wholeBackSpec)

end Rows
end Go.Proofs.YtkbghamkalidcaaGreat
