/-
  No cell of these rows narrows 'for every input' (looked for: loops, veiled, ifaces, maps, wideKeys, modest, calm, conditions, laid).
  DERIVED. THE GIVEN ROWS OF THIS SEAT. 5 by the template 'for every input the law returns true; each argument reads behind the call as it read before'; 0 by the template 'total and deterministic' (their statements: YtnofillkfiiogaaTotals.lean).
  GIVEN WITH THE SEED: the statements are not yours to turn. If you find one false, say at which input.
  Laid BY PROGRAM, IN A SANDBOX (cutbox-rows.mjs): the forced cells as the released guide's own fill.sh prints them over the translation 63c77ee23c2120c9… (all of the seat's roots in one cut). By AI agents, Wed Nov 11 2026. No macro, syntax, notation, axiom, sorry.
-/
import Derived.Test.YtnofillkfiiogaaChecked
import GoSem.Claim
import GoSem.ClaimJoined
import GoSem.ClaimMapViews
import Derived.JoinedTies
import Derived.KernelRfl
namespace Go.Proofs.Ytnofillkfiiogaa
/- THE CELL 'sum', in the pinned program and in every row, IS THE sha256 OF THE DUMP (.gsa) THAT YtnofillkfiiogaaProg.lean LOADS. Nothing in Lean hashes anything: it is a label: what it is worth is what the hold of that sum in a sandbox is worth. -/
noncomputable def Try.pinned : Pinned := { name := "ytnofillkfiiogaa", sum := "63c77ee23c2120c95a6da29d25d086aca65095168213a6613e124ff39545a1f5", checked := Try.checked }
namespace Rows
def none {H : Type} : Left H := { results := [], args := [] }

/-- 'phalanxlaw01.FixedSums': WHATEVER THE INPUT: true; the input reads as it did. -/
def fixedSumsSpec : ChangeSpec := { name := "fixedSums", fn := fun _ => fun
  | [d1, d2] => { results := [.lit (.bool true)], args := [d1, d2] }
  | _ => none }
def fixedSumsRow : OpenClaim := { program := "ytnofillkfiiogaa", sum := "63c77ee23c2120c95a6da29d25d086aca65095168213a6613e124ff39545a1f5", func := "phalanx/phalanxlaw01.FixedSums", spec := "fixedSums", apart := false }
def FixedSumsSaid : Prop := fixedSumsRow.holds Try.pinned (OpenSpec.ofChange fixedSumsSpec)

/-- ITS FALSE NEIGHBOUR: 'it returns false'. Refute it at one input. -/
def fixedSumsWrong : ChangeSpec := { name := "fixedSums", fn := fun _ => fun
  | [d1, d2] => { results := [.lit (.bool false)], args := [d1, d2] }
  | _ => none }
def FixedSumsWrongFalsely : Prop := fixedSumsRow.holds Try.pinned (OpenSpec.ofChange fixedSumsWrong)

/-- 'phalanxlaw01.FixedBits': WHATEVER THE INPUT: true; the input reads as it did. -/
def fixedBitsSpec : ChangeSpec := { name := "fixedBits", fn := fun _ => fun
  | [d1, d2] => { results := [.lit (.bool true)], args := [d1, d2] }
  | _ => none }
def fixedBitsRow : OpenClaim := { program := "ytnofillkfiiogaa", sum := "63c77ee23c2120c95a6da29d25d086aca65095168213a6613e124ff39545a1f5", func := "phalanx/phalanxlaw01.FixedBits", spec := "fixedBits", apart := false }
def FixedBitsSaid : Prop := fixedBitsRow.holds Try.pinned (OpenSpec.ofChange fixedBitsSpec)

/-- ITS FALSE NEIGHBOUR: 'it returns false'. Refute it at one input. -/
def fixedBitsWrong : ChangeSpec := { name := "fixedBits", fn := fun _ => fun
  | [d1, d2] => { results := [.lit (.bool false)], args := [d1, d2] }
  | _ => none }
def FixedBitsWrongFalsely : Prop := fixedBitsRow.holds Try.pinned (OpenSpec.ofChange fixedBitsWrong)

/-- 'phalanxlaw01.FixedParts': WHATEVER THE INPUT: true; the input reads as it did. -/
def fixedPartsSpec : ChangeSpec := { name := "fixedParts", fn := fun _ => fun
  | [d1, d2] => { results := [.lit (.bool true)], args := [d1, d2] }
  | _ => none }
def fixedPartsRow : OpenClaim := { program := "ytnofillkfiiogaa", sum := "63c77ee23c2120c95a6da29d25d086aca65095168213a6613e124ff39545a1f5", func := "phalanx/phalanxlaw01.FixedParts", spec := "fixedParts", named := ["math/bits.divideError", "math/bits.overflowError"], apart := false }
def FixedPartsSaid : Prop := fixedPartsRow.holds Try.pinned (OpenSpec.ofChange fixedPartsSpec)

/-- ITS FALSE NEIGHBOUR: 'it returns false'. Refute it at one input. -/
def fixedPartsWrong : ChangeSpec := { name := "fixedParts", fn := fun _ => fun
  | [d1, d2] => { results := [.lit (.bool false)], args := [d1, d2] }
  | _ => none }
def FixedPartsWrongFalsely : Prop := fixedPartsRow.holds Try.pinned (OpenSpec.ofChange fixedPartsWrong)

/-- 'phalanxlaw01.FixedOctiles': WHATEVER THE INPUT: true; the input reads as it did. -/
def fixedOctilesSpec : ChangeSpec := { name := "fixedOctiles", fn := fun _ => fun
  | [d1, d2] => { results := [.lit (.bool true)], args := [d1, d2] }
  | _ => none }
def fixedOctilesRow : OpenClaim := { program := "ytnofillkfiiogaa", sum := "63c77ee23c2120c95a6da29d25d086aca65095168213a6613e124ff39545a1f5", func := "phalanx/phalanxlaw01.FixedOctiles", spec := "fixedOctiles", apart := false }
def FixedOctilesSaid : Prop := fixedOctilesRow.holds Try.pinned (OpenSpec.ofChange fixedOctilesSpec)

/-- ITS FALSE NEIGHBOUR: 'it returns false'. Refute it at one input. -/
def fixedOctilesWrong : ChangeSpec := { name := "fixedOctiles", fn := fun _ => fun
  | [d1, d2] => { results := [.lit (.bool false)], args := [d1, d2] }
  | _ => none }
def FixedOctilesWrongFalsely : Prop := fixedOctilesRow.holds Try.pinned (OpenSpec.ofChange fixedOctilesWrong)

/-- 'phalanxlaw01.FixedUndoes': WHATEVER THE INPUT: true; the input reads as it did. -/
def fixedUndoesSpec : ChangeSpec := { name := "fixedUndoes", fn := fun _ => fun
  | [d1, d2] => { results := [.lit (.bool true)], args := [d1, d2] }
  | _ => none }
def fixedUndoesRow : OpenClaim := { program := "ytnofillkfiiogaa", sum := "63c77ee23c2120c95a6da29d25d086aca65095168213a6613e124ff39545a1f5", func := "phalanx/phalanxlaw01.FixedUndoes", spec := "fixedUndoes", apart := false }
def FixedUndoesSaid : Prop := fixedUndoesRow.holds Try.pinned (OpenSpec.ofChange fixedUndoesSpec)

/-- ITS FALSE NEIGHBOUR: 'it returns false'. Refute it at one input. -/
def fixedUndoesWrong : ChangeSpec := { name := "fixedUndoes", fn := fun _ => fun
  | [d1, d2] => { results := [.lit (.bool false)], args := [d1, d2] }
  | _ => none }
def FixedUndoesWrongFalsely : Prop := fixedUndoesRow.holds Try.pinned (OpenSpec.ofChange fixedUndoesWrong)

/- THE SECOND FORM. 'bulk': how many values and letters a reading holds, each counted each time it is reached (what is shared counts as often as it is met; a slice's spare places count too). A statement '..UptoSaid' is the law's where the arguments, and the package variables that the reading takes, are together of bulk at most 1048576: NARROWER than '..Said'. Prove '..Said' where nothing that the law and all that it calls make is longer than what came in: it says more and counts as full. Else prove '..UptoSaid'. A law counts once. -/
mutual
def uptoBulk {H : Type} : DataW H → Nat
  | .lit (.string bytes) => bytes.length + 1
  | .lit _ => 1
  | .nil => 1
  | .ptr d => uptoBulk d + 1
  | .slice elems spare => uptoBulkAll elems + uptoBulkAll spare + 1
  | .agg parts => uptoBulkAll parts + 1
  | .iface _ d => uptoBulk d + 1
  | .map entries => uptoBulkEntries entries + 1
  | .held _ => 1
def uptoBulkAll {H : Type} : List (DataW H) → Nat
  | [] => 0
  | d :: r => uptoBulk d + uptoBulkAll r
def uptoBulkEntries {H : Type} : List (Lit × DataW H) → Nat
  | [] => 0
  | x :: r => uptoBulkEntry x + uptoBulkEntries r
def uptoBulkEntry {H : Type} : Lit × DataW H → Nat
  | (.string bytes, d) => bytes.length + uptoBulk d + 1
  | (_, d) => uptoBulk d + 1
 end
def uptoSmall : (H : Type) → List (DataW H) → Bool := fun _ ds => decide (uptoBulkAll ds ≤ 1048576)
def OpenSpec.upto (s : _root_.Go.ChangeSpec) : _root_.Go.OpenSpec := { _root_.Go.OpenSpec.ofChange s with cond := some uptoSmall }

/-- 'phalanxlaw01.FixedSums', WHERE WHAT IT READS IS OF BULK AT MOST 1048576: true; the input reads as it did. -/
def fixedSumsUptoRow : OpenClaim := { program := "ytnofillkfiiogaa", sum := "63c77ee23c2120c95a6da29d25d086aca65095168213a6613e124ff39545a1f5", func := "phalanx/phalanxlaw01.FixedSums", spec := "fixedSums", apart := false, narrowed := true }
def FixedSumsUptoSaid : Prop := fixedSumsUptoRow.holds Try.pinned (OpenSpec.upto fixedSumsSpec)

/-- 'phalanxlaw01.FixedBits', WHERE WHAT IT READS IS OF BULK AT MOST 1048576: true; the input reads as it did. -/
def fixedBitsUptoRow : OpenClaim := { program := "ytnofillkfiiogaa", sum := "63c77ee23c2120c95a6da29d25d086aca65095168213a6613e124ff39545a1f5", func := "phalanx/phalanxlaw01.FixedBits", spec := "fixedBits", apart := false, narrowed := true }
def FixedBitsUptoSaid : Prop := fixedBitsUptoRow.holds Try.pinned (OpenSpec.upto fixedBitsSpec)

/-- 'phalanxlaw01.FixedParts', WHERE WHAT IT READS IS OF BULK AT MOST 1048576: true; the input reads as it did. -/
def fixedPartsUptoRow : OpenClaim := { program := "ytnofillkfiiogaa", sum := "63c77ee23c2120c95a6da29d25d086aca65095168213a6613e124ff39545a1f5", func := "phalanx/phalanxlaw01.FixedParts", spec := "fixedParts", named := ["math/bits.divideError", "math/bits.overflowError"], apart := false, narrowed := true }
def FixedPartsUptoSaid : Prop := fixedPartsUptoRow.holds Try.pinned (OpenSpec.upto fixedPartsSpec)

/-- 'phalanxlaw01.FixedOctiles', WHERE WHAT IT READS IS OF BULK AT MOST 1048576: true; the input reads as it did. -/
def fixedOctilesUptoRow : OpenClaim := { program := "ytnofillkfiiogaa", sum := "63c77ee23c2120c95a6da29d25d086aca65095168213a6613e124ff39545a1f5", func := "phalanx/phalanxlaw01.FixedOctiles", spec := "fixedOctiles", apart := false, narrowed := true }
def FixedOctilesUptoSaid : Prop := fixedOctilesUptoRow.holds Try.pinned (OpenSpec.upto fixedOctilesSpec)

/-- 'phalanxlaw01.FixedUndoes', WHERE WHAT IT READS IS OF BULK AT MOST 1048576: true; the input reads as it did. -/
def fixedUndoesUptoRow : OpenClaim := { program := "ytnofillkfiiogaa", sum := "63c77ee23c2120c95a6da29d25d086aca65095168213a6613e124ff39545a1f5", func := "phalanx/phalanxlaw01.FixedUndoes", spec := "fixedUndoes", apart := false, narrowed := true }
def FixedUndoesUptoSaid : Prop := fixedUndoesUptoRow.holds Try.pinned (OpenSpec.upto fixedUndoesSpec)

end Rows
end Go.Proofs.Ytnofillkfiiogaa
