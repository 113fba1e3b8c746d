/-
  No cell of these rows narrows 'for every input' (looked for: loops, veiled, ifaces, maps, wideKeys, modest, calm, conditions, laid).
  DERIVED. THE GIVEN ROWS OF THIS SEAT. 3 by the template 'for every input the law returns true; each argument reads behind the call as it read before'; 0 by the template 'total and deterministic' (their statements: YtankkngjhgpcaaaTotals.lean).
  GIVEN WITH THE SEED: the statements are not yours to turn. If you find one false, say at which input.
  Laid BY PROGRAM, IN A SANDBOX (cutbox-rows.mjs): the forced cells as the released guide's own fill.sh prints them over the translation cd322747acfe1c8f… (all of the seat's roots in one cut). By AI agents, Wed Nov 11 2026. No macro, syntax, notation, axiom, sorry.
-/
import Derived.Test.YtankkngjhgpcaaaChecked
import GoSem.Claim
import GoSem.ClaimJoined
import GoSem.ClaimMapViews
import Derived.JoinedTies
import Derived.KernelRfl
namespace Go.Proofs.Ytankkngjhgpcaaa
/- THE CELL 'sum', in the pinned program and in every row, IS THE sha256 OF THE DUMP (.gsa) THAT YtankkngjhgpcaaaProg.lean LOADS. Nothing in Lean hashes anything: it is a label: what it is worth is what the hold of that sum in a sandbox is worth. -/
noncomputable def Try.pinned : Pinned := { name := "ytankkngjhgpcaaa", sum := "cd322747acfe1c8f3b0d74ad721b0a55f1c4677956a114fdd376717cee5ba11c", checked := Try.checked }
namespace Rows
def none {H : Type} : Left H := { results := [], args := [] }

/-- 'phalanxlaw17.SlotsLayouts': WHATEVER THE INPUT: true; the input reads as it did. -/
def slotsLayoutsSpec : ChangeSpec := { name := "slotsLayouts", fn := fun _ => fun
  | [d1, d2] => { results := [.lit (.bool true)], args := [d1, d2] }
  | _ => none }
def slotsLayoutsRow : OpenClaim := { program := "ytankkngjhgpcaaa", sum := "cd322747acfe1c8f3b0d74ad721b0a55f1c4677956a114fdd376717cee5ba11c", func := "phalanx/phalanxlaw17.SlotsLayouts", spec := "slotsLayouts", apart := false }
def SlotsLayoutsSaid : Prop := slotsLayoutsRow.holds Try.pinned (OpenSpec.ofChange slotsLayoutsSpec)

/-- ITS FALSE NEIGHBOUR: 'it returns false'. Refute it at one input. -/
def slotsLayoutsWrong : ChangeSpec := { name := "slotsLayouts", fn := fun _ => fun
  | [d1, d2] => { results := [.lit (.bool false)], args := [d1, d2] }
  | _ => none }
def SlotsLayoutsWrongFalsely : Prop := slotsLayoutsRow.holds Try.pinned (OpenSpec.ofChange slotsLayoutsWrong)

/-- 'phalanxlaw17.SlotsBoxes': WHATEVER THE INPUT: true; the input reads as it did. -/
def slotsBoxesSpec : ChangeSpec := { name := "slotsBoxes", fn := fun _ => fun
  | [d1, d2] => { results := [.lit (.bool true)], args := [d1, d2] }
  | _ => none }
def slotsBoxesRow : OpenClaim := { program := "ytankkngjhgpcaaa", sum := "cd322747acfe1c8f3b0d74ad721b0a55f1c4677956a114fdd376717cee5ba11c", func := "phalanx/phalanxlaw17.SlotsBoxes", spec := "slotsBoxes", apart := false }
def SlotsBoxesSaid : Prop := slotsBoxesRow.holds Try.pinned (OpenSpec.ofChange slotsBoxesSpec)

/-- ITS FALSE NEIGHBOUR: 'it returns false'. Refute it at one input. -/
def slotsBoxesWrong : ChangeSpec := { name := "slotsBoxes", fn := fun _ => fun
  | [d1, d2] => { results := [.lit (.bool false)], args := [d1, d2] }
  | _ => none }
def SlotsBoxesWrongFalsely : Prop := slotsBoxesRow.holds Try.pinned (OpenSpec.ofChange slotsBoxesWrong)

/-- 'phalanxlaw17.SlotsApart': WHATEVER THE INPUT: true; the input reads as it did. -/
def slotsApartSpec : ChangeSpec := { name := "slotsApart", fn := fun _ => fun
  | [d1, d2] => { results := [.lit (.bool true)], args := [d1, d2] }
  | _ => none }
def slotsApartRow : OpenClaim := { program := "ytankkngjhgpcaaa", sum := "cd322747acfe1c8f3b0d74ad721b0a55f1c4677956a114fdd376717cee5ba11c", func := "phalanx/phalanxlaw17.SlotsApart", spec := "slotsApart", apart := false }
def SlotsApartSaid : Prop := slotsApartRow.holds Try.pinned (OpenSpec.ofChange slotsApartSpec)

/-- ITS FALSE NEIGHBOUR: 'it returns false'. Refute it at one input. -/
def slotsApartWrong : ChangeSpec := { name := "slotsApart", fn := fun _ => fun
  | [d1, d2] => { results := [.lit (.bool false)], args := [d1, d2] }
  | _ => none }
def SlotsApartWrongFalsely : Prop := slotsApartRow.holds Try.pinned (OpenSpec.ofChange slotsApartWrong)

/- THE SECOND FORM. 'bulk': how many values and letters a reading holds, each counted each time it is reached (what is shared counts as often as it is met; a slice's spare places count too). A statement '..UptoSaid' is the law's where the arguments, and the package variables that the reading takes, are together of bulk at most 1048576: NARROWER than '..Said'. Prove '..Said' where nothing that the law and all that it calls make is longer than what came in: it says more and counts as full. Else prove '..UptoSaid'. A law counts once. -/
mutual
def uptoBulk {H : Type} : DataW H → Nat
  | .lit (.string bytes) => bytes.length + 1
  | .lit _ => 1
  | .nil => 1
  | .ptr d => uptoBulk d + 1
  | .slice elems spare => uptoBulkAll elems + uptoBulkAll spare + 1
  | .agg parts => uptoBulkAll parts + 1
  | .iface _ d => uptoBulk d + 1
  | .map entries => uptoBulkEntries entries + 1
  | .held _ => 1
def uptoBulkAll {H : Type} : List (DataW H) → Nat
  | [] => 0
  | d :: r => uptoBulk d + uptoBulkAll r
def uptoBulkEntries {H : Type} : List (Lit × DataW H) → Nat
  | [] => 0
  | x :: r => uptoBulkEntry x + uptoBulkEntries r
def uptoBulkEntry {H : Type} : Lit × DataW H → Nat
  | (.string bytes, d) => bytes.length + uptoBulk d + 1
  | (_, d) => uptoBulk d + 1
 end
def uptoSmall : (H : Type) → List (DataW H) → Bool := fun _ ds => decide (uptoBulkAll ds ≤ 1048576)
def OpenSpec.upto (s : _root_.Go.ChangeSpec) : _root_.Go.OpenSpec := { _root_.Go.OpenSpec.ofChange s with cond := some uptoSmall }

/-- 'phalanxlaw17.SlotsLayouts', WHERE WHAT IT READS IS OF BULK AT MOST 1048576: true; the input reads as it did. -/
def slotsLayoutsUptoRow : OpenClaim := { program := "ytankkngjhgpcaaa", sum := "cd322747acfe1c8f3b0d74ad721b0a55f1c4677956a114fdd376717cee5ba11c", func := "phalanx/phalanxlaw17.SlotsLayouts", spec := "slotsLayouts", apart := false, narrowed := true }
def SlotsLayoutsUptoSaid : Prop := slotsLayoutsUptoRow.holds Try.pinned (OpenSpec.upto slotsLayoutsSpec)

/-- 'phalanxlaw17.SlotsBoxes', WHERE WHAT IT READS IS OF BULK AT MOST 1048576: true; the input reads as it did. -/
def slotsBoxesUptoRow : OpenClaim := { program := "ytankkngjhgpcaaa", sum := "cd322747acfe1c8f3b0d74ad721b0a55f1c4677956a114fdd376717cee5ba11c", func := "phalanx/phalanxlaw17.SlotsBoxes", spec := "slotsBoxes", apart := false, narrowed := true }
def SlotsBoxesUptoSaid : Prop := slotsBoxesUptoRow.holds Try.pinned (OpenSpec.upto slotsBoxesSpec)

/-- 'phalanxlaw17.SlotsApart', WHERE WHAT IT READS IS OF BULK AT MOST 1048576: true; the input reads as it did. -/
def slotsApartUptoRow : OpenClaim := { program := "ytankkngjhgpcaaa", sum := "cd322747acfe1c8f3b0d74ad721b0a55f1c4677956a114fdd376717cee5ba11c", func := "phalanx/phalanxlaw17.SlotsApart", spec := "slotsApart", apart := false, narrowed := true }
def SlotsApartUptoSaid : Prop := slotsApartUptoRow.holds Try.pinned (OpenSpec.upto slotsApartSpec)

end Rows
end Go.Proofs.Ytankkngjhgpcaaa
