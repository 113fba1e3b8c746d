/-
  NARROWER THAN 'FOR EVERY INPUT', by the rows' own cells (each row's printed sentence says how): ClassShapes: laid · ClassStands: laid · ClassSteps: laid · ClassPaths: laid · ClassBack: laid.
  DERIVED. THE GIVEN ROWS OF THIS SEAT. 5 by the template 'for every input the law returns true; each argument reads behind the call as it read before'; 0 by the template 'total and deterministic' (their statements: YthacppifndakjaaDoorTotals.lean).
  GIVEN WITH THE SEED: the statements are not yours to turn. If you find one false, say at which input.
  Laid BY PROGRAM, IN A SANDBOX (cutbox-rows.mjs): the forced cells as the released guide's own fill.sh prints them over the translation d871d5470cfa2a59… (all of the seat's roots in one cut). By AI agents, Wed Nov 11 2026. No macro, syntax, notation, axiom, sorry.
-/
import Derived.Test.YthacppifndakjaaDoorChecked
import GoSem.Claim
import GoSem.ClaimJoined
import GoSem.ClaimMapViews
import Derived.JoinedTies
import Derived.KernelRfl
namespace Go.Proofs.YthacppifndakjaaDoor
/- THE CELL 'sum', in the pinned program and in every row, IS THE sha256 OF THE DUMP (.gsa) THAT YthacppifndakjaaDoorProg.lean LOADS. Nothing in Lean hashes anything: it is a label: what it is worth is what the hold of that sum in a sandbox is worth. -/
noncomputable def Tryd.pinned : Pinned := { name := "ythacppifndakjaadoor", sum := "d871d5470cfa2a5979bfd5134c8c29f5738da96f030e13d3cf89a514a73c53f6", checked := Tryd.checked }
namespace Rows
def none {H : Type} : Left H := { results := [], args := [] }

/- WHAT THE LISTED PACKAGE-LEVEL VARIABLES READ AS WHEN THE CALL BEGINS. Each datum BY PROGRAM (the guide's laid-datum.mjs) off the statement by which the dump's own 'gosem.cut.vars' lays the variable. In a bare row this is a premise. The card (YthacppifndakjaaDoorCards.lean) ties it to the program's text. -/
def laid_phalanx_cell_offsets {H : Type} : DataW H := .agg [.agg [.lit (.int .i64 1), .lit (.int .i64 0)], .agg [.lit (.int .i64 0), .lit (.int .i64 1)], .agg [.lit (.int .i64 (-1)), .lit (.int .i64 0)], .agg [.lit (.int .i64 0), .lit (.int .i64 (-1))], .agg [.lit (.int .i64 1), .lit (.int .i64 1)], .agg [.lit (.int .i64 (-1)), .lit (.int .i64 1)], .agg [.lit (.int .i64 (-1)), .lit (.int .i64 (-1))], .agg [.lit (.int .i64 1), .lit (.int .i64 (-1))]]
def laid_phalanx_class_grounds {H : Type} : DataW H := .agg [.lit (.int .u8 3), .lit (.int .u8 1), .lit (.int .u8 4), .lit (.int .u8 5)]

/-- 'phalanxlaw06.ClassShapes': WHATEVER THE INPUT: true; the input reads as it did. -/
def classShapesSpec : ChangeSpec := { name := "classShapes", fn := fun _ => fun
  | [d1, d2, d3] => { results := [.lit (.bool true)], args := [d1, d2, d3] }
  | _ => none }
def classShapesRow : OpenClaim := { program := "ythacppifndakjaadoor", sum := "d871d5470cfa2a5979bfd5134c8c29f5738da96f030e13d3cf89a514a73c53f6", func := "phalanx/phalanxlaw06.ClassShapes", spec := "classShapes", inPlace := ["slices.overlaps[phalanx/api.Building]"], unfollowed := true, recurses := true, named := ["phalanx/class.grounds", "phalanx/cell.offsets"], plainKeys := false, apart := false, laid := [("phalanx/cell.offsets", laid_phalanx_cell_offsets), ("phalanx/class.grounds", laid_phalanx_class_grounds)] }
def ClassShapesSaid : Prop := classShapesRow.holds Tryd.pinned (OpenSpec.ofChange classShapesSpec)

/-- ITS FALSE NEIGHBOUR: 'it returns false'. Refute it at one input. -/
def classShapesWrong : ChangeSpec := { name := "classShapes", fn := fun _ => fun
  | [d1, d2, d3] => { results := [.lit (.bool false)], args := [d1, d2, d3] }
  | _ => none }
def ClassShapesWrongFalsely : Prop := classShapesRow.holds Tryd.pinned (OpenSpec.ofChange classShapesWrong)

/-- 'phalanxlaw06.ClassStands': WHATEVER THE INPUT: true; the input reads as it did. -/
def classStandsSpec : ChangeSpec := { name := "classStands", fn := fun _ => fun
  | [d1, d2, d3] => { results := [.lit (.bool true)], args := [d1, d2, d3] }
  | _ => none }
def classStandsRow : OpenClaim := { program := "ythacppifndakjaadoor", sum := "d871d5470cfa2a5979bfd5134c8c29f5738da96f030e13d3cf89a514a73c53f6", func := "phalanx/phalanxlaw06.ClassStands", spec := "classStands", inPlace := ["slices.overlaps[phalanx/api.Building]"], unfollowed := true, recurses := true, named := ["phalanx/class.grounds", "phalanx/cell.offsets"], plainKeys := false, apart := false, laid := [("phalanx/cell.offsets", laid_phalanx_cell_offsets), ("phalanx/class.grounds", laid_phalanx_class_grounds)] }
def ClassStandsSaid : Prop := classStandsRow.holds Tryd.pinned (OpenSpec.ofChange classStandsSpec)

/-- ITS FALSE NEIGHBOUR: 'it returns false'. Refute it at one input. -/
def classStandsWrong : ChangeSpec := { name := "classStands", fn := fun _ => fun
  | [d1, d2, d3] => { results := [.lit (.bool false)], args := [d1, d2, d3] }
  | _ => none }
def ClassStandsWrongFalsely : Prop := classStandsRow.holds Tryd.pinned (OpenSpec.ofChange classStandsWrong)

/-- 'phalanxlaw06.ClassSteps': WHATEVER THE INPUT: true; the input reads as it did. -/
def classStepsSpec : ChangeSpec := { name := "classSteps", fn := fun _ => fun
  | [d1, d2, d3] => { results := [.lit (.bool true)], args := [d1, d2, d3] }
  | _ => none }
def classStepsRow : OpenClaim := { program := "ythacppifndakjaadoor", sum := "d871d5470cfa2a5979bfd5134c8c29f5738da96f030e13d3cf89a514a73c53f6", func := "phalanx/phalanxlaw06.ClassSteps", spec := "classSteps", inPlace := ["slices.overlaps[phalanx/api.Building]"], unfollowed := true, recurses := true, named := ["phalanx/cell.offsets", "phalanx/class.grounds"], plainKeys := false, apart := false, laid := [("phalanx/cell.offsets", laid_phalanx_cell_offsets), ("phalanx/class.grounds", laid_phalanx_class_grounds)] }
def ClassStepsSaid : Prop := classStepsRow.holds Tryd.pinned (OpenSpec.ofChange classStepsSpec)

/-- ITS FALSE NEIGHBOUR: 'it returns false'. Refute it at one input. -/
def classStepsWrong : ChangeSpec := { name := "classSteps", fn := fun _ => fun
  | [d1, d2, d3] => { results := [.lit (.bool false)], args := [d1, d2, d3] }
  | _ => none }
def ClassStepsWrongFalsely : Prop := classStepsRow.holds Tryd.pinned (OpenSpec.ofChange classStepsWrong)

/-- 'phalanxlaw06.ClassPaths': WHATEVER THE INPUT: true; the input reads as it did. -/
def classPathsSpec : ChangeSpec := { name := "classPaths", fn := fun _ => fun
  | [d1, d2] => { results := [.lit (.bool true)], args := [d1, d2] }
  | _ => none }
def classPathsRow : OpenClaim := { program := "ythacppifndakjaadoor", sum := "d871d5470cfa2a5979bfd5134c8c29f5738da96f030e13d3cf89a514a73c53f6", func := "phalanx/phalanxlaw06.ClassPaths", spec := "classPaths", inPlace := ["slices.overlaps[phalanx/api.Building]"], unfollowed := true, recurses := true, named := ["phalanx/cell.offsets", "phalanx/class.grounds"], plainKeys := false, apart := false, laid := [("phalanx/cell.offsets", laid_phalanx_cell_offsets), ("phalanx/class.grounds", laid_phalanx_class_grounds)] }
def ClassPathsSaid : Prop := classPathsRow.holds Tryd.pinned (OpenSpec.ofChange classPathsSpec)

/-- ITS FALSE NEIGHBOUR: 'it returns false'. Refute it at one input. -/
def classPathsWrong : ChangeSpec := { name := "classPaths", fn := fun _ => fun
  | [d1, d2] => { results := [.lit (.bool false)], args := [d1, d2] }
  | _ => none }
def ClassPathsWrongFalsely : Prop := classPathsRow.holds Tryd.pinned (OpenSpec.ofChange classPathsWrong)

/-- 'phalanxlaw06.ClassBack': WHATEVER THE INPUT: true; the input reads as it did. -/
def classBackSpec : ChangeSpec := { name := "classBack", fn := fun _ => fun
  | [d1, d2, d3] => { results := [.lit (.bool true)], args := [d1, d2, d3] }
  | _ => none }
def classBackRow : OpenClaim := { program := "ythacppifndakjaadoor", sum := "d871d5470cfa2a5979bfd5134c8c29f5738da96f030e13d3cf89a514a73c53f6", func := "phalanx/phalanxlaw06.ClassBack", spec := "classBack", inPlace := ["slices.overlaps[phalanx/api.Building]"], unfollowed := true, recurses := true, named := ["phalanx/cell.offsets", "phalanx/class.grounds"], plainKeys := false, apart := false, laid := [("phalanx/cell.offsets", laid_phalanx_cell_offsets), ("phalanx/class.grounds", laid_phalanx_class_grounds)] }
def ClassBackSaid : Prop := classBackRow.holds Tryd.pinned (OpenSpec.ofChange classBackSpec)

/-- ITS FALSE NEIGHBOUR: 'it returns false'. Refute it at one input. -/
def classBackWrong : ChangeSpec := { name := "classBack", fn := fun _ => fun
  | [d1, d2, d3] => { results := [.lit (.bool false)], args := [d1, d2, d3] }
  | _ => none }
def ClassBackWrongFalsely : Prop := classBackRow.holds Tryd.pinned (OpenSpec.ofChange classBackWrong)

/- THE SECOND FORM. 'bulk': how many values and letters a reading holds, each counted each time it is reached (what is shared counts as often as it is met; a slice's spare places count too). A statement '..UptoSaid' is the law's where the arguments, and the package variables that the reading takes, are together of bulk at most 1048576: NARROWER than '..Said'. Prove '..Said' where nothing that the law and all that it calls make is longer than what came in: it says more and counts as full. Else prove '..UptoSaid'. A law counts once. -/
mutual
def uptoBulk {H : Type} : DataW H → Nat
  | .lit (.string bytes) => bytes.length + 1
  | .lit _ => 1
  | .nil => 1
  | .ptr d => uptoBulk d + 1
  | .slice elems spare => uptoBulkAll elems + uptoBulkAll spare + 1
  | .agg parts => uptoBulkAll parts + 1
  | .iface _ d => uptoBulk d + 1
  | .map entries => uptoBulkEntries entries + 1
  | .held _ => 1
def uptoBulkAll {H : Type} : List (DataW H) → Nat
  | [] => 0
  | d :: r => uptoBulk d + uptoBulkAll r
def uptoBulkEntries {H : Type} : List (Lit × DataW H) → Nat
  | [] => 0
  | x :: r => uptoBulkEntry x + uptoBulkEntries r
def uptoBulkEntry {H : Type} : Lit × DataW H → Nat
  | (.string bytes, d) => bytes.length + uptoBulk d + 1
  | (_, d) => uptoBulk d + 1
 end
def uptoSmall : (H : Type) → List (DataW H) → Bool := fun _ ds => decide (uptoBulkAll ds ≤ 1048576)
def OpenSpec.upto (s : _root_.Go.ChangeSpec) : _root_.Go.OpenSpec := { _root_.Go.OpenSpec.ofChange s with cond := some uptoSmall }

/-- 'phalanxlaw06.ClassShapes', WHERE WHAT IT READS IS OF BULK AT MOST 1048576: true; the input reads as it did. -/
def classShapesUptoRow : OpenClaim := { program := "ythacppifndakjaadoor", sum := "d871d5470cfa2a5979bfd5134c8c29f5738da96f030e13d3cf89a514a73c53f6", func := "phalanx/phalanxlaw06.ClassShapes", spec := "classShapes", inPlace := ["slices.overlaps[phalanx/api.Building]"], unfollowed := true, recurses := true, named := ["phalanx/class.grounds", "phalanx/cell.offsets"], plainKeys := false, apart := false, laid := [("phalanx/cell.offsets", laid_phalanx_cell_offsets), ("phalanx/class.grounds", laid_phalanx_class_grounds)], narrowed := true }
def ClassShapesUptoSaid : Prop := classShapesUptoRow.holds Tryd.pinned (OpenSpec.upto classShapesSpec)

/-- 'phalanxlaw06.ClassStands', WHERE WHAT IT READS IS OF BULK AT MOST 1048576: true; the input reads as it did. -/
def classStandsUptoRow : OpenClaim := { program := "ythacppifndakjaadoor", sum := "d871d5470cfa2a5979bfd5134c8c29f5738da96f030e13d3cf89a514a73c53f6", func := "phalanx/phalanxlaw06.ClassStands", spec := "classStands", inPlace := ["slices.overlaps[phalanx/api.Building]"], unfollowed := true, recurses := true, named := ["phalanx/class.grounds", "phalanx/cell.offsets"], plainKeys := false, apart := false, laid := [("phalanx/cell.offsets", laid_phalanx_cell_offsets), ("phalanx/class.grounds", laid_phalanx_class_grounds)], narrowed := true }
def ClassStandsUptoSaid : Prop := classStandsUptoRow.holds Tryd.pinned (OpenSpec.upto classStandsSpec)

/-- 'phalanxlaw06.ClassSteps', WHERE WHAT IT READS IS OF BULK AT MOST 1048576: true; the input reads as it did. -/
def classStepsUptoRow : OpenClaim := { program := "ythacppifndakjaadoor", sum := "d871d5470cfa2a5979bfd5134c8c29f5738da96f030e13d3cf89a514a73c53f6", func := "phalanx/phalanxlaw06.ClassSteps", spec := "classSteps", inPlace := ["slices.overlaps[phalanx/api.Building]"], unfollowed := true, recurses := true, named := ["phalanx/cell.offsets", "phalanx/class.grounds"], plainKeys := false, apart := false, laid := [("phalanx/cell.offsets", laid_phalanx_cell_offsets), ("phalanx/class.grounds", laid_phalanx_class_grounds)], narrowed := true }
def ClassStepsUptoSaid : Prop := classStepsUptoRow.holds Tryd.pinned (OpenSpec.upto classStepsSpec)

/-- 'phalanxlaw06.ClassPaths', WHERE WHAT IT READS IS OF BULK AT MOST 1048576: true; the input reads as it did. -/
def classPathsUptoRow : OpenClaim := { program := "ythacppifndakjaadoor", sum := "d871d5470cfa2a5979bfd5134c8c29f5738da96f030e13d3cf89a514a73c53f6", func := "phalanx/phalanxlaw06.ClassPaths", spec := "classPaths", inPlace := ["slices.overlaps[phalanx/api.Building]"], unfollowed := true, recurses := true, named := ["phalanx/cell.offsets", "phalanx/class.grounds"], plainKeys := false, apart := false, laid := [("phalanx/cell.offsets", laid_phalanx_cell_offsets), ("phalanx/class.grounds", laid_phalanx_class_grounds)], narrowed := true }
def ClassPathsUptoSaid : Prop := classPathsUptoRow.holds Tryd.pinned (OpenSpec.upto classPathsSpec)

/-- 'phalanxlaw06.ClassBack', WHERE WHAT IT READS IS OF BULK AT MOST 1048576: true; the input reads as it did. -/
def classBackUptoRow : OpenClaim := { program := "ythacppifndakjaadoor", sum := "d871d5470cfa2a5979bfd5134c8c29f5738da96f030e13d3cf89a514a73c53f6", func := "phalanx/phalanxlaw06.ClassBack", spec := "classBack", inPlace := ["slices.overlaps[phalanx/api.Building]"], unfollowed := true, recurses := true, named := ["phalanx/cell.offsets", "phalanx/class.grounds"], plainKeys := false, apart := false, laid := [("phalanx/cell.offsets", laid_phalanx_cell_offsets), ("phalanx/class.grounds", laid_phalanx_class_grounds)], narrowed := true }
def ClassBackUptoSaid : Prop := classBackUptoRow.holds Tryd.pinned (OpenSpec.upto classBackSpec)

end Rows
end Go.Proofs.YthacppifndakjaaDoor
