/-
  NARROWER THAN 'FOR EVERY INPUT', by the rows' own cells (each row's printed sentence says how): PartsLabels: laid · PartsJoined: laid · PartsNobody: laid.
  DERIVED. THE GIVEN ROWS OF THIS SEAT. 3 by the template 'for every input the law returns true; each argument reads behind the call as it read before'; 0 by the template 'total and deterministic' (their statements: YtoheibfijpdmfaaDoorTotals.lean).
  GIVEN WITH THE SEED: the statements are not yours to turn. If you find one false, say at which input.
  Laid BY PROGRAM, IN A SANDBOX (cutbox-rows.mjs): the forced cells as the released guide's own fill.sh prints them over the translation 094fe168dc376e88… (all of the seat's roots in one cut). By AI agents, Wed Nov 11 2026. No macro, syntax, notation, axiom, sorry.
-/
import Derived.Test.YtoheibfijpdmfaaDoorChecked
import GoSem.Claim
import GoSem.ClaimJoined
import GoSem.ClaimMapViews
import Derived.JoinedTies
import Derived.KernelRfl
namespace Go.Proofs.YtoheibfijpdmfaaDoor
/- THE CELL 'sum', in the pinned program and in every row, IS THE sha256 OF THE DUMP (.gsa) THAT YtoheibfijpdmfaaDoorProg.lean LOADS. Nothing in Lean hashes anything: it is a label: what it is worth is what the hold of that sum in a sandbox is worth. -/
noncomputable def Tryd.pinned : Pinned := { name := "ytoheibfijpdmfaadoor", sum := "094fe168dc376e8857b5f064d60706177c8f5167c3543dcf5d5819e83cd57424", checked := Tryd.checked }
namespace Rows
def none {H : Type} : Left H := { results := [], args := [] }

/- WHAT THE LISTED PACKAGE-LEVEL VARIABLES READ AS WHEN THE CALL BEGINS. Each datum BY PROGRAM (the guide's laid-datum.mjs) off the statement by which the dump's own 'gosem.cut.vars' lays the variable. In a bare row this is a premise. The card (YtoheibfijpdmfaaDoorCards.lean) ties it to the program's text. -/
def laid_phalanx_cell_offsets {H : Type} : DataW H := .agg [.agg [.lit (.int .i64 1), .lit (.int .i64 0)], .agg [.lit (.int .i64 0), .lit (.int .i64 1)], .agg [.lit (.int .i64 (-1)), .lit (.int .i64 0)], .agg [.lit (.int .i64 0), .lit (.int .i64 (-1))], .agg [.lit (.int .i64 1), .lit (.int .i64 1)], .agg [.lit (.int .i64 (-1)), .lit (.int .i64 1)], .agg [.lit (.int .i64 (-1)), .lit (.int .i64 (-1))], .agg [.lit (.int .i64 1), .lit (.int .i64 (-1))]]
def laid_phalanx_class_grounds {H : Type} : DataW H := .agg [.lit (.int .u8 3), .lit (.int .u8 1), .lit (.int .u8 4), .lit (.int .u8 5)]

/-- 'phalanxlaw08.PartsLabels': WHATEVER THE INPUT: true; the input reads as it did. -/
def partsLabelsSpec : ChangeSpec := { name := "partsLabels", fn := fun _ => fun
  | [d1, d2] => { results := [.lit (.bool true)], args := [d1, d2] }
  | _ => none }
def partsLabelsRow : OpenClaim := { program := "ytoheibfijpdmfaadoor", sum := "094fe168dc376e8857b5f064d60706177c8f5167c3543dcf5d5819e83cd57424", func := "phalanx/phalanxlaw08.PartsLabels", spec := "partsLabels", inPlace := ["slices.overlaps[phalanx/api.Building]"], unfollowed := true, recurses := true, named := ["phalanx/class.grounds", "phalanx/cell.offsets"], plainKeys := false, apart := false, laid := [("phalanx/cell.offsets", laid_phalanx_cell_offsets), ("phalanx/class.grounds", laid_phalanx_class_grounds)] }
def PartsLabelsSaid : Prop := partsLabelsRow.holds Tryd.pinned (OpenSpec.ofChange partsLabelsSpec)

/-- ITS FALSE NEIGHBOUR: 'it returns false'. Refute it at one input. -/
def partsLabelsWrong : ChangeSpec := { name := "partsLabels", fn := fun _ => fun
  | [d1, d2] => { results := [.lit (.bool false)], args := [d1, d2] }
  | _ => none }
def PartsLabelsWrongFalsely : Prop := partsLabelsRow.holds Tryd.pinned (OpenSpec.ofChange partsLabelsWrong)

/-- 'phalanxlaw08.PartsJoined': WHATEVER THE INPUT: true; the input reads as it did. -/
def partsJoinedSpec : ChangeSpec := { name := "partsJoined", fn := fun _ => fun
  | [d1, d2, d3] => { results := [.lit (.bool true)], args := [d1, d2, d3] }
  | _ => none }
def partsJoinedRow : OpenClaim := { program := "ytoheibfijpdmfaadoor", sum := "094fe168dc376e8857b5f064d60706177c8f5167c3543dcf5d5819e83cd57424", func := "phalanx/phalanxlaw08.PartsJoined", spec := "partsJoined", inPlace := ["slices.overlaps[phalanx/api.Building]"], unfollowed := true, recurses := true, named := ["phalanx/class.grounds", "phalanx/cell.offsets"], plainKeys := false, apart := false, laid := [("phalanx/cell.offsets", laid_phalanx_cell_offsets), ("phalanx/class.grounds", laid_phalanx_class_grounds)] }
def PartsJoinedSaid : Prop := partsJoinedRow.holds Tryd.pinned (OpenSpec.ofChange partsJoinedSpec)

/-- ITS FALSE NEIGHBOUR: 'it returns false'. Refute it at one input. -/
def partsJoinedWrong : ChangeSpec := { name := "partsJoined", fn := fun _ => fun
  | [d1, d2, d3] => { results := [.lit (.bool false)], args := [d1, d2, d3] }
  | _ => none }
def PartsJoinedWrongFalsely : Prop := partsJoinedRow.holds Tryd.pinned (OpenSpec.ofChange partsJoinedWrong)

/-- 'phalanxlaw08.PartsNobody': WHATEVER THE INPUT: true; the input reads as it did. -/
def partsNobodySpec : ChangeSpec := { name := "partsNobody", fn := fun _ => fun
  | [d1, d2] => { results := [.lit (.bool true)], args := [d1, d2] }
  | _ => none }
def partsNobodyRow : OpenClaim := { program := "ytoheibfijpdmfaadoor", sum := "094fe168dc376e8857b5f064d60706177c8f5167c3543dcf5d5819e83cd57424", func := "phalanx/phalanxlaw08.PartsNobody", spec := "partsNobody", inPlace := ["slices.overlaps[phalanx/api.Building]"], unfollowed := true, recurses := true, named := ["phalanx/class.grounds", "phalanx/cell.offsets"], plainKeys := false, apart := false, laid := [("phalanx/cell.offsets", laid_phalanx_cell_offsets), ("phalanx/class.grounds", laid_phalanx_class_grounds)] }
def PartsNobodySaid : Prop := partsNobodyRow.holds Tryd.pinned (OpenSpec.ofChange partsNobodySpec)

/-- ITS FALSE NEIGHBOUR: 'it returns false'. Refute it at one input. -/
def partsNobodyWrong : ChangeSpec := { name := "partsNobody", fn := fun _ => fun
  | [d1, d2] => { results := [.lit (.bool false)], args := [d1, d2] }
  | _ => none }
def PartsNobodyWrongFalsely : Prop := partsNobodyRow.holds Tryd.pinned (OpenSpec.ofChange partsNobodyWrong)

/- THE SECOND FORM. 'bulk': how many values and letters a reading holds, each counted each time it is reached (what is shared counts as often as it is met; a slice's spare places count too). A statement '..UptoSaid' is the law's where the arguments, and the package variables that the reading takes, are together of bulk at most 1048576: NARROWER than '..Said'. Prove '..Said' where nothing that the law and all that it calls make is longer than what came in: it says more and counts as full. Else prove '..UptoSaid'. A law counts once. -/
mutual
def uptoBulk {H : Type} : DataW H → Nat
  | .lit (.string bytes) => bytes.length + 1
  | .lit _ => 1
  | .nil => 1
  | .ptr d => uptoBulk d + 1
  | .slice elems spare => uptoBulkAll elems + uptoBulkAll spare + 1
  | .agg parts => uptoBulkAll parts + 1
  | .iface _ d => uptoBulk d + 1
  | .map entries => uptoBulkEntries entries + 1
  | .held _ => 1
def uptoBulkAll {H : Type} : List (DataW H) → Nat
  | [] => 0
  | d :: r => uptoBulk d + uptoBulkAll r
def uptoBulkEntries {H : Type} : List (Lit × DataW H) → Nat
  | [] => 0
  | x :: r => uptoBulkEntry x + uptoBulkEntries r
def uptoBulkEntry {H : Type} : Lit × DataW H → Nat
  | (.string bytes, d) => bytes.length + uptoBulk d + 1
  | (_, d) => uptoBulk d + 1
 end
def uptoSmall : (H : Type) → List (DataW H) → Bool := fun _ ds => decide (uptoBulkAll ds ≤ 1048576)
def OpenSpec.upto (s : _root_.Go.ChangeSpec) : _root_.Go.OpenSpec := { _root_.Go.OpenSpec.ofChange s with cond := some uptoSmall }

/-- 'phalanxlaw08.PartsLabels', WHERE WHAT IT READS IS OF BULK AT MOST 1048576: true; the input reads as it did. -/
def partsLabelsUptoRow : OpenClaim := { program := "ytoheibfijpdmfaadoor", sum := "094fe168dc376e8857b5f064d60706177c8f5167c3543dcf5d5819e83cd57424", func := "phalanx/phalanxlaw08.PartsLabels", spec := "partsLabels", inPlace := ["slices.overlaps[phalanx/api.Building]"], unfollowed := true, recurses := true, named := ["phalanx/class.grounds", "phalanx/cell.offsets"], plainKeys := false, apart := false, laid := [("phalanx/cell.offsets", laid_phalanx_cell_offsets), ("phalanx/class.grounds", laid_phalanx_class_grounds)], narrowed := true }
def PartsLabelsUptoSaid : Prop := partsLabelsUptoRow.holds Tryd.pinned (OpenSpec.upto partsLabelsSpec)

/-- 'phalanxlaw08.PartsJoined', WHERE WHAT IT READS IS OF BULK AT MOST 1048576: true; the input reads as it did. -/
def partsJoinedUptoRow : OpenClaim := { program := "ytoheibfijpdmfaadoor", sum := "094fe168dc376e8857b5f064d60706177c8f5167c3543dcf5d5819e83cd57424", func := "phalanx/phalanxlaw08.PartsJoined", spec := "partsJoined", inPlace := ["slices.overlaps[phalanx/api.Building]"], unfollowed := true, recurses := true, named := ["phalanx/class.grounds", "phalanx/cell.offsets"], plainKeys := false, apart := false, laid := [("phalanx/cell.offsets", laid_phalanx_cell_offsets), ("phalanx/class.grounds", laid_phalanx_class_grounds)], narrowed := true }
def PartsJoinedUptoSaid : Prop := partsJoinedUptoRow.holds Tryd.pinned (OpenSpec.upto partsJoinedSpec)

/-- 'phalanxlaw08.PartsNobody', WHERE WHAT IT READS IS OF BULK AT MOST 1048576: true; the input reads as it did. -/
def partsNobodyUptoRow : OpenClaim := { program := "ytoheibfijpdmfaadoor", sum := "094fe168dc376e8857b5f064d60706177c8f5167c3543dcf5d5819e83cd57424", func := "phalanx/phalanxlaw08.PartsNobody", spec := "partsNobody", inPlace := ["slices.overlaps[phalanx/api.Building]"], unfollowed := true, recurses := true, named := ["phalanx/class.grounds", "phalanx/cell.offsets"], plainKeys := false, apart := false, laid := [("phalanx/cell.offsets", laid_phalanx_cell_offsets), ("phalanx/class.grounds", laid_phalanx_class_grounds)], narrowed := true }
def PartsNobodyUptoSaid : Prop := partsNobodyUptoRow.holds Tryd.pinned (OpenSpec.upto partsNobodySpec)

end Rows
end Go.Proofs.YtoheibfijpdmfaaDoor
