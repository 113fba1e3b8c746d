/-
  NARROWER THAN 'FOR EVERY INPUT', by the rows' own cells (each row's printed sentence says how): ClearOf: laid · ClearUpdates: laid · ClearCounts: laid · ClearNobody: laid.
  DERIVED. THE GIVEN ROWS OF THIS SEAT. 4 by the template 'for every input the law returns true; each argument reads behind the call as it read before'; 0 by the template 'total and deterministic' (their statements: YtnoodnmbghfchaaDoorTotals.lean).
  GIVEN WITH THE SEED: the statements are not yours to turn. If you find one false, say at which input.
  Laid BY PROGRAM, IN A SANDBOX (cutbox-rows.mjs): the forced cells as the released guide's own fill.sh prints them over the translation 7af91e4d192a0b3e… (all of the seat's roots in one cut). By AI agents, Wed Nov 11 2026. No macro, syntax, notation, axiom, sorry.
-/
import Derived.Test.YtnoodnmbghfchaaDoorChecked
import GoSem.Claim
import GoSem.ClaimJoined
import GoSem.ClaimMapViews
import Derived.JoinedTies
import Derived.KernelRfl
namespace Go.Proofs.YtnoodnmbghfchaaDoor
/- THE CELL 'sum', in the pinned program and in every row, IS THE sha256 OF THE DUMP (.gsa) THAT YtnoodnmbghfchaaDoorProg.lean LOADS. Nothing in Lean hashes anything: it is a label: what it is worth is what the hold of that sum in a sandbox is worth. -/
noncomputable def Tryd.pinned : Pinned := { name := "ytnoodnmbghfchaadoor", sum := "7af91e4d192a0b3ed897a027bb443584c4a7cad75e7711956d1d497edbd4f743", checked := Tryd.checked }
namespace Rows
def none {H : Type} : Left H := { results := [], args := [] }

/- WHAT THE LISTED PACKAGE-LEVEL VARIABLES READ AS WHEN THE CALL BEGINS. Each datum BY PROGRAM (the guide's laid-datum.mjs) off the statement by which the dump's own 'gosem.cut.vars' lays the variable. In a bare row this is a premise. The card (YtnoodnmbghfchaaDoorCards.lean) ties it to the program's text. -/
def laid_phalanx_cell_offsets {H : Type} : DataW H := .agg [.agg [.lit (.int .i64 1), .lit (.int .i64 0)], .agg [.lit (.int .i64 0), .lit (.int .i64 1)], .agg [.lit (.int .i64 (-1)), .lit (.int .i64 0)], .agg [.lit (.int .i64 0), .lit (.int .i64 (-1))], .agg [.lit (.int .i64 1), .lit (.int .i64 1)], .agg [.lit (.int .i64 (-1)), .lit (.int .i64 1)], .agg [.lit (.int .i64 (-1)), .lit (.int .i64 (-1))], .agg [.lit (.int .i64 1), .lit (.int .i64 (-1))]]
def laid_phalanx_class_grounds {H : Type} : DataW H := .agg [.lit (.int .u8 3), .lit (.int .u8 1), .lit (.int .u8 4), .lit (.int .u8 5)]

/-- 'phalanxlaw07.ClearOf': WHATEVER THE INPUT: true; the input reads as it did. -/
def clearOfSpec : ChangeSpec := { name := "clearOf", fn := fun _ => fun
  | [d1, d2, d3] => { results := [.lit (.bool true)], args := [d1, d2, d3] }
  | _ => none }
def clearOfRow : OpenClaim := { program := "ytnoodnmbghfchaadoor", sum := "7af91e4d192a0b3ed897a027bb443584c4a7cad75e7711956d1d497edbd4f743", func := "phalanx/phalanxlaw07.ClearOf", spec := "clearOf", inPlace := ["slices.overlaps[phalanx/api.Building]"], unfollowed := true, recurses := true, named := ["phalanx/class.grounds", "phalanx/cell.offsets"], plainKeys := false, apart := false, laid := [("phalanx/cell.offsets", laid_phalanx_cell_offsets), ("phalanx/class.grounds", laid_phalanx_class_grounds)] }
def ClearOfSaid : Prop := clearOfRow.holds Tryd.pinned (OpenSpec.ofChange clearOfSpec)

/-- ITS FALSE NEIGHBOUR: 'it returns false'. Refute it at one input. -/
def clearOfWrong : ChangeSpec := { name := "clearOf", fn := fun _ => fun
  | [d1, d2, d3] => { results := [.lit (.bool false)], args := [d1, d2, d3] }
  | _ => none }
def ClearOfWrongFalsely : Prop := clearOfRow.holds Tryd.pinned (OpenSpec.ofChange clearOfWrong)

/-- 'phalanxlaw07.ClearUpdates': WHATEVER THE INPUT: true; the input reads as it did. -/
def clearUpdatesSpec : ChangeSpec := { name := "clearUpdates", fn := fun _ => fun
  | [d1, d2, d3] => { results := [.lit (.bool true)], args := [d1, d2, d3] }
  | _ => none }
def clearUpdatesRow : OpenClaim := { program := "ytnoodnmbghfchaadoor", sum := "7af91e4d192a0b3ed897a027bb443584c4a7cad75e7711956d1d497edbd4f743", func := "phalanx/phalanxlaw07.ClearUpdates", spec := "clearUpdates", inPlace := ["slices.overlaps[phalanx/api.Building]"], unfollowed := true, recurses := true, named := ["phalanx/class.grounds", "phalanx/cell.offsets"], plainKeys := false, apart := false, laid := [("phalanx/cell.offsets", laid_phalanx_cell_offsets), ("phalanx/class.grounds", laid_phalanx_class_grounds)] }
def ClearUpdatesSaid : Prop := clearUpdatesRow.holds Tryd.pinned (OpenSpec.ofChange clearUpdatesSpec)

/-- ITS FALSE NEIGHBOUR: 'it returns false'. Refute it at one input. -/
def clearUpdatesWrong : ChangeSpec := { name := "clearUpdates", fn := fun _ => fun
  | [d1, d2, d3] => { results := [.lit (.bool false)], args := [d1, d2, d3] }
  | _ => none }
def ClearUpdatesWrongFalsely : Prop := clearUpdatesRow.holds Tryd.pinned (OpenSpec.ofChange clearUpdatesWrong)

/-- 'phalanxlaw07.ClearCounts': WHATEVER THE INPUT: true; the input reads as it did. -/
def clearCountsSpec : ChangeSpec := { name := "clearCounts", fn := fun _ => fun
  | [d1, d2, d3] => { results := [.lit (.bool true)], args := [d1, d2, d3] }
  | _ => none }
def clearCountsRow : OpenClaim := { program := "ytnoodnmbghfchaadoor", sum := "7af91e4d192a0b3ed897a027bb443584c4a7cad75e7711956d1d497edbd4f743", func := "phalanx/phalanxlaw07.ClearCounts", spec := "clearCounts", inPlace := ["slices.overlaps[phalanx/api.Building]"], unfollowed := true, recurses := true, named := ["phalanx/class.grounds", "phalanx/cell.offsets"], plainKeys := false, apart := false, laid := [("phalanx/cell.offsets", laid_phalanx_cell_offsets), ("phalanx/class.grounds", laid_phalanx_class_grounds)] }
def ClearCountsSaid : Prop := clearCountsRow.holds Tryd.pinned (OpenSpec.ofChange clearCountsSpec)

/-- ITS FALSE NEIGHBOUR: 'it returns false'. Refute it at one input. -/
def clearCountsWrong : ChangeSpec := { name := "clearCounts", fn := fun _ => fun
  | [d1, d2, d3] => { results := [.lit (.bool false)], args := [d1, d2, d3] }
  | _ => none }
def ClearCountsWrongFalsely : Prop := clearCountsRow.holds Tryd.pinned (OpenSpec.ofChange clearCountsWrong)

/-- 'phalanxlaw07.ClearNobody': WHATEVER THE INPUT: true; the input reads as it did. -/
def clearNobodySpec : ChangeSpec := { name := "clearNobody", fn := fun _ => fun
  | [d] => { results := [.lit (.bool true)], args := [d] }
  | _ => none }
def clearNobodyRow : OpenClaim := { program := "ytnoodnmbghfchaadoor", sum := "7af91e4d192a0b3ed897a027bb443584c4a7cad75e7711956d1d497edbd4f743", func := "phalanx/phalanxlaw07.ClearNobody", spec := "clearNobody", inPlace := ["slices.overlaps[phalanx/api.Building]"], unfollowed := true, recurses := true, named := ["phalanx/class.grounds", "phalanx/cell.offsets"], plainKeys := false, apart := false, laid := [("phalanx/cell.offsets", laid_phalanx_cell_offsets), ("phalanx/class.grounds", laid_phalanx_class_grounds)] }
def ClearNobodySaid : Prop := clearNobodyRow.holds Tryd.pinned (OpenSpec.ofChange clearNobodySpec)

/-- ITS FALSE NEIGHBOUR: 'it returns false'. Refute it at one input. -/
def clearNobodyWrong : ChangeSpec := { name := "clearNobody", fn := fun _ => fun
  | [d] => { results := [.lit (.bool false)], args := [d] }
  | _ => none }
def ClearNobodyWrongFalsely : Prop := clearNobodyRow.holds Tryd.pinned (OpenSpec.ofChange clearNobodyWrong)

/- THE SECOND FORM. 'bulk': how many values and letters a reading holds, each counted each time it is reached (what is shared counts as often as it is met; a slice's spare places count too). A statement '..UptoSaid' is the law's where the arguments, and the package variables that the reading takes, are together of bulk at most 1048576: NARROWER than '..Said'. Prove '..Said' where nothing that the law and all that it calls make is longer than what came in: it says more and counts as full. Else prove '..UptoSaid'. A law counts once. -/
mutual
def uptoBulk {H : Type} : DataW H → Nat
  | .lit (.string bytes) => bytes.length + 1
  | .lit _ => 1
  | .nil => 1
  | .ptr d => uptoBulk d + 1
  | .slice elems spare => uptoBulkAll elems + uptoBulkAll spare + 1
  | .agg parts => uptoBulkAll parts + 1
  | .iface _ d => uptoBulk d + 1
  | .map entries => uptoBulkEntries entries + 1
  | .held _ => 1
def uptoBulkAll {H : Type} : List (DataW H) → Nat
  | [] => 0
  | d :: r => uptoBulk d + uptoBulkAll r
def uptoBulkEntries {H : Type} : List (Lit × DataW H) → Nat
  | [] => 0
  | x :: r => uptoBulkEntry x + uptoBulkEntries r
def uptoBulkEntry {H : Type} : Lit × DataW H → Nat
  | (.string bytes, d) => bytes.length + uptoBulk d + 1
  | (_, d) => uptoBulk d + 1
 end
def uptoSmall : (H : Type) → List (DataW H) → Bool := fun _ ds => decide (uptoBulkAll ds ≤ 1048576)
def OpenSpec.upto (s : _root_.Go.ChangeSpec) : _root_.Go.OpenSpec := { _root_.Go.OpenSpec.ofChange s with cond := some uptoSmall }

/-- 'phalanxlaw07.ClearOf', WHERE WHAT IT READS IS OF BULK AT MOST 1048576: true; the input reads as it did. -/
def clearOfUptoRow : OpenClaim := { program := "ytnoodnmbghfchaadoor", sum := "7af91e4d192a0b3ed897a027bb443584c4a7cad75e7711956d1d497edbd4f743", func := "phalanx/phalanxlaw07.ClearOf", spec := "clearOf", inPlace := ["slices.overlaps[phalanx/api.Building]"], unfollowed := true, recurses := true, named := ["phalanx/class.grounds", "phalanx/cell.offsets"], plainKeys := false, apart := false, laid := [("phalanx/cell.offsets", laid_phalanx_cell_offsets), ("phalanx/class.grounds", laid_phalanx_class_grounds)], narrowed := true }
def ClearOfUptoSaid : Prop := clearOfUptoRow.holds Tryd.pinned (OpenSpec.upto clearOfSpec)

/-- 'phalanxlaw07.ClearUpdates', WHERE WHAT IT READS IS OF BULK AT MOST 1048576: true; the input reads as it did. -/
def clearUpdatesUptoRow : OpenClaim := { program := "ytnoodnmbghfchaadoor", sum := "7af91e4d192a0b3ed897a027bb443584c4a7cad75e7711956d1d497edbd4f743", func := "phalanx/phalanxlaw07.ClearUpdates", spec := "clearUpdates", inPlace := ["slices.overlaps[phalanx/api.Building]"], unfollowed := true, recurses := true, named := ["phalanx/class.grounds", "phalanx/cell.offsets"], plainKeys := false, apart := false, laid := [("phalanx/cell.offsets", laid_phalanx_cell_offsets), ("phalanx/class.grounds", laid_phalanx_class_grounds)], narrowed := true }
def ClearUpdatesUptoSaid : Prop := clearUpdatesUptoRow.holds Tryd.pinned (OpenSpec.upto clearUpdatesSpec)

/-- 'phalanxlaw07.ClearCounts', WHERE WHAT IT READS IS OF BULK AT MOST 1048576: true; the input reads as it did. -/
def clearCountsUptoRow : OpenClaim := { program := "ytnoodnmbghfchaadoor", sum := "7af91e4d192a0b3ed897a027bb443584c4a7cad75e7711956d1d497edbd4f743", func := "phalanx/phalanxlaw07.ClearCounts", spec := "clearCounts", inPlace := ["slices.overlaps[phalanx/api.Building]"], unfollowed := true, recurses := true, named := ["phalanx/class.grounds", "phalanx/cell.offsets"], plainKeys := false, apart := false, laid := [("phalanx/cell.offsets", laid_phalanx_cell_offsets), ("phalanx/class.grounds", laid_phalanx_class_grounds)], narrowed := true }
def ClearCountsUptoSaid : Prop := clearCountsUptoRow.holds Tryd.pinned (OpenSpec.upto clearCountsSpec)

/-- 'phalanxlaw07.ClearNobody', WHERE WHAT IT READS IS OF BULK AT MOST 1048576: true; the input reads as it did. -/
def clearNobodyUptoRow : OpenClaim := { program := "ytnoodnmbghfchaadoor", sum := "7af91e4d192a0b3ed897a027bb443584c4a7cad75e7711956d1d497edbd4f743", func := "phalanx/phalanxlaw07.ClearNobody", spec := "clearNobody", inPlace := ["slices.overlaps[phalanx/api.Building]"], unfollowed := true, recurses := true, named := ["phalanx/class.grounds", "phalanx/cell.offsets"], plainKeys := false, apart := false, laid := [("phalanx/cell.offsets", laid_phalanx_cell_offsets), ("phalanx/class.grounds", laid_phalanx_class_grounds)], narrowed := true }
def ClearNobodyUptoSaid : Prop := clearNobodyUptoRow.holds Tryd.pinned (OpenSpec.upto clearNobodySpec)

end Rows
end Go.Proofs.YtnoodnmbghfchaaDoor
