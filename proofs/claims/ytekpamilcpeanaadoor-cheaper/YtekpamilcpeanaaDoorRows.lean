/-
  NARROWER THAN 'FOR EVERY INPUT', by the rows' own cells (each row's printed sentence says how): SmoothLines: laid · SmoothSmooths: laid · SmoothCheaper: laid · SmoothTurns: laid.
  DERIVED. THE GIVEN ROWS OF THIS SEAT. 4 by the template 'for every input the law returns true; each argument reads behind the call as it read before'; 0 by the template 'total and deterministic' (their statements: YtekpamilcpeanaaDoorTotals.lean).
  GIVEN WITH THE SEED: the statements are not yours to turn. If you find one false, say at which input.
  Laid BY PROGRAM, IN A SANDBOX (cutbox-rows.mjs): the forced cells as the released guide's own fill.sh prints them over the translation 2bdfe7ec587dc9e4… (all of the seat's roots in one cut). By AI agents, Wed Nov 11 2026. No macro, syntax, notation, axiom, sorry.
-/
import Derived.Test.YtekpamilcpeanaaDoorChecked
import GoSem.Claim
import GoSem.ClaimJoined
import GoSem.ClaimMapViews
import Derived.JoinedTies
import Derived.KernelRfl
namespace Go.Proofs.YtekpamilcpeanaaDoor
/- THE CELL 'sum', in the pinned program and in every row, IS THE sha256 OF THE DUMP (.gsa) THAT YtekpamilcpeanaaDoorProg.lean LOADS. Nothing in Lean hashes anything: it is a label: what it is worth is what the hold of that sum in a sandbox is worth. -/
noncomputable def Tryd.pinned : Pinned := { name := "ytekpamilcpeanaadoor", sum := "2bdfe7ec587dc9e4eedb1be740c7336721ac7a714301a01b57493f0875d2f542", checked := Tryd.checked }
namespace Rows
def none {H : Type} : Left H := { results := [], args := [] }

/- WHAT THE LISTED PACKAGE-LEVEL VARIABLES READ AS WHEN THE CALL BEGINS. Each datum BY PROGRAM (the guide's laid-datum.mjs) off the statement by which the dump's own 'gosem.cut.vars' lays the variable. In a bare row this is a premise. The card (YtekpamilcpeanaaDoorCards.lean) ties it to the program's text. -/
def laid_phalanx_cell_offsets {H : Type} : DataW H := .agg [.agg [.lit (.int .i64 1), .lit (.int .i64 0)], .agg [.lit (.int .i64 0), .lit (.int .i64 1)], .agg [.lit (.int .i64 (-1)), .lit (.int .i64 0)], .agg [.lit (.int .i64 0), .lit (.int .i64 (-1))], .agg [.lit (.int .i64 1), .lit (.int .i64 1)], .agg [.lit (.int .i64 (-1)), .lit (.int .i64 1)], .agg [.lit (.int .i64 (-1)), .lit (.int .i64 (-1))], .agg [.lit (.int .i64 1), .lit (.int .i64 (-1))]]
def laid_phalanx_class_grounds {H : Type} : DataW H := .agg [.lit (.int .u8 3), .lit (.int .u8 1), .lit (.int .u8 4), .lit (.int .u8 5)]

/-- 'phalanxlaw15.SmoothLines': WHATEVER THE INPUT: true; the input reads as it did. -/
def smoothLinesSpec : ChangeSpec := { name := "smoothLines", fn := fun _ => fun
  | [d1, d2] => { results := [.lit (.bool true)], args := [d1, d2] }
  | _ => none }
def smoothLinesRow : OpenClaim := { program := "ytekpamilcpeanaadoor", sum := "2bdfe7ec587dc9e4eedb1be740c7336721ac7a714301a01b57493f0875d2f542", func := "phalanx/phalanxlaw15.SmoothLines", spec := "smoothLines", inPlace := ["slices.overlaps[phalanx/api.Building]"], unfollowed := true, recurses := true, named := ["phalanx/class.grounds", "phalanx/cell.offsets"], plainKeys := false, apart := false, laid := [("phalanx/cell.offsets", laid_phalanx_cell_offsets), ("phalanx/class.grounds", laid_phalanx_class_grounds)] }
def SmoothLinesSaid : Prop := smoothLinesRow.holds Tryd.pinned (OpenSpec.ofChange smoothLinesSpec)

/-- ITS FALSE NEIGHBOUR: 'it returns false'. Refute it at one input. -/
def smoothLinesWrong : ChangeSpec := { name := "smoothLines", fn := fun _ => fun
  | [d1, d2] => { results := [.lit (.bool false)], args := [d1, d2] }
  | _ => none }
def SmoothLinesWrongFalsely : Prop := smoothLinesRow.holds Tryd.pinned (OpenSpec.ofChange smoothLinesWrong)

/-- 'phalanxlaw15.SmoothSmooths': WHATEVER THE INPUT: true; the input reads as it did. -/
def smoothSmoothsSpec : ChangeSpec := { name := "smoothSmooths", fn := fun _ => fun
  | [d1, d2] => { results := [.lit (.bool true)], args := [d1, d2] }
  | _ => none }
def smoothSmoothsRow : OpenClaim := { program := "ytekpamilcpeanaadoor", sum := "2bdfe7ec587dc9e4eedb1be740c7336721ac7a714301a01b57493f0875d2f542", func := "phalanx/phalanxlaw15.SmoothSmooths", spec := "smoothSmooths", inPlace := ["slices.overlaps[phalanx/api.Building]"], unfollowed := true, recurses := true, named := ["phalanx/class.grounds", "phalanx/cell.offsets"], plainKeys := false, apart := false, laid := [("phalanx/cell.offsets", laid_phalanx_cell_offsets), ("phalanx/class.grounds", laid_phalanx_class_grounds)] }
def SmoothSmoothsSaid : Prop := smoothSmoothsRow.holds Tryd.pinned (OpenSpec.ofChange smoothSmoothsSpec)

/-- ITS FALSE NEIGHBOUR: 'it returns false'. Refute it at one input. -/
def smoothSmoothsWrong : ChangeSpec := { name := "smoothSmooths", fn := fun _ => fun
  | [d1, d2] => { results := [.lit (.bool false)], args := [d1, d2] }
  | _ => none }
def SmoothSmoothsWrongFalsely : Prop := smoothSmoothsRow.holds Tryd.pinned (OpenSpec.ofChange smoothSmoothsWrong)

/-- 'phalanxlaw15.SmoothCheaper': WHATEVER THE INPUT: true; the input reads as it did. -/
def smoothCheaperSpec : ChangeSpec := { name := "smoothCheaper", fn := fun _ => fun
  | [d1, d2] => { results := [.lit (.bool true)], args := [d1, d2] }
  | _ => none }
def smoothCheaperRow : OpenClaim := { program := "ytekpamilcpeanaadoor", sum := "2bdfe7ec587dc9e4eedb1be740c7336721ac7a714301a01b57493f0875d2f542", func := "phalanx/phalanxlaw15.SmoothCheaper", spec := "smoothCheaper", inPlace := ["slices.overlaps[phalanx/api.Building]"], unfollowed := true, recurses := true, named := ["phalanx/class.grounds", "phalanx/cell.offsets"], plainKeys := false, apart := false, laid := [("phalanx/cell.offsets", laid_phalanx_cell_offsets), ("phalanx/class.grounds", laid_phalanx_class_grounds)] }
def SmoothCheaperSaid : Prop := smoothCheaperRow.holds Tryd.pinned (OpenSpec.ofChange smoothCheaperSpec)

/-- ITS FALSE NEIGHBOUR: 'it returns false'. Refute it at one input. -/
def smoothCheaperWrong : ChangeSpec := { name := "smoothCheaper", fn := fun _ => fun
  | [d1, d2] => { results := [.lit (.bool false)], args := [d1, d2] }
  | _ => none }
def SmoothCheaperWrongFalsely : Prop := smoothCheaperRow.holds Tryd.pinned (OpenSpec.ofChange smoothCheaperWrong)

/-- 'phalanxlaw15.SmoothTurns': WHATEVER THE INPUT: true; the input reads as it did. -/
def smoothTurnsSpec : ChangeSpec := { name := "smoothTurns", fn := fun _ => fun
  | [d1, d2] => { results := [.lit (.bool true)], args := [d1, d2] }
  | _ => none }
def smoothTurnsRow : OpenClaim := { program := "ytekpamilcpeanaadoor", sum := "2bdfe7ec587dc9e4eedb1be740c7336721ac7a714301a01b57493f0875d2f542", func := "phalanx/phalanxlaw15.SmoothTurns", spec := "smoothTurns", inPlace := ["slices.overlaps[phalanx/api.Building]"], unfollowed := true, recurses := true, named := ["phalanx/cell.offsets", "phalanx/class.grounds"], plainKeys := false, apart := false, laid := [("phalanx/cell.offsets", laid_phalanx_cell_offsets), ("phalanx/class.grounds", laid_phalanx_class_grounds)] }
def SmoothTurnsSaid : Prop := smoothTurnsRow.holds Tryd.pinned (OpenSpec.ofChange smoothTurnsSpec)

/-- ITS FALSE NEIGHBOUR: 'it returns false'. Refute it at one input. -/
def smoothTurnsWrong : ChangeSpec := { name := "smoothTurns", fn := fun _ => fun
  | [d1, d2] => { results := [.lit (.bool false)], args := [d1, d2] }
  | _ => none }
def SmoothTurnsWrongFalsely : Prop := smoothTurnsRow.holds Tryd.pinned (OpenSpec.ofChange smoothTurnsWrong)

/- THE SECOND FORM. 'bulk': how many values and letters a reading holds, each counted each time it is reached (what is shared counts as often as it is met; a slice's spare places count too). A statement '..UptoSaid' is the law's where the arguments, and the package variables that the reading takes, are together of bulk at most 1048576: NARROWER than '..Said'. Prove '..Said' where nothing that the law and all that it calls make is longer than what came in: it says more and counts as full. Else prove '..UptoSaid'. A law counts once. -/
mutual
def uptoBulk {H : Type} : DataW H → Nat
  | .lit (.string bytes) => bytes.length + 1
  | .lit _ => 1
  | .nil => 1
  | .ptr d => uptoBulk d + 1
  | .slice elems spare => uptoBulkAll elems + uptoBulkAll spare + 1
  | .agg parts => uptoBulkAll parts + 1
  | .iface _ d => uptoBulk d + 1
  | .map entries => uptoBulkEntries entries + 1
  | .held _ => 1
def uptoBulkAll {H : Type} : List (DataW H) → Nat
  | [] => 0
  | d :: r => uptoBulk d + uptoBulkAll r
def uptoBulkEntries {H : Type} : List (Lit × DataW H) → Nat
  | [] => 0
  | x :: r => uptoBulkEntry x + uptoBulkEntries r
def uptoBulkEntry {H : Type} : Lit × DataW H → Nat
  | (.string bytes, d) => bytes.length + uptoBulk d + 1
  | (_, d) => uptoBulk d + 1
 end
def uptoSmall : (H : Type) → List (DataW H) → Bool := fun _ ds => decide (uptoBulkAll ds ≤ 1048576)
def OpenSpec.upto (s : _root_.Go.ChangeSpec) : _root_.Go.OpenSpec := { _root_.Go.OpenSpec.ofChange s with cond := some uptoSmall }

/-- 'phalanxlaw15.SmoothLines', WHERE WHAT IT READS IS OF BULK AT MOST 1048576: true; the input reads as it did. -/
def smoothLinesUptoRow : OpenClaim := { program := "ytekpamilcpeanaadoor", sum := "2bdfe7ec587dc9e4eedb1be740c7336721ac7a714301a01b57493f0875d2f542", func := "phalanx/phalanxlaw15.SmoothLines", spec := "smoothLines", inPlace := ["slices.overlaps[phalanx/api.Building]"], unfollowed := true, recurses := true, named := ["phalanx/class.grounds", "phalanx/cell.offsets"], plainKeys := false, apart := false, laid := [("phalanx/cell.offsets", laid_phalanx_cell_offsets), ("phalanx/class.grounds", laid_phalanx_class_grounds)], narrowed := true }
def SmoothLinesUptoSaid : Prop := smoothLinesUptoRow.holds Tryd.pinned (OpenSpec.upto smoothLinesSpec)

/-- 'phalanxlaw15.SmoothSmooths', WHERE WHAT IT READS IS OF BULK AT MOST 1048576: true; the input reads as it did. -/
def smoothSmoothsUptoRow : OpenClaim := { program := "ytekpamilcpeanaadoor", sum := "2bdfe7ec587dc9e4eedb1be740c7336721ac7a714301a01b57493f0875d2f542", func := "phalanx/phalanxlaw15.SmoothSmooths", spec := "smoothSmooths", inPlace := ["slices.overlaps[phalanx/api.Building]"], unfollowed := true, recurses := true, named := ["phalanx/class.grounds", "phalanx/cell.offsets"], plainKeys := false, apart := false, laid := [("phalanx/cell.offsets", laid_phalanx_cell_offsets), ("phalanx/class.grounds", laid_phalanx_class_grounds)], narrowed := true }
def SmoothSmoothsUptoSaid : Prop := smoothSmoothsUptoRow.holds Tryd.pinned (OpenSpec.upto smoothSmoothsSpec)

/-- 'phalanxlaw15.SmoothCheaper', WHERE WHAT IT READS IS OF BULK AT MOST 1048576: true; the input reads as it did. -/
def smoothCheaperUptoRow : OpenClaim := { program := "ytekpamilcpeanaadoor", sum := "2bdfe7ec587dc9e4eedb1be740c7336721ac7a714301a01b57493f0875d2f542", func := "phalanx/phalanxlaw15.SmoothCheaper", spec := "smoothCheaper", inPlace := ["slices.overlaps[phalanx/api.Building]"], unfollowed := true, recurses := true, named := ["phalanx/class.grounds", "phalanx/cell.offsets"], plainKeys := false, apart := false, laid := [("phalanx/cell.offsets", laid_phalanx_cell_offsets), ("phalanx/class.grounds", laid_phalanx_class_grounds)], narrowed := true }
def SmoothCheaperUptoSaid : Prop := smoothCheaperUptoRow.holds Tryd.pinned (OpenSpec.upto smoothCheaperSpec)

/-- 'phalanxlaw15.SmoothTurns', WHERE WHAT IT READS IS OF BULK AT MOST 1048576: true; the input reads as it did. -/
def smoothTurnsUptoRow : OpenClaim := { program := "ytekpamilcpeanaadoor", sum := "2bdfe7ec587dc9e4eedb1be740c7336721ac7a714301a01b57493f0875d2f542", func := "phalanx/phalanxlaw15.SmoothTurns", spec := "smoothTurns", inPlace := ["slices.overlaps[phalanx/api.Building]"], unfollowed := true, recurses := true, named := ["phalanx/cell.offsets", "phalanx/class.grounds"], plainKeys := false, apart := false, laid := [("phalanx/cell.offsets", laid_phalanx_cell_offsets), ("phalanx/class.grounds", laid_phalanx_class_grounds)], narrowed := true }
def SmoothTurnsUptoSaid : Prop := smoothTurnsUptoRow.holds Tryd.pinned (OpenSpec.upto smoothTurnsSpec)

end Rows
end Go.Proofs.YtekpamilcpeanaaDoor
