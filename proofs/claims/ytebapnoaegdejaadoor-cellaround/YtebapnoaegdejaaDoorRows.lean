/-
  NARROWER THAN 'FOR EVERY INPUT', by the rows' own cells (each row's printed sentence says how): CellSteps: laid · CellAround: laid · CellApart: laid · CellRects: laid · CellGoes: laid · CellBack: laid.
  DERIVED. THE GIVEN ROWS OF THIS SEAT. 6 by the template 'for every input the law returns true; each argument reads behind the call as it read before'; 0 by the template 'total and deterministic' (their statements: YtebapnoaegdejaaDoorTotals.lean).
  GIVEN WITH THE SEED: the statements are not yours to turn. If you find one false, say at which input.
  Laid BY PROGRAM, IN A SANDBOX (cutbox-rows.mjs): the forced cells as the released guide's own fill.sh prints them over the translation 3f4c891a6558455b… (all of the seat's roots in one cut). By AI agents, Wed Nov 11 2026. No macro, syntax, notation, axiom, sorry.
-/
import Derived.Test.YtebapnoaegdejaaDoorChecked
import GoSem.Claim
import GoSem.ClaimJoined
import GoSem.ClaimMapViews
import Derived.JoinedTies
import Derived.KernelRfl
namespace Go.Proofs.YtebapnoaegdejaaDoor
/- THE CELL 'sum', in the pinned program and in every row, IS THE sha256 OF THE DUMP (.gsa) THAT YtebapnoaegdejaaDoorProg.lean LOADS. Nothing in Lean hashes anything: it is a label: what it is worth is what the hold of that sum in a sandbox is worth. -/
noncomputable def Tryd.pinned : Pinned := { name := "ytebapnoaegdejaadoor", sum := "3f4c891a6558455b327d8f88ff2b17f9026136502240cea711568f00fe0551b7", checked := Tryd.checked }
namespace Rows
def none {H : Type} : Left H := { results := [], args := [] }

/- WHAT THE LISTED PACKAGE-LEVEL VARIABLES READ AS WHEN THE CALL BEGINS. Each datum BY PROGRAM (the guide's laid-datum.mjs) off the statement by which the dump's own 'gosem.cut.vars' lays the variable. In a bare row this is a premise. The card (YtebapnoaegdejaaDoorCards.lean) ties it to the program's text. -/
def laid_phalanx_cell_offsets {H : Type} : DataW H := .agg [.agg [.lit (.int .i64 1), .lit (.int .i64 0)], .agg [.lit (.int .i64 0), .lit (.int .i64 1)], .agg [.lit (.int .i64 (-1)), .lit (.int .i64 0)], .agg [.lit (.int .i64 0), .lit (.int .i64 (-1))], .agg [.lit (.int .i64 1), .lit (.int .i64 1)], .agg [.lit (.int .i64 (-1)), .lit (.int .i64 1)], .agg [.lit (.int .i64 (-1)), .lit (.int .i64 (-1))], .agg [.lit (.int .i64 1), .lit (.int .i64 (-1))]]

/-- 'phalanxlaw03.CellSteps': WHATEVER THE INPUT: true; the input reads as it did. -/
def cellStepsSpec : ChangeSpec := { name := "cellSteps", fn := fun _ => fun
  | [d1, d2, d3] => { results := [.lit (.bool true)], args := [d1, d2, d3] }
  | _ => none }
def cellStepsRow : OpenClaim := { program := "ytebapnoaegdejaadoor", sum := "3f4c891a6558455b327d8f88ff2b17f9026136502240cea711568f00fe0551b7", func := "phalanx/phalanxlaw03.CellSteps", spec := "cellSteps", named := ["phalanx/cell.offsets"], apart := false, laid := [("phalanx/cell.offsets", laid_phalanx_cell_offsets)] }
def CellStepsSaid : Prop := cellStepsRow.holds Tryd.pinned (OpenSpec.ofChange cellStepsSpec)

/-- ITS FALSE NEIGHBOUR: 'it returns false'. Refute it at one input. -/
def cellStepsWrong : ChangeSpec := { name := "cellSteps", fn := fun _ => fun
  | [d1, d2, d3] => { results := [.lit (.bool false)], args := [d1, d2, d3] }
  | _ => none }
def CellStepsWrongFalsely : Prop := cellStepsRow.holds Tryd.pinned (OpenSpec.ofChange cellStepsWrong)

/-- 'phalanxlaw03.CellAround': WHATEVER THE INPUT: true; the input reads as it did. -/
def cellAroundSpec : ChangeSpec := { name := "cellAround", fn := fun _ => fun
  | [d1, d2, d3] => { results := [.lit (.bool true)], args := [d1, d2, d3] }
  | _ => none }
def cellAroundRow : OpenClaim := { program := "ytebapnoaegdejaadoor", sum := "3f4c891a6558455b327d8f88ff2b17f9026136502240cea711568f00fe0551b7", func := "phalanx/phalanxlaw03.CellAround", spec := "cellAround", unfollowed := true, recurses := true, named := ["phalanx/cell.offsets"], apart := false, laid := [("phalanx/cell.offsets", laid_phalanx_cell_offsets)] }
def CellAroundSaid : Prop := cellAroundRow.holds Tryd.pinned (OpenSpec.ofChange cellAroundSpec)

/-- ITS FALSE NEIGHBOUR: 'it returns false'. Refute it at one input. -/
def cellAroundWrong : ChangeSpec := { name := "cellAround", fn := fun _ => fun
  | [d1, d2, d3] => { results := [.lit (.bool false)], args := [d1, d2, d3] }
  | _ => none }
def CellAroundWrongFalsely : Prop := cellAroundRow.holds Tryd.pinned (OpenSpec.ofChange cellAroundWrong)

/-- 'phalanxlaw03.CellApart': WHATEVER THE INPUT: true; the input reads as it did. -/
def cellApartSpec : ChangeSpec := { name := "cellApart", fn := fun _ => fun
  | [d1, d2] => { results := [.lit (.bool true)], args := [d1, d2] }
  | _ => none }
def cellApartRow : OpenClaim := { program := "ytebapnoaegdejaadoor", sum := "3f4c891a6558455b327d8f88ff2b17f9026136502240cea711568f00fe0551b7", func := "phalanx/phalanxlaw03.CellApart", spec := "cellApart", named := ["phalanx/cell.offsets"], apart := false, laid := [("phalanx/cell.offsets", laid_phalanx_cell_offsets)] }
def CellApartSaid : Prop := cellApartRow.holds Tryd.pinned (OpenSpec.ofChange cellApartSpec)

/-- ITS FALSE NEIGHBOUR: 'it returns false'. Refute it at one input. -/
def cellApartWrong : ChangeSpec := { name := "cellApart", fn := fun _ => fun
  | [d1, d2] => { results := [.lit (.bool false)], args := [d1, d2] }
  | _ => none }
def CellApartWrongFalsely : Prop := cellApartRow.holds Tryd.pinned (OpenSpec.ofChange cellApartWrong)

/-- 'phalanxlaw03.CellRects': WHATEVER THE INPUT: true; the input reads as it did. -/
def cellRectsSpec : ChangeSpec := { name := "cellRects", fn := fun _ => fun
  | [d1, d2, d3] => { results := [.lit (.bool true)], args := [d1, d2, d3] }
  | _ => none }
def cellRectsRow : OpenClaim := { program := "ytebapnoaegdejaadoor", sum := "3f4c891a6558455b327d8f88ff2b17f9026136502240cea711568f00fe0551b7", func := "phalanx/phalanxlaw03.CellRects", spec := "cellRects", named := ["phalanx/cell.offsets"], apart := false, laid := [("phalanx/cell.offsets", laid_phalanx_cell_offsets)] }
def CellRectsSaid : Prop := cellRectsRow.holds Tryd.pinned (OpenSpec.ofChange cellRectsSpec)

/-- ITS FALSE NEIGHBOUR: 'it returns false'. Refute it at one input. -/
def cellRectsWrong : ChangeSpec := { name := "cellRects", fn := fun _ => fun
  | [d1, d2, d3] => { results := [.lit (.bool false)], args := [d1, d2, d3] }
  | _ => none }
def CellRectsWrongFalsely : Prop := cellRectsRow.holds Tryd.pinned (OpenSpec.ofChange cellRectsWrong)

/-- 'phalanxlaw03.CellGoes': WHATEVER THE INPUT: true; the input reads as it did. -/
def cellGoesSpec : ChangeSpec := { name := "cellGoes", fn := fun _ => fun
  | [d1, d2] => { results := [.lit (.bool true)], args := [d1, d2] }
  | _ => none }
def cellGoesRow : OpenClaim := { program := "ytebapnoaegdejaadoor", sum := "3f4c891a6558455b327d8f88ff2b17f9026136502240cea711568f00fe0551b7", func := "phalanx/phalanxlaw03.CellGoes", spec := "cellGoes", unfollowed := true, recurses := true, named := ["phalanx/cell.offsets"], apart := false, laid := [("phalanx/cell.offsets", laid_phalanx_cell_offsets)] }
def CellGoesSaid : Prop := cellGoesRow.holds Tryd.pinned (OpenSpec.ofChange cellGoesSpec)

/-- ITS FALSE NEIGHBOUR: 'it returns false'. Refute it at one input. -/
def cellGoesWrong : ChangeSpec := { name := "cellGoes", fn := fun _ => fun
  | [d1, d2] => { results := [.lit (.bool false)], args := [d1, d2] }
  | _ => none }
def CellGoesWrongFalsely : Prop := cellGoesRow.holds Tryd.pinned (OpenSpec.ofChange cellGoesWrong)

/-- 'phalanxlaw03.CellBack': WHATEVER THE INPUT: true; the input reads as it did. -/
def cellBackSpec : ChangeSpec := { name := "cellBack", fn := fun _ => fun
  | [d1, d2, d3] => { results := [.lit (.bool true)], args := [d1, d2, d3] }
  | _ => none }
def cellBackRow : OpenClaim := { program := "ytebapnoaegdejaadoor", sum := "3f4c891a6558455b327d8f88ff2b17f9026136502240cea711568f00fe0551b7", func := "phalanx/phalanxlaw03.CellBack", spec := "cellBack", named := ["phalanx/cell.offsets"], apart := false, laid := [("phalanx/cell.offsets", laid_phalanx_cell_offsets)] }
def CellBackSaid : Prop := cellBackRow.holds Tryd.pinned (OpenSpec.ofChange cellBackSpec)

/-- ITS FALSE NEIGHBOUR: 'it returns false'. Refute it at one input. -/
def cellBackWrong : ChangeSpec := { name := "cellBack", fn := fun _ => fun
  | [d1, d2, d3] => { results := [.lit (.bool false)], args := [d1, d2, d3] }
  | _ => none }
def CellBackWrongFalsely : Prop := cellBackRow.holds Tryd.pinned (OpenSpec.ofChange cellBackWrong)

/- THE SECOND FORM. 'bulk': how many values and letters a reading holds, each counted each time it is reached (what is shared counts as often as it is met; a slice's spare places count too). A statement '..UptoSaid' is the law's where the arguments, and the package variables that the reading takes, are together of bulk at most 1048576: NARROWER than '..Said'. Prove '..Said' where nothing that the law and all that it calls make is longer than what came in: it says more and counts as full. Else prove '..UptoSaid'. A law counts once. -/
mutual
def uptoBulk {H : Type} : DataW H → Nat
  | .lit (.string bytes) => bytes.length + 1
  | .lit _ => 1
  | .nil => 1
  | .ptr d => uptoBulk d + 1
  | .slice elems spare => uptoBulkAll elems + uptoBulkAll spare + 1
  | .agg parts => uptoBulkAll parts + 1
  | .iface _ d => uptoBulk d + 1
  | .map entries => uptoBulkEntries entries + 1
  | .held _ => 1
def uptoBulkAll {H : Type} : List (DataW H) → Nat
  | [] => 0
  | d :: r => uptoBulk d + uptoBulkAll r
def uptoBulkEntries {H : Type} : List (Lit × DataW H) → Nat
  | [] => 0
  | x :: r => uptoBulkEntry x + uptoBulkEntries r
def uptoBulkEntry {H : Type} : Lit × DataW H → Nat
  | (.string bytes, d) => bytes.length + uptoBulk d + 1
  | (_, d) => uptoBulk d + 1
 end
def uptoSmall : (H : Type) → List (DataW H) → Bool := fun _ ds => decide (uptoBulkAll ds ≤ 1048576)
def OpenSpec.upto (s : _root_.Go.ChangeSpec) : _root_.Go.OpenSpec := { _root_.Go.OpenSpec.ofChange s with cond := some uptoSmall }

/-- 'phalanxlaw03.CellSteps', WHERE WHAT IT READS IS OF BULK AT MOST 1048576: true; the input reads as it did. -/
def cellStepsUptoRow : OpenClaim := { program := "ytebapnoaegdejaadoor", sum := "3f4c891a6558455b327d8f88ff2b17f9026136502240cea711568f00fe0551b7", func := "phalanx/phalanxlaw03.CellSteps", spec := "cellSteps", named := ["phalanx/cell.offsets"], apart := false, laid := [("phalanx/cell.offsets", laid_phalanx_cell_offsets)], narrowed := true }
def CellStepsUptoSaid : Prop := cellStepsUptoRow.holds Tryd.pinned (OpenSpec.upto cellStepsSpec)

/-- 'phalanxlaw03.CellAround', WHERE WHAT IT READS IS OF BULK AT MOST 1048576: true; the input reads as it did. -/
def cellAroundUptoRow : OpenClaim := { program := "ytebapnoaegdejaadoor", sum := "3f4c891a6558455b327d8f88ff2b17f9026136502240cea711568f00fe0551b7", func := "phalanx/phalanxlaw03.CellAround", spec := "cellAround", unfollowed := true, recurses := true, named := ["phalanx/cell.offsets"], apart := false, laid := [("phalanx/cell.offsets", laid_phalanx_cell_offsets)], narrowed := true }
def CellAroundUptoSaid : Prop := cellAroundUptoRow.holds Tryd.pinned (OpenSpec.upto cellAroundSpec)

/-- 'phalanxlaw03.CellApart', WHERE WHAT IT READS IS OF BULK AT MOST 1048576: true; the input reads as it did. -/
def cellApartUptoRow : OpenClaim := { program := "ytebapnoaegdejaadoor", sum := "3f4c891a6558455b327d8f88ff2b17f9026136502240cea711568f00fe0551b7", func := "phalanx/phalanxlaw03.CellApart", spec := "cellApart", named := ["phalanx/cell.offsets"], apart := false, laid := [("phalanx/cell.offsets", laid_phalanx_cell_offsets)], narrowed := true }
def CellApartUptoSaid : Prop := cellApartUptoRow.holds Tryd.pinned (OpenSpec.upto cellApartSpec)

/-- 'phalanxlaw03.CellRects', WHERE WHAT IT READS IS OF BULK AT MOST 1048576: true; the input reads as it did. -/
def cellRectsUptoRow : OpenClaim := { program := "ytebapnoaegdejaadoor", sum := "3f4c891a6558455b327d8f88ff2b17f9026136502240cea711568f00fe0551b7", func := "phalanx/phalanxlaw03.CellRects", spec := "cellRects", named := ["phalanx/cell.offsets"], apart := false, laid := [("phalanx/cell.offsets", laid_phalanx_cell_offsets)], narrowed := true }
def CellRectsUptoSaid : Prop := cellRectsUptoRow.holds Tryd.pinned (OpenSpec.upto cellRectsSpec)

/-- 'phalanxlaw03.CellGoes', WHERE WHAT IT READS IS OF BULK AT MOST 1048576: true; the input reads as it did. -/
def cellGoesUptoRow : OpenClaim := { program := "ytebapnoaegdejaadoor", sum := "3f4c891a6558455b327d8f88ff2b17f9026136502240cea711568f00fe0551b7", func := "phalanx/phalanxlaw03.CellGoes", spec := "cellGoes", unfollowed := true, recurses := true, named := ["phalanx/cell.offsets"], apart := false, laid := [("phalanx/cell.offsets", laid_phalanx_cell_offsets)], narrowed := true }
def CellGoesUptoSaid : Prop := cellGoesUptoRow.holds Tryd.pinned (OpenSpec.upto cellGoesSpec)

/-- 'phalanxlaw03.CellBack', WHERE WHAT IT READS IS OF BULK AT MOST 1048576: true; the input reads as it did. -/
def cellBackUptoRow : OpenClaim := { program := "ytebapnoaegdejaadoor", sum := "3f4c891a6558455b327d8f88ff2b17f9026136502240cea711568f00fe0551b7", func := "phalanx/phalanxlaw03.CellBack", spec := "cellBack", named := ["phalanx/cell.offsets"], apart := false, laid := [("phalanx/cell.offsets", laid_phalanx_cell_offsets)], narrowed := true }
def CellBackUptoSaid : Prop := cellBackUptoRow.holds Tryd.pinned (OpenSpec.upto cellBackSpec)

end Rows
end Go.Proofs.YtebapnoaegdejaaDoor
