/-
  NARROWER THAN 'FOR EVERY INPUT', by the rows' own cells (each row's printed sentence says how): PortalBetween: laid · PortalAll: laid · PortalCrosses: laid.
  DERIVED. THE GIVEN ROWS OF THIS SEAT. 3 by the template 'for every input the law returns true; each argument reads behind the call as it read before'; 0 by the template 'total and deterministic' (their statements: YtkjogcnoaipniaaGreatDoorTotals.lean).
  GIVEN WITH THE SEED: the statements are not yours to turn. If you find one false, say at which input.
  Laid BY PROGRAM, IN A SANDBOX (cutbox-rows.mjs): the forced cells as the released guide's own fill.sh prints them over the translation 33100127e4e73f3c… (all of the seat's roots in one cut). By AI agents, Wed Nov 11 2026. No macro, syntax, notation, axiom, sorry.
-/
import Derived.Test.YtkjogcnoaipniaaGreatDoorChecked
import GoSem.Claim
import GoSem.ClaimJoined
import GoSem.ClaimMapViews
import Derived.JoinedTies
import Derived.KernelRfl
namespace Go.Proofs.YtkjogcnoaipniaaGreatDoor
/- THE CELL 'sum', in the pinned program and in every row, IS THE sha256 OF THE DUMP (.gsa) THAT YtkjogcnoaipniaaGreatDoorProg.lean LOADS. Nothing in Lean hashes anything: it is a label: what it is worth is what the hold of that sum in a sandbox is worth. -/
noncomputable def Tryz.pinned : Pinned := { name := "ytkjogcnoaipniaagreatdoor", sum := "33100127e4e73f3cb158581cf37adc11272f08ae6bcf4466ee5583b738f4e539", checked := Tryz.checked }
namespace Rows
def none {H : Type} : Left H := { results := [], args := [] }

/- WHAT THE LISTED PACKAGE-LEVEL VARIABLES READ AS WHEN THE CALL BEGINS. Each datum BY PROGRAM (the guide's laid-datum.mjs) off the statement by which the dump's own 'gosem.cut.vars' lays the variable. In a bare row this is a premise. The card (YtkjogcnoaipniaaGreatDoorCards.lean) ties it to the program's text. -/
def laid_phalanx_cell_offsets {H : Type} : DataW H := .agg [.agg [.lit (.int .i64 1), .lit (.int .i64 0)], .agg [.lit (.int .i64 0), .lit (.int .i64 1)], .agg [.lit (.int .i64 (-1)), .lit (.int .i64 0)], .agg [.lit (.int .i64 0), .lit (.int .i64 (-1))], .agg [.lit (.int .i64 1), .lit (.int .i64 1)], .agg [.lit (.int .i64 (-1)), .lit (.int .i64 1)], .agg [.lit (.int .i64 (-1)), .lit (.int .i64 (-1))], .agg [.lit (.int .i64 1), .lit (.int .i64 (-1))]]
def laid_phalanx_class_grounds {H : Type} : DataW H := .agg [.lit (.int .u8 3), .lit (.int .u8 1), .lit (.int .u8 4), .lit (.int .u8 5)]

/-- 'phalanxlaw12.PortalBetween': WHATEVER THE INPUT: true; the input reads as it did. -/
def portalBetweenSpec : ChangeSpec := { name := "portalBetween", fn := fun _ => fun
  | [d1, d2, d3] => { results := [.lit (.bool true)], args := [d1, d2, d3] }
  | _ => none }
def portalBetweenRow : OpenClaim := { program := "ytkjogcnoaipniaagreatdoor", sum := "33100127e4e73f3cb158581cf37adc11272f08ae6bcf4466ee5583b738f4e539", func := "phalanx/phalanxlaw12.PortalBetween", spec := "portalBetween", inPlace := ["slices.overlaps[phalanx/api.Building]"], unfollowed := true, recurses := true, named := ["phalanx/cell.offsets", "phalanx/class.grounds"], plainKeys := false, apart := false, laid := [("phalanx/cell.offsets", laid_phalanx_cell_offsets), ("phalanx/class.grounds", laid_phalanx_class_grounds)] }
def PortalBetweenSaid : Prop := portalBetweenRow.holds Tryz.pinned (OpenSpec.ofChange portalBetweenSpec)

/-- ITS FALSE NEIGHBOUR: 'it returns false'. Refute it at one input. -/
def portalBetweenWrong : ChangeSpec := { name := "portalBetween", fn := fun _ => fun
  | [d1, d2, d3] => { results := [.lit (.bool false)], args := [d1, d2, d3] }
  | _ => none }
def PortalBetweenWrongFalsely : Prop := portalBetweenRow.holds Tryz.pinned (OpenSpec.ofChange portalBetweenWrong)

/-- 'phalanxlaw12.PortalAll': WHATEVER THE INPUT: true; the input reads as it did. -/
def portalAllSpec : ChangeSpec := { name := "portalAll", fn := fun _ => fun
  | [d1, d2] => { results := [.lit (.bool true)], args := [d1, d2] }
  | _ => none }
def portalAllRow : OpenClaim := { program := "ytkjogcnoaipniaagreatdoor", sum := "33100127e4e73f3cb158581cf37adc11272f08ae6bcf4466ee5583b738f4e539", func := "phalanx/phalanxlaw12.PortalAll", spec := "portalAll", inPlace := ["slices.overlaps[phalanx/api.Building]"], unfollowed := true, recurses := true, named := ["phalanx/cell.offsets", "phalanx/class.grounds"], plainKeys := false, apart := false, laid := [("phalanx/cell.offsets", laid_phalanx_cell_offsets), ("phalanx/class.grounds", laid_phalanx_class_grounds)] }
def PortalAllSaid : Prop := portalAllRow.holds Tryz.pinned (OpenSpec.ofChange portalAllSpec)

/-- ITS FALSE NEIGHBOUR: 'it returns false'. Refute it at one input. -/
def portalAllWrong : ChangeSpec := { name := "portalAll", fn := fun _ => fun
  | [d1, d2] => { results := [.lit (.bool false)], args := [d1, d2] }
  | _ => none }
def PortalAllWrongFalsely : Prop := portalAllRow.holds Tryz.pinned (OpenSpec.ofChange portalAllWrong)

/-- 'phalanxlaw12.PortalCrosses': WHATEVER THE INPUT: true; the input reads as it did. -/
def portalCrossesSpec : ChangeSpec := { name := "portalCrosses", fn := fun _ => fun
  | [d1, d2, d3] => { results := [.lit (.bool true)], args := [d1, d2, d3] }
  | _ => none }
def portalCrossesRow : OpenClaim := { program := "ytkjogcnoaipniaagreatdoor", sum := "33100127e4e73f3cb158581cf37adc11272f08ae6bcf4466ee5583b738f4e539", func := "phalanx/phalanxlaw12.PortalCrosses", spec := "portalCrosses", inPlace := ["slices.overlaps[phalanx/api.Building]"], unfollowed := true, recurses := true, named := ["phalanx/cell.offsets", "phalanx/class.grounds"], plainKeys := false, apart := false, laid := [("phalanx/cell.offsets", laid_phalanx_cell_offsets), ("phalanx/class.grounds", laid_phalanx_class_grounds)] }
def PortalCrossesSaid : Prop := portalCrossesRow.holds Tryz.pinned (OpenSpec.ofChange portalCrossesSpec)

/-- ITS FALSE NEIGHBOUR: 'it returns false'. Refute it at one input. -/
def portalCrossesWrong : ChangeSpec := { name := "portalCrosses", fn := fun _ => fun
  | [d1, d2, d3] => { results := [.lit (.bool false)], args := [d1, d2, d3] }
  | _ => none }
def PortalCrossesWrongFalsely : Prop := portalCrossesRow.holds Tryz.pinned (OpenSpec.ofChange portalCrossesWrong)

/- THE SECOND FORM. 'bulk': how many values and letters a reading holds, each counted each time it is reached (what is shared counts as often as it is met; a slice's spare places count too). A statement '..UptoSaid' is the law's where the arguments, and the package variables that the reading takes, are together of bulk at most 1048576: NARROWER than '..Said'. Prove '..Said' where nothing that the law and all that it calls make is longer than what came in: it says more and counts as full. Else prove '..UptoSaid'. A law counts once. -/
mutual
def uptoBulk {H : Type} : DataW H → Nat
  | .lit (.string bytes) => bytes.length + 1
  | .lit _ => 1
  | .nil => 1
  | .ptr d => uptoBulk d + 1
  | .slice elems spare => uptoBulkAll elems + uptoBulkAll spare + 1
  | .agg parts => uptoBulkAll parts + 1
  | .iface _ d => uptoBulk d + 1
  | .map entries => uptoBulkEntries entries + 1
  | .held _ => 1
def uptoBulkAll {H : Type} : List (DataW H) → Nat
  | [] => 0
  | d :: r => uptoBulk d + uptoBulkAll r
def uptoBulkEntries {H : Type} : List (Lit × DataW H) → Nat
  | [] => 0
  | x :: r => uptoBulkEntry x + uptoBulkEntries r
def uptoBulkEntry {H : Type} : Lit × DataW H → Nat
  | (.string bytes, d) => bytes.length + uptoBulk d + 1
  | (_, d) => uptoBulk d + 1
 end
def uptoSmall : (H : Type) → List (DataW H) → Bool := fun _ ds => decide (uptoBulkAll ds ≤ 1048576)
def OpenSpec.upto (s : _root_.Go.ChangeSpec) : _root_.Go.OpenSpec := { _root_.Go.OpenSpec.ofChange s with cond := some uptoSmall }

/-- 'phalanxlaw12.PortalBetween', WHERE WHAT IT READS IS OF BULK AT MOST 1048576: true; the input reads as it did. -/
def portalBetweenUptoRow : OpenClaim := { program := "ytkjogcnoaipniaagreatdoor", sum := "33100127e4e73f3cb158581cf37adc11272f08ae6bcf4466ee5583b738f4e539", func := "phalanx/phalanxlaw12.PortalBetween", spec := "portalBetween", inPlace := ["slices.overlaps[phalanx/api.Building]"], unfollowed := true, recurses := true, named := ["phalanx/cell.offsets", "phalanx/class.grounds"], plainKeys := false, apart := false, laid := [("phalanx/cell.offsets", laid_phalanx_cell_offsets), ("phalanx/class.grounds", laid_phalanx_class_grounds)], narrowed := true }
def PortalBetweenUptoSaid : Prop := portalBetweenUptoRow.holds Tryz.pinned (OpenSpec.upto portalBetweenSpec)

/-- 'phalanxlaw12.PortalAll', WHERE WHAT IT READS IS OF BULK AT MOST 1048576: true; the input reads as it did. -/
def portalAllUptoRow : OpenClaim := { program := "ytkjogcnoaipniaagreatdoor", sum := "33100127e4e73f3cb158581cf37adc11272f08ae6bcf4466ee5583b738f4e539", func := "phalanx/phalanxlaw12.PortalAll", spec := "portalAll", inPlace := ["slices.overlaps[phalanx/api.Building]"], unfollowed := true, recurses := true, named := ["phalanx/cell.offsets", "phalanx/class.grounds"], plainKeys := false, apart := false, laid := [("phalanx/cell.offsets", laid_phalanx_cell_offsets), ("phalanx/class.grounds", laid_phalanx_class_grounds)], narrowed := true }
def PortalAllUptoSaid : Prop := portalAllUptoRow.holds Tryz.pinned (OpenSpec.upto portalAllSpec)

/-- 'phalanxlaw12.PortalCrosses', WHERE WHAT IT READS IS OF BULK AT MOST 1048576: true; the input reads as it did. -/
def portalCrossesUptoRow : OpenClaim := { program := "ytkjogcnoaipniaagreatdoor", sum := "33100127e4e73f3cb158581cf37adc11272f08ae6bcf4466ee5583b738f4e539", func := "phalanx/phalanxlaw12.PortalCrosses", spec := "portalCrosses", inPlace := ["slices.overlaps[phalanx/api.Building]"], unfollowed := true, recurses := true, named := ["phalanx/cell.offsets", "phalanx/class.grounds"], plainKeys := false, apart := false, laid := [("phalanx/cell.offsets", laid_phalanx_cell_offsets), ("phalanx/class.grounds", laid_phalanx_class_grounds)], narrowed := true }
def PortalCrossesUptoSaid : Prop := portalCrossesUptoRow.holds Tryz.pinned (OpenSpec.upto portalCrossesSpec)

end Rows
end Go.Proofs.YtkjogcnoaipniaaGreatDoor
