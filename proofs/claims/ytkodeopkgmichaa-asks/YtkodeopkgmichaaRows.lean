/-
  No cell of these rows narrows 'for every input' (looked for: loops, veiled, ifaces, maps, wideKeys, modest, calm, conditions, laid).
  DERIVED. THE GIVEN ROWS OF THIS SEAT. 4 by the template 'for every input the law returns true; each argument reads behind the call as it read before'; 0 by the template 'total and deterministic' (their statements: YtkodeopkgmichaaTotals.lean).
  GIVEN WITH THE SEED: the statements are not yours to turn. If you find one false, say at which input.
  Laid BY PROGRAM, IN A SANDBOX (cutbox-rows.mjs): the forced cells as the released guide's own fill.sh prints them over the translation 068c7967b9bcac79… (all of the seat's roots in one cut). By AI agents, Wed Nov 11 2026. No macro, syntax, notation, axiom, sorry.
-/
import Derived.Test.YtkodeopkgmichaaChecked
import GoSem.Claim
import GoSem.ClaimJoined
import GoSem.ClaimMapViews
import Derived.JoinedTies
import Derived.KernelRfl
namespace Go.Proofs.Ytkodeopkgmichaa
/- THE CELL 'sum', in the pinned program and in every row, IS THE sha256 OF THE DUMP (.gsa) THAT YtkodeopkgmichaaProg.lean LOADS. Nothing in Lean hashes anything: it is a label: what it is worth is what the hold of that sum in a sandbox is worth. -/
noncomputable def Try.pinned : Pinned := { name := "ytkodeopkgmichaa", sum := "068c7967b9bcac7998f085231e029b11cbefbd6dbbd5b85e484cb3c71b6a1742", checked := Try.checked }
namespace Rows
def none {H : Type} : Left H := { results := [], args := [] }

/-- 'phalanxlaw05.OccupyActs': WHATEVER THE INPUT: true; the input reads as it did. -/
def occupyActsSpec : ChangeSpec := { name := "occupyActs", fn := fun _ => fun
  | [d] => { results := [.lit (.bool true)], args := [d] }
  | _ => none }
def occupyActsRow : OpenClaim := { program := "ytkodeopkgmichaa", sum := "068c7967b9bcac7998f085231e029b11cbefbd6dbbd5b85e484cb3c71b6a1742", func := "phalanx/phalanxlaw05.OccupyActs", spec := "occupyActs", unfollowed := true, recurses := true, plainKeys := false, apart := false }
def OccupyActsSaid : Prop := occupyActsRow.holds Try.pinned (OpenSpec.ofChange occupyActsSpec)

/-- ITS FALSE NEIGHBOUR: 'it returns false'. Refute it at one input. -/
def occupyActsWrong : ChangeSpec := { name := "occupyActs", fn := fun _ => fun
  | [d] => { results := [.lit (.bool false)], args := [d] }
  | _ => none }
def OccupyActsWrongFalsely : Prop := occupyActsRow.holds Try.pinned (OpenSpec.ofChange occupyActsWrong)

/-- 'phalanxlaw05.OccupyAsks': WHATEVER THE INPUT: true; the input reads as it did. -/
def occupyAsksSpec : ChangeSpec := { name := "occupyAsks", fn := fun _ => fun
  | [d1, d2, d3] => { results := [.lit (.bool true)], args := [d1, d2, d3] }
  | _ => none }
def occupyAsksRow : OpenClaim := { program := "ytkodeopkgmichaa", sum := "068c7967b9bcac7998f085231e029b11cbefbd6dbbd5b85e484cb3c71b6a1742", func := "phalanx/phalanxlaw05.OccupyAsks", spec := "occupyAsks", unfollowed := true, recurses := true, plainKeys := false, apart := false }
def OccupyAsksSaid : Prop := occupyAsksRow.holds Try.pinned (OpenSpec.ofChange occupyAsksSpec)

/-- ITS FALSE NEIGHBOUR: 'it returns false'. Refute it at one input. -/
def occupyAsksWrong : ChangeSpec := { name := "occupyAsks", fn := fun _ => fun
  | [d1, d2, d3] => { results := [.lit (.bool false)], args := [d1, d2, d3] }
  | _ => none }
def OccupyAsksWrongFalsely : Prop := occupyAsksRow.holds Try.pinned (OpenSpec.ofChange occupyAsksWrong)

/-- 'phalanxlaw05.OccupyApart': WHATEVER THE INPUT: true; the input reads as it did. -/
def occupyApartSpec : ChangeSpec := { name := "occupyApart", fn := fun _ => fun
  | [d] => { results := [.lit (.bool true)], args := [d] }
  | _ => none }
def occupyApartRow : OpenClaim := { program := "ytkodeopkgmichaa", sum := "068c7967b9bcac7998f085231e029b11cbefbd6dbbd5b85e484cb3c71b6a1742", func := "phalanx/phalanxlaw05.OccupyApart", spec := "occupyApart", unfollowed := true, recurses := true, plainKeys := false, apart := false }
def OccupyApartSaid : Prop := occupyApartRow.holds Try.pinned (OpenSpec.ofChange occupyApartSpec)

/-- ITS FALSE NEIGHBOUR: 'it returns false'. Refute it at one input. -/
def occupyApartWrong : ChangeSpec := { name := "occupyApart", fn := fun _ => fun
  | [d] => { results := [.lit (.bool false)], args := [d] }
  | _ => none }
def OccupyApartWrongFalsely : Prop := occupyApartRow.holds Try.pinned (OpenSpec.ofChange occupyApartWrong)

/-- 'phalanxlaw05.OccupyNobody': WHATEVER THE INPUT: true; the input reads as it did. -/
def occupyNobodySpec : ChangeSpec := { name := "occupyNobody", fn := fun _ => fun
  | [d] => { results := [.lit (.bool true)], args := [d] }
  | _ => none }
def occupyNobodyRow : OpenClaim := { program := "ytkodeopkgmichaa", sum := "068c7967b9bcac7998f085231e029b11cbefbd6dbbd5b85e484cb3c71b6a1742", func := "phalanx/phalanxlaw05.OccupyNobody", spec := "occupyNobody", unfollowed := true, recurses := true, plainKeys := false, apart := false }
def OccupyNobodySaid : Prop := occupyNobodyRow.holds Try.pinned (OpenSpec.ofChange occupyNobodySpec)

/-- ITS FALSE NEIGHBOUR: 'it returns false'. Refute it at one input. -/
def occupyNobodyWrong : ChangeSpec := { name := "occupyNobody", fn := fun _ => fun
  | [d] => { results := [.lit (.bool false)], args := [d] }
  | _ => none }
def OccupyNobodyWrongFalsely : Prop := occupyNobodyRow.holds Try.pinned (OpenSpec.ofChange occupyNobodyWrong)

/- THE SECOND FORM. 'bulk': how many values and letters a reading holds, each counted each time it is reached (what is shared counts as often as it is met; a slice's spare places count too). A statement '..UptoSaid' is the law's where the arguments, and the package variables that the reading takes, are together of bulk at most 1048576: NARROWER than '..Said'. Prove '..Said' where nothing that the law and all that it calls make is longer than what came in: it says more and counts as full. Else prove '..UptoSaid'. A law counts once. -/
mutual
def uptoBulk {H : Type} : DataW H → Nat
  | .lit (.string bytes) => bytes.length + 1
  | .lit _ => 1
  | .nil => 1
  | .ptr d => uptoBulk d + 1
  | .slice elems spare => uptoBulkAll elems + uptoBulkAll spare + 1
  | .agg parts => uptoBulkAll parts + 1
  | .iface _ d => uptoBulk d + 1
  | .map entries => uptoBulkEntries entries + 1
  | .held _ => 1
def uptoBulkAll {H : Type} : List (DataW H) → Nat
  | [] => 0
  | d :: r => uptoBulk d + uptoBulkAll r
def uptoBulkEntries {H : Type} : List (Lit × DataW H) → Nat
  | [] => 0
  | x :: r => uptoBulkEntry x + uptoBulkEntries r
def uptoBulkEntry {H : Type} : Lit × DataW H → Nat
  | (.string bytes, d) => bytes.length + uptoBulk d + 1
  | (_, d) => uptoBulk d + 1
 end
def uptoSmall : (H : Type) → List (DataW H) → Bool := fun _ ds => decide (uptoBulkAll ds ≤ 1048576)
def OpenSpec.upto (s : _root_.Go.ChangeSpec) : _root_.Go.OpenSpec := { _root_.Go.OpenSpec.ofChange s with cond := some uptoSmall }

/-- 'phalanxlaw05.OccupyActs', WHERE WHAT IT READS IS OF BULK AT MOST 1048576: true; the input reads as it did. -/
def occupyActsUptoRow : OpenClaim := { program := "ytkodeopkgmichaa", sum := "068c7967b9bcac7998f085231e029b11cbefbd6dbbd5b85e484cb3c71b6a1742", func := "phalanx/phalanxlaw05.OccupyActs", spec := "occupyActs", unfollowed := true, recurses := true, plainKeys := false, apart := false, narrowed := true }
def OccupyActsUptoSaid : Prop := occupyActsUptoRow.holds Try.pinned (OpenSpec.upto occupyActsSpec)

/-- 'phalanxlaw05.OccupyAsks', WHERE WHAT IT READS IS OF BULK AT MOST 1048576: true; the input reads as it did. -/
def occupyAsksUptoRow : OpenClaim := { program := "ytkodeopkgmichaa", sum := "068c7967b9bcac7998f085231e029b11cbefbd6dbbd5b85e484cb3c71b6a1742", func := "phalanx/phalanxlaw05.OccupyAsks", spec := "occupyAsks", unfollowed := true, recurses := true, plainKeys := false, apart := false, narrowed := true }
def OccupyAsksUptoSaid : Prop := occupyAsksUptoRow.holds Try.pinned (OpenSpec.upto occupyAsksSpec)

/-- 'phalanxlaw05.OccupyApart', WHERE WHAT IT READS IS OF BULK AT MOST 1048576: true; the input reads as it did. -/
def occupyApartUptoRow : OpenClaim := { program := "ytkodeopkgmichaa", sum := "068c7967b9bcac7998f085231e029b11cbefbd6dbbd5b85e484cb3c71b6a1742", func := "phalanx/phalanxlaw05.OccupyApart", spec := "occupyApart", unfollowed := true, recurses := true, plainKeys := false, apart := false, narrowed := true }
def OccupyApartUptoSaid : Prop := occupyApartUptoRow.holds Try.pinned (OpenSpec.upto occupyApartSpec)

/-- 'phalanxlaw05.OccupyNobody', WHERE WHAT IT READS IS OF BULK AT MOST 1048576: true; the input reads as it did. -/
def occupyNobodyUptoRow : OpenClaim := { program := "ytkodeopkgmichaa", sum := "068c7967b9bcac7998f085231e029b11cbefbd6dbbd5b85e484cb3c71b6a1742", func := "phalanx/phalanxlaw05.OccupyNobody", spec := "occupyNobody", unfollowed := true, recurses := true, plainKeys := false, apart := false, narrowed := true }
def OccupyNobodyUptoSaid : Prop := occupyNobodyUptoRow.holds Try.pinned (OpenSpec.upto occupyNobodySpec)

end Rows
end Go.Proofs.Ytkodeopkgmichaa
