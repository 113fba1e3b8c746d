/-
  No cell of these rows narrows 'for every input' (looked for: loops, veiled, ifaces, maps, wideKeys, modest, calm, conditions, laid).
  DERIVED. THE GIVEN ROWS OF THIS SEAT. 4 by the template 'for every input the law returns true; each argument reads behind the call as it read before'; 0 by the template 'total and deterministic' (their statements: YtmkoleioipklpaaTotals.lean).
  GIVEN WITH THE SEED: the statements are not yours to turn. If you find one false, say at which input.
  Laid BY PROGRAM, IN A SANDBOX (cutbox-rows.mjs): the forced cells as the released guide's own fill.sh prints them over the translation 38f508a376f6f97b… (all of the seat's roots in one cut). By AI agents, Wed Nov 11 2026. No macro, syntax, notation, axiom, sorry.
-/
import Derived.Test.YtmkoleioipklpaaChecked
import GoSem.Claim
import GoSem.ClaimJoined
import GoSem.ClaimMapViews
import Derived.JoinedTies
import Derived.KernelRfl
namespace Go.Proofs.Ytmkoleioipklpaa
/- THE CELL 'sum', in the pinned program and in every row, IS THE sha256 OF THE DUMP (.gsa) THAT YtmkoleioipklpaaProg.lean LOADS. Nothing in Lean hashes anything: it is a label: what it is worth is what the hold of that sum in a sandbox is worth. -/
noncomputable def Try.pinned : Pinned := { name := "ytmkoleioipklpaa", sum := "38f508a376f6f97bc78b7c82edacfc694dca37d42a37cd2dc44c5c6abdaee59c", checked := Try.checked }
namespace Rows
def none {H : Type} : Left H := { results := [], args := [] }

/-- 'phalanxlaw18.AssignMatches': WHATEVER THE INPUT: true; the input reads as it did. -/
def assignMatchesSpec : ChangeSpec := { name := "assignMatches", fn := fun _ => fun
  | [d1, d2] => { results := [.lit (.bool true)], args := [d1, d2] }
  | _ => none }
def assignMatchesRow : OpenClaim := { program := "ytmkoleioipklpaa", sum := "38f508a376f6f97bc78b7c82edacfc694dca37d42a37cd2dc44c5c6abdaee59c", func := "phalanx/phalanxlaw18.AssignMatches", spec := "assignMatches", unfollowed := true, recurses := true, apart := false }
def AssignMatchesSaid : Prop := assignMatchesRow.holds Try.pinned (OpenSpec.ofChange assignMatchesSpec)

/-- ITS FALSE NEIGHBOUR: 'it returns false'. Refute it at one input. -/
def assignMatchesWrong : ChangeSpec := { name := "assignMatches", fn := fun _ => fun
  | [d1, d2] => { results := [.lit (.bool false)], args := [d1, d2] }
  | _ => none }
def AssignMatchesWrongFalsely : Prop := assignMatchesRow.holds Try.pinned (OpenSpec.ofChange assignMatchesWrong)

/-- 'phalanxlaw18.AssignTotals': WHATEVER THE INPUT: true; the input reads as it did. -/
def assignTotalsSpec : ChangeSpec := { name := "assignTotals", fn := fun _ => fun
  | [d1, d2, d3] => { results := [.lit (.bool true)], args := [d1, d2, d3] }
  | _ => none }
def assignTotalsRow : OpenClaim := { program := "ytmkoleioipklpaa", sum := "38f508a376f6f97bc78b7c82edacfc694dca37d42a37cd2dc44c5c6abdaee59c", func := "phalanx/phalanxlaw18.AssignTotals", spec := "assignTotals", unfollowed := true, recurses := true, apart := false }
def AssignTotalsSaid : Prop := assignTotalsRow.holds Try.pinned (OpenSpec.ofChange assignTotalsSpec)

/-- ITS FALSE NEIGHBOUR: 'it returns false'. Refute it at one input. -/
def assignTotalsWrong : ChangeSpec := { name := "assignTotals", fn := fun _ => fun
  | [d1, d2, d3] => { results := [.lit (.bool false)], args := [d1, d2, d3] }
  | _ => none }
def AssignTotalsWrongFalsely : Prop := assignTotalsRow.holds Try.pinned (OpenSpec.ofChange assignTotalsWrong)

/-- 'phalanxlaw18.AssignStable': WHATEVER THE INPUT: true; the input reads as it did. -/
def assignStableSpec : ChangeSpec := { name := "assignStable", fn := fun _ => fun
  | [d1, d2] => { results := [.lit (.bool true)], args := [d1, d2] }
  | _ => none }
def assignStableRow : OpenClaim := { program := "ytmkoleioipklpaa", sum := "38f508a376f6f97bc78b7c82edacfc694dca37d42a37cd2dc44c5c6abdaee59c", func := "phalanx/phalanxlaw18.AssignStable", spec := "assignStable", unfollowed := true, recurses := true, apart := false }
def AssignStableSaid : Prop := assignStableRow.holds Try.pinned (OpenSpec.ofChange assignStableSpec)

/-- ITS FALSE NEIGHBOUR: 'it returns false'. Refute it at one input. -/
def assignStableWrong : ChangeSpec := { name := "assignStable", fn := fun _ => fun
  | [d1, d2] => { results := [.lit (.bool false)], args := [d1, d2] }
  | _ => none }
def AssignStableWrongFalsely : Prop := assignStableRow.holds Try.pinned (OpenSpec.ofChange assignStableWrong)

/-- 'phalanxlaw18.AssignOnly': WHATEVER THE INPUT: true; the input reads as it did. -/
def assignOnlySpec : ChangeSpec := { name := "assignOnly", fn := fun _ => fun
  | [d1, d2, d3] => { results := [.lit (.bool true)], args := [d1, d2, d3] }
  | _ => none }
def assignOnlyRow : OpenClaim := { program := "ytmkoleioipklpaa", sum := "38f508a376f6f97bc78b7c82edacfc694dca37d42a37cd2dc44c5c6abdaee59c", func := "phalanx/phalanxlaw18.AssignOnly", spec := "assignOnly", unfollowed := true, recurses := true, apart := false }
def AssignOnlySaid : Prop := assignOnlyRow.holds Try.pinned (OpenSpec.ofChange assignOnlySpec)

/-- ITS FALSE NEIGHBOUR: 'it returns false'. Refute it at one input. -/
def assignOnlyWrong : ChangeSpec := { name := "assignOnly", fn := fun _ => fun
  | [d1, d2, d3] => { results := [.lit (.bool false)], args := [d1, d2, d3] }
  | _ => none }
def AssignOnlyWrongFalsely : Prop := assignOnlyRow.holds Try.pinned (OpenSpec.ofChange assignOnlyWrong)

/- THE SECOND FORM. 'bulk': how many values and letters a reading holds, each counted each time it is reached (what is shared counts as often as it is met; a slice's spare places count too). A statement '..UptoSaid' is the law's where the arguments, and the package variables that the reading takes, are together of bulk at most 1048576: NARROWER than '..Said'. Prove '..Said' where nothing that the law and all that it calls make is longer than what came in: it says more and counts as full. Else prove '..UptoSaid'. A law counts once. -/
mutual
def uptoBulk {H : Type} : DataW H → Nat
  | .lit (.string bytes) => bytes.length + 1
  | .lit _ => 1
  | .nil => 1
  | .ptr d => uptoBulk d + 1
  | .slice elems spare => uptoBulkAll elems + uptoBulkAll spare + 1
  | .agg parts => uptoBulkAll parts + 1
  | .iface _ d => uptoBulk d + 1
  | .map entries => uptoBulkEntries entries + 1
  | .held _ => 1
def uptoBulkAll {H : Type} : List (DataW H) → Nat
  | [] => 0
  | d :: r => uptoBulk d + uptoBulkAll r
def uptoBulkEntries {H : Type} : List (Lit × DataW H) → Nat
  | [] => 0
  | x :: r => uptoBulkEntry x + uptoBulkEntries r
def uptoBulkEntry {H : Type} : Lit × DataW H → Nat
  | (.string bytes, d) => bytes.length + uptoBulk d + 1
  | (_, d) => uptoBulk d + 1
 end
def uptoSmall : (H : Type) → List (DataW H) → Bool := fun _ ds => decide (uptoBulkAll ds ≤ 1048576)
def OpenSpec.upto (s : _root_.Go.ChangeSpec) : _root_.Go.OpenSpec := { _root_.Go.OpenSpec.ofChange s with cond := some uptoSmall }

/-- 'phalanxlaw18.AssignMatches', WHERE WHAT IT READS IS OF BULK AT MOST 1048576: true; the input reads as it did. -/
def assignMatchesUptoRow : OpenClaim := { program := "ytmkoleioipklpaa", sum := "38f508a376f6f97bc78b7c82edacfc694dca37d42a37cd2dc44c5c6abdaee59c", func := "phalanx/phalanxlaw18.AssignMatches", spec := "assignMatches", unfollowed := true, recurses := true, apart := false, narrowed := true }
def AssignMatchesUptoSaid : Prop := assignMatchesUptoRow.holds Try.pinned (OpenSpec.upto assignMatchesSpec)

/-- 'phalanxlaw18.AssignTotals', WHERE WHAT IT READS IS OF BULK AT MOST 1048576: true; the input reads as it did. -/
def assignTotalsUptoRow : OpenClaim := { program := "ytmkoleioipklpaa", sum := "38f508a376f6f97bc78b7c82edacfc694dca37d42a37cd2dc44c5c6abdaee59c", func := "phalanx/phalanxlaw18.AssignTotals", spec := "assignTotals", unfollowed := true, recurses := true, apart := false, narrowed := true }
def AssignTotalsUptoSaid : Prop := assignTotalsUptoRow.holds Try.pinned (OpenSpec.upto assignTotalsSpec)

/-- 'phalanxlaw18.AssignStable', WHERE WHAT IT READS IS OF BULK AT MOST 1048576: true; the input reads as it did. -/
def assignStableUptoRow : OpenClaim := { program := "ytmkoleioipklpaa", sum := "38f508a376f6f97bc78b7c82edacfc694dca37d42a37cd2dc44c5c6abdaee59c", func := "phalanx/phalanxlaw18.AssignStable", spec := "assignStable", unfollowed := true, recurses := true, apart := false, narrowed := true }
def AssignStableUptoSaid : Prop := assignStableUptoRow.holds Try.pinned (OpenSpec.upto assignStableSpec)

/-- 'phalanxlaw18.AssignOnly', WHERE WHAT IT READS IS OF BULK AT MOST 1048576: true; the input reads as it did. -/
def assignOnlyUptoRow : OpenClaim := { program := "ytmkoleioipklpaa", sum := "38f508a376f6f97bc78b7c82edacfc694dca37d42a37cd2dc44c5c6abdaee59c", func := "phalanx/phalanxlaw18.AssignOnly", spec := "assignOnly", unfollowed := true, recurses := true, apart := false, narrowed := true }
def AssignOnlyUptoSaid : Prop := assignOnlyUptoRow.holds Try.pinned (OpenSpec.upto assignOnlySpec)

end Rows
end Go.Proofs.Ytmkoleioipklpaa
