/-
  What came in as an argument, opened: bytes.
-/
import Derived.Test.YtaioniegggfcjaaBase
import Derived.ProofKit
import Derived.OpenShut
namespace Go.Proofs.Ytaioniegggfcjaa
open Go.ChangeShapes Go.WideShapes Go.ChangeAt Go.RowKit
set_option linter.unusedVariables false
theorem byte_wf {x : Int} (h : (Lit.int .u8 x).wf = true) : 0 ≤ x ∧ x < 256 := by
  have := bounds_u8 h; omega
/-- Bytes that were read, of which it is known that they are not too many. -/
theorem opened_trod {H : Type} {enc : TypeId × Value → H} {W : World} {base : Nat} {sp : Nat → Bool} {held : Bool} {fuel : Nat} {v : Value} {x : DataW H × List MemPlace}
    (h : DataW.trod enc Try.prog W base sp held fuel 22 [v] = some x) (hr : ∀ elems spare, x.1 = .slice elems spare → elems.length ≤ 140737488355328) : ∃ l, Bys W v l ∧ ∀ elems spare, x.1 = .slice elems spare → l.length = elems.length := by
  rcases open_ints Try.underlying22 Try.underlying5 (by kernel_rfl) h with ⟨hcs, hx⟩ | ⟨a, l, c, zs, hcs, _, hl, hm, hz, hx, hcell, hwz⟩
  · simp at hcs
    subst hcs
    exact ⟨[], Bys.nil W, fun elems spare he => by rw [hx] at he; cases he⟩
  · simp at hcs
    subst hcs
    have hx1 : x.1 = _ := congrArg Prod.fst hx
    have hlz : l ≤ zs.length := by rw [hz]; split <;> omega
    have hlen := hr _ _ hx1
    simp only [lits, List.length_map, List.length_take] at hlen
    have hl2 : (zs.take l).length = l := by rw [List.length_take]; omega
    refine ⟨(zs.take l).map Int.toNat, ⟨?_, ?_, some a, c, ?_, ?_, fun h => (by cases h), ?_⟩, ?_⟩
    · intro i
      simp only [dig, List.getD_eq_getElem?_getD, List.getElem?_map]
      cases hi : (zs.take l)[i]? with
      | none => simp
      | some z =>
        have := byte_wf (hwz z (List.mem_of_mem_take (List.mem_of_getElem? hi)))
        simp; omega
    · rw [List.length_map, hl2]; omega
    · rw [List.length_map, hl2]
    · rw [List.length_map, hl2]; exact hl
    · intro hne
      have hpos : 0 < l := by
        rcases Nat.eq_zero_or_pos l with h0 | h0
        · subst h0; simp at hne
        · exact h0
      have hc0 := hcell 0 (by omega)
      obtain ⟨b, o, sp⟩ := a
      obtain rfl : sp = none := by simpa [Addr.add] using World.cell?_spot hc0
      refine ⟨b, o, rfl, ?_, fun i hi => ?_⟩
      · have := World.block_lt_of_cell? _ _ hc0
        simpa [Addr.add_lit] using this
      · rw [List.length_map, hl2] at hi
        have hci := hcell i (by omega)
        rw [Addr.add_lit] at hci
        rw [hci]
        have hget : zs[i]? = some (zs[i]'(by omega)) := List.getElem?_eq_getElem (by omega)
        have hb := byte_wf (hwz _ (List.getElem_mem (show i < zs.length by omega)))
        have e1 : zs.getD i 0 = zs[i]'(by omega) := by simp [List.getD_eq_getElem?_getD, hget]
        have e2 : dig ((zs.take l).map Int.toNat) i = (zs[i]'(by omega)).toNat := by
          simp [dig, List.getD_eq_getElem?_getD, List.getElem?_take_of_lt hi, hget]
        rw [e1, e2]
        congr 2
        omega
    · intro elems spare he
      rw [hx1] at he
      injection he with he1 he2
      rw [← he1]
      simp [lits]
theorem opened_reach {H : Type} {enc : TypeId × Value → H} {W : World} {v : Value} {d : DataW H} {p : List MemPlace} (h : DataW.Trod enc Try.prog W 0 (fun _ => true) true 22 v d p)
    (hv : ∃ a n c, v = .slice a n c := by exact ⟨_, _, _, rfl⟩) (hr : ∀ elems spare, d = .slice elems spare → elems.length ≤ 140737488355328) : ∃ l, Bys W v l := by
  obtain ⟨fuel, hf⟩ := h
  obtain ⟨a, n, c, rfl⟩ := hv
  have hf' : DataW.trod enc Try.prog W 0 (fun _ => true) true fuel 22 [.slice a n c] = some (d, p) := hf
  obtain ⟨l, hl, _⟩ := opened_trod hf' hr
  exact ⟨l, hl⟩
end Go.Proofs.Ytaioniegggfcjaa
