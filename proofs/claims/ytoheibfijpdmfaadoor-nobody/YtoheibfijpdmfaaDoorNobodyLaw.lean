/-
  Proved: phalanxlaw08.PartsNobody returns true for every two cells, and leaves its arguments as they were. Conditions: none but the row's own: the packages' variables offsets and grounds hold what their initialisers lay (the card ties them).
-/
import Derived.Test.YtoheibfijpdmfaaDoorNobWalk
import Derived.Test.YtoheibfijpdmfaaDoorMapOpens
import Derived.Test.YtoheibfijpdmfaaDoorCards
import Derived.Test.YtoheibfijpdmfaaDoorTie
namespace Go.Proofs.YtoheibfijpdmfaaDoor.partsNobody
open Go.ChangeShapes Go.WideShapes Go.ChangeAt Go.WideMaps Go.WideElems Go.RowKit
set_option linter.unusedVariables false
set_option maxRecDepth 100000 in
theorem lifted (os : Os) (started : os.Started) (H : Type) (enc : TypeId × Value → H) :
    ReturnsInHanded {} Tryd.checked os 5 .any (fun w args => (Rows.partsNobodySpec.pre enc Tryd.prog Tryd.f5 [] false w args ∧ laidMetH Tryd.prog laid1 w) ∧ sizedMet enc Tryd.prog Tryd.f5 (OpenSpec.ofChange Rows.partsNobodySpec) false w args)
      (Rows.partsNobodySpec.post enc Tryd.prog Tryd.f5 false true false false) := by
  have DecCn : ∀ (St : Nat → Bool) (Ad : Nat → Nat → Prop) (k i : Nat), Decidable (Cn St Ad k i) := fun _ _ _ _ => Classical.propDecidable _
  refine returnsInHanded_of_change_and (C := Tryd.checked) (X := fun w _ => laidMetH Tryd.prog laid1 w) (fun _ _ _ hh h => h.of_heap hh) own started (by kernel_rfl) Tryd.func5
    (ChangeSpec.witness_shaped (enc := enc) (C := Tryd.checked) (os := os) (X := fun w _ => laidMetH Tryd.prog laid1 w) false (World.doorLaid Tryd.prog 400 os) #[.agg #[.int .i64 0, .int .i64 0], .agg #[.int .i64 0, .int .i64 0]] 8 rfl (World.shaped_of_RefB (by kernel_rfl) (by kernel_rfl)) (by kernel_rfl) (by kernel_rfl) (by kernel_rfl) (door_met os _)) ?_
  intro W base args ds gs before hval0 hW _ _ hL _
  have hval : ∀ (j : Nat) t v, Tryd.f5.params[j]? = some t → args[j]? = some v → Value.okWide Tryd.prog W .any base t v := hval0
  have hW' := hW
  obtain ⟨p, q, hA0, hV, rfl, hfz, hnd⟩ := hW
  have hA : DataW.TrodAll enc Tryd.prog W 0 (fun _ => true) true Tryd.f5.params.toList args.toList ds p := hA0
  rw [Tryd.params5] at hA hval
  obtain ⟨v0, vs0, d0, ds0, p0, q0, hargs, rfl, rfl, h0, r0⟩ := trodAll_cons hA
  obtain ⟨v1, vs1, d1, ds1, p1, q1, rfl, rfl, rfl, h1, r1⟩ := trodAll_cons r0
  obtain ⟨rfl, rfl, rfl⟩ := trodAll_nil r1
  obtain rfl : args = #[v0, v1] := by cases args; simp_all
  obtain ⟨rfl, rfl⟩ := trodVars_none hV
  obtain ⟨x, y, rfl, rfl, rfl, wfx, wfy⟩ := open_cell (hval 0 41 v0 rfl rfl) h0
  obtain ⟨s, t, rfl, rfl, rfl, wfs, wft⟩ := open_cell (hval 1 41 v1 rfl rfl) h1
  clear hA0 hval0
  simp only [List.append_nil] at hW'
  refine (nobody_walk x y s t W (grnd_of_laid hL) (offs_of_laid hL)).mono fun e W' ⟨he, hg⟩ => ?_
  subst he
  exact ⟨_, rfl, _, _, _, [], _, [], hW', trodAll_mk1 (shut_bool Tryd.underlying4 _), (trodAll_cons_mk (shut_cell wfx wfy) (trodAll_cons_mk (shut_cell wfs wft) trodAll_mk0)), rfl, hg.frame _, fun h => by cases h⟩
theorem over : Rows.PartsNobodySaid :=
  OpenClaim.holds_of_wide 5 Tryd.f5 rfl rfl rfl rfl rfl rfl rfl ⟨rfl, rfl, rfl, rfl, rfl⟩ rfl rfl rfl rfl rfl (by kernel_rfl) Tryd.func5 (by kernel_rfl)
    (of_decide_eq_true (by kernel_rfl)) (by unfold Func.isWrapper; first | (rw [if_pos (by decide +kernel)]; kernel_rfl) | (rw [if_neg (by decide +kernel)]; exact ⟨rfl, rfl⟩))
    (fun os started H enc _ => lifted os started H enc)
end Go.Proofs.YtoheibfijpdmfaaDoor.partsNobody
namespace Go.Proofs.YtoheibfijpdmfaaDoor
open Go
theorem partsNobody_holds : Rows.PartsNobodyCardSaid :=
  Claim7.holds_tied_plain_at .later [] [.data, .data] true (true, "67f620c296cef4d730c3c3c5284f458c6f42e1e9540885ffd429acee01b5fea8") false
    partsNobody.over (fun _ h => by cases h) (by kernel_rfl) (fun _ h => by cases h) partsNobody_row_tie rfl ⟨rfl, rfl⟩ (by kernel_rfl) rfl
    (fun f fn hf hfn => by
      obtain rfl : f = 5 := Option.some.inj ((show Tryd.prog.funcNamed Rows.partsNobodyRow.func = some 5 by kernel_rfl).symm.trans hf) |>.symm
      obtain rfl : fn = Tryd.f5 := (Option.some.inj (Tryd.func5.symm.trans hfn)).symm
      exact ⟨by kernel_rfl, fun j t ht => by
        rw [Tryd.params5] at ht
        have hm : t ∈ [41, 41] := by simpa using Array.mem_of_getElem? ht
        have hall : ([41, 41].all fun u => !Tryd.prog.wantsStandIn u) = true := by kernel_rfl
        exact (show Tryd.prog.wantsStandIn t = false by simpa using List.all_eq_true.1 hall t hm)⟩)
    (by kernel_rfl)
#print axioms partsNobody_holds
end Go.Proofs.YtoheibfijpdmfaaDoor
