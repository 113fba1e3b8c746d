/-
  Proved: phalanxlaw08.PartsUpdates returns true for every map, every shape and every list of edits, and leaves its arguments as they were. Conditions: none but the row's own: the packages' variables offsets and grounds hold what their initialisers lay (the card ties them).
-/
import Derived.Test.YtoheibfijpdmfaaGreatDoorPUp
import Derived.Test.YtoheibfijpdmfaaGreatDoorMapOpens
import Derived.Test.YtoheibfijpdmfaaGreatDoorCards
import Derived.Test.YtoheibfijpdmfaaGreatDoorTie
namespace Go.Proofs.YtoheibfijpdmfaaGreatDoor.partsUpdates
open Go.ChangeShapes Go.WideShapes Go.ChangeAt Go.WideMaps Go.WideElems Go.RowKit
set_option linter.unusedVariables false
set_option maxRecDepth 100000 in
theorem lifted (os : Os) (started : os.Started) (H : Type) (enc : TypeId × Value → H) :
    ReturnsInHanded {} Tryz.checked os 3 .any (fun w args => (Rows.partsUpdatesSpec.pre enc Tryz.prog Tryz.f3 [] false w args ∧ laidMetH Tryz.prog laid1 w) ∧ sizedMet enc Tryz.prog Tryz.f3 (OpenSpec.ofChange Rows.partsUpdatesSpec) false w args)
      (Rows.partsUpdatesSpec.post enc Tryz.prog Tryz.f3 false true false false) := by
  have DecCn : ∀ (St : Nat → Bool) (Ad : Nat → Nat → Prop) (k i : Nat), Decidable (Cn St Ad k i) := fun _ _ _ _ => Classical.propDecidable _
  refine returnsInHanded_of_change_and (C := Tryz.checked) (X := fun w _ => laidMetH Tryz.prog laid1 w) (fun _ _ _ hh h => h.of_heap hh) own started (by kernel_rfl) Tryz.func3
    (ChangeSpec.witness_shaped (enc := enc) (C := Tryz.checked) (os := os) (X := fun w _ => laidMetH Tryz.prog laid1 w) false (World.doorLaid Tryz.prog 400 os) #[.agg #[.int .i64 0, .int .i64 0, .slice none 0 0, .slice none 0 0], .agg #[.int .i64 0, .int .i64 0], .slice none 0 0] 8 rfl (World.shaped_of_RefB (by kernel_rfl) (by kernel_rfl)) (by kernel_rfl) (by kernel_rfl) (by kernel_rfl) (door_met os _)) ?_
  intro W base args ds gs before hval0 hW _ _ hL _
  have hval : ∀ (j : Nat) t v, Tryz.f3.params[j]? = some t → args[j]? = some v → Value.okWide Tryz.prog W .any base t v := hval0
  have hW' := hW
  obtain ⟨p, q, hA0, hV, rfl, hfz, hnd⟩ := hW
  have hA : DataW.TrodAll enc Tryz.prog W 0 (fun _ => true) true Tryz.f3.params.toList args.toList ds p := hA0
  rw [Tryz.params3] at hA hval
  obtain ⟨v0, vs0, d0, ds0, p0, q0, hargs, rfl, rfl, h0, r0⟩ := trodAll_cons hA
  obtain ⟨v1, vs1, d1, ds1, p1, q1, rfl, rfl, rfl, h1, r1⟩ := trodAll_cons r0
  obtain ⟨v2, vs2, d2, ds2, p2, q2, rfl, rfl, rfl, h2, r2⟩ := trodAll_cons r1
  obtain ⟨rfl, rfl, rfl⟩ := trodAll_nil r2
  obtain rfl : args = #[v0, v1, v2] := by cases args; simp_all
  obtain ⟨rfl, rfl⟩ := trodVars_none hV
  have lt0 : ∀ x ∈ p0, x.block < W.heap.size := by obtain ⟨m, hm⟩ := h0; exact DataW.trod_lt m _ _ _ hm
  have lt1 : ∀ x ∈ p1, x.block < W.heap.size := by obtain ⟨m, hm⟩ := h1; exact DataW.trod_lt m _ _ _ hm
  have lt2 : ∀ x ∈ p2, x.block < W.heap.size := by obtain ⟨m, hm⟩ := h2; exact DataW.trod_lt m _ _ _ hm
  obtain ⟨wd, ht, tv, bv, tl, L, rfl, hT, hTb, hB⟩ := opened_map (hval 0 25 v0 rfl rfl) h0
  obtain ⟨c, s, rfl, -, -, -, -⟩ := open_shape (hval 1 27 v1 rfl rfl) h1
  obtain ⟨K, hK⟩ := opened_edits (hval 2 28 v2 rfl rfl) h2
  clear hA0 hval0
  simp only [List.append_nil] at hW'
  have hwalk : Calls Tryz.prog 3 #[mp wd ht tv bv, shv c s, v2] W fun e w' => e = .returned (.bool true) ∧ Below W.heap.size W w' := by
    have hK' := hK
    obtain ⟨a3, cap3, rfl, -, -⟩ := hK'
    rcases chkC_two wd ht tl L with hc | hc
    · cases hk : shB c s
      · exact upp_shape wd ht tv bv tl L c s a3 K.length cap3 W hT hTb hB (grnd_of_laid hL) (offs_of_laid hL) hc hk
      · obtain ⟨a, b, rfl, rfl, hd⟩ := dims_is hc
        obtain ⟨sn, rfl⟩ : ∃ sn : Nat, s = (sn : Int) := ⟨s.toNat, by simp only [shB, Bool.and_eq_true, decide_eq_true_eq] at hk; omega⟩
        by_cases hbig : 1500 < a * b ∨ 60 < K.length
        · exact upp_big a b hd tv bv tl L c sn a3 K.length cap3 W hT hTb hB (grnd_of_laid hL) (offs_of_laid hL) hc hk hbig
        · exact upp_good a b hd tv bv _ tl L K c sn W hT hTb hB hK (grnd_of_laid hL) (offs_of_laid hL) hc hk (by omega)
    · exact upp_bad wd ht tv bv tl L c s a3 K.length cap3 W hT hTb hB (grnd_of_laid hL) (offs_of_laid hL) hc
  refine hwalk.mono fun e W' ⟨he, hg⟩ => ?_
  subst he
  exact ⟨_, rfl, _, _, _, [], _, [], hW', trodAll_mk1 (shut_bool Tryz.underlying4 _), (trodAll_cons_mk (Below.trod laidOut (by kernel_rfl) (of_decide_eq_true (by kernel_rfl)) h0 hg lt0) (trodAll_cons_mk (Below.trod laidOut (by kernel_rfl) (of_decide_eq_true (by kernel_rfl)) h1 hg lt1) (trodAll_cons_mk (Below.trod laidOut (by kernel_rfl) (of_decide_eq_true (by kernel_rfl)) h2 hg lt2) trodAll_mk0))), rfl, hg.frame _, fun h => by cases h⟩
theorem over : Rows.PartsUpdatesSaid :=
  OpenClaim.holds_of_wide 3 Tryz.f3 rfl rfl rfl rfl rfl rfl rfl ⟨rfl, rfl, rfl, rfl, rfl⟩ rfl rfl rfl rfl rfl (by kernel_rfl) Tryz.func3 (by kernel_rfl)
    (of_decide_eq_true (by kernel_rfl)) (by unfold Func.isWrapper; first | (rw [if_pos (by decide +kernel)]; kernel_rfl) | (rw [if_neg (by decide +kernel)]; exact ⟨rfl, rfl⟩))
    (fun os started H enc _ => lifted os started H enc)
end Go.Proofs.YtoheibfijpdmfaaGreatDoor.partsUpdates
namespace Go.Proofs.YtoheibfijpdmfaaGreatDoor
open Go
theorem partsUpdates_holds : Rows.PartsUpdatesCardSaid :=
  Claim7.holds_tied_plain_at .later [] [.data, .data] true (true, "051c97903017b135eac818d593eac2115d8b53280c0fb55f67786297247bceb9") false
    partsUpdates.over (fun _ h => by cases h) (by kernel_rfl) (fun _ h => by cases h) partsUpdates_row_tie rfl ⟨rfl, rfl⟩ (by kernel_rfl) rfl
    (fun f fn hf hfn => by
      obtain rfl : f = 3 := Option.some.inj ((show Tryz.prog.funcNamed Rows.partsUpdatesRow.func = some 3 by kernel_rfl).symm.trans hf) |>.symm
      obtain rfl : fn = Tryz.f3 := (Option.some.inj (Tryz.func3.symm.trans hfn)).symm
      exact ⟨by kernel_rfl, fun j t ht => by
        rw [Tryz.params3] at ht
        have hm : t ∈ [25, 27, 28] := by simpa using Array.mem_of_getElem? ht
        have hall : ([25, 27, 28].all fun u => !Tryz.prog.wantsStandIn u) = true := by kernel_rfl
        exact (show Tryz.prog.wantsStandIn t = false by simpa using List.all_eq_true.1 hall t hm)⟩)
    (by kernel_rfl)
#print axioms partsUpdates_holds
end Go.Proofs.YtoheibfijpdmfaaGreatDoor
