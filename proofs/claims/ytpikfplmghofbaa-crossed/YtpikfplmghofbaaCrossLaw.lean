/-
  Proved: phalanxlaw11.ClusterCrossed returns true for every cell and every path, and leaves its arguments as they were. Conditions: none but the row's own.
-/
import Derived.Test.YtpikfplmghofbaaCrossWalk
import Derived.Test.YtpikfplmghofbaaPathOpens
import Derived.ChangeOld
import Derived.Carry
import Derived.SizedLaws
namespace Go.Proofs.Ytpikfplmghofbaa.clusterCrossed
open Go.ChangeShapes Go.WideShapes Go.ChangeAt Go.WideMaps Go.WideElems Go.RowKit Go.Joins
set_option linter.unusedVariables false
set_option linter.unusedSimpArgs false
set_option maxRecDepth 100000 in
theorem lifted (os : Os) (started : os.Started) (H : Type) (enc : TypeId × Value → H) :
    ReturnsInHanded {} Try.checked os 4 .any (Rows.clusterCrossedSpec.pre6 enc Try.prog Try.f4 Rows.clusterCrossedRow.domain false) (Rows.clusterCrossedSpec.post enc Try.prog Try.f4 false true false false) := by
  refine returnsInHanded_of_change_sized (C := Try.checked) own started (by kernel_rfl) Try.func4
    (ChangeSpec.witness6 (enc := enc) (C := Try.checked) false ⟨#[], #[.agg #[.int .i64 0, .int .i64 0], .slice none 0 0], []⟩ 8 (by kernel_rfl) (by kernel_rfl) (by kernel_rfl) (by kernel_rfl)) ?_
  intro W base args ds gs before hval0 hW hcnd hsz0 _
  have hval : ∀ (j : Nat) t v, Try.f4.params[j]? = some t → args[j]? = some v → Value.okWide Try.prog W .any base t v := hval0
  have hsz : (DataW.weightsEach Try.prog (Try.f4.params.toList ++ Rows.clusterCrossedSpec.plain.varTypes Try.prog) (ds ++ gs)).all (· ≤ reachBytes) = true := hsz0
  have hW' := hW
  obtain ⟨p, q, hA0, hV, rfl, hfz, hnd⟩ := hW
  have hA : DataW.TrodAll enc Try.prog W 0 (fun _ => true) true Try.f4.params.toList args.toList ds p := hA0
  rw [Try.params4] at hA hval hsz
  obtain ⟨v0, vs0, d0, ds0, p0, q0, hargs, rfl, rfl, h0, r0⟩ := trodAll_cons hA
  obtain ⟨v1, vs1, d1, ds1, p1, q1, rfl, rfl, rfl, h1, r1⟩ := trodAll_cons r0
  obtain ⟨rfl, rfl, rfl⟩ := trodAll_nil r1
  obtain rfl : args = #[v0, v1] := by cases args; simp_all
  obtain ⟨rfl, rfl⟩ := trodVars_none hV
  have lt1 : ∀ x ∈ p1, x.block < W.heap.size := by obtain ⟨m, hm⟩ := h1; exact DataW.trod_lt m _ _ _ hm
  obtain ⟨x, y, rfl, rfl, rfl, wfx, wfy⟩ := open_cell (hval 0 23 v0 rfl rfl) h0
  obtain ⟨P, hP, hL⟩ := opened_path (hval 1 27 v1 rfl rfl) h1
  have hlen : P.length * 16 ≤ 140737488355328 := by
    rcases hL with rfl | ⟨elems, spare, rfl, he⟩
    · simp
    · rw [List.all_eq_true] at hsz
      have h1 : (elems.length + spare.length) * 16 ≤ reachBytes := of_decide_eq_true (hsz _ (DataW.weights_mem_each (j := 1) rfl rfl ((elems.length + spare.length) * 16) (by simp [DataW.weights, Try.underlying27, bytes23])))
      unfold reachBytes at h1
      omega
  clear hA0 hval0
  refine (crossed_walk x y v1 P W hP wfx wfy hlen).mono fun e W' ⟨he, bel⟩ => ?_
  subst he
  exact ⟨_, rfl, _, _, _, [], _, [], hW', trodAll_mk1 (shut_bool Try.underlying4 _), (trodAll_cons_mk (shut_cell wfx wfy) (trodAll_cons_mk (Below.trod laidOut (by kernel_rfl) (of_decide_eq_true (by kernel_rfl)) h1 bel lt1) trodAll_mk0)), rfl, bel.frame _, fun h => by cases h⟩
theorem over : Rows.clusterCrossedRow.holds Try.pinned (OpenSpec.ofChange Rows.clusterCrossedSpec) :=
  OpenClaim.holds_of_wide 4 Try.f4 rfl rfl rfl rfl rfl rfl rfl ⟨rfl, rfl, rfl, rfl, rfl⟩ rfl rfl rfl rfl rfl (by kernel_rfl) Try.func4 (by kernel_rfl)
    (of_decide_eq_true (by kernel_rfl)) (by unfold Func.isWrapper; first | (rw [if_pos (by decide +kernel)]; kernel_rfl) | (rw [if_neg (by decide +kernel)]; exact ⟨rfl, rfl⟩))
    (fun os started H enc _ => lifted os started H enc)
end Go.Proofs.Ytpikfplmghofbaa.clusterCrossed
namespace Go.Proofs.Ytpikfplmghofbaa
theorem clusterCrossed_holds : Rows.ClusterCrossedSaid := clusterCrossed.over
#print axioms clusterCrossed_holds
end Go.Proofs.Ytpikfplmghofbaa
