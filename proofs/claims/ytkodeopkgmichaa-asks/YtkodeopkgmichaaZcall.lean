/-
  A region that draws its order: an operation that calls a function of the program.
-/
import Derived.Test.YtkodeopkgmichaaDoc
namespace Go.Proofs.Ytkodeopkgmichaa
set_option linter.unusedVariables false
set_option linter.unusedSimpArgs false
section
variable {P : Program} {ops : Array Oper} {Q : Exit → Act → World → Prop} {md : Region.Mode} {S : World → Prop} {z : Nat}
/-- The next one calls a function of the program, which returns. -/
theorem readyZ.call {n : Nat} {L : Array Bool} {a : Act} {w : World} {i : Nat} {rs : List Nat} {o : Oper} (ho : ops[i]? = some o) (hg : o.guard = none) {f : FuncId}
    {vs : Array Value} (hrun : (execOp a.eval o).run P w = .ok (.enter f vs) w) {R : Ending → World → Prop} (hc : Calls P f vs w R) (hR : ∀ e w', R e w' → ∃ v, e = .returned v ∧ (i ≠ z → S w') ∧ anyZ P md ops Q S z n (L.setIfInBounds i true) (a.put o.dst v) w')
    (hrest : readyZ P md ops Q S z n L a w rs) : readyZ P md ops Q S z n L a w (i :: rs) := fun j hj => by
  rcases List.mem_cons.1 hj with rfl | hj
  · refine wpOp_step ho (fun K hK => ?_)
    have hw : Region.wanted o (yielded ops a.tmps) = true := by simp [Region.wanted, hg]
    rw [if_pos hw]
    unfold Oper.wp
    rw [hrun]
    refine Calls.mono hc (fun e w' h => ?_)
    obtain ⟨v, rfl, h1, h2⟩ := hR e w' h
    exact hK _ _ ⟨h1, h2⟩
  · exact hrest j hj
end
theorem run_call17 {ev : Operand → Value} {o : Oper} {w : World} {ar : Array Operand} {ts : Array TypeId} {vs : Array Value} (hop : o.op = .call { callee := .value (.func 17), args := ar, argTypes := ts }) (hf : ev (.func 17) = .func (.func 17) #[] #[]) (hvs : ar.map ev = vs) : (execOp ev o).run Try.prog w = .ok (.enter 17 vs) w := by
  unfold execOp
  simp only [hop, resolve, hf, hvs]
  go_simp
theorem run_call18 {ev : Operand → Value} {o : Oper} {w : World} {ar : Array Operand} {ts : Array TypeId} {vs : Array Value} (hop : o.op = .call { callee := .value (.func 18), args := ar, argTypes := ts }) (hf : ev (.func 18) = .func (.func 18) #[] #[]) (hvs : ar.map ev = vs) : (execOp ev o).run Try.prog w = .ok (.enter 18 vs) w := by
  unfold execOp
  simp only [hop, resolve, hf, hvs]
  go_simp
theorem run_call19 {ev : Operand → Value} {o : Oper} {w : World} {ar : Array Operand} {ts : Array TypeId} {vs : Array Value} (hop : o.op = .call { callee := .value (.func 19), args := ar, argTypes := ts }) (hf : ev (.func 19) = .func (.func 19) #[] #[]) (hvs : ar.map ev = vs) : (execOp ev o).run Try.prog w = .ok (.enter 19 vs) w := by
  unfold execOp
  simp only [hop, resolve, hf, hvs]
  go_simp
theorem run_call22 {ev : Operand → Value} {o : Oper} {w : World} {ar : Array Operand} {ts : Array TypeId} {vs : Array Value} (hop : o.op = .call { callee := .value (.func 22), args := ar, argTypes := ts }) (hf : ev (.func 22) = .func (.func 22) #[] #[]) (hvs : ar.map ev = vs) : (execOp ev o).run Try.prog w = .ok (.enter 22 vs) w := by
  unfold execOp
  simp only [hop, resolve, hf, hvs]
  go_simp
theorem run_call21 {ev : Operand → Value} {o : Oper} {w : World} {ar : Array Operand} {ts : Array TypeId} {vs : Array Value} (hop : o.op = .call { callee := .value (.func 21), args := ar, argTypes := ts }) (hf : ev (.func 21) = .func (.func 21) #[] #[]) (hvs : ar.map ev = vs) : (execOp ev o).run Try.prog w = .ok (.enter 21 vs) w := by
  unfold execOp
  simp only [hop, resolve, hf, hvs]
  go_simp
theorem run_call24 {ev : Operand → Value} {o : Oper} {w : World} {ar : Array Operand} {ts : Array TypeId} {vs : Array Value} (hop : o.op = .call { callee := .value (.func 24), args := ar, argTypes := ts }) (hf : ev (.func 24) = .func (.func 24) #[] #[]) (hvs : ar.map ev = vs) : (execOp ev o).run Try.prog w = .ok (.enter 24 vs) w := by
  unfold execOp
  simp only [hop, resolve, hf, hvs]
  go_simp
theorem run_call25 {ev : Operand → Value} {o : Oper} {w : World} {ar : Array Operand} {ts : Array TypeId} {vs : Array Value} (hop : o.op = .call { callee := .value (.func 25), args := ar, argTypes := ts }) (hf : ev (.func 25) = .func (.func 25) #[] #[]) (hvs : ar.map ev = vs) : (execOp ev o).run Try.prog w = .ok (.enter 25 vs) w := by
  unfold execOp
  simp only [hop, resolve, hf, hvs]
  go_simp
theorem run_call26 {ev : Operand → Value} {o : Oper} {w : World} {ar : Array Operand} {ts : Array TypeId} {vs : Array Value} (hop : o.op = .call { callee := .value (.func 26), args := ar, argTypes := ts }) (hf : ev (.func 26) = .func (.func 26) #[] #[]) (hvs : ar.map ev = vs) : (execOp ev o).run Try.prog w = .ok (.enter 26 vs) w := by
  unfold execOp
  simp only [hop, resolve, hf, hvs]
  go_simp
end Go.Proofs.Ytkodeopkgmichaa
