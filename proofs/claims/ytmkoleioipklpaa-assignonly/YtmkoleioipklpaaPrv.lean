/-
  Rows of pairs (a unit, a place) in memory of the call's own.
-/
import Derived.Test.YtmkoleioipklpaaSml
namespace Go.Proofs.Ytmkoleioipklpaa
open Go.RowKit
set_option linter.unusedVariables false
set_option linter.unusedSimpArgs false
def prCs (p : Nat × Nat) : List Value := [.int .i64 (p.1 : Nat), .int .i64 (p.2 : Nat)]
abbrev prV (p : Nat × Nat) : Value := .agg #[.int .i64 (p.1 : Nat), .int .i64 (p.2 : Nat)]
theorem prCs_len (p : Nat × Nat) : (prCs p).length = 2 := rfl
theorem prCs_one (p : Nat × Nat) : ∀ u ∈ prCs p, u.oneCell' = true := by
  intro u h
  simp [prCs] at h
  rcases h with rfl | rfl <;> rfl
theorem prCs_ones (L : List (Nat × Nat)) : ∀ u ∈ L.flatMap prCs, u.oneCell' = true := by
  intro u hu
  obtain ⟨t, -, h⟩ := List.mem_flatMap.1 hu
  exact prCs_one t u h
/-- A row of pairs of the call's own. -/
abbrev Pn (w : World) (v : Value) (L : List (Nat × Nat)) : Prop := Rw 40 2 prCs w v L
theorem infoP : (Try.prog.info? 40).map (fun i => (i.zero, i.size, i.bytes)) = some (some (.agg #[.int .i64 0, .int .i64 0]), 2, 16) := by kernel_rfl
theorem wpList_app_run {P : Program} {w : World} {ops : Array Oper} {rest : List Oper} {o : Oper} {a : Act} {Q : Exit → Act → World → Prop}
    (hgd : o.guard = none) (s x : Operand) (t : TypeId) (ho : o.op = .call { callee := .builtin .append, args := #[s, x], argTypes := #[t, t] })
    (v xv : Value) (hs : a.eval s = v) (hx : a.eval x = xv) {v' : Value} {w' : World} (hr : (Builtin.append_ #[t, t] o.type #[v, xv]).run P w = .ok v' w') (h : wpList P ops Q rest (a.put o.dst v') w') :
    wpList P ops Q (o :: rest) a w := by
  refine wpList_plain hgd fun K hK => ?_
  unfold Oper.wp
  simp [execOp, ho, resolve, invoke, builtin, hs, hx, hr, Result.andThen]
  exact hK _ _ h
theorem Pn.more {w : World} {v xv : Value} {L M : List (Nat × Nat)} (h : Pn w v L) (hM : Rd 2 prCs w xv M) (hn : (L.length + M.length) * 16 ≤ 140737488355328) (ty : TypeId) :
    ∃ v' w', (Builtin.append_ #[36, 36] ty #[v, xv]).run Try.prog w = .ok v' w' ∧ Pn w' v' (L ++ M) ∧ (v'.ownBlock = v.ownBlock ∨ v'.ownBlock = some w.heap.size) ∧ Turns (fun g => v.ownBlock = some g) w w' :=
  Rw.more Try.underlying36 infoP rfl (by decide) prCs_len h hM (prCs_ones M) (by unfold maxLen; omega) hn ty
theorem pr_one (u p : Nat) (w : World) : Pn (w.alloc (.cells #[.int .i64 (u : Nat), .int .i64 (p : Nat)] 40)) (.slice (some ⟨w.heap.size, 0, none⟩) 1 1) [(u, p)] := Rw.single (cs := prCs) prCs_len w (u, p)
theorem run_make36 (w : World) (n : Nat) (hn : n ≤ 4096) : ∃ w', (Instr.makeSlice 36 (.int .i64 0) (.int .i64 (n : Int))).run Try.prog w = .ok (.slice (some ⟨w.heap.size, 0, none⟩) 0 n) w' ∧ Pn w' (.slice (some ⟨w.heap.size, 0, none⟩) 0 n) [] ∧ Below w.heap.size w w' ∧ w'.heap.size = w.heap.size + 1 := by
  obtain ⟨fi, hf, hz, h1, h8⟩ := info_parts infoP
  have hr := run_makeSlice (P := Try.prog) w 36 40 fi _ Try.underlying36 hf hz .i64 .i64 0 n (Int.le_refl _) (by omega) (by rw [h1, Int.toNat_natCast]; omega) (by rw [h8]; omega) (by omega)
  simp only [Int.toNat_zero, Int.toNat_natCast] at hr
  refine ⟨_, hr, World.ownsRow_made w _ n (Nat.zero_le _) (by unfold maxLen; omega) (by rw [h1]; exact size_madeCells _ _), box1 _ _, by simp⟩
end Go.Proofs.Ytmkoleioipklpaa
