/-
  slices.Repeat of one number. begin: a search from a cell. Whether a shape stands at a cell of a rectangle. Find.
-/
import Derived.Test.YtggaobcdogbjhaaGreatDoorSrAll
import Derived.Laws.MathBits
import Derived.Laws.CopyRow
import Derived.Deep.OwnRows
import Derived.Test.YtggaobcdogbjhaaGreatDoorGoAll
import Derived.Test.YtggaobcdogbjhaaGreatDoorThAll
import Derived.Test.YtggaobcdogbjhaaGreatDoorMeet
namespace Go.Proofs.YtggaobcdogbjhaaGreatDoor
open Go.RowKit Go.Shelf
set_option linter.unusedVariables false
set_option linter.unusedSimpArgs false
attribute [local go_sem] Oper.semAt_some
set_option maxRecDepth 100000 in
set_option maxHeartbeats 2000000 in
theorem mul64_one (n : Int) (hn : 0 ≤ n ∧ n ≤ 16384) (w : World) : Calls Tryz.prog 105 #[.int .u64 1, .int .u64 n] w fun e w' => e = .returned (.tuple #[.int .u64 0, .int .u64 n]) ∧ w' = w := by
  have h1 : bits .and .u64 1 4294967295 = 1 := by rw [and_low32 1 (by omega) (by omega)]; omega
  have h2 : bits .and .u64 n 4294967295 = n := by rw [and_low32 n (by omega) (by omega)]; omega
  have h0 : bits .and .u64 0 4294967295 = 0 := by rw [and_low32 0 (by omega) (by omega)]; omega
  have hd : n / 4294967296 = 0 := by omega
  have hw : IntKind.u64.wrap n = n := by rw [IntKind.wrap_u64]; omega
  have hw0 : IntKind.u64.wrap 0 = 0 := by decide
  go_enter Tryz.func105, Tryz.ntmps105
  go_wp2_with (first | rw [h1] | rw [h2] | rw [h0] | rw [hd] | fail)
  refine bodyPost_ret (v := .tuple #[.int .u64 0, .int .u64 n]) ?_ rfl ⟨rfl, rfl⟩
  simp [results, Tryz.f105, go_sem, h1, h2, h0, hd, hw, hw0]
set_option maxRecDepth 100000 in
set_option maxHeartbeats 2000000 in
theorem mul_one (n : Int) (hn : 0 ≤ n ∧ n ≤ 16384) (w : World) : Calls Tryz.prog 78 #[.int .u64 1, .int .u64 n] w fun e w' => e = .returned (.tuple #[.int .u64 0, .int .u64 n]) ∧ w' = w := by
  have H := hide (mul64_one n hn w)
  go_enter Tryz.func78, Tryz.ntmps78
  go_wp2_with fail
  refine H.out.mono ?_
  rintro e w' ⟨rfl, rfl⟩
  go_wp2_with fail
  refine bodyPost_ret (v := .tuple #[.int .u64 0, .int .u64 n]) ?_ rfl ⟨rfl, rfl⟩
  simp [results, Tryz.f78, go_sem]
theorem made_list (z : Value) (n : Nat) : madeCells #[z] n = Array.replicate n z := by
  simp only [madeCells]
  refine Array.ext (by simp) (fun i h1 h2 => ?_)
  simp [Nat.mod_one]
theorem info3n : (Tryz.prog.info? 3).map (fun i => (i.zero, i.size, i.bytes)) = some (some (.int .i64 0), 1, 8) := by kernel_rfl
theorem make_nums (n : Nat) (hn : n ≤ 16384) (w : World) : (Instr.makeSlice 53 (.int .i64 (n : Nat)) (.int .i64 (n : Nat))).run Tryz.prog w = .ok (.slice (some ⟨w.heap.size, 0, none⟩) n n) (w.alloc (.cells (Array.replicate n (.int .i64 0)) 3)) := by
  have := run_make_row' (P := Tryz.prog) 53 3 (.int .i64 0) 8 Tryz.underlying53 info3n rfl .i64 .i64 n (by omega) (by omega) w
  rw [made_list] at this
  exact this
/-- So many numbers z, then 0. -/
def repL (z : Int) (n i : Nat) : List Value := List.replicate i (.int .i64 z) ++ List.replicate (n - i) (.int .i64 0)
theorem wpList_copy_run {P : Program} {w : World} {ops : Array Oper} {rest : List Oper} {o : Oper} {a : Act} {Q : Exit → Act → World → Prop}
    (hgd : o.guard = none) (s x : Operand) (t : TypeId) (ho : o.op = .call { callee := .builtin .copy, args := #[s, x], argTypes := #[t, t] })
    (v xv : Value) (hs : a.eval s = v) (hx : a.eval x = xv) {v' : Value} {w' : World} (hr : (Builtin.copy_ #[t, t] o.type #[v, xv]).run P w = .ok v' w') (h : wpList P ops Q rest (a.put o.dst v') w') :
    wpList P ops Q (o :: rest) a w := by
  refine wpList_plain hgd fun K hK => ?_
  unfold Oper.wp
  simp [execOp, ho, resolve, invoke, builtin, hs, hx, hr, Result.andThen]
  exact hK _ _ h
theorem run_copyZ {P : Program} {ev : Operand → Value} {o : Oper} {w w' : World} {s x : Operand} {t : TypeId} {v xv v' : Value} (ho : o.op = .call { callee := .builtin .copy, args := #[s, x], argTypes := #[t, t] })
    (hs : ev s = v) (hx : ev x = xv) (hr : (Builtin.copy_ #[t, t] o.type #[v, xv]).run P w = .ok v' w') : (execOp ev o).run P w = .ok (.value v') w' := by
  simp [execOp, ho, resolve, invoke, builtin, hs, hx, hr, Result.andThen]
theorem one_rep {z : Int} {i : Nat} : ∀ v ∈ List.replicate i (Value.int .i64 z), v.oneCell' = true := fun v hv => by
  rw [List.eq_of_mem_replicate hv]; rfl
theorem rep_copy (w : World) (B : Nat) (z : Int) (n i m : Nat) (a : Addr) (c1 c2 sl : Nat) (ty : TypeId) (hg : w.heap[B]? = some (.cells (repL z n i).toArray 3)) (hm : m = Nat.min sl (n - i)) (hi : i ≤ n) (hsrc : ∀ j, j < m → w.cell? (a.add j) = some (.int .i64 z)) :
    ∃ w', (Builtin.copy_ #[53, 53] ty #[.slice (some ⟨B, i, none⟩) (n - i) c1, .slice (some a) sl c2]).run Tryz.prog w = .ok (.int .i64 (m : Nat)) w' ∧ w'.heap[B]? = some (.cells (repL z n (i + m)).toArray 3) ∧ ∀ N w0, Below N w0 w → N ≤ B → Below N w0 w' := by
  have hmn : m ≤ n - i := by rw [hm]; exact Nat.min_le_right _ _
  have := run_copy_row (P := Tryz.prog) w 53 53 ty 3 B i (n - i) c1 a sl c2 (repL z n i).toArray 3 (List.replicate m (.int .i64 z)) Tryz.underlying53 (by kernel_rfl) hg (by simp [hm]) (fun j v hv => by
    obtain ⟨h1, h2⟩ := List.getElem?_eq_some_iff.1 hv
    simp at h1 h2
    rw [← h2]
    exact hsrc j h1) (by simp [repL]; omega) one_rep
  refine ⟨_, this.trans (by rw [List.length_replicate]; rfl), ?_, fun N w0 hb hN => ?_⟩
  · have e1 : (List.replicate i (Value.int .i64 z) ++ List.replicate (n - i) (Value.int .i64 0)).take i = List.replicate i (Value.int .i64 z) := by
      rw [List.take_append_of_le_length (by simp)]; simp
    have e2 : (List.replicate i (Value.int .i64 z) ++ List.replicate (n - i) (Value.int .i64 0)).drop (i + m) = List.replicate (n - (i + m)) (Value.int .i64 0) := by
      rw [List.drop_append]; simp; omega
    have e3 : List.take i (repL z n i).toArray.toList ++ List.replicate m (Value.int .i64 z) ++ List.drop (i + m) (repL z n i).toArray.toList = repL z n (i + m) := by
      show List.take i (repL z n i) ++ _ ++ List.drop (i + m) (repL z n i) = _
      unfold repL
      rw [e1, e2, List.replicate_append_replicate]
    rw [e3]
    exact setRow_heap w B _ _ 3 _ hg
  · exact hb.trans ⟨rfl, rfl, rfl, by simp [World.setRow], fun k hk => setRow_other w B k _ (by omega)⟩
set_option maxRecDepth 100000 in
set_option maxHeartbeats 2000000 in
theorem repeat_is (g : Nat) (z : Int) (n : Nat) (hn : 0 < n ∧ n ≤ 16384) (w : World) (hc : w.cell? ⟨g, 0, none⟩ = some (.int .i64 z)) (hg : g < w.heap.size) :
    Calls Tryz.prog 46 #[.slice (some ⟨g, 0, none⟩) 1 1, .int .i64 (n : Nat)] w fun e w' => e = .returned (.slice (some ⟨w.heap.size, 0, none⟩) n n) ∧ w'.heap[w.heap.size]? = some (.cells (repL z n n).toArray 3) ∧ Below w.heap.size w w' := by
  have hmk := make_nums n hn.2
  have HM := hide (mul_one (n : Nat) (by omega) w)
  have B0 : Below w.heap.size w (w.alloc (.cells (Array.replicate n (.int .i64 0)) 3)) := box1 _ _
  have R0 : (w.alloc (.cells (Array.replicate n (Value.int .i64 0)) 3)).heap[w.heap.size]? = some (.cells (repL z n 0).toArray 3) := by
    rw [heap_alloc_new]; simp [repL]
  obtain ⟨W1, r1, R1, K1⟩ := rep_copy (w.alloc (.cells (Array.replicate n (.int .i64 0)) 3)) w.heap.size z n 0 1 ⟨g, 0, none⟩ n 1 1 3 R0 (by show 1 = min 1 n; omega) (by omega) (fun j hj => by
    obtain rfl : j = 0 := by omega
    rw [Addr.add_lit]
    exact cell_later B0 hc)
  have B1 := K1 _ _ B0 (Nat.le_refl _)
  have HR1 := hide (show (Builtin.copy_ #[53, 53] 3 #[.slice (some ⟨w.heap.size, 0, none⟩) n n, .slice (some ⟨g, 0, none⟩) 1 1]).run Tryz.prog (w.alloc (.cells (Array.replicate n (.int .i64 0)) 3)) = .ok (.int .i64 (1 : Nat)) W1 from r1)
  have HS := hide (And.intro R1 B1)
  clear r1 R0 K1 B0 R1 B1
  go_enter Tryz.func46, Tryz.ntmps46
  go_wp2_with fail
  refine HM.out.mono ?_
  rintro e w' ⟨rfl, rfl⟩
  have hnp : ¬ ((n : Nat) : Int) < 0 := by omega
  go_wp2_with (rw [HR1.out])
  obtain ⟨B, hB⟩ : ∃ B, w'.heap.size = B := ⟨_, rfl⟩
  rw [hB] at HS ⊢
  have HB := hide hB
  clear hmk hB HR1 HM hc hg
  go_loopw [8] (fun v wr => ∃ i : Nat, v = .int .i64 (i : Nat) ∧ (1 ≤ i ∧ i ≤ n) ∧ wr.heap[B]? = some (.cells (repL z n i).toArray 3) ∧ Below B w' wr) (fun v _ => n - (intOf v).toNat)
  case atStart => exact ⟨1, rfl, by omega, HS.out.1, HS.out.2⟩
  case round =>
    clear HS
    obtain ⟨i, rfl, ⟨hi1, hi2⟩, hR, hb⟩ := hrel
    by_cases hlt : i < n
    · obtain ⟨m, hm⟩ : ∃ m, Nat.min i (n - i) = m := ⟨_, rfl⟩
      have hmm : m = min i (n - i) := hm.symm
      obtain ⟨W2, r2, R2, K2⟩ := rep_copy wr.drew B z n i m ⟨B, 0, none⟩ (n - i) n i 3 hR hm.symm hi2 (fun j hj => by
        rw [Addr.add_lit, Nat.zero_add]
        have hj2 : j < i := by omega
        have hR' : wr.drew.heap[B]? = some (.cells (repL z n i).toArray 3) := hR
        rw [cell_of_row _ B j _ _ _ hR']
        simp [repL, List.getElem?_append, hj2])
      have HA := hide r2
      have HE := hide (And.intro R2 (K2 _ _ hb.drew (Nat.le_refl _)))
      have hil : ((i : Nat) : Int) < (n : Nat) := by omega
      have hile : ((i : Nat) : Int) ≤ (n : Nat) := by omega
      have hwr : IntKind.i64.wrap (((i : Nat) : Int) + ((m : Nat) : Int)) = ((i : Nat) : Int) + ((m : Nat) : Int) := IntWalk.i64_in _ (by omega)
      have hne : ¬ n = i := by omega
      have Hm := hide hmm
      clear hR hb r2 R2 K2 hm hmm
      go_wp2_with fail
      refine wp_only ?_
      refine wp_region_z (fun _ => True) [] (by kernel_rfl) ?_
      refine anyZ_take 0 8 (v := .int .i64 (i : Nat)) rfl (by kernel_rfl) (fun _ _ _ h => h.elim) (Or.inl ⟨by rfl, fun wx hx => by go_simp⟩) trivial ?_
      try simp only [Act.put, List.getElem_toArray, List.getElem_cons_zero, List.getElem_cons_succ, List.setIfInBounds_toArray, List.set_cons_zero, List.set_cons_succ]
      refine anyZ_take 1 8 (v := .slice (some ⟨B, 0, none⟩) n n) rfl (by kernel_rfl) (fun _ _ _ h => h.elim) (Or.inl ⟨by rfl, fun wx hx => by go_simp⟩) trivial ?_
      try simp only [Act.put, List.getElem_toArray, List.getElem_cons_zero, List.getElem_cons_succ, List.setIfInBounds_toArray, List.set_cons_zero, List.set_cons_succ]
      refine anyZ_take 2 8 (v := .int .i64 (i : Nat)) rfl (by kernel_rfl) (fun _ _ _ h => h.elim) (Or.inl ⟨by rfl, fun wx hx => by go_simp⟩) trivial ?_
      try simp only [Act.put, List.getElem_toArray, List.getElem_cons_zero, List.getElem_cons_succ, List.setIfInBounds_toArray, List.set_cons_zero, List.set_cons_succ]
      refine anyZ_take 3 8 (v := .slice (some ⟨B, i, none⟩) (n - i) (n - i)) rfl (by kernel_rfl) (fun _ _ _ h => h.elim) (Or.inl ⟨by rfl, fun wx hx => by go_simp⟩) trivial ?_
      try simp only [Act.put, List.getElem_toArray, List.getElem_cons_zero, List.getElem_cons_succ, List.setIfInBounds_toArray, List.set_cons_zero, List.set_cons_succ]
      refine anyZ_take 4 8 (v := .slice (some ⟨B, 0, none⟩) n n) rfl (by kernel_rfl) (fun _ _ _ h => h.elim) (Or.inl ⟨by rfl, fun wx hx => by go_simp⟩) trivial ?_
      try simp only [Act.put, List.getElem_toArray, List.getElem_cons_zero, List.getElem_cons_succ, List.setIfInBounds_toArray, List.set_cons_zero, List.set_cons_succ]
      refine anyZ_take 5 8 (v := .int .i64 (i : Nat)) rfl (by kernel_rfl) (fun _ _ _ h => h.elim) (Or.inl ⟨by rfl, fun wx hx => by go_simp⟩) trivial ?_
      try simp only [Act.put, List.getElem_toArray, List.getElem_cons_zero, List.getElem_cons_succ, List.setIfInBounds_toArray, List.set_cons_zero, List.set_cons_succ]
      refine anyZ_take 6 8 (v := .slice (some ⟨B, 0, none⟩) i n) rfl (by kernel_rfl) (fun _ _ _ h => h.elim) (Or.inl ⟨by rfl, fun wx hx => by go_simp⟩) trivial ?_
      try simp only [Act.put, List.getElem_toArray, List.getElem_cons_zero, List.getElem_cons_succ, List.setIfInBounds_toArray, List.set_cons_zero, List.set_cons_succ]
      refine anyZ_ready (rs := [7]) (by kernel_rfl) (by simp) ?_
      refine readyZ.cons rfl rfl (run_copyZ (by rfl) (by rfl) (by rfl) HA.out) (fun _ => trivial) ?_ readyZ.nil
      try simp only [Act.put, List.getElem_toArray, List.getElem_cons_zero, List.getElem_cons_succ, List.setIfInBounds_toArray, List.set_cons_zero, List.set_cons_succ]
      refine anyZ_take 8 8 (v := .int .i64 (((i : Nat) : Int) + ((m : Nat) : Int))) rfl (by kernel_rfl) (fun _ _ _ h => h.elim) (Or.inl ⟨by rfl, fun wx hx => by go_simp⟩) trivial ?_
      try simp only [Act.put, List.getElem_toArray, List.getElem_cons_zero, List.getElem_cons_succ, List.setIfInBounds_toArray, List.set_cons_zero, List.set_cons_succ]
      refine anyZ_take 9 8 (v := .int .i64 (((i : Nat) : Int) + ((m : Nat) : Int))) rfl (by kernel_rfl) (fun _ _ _ h => h.elim) (Or.inl ⟨by rfl, fun wx hx => by go_simp⟩) trivial ?_
      try simp only [Act.put, List.getElem_toArray, List.getElem_cons_zero, List.getElem_cons_succ, List.setIfInBounds_toArray, List.set_cons_zero, List.set_cons_succ]
      refine anyZ_done (by kernel_rfl) ?_ _
      dsimp only [Only, Exit.then]
      go_wp2_with fail
      go_roundw
      case rel => exact ⟨i + m, by push_cast; rfl, by have := Hm.out; omega, HE.out.1, HE.out.2⟩
      case measure => have := Hm.out; simp [intOf]; omega
    · obtain rfl : i = n := by omega
      have hki : ¬ ((i : Nat) : Int) < (i : Nat) := by omega
      have HE := hide (And.intro hR hb)
      clear hR hb
      go_wp2_with fail
      go_ret
      rw [HB.out]
      exact ⟨rfl, HE.out⟩
end Go.Proofs.YtggaobcdogbjhaaGreatDoor
namespace Go.Proofs.YtggaobcdogbjhaaGreatDoor
open Go.RowKit Go.Shelf
set_option linter.unusedVariables false
set_option linter.unusedSimpArgs false
attribute [local go_sem] Oper.semAt_some
theorem mk22 (n : Nat) (hn : n ≤ 16384) (w : World) : ∃ w', (Instr.makeSlice 22 (.int .i64 (n : Nat)) (.int .i64 (n : Nat))).run Tryz.prog w = .ok (.slice (some ⟨w.heap.size, 0, none⟩) n n) w' ∧ w'.heap[w.heap.size]? = some (.cells (Array.replicate n (.int .u8 0)) 5) ∧ Below w.heap.size w w' := by
  have := run_make_row' (P := Tryz.prog) 22 5 (.int .u8 0) 1 Tryz.underlying22 info5 rfl .i64 .i64 n (by omega) (by omega) w
  rw [made_list] at this
  exact ⟨_, this, heap_alloc_new _ _, box1 _ _⟩
theorem run_makeZ {P : Program} {ev : Operand → Value} {o : Oper} {w w' : World} {t : TypeId} {x y : Operand} {n : Nat} {v : Value} (ho : o.op = .makeSlice t x y) (hx : ev x = .int .i64 (n : Nat)) (hy : ev y = .int .i64 (n : Nat)) (hr : (Instr.makeSlice t (.int .i64 (n : Nat)) (.int .i64 (n : Nat))).run P w = .ok v w') : (execOp ev o).run P w = .ok (.value v) w' := by
  simp [execOp, ho, hx, hy, hr, Result.andThen]
theorem run_oneZ {ev : Operand → Value} {o : Oper} {w : World} (ho : o.op = .buildSlice 53 1 #[(0, .const (.int .i64 (-1)))]) (hx : ev (.const (.int .i64 (-1))) = .int .i64 (-1)) : (execOp ev o).run Tryz.prog w = .ok (.value (.slice (some ⟨w.heap.size, 0, none⟩) 1 1)) (w.alloc (.cells #[.int .i64 (-1)] 3)) := by
  unfold execOp
  rw [ho]
  go_simp
theorem run_box62 {ev : Operand → Value} {o : Oper} {w : World} {x : Operand} {p b : Nat} {c s ix iy iw ih : Int} {ga ca : Option Addr} {gl gc cl cc : Nat} {F : Fn} {fr : Array Value} {bd : Array Value} (ho : o.op = .box 80 x) (hx : ev x = .agg #[ptr p, .int .i64 c, .int .i64 s, .int .i64 ix, .int .i64 iy, .int .i64 iw, .int .i64 ih, .slice ga gl gc, .slice ca cl cc, ptr b, .func F fr bd]) :
    (execOp ev o).run Tryz.prog w = .ok (.value (ptr w.heap.size)) (w.alloc (.cells #[ptr p, .int .i64 c, .int .i64 s, .int .i64 ix, .int .i64 iy, .int .i64 iw, .int .i64 ih, .slice ga gl gc, .slice ca cl cc, ptr b, .func F fr bd] 80)) := by
  unfold execOp
  rw [ho]
  simp only [hx]
  go_simp
theorem run_call29 {ev : Operand → Value} {o : Oper} {w : World} {ar : Array Operand} {ts : Array TypeId} {vs : Array Value} (hop : o.op = .call { callee := .value (.func 46), args := ar, argTypes := ts }) (hf : ev (.func 46) = .func (.func 46) #[] #[]) (hvs : ar.map ev = vs) : (execOp ev o).run Tryz.prog w = .ok (.enter 46 vs) w := by
  unfold execOp
  simp only [hop, resolve, hf, hvs]
  go_simp
theorem run_call30 {ev : Operand → Value} {o : Oper} {w : World} {ar : Array Operand} {ts : Array TypeId} {vs : Array Value} (hop : o.op = .call { callee := .value (.func 64), args := ar, argTypes := ts }) (hf : ev (.func 64) = .func (.func 64) #[] #[]) (hvs : ar.map ev = vs) : (execOp ev o).run Tryz.prog w = .ok (.enter 64 vs) w := by
  unfold execOp
  simp only [hop, resolve, hf, hvs]
  go_simp
theorem repL_all (z : Int) (n : Nat) : repL z n n = (List.replicate n z).map (fun n => Value.int .i64 n) := by simp [repL, List.map_replicate]
/-- A search that was just made. -/
theorem sch_new {w0 w : World} {k p b gb cb N : Nat} {c s ix iy iw ih : Int} {lf : Value} (hb : Below w0.heap.size w0 w) (hN : N ≤ 16384) (h1 : Sr w k p c s ix iy iw ih (.slice (some ⟨gb, 0, none⟩) N N) (.slice (some ⟨cb, 0, none⟩) N N) b lf)
    (h2 : w.heap[gb]? = some (.cells (Array.replicate N (.int .u8 0)) 5)) (h3 : w.heap[cb]? = some (.cells (repL (-1) N N).toArray 3)) (h4 : w.heap[b]? = some (.cells #[fn31, .slice none 0 0, .int .i64 0, .bool false] 148))
    (hk : w0.heap.size ≤ k ∧ w0.heap.size ≤ b ∧ w0.heap.size ≤ gb ∧ w0.heap.size ≤ cb) :
    Sch w0 w k p c s ix iy iw ih (.slice (some ⟨gb, 0, none⟩) N N) (.slice (some ⟨cb, 0, none⟩) N N) b lf (List.replicate N 0) (List.replicate N (-1)) (.slice none 0 0) 0 [] where
  bel := hb
  sr := h1
  gr := ⟨by simp, .inr ⟨gb, N, _, by simp, Nat.zero_le _, h2, by simp, by unfold maxLen; omega, by simp, by simp [List.map_replicate]⟩⟩
  ct := ⟨by simp, .inr ⟨cb, N, _, by simp, Nat.zero_le _, h3, by simp, by unfold maxLen; omega, by simp [repL], by rw [repL_all]; simp⟩⟩
  hs := ⟨[], h4, ⟨rfl, .inl ⟨rfl, rfl⟩⟩, fun i _ h => by simp at h, List.Perm.refl _⟩
  kn := hk.1
  bn := hk.2.1
  gn := fun j e => by simp [Value.ownBlock] at e; omega
  cn := fun j e => by simp [Value.ownBlock] at e; omega
  hn := fun j e => by simp [Value.ownBlock] at e
/-- How begin ends. -/
def BeginEnd (w0 : World) (p : Nat) (c s ix iy iw ih : Int) (lf : Value) (N : Nat) (L : Int → Int → Int) (x y : Int) (w : World) (e : Ending) (w' : World) : Prop :=
  ∃ k gv cv b hv, e = .returned (ptr k) ∧ Sch w0 w' k p c s ix iy iw ih gv cv b lf (List.replicate N 0) ((List.replicate N (-1)).set (ij ix iy iw x y) 0) hv 1 [⟨x, y, 0, L x y, 0⟩] ∧ Below w.heap.size w w'
set_option maxRecDepth 100000 in
set_option maxHeartbeats 4000000 in
theorem begin_is (w0 : World) (p : Nat) (c s ix iy iw ih : Int) (F : Fn) (fr : Array Value) (bd : Array Value) (N : Nat) (L : Int → Int → Int) (x y : Int) (w : World)
    (h0 : Below w0.heap.size w0 w) (hlf : Lfo w0 (.func F fr bd) L) (hN : iw * ih = (N : Nat)) (hN2 : N ≤ 16384)
    (hx : 0 ≤ x - ix ∧ x - ix < iw) (hy : 0 ≤ y - iy ∧ y - iy < ih) (hi : 0 ≤ ix ∧ 0 ≤ iy ∧ ix + iw ≤ 1048576 ∧ iy + ih ≤ 1048576) (hL : 0 ≤ L x y ∧ L x y ≤ 1099511627776) :
    Calls Tryz.prog 31 #[ptr p, cel c s, cel x y, rct ix iy iw ih, (.func F fr bd)] w (BeginEnd w0 p c s ix iy iw ih (.func F fr bd) N L x y w) := by
  obtain ⟨X, hX⟩ : ∃ X, ((w.alloc (.cells #[.int .i64 c, .int .i64 s] 27)).alloc (.cells #[.int .i64 x, .int .i64 y] 29)).alloc (.cells #[.int .i64 ix, .int .i64 iy, .int .i64 iw, .int .i64 ih] 31) = X := ⟨_, rfl⟩
  have B0 : Below w.heap.size w X := hX ▸ bt (box2 _ _ _) (box1 _ _)
  have F0 : Two X w.heap.size c s := by rw [← hX]; exact ((Two.newAt rfl).alloc).alloc
  have F1 : Two X (w.heap.size + 1) x y := by rw [← hX]; exact (Two.newAt (by simp)).alloc
  have F2 : Four X (w.heap.size + 2) ix iy iw ih := by rw [← hX]; exact Four.newAt _ _ _ _ _ (by simp)
  have zX : X.heap.size = w.heap.size + 3 := by rw [← hX]; simp
  have h0w := h0.size
  have HK : Hid (∀ wx, Below X.heap.size X wx → (fun wx : World => (wx.cell? ⟨w.heap.size, 0, none⟩ = some (.int .i64 c) ∧ wx.cell? ⟨w.heap.size, 1, none⟩ = some (.int .i64 s)) ∧ wx.cell? ⟨w.heap.size + 2, 0, none⟩ = some (.int .i64 ix) ∧ wx.cell? ⟨w.heap.size + 2, 1, none⟩ = some (.int .i64 iy) ∧ wx.cell? ⟨w.heap.size + 2, 2, none⟩ = some (.int .i64 iw) ∧ wx.cell? ⟨w.heap.size + 2, 3, none⟩ = some (.int .i64 ih)) wx) := hide fun wx q => by
    have e0 := F0.kept q
    have e2 := F2.kept q
    exact ⟨⟨e0.1.1, e0.1.2⟩, e2.1.1, e2.1.2.1, e2.1.2.2.1, e2.1.2.2.2⟩
  have HF1 : Hid (∀ wx, Below X.heap.size X wx → Two wx (w.heap.size + 1) x y ∧ Below w.heap.size w wx ∧ Below w0.heap.size w0 wx) := hide fun wx q => ⟨F1.kept q, bt B0 q, h0.trans ((bt B0 q).mono h0w)⟩
  have hI := idx_in (c := 0) (d := 0) hy.1 hy.2 hx.1 hx.2
  have hij : ij ix iy iw x y < N := by unfold ij; have : ih * iw = iw * ih := Int.mul_comm _ _; omega
  have hN0 : 0 < N := by omega
  have Hend : Hid (∀ wx k gb cb b, Below X.heap.size X wx → Sr wx k p c s ix iy iw ih (.slice (some ⟨gb, 0, none⟩) N N) (.slice (some ⟨cb, 0, none⟩) N N) b (.func F fr bd) → wx.heap[gb]? = some (.cells (Array.replicate N (.int .u8 0)) 5) → wx.heap[cb]? = some (.cells (repL (-1) N N).toArray 3) → wx.heap[b]? = some (.cells #[fn31, .slice none 0 0, .int .i64 0, .bool false] 148) →
      (w.heap.size ≤ k ∧ w.heap.size ≤ b ∧ w.heap.size ≤ gb ∧ w.heap.size ≤ cb) → Calls Tryz.prog 66 #[ptr k, cel x y, .int .i64 0] wx fun e w' => e = .returned (.tuple #[]) ∧ BeginEnd w0 p c s ix iy iw ih (.func F fr bd) N L x y w (.returned (ptr k)) w') := hide fun wx k gb cb b q s1 s2 s3 s4 s5 => by
    have hS := sch_new (HF1.out wx q).2.2 hN2 s1 s2 s3 s4 (by omega)
    refine (meet_is w0 k p c s ix iy iw ih _ _ b _ _ _ _ 0 [] L x y 0 (-1) wx hS hlf (by rw [List.getElem?_replicate, if_pos hij]) hx hy hi (by omega) (by omega) (by simp)).mono ?_
    rintro e w' ⟨rfl, C', hv', n', S', a1, a2, a3, a4⟩
    refine ⟨rfl, k, .slice (some ⟨gb, 0, none⟩) N N, .slice (some ⟨cb, 0, none⟩) N N, b, hv', rfl, ?_, ?_⟩
    · rcases a2 with ⟨⟨a, -⟩, -⟩ | ⟨-, rfl, rfl, rfl⟩
      · exact absurd rfl a
      · rw [show (0 : Int) + L x y = L x y by omega, show (0 : Int) + 1 = 1 by omega] at a1
        exact a1
    · refine (HF1.out wx q).2.1.trans (a3.below (fun j e => ?_) (HF1.out wx q).2.1.size)
      rcases e with e | e | e | e
      · simp [Value.ownBlock] at e; omega
      · simp [Value.ownBlock] at e; omega
      · omega
      · simp [Value.ownBlock] at e
  have hmul : IntKind.i64.wrap (iw * ih) = (N : Nat) := by rw [hN]; exact IntWalk.i64_in _ (by omega)
  have HMk := hide (mk22 N hN2)
  have HRp : Hid (∀ wx ob, wx.cell? ⟨ob, 0, none⟩ = some (.int .i64 (-1)) → ob < wx.heap.size → Calls Tryz.prog 46 #[.slice (some ⟨ob, 0, none⟩) 1 1, .int .i64 (N : Nat)] wx fun e w' => e = .returned (.slice (some ⟨wx.heap.size, 0, none⟩) N N) ∧ w'.heap[wx.heap.size]? = some (.cells (repL (-1) N N).toArray 3) ∧ Below wx.heap.size wx w') := hide fun wx ob q1 q2 => repeat_is ob (-1) N ⟨hN0, hN2⟩ wx q1 q2
  have HX := hide hX
  have HS : (fun wx : World => (wx.cell? ⟨w.heap.size, 0, none⟩ = some (.int .i64 c) ∧ wx.cell? ⟨w.heap.size, 1, none⟩ = some (.int .i64 s)) ∧ wx.cell? ⟨w.heap.size + 2, 0, none⟩ = some (.int .i64 ix) ∧ wx.cell? ⟨w.heap.size + 2, 1, none⟩ = some (.int .i64 iy) ∧ wx.cell? ⟨w.heap.size + 2, 2, none⟩ = some (.int .i64 iw) ∧ wx.cell? ⟨w.heap.size + 2, 3, none⟩ = some (.int .i64 ih)) X.drew := HK.out _ (Below.refl _ _).drew
  have Hz := hide zX
  clear hX B0 F0 F1 F2 zX h0 h0w hlf hN hN2 hx hy hi hL hI hij hN0
  go_enter Tryz.func31, Tryz.ntmps31
  go_wp2_with (rw [HX.out])
  refine wp_only ?_
  refine wp_region_z (fun wx : World => (wx.cell? ⟨w.heap.size, 0, none⟩ = some (.int .i64 c) ∧ wx.cell? ⟨w.heap.size, 1, none⟩ = some (.int .i64 s)) ∧ wx.cell? ⟨w.heap.size + 2, 0, none⟩ = some (.int .i64 ix) ∧ wx.cell? ⟨w.heap.size + 2, 1, none⟩ = some (.int .i64 iy) ∧ wx.cell? ⟨w.heap.size + 2, 2, none⟩ = some (.int .i64 iw) ∧ wx.cell? ⟨w.heap.size + 2, 3, none⟩ = some (.int .i64 ih)) [] (by kernel_rfl) ?_
  refine anyZ_take 0 8 (v := ptr p) rfl (by kernel_rfl) (fun _ _ _ h => h.elim) (Or.inl ⟨by rfl, fun wx hx => by obtain ⟨⟨q0, q1⟩, q2, q3, q4, q5⟩ := hx; clear HS; go_simp⟩) HS ?_
  try simp only [Act.put, List.getElem_toArray, List.getElem_cons_zero, List.getElem_cons_succ, List.setIfInBounds_toArray, List.set_cons_zero, List.set_cons_succ]
  refine anyZ_take 1 8 (v := cel c s) rfl (by kernel_rfl) (fun _ _ _ h => h.elim) (Or.inl ⟨by rfl, fun wx hx => by obtain ⟨⟨q0, q1⟩, q2, q3, q4, q5⟩ := hx; clear HS; go_simp⟩) HS ?_
  try simp only [Act.put, List.getElem_toArray, List.getElem_cons_zero, List.getElem_cons_succ, List.setIfInBounds_toArray, List.set_cons_zero, List.set_cons_succ]
  refine anyZ_take 2 8 (v := rct ix iy iw ih) rfl (by kernel_rfl) (fun _ _ _ h => h.elim) (Or.inl ⟨by rfl, fun wx hx => by obtain ⟨⟨q0, q1⟩, q2, q3, q4, q5⟩ := hx; clear HS; go_simp⟩) HS ?_
  try simp only [Act.put, List.getElem_toArray, List.getElem_cons_zero, List.getElem_cons_succ, List.setIfInBounds_toArray, List.set_cons_zero, List.set_cons_succ]
  refine anyZ_take 3 8 (v := .pointer (some ⟨w.heap.size + 2, 2, none⟩)) rfl (by kernel_rfl) (fun _ _ _ h => h.elim) (Or.inl ⟨by rfl, fun wx hx => by obtain ⟨⟨q0, q1⟩, q2, q3, q4, q5⟩ := hx; clear HS; go_simp⟩) HS ?_
  try simp only [Act.put, List.getElem_toArray, List.getElem_cons_zero, List.getElem_cons_succ, List.setIfInBounds_toArray, List.set_cons_zero, List.set_cons_succ]
  refine anyZ_take 4 8 (v := .int .i64 iw) rfl (by kernel_rfl) (fun _ _ _ h => h.elim) (Or.inl ⟨by rfl, fun wx hx => by obtain ⟨⟨q0, q1⟩, q2, q3, q4, q5⟩ := hx; clear HS; go_simp⟩) HS ?_
  try simp only [Act.put, List.getElem_toArray, List.getElem_cons_zero, List.getElem_cons_succ, List.setIfInBounds_toArray, List.set_cons_zero, List.set_cons_succ]
  refine anyZ_take 5 8 (v := .pointer (some ⟨w.heap.size + 2, 3, none⟩)) rfl (by kernel_rfl) (fun _ _ _ h => h.elim) (Or.inl ⟨by rfl, fun wx hx => by obtain ⟨⟨q0, q1⟩, q2, q3, q4, q5⟩ := hx; clear HS; go_simp⟩) HS ?_
  try simp only [Act.put, List.getElem_toArray, List.getElem_cons_zero, List.getElem_cons_succ, List.setIfInBounds_toArray, List.set_cons_zero, List.set_cons_succ]
  refine anyZ_take 6 8 (v := .int .i64 ih) rfl (by kernel_rfl) (fun _ _ _ h => h.elim) (Or.inl ⟨by rfl, fun wx hx => by obtain ⟨⟨q0, q1⟩, q2, q3, q4, q5⟩ := hx; clear HS; go_simp⟩) HS ?_
  try simp only [Act.put, List.getElem_toArray, List.getElem_cons_zero, List.getElem_cons_succ, List.setIfInBounds_toArray, List.set_cons_zero, List.set_cons_succ]
  refine anyZ_take 7 8 (v := .int .i64 (N : Nat)) rfl (by kernel_rfl) (fun _ _ _ h => h.elim) (Or.inl ⟨by rfl, fun wx hx => by obtain ⟨⟨q0, q1⟩, q2, q3, q4, q5⟩ := hx; clear HS; go_simp⟩) HS ?_
  try simp only [Act.put, List.getElem_toArray, List.getElem_cons_zero, List.getElem_cons_succ, List.setIfInBounds_toArray, List.set_cons_zero, List.set_cons_succ]
  refine anyZ_take 10 8 (v := .pointer (some ⟨w.heap.size + 2, 2, none⟩)) rfl (by kernel_rfl) (fun _ _ _ h => h.elim) (Or.inl ⟨by rfl, fun wx hx => by obtain ⟨⟨q0, q1⟩, q2, q3, q4, q5⟩ := hx; clear HS; go_simp⟩) HS ?_
  try simp only [Act.put, List.getElem_toArray, List.getElem_cons_zero, List.getElem_cons_succ, List.setIfInBounds_toArray, List.set_cons_zero, List.set_cons_succ]
  refine anyZ_take 11 8 (v := .int .i64 iw) rfl (by kernel_rfl) (fun _ _ _ h => h.elim) (Or.inl ⟨by rfl, fun wx hx => by obtain ⟨⟨q0, q1⟩, q2, q3, q4, q5⟩ := hx; clear HS; go_simp⟩) HS ?_
  try simp only [Act.put, List.getElem_toArray, List.getElem_cons_zero, List.getElem_cons_succ, List.setIfInBounds_toArray, List.set_cons_zero, List.set_cons_succ]
  refine anyZ_take 12 8 (v := .pointer (some ⟨w.heap.size + 2, 3, none⟩)) rfl (by kernel_rfl) (fun _ _ _ h => h.elim) (Or.inl ⟨by rfl, fun wx hx => by obtain ⟨⟨q0, q1⟩, q2, q3, q4, q5⟩ := hx; clear HS; go_simp⟩) HS ?_
  try simp only [Act.put, List.getElem_toArray, List.getElem_cons_zero, List.getElem_cons_succ, List.setIfInBounds_toArray, List.set_cons_zero, List.set_cons_succ]
  refine anyZ_take 13 8 (v := .int .i64 ih) rfl (by kernel_rfl) (fun _ _ _ h => h.elim) (Or.inl ⟨by rfl, fun wx hx => by obtain ⟨⟨q0, q1⟩, q2, q3, q4, q5⟩ := hx; clear HS; go_simp⟩) HS ?_
  try simp only [Act.put, List.getElem_toArray, List.getElem_cons_zero, List.getElem_cons_succ, List.setIfInBounds_toArray, List.set_cons_zero, List.set_cons_succ]
  refine anyZ_take 14 8 (v := .int .i64 (N : Nat)) rfl (by kernel_rfl) (fun _ _ _ h => h.elim) (Or.inl ⟨by rfl, fun wx hx => by obtain ⟨⟨q0, q1⟩, q2, q3, q4, q5⟩ := hx; clear HS; go_simp⟩) HS ?_
  try simp only [Act.put, List.getElem_toArray, List.getElem_cons_zero, List.getElem_cons_succ, List.setIfInBounds_toArray, List.set_cons_zero, List.set_cons_succ]
  refine anyZ_take 17 8 (v := (.func F fr bd)) rfl (by kernel_rfl) (fun _ _ _ h => h.elim) (Or.inl ⟨by rfl, fun wx hx => by obtain ⟨⟨q0, q1⟩, q2, q3, q4, q5⟩ := hx; clear HS; go_simp⟩) HS ?_
  try simp only [Act.put, List.getElem_toArray, List.getElem_cons_zero, List.getElem_cons_succ, List.setIfInBounds_toArray, List.set_cons_zero, List.set_cons_succ]
  have W0b : Below X.heap.size X X.drew := (Below.refl _ _).drew
  obtain ⟨W0, hW0⟩ : ∃ W0, X.drew = W0 := ⟨_, rfl⟩
  rw [hW0] at W0b ⊢
  clear hW0 HS
  refine anyZ_ready (rs := [8, 9]) (by kernel_rfl) (by simp) ?_
  obtain ⟨W1, r8, f8, b8⟩ := HMk.out W0
  have W1b : Below X.heap.size X W1 := bt W0b b8
  refine readyZ.cons rfl rfl (run_makeZ (by rfl) (by rfl) (by rfl) r8) (fun _ => HK.out _ W1b) ?_ ?_
  · try simp only [Act.put, List.getElem_toArray, List.getElem_cons_zero, List.getElem_cons_succ, List.setIfInBounds_toArray, List.set_cons_zero, List.set_cons_succ]
    have z8 : X.heap.size ≤ W0.heap.size := W0b.size
    obtain ⟨gb, hgb⟩ : ∃ gb, W0.heap.size = gb := ⟨_, rfl⟩
    try rw [hgb]
    rw [hgb] at f8 z8
    refine anyZ_ready (rs := [9]) (by kernel_rfl) (by simp) ?_
    obtain ⟨W2, h9⟩ : ∃ W, W1.alloc (.cells #[.int .i64 (-1)] 3) = W := ⟨_, rfl⟩
    have b9 : Below W1.heap.size W1 W2 := h9 ▸ box1 _ _
    have W2b : Below X.heap.size X W2 := bt W1b b9
    have f9 : W2.heap[W1.heap.size]? = some (.cells #[.int .i64 (-1)] 3) := by rw [← h9]; exact heap_alloc_new _ _
    have r9 := @run_oneZ
    refine readyZ.cons rfl rfl (h9 ▸ run_oneZ (by rfl) (by rfl)) (fun _ => HK.out _ W2b) ?_ readyZ.nil
    try simp only [Act.put, List.getElem_toArray, List.getElem_cons_zero, List.getElem_cons_succ, List.setIfInBounds_toArray, List.set_cons_zero, List.set_cons_succ]
    clear h9 r9
    obtain ⟨ob, hob⟩ : ∃ ob, W1.heap.size = ob := ⟨_, rfl⟩
    try rw [hob]
    rw [hob] at f9
    have f8 := (b9.block _ (Array.getElem?_eq_some_iff.1 f8).1).trans f8
    refine anyZ_ready (rs := [15]) (by kernel_rfl) (by simp) ?_
    refine readyZ.call rfl rfl (run_call29 (by rfl) (by rfl) (by simp only [List.map_toArray, List.map_cons, List.map_nil]; rfl)) (HRp.out W2 ob (by rw [cell_of_row _ ob 0 _ _ _ f9]; rfl) (Array.getElem?_eq_some_iff.1 f9).1) ?_ readyZ.nil
    rintro e W3 ⟨rfl, f15, b15⟩
    have W3b : Below X.heap.size X W3 := bt W2b b15
    refine ⟨_, rfl, fun _ => HK.out _ W3b, ?_⟩
    try simp only [Act.put, List.getElem_toArray, List.getElem_cons_zero, List.getElem_cons_succ, List.setIfInBounds_toArray, List.set_cons_zero, List.set_cons_succ]
    have z15 : X.heap.size ≤ W2.heap.size := W2b.size
    obtain ⟨cb, hcb⟩ : ∃ cb, W2.heap.size = cb := ⟨_, rfl⟩
    try rw [hcb]
    rw [hcb] at f15 z15
    have f8 := (b15.block _ (Array.getElem?_eq_some_iff.1 f8).1).trans f8
    have f9 := (b15.block _ (Array.getElem?_eq_some_iff.1 f9).1).trans f9
    refine anyZ_ready (rs := [16]) (by kernel_rfl) (by simp) ?_
    refine readyZ.call rfl rfl (run_call30 (by rfl) (by rfl) (by simp only [List.map_toArray, List.map_cons, List.map_nil]; rfl)) (hnew_any W3) ?_ readyZ.nil
    rintro e W4 ⟨rfl, h16⟩
    have b16 : Below W3.heap.size W3 W4 := h16 ▸ box1 _ _
    have f16 : W4.heap[W3.heap.size]? = some (.cells #[fn31, .slice none 0 0, .int .i64 0, .bool false] 148) := by rw [h16]; exact heap_alloc_new _ _
    have W4b : Below X.heap.size X W4 := bt W3b b16
    refine ⟨_, rfl, fun _ => HK.out _ W4b, ?_⟩
    try simp only [Act.put, List.getElem_toArray, List.getElem_cons_zero, List.getElem_cons_succ, List.setIfInBounds_toArray, List.set_cons_zero, List.set_cons_succ]
    have z16 : X.heap.size ≤ W3.heap.size := W3b.size
    clear h16
    obtain ⟨hb, hhb⟩ : ∃ hb, W3.heap.size = hb := ⟨_, rfl⟩
    try rw [hhb]
    rw [hhb] at f16 z16
    have f8 := (b16.block _ (Array.getElem?_eq_some_iff.1 f8).1).trans f8
    have f9 := (b16.block _ (Array.getElem?_eq_some_iff.1 f9).1).trans f9
    have f15 := (b16.block _ (Array.getElem?_eq_some_iff.1 f15).1).trans f15
    refine anyZ_take 18 8 (v := .agg #[ptr p, .int .i64 c, .int .i64 s, .int .i64 ix, .int .i64 iy, .int .i64 iw, .int .i64 ih, .slice (some ⟨gb, 0, none⟩) N N, .slice (some ⟨cb, 0, none⟩) N N, ptr hb, (.func F fr bd)]) rfl (by kernel_rfl) (fun _ _ _ h => h.elim) (Or.inl ⟨by rfl, fun wx hx => by go_simp⟩) (HK.out _ W4b) ?_
    try simp only [Act.put, List.getElem_toArray, List.getElem_cons_zero, List.getElem_cons_succ, List.setIfInBounds_toArray, List.set_cons_zero, List.set_cons_succ]
    obtain ⟨Wk, hWk⟩ : ∃ W, W4.alloc (.cells #[ptr p, .int .i64 c, .int .i64 s, .int .i64 ix, .int .i64 iy, .int .i64 iw, .int .i64 ih, .slice (some ⟨gb, 0, none⟩) N N, .slice (some ⟨cb, 0, none⟩) N N, ptr hb, (.func F fr bd)] 80) = W := ⟨_, rfl⟩
    have bk : Below W4.heap.size W4 Wk := hWk ▸ box1 _ _
    have Wkb : Below X.heap.size X Wk := bt W4b bk
    refine anyZ_ready (rs := [19]) (by kernel_rfl) (by simp) ?_
    refine readyZ.cons rfl rfl (hWk ▸ run_box62 (by rfl) (by rfl)) (fun _ => HK.out _ Wkb) ?_ readyZ.nil
    try simp only [Act.put, List.getElem_toArray, List.getElem_cons_zero, List.getElem_cons_succ, List.setIfInBounds_toArray, List.set_cons_zero, List.set_cons_succ]
    have zk := W4b.size
    have hz := Hz.out
    have HE := hide (Hend.out Wk W4.heap.size gb cb hb Wkb (by rw [← hWk]; exact heap_alloc_new _ _) ((bk.block _ (Array.getElem?_eq_some_iff.1 f8).1).trans f8) ((bk.block _ (Array.getElem?_eq_some_iff.1 f15).1).trans f15) ((bk.block _ (Array.getElem?_eq_some_iff.1 f16).1).trans f16) (by omega))
    have c1 := (HF1.out Wk Wkb).1
    obtain ⟨⟨y0, y1⟩, -, -⟩ := c1
    generalize W4.heap.size = kk at HE ⊢
    refine anyZ_take 20 8 (v := ptr kk) rfl (by kernel_rfl) (fun _ _ _ h => h.elim) (Or.inl ⟨by rfl, fun wx hx => by go_simp⟩) (HK.out _ Wkb) ?_
    try simp only [Act.put, List.getElem_toArray, List.getElem_cons_zero, List.getElem_cons_succ, List.setIfInBounds_toArray, List.set_cons_zero, List.set_cons_succ]
    refine anyZ_done (by kernel_rfl) ?_ _
    dsimp only [Only, Exit.then]
    clear f8 f15 f16 bk hWk zk hz HK HF1 Hend HMk HRp
    go_wp2_with fail
    refine HE.out.mono ?_
    rintro e w' ⟨rfl, hfin⟩
    have Hfin := hide hfin
    clear hfin
    go_wp2_with fail
    go_ret
    exact Hfin.out
  obtain ⟨W1, h9⟩ : ∃ W, W0.alloc (.cells #[.int .i64 (-1)] 3) = W := ⟨_, rfl⟩
  have b9 : Below W0.heap.size W0 W1 := h9 ▸ box1 _ _
  have W1b : Below X.heap.size X W1 := bt W0b b9
  have f9 : W1.heap[W0.heap.size]? = some (.cells #[.int .i64 (-1)] 3) := by rw [← h9]; exact heap_alloc_new _ _
  have r9 := @run_oneZ
  refine readyZ.cons rfl rfl (h9 ▸ run_oneZ (by rfl) (by rfl)) (fun _ => HK.out _ W1b) ?_ readyZ.nil
  try simp only [Act.put, List.getElem_toArray, List.getElem_cons_zero, List.getElem_cons_succ, List.setIfInBounds_toArray, List.set_cons_zero, List.set_cons_succ]
  clear h9 r9
  obtain ⟨ob, hob⟩ : ∃ ob, W0.heap.size = ob := ⟨_, rfl⟩
  try rw [hob]
  rw [hob] at f9
  refine anyZ_ready (rs := [8, 15]) (by kernel_rfl) (by simp) ?_
  obtain ⟨W2, r8, f8, b8⟩ := HMk.out W1
  have W2b : Below X.heap.size X W2 := bt W1b b8
  refine readyZ.cons rfl rfl (run_makeZ (by rfl) (by rfl) (by rfl) r8) (fun _ => HK.out _ W2b) ?_ ?_
  · try simp only [Act.put, List.getElem_toArray, List.getElem_cons_zero, List.getElem_cons_succ, List.setIfInBounds_toArray, List.set_cons_zero, List.set_cons_succ]
    have z8 : X.heap.size ≤ W1.heap.size := W1b.size
    obtain ⟨gb, hgb⟩ : ∃ gb, W1.heap.size = gb := ⟨_, rfl⟩
    try rw [hgb]
    rw [hgb] at f8 z8
    have f9 := (b8.block _ (Array.getElem?_eq_some_iff.1 f9).1).trans f9
    refine anyZ_ready (rs := [15]) (by kernel_rfl) (by simp) ?_
    refine readyZ.call rfl rfl (run_call29 (by rfl) (by rfl) (by simp only [List.map_toArray, List.map_cons, List.map_nil]; rfl)) (HRp.out W2 ob (by rw [cell_of_row _ ob 0 _ _ _ f9]; rfl) (Array.getElem?_eq_some_iff.1 f9).1) ?_ readyZ.nil
    rintro e W3 ⟨rfl, f15, b15⟩
    have W3b : Below X.heap.size X W3 := bt W2b b15
    refine ⟨_, rfl, fun _ => HK.out _ W3b, ?_⟩
    try simp only [Act.put, List.getElem_toArray, List.getElem_cons_zero, List.getElem_cons_succ, List.setIfInBounds_toArray, List.set_cons_zero, List.set_cons_succ]
    have z15 : X.heap.size ≤ W2.heap.size := W2b.size
    obtain ⟨cb, hcb⟩ : ∃ cb, W2.heap.size = cb := ⟨_, rfl⟩
    try rw [hcb]
    rw [hcb] at f15 z15
    have f9 := (b15.block _ (Array.getElem?_eq_some_iff.1 f9).1).trans f9
    have f8 := (b15.block _ (Array.getElem?_eq_some_iff.1 f8).1).trans f8
    refine anyZ_ready (rs := [16]) (by kernel_rfl) (by simp) ?_
    refine readyZ.call rfl rfl (run_call30 (by rfl) (by rfl) (by simp only [List.map_toArray, List.map_cons, List.map_nil]; rfl)) (hnew_any W3) ?_ readyZ.nil
    rintro e W4 ⟨rfl, h16⟩
    have b16 : Below W3.heap.size W3 W4 := h16 ▸ box1 _ _
    have f16 : W4.heap[W3.heap.size]? = some (.cells #[fn31, .slice none 0 0, .int .i64 0, .bool false] 148) := by rw [h16]; exact heap_alloc_new _ _
    have W4b : Below X.heap.size X W4 := bt W3b b16
    refine ⟨_, rfl, fun _ => HK.out _ W4b, ?_⟩
    try simp only [Act.put, List.getElem_toArray, List.getElem_cons_zero, List.getElem_cons_succ, List.setIfInBounds_toArray, List.set_cons_zero, List.set_cons_succ]
    have z16 : X.heap.size ≤ W3.heap.size := W3b.size
    clear h16
    obtain ⟨hb, hhb⟩ : ∃ hb, W3.heap.size = hb := ⟨_, rfl⟩
    try rw [hhb]
    rw [hhb] at f16 z16
    have f9 := (b16.block _ (Array.getElem?_eq_some_iff.1 f9).1).trans f9
    have f8 := (b16.block _ (Array.getElem?_eq_some_iff.1 f8).1).trans f8
    have f15 := (b16.block _ (Array.getElem?_eq_some_iff.1 f15).1).trans f15
    refine anyZ_take 18 8 (v := .agg #[ptr p, .int .i64 c, .int .i64 s, .int .i64 ix, .int .i64 iy, .int .i64 iw, .int .i64 ih, .slice (some ⟨gb, 0, none⟩) N N, .slice (some ⟨cb, 0, none⟩) N N, ptr hb, (.func F fr bd)]) rfl (by kernel_rfl) (fun _ _ _ h => h.elim) (Or.inl ⟨by rfl, fun wx hx => by go_simp⟩) (HK.out _ W4b) ?_
    try simp only [Act.put, List.getElem_toArray, List.getElem_cons_zero, List.getElem_cons_succ, List.setIfInBounds_toArray, List.set_cons_zero, List.set_cons_succ]
    obtain ⟨Wk, hWk⟩ : ∃ W, W4.alloc (.cells #[ptr p, .int .i64 c, .int .i64 s, .int .i64 ix, .int .i64 iy, .int .i64 iw, .int .i64 ih, .slice (some ⟨gb, 0, none⟩) N N, .slice (some ⟨cb, 0, none⟩) N N, ptr hb, (.func F fr bd)] 80) = W := ⟨_, rfl⟩
    have bk : Below W4.heap.size W4 Wk := hWk ▸ box1 _ _
    have Wkb : Below X.heap.size X Wk := bt W4b bk
    refine anyZ_ready (rs := [19]) (by kernel_rfl) (by simp) ?_
    refine readyZ.cons rfl rfl (hWk ▸ run_box62 (by rfl) (by rfl)) (fun _ => HK.out _ Wkb) ?_ readyZ.nil
    try simp only [Act.put, List.getElem_toArray, List.getElem_cons_zero, List.getElem_cons_succ, List.setIfInBounds_toArray, List.set_cons_zero, List.set_cons_succ]
    have zk := W4b.size
    have hz := Hz.out
    have HE := hide (Hend.out Wk W4.heap.size gb cb hb Wkb (by rw [← hWk]; exact heap_alloc_new _ _) ((bk.block _ (Array.getElem?_eq_some_iff.1 f8).1).trans f8) ((bk.block _ (Array.getElem?_eq_some_iff.1 f15).1).trans f15) ((bk.block _ (Array.getElem?_eq_some_iff.1 f16).1).trans f16) (by omega))
    have c1 := (HF1.out Wk Wkb).1
    obtain ⟨⟨y0, y1⟩, -, -⟩ := c1
    generalize W4.heap.size = kk at HE ⊢
    refine anyZ_take 20 8 (v := ptr kk) rfl (by kernel_rfl) (fun _ _ _ h => h.elim) (Or.inl ⟨by rfl, fun wx hx => by go_simp⟩) (HK.out _ Wkb) ?_
    try simp only [Act.put, List.getElem_toArray, List.getElem_cons_zero, List.getElem_cons_succ, List.setIfInBounds_toArray, List.set_cons_zero, List.set_cons_succ]
    refine anyZ_done (by kernel_rfl) ?_ _
    dsimp only [Only, Exit.then]
    clear f8 f15 f16 bk hWk zk hz HK HF1 Hend HMk HRp
    go_wp2_with fail
    refine HE.out.mono ?_
    rintro e w' ⟨rfl, hfin⟩
    have Hfin := hide hfin
    clear hfin
    go_wp2_with fail
    go_ret
    exact Hfin.out
  refine readyZ.call rfl rfl (run_call29 (by rfl) (by rfl) (by simp only [List.map_toArray, List.map_cons, List.map_nil]; rfl)) (HRp.out W1 ob (by rw [cell_of_row _ ob 0 _ _ _ f9]; rfl) (Array.getElem?_eq_some_iff.1 f9).1) ?_ readyZ.nil
  rintro e W2 ⟨rfl, f15, b15⟩
  have W2b : Below X.heap.size X W2 := bt W1b b15
  refine ⟨_, rfl, fun _ => HK.out _ W2b, ?_⟩
  try simp only [Act.put, List.getElem_toArray, List.getElem_cons_zero, List.getElem_cons_succ, List.setIfInBounds_toArray, List.set_cons_zero, List.set_cons_succ]
  have z15 : X.heap.size ≤ W1.heap.size := W1b.size
  obtain ⟨cb, hcb⟩ : ∃ cb, W1.heap.size = cb := ⟨_, rfl⟩
  try rw [hcb]
  rw [hcb] at f15 z15
  have f9 := (b15.block _ (Array.getElem?_eq_some_iff.1 f9).1).trans f9
  refine anyZ_ready (rs := [8, 16]) (by kernel_rfl) (by simp) ?_
  obtain ⟨W3, r8, f8, b8⟩ := HMk.out W2
  have W3b : Below X.heap.size X W3 := bt W2b b8
  refine readyZ.cons rfl rfl (run_makeZ (by rfl) (by rfl) (by rfl) r8) (fun _ => HK.out _ W3b) ?_ ?_
  · try simp only [Act.put, List.getElem_toArray, List.getElem_cons_zero, List.getElem_cons_succ, List.setIfInBounds_toArray, List.set_cons_zero, List.set_cons_succ]
    have z8 : X.heap.size ≤ W2.heap.size := W2b.size
    obtain ⟨gb, hgb⟩ : ∃ gb, W2.heap.size = gb := ⟨_, rfl⟩
    try rw [hgb]
    rw [hgb] at f8 z8
    have f9 := (b8.block _ (Array.getElem?_eq_some_iff.1 f9).1).trans f9
    have f15 := (b8.block _ (Array.getElem?_eq_some_iff.1 f15).1).trans f15
    refine anyZ_ready (rs := [16]) (by kernel_rfl) (by simp) ?_
    refine readyZ.call rfl rfl (run_call30 (by rfl) (by rfl) (by simp only [List.map_toArray, List.map_cons, List.map_nil]; rfl)) (hnew_any W3) ?_ readyZ.nil
    rintro e W4 ⟨rfl, h16⟩
    have b16 : Below W3.heap.size W3 W4 := h16 ▸ box1 _ _
    have f16 : W4.heap[W3.heap.size]? = some (.cells #[fn31, .slice none 0 0, .int .i64 0, .bool false] 148) := by rw [h16]; exact heap_alloc_new _ _
    have W4b : Below X.heap.size X W4 := bt W3b b16
    refine ⟨_, rfl, fun _ => HK.out _ W4b, ?_⟩
    try simp only [Act.put, List.getElem_toArray, List.getElem_cons_zero, List.getElem_cons_succ, List.setIfInBounds_toArray, List.set_cons_zero, List.set_cons_succ]
    have z16 : X.heap.size ≤ W3.heap.size := W3b.size
    clear h16
    obtain ⟨hb, hhb⟩ : ∃ hb, W3.heap.size = hb := ⟨_, rfl⟩
    try rw [hhb]
    rw [hhb] at f16 z16
    have f9 := (b16.block _ (Array.getElem?_eq_some_iff.1 f9).1).trans f9
    have f15 := (b16.block _ (Array.getElem?_eq_some_iff.1 f15).1).trans f15
    have f8 := (b16.block _ (Array.getElem?_eq_some_iff.1 f8).1).trans f8
    refine anyZ_take 18 8 (v := .agg #[ptr p, .int .i64 c, .int .i64 s, .int .i64 ix, .int .i64 iy, .int .i64 iw, .int .i64 ih, .slice (some ⟨gb, 0, none⟩) N N, .slice (some ⟨cb, 0, none⟩) N N, ptr hb, (.func F fr bd)]) rfl (by kernel_rfl) (fun _ _ _ h => h.elim) (Or.inl ⟨by rfl, fun wx hx => by go_simp⟩) (HK.out _ W4b) ?_
    try simp only [Act.put, List.getElem_toArray, List.getElem_cons_zero, List.getElem_cons_succ, List.setIfInBounds_toArray, List.set_cons_zero, List.set_cons_succ]
    obtain ⟨Wk, hWk⟩ : ∃ W, W4.alloc (.cells #[ptr p, .int .i64 c, .int .i64 s, .int .i64 ix, .int .i64 iy, .int .i64 iw, .int .i64 ih, .slice (some ⟨gb, 0, none⟩) N N, .slice (some ⟨cb, 0, none⟩) N N, ptr hb, (.func F fr bd)] 80) = W := ⟨_, rfl⟩
    have bk : Below W4.heap.size W4 Wk := hWk ▸ box1 _ _
    have Wkb : Below X.heap.size X Wk := bt W4b bk
    refine anyZ_ready (rs := [19]) (by kernel_rfl) (by simp) ?_
    refine readyZ.cons rfl rfl (hWk ▸ run_box62 (by rfl) (by rfl)) (fun _ => HK.out _ Wkb) ?_ readyZ.nil
    try simp only [Act.put, List.getElem_toArray, List.getElem_cons_zero, List.getElem_cons_succ, List.setIfInBounds_toArray, List.set_cons_zero, List.set_cons_succ]
    have zk := W4b.size
    have hz := Hz.out
    have HE := hide (Hend.out Wk W4.heap.size gb cb hb Wkb (by rw [← hWk]; exact heap_alloc_new _ _) ((bk.block _ (Array.getElem?_eq_some_iff.1 f8).1).trans f8) ((bk.block _ (Array.getElem?_eq_some_iff.1 f15).1).trans f15) ((bk.block _ (Array.getElem?_eq_some_iff.1 f16).1).trans f16) (by omega))
    have c1 := (HF1.out Wk Wkb).1
    obtain ⟨⟨y0, y1⟩, -, -⟩ := c1
    generalize W4.heap.size = kk at HE ⊢
    refine anyZ_take 20 8 (v := ptr kk) rfl (by kernel_rfl) (fun _ _ _ h => h.elim) (Or.inl ⟨by rfl, fun wx hx => by go_simp⟩) (HK.out _ Wkb) ?_
    try simp only [Act.put, List.getElem_toArray, List.getElem_cons_zero, List.getElem_cons_succ, List.setIfInBounds_toArray, List.set_cons_zero, List.set_cons_succ]
    refine anyZ_done (by kernel_rfl) ?_ _
    dsimp only [Only, Exit.then]
    clear f8 f15 f16 bk hWk zk hz HK HF1 Hend HMk HRp
    go_wp2_with fail
    refine HE.out.mono ?_
    rintro e w' ⟨rfl, hfin⟩
    have Hfin := hide hfin
    clear hfin
    go_wp2_with fail
    go_ret
    exact Hfin.out
  refine readyZ.call rfl rfl (run_call30 (by rfl) (by rfl) (by simp only [List.map_toArray, List.map_cons, List.map_nil]; rfl)) (hnew_any W2) ?_ readyZ.nil
  rintro e W3 ⟨rfl, h16⟩
  have b16 : Below W2.heap.size W2 W3 := h16 ▸ box1 _ _
  have f16 : W3.heap[W2.heap.size]? = some (.cells #[fn31, .slice none 0 0, .int .i64 0, .bool false] 148) := by rw [h16]; exact heap_alloc_new _ _
  have W3b : Below X.heap.size X W3 := bt W2b b16
  refine ⟨_, rfl, fun _ => HK.out _ W3b, ?_⟩
  try simp only [Act.put, List.getElem_toArray, List.getElem_cons_zero, List.getElem_cons_succ, List.setIfInBounds_toArray, List.set_cons_zero, List.set_cons_succ]
  have z16 : X.heap.size ≤ W2.heap.size := W2b.size
  clear h16
  obtain ⟨hb, hhb⟩ : ∃ hb, W2.heap.size = hb := ⟨_, rfl⟩
  try rw [hhb]
  rw [hhb] at f16 z16
  have f9 := (b16.block _ (Array.getElem?_eq_some_iff.1 f9).1).trans f9
  have f15 := (b16.block _ (Array.getElem?_eq_some_iff.1 f15).1).trans f15
  refine anyZ_ready (rs := [8]) (by kernel_rfl) (by simp) ?_
  obtain ⟨W4, r8, f8, b8⟩ := HMk.out W3
  have W4b : Below X.heap.size X W4 := bt W3b b8
  refine readyZ.cons rfl rfl (run_makeZ (by rfl) (by rfl) (by rfl) r8) (fun _ => HK.out _ W4b) ?_ readyZ.nil
  try simp only [Act.put, List.getElem_toArray, List.getElem_cons_zero, List.getElem_cons_succ, List.setIfInBounds_toArray, List.set_cons_zero, List.set_cons_succ]
  have z8 : X.heap.size ≤ W3.heap.size := W3b.size
  obtain ⟨gb, hgb⟩ : ∃ gb, W3.heap.size = gb := ⟨_, rfl⟩
  try rw [hgb]
  rw [hgb] at f8 z8
  have f9 := (b8.block _ (Array.getElem?_eq_some_iff.1 f9).1).trans f9
  have f15 := (b8.block _ (Array.getElem?_eq_some_iff.1 f15).1).trans f15
  have f16 := (b8.block _ (Array.getElem?_eq_some_iff.1 f16).1).trans f16
  refine anyZ_take 18 8 (v := .agg #[ptr p, .int .i64 c, .int .i64 s, .int .i64 ix, .int .i64 iy, .int .i64 iw, .int .i64 ih, .slice (some ⟨gb, 0, none⟩) N N, .slice (some ⟨cb, 0, none⟩) N N, ptr hb, (.func F fr bd)]) rfl (by kernel_rfl) (fun _ _ _ h => h.elim) (Or.inl ⟨by rfl, fun wx hx => by go_simp⟩) (HK.out _ W4b) ?_
  try simp only [Act.put, List.getElem_toArray, List.getElem_cons_zero, List.getElem_cons_succ, List.setIfInBounds_toArray, List.set_cons_zero, List.set_cons_succ]
  obtain ⟨Wk, hWk⟩ : ∃ W, W4.alloc (.cells #[ptr p, .int .i64 c, .int .i64 s, .int .i64 ix, .int .i64 iy, .int .i64 iw, .int .i64 ih, .slice (some ⟨gb, 0, none⟩) N N, .slice (some ⟨cb, 0, none⟩) N N, ptr hb, (.func F fr bd)] 80) = W := ⟨_, rfl⟩
  have bk : Below W4.heap.size W4 Wk := hWk ▸ box1 _ _
  have Wkb : Below X.heap.size X Wk := bt W4b bk
  refine anyZ_ready (rs := [19]) (by kernel_rfl) (by simp) ?_
  refine readyZ.cons rfl rfl (hWk ▸ run_box62 (by rfl) (by rfl)) (fun _ => HK.out _ Wkb) ?_ readyZ.nil
  try simp only [Act.put, List.getElem_toArray, List.getElem_cons_zero, List.getElem_cons_succ, List.setIfInBounds_toArray, List.set_cons_zero, List.set_cons_succ]
  have zk := W4b.size
  have hz := Hz.out
  have HE := hide (Hend.out Wk W4.heap.size gb cb hb Wkb (by rw [← hWk]; exact heap_alloc_new _ _) ((bk.block _ (Array.getElem?_eq_some_iff.1 f8).1).trans f8) ((bk.block _ (Array.getElem?_eq_some_iff.1 f15).1).trans f15) ((bk.block _ (Array.getElem?_eq_some_iff.1 f16).1).trans f16) (by omega))
  have c1 := (HF1.out Wk Wkb).1
  obtain ⟨⟨y0, y1⟩, -, -⟩ := c1
  generalize W4.heap.size = kk at HE ⊢
  refine anyZ_take 20 8 (v := ptr kk) rfl (by kernel_rfl) (fun _ _ _ h => h.elim) (Or.inl ⟨by rfl, fun wx hx => by go_simp⟩) (HK.out _ Wkb) ?_
  try simp only [Act.put, List.getElem_toArray, List.getElem_cons_zero, List.getElem_cons_succ, List.setIfInBounds_toArray, List.set_cons_zero, List.set_cons_succ]
  refine anyZ_done (by kernel_rfl) ?_ _
  dsimp only [Only, Exit.then]
  clear f8 f15 f16 bk hWk zk hz HK HF1 Hend HMk HRp
  go_wp2_with fail
  refine HE.out.mono ?_
  rintro e w' ⟨rfl, hfin⟩
  have Hfin := hide hfin
  clear hfin
  go_wp2_with fail
  go_ret
  exact Hfin.out
end Go.Proofs.YtggaobcdogbjhaaGreatDoor
namespace Go.Proofs.YtggaobcdogbjhaaGreatDoor
open Go.RowKit
set_option linter.unusedVariables false
set_option linter.unusedSimpArgs false
set_option maxHeartbeats 2000000 in
theorem swithin_is (p : Nat) (W H : Int) (tl : List Nat) (f : Int → Int → Option Int) (c s x y ix iy iw ih : Int) (w : World) (hw : Wl w p W H tl f) (hg : Grnd w) :
    Calls Tryz.prog 30 #[ptr p, shv c s, cel x y, rct ix iy iw ih] w fun e w' => e = .returned (.bool (has ix iy iw ih x y && stB W H tl f c s x y)) ∧ Below w.heap.size w w' := by
  obtain ⟨X, hX⟩ : ∃ X, ((w.alloc (.cells #[.int .i64 c, .int .i64 s] 27)).alloc (.cells #[.int .i64 x, .int .i64 y] 29)).alloc (.cells #[.int .i64 ix, .int .i64 iy, .int .i64 iw, .int .i64 ih] 31) = X := ⟨_, rfl⟩
  have B0 : Below w.heap.size w X := hX ▸ bt (box2 _ _ _) (box1 _ _)
  have F1 : Two X w.heap.size c s := hX ▸ ((Two.newAt rfl).alloc).alloc
  have F2 : Two X (w.heap.size + 1) x y := hX ▸ (Two.newAt (by simp)).alloc
  have F3 : Four X (w.heap.size + 2) ix iy iw ih := by rw [← hX]; simp [Four, go_sem]
  obtain ⟨⟨a0, a1, a2, a3⟩, -, -⟩ := F3
  obtain ⟨⟨b0, b1⟩, -, -⟩ := F2
  have HK : Hid (∀ w1, Below X.heap.size X w1 → Wl w1 p W H tl f ∧ Grnd w1 ∧ Two w1 w.heap.size c s ∧ Two w1 (w.heap.size + 1) x y ∧ Below w.heap.size w w1) := hide fun w1 hb => by
    have F2 : Two X (w.heap.size + 1) x y := hX ▸ (Two.newAt (by simp)).alloc
    exact ⟨hw.kept (bt B0 hb), hg.kept (bt B0 hb), F1.kept hb, F2.kept hb, bt B0 hb⟩
  have HX := hide hX
  have HH := hide (hasc_any ix iy iw ih x y X)
  clear hX B0 F1 hw hg
  cases hh : has ix iy iw ih x y
  · rw [hh] at HH
    go_enter Tryz.func30, Tryz.ntmps30
    go_wp2_with (rw [HX.out])
    refine HH.out.mono ?_
    rintro e w1 ⟨rfl, hb1⟩
    have HB := hide (HK.out w1 hb1).2.2.2.2
    clear hb1
    go_wp2_with fail
    refine bodyPost_ret (v := .bool false) (by simp [results, Tryz.results30, go_sem]) rfl ?_
    exact ⟨rfl, HB.out⟩
  · rw [hh] at HH
    go_enter Tryz.func30, Tryz.ntmps30
    go_wp2_with (rw [HX.out])
    refine HH.out.mono ?_
    rintro e w1 ⟨rfl, hb1⟩
    obtain ⟨k1, k2, ⟨⟨c0, c1⟩, -, -⟩, ⟨⟨d0, d1⟩, -, -⟩, k5⟩ := HK.out w1 hb1
    have HB := hide (And.intro k1 (And.intro k2 k5))
    clear hb1 k1 k2 k5 a0 a1 a2 a3 b0 b1
    go_wp2_with fail
    refine (stands_any p W H tl f c s x y w1 HB.out.1 HB.out.2.1).mono ?_
    rintro e w2 ⟨rfl, hb2⟩
    have H2 := hide hb2
    clear hb2 c0 c1 d0 d1
    go_wp2_with fail
    refine bodyPost_ret (v := .bool (stB W H tl f c s x y)) (by simp [results, Tryz.results30, go_sem]) rfl ?_
    exact ⟨rfl, bt HB.out.2.2 H2.out⟩
end Go.Proofs.YtggaobcdogbjhaaGreatDoor
namespace Go.Proofs.YtggaobcdogbjhaaGreatDoor
open Go.RowKit Go.Shelf
set_option linter.unusedVariables false
set_option linter.unusedSimpArgs false
attribute [local go_sem] Oper.semAt_some
theorem run_call10 {ev : Operand → Value} {o : Oper} {w : World} {ar : Array Operand} {ts : Array TypeId} {vs : Array Value} (hop : o.op = .call { callee := .value (.func 29), args := ar, argTypes := ts }) (hf : ev (.func 29) = .func (.func 29) #[] #[]) (hvs : ar.map ev = vs) : (execOp ev o).run Tryz.prog w = .ok (.enter 29 vs) w := by
  unfold execOp
  simp only [hop, resolve, hf, hvs]
  go_simp
theorem run_call9 {ev : Operand → Value} {o : Oper} {w : World} {ar : Array Operand} {ts : Array TypeId} {vs : Array Value} (hop : o.op = .call { callee := .value (.func 28), args := ar, argTypes := ts }) (hf : ev (.func 28) = .func (.func 28) #[] #[]) (hvs : ar.map ev = vs) : (execOp ev o).run Tryz.prog w = .ok (.enter 28 vs) w := by
  unfold execOp
  simp only [hop, resolve, hf, hvs]
  go_simp
theorem run_alloc31 {ev : Operand → Value} {o : Oper} {w : World} (ho : o.op = .alloc 31) : (execOp ev o).run Tryz.prog w = .ok (.value (ptr w.heap.size)) (w.alloc (.cells #[.int .i64 0, .int .i64 0, .int .i64 0, .int .i64 0] 31)) := by
  unfold execOp
  rw [ho]
  go_simp
theorem run_put31 {ev : Operand → Value} {o : Oper} {w : World} {x y : Operand} {k : Nat} {a b c d p q r s : Int} (ho : o.op = .store 31 x y) (hx : ev x = ptr k) (hy : ev y = rct p q r s) (hF : Four w k a b c d) :
    (execOp ev o).run Tryz.prog w = .ok .skip ((((w.setCell ⟨k, 0, none⟩ (.int .i64 p)).setCell ⟨k, 1, none⟩ (.int .i64 q)).setCell ⟨k, 2, none⟩ (.int .i64 r)).setCell ⟨k, 3, none⟩ (.int .i64 s)) := by
  obtain ⟨⟨c0, c1, c2, c3⟩, ⟨f0, f1, f2, f3⟩, -⟩ := hF
  unfold execOp
  rw [ho]
  simp only [hx, hy]
  go_simp
theorem mtV_rect (x y a b p q c d : Int) : ∃ ix iy iw ih : Int, mtV x y a b p q c d = rct ix iy iw ih := by
  unfold mtV
  split
  · exact ⟨_, _, _, _, rfl⟩
  · exact ⟨0, 0, 0, 0, rfl⟩
/-- A cell of what the rectangle and the world share: both are small. -/
theorem rect_ok {x y a b W H ix iy iw ih u v : Int} (hm : mtV x y a b 0 0 W H = rct ix iy iw ih) (hW : W ≤ 128) (hH : H ≤ 128) (h : has ix iy iw ih u v = true) : (0 ≤ ix ∧ 0 ≤ iy ∧ ix + iw ≤ W ∧ iy + ih ≤ H) ∧ (0 ≤ u - ix ∧ u - ix < iw) ∧ 0 ≤ v - iy ∧ v - iy < ih := by
  have hb := (has_iff _ _ _ _ _ _).1 h
  unfold mtV at hm
  split at hm
  · simp only [span, rct, Value.agg.injEq, Array.mk.injEq, List.cons.injEq, Value.int.injEq, true_and, and_true] at hm
    omega
  · simp only [zero4, rct, Value.agg.injEq, Array.mk.injEq, List.cons.injEq, Value.int.injEq, true_and, and_true] at hm
    omega
theorem area_le {ix iy iw ih W H : Int} (h : 0 ≤ ix ∧ 0 ≤ iy ∧ ix + iw ≤ W ∧ iy + ih ≤ H) (h1 : 0 < iw) (h2 : 0 < ih) (hW : W ≤ 128) (hH : H ≤ 128) : 0 < iw * ih ∧ iw * ih ≤ 16384 := by
  have e1 : 0 < iw * ih := Int.mul_pos h1 h2
  have e2 : iw * ih ≤ 128 * 128 := Int.mul_le_mul (by omega) (by omega) (by omega) (by omega)
  omega
theorem gok_new {W H : Int} {tl : List Nat} {f : Int → Int → Option Int} {c s ix iy iw ih : Int} {N : Nat} (hN : N = (ih * iw).toNat) : Gok W H tl f c s ix iy iw ih (List.replicate N 0) := by
  refine ⟨by simp [hN], fun x y hx hy => ⟨0, ?_, .inl rfl⟩⟩
  rw [List.getElem?_replicate, if_pos]
  rw [hN]
  exact ij_lt (p := (x, y)) ⟨hx, hy⟩
theorem res_cells {w : World} {a : Nat} {o : Int} {v : Value} (h : w.heap[a]? = some (.cells #[.int .i64 o, v] 41)) : (w.cell? ⟨a, 0, none⟩ = some (.int .i64 o) ∧ w.cell? ⟨a, 1, none⟩ = some v) ∧ w.frozen? ⟨a, 0, none⟩ = false ∧ w.frozen? ⟨a, 1, none⟩ = false := by
  refine ⟨⟨by rw [cell_of_row _ a 0 _ _ _ h]; rfl, by rw [cell_of_row _ a 1 _ _ _ h]; rfl⟩, by simp [World.frozen?, h], by simp [World.frozen?, h]⟩
theorem res_put {w : World} {a : Nat} {o : Int} {v : Value} (h : w.heap[a]? = some (.cells #[.int .i64 o, v] 41)) (o' : Int) (v' : Value) : ∃ Y, (w.setCell ⟨a, 0, none⟩ (.int .i64 o')).setCell ⟨a, 1, none⟩ v' = Y ∧ (Y.cell? ⟨a, 0, none⟩ = some (.int .i64 o') ∧ Y.cell? ⟨a, 1, none⟩ = some v') ∧ Turns (fun j => j = a) w Y := by
  obtain ⟨⟨c0, c1⟩, f0, f1⟩ := res_cells h
  refine ⟨_, rfl, ⟨?_, ?_⟩, turns_two _ _ _ _⟩
  · go_simp
  · go_simp
/-- What Find tells, and leaves. -/
def FindEnd (W H : Int) (tl : List Nat) (f : Int → Int → Option Int) (c s fx fy tx ty ix iy iw ih bud : Int) (w : World) (e : Ending) (w' : World) : Prop :=
  ∃ (o : Int) (v : Value) (cost : Int), e = .returned (.tuple #[.agg #[.int .i64 o, v], .int .i64 cost]) ∧ Below w.heap.size w w' ∧
    (((has ix iy iw ih fx fy && stB W H tl f c s fx fy) && (has ix iy iw ih tx ty && stB W H tl f c s tx ty)) = false ∧ o = 2 ∧ v = .slice none 0 0 ∧ cost = 0 ∨
     ((has ix iy iw ih fx fy && stB W H tl f c s fx fy) && (has ix iy iw ih tx ty && stB W H tl f c s tx ty)) = true ∧
      ((o = 3 ∧ v = .slice none 0 0 ∧ cost = 0 ∧ bud < iw * ih) ∨
       (o = 2 ∧ v = .slice none 0 0 ∧ cost = 0 ∧ ∀ k, ¬ Wk (stepR W H tl f c s ix iy iw ih) (tx, ty) (fx, fy) k) ∨
       (o = 1 ∧ (0 ≤ cost ∧ cost ≤ 229376) ∧ Least (stepR W H tl f c s ix iy iw ih) (tx, ty) (fx, fy) cost.toNat ∧ ∃ (C : List Int) (P : List (Int × Int)), (C.length = (ih * iw).toNat ∧ ∀ m ∈ C, -1 ≤ m ∧ m ≤ 229376) ∧ (∃ Hq, Sk (stepR W H tl f c s ix iy iw ih) (tx, ty) (tab ix iy iw ih C) Hq ∧ ∀ q g, (q, g) ∈ Hq → cost.toNat < g + (ocN q.1 q.2 fx fy).toNat) ∧
         Wy W H tl f c s ix iy iw ih C fx fy cost P ∧ Cn w' v P ∧ ∀ j, v.ownBlock = some j → w.heap.size ≤ j)))
set_option maxRecDepth 100000 in
set_option maxHeartbeats 4000000 in
theorem find_is (p : Nat) (W H : Int) (tl : List Nat) (f : Int → Int → Option Int) (c s fx fy tx ty ax ay aw ah ix iy iw ih bud : Int) (w : World) (hw : Wl w p W H tl f) (hg : Grnd w) (ho : Offs w) (hW : W ≤ 128) (hH : H ≤ 128)
    (hm : mtV ax ay aw ah 0 0 W H = rct ix iy iw ih) (hbud : -9223372036854775808 ≤ bud ∧ bud ≤ 9223372036854775807) :
    Calls Tryz.prog 9 #[ptr p, shv c s, cel fx fy, cel tx ty, rct ax ay aw ah, .int .i64 bud] w (FindEnd W H tl f c s fx fy tx ty ix iy iw ih bud w) := by
  obtain ⟨X, hX⟩ : ∃ X, ((((w.alloc (.cells #[.int .i64 c, .int .i64 s] 27)).alloc (.cells #[.int .i64 fx, .int .i64 fy] 29)).alloc (.cells #[.int .i64 tx, .int .i64 ty] 29)).alloc (.cells #[.int .i64 ax, .int .i64 ay, .int .i64 aw, .int .i64 ah] 31)).alloc (.cells #[.int .i64 0, .slice none 0 0] 41) = X := ⟨_, rfl⟩
  have B0 : Below w.heap.size w X := hX ▸ bt (bt (box2 _ _ _) (box2 _ _ _)) (box1 _ _)
  have F0 : Two X w.heap.size c s := by rw [← hX]; exact ((((Two.newAt rfl).alloc).alloc).alloc).alloc
  have F1 : Two X (w.heap.size + 1) fx fy := by rw [← hX]; exact (((Two.newAt (by simp)).alloc).alloc).alloc
  have F2 : Two X (w.heap.size + 2) tx ty := by rw [← hX]; exact ((Two.newAt (by simp)).alloc).alloc
  have F3 : Four X (w.heap.size + 3) ax ay aw ah := by rw [← hX]; exact (Four.newAt _ _ _ _ _ (by simp)).kept (box1 _ _)
  have R0 : X.heap[w.heap.size + 4]? = some (.cells #[.int .i64 0, .slice none 0 0] 41) := by
    rw [← hX]
    have := heap_alloc_new ((((w.alloc (.cells #[.int .i64 c, .int .i64 s] 27)).alloc (.cells #[.int .i64 fx, .int .i64 fy] 29)).alloc (.cells #[.int .i64 tx, .int .i64 ty] 29)).alloc (.cells #[.int .i64 ax, .int .i64 ay, .int .i64 aw, .int .i64 ah] 31)) (.cells #[.int .i64 0, .slice none 0 0] 41)
    simpa using this
  have zX : X.heap.size = w.heap.size + 5 := by rw [← hX]; simp
  have HK : Hid (∀ wx, Below X.heap.size X wx → (fun wx : World => wx.cell? ⟨w.heap.size + 3, 0, none⟩ = some (.int .i64 ax) ∧ wx.cell? ⟨w.heap.size + 3, 1, none⟩ = some (.int .i64 ay) ∧ wx.cell? ⟨w.heap.size + 3, 2, none⟩ = some (.int .i64 aw) ∧ wx.cell? ⟨w.heap.size + 3, 3, none⟩ = some (.int .i64 ah)) wx) := hide fun wx q => (F3.kept q).1
  have HB : Hid (∀ wx, Below X.heap.size X wx → (Two wx w.heap.size c s ∧ Two wx (w.heap.size + 1) fx fy ∧ Two wx (w.heap.size + 2) tx ty) ∧ wx.heap[w.heap.size + 4]? = some (.cells #[.int .i64 0, .slice none 0 0] 41) ∧ (Below w.heap.size w wx ∧ Wl wx p W H tl f ∧ Grnd wx ∧ Offs wx)) := hide fun wx q =>
    ⟨⟨F0.kept q, F1.kept q, F2.kept q⟩, (q.block _ (by omega)).trans R0, bt B0 q, hw.kept (bt B0 q), hg.kept (bt B0 q), ho.kept (bt B0 q)⟩
  have HX := hide hX
  have Hz := hide zX
  have HS : (fun wx : World => wx.cell? ⟨w.heap.size + 3, 0, none⟩ = some (.int .i64 ax) ∧ wx.cell? ⟨w.heap.size + 3, 1, none⟩ = some (.int .i64 ay) ∧ wx.cell? ⟨w.heap.size + 3, 2, none⟩ = some (.int .i64 aw) ∧ wx.cell? ⟨w.heap.size + 3, 3, none⟩ = some (.int .i64 ah)) X.drew := HK.out _ (Below.refl _ _).drew
  have HAl : Hid (∀ wx, Below X.heap.size X wx → Calls Tryz.prog 29 #[ptr p] wx fun e w' => e = .returned (rct 0 0 W H) ∧ Below wx.heap.size wx w') := hide fun wx q => all_is (HB.out wx q).2.2.2.1
  have HMt : Hid (∀ wx, Calls Tryz.prog 28 #[rct ax ay aw ah, rct 0 0 W H] wx fun e w' => e = .returned (.tuple #[rct ix iy iw ih, .bool (mtB ax ay aw ah 0 0 W H)]) ∧ Below wx.heap.size wx w') := hide fun wx => by
    have := meet_any ax ay aw ah 0 0 W H wx
    rwa [hm] at this
  have Hm := hide (And.intro hm (And.intro hW (And.intro hH hbud)))
  clear hX B0 F0 F1 F2 F3 R0 zX hw hg ho hm hW hH hbud
  go_enter Tryz.func9, Tryz.ntmps9
  go_wp2_with (rw [HX.out])
  go_cut [14] (fun v wx => ∃ k, v = ptr k ∧ Below X.heap.size X wx ∧ Four wx k ix iy iw ih)
  case first =>
    rename_i J K' hJ hK'
    refine wp_only ?_
    refine wp_region_z (fun wx : World => wx.cell? ⟨w.heap.size + 3, 0, none⟩ = some (.int .i64 ax) ∧ wx.cell? ⟨w.heap.size + 3, 1, none⟩ = some (.int .i64 ay) ∧ wx.cell? ⟨w.heap.size + 3, 2, none⟩ = some (.int .i64 aw) ∧ wx.cell? ⟨w.heap.size + 3, 3, none⟩ = some (.int .i64 ah)) [] (by kernel_rfl) ?_
    refine anyZ_take 0 8 (v := rct ax ay aw ah) rfl (by kernel_rfl) (fun _ _ _ h => h.elim) (Or.inl ⟨by rfl, fun wx hx => by obtain ⟨q0, q1, q2, q3⟩ := hx; clear HS; go_simp⟩) HS ?_
    try simp only [Act.put, List.getElem_toArray, List.getElem_cons_zero, List.getElem_cons_succ, List.setIfInBounds_toArray, List.set_cons_zero, List.set_cons_succ]
    refine anyZ_take 1 8 (v := ptr p) rfl (by kernel_rfl) (fun _ _ _ h => h.elim) (Or.inl ⟨by rfl, fun wx hx => by obtain ⟨q0, q1, q2, q3⟩ := hx; clear HS; go_simp⟩) HS ?_
    try simp only [Act.put, List.getElem_toArray, List.getElem_cons_zero, List.getElem_cons_succ, List.setIfInBounds_toArray, List.set_cons_zero, List.set_cons_succ]
    have W0b : Below X.heap.size X X.drew := (Below.refl _ _).drew
    obtain ⟨W0, hW0⟩ : ∃ W0, X.drew = W0 := ⟨_, rfl⟩
    rw [hW0] at W0b ⊢
    clear hW0 HS
    generalize mtB ax ay aw ah 0 0 W H = mb at HMt
    refine anyZ_ready (rs := [2, 7]) (by kernel_rfl) (by simp) ?_
    refine readyZ.call rfl rfl (run_call10 (by rfl) (by rfl) (by simp only [List.map_toArray, List.map_cons, List.map_nil]; rfl)) (HAl.out _ W0b) ?_ ?_
    · rintro e W1 ⟨rfl, b2⟩
      have W1b : Below X.heap.size X W1 := bt W0b b2
      refine ⟨_, rfl, fun _ => HK.out _ W1b, ?_⟩
      try simp only [Act.put, List.getElem_toArray, List.getElem_cons_zero, List.getElem_cons_succ, List.setIfInBounds_toArray, List.set_cons_zero, List.set_cons_succ]
      refine anyZ_ready (rs := [3, 7]) (by kernel_rfl) (by simp) ?_
      refine readyZ.call rfl rfl (run_call9 (by rfl) (by rfl) (by simp only [List.map_toArray, List.map_cons, List.map_nil]; rfl)) (HMt.out _) ?_ ?_
      · rintro e W2 ⟨rfl, b3⟩
        have W2b : Below X.heap.size X W2 := bt W1b b3
        refine ⟨_, rfl, fun _ => HK.out _ W2b, ?_⟩
        try simp only [Act.put, List.getElem_toArray, List.getElem_cons_zero, List.getElem_cons_succ, List.setIfInBounds_toArray, List.set_cons_zero, List.set_cons_succ]
        refine anyZ_take 4 8 (v := .tuple #[rct ix iy iw ih, .bool mb]) rfl (by kernel_rfl) (fun _ _ _ h => h.elim) (Or.inl ⟨by rfl, fun wx hx => by go_simp⟩) (HK.out _ W2b) ?_
        try simp only [Act.put, List.getElem_toArray, List.getElem_cons_zero, List.getElem_cons_succ, List.setIfInBounds_toArray, List.set_cons_zero, List.set_cons_succ]
        refine anyZ_take 5 8 (v := rct ix iy iw ih) rfl (by kernel_rfl) (fun _ _ _ h => h.elim) (Or.inl ⟨by rfl, fun wx hx => by go_simp⟩) (HK.out _ W2b) ?_
        try simp only [Act.put, List.getElem_toArray, List.getElem_cons_zero, List.getElem_cons_succ, List.setIfInBounds_toArray, List.set_cons_zero, List.set_cons_succ]
        refine anyZ_take 6 8 (v := .bool mb) rfl (by kernel_rfl) (fun _ _ _ h => h.elim) (Or.inl ⟨by rfl, fun wx hx => by go_simp⟩) (HK.out _ W2b) ?_
        try simp only [Act.put, List.getElem_toArray, List.getElem_cons_zero, List.getElem_cons_succ, List.setIfInBounds_toArray, List.set_cons_zero, List.set_cons_succ]
        refine anyZ_ready (rs := [7]) (by kernel_rfl) (by simp) ?_
        obtain ⟨W3, h7⟩ : ∃ W, W2.alloc (.cells #[.int .i64 0, .int .i64 0, .int .i64 0, .int .i64 0] 31) = W := ⟨_, rfl⟩
        have b7 : Below W2.heap.size W2 W3 := h7 ▸ box1 _ _
        have W3b : Below X.heap.size X W3 := bt W2b b7
        have f7 : Four W3 W2.heap.size 0 0 0 0 := by rw [← h7]; exact Four.new _ _ _ _ _ _
        have z7 := W2b.size
        refine readyZ.cons rfl rfl (h7 ▸ run_alloc31 (by rfl)) (fun _ => HK.out _ W3b) ?_ readyZ.nil
        try simp only [Act.put, List.getElem_toArray, List.getElem_cons_zero, List.getElem_cons_succ, List.setIfInBounds_toArray, List.set_cons_zero, List.set_cons_succ]
        clear h7
        generalize W2.heap.size = kk at f7 z7 ⊢
        refine anyZ_ready (rs := [8]) (by kernel_rfl) (by simp) ?_
        obtain ⟨WY, hWY⟩ : ∃ W, (((W3.setCell ⟨kk, 0, none⟩ (.int .i64 ix)).setCell ⟨kk, 1, none⟩ (.int .i64 iy)).setCell ⟨kk, 2, none⟩ (.int .i64 iw)).setCell ⟨kk, 3, none⟩ (.int .i64 ih) = W := ⟨_, rfl⟩
        have fY : Four WY kk ix iy iw ih := hWY ▸ f7.set ix iy iw ih
        have bY : Below X.heap.size X WY := W3b.trans ((hWY ▸ turns_four W3 kk _ _ _ _ : Turns (fun j => j = kk) W3 WY).below (fun j e => by omega) W3b.size)
        refine readyZ.skip rfl rfl (hWY ▸ run_put31 (by rfl) (by rfl) (by rfl) f7) (fun _ => HK.out _ bY) ?_ readyZ.nil
        try simp only [Act.put, List.getElem_toArray, List.getElem_cons_zero, List.getElem_cons_succ, List.setIfInBounds_toArray, List.set_cons_zero, List.set_cons_succ]
        refine anyZ_take 9 8 (v := .bool mb) rfl (by kernel_rfl) (fun _ _ _ h => h.elim) (Or.inl ⟨by rfl, fun wx hx => by go_simp⟩) (HK.out _ bY) ?_
        try simp only [Act.put, List.getElem_toArray, List.getElem_cons_zero, List.getElem_cons_succ, List.setIfInBounds_toArray, List.set_cons_zero, List.set_cons_succ]
        refine anyZ_done (by kernel_rfl) ?_ _
        dsimp only [Only, Exit.then]
        clear hWY
        have HE := hide (And.intro bY fY)
        clear bY fY f7 z7
        refine hK' _ _ (Met.intro (hJ _ _ ?_))
        (repeat apply Exists.intro)
        exact ⟨⟨kk, rfl, HE.out⟩, rfl⟩
      obtain ⟨W2, h7⟩ : ∃ W, W1.alloc (.cells #[.int .i64 0, .int .i64 0, .int .i64 0, .int .i64 0] 31) = W := ⟨_, rfl⟩
      have b7 : Below W1.heap.size W1 W2 := h7 ▸ box1 _ _
      have W2b : Below X.heap.size X W2 := bt W1b b7
      have f7 : Four W2 W1.heap.size 0 0 0 0 := by rw [← h7]; exact Four.new _ _ _ _ _ _
      have z7 := W1b.size
      refine readyZ.cons rfl rfl (h7 ▸ run_alloc31 (by rfl)) (fun _ => HK.out _ W2b) ?_ readyZ.nil
      try simp only [Act.put, List.getElem_toArray, List.getElem_cons_zero, List.getElem_cons_succ, List.setIfInBounds_toArray, List.set_cons_zero, List.set_cons_succ]
      clear h7
      generalize W1.heap.size = kk at f7 z7 ⊢
      refine anyZ_ready (rs := [3]) (by kernel_rfl) (by simp) ?_
      refine readyZ.call rfl rfl (run_call9 (by rfl) (by rfl) (by simp only [List.map_toArray, List.map_cons, List.map_nil]; rfl)) (HMt.out _) ?_ readyZ.nil
      rintro e W3 ⟨rfl, b3⟩
      have W3b : Below X.heap.size X W3 := bt W2b b3
      refine ⟨_, rfl, fun _ => HK.out _ W3b, ?_⟩
      try simp only [Act.put, List.getElem_toArray, List.getElem_cons_zero, List.getElem_cons_succ, List.setIfInBounds_toArray, List.set_cons_zero, List.set_cons_succ]
      have f7 := f7.kept b3
      refine anyZ_take 4 8 (v := .tuple #[rct ix iy iw ih, .bool mb]) rfl (by kernel_rfl) (fun _ _ _ h => h.elim) (Or.inl ⟨by rfl, fun wx hx => by go_simp⟩) (HK.out _ W3b) ?_
      try simp only [Act.put, List.getElem_toArray, List.getElem_cons_zero, List.getElem_cons_succ, List.setIfInBounds_toArray, List.set_cons_zero, List.set_cons_succ]
      refine anyZ_take 5 8 (v := rct ix iy iw ih) rfl (by kernel_rfl) (fun _ _ _ h => h.elim) (Or.inl ⟨by rfl, fun wx hx => by go_simp⟩) (HK.out _ W3b) ?_
      try simp only [Act.put, List.getElem_toArray, List.getElem_cons_zero, List.getElem_cons_succ, List.setIfInBounds_toArray, List.set_cons_zero, List.set_cons_succ]
      refine anyZ_take 6 8 (v := .bool mb) rfl (by kernel_rfl) (fun _ _ _ h => h.elim) (Or.inl ⟨by rfl, fun wx hx => by go_simp⟩) (HK.out _ W3b) ?_
      try simp only [Act.put, List.getElem_toArray, List.getElem_cons_zero, List.getElem_cons_succ, List.setIfInBounds_toArray, List.set_cons_zero, List.set_cons_succ]
      refine anyZ_ready (rs := [8]) (by kernel_rfl) (by simp) ?_
      obtain ⟨WY, hWY⟩ : ∃ W, (((W3.setCell ⟨kk, 0, none⟩ (.int .i64 ix)).setCell ⟨kk, 1, none⟩ (.int .i64 iy)).setCell ⟨kk, 2, none⟩ (.int .i64 iw)).setCell ⟨kk, 3, none⟩ (.int .i64 ih) = W := ⟨_, rfl⟩
      have fY : Four WY kk ix iy iw ih := hWY ▸ f7.set ix iy iw ih
      have bY : Below X.heap.size X WY := W3b.trans ((hWY ▸ turns_four W3 kk _ _ _ _ : Turns (fun j => j = kk) W3 WY).below (fun j e => by omega) W3b.size)
      refine readyZ.skip rfl rfl (hWY ▸ run_put31 (by rfl) (by rfl) (by rfl) f7) (fun _ => HK.out _ bY) ?_ readyZ.nil
      try simp only [Act.put, List.getElem_toArray, List.getElem_cons_zero, List.getElem_cons_succ, List.setIfInBounds_toArray, List.set_cons_zero, List.set_cons_succ]
      refine anyZ_take 9 8 (v := .bool mb) rfl (by kernel_rfl) (fun _ _ _ h => h.elim) (Or.inl ⟨by rfl, fun wx hx => by go_simp⟩) (HK.out _ bY) ?_
      try simp only [Act.put, List.getElem_toArray, List.getElem_cons_zero, List.getElem_cons_succ, List.setIfInBounds_toArray, List.set_cons_zero, List.set_cons_succ]
      refine anyZ_done (by kernel_rfl) ?_ _
      dsimp only [Only, Exit.then]
      clear hWY
      have HE := hide (And.intro bY fY)
      clear bY fY f7 z7
      refine hK' _ _ (Met.intro (hJ _ _ ?_))
      (repeat apply Exists.intro)
      exact ⟨⟨kk, rfl, HE.out⟩, rfl⟩
    obtain ⟨W1, h7⟩ : ∃ W, W0.alloc (.cells #[.int .i64 0, .int .i64 0, .int .i64 0, .int .i64 0] 31) = W := ⟨_, rfl⟩
    have b7 : Below W0.heap.size W0 W1 := h7 ▸ box1 _ _
    have W1b : Below X.heap.size X W1 := bt W0b b7
    have f7 : Four W1 W0.heap.size 0 0 0 0 := by rw [← h7]; exact Four.new _ _ _ _ _ _
    have z7 := W0b.size
    refine readyZ.cons rfl rfl (h7 ▸ run_alloc31 (by rfl)) (fun _ => HK.out _ W1b) ?_ readyZ.nil
    try simp only [Act.put, List.getElem_toArray, List.getElem_cons_zero, List.getElem_cons_succ, List.setIfInBounds_toArray, List.set_cons_zero, List.set_cons_succ]
    clear h7
    generalize W0.heap.size = kk at f7 z7 ⊢
    refine anyZ_ready (rs := [2]) (by kernel_rfl) (by simp) ?_
    refine readyZ.call rfl rfl (run_call10 (by rfl) (by rfl) (by simp only [List.map_toArray, List.map_cons, List.map_nil]; rfl)) (HAl.out _ W1b) ?_ readyZ.nil
    rintro e W2 ⟨rfl, b2⟩
    have W2b : Below X.heap.size X W2 := bt W1b b2
    refine ⟨_, rfl, fun _ => HK.out _ W2b, ?_⟩
    try simp only [Act.put, List.getElem_toArray, List.getElem_cons_zero, List.getElem_cons_succ, List.setIfInBounds_toArray, List.set_cons_zero, List.set_cons_succ]
    have f7 := f7.kept b2
    refine anyZ_ready (rs := [3]) (by kernel_rfl) (by simp) ?_
    refine readyZ.call rfl rfl (run_call9 (by rfl) (by rfl) (by simp only [List.map_toArray, List.map_cons, List.map_nil]; rfl)) (HMt.out _) ?_ readyZ.nil
    rintro e W3 ⟨rfl, b3⟩
    have W3b : Below X.heap.size X W3 := bt W2b b3
    refine ⟨_, rfl, fun _ => HK.out _ W3b, ?_⟩
    try simp only [Act.put, List.getElem_toArray, List.getElem_cons_zero, List.getElem_cons_succ, List.setIfInBounds_toArray, List.set_cons_zero, List.set_cons_succ]
    have f7 := f7.kept b3
    refine anyZ_take 4 8 (v := .tuple #[rct ix iy iw ih, .bool mb]) rfl (by kernel_rfl) (fun _ _ _ h => h.elim) (Or.inl ⟨by rfl, fun wx hx => by go_simp⟩) (HK.out _ W3b) ?_
    try simp only [Act.put, List.getElem_toArray, List.getElem_cons_zero, List.getElem_cons_succ, List.setIfInBounds_toArray, List.set_cons_zero, List.set_cons_succ]
    refine anyZ_take 5 8 (v := rct ix iy iw ih) rfl (by kernel_rfl) (fun _ _ _ h => h.elim) (Or.inl ⟨by rfl, fun wx hx => by go_simp⟩) (HK.out _ W3b) ?_
    try simp only [Act.put, List.getElem_toArray, List.getElem_cons_zero, List.getElem_cons_succ, List.setIfInBounds_toArray, List.set_cons_zero, List.set_cons_succ]
    refine anyZ_take 6 8 (v := .bool mb) rfl (by kernel_rfl) (fun _ _ _ h => h.elim) (Or.inl ⟨by rfl, fun wx hx => by go_simp⟩) (HK.out _ W3b) ?_
    try simp only [Act.put, List.getElem_toArray, List.getElem_cons_zero, List.getElem_cons_succ, List.setIfInBounds_toArray, List.set_cons_zero, List.set_cons_succ]
    refine anyZ_ready (rs := [8]) (by kernel_rfl) (by simp) ?_
    obtain ⟨WY, hWY⟩ : ∃ W, (((W3.setCell ⟨kk, 0, none⟩ (.int .i64 ix)).setCell ⟨kk, 1, none⟩ (.int .i64 iy)).setCell ⟨kk, 2, none⟩ (.int .i64 iw)).setCell ⟨kk, 3, none⟩ (.int .i64 ih) = W := ⟨_, rfl⟩
    have fY : Four WY kk ix iy iw ih := hWY ▸ f7.set ix iy iw ih
    have bY : Below X.heap.size X WY := W3b.trans ((hWY ▸ turns_four W3 kk _ _ _ _ : Turns (fun j => j = kk) W3 WY).below (fun j e => by omega) W3b.size)
    refine readyZ.skip rfl rfl (hWY ▸ run_put31 (by rfl) (by rfl) (by rfl) f7) (fun _ => HK.out _ bY) ?_ readyZ.nil
    try simp only [Act.put, List.getElem_toArray, List.getElem_cons_zero, List.getElem_cons_succ, List.setIfInBounds_toArray, List.set_cons_zero, List.set_cons_succ]
    refine anyZ_take 9 8 (v := .bool mb) rfl (by kernel_rfl) (fun _ _ _ h => h.elim) (Or.inl ⟨by rfl, fun wx hx => by go_simp⟩) (HK.out _ bY) ?_
    try simp only [Act.put, List.getElem_toArray, List.getElem_cons_zero, List.getElem_cons_succ, List.setIfInBounds_toArray, List.set_cons_zero, List.set_cons_succ]
    refine anyZ_done (by kernel_rfl) ?_ _
    dsimp only [Only, Exit.then]
    clear hWY
    have HE := hide (And.intro bY fY)
    clear bY fY f7 z7
    refine hK' _ _ (Met.intro (hJ _ _ ?_))
    (repeat apply Exists.intro)
    exact ⟨⟨kk, rfl, HE.out⟩, rfl⟩
  case rest =>
    clear HAl HMt HS
    obtain ⟨kk, rfl, hB, hF⟩ := hcut
    obtain ⟨⟨b0, b1, b2⟩, r4, hBw, hWl, hGr, hOf⟩ := HB.out wc hB
    obtain ⟨⟨c0, c1⟩, -, -⟩ := b0
    obtain ⟨⟨d0, d1⟩, -, -⟩ := b1
    obtain ⟨⟨e0, e1⟩, -, -⟩ := b2
    obtain ⟨⟨g0, g1, g2, g3⟩, -, -⟩ := id hF
    have H1 := hide (swithin_is p W H tl f c s fx fy ix iy iw ih wc hWl hGr)
    have hz := Hz.out
    have HBX := hide hB
    have HFX := hide hF
    clear r4 hBw hWl hGr hOf HK HX hB hF
    cases hv1 : (has ix iy iw ih fx fy && stB W H tl f c s fx fy)
    · go_wp2_with fail
      refine H1.out.mono ?_
      rintro e w1 ⟨rfl, hb1⟩
      rw [hv1]
      have BX1 := bt HBX.out hb1
      obtain ⟨-, r4, hBw, -⟩ := HB.out w1 BX1
      obtain ⟨Y, hY, hc, TY⟩ := res_put r4 2 (.slice none 0 0)
      obtain ⟨⟨y0, y1⟩, y2, y3⟩ := res_cells r4
      obtain ⟨z0, z1⟩ := hc
      have HY := hide hY
      have HE : Hid (FindEnd W H tl f c s fx fy tx ty ix iy iw ih bud w (.returned (.tuple #[.agg #[.int .i64 2, (.slice none 0 0)], .int .i64 0])) Y) := hide ⟨2, (.slice none 0 0), 0, rfl, hBw.trans (TY.below (fun j e => by omega) hBw.size), .inl ⟨(by simp [hv1]), rfl, rfl, rfl⟩⟩
      clear r4 hBw TY hY
      go_wp2_with (rw [HY.out])
      refine bodyPost_ret (v := .tuple #[.agg #[.int .i64 2, (.slice none 0 0)], .int .i64 0]) (by simp [results, Tryz.f9, go_sem, z0, z1]) rfl ?_
      exact HE.out
    · go_wp2_with fail
      refine H1.out.mono ?_
      rintro e w1 ⟨rfl, hb1⟩
      rw [hv1]
      have BX1 := bt HBX.out hb1
      obtain ⟨⟨b0, b1, b2⟩, r4, hBw, hWl, hGr, hOf⟩ := HB.out w1 BX1
      have H2 := hide (swithin_is p W H tl f c s tx ty ix iy iw ih w1 hWl hGr)
      have F1 := HFX.out.kept hb1
      clear c0 c1 d0 d1 e0 e1 g0 g1 g2 g3 H1 hWl hGr hOf r4
      obtain ⟨⟨c0, c1⟩, -, -⟩ := b0
      obtain ⟨⟨d0, d1⟩, -, -⟩ := b1
      obtain ⟨⟨e0, e1⟩, -, -⟩ := b2
      obtain ⟨⟨g0, g1, g2, g3⟩, -, -⟩ := id F1
      have HF1 := hide F1
      have HB1 := hide BX1
      clear hb1 BX1 hBw F1
      cases hv2 : (has ix iy iw ih tx ty && stB W H tl f c s tx ty)
      · go_wp2_with fail
        refine H2.out.mono ?_
        rintro e w2 ⟨rfl, hb2⟩
        rw [hv2]
        have BX2 := bt HB1.out hb2
        obtain ⟨-, r4, hBw, -⟩ := HB.out w2 BX2
        obtain ⟨Y, hY, hc, TY⟩ := res_put r4 2 (.slice none 0 0)
        obtain ⟨⟨y0, y1⟩, y2, y3⟩ := res_cells r4
        obtain ⟨z0, z1⟩ := hc
        have HY := hide hY
        have HE : Hid (FindEnd W H tl f c s fx fy tx ty ix iy iw ih bud w (.returned (.tuple #[.agg #[.int .i64 2, (.slice none 0 0)], .int .i64 0])) Y) := hide ⟨2, (.slice none 0 0), 0, rfl, hBw.trans (TY.below (fun j e => by omega) hBw.size), .inl ⟨(by simp [hv1, hv2]), rfl, rfl, rfl⟩⟩
        clear r4 hBw TY hY
        go_wp2_with (rw [HY.out])
        refine bodyPost_ret (v := .tuple #[.agg #[.int .i64 2, (.slice none 0 0)], .int .i64 0]) (by simp [results, Tryz.f9, go_sem, z0, z1]) rfl ?_
        exact HE.out
      · go_wp2_with fail
        refine H2.out.mono ?_
        rintro e w2 ⟨rfl, hb2⟩
        rw [hv2]
        have BX2 := bt HB1.out hb2
        obtain ⟨⟨b0, b1, b2⟩, r4, hBw, hWl, hGr, hOf⟩ := HB.out w2 BX2
        have F2 := HF1.out.kept hb2
        obtain ⟨hm, hW, hH, hbud⟩ := Hm.out
        have hv1' := (Bool.and_eq_true _ _ ▸ hv1).1
        have hv2' := (Bool.and_eq_true _ _ ▸ hv2).1
        obtain ⟨hr1, hf1, hf2⟩ := rect_ok hm hW hH hv1'
        obtain ⟨-, ht1, ht2⟩ := rect_ok hm hW hH hv2'
        obtain ⟨hA1, hA2⟩ := area_le hr1 (by omega) (by omega) hW hH
        have hcm : ih * iw = iw * ih := Int.mul_comm _ _
        obtain ⟨N, hN⟩ : ∃ N : Nat, iw * ih = (N : Nat) := ⟨(iw * ih).toNat, by omega⟩
        have hN' : N = (ih * iw).toNat := by omega
        have hi : 0 ≤ ix ∧ 0 ≤ iy ∧ ix + iw ≤ 1048576 ∧ iy + ih ≤ 1048576 := by omega
        have hlf := left_is w2 (w.heap.size + 1) fx fy b1
        have hcon := ocN_con (W := W) (H := H) (tl := tl) (f := f) (c := c) (s := s) (fx := fx) (fy := fy) hi ⟨hf1, hf2⟩
        have hOb : ∀ i C n S, Okk W H tl f c s ix iy iw ih (fun x y => ocN x y fx fy) tx ty i C n S → C.length = (ih * iw).toNat ∧ InR ix iy iw ih S ∧ S.length + 8 ≤ 1099511627776 ∧ (0 ≤ n ∧ n + 8 ≤ 1099511627776) ∧ ∀ t ∈ S, 0 ≤ t.c ∧ t.c ≤ 1099511627776 := fun i C n S h => by
          have hs := h.small
          have h1 := h.few
          have h2 := h.cnt
          exact ⟨h.len, h.inr, by omega, by omega, fun t ht => by have := h.cst t ht; omega⟩
        have HBg := hide (begin_is w2 p c s ix iy iw ih (.func 32) #[] #[ptr (w.heap.size + 1)] N (fun x y => ocN x y fx fy) tx ty w2 (Below.refl _ _) hlf hN (by omega) ht1 ht2 hi ⟨ocN_nonneg _ _ _ _, ocN_le _ _ _ _⟩)
        have HRc : Hid (∀ w3 k gv cv b hv, Sch w2 w3 k p c s ix iy iw ih gv cv b (.func (.func 32) #[] #[ptr (w.heap.size + 1)]) (List.replicate N 0) ((List.replicate N (-1)).set (ij ix iy iw tx ty) 0) hv 1 [⟨tx, ty, 0, ocN tx ty fx fy, 0⟩] → Calls Tryz.prog 34 #[ptr k, cel fx fy, .int .i64 bud] w3 (ReachEnd (Okk W H tl f c s ix iy iw ih (fun x y => ocN x y fx fy) tx ty) w2 k p c s ix iy iw ih gv cv b (.func (.func 32) #[] #[ptr (w.heap.size + 1)]) hv W H tl f fx fy bud w3)) := hide fun w3 k gv cv b hv hS =>
          reach_is (Okk W H tl f c s ix iy iw ih (fun x y => ocN x y fx fy) tx ty) w2 k p c s ix iy iw ih gv cv b _ _ _ hv 1 _ W H tl f (fun x y => ocN x y fx fy) fx fy bud w3 hS hWl hGr hOf (gok_new hN') hlf hf1 hf2 hi hbud (fun u v => ⟨ocN_nonneg _ _ _ _, ocN_le _ _ _ _⟩) (Okk.begin hN' ⟨ht1, ht2⟩) hOb
            (fun i C n S tx' ty' tc tf R h hx hns a ha => h.next hcon (fun u v => ocN_nonneg _ _ _ _) hx ha)
        have HTo : Hid (∀ i C n S R tx' ty' tc tf ok m, Okk W H tl f c s ix iy iw ih (fun x y => ocN x y fx fy) tx ty i C n S → Nx ix iy iw C S tx' ty' tc tf ok R → (ok = false ∨ Stp ix iy iw fx fy C tf) → C[ij ix iy iw fx fy]? = some m → ((m = -1 ∧ ∀ k, ¬ Wk (stepR W H tl f c s ix iy iw ih) (tx, ty) (fx, fy) k) ∨ (0 ≤ m ∧ Least (stepR W H tl f c s ix iy iw ih) (tx, ty) (fx, fy) m.toNat ∧ ∃ Hq, Sk (stepR W H tl f c s ix iy iw ih) (tx, ty) (tab ix iy iw ih C) Hq ∧ ∀ q g, (q, g) ∈ Hq → m.toNat < g + (ocN q.1 q.2 fx fy).toNat))) := hide fun i C n S R tx' ty' tc tf ok m h hx he hm => Okk.told (L := fun x y => ocN x y fx fy) (gx := fx) (gy := fy) hcon (fun u v => ocN_nonneg _ _ _ _) (ocN_goal fx fy) ⟨hf1, hf2⟩ h hx he hm
        have HMo : Hid (∀ i C n S R tx' ty' tc tf, Okk W H tl f c s ix iy iw ih (fun x y => ocN x y fx fy) tx ty i C n S → Nx ix iy iw C S tx' ty' tc tf true R → i + 1 ≤ (ih * iw).toNat) := hide fun i C n S R tx' ty' tc tf h hx => (h.next hcon (fun u v => ocN_nonneg _ _ _ _) hx rfl).small
        have HWy : Hid (∀ w5 k gv cv b hv G C n S cost, Sch w2 w5 k p c s ix iy iw ih gv cv b (.func (.func 32) #[] #[ptr (w.heap.size + 1)]) G C hv n S → Gok W H tl f c s ix iy iw ih G → C.length = (ih * iw).toNat → (∀ m ∈ C, -1 ≤ m ∧ m ≤ 1099511627776) → cost ≤ 1000000000 → Calls Tryz.prog 36 #[ptr k, cel fx fy, .int .i64 cost] w5 (WayEnd w2 k p c s ix iy iw ih gv cv b (.func (.func 32) #[] #[ptr (w.heap.size + 1)]) C hv n S W H tl f fx fy cost w5)) := hide fun w5 k gv cv b hv G C n S cost hS hgo hl hb hc =>
          way_is w2 k p c s ix iy iw ih gv cv b _ G C hv n S W H tl f fx fy cost w5 hS hWl hGr hOf hgo hl hf1 hf2 hi hb hc
        have HIx : Hid (∀ w5 k gv cv b, Sr w5 k p c s ix iy iw ih gv cv b (.func (.func 32) #[] #[ptr (w.heap.size + 1)]) → Calls Tryz.prog 35 #[ptr k, cel fx fy] w5 fun e w' => e = .returned (.int .i64 ((fy - iy) * iw + (fx - ix))) ∧ Below w5.heap.size w5 w') := hide fun w5 k gv cv b hS => sindex_is k p c s ix iy iw ih gv cv b _ fx fy w5 hS hf1 hf2 hi
        have hI := idx_in (c := 0) (d := 0) hf2.1 hf2.2 hf1.1 hf1.2
        obtain ⟨J, hJ⟩ : ∃ J : Nat, (fy - iy) * iw + (fx - ix) = (J : Int) := ⟨((fy - iy) * iw + (fx - ix)).toNat, by omega⟩
        have hJi : ij ix iy iw fx fy = J := by unfold ij; omega
        have hJN : J < N := by omega
        rw [hJ] at HIx
        have HN := hide (And.intro hN (And.intro hN' (And.intro hJi (And.intro hJN (And.intro hA2 (And.intro hv1 hv2))))))
        have HB2 := hide BX2
        have hv12 : ((has ix iy iw ih fx fy && stB W H tl f c s fx fy) && (has ix iy iw ih tx ty && stB W H tl f c s tx ty)) = true := by rw [hv1, hv2]; rfl
        have Hv12 := hide hv12
        clear c0 c1 d0 d1 e0 e1 g0 g1 g2 g3 H2 hWl hGr hOf r4 hm hW hH hbud hv1' hv2' hr1 hf1 hf2 ht1 ht2 hA1 hA2 hcm hN hN' hi hlf hcon hOb hI hJ hJi hJN BX2 hBw hb2 HF1 HB1 HFX HBX Hm hv12
        obtain ⟨⟨c0, c1⟩, -, -⟩ := b0
        obtain ⟨⟨d0, d1⟩, -, -⟩ := b1
        obtain ⟨⟨e0, e1⟩, -, -⟩ := b2
        obtain ⟨⟨g0, g1, g2, g3⟩, -, -⟩ := id F2
        go_wp2_with fail
        refine HBg.out.mono ?_
        rintro e w3 ⟨k, gv, cv, b, hv, rfl, hS3, hb3⟩
        have HR3 := hide (HRc.out _ _ _ _ _ _ hS3)
        have BX3 := bt HB2.out hb3
        obtain ⟨⟨-, b1, -⟩, -⟩ := HB.out w3 BX3
        have Hb3 := hide BX3
        clear c0 c1 d0 d1 e0 e1 g0 g1 g2 g3 HBg HRc hS3 hb3 F2 BX3
        obtain ⟨⟨d0, d1⟩, -, -⟩ := b1
        go_wp2_with fail
        refine HR3.out.mono ?_
        rintro e w4 ⟨r, i, C, n, S, R, hv4, G4, rfl, ⟨hok, hib⟩, hS4, hG4, hT4, how4, tx', ty', tc, tf, ok, hnx, hcase⟩
        have BX4 : Below X.heap.size X w4 := HB2.out.trans (hS4.bel.mono HB2.out.size)
        obtain ⟨⟨-, b1, -⟩, r4, hBw, -⟩ := HB.out w4 BX4
        have hsm := hok.small
        cases r
        · have hbi : bud < iw * ih := by
            rcases hcase with ⟨q, -⟩ | ⟨-, rfl, -, q⟩
            · cases q
            · have := HMo.out _ _ _ _ _ _ _ _ _ hok hnx; have := HN.out.1; have := HN.out.2.1; omega
          clear d0 d1 HR3 hok hS4 hG4 hT4 how4 hnx hcase hib BX4 b1
          obtain ⟨Y, hY, hc, TY⟩ := res_put r4 3 (.slice none 0 0)
          obtain ⟨⟨y0, y1⟩, y2, y3⟩ := res_cells r4
          obtain ⟨z0, z1⟩ := hc
          have HY := hide hY
          have HE : Hid (FindEnd W H tl f c s fx fy tx ty ix iy iw ih bud w (.returned (.tuple #[.agg #[.int .i64 3, (.slice none 0 0)], .int .i64 0])) Y) := hide ⟨3, (.slice none 0 0), 0, rfl, hBw.trans (TY.below (fun j e => by omega) hBw.size), .inr ⟨Hv12.out, .inl ⟨rfl, rfl, rfl, hbi⟩⟩⟩
          clear r4 hBw TY hY
          go_wp2_with (rw [HY.out])
          refine bodyPost_ret (v := .tuple #[.agg #[.int .i64 3, (.slice none 0 0)], .int .i64 0]) (by simp [results, Tryz.f9, go_sem, z0, z1]) rfl ?_
          exact HE.out
        · have hst : ok = false ∨ Stp ix iy iw fx fy C tf := by
            rcases hcase with ⟨-, q⟩ | ⟨q, -⟩
            · exact q
            · cases q
          obtain ⟨hN, hN', hJi, hJN, hA2, -⟩ := HN.out
          have hCl : C.length = N := by rw [hok.len, hN']
          obtain ⟨g, cap, hcv, hgl⟩ := hS4.ct.form (by omega)
          obtain ⟨m, hm⟩ : ∃ m, C[J]? = some m := ⟨_, List.getElem?_eq_getElem (by omega)⟩
          have hmb := hok.tb m (List.mem_of_getElem? hm)
          have hto := HTo.out _ _ _ _ _ _ _ _ _ _ _ hok hnx hst (by rw [hJi]; exact hm)
          have htb : ∀ m ∈ C, -1 ≤ m ∧ m ≤ 229376 := fun m q => by have := hok.tb m q; omega
          have HS : (fun wx : World => wx.cell? ⟨k, 8, none⟩ = some (.slice (some ⟨g, 0, none⟩) C.length cap) ∧ wx.cell? ⟨w.heap.size + 1, 0, none⟩ = some (.int .i64 fx) ∧ wx.cell? ⟨w.heap.size + 1, 1, none⟩ = some (.int .i64 fy) ∧ wx.cell? ⟨g, J, none⟩ = some (.int .i64 m)) w4.drew := ⟨by rw [← hcv]; exact hS4.sr.cl 8, b1.1.1, b1.1.2, by have := hS4.ct; rw [hcv] at this; exact (Cts.got this hm).1⟩
          have HK5 : Hid (∀ wx, Below w4.heap.size w4 wx → (fun wx : World => wx.cell? ⟨k, 8, none⟩ = some (.slice (some ⟨g, 0, none⟩) C.length cap) ∧ wx.cell? ⟨w.heap.size + 1, 0, none⟩ = some (.int .i64 fx) ∧ wx.cell? ⟨w.heap.size + 1, 1, none⟩ = some (.int .i64 fy) ∧ wx.cell? ⟨g, J, none⟩ = some (.int .i64 m)) wx ∧ Sch w2 wx k p c s ix iy iw ih gv cv b (.func (.func 32) #[] #[ptr (w.heap.size + 1)]) G4 C hv4 n R ∧ Below X.heap.size X wx) := hide fun wx q => by
            have e1 := hS4.upto q
            have e2 := b1.kept q
            refine ⟨⟨by rw [← hcv]; exact e1.sr.cl 8, e2.1.1, e2.1.2, by have := e1.ct; rw [hcv] at this; exact (Cts.got this hm).1⟩, e1, bt BX4 q⟩
          have HI5 := hide (fun wx (q : Below w4.heap.size w4 wx) => HIx.out wx k gv cv b (hS4.sr.upto q))
          have hJli : (0 : Int) ≤ (J : Nat) ∧ ((J : Nat) : Int) < (C.length : Nat) := by omega
          have Hto := hide hto
          have Hmb := hide (And.intro hmb (And.intro hsm (And.intro hA2 (And.intro htb (And.intro hCl hN')))))
          have Hg := hide hG4
          clear d0 d1 HR3 hok hS4 hT4 how4 hnx hcase hib BX4 hst hN hN' hJi hJN hA2 hCl hcv hgl hm hmb hto HTo HIx htb hG4 r4 hBw hsm
          obtain ⟨⟨d0, d1⟩, -, -⟩ := b1
          go_wp2_with fail
          refine wp_only ?_
          refine wp_region_z (fun wx : World => wx.cell? ⟨k, 8, none⟩ = some (.slice (some ⟨g, 0, none⟩) C.length cap) ∧ wx.cell? ⟨w.heap.size + 1, 0, none⟩ = some (.int .i64 fx) ∧ wx.cell? ⟨w.heap.size + 1, 1, none⟩ = some (.int .i64 fy) ∧ wx.cell? ⟨g, J, none⟩ = some (.int .i64 m)) [] (by kernel_rfl) ?_
          refine anyZ_take 0 8 (v := ptr k) rfl (by kernel_rfl) (fun _ _ _ h => h.elim) (Or.inl ⟨by rfl, fun wx hx => by obtain ⟨q0, q1, q2, q3⟩ := hx; clear HS; go_simp⟩) HS ?_
          try simp only [Act.put, List.getElem_toArray, List.getElem_cons_zero, List.getElem_cons_succ, List.setIfInBounds_toArray, List.set_cons_zero, List.set_cons_succ]
          refine anyZ_take 1 8 (v := ptr k) rfl (by kernel_rfl) (fun _ _ _ h => h.elim) (Or.inl ⟨by rfl, fun wx hx => by obtain ⟨q0, q1, q2, q3⟩ := hx; clear HS; go_simp⟩) HS ?_
          try simp only [Act.put, List.getElem_toArray, List.getElem_cons_zero, List.getElem_cons_succ, List.setIfInBounds_toArray, List.set_cons_zero, List.set_cons_succ]
          refine anyZ_take 2 8 (v := .pointer (some ⟨k, 8, none⟩)) rfl (by kernel_rfl) (fun _ _ _ h => h.elim) (Or.inl ⟨by rfl, fun wx hx => by obtain ⟨q0, q1, q2, q3⟩ := hx; clear HS; go_simp⟩) HS ?_
          try simp only [Act.put, List.getElem_toArray, List.getElem_cons_zero, List.getElem_cons_succ, List.setIfInBounds_toArray, List.set_cons_zero, List.set_cons_succ]
          refine anyZ_take 3 8 (v := .slice (some ⟨g, 0, none⟩) C.length cap) rfl (by kernel_rfl) (fun _ _ _ h => h.elim) (Or.inl ⟨by rfl, fun wx hx => by obtain ⟨q0, q1, q2, q3⟩ := hx; clear HS; go_simp⟩) HS ?_
          try simp only [Act.put, List.getElem_toArray, List.getElem_cons_zero, List.getElem_cons_succ, List.setIfInBounds_toArray, List.set_cons_zero, List.set_cons_succ]
          refine anyZ_take 4 8 (v := ptr k) rfl (by kernel_rfl) (fun _ _ _ h => h.elim) (Or.inl ⟨by rfl, fun wx hx => by obtain ⟨q0, q1, q2, q3⟩ := hx; clear HS; go_simp⟩) HS ?_
          try simp only [Act.put, List.getElem_toArray, List.getElem_cons_zero, List.getElem_cons_succ, List.setIfInBounds_toArray, List.set_cons_zero, List.set_cons_succ]
          refine anyZ_take 5 8 (v := cel fx fy) rfl (by kernel_rfl) (fun _ _ _ h => h.elim) (Or.inl ⟨by rfl, fun wx hx => by obtain ⟨q0, q1, q2, q3⟩ := hx; clear HS; go_simp⟩) HS ?_
          try simp only [Act.put, List.getElem_toArray, List.getElem_cons_zero, List.getElem_cons_succ, List.setIfInBounds_toArray, List.set_cons_zero, List.set_cons_succ]
          refine anyZ_ready (rs := [6]) (by kernel_rfl) (by simp) ?_
          refine readyZ.call rfl rfl (run_call16 (by rfl) (by rfl) (by simp only [List.map_toArray, List.map_cons, List.map_nil]; rfl)) (HI5.out _ (Below.refl _ _).drew) ?_ readyZ.nil
          rintro e w5 ⟨rfl, hb5⟩
          have hb5' : Below w4.heap.size w4 w5 := (Below.refl _ w4).drew.trans hb5
          have HS' := (HK5.out _ hb5').1
          refine ⟨_, rfl, fun _ => HS', ?_⟩
          clear HS
          have HS := HS'
          clear HS'
          try simp only [Act.put, List.getElem_toArray, List.getElem_cons_zero, List.getElem_cons_succ, List.setIfInBounds_toArray, List.set_cons_zero, List.set_cons_succ]
          refine anyZ_take 7 8 (v := .pointer (some ⟨g, J, none⟩)) rfl (by kernel_rfl) (fun _ _ _ h => h.elim) (Or.inl ⟨by rfl, fun wx hx => by obtain ⟨q0, q1, q2, q3⟩ := hx; clear HS; go_simp⟩) HS ?_
          try simp only [Act.put, List.getElem_toArray, List.getElem_cons_zero, List.getElem_cons_succ, List.setIfInBounds_toArray, List.set_cons_zero, List.set_cons_succ]
          refine anyZ_take 8 8 (v := .int .i64 m) rfl (by kernel_rfl) (fun _ _ _ h => h.elim) (Or.inl ⟨by rfl, fun wx hx => by obtain ⟨q0, q1, q2, q3⟩ := hx; clear HS; go_simp⟩) HS ?_
          try simp only [Act.put, List.getElem_toArray, List.getElem_cons_zero, List.getElem_cons_succ, List.setIfInBounds_toArray, List.set_cons_zero, List.set_cons_succ]
          refine anyZ_take 9 8 (v := .int .i64 m) rfl (by kernel_rfl) (fun _ _ _ h => h.elim) (Or.inl ⟨by rfl, fun wx hx => by obtain ⟨q0, q1, q2, q3⟩ := hx; clear HS; go_simp⟩) HS ?_
          try simp only [Act.put, List.getElem_toArray, List.getElem_cons_zero, List.getElem_cons_succ, List.setIfInBounds_toArray, List.set_cons_zero, List.set_cons_succ]
          refine anyZ_done (by kernel_rfl) ?_ _
          dsimp only [Only, Exit.then]
          obtain ⟨-, hS5, BX5⟩ := HK5.out _ hb5'
          obtain ⟨⟨-, b1, -⟩, r4, hBw, -⟩ := HB.out w5 BX5
          clear HS hb5 hb5' HI5 HK5 d0 d1 hJli
          by_cases hm1 : m = -1
          · have hno : ∀ k, ¬ Wk (stepR W H tl f c s ix iy iw ih) (tx, ty) (fx, fy) k := by
              rcases Hto.out with ⟨-, q⟩ | ⟨q, -⟩
              · exact q
              · omega
            subst hm1
            clear hS5 BX5 b1 Hto Hmb HWy
            obtain ⟨Y, hY, hc, TY⟩ := res_put r4 2 (.slice none 0 0)
            obtain ⟨⟨y0, y1⟩, y2, y3⟩ := res_cells r4
            obtain ⟨z0, z1⟩ := hc
            have HY := hide hY
            have HE : Hid (FindEnd W H tl f c s fx fy tx ty ix iy iw ih bud w (.returned (.tuple #[.agg #[.int .i64 2, (.slice none 0 0)], .int .i64 0])) Y) := hide ⟨2, (.slice none 0 0), 0, rfl, hBw.trans (TY.below (fun j e => by omega) hBw.size), .inr ⟨Hv12.out, .inr (.inl ⟨rfl, rfl, rfl, hno⟩)⟩⟩
            clear r4 hBw TY hY
            go_wp2_with (rw [HY.out])
            refine bodyPost_ret (v := .tuple #[.agg #[.int .i64 2, (.slice none 0 0)], .int .i64 0]) (by simp [results, Tryz.f9, go_sem, z0, z1]) rfl ?_
            exact HE.out
          · obtain ⟨hmb, hsm, hA2, htb, hCl, hN'⟩ := Hmb.out
            have hcm : ih * iw = iw * ih := Int.mul_comm _ _
            have HW := hide (HWy.out w5 k gv cv b hv4 G4 C n R m hS5 Hg.out (by omega) (fun q hq => by have := htb q hq; omega) (by omega))
            have Hl : Hid ((0 ≤ m ∧ m ≤ 229376) ∧ Least (stepR W H tl f c s ix iy iw ih) (tx, ty) (fx, fy) m.toNat ∧ ∃ Hq, Sk (stepR W H tl f c s ix iy iw ih) (tx, ty) (tab ix iy iw ih C) Hq ∧ ∀ q g, (q, g) ∈ Hq → m.toNat < g + (ocN q.1 q.2 fx fy).toNat) := hide (by
              rcases Hto.out with ⟨q, -⟩ | ⟨q1, q2, q3⟩
              · exact absurd q hm1
              · exact ⟨by omega, q2, q3⟩)
            have Hcl := hide (And.intro hCl (And.intro hN' htb))
            obtain ⟨⟨d0, d1⟩, -, -⟩ := b1
            have HB5 := hide BX5
            clear hS5 BX5 Hto Hmb HWy hmb hsm hA2 htb hCl hN' r4 hBw hcm
            go_wp2_with fail
            refine HW.out.mono ?_
            rintro e w6 ⟨v, P, rfl, hwy, ⟨hcn, hown⟩, ⟨G6, hS6, -⟩, -⟩
            obtain ⟨va, vn, vc, rfl⟩ := hcn.slice
            have BX6 : Below X.heap.size X w6 := HB2.out.trans (hS6.bel.mono HB2.out.size)
            obtain ⟨-, r4, hBw, -⟩ := HB.out w6 BX6
            have hz5 := HB5.out.size
            clear hS6 BX6 d0 d1 HW
            obtain ⟨Y, hY, hc, TY⟩ := res_put r4 1 (.slice va vn vc)
            obtain ⟨⟨y0, y1⟩, y2, y3⟩ := res_cells r4
            obtain ⟨z0, z1⟩ := hc
            have HY := hide hY
            have HE : Hid (FindEnd W H tl f c s fx fy tx ty ix iy iw ih bud w (.returned (.tuple #[.agg #[.int .i64 1, (.slice va vn vc)], .int .i64 m])) Y) := hide ⟨1, (.slice va vn vc), m, rfl, hBw.trans (TY.below (fun j e => by omega) hBw.size), .inr ⟨Hv12.out, .inr (.inr ⟨rfl, Hl.out.1, Hl.out.2.1, C, P, ⟨by have := Hcl.out.1; have := Hcl.out.2.1; omega, Hcl.out.2.2⟩, Hl.out.2.2, hwy, hcn.turned TY (fun j e q => by have := hown j e; omega), fun j e => by have := hown j e; omega⟩)⟩⟩
            clear r4 hBw TY hY
            go_wp2_with (rw [HY.out])
            refine bodyPost_ret (v := .tuple #[.agg #[.int .i64 1, (.slice va vn vc)], .int .i64 m]) (by simp [results, Tryz.f9, go_sem, z0, z1]) rfl ?_
            exact HE.out
end Go.Proofs.YtggaobcdogbjhaaGreatDoor
