/-
  slices.Repeat of one number. begin: a search from a cell.
-/
import Derived.Test.YthiafmlgialbnaaGreatDoorSm
import Derived.Laws.MathBits
import Derived.Laws.CopyRow
import Derived.Deep.OwnRows
import Derived.Test.YthiafmlgialbnaaGreatDoorNr
namespace Go.Proofs.YthiafmlgialbnaaGreatDoor
open Go.RowKit Go.Shelf
set_option linter.unusedVariables false
set_option linter.unusedSimpArgs false
attribute [local go_sem] Oper.semAt_some
set_option maxRecDepth 100000 in
set_option maxHeartbeats 2000000 in
theorem mul64_one (n : Int) (hn : 0 ≤ n ∧ n ≤ 16384) (w : World) : Calls Tryz.prog 194 #[.int .u64 1, .int .u64 n] w fun e w' => e = .returned (.tuple #[.int .u64 0, .int .u64 n]) ∧ w' = w := by
  have h1 : bits .and .u64 1 4294967295 = 1 := by rw [and_low32 1 (by omega) (by omega)]; omega
  have h2 : bits .and .u64 n 4294967295 = n := by rw [and_low32 n (by omega) (by omega)]; omega
  have h0 : bits .and .u64 0 4294967295 = 0 := by rw [and_low32 0 (by omega) (by omega)]; omega
  have hd : n / 4294967296 = 0 := by omega
  have hw : IntKind.u64.wrap n = n := by rw [IntKind.wrap_u64]; omega
  have hw0 : IntKind.u64.wrap 0 = 0 := by decide
  go_enter Tryz.func194, Tryz.ntmps194
  go_wp2_with (first | rw [h1] | rw [h2] | rw [h0] | rw [hd] | fail)
  refine bodyPost_ret (v := .tuple #[.int .u64 0, .int .u64 n]) ?_ rfl ⟨rfl, rfl⟩
  simp [results, Tryz.f194, go_sem, h1, h2, h0, hd, hw, hw0]
set_option maxRecDepth 100000 in
set_option maxHeartbeats 2000000 in
theorem mul_one (n : Int) (hn : 0 ≤ n ∧ n ≤ 16384) (w : World) : Calls Tryz.prog 162 #[.int .u64 1, .int .u64 n] w fun e w' => e = .returned (.tuple #[.int .u64 0, .int .u64 n]) ∧ w' = w := by
  have H := hide (mul64_one n hn w)
  go_enter Tryz.func162, Tryz.ntmps162
  go_wp2_with fail
  refine H.out.mono ?_
  rintro e w' ⟨rfl, rfl⟩
  go_wp2_with fail
  refine bodyPost_ret (v := .tuple #[.int .u64 0, .int .u64 n]) ?_ rfl ⟨rfl, rfl⟩
  simp [results, Tryz.f162, go_sem]
theorem made_list (z : Value) (n : Nat) : madeCells #[z] n = Array.replicate n z := by
  simp only [madeCells]
  refine Array.ext (by simp) (fun i h1 h2 => ?_)
  simp [Nat.mod_one]
theorem info3n : (Tryz.prog.info? 3).map (fun i => (i.zero, i.size, i.bytes)) = some (some (.int .i64 0), 1, 8) := by kernel_rfl
theorem make_nums (n : Nat) (hn : n ≤ 16384) (w : World) : (Instr.makeSlice 149 (.int .i64 (n : Nat)) (.int .i64 (n : Nat))).run Tryz.prog w = .ok (.slice (some ⟨w.heap.size, 0, none⟩) n n) (w.alloc (.cells (Array.replicate n (.int .i64 0)) 3)) := by
  have := run_make_row' (P := Tryz.prog) 149 3 (.int .i64 0) 8 Tryz.underlying149 info3n rfl .i64 .i64 n (by omega) (by omega) w
  rw [made_list] at this
  exact this
/-- So many numbers z, then 0. -/
def repL (z : Int) (n i : Nat) : List Value := List.replicate i (.int .i64 z) ++ List.replicate (n - i) (.int .i64 0)
theorem run_copyZ {P : Program} {ev : Operand → Value} {o : Oper} {w w' : World} {s x : Operand} {t : TypeId} {v xv v' : Value} (ho : o.op = .call { callee := .builtin .copy, args := #[s, x], argTypes := #[t, t] })
    (hs : ev s = v) (hx : ev x = xv) (hr : (Builtin.copy_ #[t, t] o.type #[v, xv]).run P w = .ok v' w') : (execOp ev o).run P w = .ok (.value v') w' := by
  simp [execOp, ho, resolve, invoke, builtin, hs, hx, hr, Result.andThen]
theorem one_rep {z : Int} {i : Nat} : ∀ v ∈ List.replicate i (Value.int .i64 z), v.oneCell' = true := fun v hv => by
  rw [List.eq_of_mem_replicate hv]; rfl
theorem rep_copy (w : World) (B : Nat) (z : Int) (n i m : Nat) (a : Addr) (c1 c2 sl : Nat) (ty : TypeId) (hg : w.heap[B]? = some (.cells (repL z n i).toArray 3)) (hm : m = Nat.min sl (n - i)) (hi : i ≤ n) (hsrc : ∀ j, j < m → w.cell? (a.add j) = some (.int .i64 z)) :
    ∃ w', (Builtin.copy_ #[149, 149] ty #[.slice (some ⟨B, i, none⟩) (n - i) c1, .slice (some a) sl c2]).run Tryz.prog w = .ok (.int .i64 (m : Nat)) w' ∧ w'.heap[B]? = some (.cells (repL z n (i + m)).toArray 3) ∧ ∀ N w0, Below N w0 w → N ≤ B → Below N w0 w' := by
  have hmn : m ≤ n - i := by rw [hm]; exact Nat.min_le_right _ _
  have := run_copy_row (P := Tryz.prog) w 149 149 ty 3 B i (n - i) c1 a sl c2 (repL z n i).toArray 3 (List.replicate m (.int .i64 z)) Tryz.underlying149 (by kernel_rfl) hg (by simp [hm]) (fun j v hv => by
    obtain ⟨h1, h2⟩ := List.getElem?_eq_some_iff.1 hv
    simp at h1 h2
    rw [← h2]
    exact hsrc j h1) (by simp [repL]; omega) one_rep
  refine ⟨_, this.trans (by rw [List.length_replicate]; rfl), ?_, fun N w0 hb hN => ?_⟩
  · have e1 : (List.replicate i (Value.int .i64 z) ++ List.replicate (n - i) (Value.int .i64 0)).take i = List.replicate i (Value.int .i64 z) := by
      rw [List.take_append_of_le_length (by simp)]; simp
    have e2 : (List.replicate i (Value.int .i64 z) ++ List.replicate (n - i) (Value.int .i64 0)).drop (i + m) = List.replicate (n - (i + m)) (Value.int .i64 0) := by
      rw [List.drop_append]; simp; omega
    have e3 : List.take i (repL z n i).toArray.toList ++ List.replicate m (Value.int .i64 z) ++ List.drop (i + m) (repL z n i).toArray.toList = repL z n (i + m) := by
      show List.take i (repL z n i) ++ _ ++ List.drop (i + m) (repL z n i) = _
      unfold repL
      rw [e1, e2, List.replicate_append_replicate]
    rw [e3]
    exact setRow_heap w B _ _ 3 _ hg
  · exact hb.trans ⟨rfl, rfl, rfl, by simp [World.setRow], fun k hk => setRow_other w B k _ (by omega)⟩
set_option maxRecDepth 100000 in
set_option maxHeartbeats 2000000 in
theorem repeat_is (g : Nat) (z : Int) (n : Nat) (hn : 0 < n ∧ n ≤ 16384) (w : World) (hc : w.cell? ⟨g, 0, none⟩ = some (.int .i64 z)) (hg : g < w.heap.size) :
    Calls Tryz.prog 127 #[.slice (some ⟨g, 0, none⟩) 1 1, .int .i64 (n : Nat)] w fun e w' => e = .returned (.slice (some ⟨w.heap.size, 0, none⟩) n n) ∧ w'.heap[w.heap.size]? = some (.cells (repL z n n).toArray 3) ∧ Below w.heap.size w w' := by
  have hmk := make_nums n hn.2
  have HM := hide (mul_one (n : Nat) (by omega) w)
  have B0 : Below w.heap.size w (w.alloc (.cells (Array.replicate n (.int .i64 0)) 3)) := box1 _ _
  have R0 : (w.alloc (.cells (Array.replicate n (Value.int .i64 0)) 3)).heap[w.heap.size]? = some (.cells (repL z n 0).toArray 3) := by
    rw [heap_alloc_new]; simp [repL]
  obtain ⟨W1, r1, R1, K1⟩ := rep_copy (w.alloc (.cells (Array.replicate n (.int .i64 0)) 3)) w.heap.size z n 0 1 ⟨g, 0, none⟩ n 1 1 3 R0 (by show 1 = min 1 n; omega) (by omega) (fun j hj => by
    obtain rfl : j = 0 := by omega
    rw [Addr.add_lit]
    exact cell_later B0 hc)
  have B1 := K1 _ _ B0 (Nat.le_refl _)
  have HR1 := hide (show (Builtin.copy_ #[149, 149] 3 #[.slice (some ⟨w.heap.size, 0, none⟩) n n, .slice (some ⟨g, 0, none⟩) 1 1]).run Tryz.prog (w.alloc (.cells (Array.replicate n (.int .i64 0)) 3)) = .ok (.int .i64 (1 : Nat)) W1 from r1)
  have HS := hide (And.intro R1 B1)
  clear r1 R0 K1 B0 R1 B1
  go_enter Tryz.func127, Tryz.ntmps127
  go_wp2_with fail
  refine HM.out.mono ?_
  rintro e w' ⟨rfl, rfl⟩
  have hnp : ¬ ((n : Nat) : Int) < 0 := by omega
  go_wp2_with (rw [HR1.out])
  obtain ⟨B, hB⟩ : ∃ B, w'.heap.size = B := ⟨_, rfl⟩
  rw [hB] at HS ⊢
  have HB := hide hB
  clear hmk hB HR1 HM hc hg
  go_loopw [8] (fun v wr => ∃ i : Nat, v = .int .i64 (i : Nat) ∧ (1 ≤ i ∧ i ≤ n) ∧ wr.heap[B]? = some (.cells (repL z n i).toArray 3) ∧ Below B w' wr) (fun v _ => n - (intOf v).toNat)
  case atStart => exact ⟨1, rfl, by omega, HS.out.1, HS.out.2⟩
  case round =>
    clear HS
    obtain ⟨i, rfl, ⟨hi1, hi2⟩, hR, hb⟩ := hrel
    by_cases hlt : i < n
    · obtain ⟨m, hm⟩ : ∃ m, Nat.min i (n - i) = m := ⟨_, rfl⟩
      have hmm : m = min i (n - i) := hm.symm
      obtain ⟨W2, r2, R2, K2⟩ := rep_copy wr.drew B z n i m ⟨B, 0, none⟩ (n - i) n i 3 hR hm.symm hi2 (fun j hj => by
        rw [Addr.add_lit, Nat.zero_add]
        have hj2 : j < i := by omega
        have hR' : wr.drew.heap[B]? = some (.cells (repL z n i).toArray 3) := hR
        rw [cell_of_row _ B j _ _ _ hR']
        simp [repL, List.getElem?_append, hj2])
      have HA := hide r2
      have HE := hide (And.intro R2 (K2 _ _ hb.drew (Nat.le_refl _)))
      have hil : ((i : Nat) : Int) < (n : Nat) := by omega
      have hile : ((i : Nat) : Int) ≤ (n : Nat) := by omega
      have hwr : IntKind.i64.wrap (((i : Nat) : Int) + ((m : Nat) : Int)) = ((i : Nat) : Int) + ((m : Nat) : Int) := IntWalk.i64_in _ (by omega)
      have hne : ¬ n = i := by omega
      have Hm := hide hmm
      clear hR hb r2 R2 K2 hm hmm
      go_wp2_with fail
      refine wp_only ?_
      refine wp_region_z (fun _ => True) [] (by kernel_rfl) ?_
      refine anyZ_take 0 8 (v := .int .i64 (i : Nat)) rfl (by kernel_rfl) (fun _ _ _ h => h.elim) (Or.inl ⟨by rfl, fun wx hx => by go_simp⟩) trivial ?_
      try simp only [Act.put, List.getElem_toArray, List.getElem_cons_zero, List.getElem_cons_succ, List.setIfInBounds_toArray, List.set_cons_zero, List.set_cons_succ]
      refine anyZ_take 1 8 (v := .slice (some ⟨B, 0, none⟩) n n) rfl (by kernel_rfl) (fun _ _ _ h => h.elim) (Or.inl ⟨by rfl, fun wx hx => by go_simp⟩) trivial ?_
      try simp only [Act.put, List.getElem_toArray, List.getElem_cons_zero, List.getElem_cons_succ, List.setIfInBounds_toArray, List.set_cons_zero, List.set_cons_succ]
      refine anyZ_take 2 8 (v := .int .i64 (i : Nat)) rfl (by kernel_rfl) (fun _ _ _ h => h.elim) (Or.inl ⟨by rfl, fun wx hx => by go_simp⟩) trivial ?_
      try simp only [Act.put, List.getElem_toArray, List.getElem_cons_zero, List.getElem_cons_succ, List.setIfInBounds_toArray, List.set_cons_zero, List.set_cons_succ]
      refine anyZ_take 3 8 (v := .slice (some ⟨B, i, none⟩) (n - i) (n - i)) rfl (by kernel_rfl) (fun _ _ _ h => h.elim) (Or.inl ⟨by rfl, fun wx hx => by go_simp⟩) trivial ?_
      try simp only [Act.put, List.getElem_toArray, List.getElem_cons_zero, List.getElem_cons_succ, List.setIfInBounds_toArray, List.set_cons_zero, List.set_cons_succ]
      refine anyZ_take 4 8 (v := .slice (some ⟨B, 0, none⟩) n n) rfl (by kernel_rfl) (fun _ _ _ h => h.elim) (Or.inl ⟨by rfl, fun wx hx => by go_simp⟩) trivial ?_
      try simp only [Act.put, List.getElem_toArray, List.getElem_cons_zero, List.getElem_cons_succ, List.setIfInBounds_toArray, List.set_cons_zero, List.set_cons_succ]
      refine anyZ_take 5 8 (v := .int .i64 (i : Nat)) rfl (by kernel_rfl) (fun _ _ _ h => h.elim) (Or.inl ⟨by rfl, fun wx hx => by go_simp⟩) trivial ?_
      try simp only [Act.put, List.getElem_toArray, List.getElem_cons_zero, List.getElem_cons_succ, List.setIfInBounds_toArray, List.set_cons_zero, List.set_cons_succ]
      refine anyZ_take 6 8 (v := .slice (some ⟨B, 0, none⟩) i n) rfl (by kernel_rfl) (fun _ _ _ h => h.elim) (Or.inl ⟨by rfl, fun wx hx => by go_simp⟩) trivial ?_
      try simp only [Act.put, List.getElem_toArray, List.getElem_cons_zero, List.getElem_cons_succ, List.setIfInBounds_toArray, List.set_cons_zero, List.set_cons_succ]
      refine anyZ_ready (rs := [7]) (by kernel_rfl) (by simp) ?_
      refine readyZ.cons rfl rfl (run_copyZ (by rfl) (by rfl) (by rfl) HA.out) (fun _ => trivial) ?_ readyZ.nil
      try simp only [Act.put, List.getElem_toArray, List.getElem_cons_zero, List.getElem_cons_succ, List.setIfInBounds_toArray, List.set_cons_zero, List.set_cons_succ]
      refine anyZ_take 8 8 (v := .int .i64 (((i : Nat) : Int) + ((m : Nat) : Int))) rfl (by kernel_rfl) (fun _ _ _ h => h.elim) (Or.inl ⟨by rfl, fun wx hx => by go_simp⟩) trivial ?_
      try simp only [Act.put, List.getElem_toArray, List.getElem_cons_zero, List.getElem_cons_succ, List.setIfInBounds_toArray, List.set_cons_zero, List.set_cons_succ]
      refine anyZ_take 9 8 (v := .int .i64 (((i : Nat) : Int) + ((m : Nat) : Int))) rfl (by kernel_rfl) (fun _ _ _ h => h.elim) (Or.inl ⟨by rfl, fun wx hx => by go_simp⟩) trivial ?_
      try simp only [Act.put, List.getElem_toArray, List.getElem_cons_zero, List.getElem_cons_succ, List.setIfInBounds_toArray, List.set_cons_zero, List.set_cons_succ]
      refine anyZ_done (by kernel_rfl) ?_ _
      dsimp only [Only, Exit.then]
      go_wp2_with fail
      go_roundw
      case rel => exact ⟨i + m, by push_cast; rfl, by have := Hm.out; omega, HE.out.1, HE.out.2⟩
      case measure => have := Hm.out; simp [intOf]; omega
    · obtain rfl : i = n := by omega
      have hki : ¬ ((i : Nat) : Int) < (i : Nat) := by omega
      have HE := hide (And.intro hR hb)
      clear hR hb
      go_wp2_with fail
      go_ret
      rw [HB.out]
      exact ⟨rfl, HE.out⟩
end Go.Proofs.YthiafmlgialbnaaGreatDoor
namespace Go.Proofs.YthiafmlgialbnaaGreatDoor
open Go.RowKit Go.Shelf
set_option linter.unusedVariables false
set_option linter.unusedSimpArgs false
attribute [local go_sem] Oper.semAt_some
theorem mk22 (n : Nat) (hn : n ≤ 16384) (w : World) : ∃ w', (Instr.makeSlice 22 (.int .i64 (n : Nat)) (.int .i64 (n : Nat))).run Tryz.prog w = .ok (.slice (some ⟨w.heap.size, 0, none⟩) n n) w' ∧ w'.heap[w.heap.size]? = some (.cells (Array.replicate n (.int .u8 0)) 5) ∧ Below w.heap.size w w' := by
  have := run_make_row' (P := Tryz.prog) 22 5 (.int .u8 0) 1 Tryz.underlying22 info5 rfl .i64 .i64 n (by omega) (by omega) w
  rw [made_list] at this
  exact ⟨_, this, heap_alloc_new _ _, box1 _ _⟩
theorem run_makeZ {P : Program} {ev : Operand → Value} {o : Oper} {w w' : World} {t : TypeId} {x y : Operand} {n : Nat} {v : Value} (ho : o.op = .makeSlice t x y) (hx : ev x = .int .i64 (n : Nat)) (hy : ev y = .int .i64 (n : Nat)) (hr : (Instr.makeSlice t (.int .i64 (n : Nat)) (.int .i64 (n : Nat))).run P w = .ok v w') : (execOp ev o).run P w = .ok (.value v) w' := by
  simp [execOp, ho, hx, hy, hr, Result.andThen]
theorem run_oneZ {ev : Operand → Value} {o : Oper} {w : World} (ho : o.op = .buildSlice 149 1 #[(0, .const (.int .i64 (-1)))]) (hx : ev (.const (.int .i64 (-1))) = .int .i64 (-1)) : (execOp ev o).run Tryz.prog w = .ok (.value (.slice (some ⟨w.heap.size, 0, none⟩) 1 1)) (w.alloc (.cells #[.int .i64 (-1)] 3)) := by
  unfold execOp
  rw [ho]
  go_simp
theorem run_box62 {ev : Operand → Value} {o : Oper} {w : World} {x : Operand} {p b : Nat} {c s ix iy iw ih : Int} {ga ca : Option Addr} {gl gc cl cc : Nat} {F : Fn} {fr : Array Value} {bd : Array Value} (ho : o.op = .box 190 x) (hx : ev x = .agg #[ptr p, .int .i64 c, .int .i64 s, .int .i64 ix, .int .i64 iy, .int .i64 iw, .int .i64 ih, .slice ga gl gc, .slice ca cl cc, ptr b, .func F fr bd]) :
    (execOp ev o).run Tryz.prog w = .ok (.value (ptr w.heap.size)) (w.alloc (.cells #[ptr p, .int .i64 c, .int .i64 s, .int .i64 ix, .int .i64 iy, .int .i64 iw, .int .i64 ih, .slice ga gl gc, .slice ca cl cc, ptr b, .func F fr bd] 190)) := by
  unfold execOp
  rw [ho]
  simp only [hx]
  go_simp
theorem run_call29 {ev : Operand → Value} {o : Oper} {w : World} {ar : Array Operand} {ts : Array TypeId} {vs : Array Value} (hop : o.op = .call { callee := .value (.func 127), args := ar, argTypes := ts }) (hf : ev (.func 127) = .func (.func 127) #[] #[]) (hvs : ar.map ev = vs) : (execOp ev o).run Tryz.prog w = .ok (.enter 127 vs) w := by
  unfold execOp
  simp only [hop, resolve, hf, hvs]
  go_simp
theorem run_call30 {ev : Operand → Value} {o : Oper} {w : World} {ar : Array Operand} {ts : Array TypeId} {vs : Array Value} (hop : o.op = .call { callee := .value (.func 163), args := ar, argTypes := ts }) (hf : ev (.func 163) = .func (.func 163) #[] #[]) (hvs : ar.map ev = vs) : (execOp ev o).run Tryz.prog w = .ok (.enter 163 vs) w := by
  unfold execOp
  simp only [hop, resolve, hf, hvs]
  go_simp
theorem repL_all (z : Int) (n : Nat) : repL z n n = (List.replicate n z).map (fun n => Value.int .i64 n) := by simp [repL, List.map_replicate]
/-- A search that was just made. -/
theorem sch_new {w0 w : World} {k p b gb cb N : Nat} {c s ix iy iw ih : Int} {lf : Value} (hb : Below w0.heap.size w0 w) (hN : N ≤ 16384) (h1 : Sr w k p c s ix iy iw ih (.slice (some ⟨gb, 0, none⟩) N N) (.slice (some ⟨cb, 0, none⟩) N N) b lf)
    (h2 : w.heap[gb]? = some (.cells (Array.replicate N (.int .u8 0)) 5)) (h3 : w.heap[cb]? = some (.cells (repL (-1) N N).toArray 3)) (h4 : w.heap[b]? = some (.cells #[fn31, .slice none 0 0, .int .i64 0, .bool false] 247))
    (hk : w0.heap.size ≤ k ∧ w0.heap.size ≤ b ∧ w0.heap.size ≤ gb ∧ w0.heap.size ≤ cb) :
    Sch w0 w k p c s ix iy iw ih (.slice (some ⟨gb, 0, none⟩) N N) (.slice (some ⟨cb, 0, none⟩) N N) b lf (List.replicate N 0) (List.replicate N (-1)) (.slice none 0 0) 0 [] where
  bel := hb
  sr := h1
  gr := ⟨by simp, .inr ⟨gb, N, _, by simp, Nat.zero_le _, h2, by simp, by unfold maxLen; omega, by simp, by simp [List.map_replicate]⟩⟩
  ct := ⟨by simp, .inr ⟨cb, N, _, by simp, Nat.zero_le _, h3, by simp, by unfold maxLen; omega, by simp [repL], by rw [repL_all]; simp⟩⟩
  hs := ⟨[], h4, ⟨rfl, .inl ⟨rfl, rfl⟩⟩, fun i _ h => by simp at h, List.Perm.refl _⟩
  kn := hk.1
  bn := hk.2.1
  gn := fun j e => by simp [Value.ownBlock] at e; omega
  cn := fun j e => by simp [Value.ownBlock] at e; omega
  hn := fun j e => by simp [Value.ownBlock] at e
/-- How begin ends. -/
def BeginEnd (w0 : World) (p : Nat) (c s ix iy iw ih : Int) (lf : Value) (N : Nat) (L : Int → Int → Int) (x y : Int) (w : World) (e : Ending) (w' : World) : Prop :=
  ∃ k gv cv b hv, e = .returned (ptr k) ∧ Sch w0 w' k p c s ix iy iw ih gv cv b lf (List.replicate N 0) ((List.replicate N (-1)).set (ij ix iy iw x y) 0) hv 1 [⟨x, y, 0, L x y, 0⟩] ∧ Below w.heap.size w w'
set_option maxRecDepth 100000 in
set_option maxHeartbeats 4000000 in
theorem begin_is (w0 : World) (p : Nat) (c s ix iy iw ih : Int) (F : Fn) (fr : Array Value) (bd : Array Value) (N : Nat) (L : Int → Int → Int) (x y : Int) (w : World)
    (h0 : Below w0.heap.size w0 w) (hlf : Lfo w0 (.func F fr bd) L) (hN : iw * ih = (N : Nat)) (hN2 : N ≤ 16384)
    (hx : 0 ≤ x - ix ∧ x - ix < iw) (hy : 0 ≤ y - iy ∧ y - iy < ih) (hi : 0 ≤ ix ∧ 0 ≤ iy ∧ ix + iw ≤ 1048576 ∧ iy + ih ≤ 1048576) (hL : 0 ≤ L x y ∧ L x y ≤ 1099511627776) :
    Calls Tryz.prog 128 #[ptr p, cel c s, cel x y, rct ix iy iw ih, (.func F fr bd)] w (BeginEnd w0 p c s ix iy iw ih (.func F fr bd) N L x y w) := by
  obtain ⟨X, hX⟩ : ∃ X, ((w.alloc (.cells #[.int .i64 c, .int .i64 s] 27)).alloc (.cells #[.int .i64 x, .int .i64 y] 47)).alloc (.cells #[.int .i64 ix, .int .i64 iy, .int .i64 iw, .int .i64 ih] 49) = X := ⟨_, rfl⟩
  have B0 : Below w.heap.size w X := hX ▸ bt (box2 _ _ _) (box1 _ _)
  have F0 : Two X w.heap.size c s := by rw [← hX]; exact ((Two.newAt rfl).alloc).alloc
  have F1 : Two X (w.heap.size + 1) x y := by rw [← hX]; exact (Two.newAt (by simp)).alloc
  have F2 : Four X (w.heap.size + 2) ix iy iw ih := by rw [← hX]; exact Four.newAt _ _ _ _ _ (by simp)
  have zX : X.heap.size = w.heap.size + 3 := by rw [← hX]; simp
  have h0w := h0.size
  have HK : Hid (∀ wx, Below X.heap.size X wx → (fun wx : World => (wx.cell? ⟨w.heap.size, 0, none⟩ = some (.int .i64 c) ∧ wx.cell? ⟨w.heap.size, 1, none⟩ = some (.int .i64 s)) ∧ wx.cell? ⟨w.heap.size + 2, 0, none⟩ = some (.int .i64 ix) ∧ wx.cell? ⟨w.heap.size + 2, 1, none⟩ = some (.int .i64 iy) ∧ wx.cell? ⟨w.heap.size + 2, 2, none⟩ = some (.int .i64 iw) ∧ wx.cell? ⟨w.heap.size + 2, 3, none⟩ = some (.int .i64 ih)) wx) := hide fun wx q => by
    have e0 := F0.kept q
    have e2 := F2.kept q
    exact ⟨⟨e0.1.1, e0.1.2⟩, e2.1.1, e2.1.2.1, e2.1.2.2.1, e2.1.2.2.2⟩
  have HF1 : Hid (∀ wx, Below X.heap.size X wx → Two wx (w.heap.size + 1) x y ∧ Below w.heap.size w wx ∧ Below w0.heap.size w0 wx) := hide fun wx q => ⟨F1.kept q, bt B0 q, h0.trans ((bt B0 q).mono h0w)⟩
  have hI := idx_in (c := 0) (d := 0) hy.1 hy.2 hx.1 hx.2
  have hij : ij ix iy iw x y < N := by unfold ij; have : ih * iw = iw * ih := Int.mul_comm _ _; omega
  have hN0 : 0 < N := by omega
  have Hend : Hid (∀ wx k gb cb b, Below X.heap.size X wx → Sr wx k p c s ix iy iw ih (.slice (some ⟨gb, 0, none⟩) N N) (.slice (some ⟨cb, 0, none⟩) N N) b (.func F fr bd) → wx.heap[gb]? = some (.cells (Array.replicate N (.int .u8 0)) 5) → wx.heap[cb]? = some (.cells (repL (-1) N N).toArray 3) → wx.heap[b]? = some (.cells #[fn31, .slice none 0 0, .int .i64 0, .bool false] 247) →
      (w.heap.size ≤ k ∧ w.heap.size ≤ b ∧ w.heap.size ≤ gb ∧ w.heap.size ≤ cb) → Calls Tryz.prog 165 #[ptr k, cel x y, .int .i64 0] wx fun e w' => e = .returned (.tuple #[]) ∧ BeginEnd w0 p c s ix iy iw ih (.func F fr bd) N L x y w (.returned (ptr k)) w') := hide fun wx k gb cb b q s1 s2 s3 s4 s5 => by
    have hS := sch_new (HF1.out wx q).2.2 hN2 s1 s2 s3 s4 (by omega)
    refine (meet_is w0 k p c s ix iy iw ih _ _ b _ _ _ _ 0 [] L x y 0 (-1) wx hS hlf (by rw [List.getElem?_replicate, if_pos hij]) hx hy hi (by omega) (by omega) (by simp)).mono ?_
    rintro e w' ⟨rfl, C', hv', n', S', a1, a2, a3, a4⟩
    refine ⟨rfl, k, .slice (some ⟨gb, 0, none⟩) N N, .slice (some ⟨cb, 0, none⟩) N N, b, hv', rfl, ?_, ?_⟩
    · rcases a2 with ⟨⟨a, -⟩, -⟩ | ⟨-, rfl, rfl, rfl⟩
      · exact absurd rfl a
      · rw [show (0 : Int) + L x y = L x y by omega, show (0 : Int) + 1 = 1 by omega] at a1
        exact a1
    · refine (HF1.out wx q).2.1.trans (a3.below (fun j e => ?_) (HF1.out wx q).2.1.size)
      rcases e with e | e | e | e
      · simp [Value.ownBlock] at e; omega
      · simp [Value.ownBlock] at e; omega
      · omega
      · simp [Value.ownBlock] at e
  have hmul : IntKind.i64.wrap (iw * ih) = (N : Nat) := by rw [hN]; exact IntWalk.i64_in _ (by omega)
  have HMk := hide (mk22 N hN2)
  have HRp : Hid (∀ wx ob, wx.cell? ⟨ob, 0, none⟩ = some (.int .i64 (-1)) → ob < wx.heap.size → Calls Tryz.prog 127 #[.slice (some ⟨ob, 0, none⟩) 1 1, .int .i64 (N : Nat)] wx fun e w' => e = .returned (.slice (some ⟨wx.heap.size, 0, none⟩) N N) ∧ w'.heap[wx.heap.size]? = some (.cells (repL (-1) N N).toArray 3) ∧ Below wx.heap.size wx w') := hide fun wx ob q1 q2 => repeat_is ob (-1) N ⟨hN0, hN2⟩ wx q1 q2
  have HX := hide hX
  have HS : (fun wx : World => (wx.cell? ⟨w.heap.size, 0, none⟩ = some (.int .i64 c) ∧ wx.cell? ⟨w.heap.size, 1, none⟩ = some (.int .i64 s)) ∧ wx.cell? ⟨w.heap.size + 2, 0, none⟩ = some (.int .i64 ix) ∧ wx.cell? ⟨w.heap.size + 2, 1, none⟩ = some (.int .i64 iy) ∧ wx.cell? ⟨w.heap.size + 2, 2, none⟩ = some (.int .i64 iw) ∧ wx.cell? ⟨w.heap.size + 2, 3, none⟩ = some (.int .i64 ih)) X.drew := HK.out _ (Below.refl _ _).drew
  have Hz := hide zX
  clear hX B0 F0 F1 F2 zX h0 h0w hlf hN hN2 hx hy hi hL hI hij hN0
  go_enter Tryz.func128, Tryz.ntmps128
  go_wp2_with (rw [HX.out])
  refine wp_only ?_
  refine wp_region_z (fun wx : World => (wx.cell? ⟨w.heap.size, 0, none⟩ = some (.int .i64 c) ∧ wx.cell? ⟨w.heap.size, 1, none⟩ = some (.int .i64 s)) ∧ wx.cell? ⟨w.heap.size + 2, 0, none⟩ = some (.int .i64 ix) ∧ wx.cell? ⟨w.heap.size + 2, 1, none⟩ = some (.int .i64 iy) ∧ wx.cell? ⟨w.heap.size + 2, 2, none⟩ = some (.int .i64 iw) ∧ wx.cell? ⟨w.heap.size + 2, 3, none⟩ = some (.int .i64 ih)) [] (by kernel_rfl) ?_
  refine anyZ_take 0 8 (v := ptr p) rfl (by kernel_rfl) (fun _ _ _ h => h.elim) (Or.inl ⟨by rfl, fun wx hx => by obtain ⟨⟨q0, q1⟩, q2, q3, q4, q5⟩ := hx; clear HS; go_simp⟩) HS ?_
  try simp only [Act.put, List.getElem_toArray, List.getElem_cons_zero, List.getElem_cons_succ, List.setIfInBounds_toArray, List.set_cons_zero, List.set_cons_succ]
  refine anyZ_take 1 8 (v := cel c s) rfl (by kernel_rfl) (fun _ _ _ h => h.elim) (Or.inl ⟨by rfl, fun wx hx => by obtain ⟨⟨q0, q1⟩, q2, q3, q4, q5⟩ := hx; clear HS; go_simp⟩) HS ?_
  try simp only [Act.put, List.getElem_toArray, List.getElem_cons_zero, List.getElem_cons_succ, List.setIfInBounds_toArray, List.set_cons_zero, List.set_cons_succ]
  refine anyZ_take 2 8 (v := rct ix iy iw ih) rfl (by kernel_rfl) (fun _ _ _ h => h.elim) (Or.inl ⟨by rfl, fun wx hx => by obtain ⟨⟨q0, q1⟩, q2, q3, q4, q5⟩ := hx; clear HS; go_simp⟩) HS ?_
  try simp only [Act.put, List.getElem_toArray, List.getElem_cons_zero, List.getElem_cons_succ, List.setIfInBounds_toArray, List.set_cons_zero, List.set_cons_succ]
  refine anyZ_take 3 8 (v := .pointer (some ⟨w.heap.size + 2, 2, none⟩)) rfl (by kernel_rfl) (fun _ _ _ h => h.elim) (Or.inl ⟨by rfl, fun wx hx => by obtain ⟨⟨q0, q1⟩, q2, q3, q4, q5⟩ := hx; clear HS; go_simp⟩) HS ?_
  try simp only [Act.put, List.getElem_toArray, List.getElem_cons_zero, List.getElem_cons_succ, List.setIfInBounds_toArray, List.set_cons_zero, List.set_cons_succ]
  refine anyZ_take 4 8 (v := .int .i64 iw) rfl (by kernel_rfl) (fun _ _ _ h => h.elim) (Or.inl ⟨by rfl, fun wx hx => by obtain ⟨⟨q0, q1⟩, q2, q3, q4, q5⟩ := hx; clear HS; go_simp⟩) HS ?_
  try simp only [Act.put, List.getElem_toArray, List.getElem_cons_zero, List.getElem_cons_succ, List.setIfInBounds_toArray, List.set_cons_zero, List.set_cons_succ]
  refine anyZ_take 5 8 (v := .pointer (some ⟨w.heap.size + 2, 3, none⟩)) rfl (by kernel_rfl) (fun _ _ _ h => h.elim) (Or.inl ⟨by rfl, fun wx hx => by obtain ⟨⟨q0, q1⟩, q2, q3, q4, q5⟩ := hx; clear HS; go_simp⟩) HS ?_
  try simp only [Act.put, List.getElem_toArray, List.getElem_cons_zero, List.getElem_cons_succ, List.setIfInBounds_toArray, List.set_cons_zero, List.set_cons_succ]
  refine anyZ_take 6 8 (v := .int .i64 ih) rfl (by kernel_rfl) (fun _ _ _ h => h.elim) (Or.inl ⟨by rfl, fun wx hx => by obtain ⟨⟨q0, q1⟩, q2, q3, q4, q5⟩ := hx; clear HS; go_simp⟩) HS ?_
  try simp only [Act.put, List.getElem_toArray, List.getElem_cons_zero, List.getElem_cons_succ, List.setIfInBounds_toArray, List.set_cons_zero, List.set_cons_succ]
  refine anyZ_take 7 8 (v := .int .i64 (N : Nat)) rfl (by kernel_rfl) (fun _ _ _ h => h.elim) (Or.inl ⟨by rfl, fun wx hx => by obtain ⟨⟨q0, q1⟩, q2, q3, q4, q5⟩ := hx; clear HS; go_simp⟩) HS ?_
  try simp only [Act.put, List.getElem_toArray, List.getElem_cons_zero, List.getElem_cons_succ, List.setIfInBounds_toArray, List.set_cons_zero, List.set_cons_succ]
  refine anyZ_take 10 8 (v := .pointer (some ⟨w.heap.size + 2, 2, none⟩)) rfl (by kernel_rfl) (fun _ _ _ h => h.elim) (Or.inl ⟨by rfl, fun wx hx => by obtain ⟨⟨q0, q1⟩, q2, q3, q4, q5⟩ := hx; clear HS; go_simp⟩) HS ?_
  try simp only [Act.put, List.getElem_toArray, List.getElem_cons_zero, List.getElem_cons_succ, List.setIfInBounds_toArray, List.set_cons_zero, List.set_cons_succ]
  refine anyZ_take 11 8 (v := .int .i64 iw) rfl (by kernel_rfl) (fun _ _ _ h => h.elim) (Or.inl ⟨by rfl, fun wx hx => by obtain ⟨⟨q0, q1⟩, q2, q3, q4, q5⟩ := hx; clear HS; go_simp⟩) HS ?_
  try simp only [Act.put, List.getElem_toArray, List.getElem_cons_zero, List.getElem_cons_succ, List.setIfInBounds_toArray, List.set_cons_zero, List.set_cons_succ]
  refine anyZ_take 12 8 (v := .pointer (some ⟨w.heap.size + 2, 3, none⟩)) rfl (by kernel_rfl) (fun _ _ _ h => h.elim) (Or.inl ⟨by rfl, fun wx hx => by obtain ⟨⟨q0, q1⟩, q2, q3, q4, q5⟩ := hx; clear HS; go_simp⟩) HS ?_
  try simp only [Act.put, List.getElem_toArray, List.getElem_cons_zero, List.getElem_cons_succ, List.setIfInBounds_toArray, List.set_cons_zero, List.set_cons_succ]
  refine anyZ_take 13 8 (v := .int .i64 ih) rfl (by kernel_rfl) (fun _ _ _ h => h.elim) (Or.inl ⟨by rfl, fun wx hx => by obtain ⟨⟨q0, q1⟩, q2, q3, q4, q5⟩ := hx; clear HS; go_simp⟩) HS ?_
  try simp only [Act.put, List.getElem_toArray, List.getElem_cons_zero, List.getElem_cons_succ, List.setIfInBounds_toArray, List.set_cons_zero, List.set_cons_succ]
  refine anyZ_take 14 8 (v := .int .i64 (N : Nat)) rfl (by kernel_rfl) (fun _ _ _ h => h.elim) (Or.inl ⟨by rfl, fun wx hx => by obtain ⟨⟨q0, q1⟩, q2, q3, q4, q5⟩ := hx; clear HS; go_simp⟩) HS ?_
  try simp only [Act.put, List.getElem_toArray, List.getElem_cons_zero, List.getElem_cons_succ, List.setIfInBounds_toArray, List.set_cons_zero, List.set_cons_succ]
  refine anyZ_take 17 8 (v := (.func F fr bd)) rfl (by kernel_rfl) (fun _ _ _ h => h.elim) (Or.inl ⟨by rfl, fun wx hx => by obtain ⟨⟨q0, q1⟩, q2, q3, q4, q5⟩ := hx; clear HS; go_simp⟩) HS ?_
  try simp only [Act.put, List.getElem_toArray, List.getElem_cons_zero, List.getElem_cons_succ, List.setIfInBounds_toArray, List.set_cons_zero, List.set_cons_succ]
  have W0b : Below X.heap.size X X.drew := (Below.refl _ _).drew
  obtain ⟨W0, hW0⟩ : ∃ W0, X.drew = W0 := ⟨_, rfl⟩
  rw [hW0] at W0b ⊢
  clear hW0 HS
  refine anyZ_ready (rs := [8, 9]) (by kernel_rfl) (by simp) ?_
  obtain ⟨W1, r8, f8, b8⟩ := HMk.out W0
  have W1b : Below X.heap.size X W1 := bt W0b b8
  refine readyZ.cons rfl rfl (run_makeZ (by rfl) (by rfl) (by rfl) r8) (fun _ => HK.out _ W1b) ?_ ?_
  · try simp only [Act.put, List.getElem_toArray, List.getElem_cons_zero, List.getElem_cons_succ, List.setIfInBounds_toArray, List.set_cons_zero, List.set_cons_succ]
    have z8 : X.heap.size ≤ W0.heap.size := W0b.size
    obtain ⟨gb, hgb⟩ : ∃ gb, W0.heap.size = gb := ⟨_, rfl⟩
    try rw [hgb]
    rw [hgb] at f8 z8
    refine anyZ_ready (rs := [9]) (by kernel_rfl) (by simp) ?_
    obtain ⟨W2, h9⟩ : ∃ W, W1.alloc (.cells #[.int .i64 (-1)] 3) = W := ⟨_, rfl⟩
    have b9 : Below W1.heap.size W1 W2 := h9 ▸ box1 _ _
    have W2b : Below X.heap.size X W2 := bt W1b b9
    have f9 : W2.heap[W1.heap.size]? = some (.cells #[.int .i64 (-1)] 3) := by rw [← h9]; exact heap_alloc_new _ _
    have r9 := @run_oneZ
    refine readyZ.cons rfl rfl (h9 ▸ run_oneZ (by rfl) (by rfl)) (fun _ => HK.out _ W2b) ?_ readyZ.nil
    try simp only [Act.put, List.getElem_toArray, List.getElem_cons_zero, List.getElem_cons_succ, List.setIfInBounds_toArray, List.set_cons_zero, List.set_cons_succ]
    clear h9 r9
    obtain ⟨ob, hob⟩ : ∃ ob, W1.heap.size = ob := ⟨_, rfl⟩
    try rw [hob]
    rw [hob] at f9
    have f8 := (b9.block _ (Array.getElem?_eq_some_iff.1 f8).1).trans f8
    refine anyZ_ready (rs := [15]) (by kernel_rfl) (by simp) ?_
    refine readyZ.call rfl rfl (run_call29 (by rfl) (by rfl) (by simp only [List.map_toArray, List.map_cons, List.map_nil]; rfl)) (HRp.out W2 ob (by rw [cell_of_row _ ob 0 _ _ _ f9]; rfl) (Array.getElem?_eq_some_iff.1 f9).1) ?_ readyZ.nil
    rintro e W3 ⟨rfl, f15, b15⟩
    have W3b : Below X.heap.size X W3 := bt W2b b15
    refine ⟨_, rfl, fun _ => HK.out _ W3b, ?_⟩
    try simp only [Act.put, List.getElem_toArray, List.getElem_cons_zero, List.getElem_cons_succ, List.setIfInBounds_toArray, List.set_cons_zero, List.set_cons_succ]
    have z15 : X.heap.size ≤ W2.heap.size := W2b.size
    obtain ⟨cb, hcb⟩ : ∃ cb, W2.heap.size = cb := ⟨_, rfl⟩
    try rw [hcb]
    rw [hcb] at f15 z15
    have f8 := (b15.block _ (Array.getElem?_eq_some_iff.1 f8).1).trans f8
    have f9 := (b15.block _ (Array.getElem?_eq_some_iff.1 f9).1).trans f9
    refine anyZ_ready (rs := [16]) (by kernel_rfl) (by simp) ?_
    refine readyZ.call rfl rfl (run_call30 (by rfl) (by rfl) (by simp only [List.map_toArray, List.map_cons, List.map_nil]; rfl)) (hnew_any W3) ?_ readyZ.nil
    rintro e W4 ⟨rfl, h16⟩
    have b16 : Below W3.heap.size W3 W4 := h16 ▸ box1 _ _
    have f16 : W4.heap[W3.heap.size]? = some (.cells #[fn31, .slice none 0 0, .int .i64 0, .bool false] 247) := by rw [h16]; exact heap_alloc_new _ _
    have W4b : Below X.heap.size X W4 := bt W3b b16
    refine ⟨_, rfl, fun _ => HK.out _ W4b, ?_⟩
    try simp only [Act.put, List.getElem_toArray, List.getElem_cons_zero, List.getElem_cons_succ, List.setIfInBounds_toArray, List.set_cons_zero, List.set_cons_succ]
    have z16 : X.heap.size ≤ W3.heap.size := W3b.size
    clear h16
    obtain ⟨hb, hhb⟩ : ∃ hb, W3.heap.size = hb := ⟨_, rfl⟩
    try rw [hhb]
    rw [hhb] at f16 z16
    have f8 := (b16.block _ (Array.getElem?_eq_some_iff.1 f8).1).trans f8
    have f9 := (b16.block _ (Array.getElem?_eq_some_iff.1 f9).1).trans f9
    have f15 := (b16.block _ (Array.getElem?_eq_some_iff.1 f15).1).trans f15
    refine anyZ_take 18 8 (v := .agg #[ptr p, .int .i64 c, .int .i64 s, .int .i64 ix, .int .i64 iy, .int .i64 iw, .int .i64 ih, .slice (some ⟨gb, 0, none⟩) N N, .slice (some ⟨cb, 0, none⟩) N N, ptr hb, (.func F fr bd)]) rfl (by kernel_rfl) (fun _ _ _ h => h.elim) (Or.inl ⟨by rfl, fun wx hx => by go_simp⟩) (HK.out _ W4b) ?_
    try simp only [Act.put, List.getElem_toArray, List.getElem_cons_zero, List.getElem_cons_succ, List.setIfInBounds_toArray, List.set_cons_zero, List.set_cons_succ]
    obtain ⟨Wk, hWk⟩ : ∃ W, W4.alloc (.cells #[ptr p, .int .i64 c, .int .i64 s, .int .i64 ix, .int .i64 iy, .int .i64 iw, .int .i64 ih, .slice (some ⟨gb, 0, none⟩) N N, .slice (some ⟨cb, 0, none⟩) N N, ptr hb, (.func F fr bd)] 190) = W := ⟨_, rfl⟩
    have bk : Below W4.heap.size W4 Wk := hWk ▸ box1 _ _
    have Wkb : Below X.heap.size X Wk := bt W4b bk
    refine anyZ_ready (rs := [19]) (by kernel_rfl) (by simp) ?_
    refine readyZ.cons rfl rfl (hWk ▸ run_box62 (by rfl) (by rfl)) (fun _ => HK.out _ Wkb) ?_ readyZ.nil
    try simp only [Act.put, List.getElem_toArray, List.getElem_cons_zero, List.getElem_cons_succ, List.setIfInBounds_toArray, List.set_cons_zero, List.set_cons_succ]
    have zk := W4b.size
    have hz := Hz.out
    have HE := hide (Hend.out Wk W4.heap.size gb cb hb Wkb (by rw [← hWk]; exact heap_alloc_new _ _) ((bk.block _ (Array.getElem?_eq_some_iff.1 f8).1).trans f8) ((bk.block _ (Array.getElem?_eq_some_iff.1 f15).1).trans f15) ((bk.block _ (Array.getElem?_eq_some_iff.1 f16).1).trans f16) (by omega))
    have c1 := (HF1.out Wk Wkb).1
    obtain ⟨⟨y0, y1⟩, -, -⟩ := c1
    generalize W4.heap.size = kk at HE ⊢
    refine anyZ_take 20 8 (v := ptr kk) rfl (by kernel_rfl) (fun _ _ _ h => h.elim) (Or.inl ⟨by rfl, fun wx hx => by go_simp⟩) (HK.out _ Wkb) ?_
    try simp only [Act.put, List.getElem_toArray, List.getElem_cons_zero, List.getElem_cons_succ, List.setIfInBounds_toArray, List.set_cons_zero, List.set_cons_succ]
    refine anyZ_done (by kernel_rfl) ?_ _
    dsimp only [Only, Exit.then]
    clear f8 f15 f16 bk hWk zk hz HK HF1 Hend HMk HRp
    go_wp2_with fail
    refine HE.out.mono ?_
    rintro e w' ⟨rfl, hfin⟩
    have Hfin := hide hfin
    clear hfin
    go_wp2_with fail
    go_ret
    exact Hfin.out
  obtain ⟨W1, h9⟩ : ∃ W, W0.alloc (.cells #[.int .i64 (-1)] 3) = W := ⟨_, rfl⟩
  have b9 : Below W0.heap.size W0 W1 := h9 ▸ box1 _ _
  have W1b : Below X.heap.size X W1 := bt W0b b9
  have f9 : W1.heap[W0.heap.size]? = some (.cells #[.int .i64 (-1)] 3) := by rw [← h9]; exact heap_alloc_new _ _
  have r9 := @run_oneZ
  refine readyZ.cons rfl rfl (h9 ▸ run_oneZ (by rfl) (by rfl)) (fun _ => HK.out _ W1b) ?_ readyZ.nil
  try simp only [Act.put, List.getElem_toArray, List.getElem_cons_zero, List.getElem_cons_succ, List.setIfInBounds_toArray, List.set_cons_zero, List.set_cons_succ]
  clear h9 r9
  obtain ⟨ob, hob⟩ : ∃ ob, W0.heap.size = ob := ⟨_, rfl⟩
  try rw [hob]
  rw [hob] at f9
  refine anyZ_ready (rs := [8, 15]) (by kernel_rfl) (by simp) ?_
  obtain ⟨W2, r8, f8, b8⟩ := HMk.out W1
  have W2b : Below X.heap.size X W2 := bt W1b b8
  refine readyZ.cons rfl rfl (run_makeZ (by rfl) (by rfl) (by rfl) r8) (fun _ => HK.out _ W2b) ?_ ?_
  · try simp only [Act.put, List.getElem_toArray, List.getElem_cons_zero, List.getElem_cons_succ, List.setIfInBounds_toArray, List.set_cons_zero, List.set_cons_succ]
    have z8 : X.heap.size ≤ W1.heap.size := W1b.size
    obtain ⟨gb, hgb⟩ : ∃ gb, W1.heap.size = gb := ⟨_, rfl⟩
    try rw [hgb]
    rw [hgb] at f8 z8
    have f9 := (b8.block _ (Array.getElem?_eq_some_iff.1 f9).1).trans f9
    refine anyZ_ready (rs := [15]) (by kernel_rfl) (by simp) ?_
    refine readyZ.call rfl rfl (run_call29 (by rfl) (by rfl) (by simp only [List.map_toArray, List.map_cons, List.map_nil]; rfl)) (HRp.out W2 ob (by rw [cell_of_row _ ob 0 _ _ _ f9]; rfl) (Array.getElem?_eq_some_iff.1 f9).1) ?_ readyZ.nil
    rintro e W3 ⟨rfl, f15, b15⟩
    have W3b : Below X.heap.size X W3 := bt W2b b15
    refine ⟨_, rfl, fun _ => HK.out _ W3b, ?_⟩
    try simp only [Act.put, List.getElem_toArray, List.getElem_cons_zero, List.getElem_cons_succ, List.setIfInBounds_toArray, List.set_cons_zero, List.set_cons_succ]
    have z15 : X.heap.size ≤ W2.heap.size := W2b.size
    obtain ⟨cb, hcb⟩ : ∃ cb, W2.heap.size = cb := ⟨_, rfl⟩
    try rw [hcb]
    rw [hcb] at f15 z15
    have f9 := (b15.block _ (Array.getElem?_eq_some_iff.1 f9).1).trans f9
    have f8 := (b15.block _ (Array.getElem?_eq_some_iff.1 f8).1).trans f8
    refine anyZ_ready (rs := [16]) (by kernel_rfl) (by simp) ?_
    refine readyZ.call rfl rfl (run_call30 (by rfl) (by rfl) (by simp only [List.map_toArray, List.map_cons, List.map_nil]; rfl)) (hnew_any W3) ?_ readyZ.nil
    rintro e W4 ⟨rfl, h16⟩
    have b16 : Below W3.heap.size W3 W4 := h16 ▸ box1 _ _
    have f16 : W4.heap[W3.heap.size]? = some (.cells #[fn31, .slice none 0 0, .int .i64 0, .bool false] 247) := by rw [h16]; exact heap_alloc_new _ _
    have W4b : Below X.heap.size X W4 := bt W3b b16
    refine ⟨_, rfl, fun _ => HK.out _ W4b, ?_⟩
    try simp only [Act.put, List.getElem_toArray, List.getElem_cons_zero, List.getElem_cons_succ, List.setIfInBounds_toArray, List.set_cons_zero, List.set_cons_succ]
    have z16 : X.heap.size ≤ W3.heap.size := W3b.size
    clear h16
    obtain ⟨hb, hhb⟩ : ∃ hb, W3.heap.size = hb := ⟨_, rfl⟩
    try rw [hhb]
    rw [hhb] at f16 z16
    have f9 := (b16.block _ (Array.getElem?_eq_some_iff.1 f9).1).trans f9
    have f8 := (b16.block _ (Array.getElem?_eq_some_iff.1 f8).1).trans f8
    have f15 := (b16.block _ (Array.getElem?_eq_some_iff.1 f15).1).trans f15
    refine anyZ_take 18 8 (v := .agg #[ptr p, .int .i64 c, .int .i64 s, .int .i64 ix, .int .i64 iy, .int .i64 iw, .int .i64 ih, .slice (some ⟨gb, 0, none⟩) N N, .slice (some ⟨cb, 0, none⟩) N N, ptr hb, (.func F fr bd)]) rfl (by kernel_rfl) (fun _ _ _ h => h.elim) (Or.inl ⟨by rfl, fun wx hx => by go_simp⟩) (HK.out _ W4b) ?_
    try simp only [Act.put, List.getElem_toArray, List.getElem_cons_zero, List.getElem_cons_succ, List.setIfInBounds_toArray, List.set_cons_zero, List.set_cons_succ]
    obtain ⟨Wk, hWk⟩ : ∃ W, W4.alloc (.cells #[ptr p, .int .i64 c, .int .i64 s, .int .i64 ix, .int .i64 iy, .int .i64 iw, .int .i64 ih, .slice (some ⟨gb, 0, none⟩) N N, .slice (some ⟨cb, 0, none⟩) N N, ptr hb, (.func F fr bd)] 190) = W := ⟨_, rfl⟩
    have bk : Below W4.heap.size W4 Wk := hWk ▸ box1 _ _
    have Wkb : Below X.heap.size X Wk := bt W4b bk
    refine anyZ_ready (rs := [19]) (by kernel_rfl) (by simp) ?_
    refine readyZ.cons rfl rfl (hWk ▸ run_box62 (by rfl) (by rfl)) (fun _ => HK.out _ Wkb) ?_ readyZ.nil
    try simp only [Act.put, List.getElem_toArray, List.getElem_cons_zero, List.getElem_cons_succ, List.setIfInBounds_toArray, List.set_cons_zero, List.set_cons_succ]
    have zk := W4b.size
    have hz := Hz.out
    have HE := hide (Hend.out Wk W4.heap.size gb cb hb Wkb (by rw [← hWk]; exact heap_alloc_new _ _) ((bk.block _ (Array.getElem?_eq_some_iff.1 f8).1).trans f8) ((bk.block _ (Array.getElem?_eq_some_iff.1 f15).1).trans f15) ((bk.block _ (Array.getElem?_eq_some_iff.1 f16).1).trans f16) (by omega))
    have c1 := (HF1.out Wk Wkb).1
    obtain ⟨⟨y0, y1⟩, -, -⟩ := c1
    generalize W4.heap.size = kk at HE ⊢
    refine anyZ_take 20 8 (v := ptr kk) rfl (by kernel_rfl) (fun _ _ _ h => h.elim) (Or.inl ⟨by rfl, fun wx hx => by go_simp⟩) (HK.out _ Wkb) ?_
    try simp only [Act.put, List.getElem_toArray, List.getElem_cons_zero, List.getElem_cons_succ, List.setIfInBounds_toArray, List.set_cons_zero, List.set_cons_succ]
    refine anyZ_done (by kernel_rfl) ?_ _
    dsimp only [Only, Exit.then]
    clear f8 f15 f16 bk hWk zk hz HK HF1 Hend HMk HRp
    go_wp2_with fail
    refine HE.out.mono ?_
    rintro e w' ⟨rfl, hfin⟩
    have Hfin := hide hfin
    clear hfin
    go_wp2_with fail
    go_ret
    exact Hfin.out
  refine readyZ.call rfl rfl (run_call29 (by rfl) (by rfl) (by simp only [List.map_toArray, List.map_cons, List.map_nil]; rfl)) (HRp.out W1 ob (by rw [cell_of_row _ ob 0 _ _ _ f9]; rfl) (Array.getElem?_eq_some_iff.1 f9).1) ?_ readyZ.nil
  rintro e W2 ⟨rfl, f15, b15⟩
  have W2b : Below X.heap.size X W2 := bt W1b b15
  refine ⟨_, rfl, fun _ => HK.out _ W2b, ?_⟩
  try simp only [Act.put, List.getElem_toArray, List.getElem_cons_zero, List.getElem_cons_succ, List.setIfInBounds_toArray, List.set_cons_zero, List.set_cons_succ]
  have z15 : X.heap.size ≤ W1.heap.size := W1b.size
  obtain ⟨cb, hcb⟩ : ∃ cb, W1.heap.size = cb := ⟨_, rfl⟩
  try rw [hcb]
  rw [hcb] at f15 z15
  have f9 := (b15.block _ (Array.getElem?_eq_some_iff.1 f9).1).trans f9
  refine anyZ_ready (rs := [8, 16]) (by kernel_rfl) (by simp) ?_
  obtain ⟨W3, r8, f8, b8⟩ := HMk.out W2
  have W3b : Below X.heap.size X W3 := bt W2b b8
  refine readyZ.cons rfl rfl (run_makeZ (by rfl) (by rfl) (by rfl) r8) (fun _ => HK.out _ W3b) ?_ ?_
  · try simp only [Act.put, List.getElem_toArray, List.getElem_cons_zero, List.getElem_cons_succ, List.setIfInBounds_toArray, List.set_cons_zero, List.set_cons_succ]
    have z8 : X.heap.size ≤ W2.heap.size := W2b.size
    obtain ⟨gb, hgb⟩ : ∃ gb, W2.heap.size = gb := ⟨_, rfl⟩
    try rw [hgb]
    rw [hgb] at f8 z8
    have f9 := (b8.block _ (Array.getElem?_eq_some_iff.1 f9).1).trans f9
    have f15 := (b8.block _ (Array.getElem?_eq_some_iff.1 f15).1).trans f15
    refine anyZ_ready (rs := [16]) (by kernel_rfl) (by simp) ?_
    refine readyZ.call rfl rfl (run_call30 (by rfl) (by rfl) (by simp only [List.map_toArray, List.map_cons, List.map_nil]; rfl)) (hnew_any W3) ?_ readyZ.nil
    rintro e W4 ⟨rfl, h16⟩
    have b16 : Below W3.heap.size W3 W4 := h16 ▸ box1 _ _
    have f16 : W4.heap[W3.heap.size]? = some (.cells #[fn31, .slice none 0 0, .int .i64 0, .bool false] 247) := by rw [h16]; exact heap_alloc_new _ _
    have W4b : Below X.heap.size X W4 := bt W3b b16
    refine ⟨_, rfl, fun _ => HK.out _ W4b, ?_⟩
    try simp only [Act.put, List.getElem_toArray, List.getElem_cons_zero, List.getElem_cons_succ, List.setIfInBounds_toArray, List.set_cons_zero, List.set_cons_succ]
    have z16 : X.heap.size ≤ W3.heap.size := W3b.size
    clear h16
    obtain ⟨hb, hhb⟩ : ∃ hb, W3.heap.size = hb := ⟨_, rfl⟩
    try rw [hhb]
    rw [hhb] at f16 z16
    have f9 := (b16.block _ (Array.getElem?_eq_some_iff.1 f9).1).trans f9
    have f15 := (b16.block _ (Array.getElem?_eq_some_iff.1 f15).1).trans f15
    have f8 := (b16.block _ (Array.getElem?_eq_some_iff.1 f8).1).trans f8
    refine anyZ_take 18 8 (v := .agg #[ptr p, .int .i64 c, .int .i64 s, .int .i64 ix, .int .i64 iy, .int .i64 iw, .int .i64 ih, .slice (some ⟨gb, 0, none⟩) N N, .slice (some ⟨cb, 0, none⟩) N N, ptr hb, (.func F fr bd)]) rfl (by kernel_rfl) (fun _ _ _ h => h.elim) (Or.inl ⟨by rfl, fun wx hx => by go_simp⟩) (HK.out _ W4b) ?_
    try simp only [Act.put, List.getElem_toArray, List.getElem_cons_zero, List.getElem_cons_succ, List.setIfInBounds_toArray, List.set_cons_zero, List.set_cons_succ]
    obtain ⟨Wk, hWk⟩ : ∃ W, W4.alloc (.cells #[ptr p, .int .i64 c, .int .i64 s, .int .i64 ix, .int .i64 iy, .int .i64 iw, .int .i64 ih, .slice (some ⟨gb, 0, none⟩) N N, .slice (some ⟨cb, 0, none⟩) N N, ptr hb, (.func F fr bd)] 190) = W := ⟨_, rfl⟩
    have bk : Below W4.heap.size W4 Wk := hWk ▸ box1 _ _
    have Wkb : Below X.heap.size X Wk := bt W4b bk
    refine anyZ_ready (rs := [19]) (by kernel_rfl) (by simp) ?_
    refine readyZ.cons rfl rfl (hWk ▸ run_box62 (by rfl) (by rfl)) (fun _ => HK.out _ Wkb) ?_ readyZ.nil
    try simp only [Act.put, List.getElem_toArray, List.getElem_cons_zero, List.getElem_cons_succ, List.setIfInBounds_toArray, List.set_cons_zero, List.set_cons_succ]
    have zk := W4b.size
    have hz := Hz.out
    have HE := hide (Hend.out Wk W4.heap.size gb cb hb Wkb (by rw [← hWk]; exact heap_alloc_new _ _) ((bk.block _ (Array.getElem?_eq_some_iff.1 f8).1).trans f8) ((bk.block _ (Array.getElem?_eq_some_iff.1 f15).1).trans f15) ((bk.block _ (Array.getElem?_eq_some_iff.1 f16).1).trans f16) (by omega))
    have c1 := (HF1.out Wk Wkb).1
    obtain ⟨⟨y0, y1⟩, -, -⟩ := c1
    generalize W4.heap.size = kk at HE ⊢
    refine anyZ_take 20 8 (v := ptr kk) rfl (by kernel_rfl) (fun _ _ _ h => h.elim) (Or.inl ⟨by rfl, fun wx hx => by go_simp⟩) (HK.out _ Wkb) ?_
    try simp only [Act.put, List.getElem_toArray, List.getElem_cons_zero, List.getElem_cons_succ, List.setIfInBounds_toArray, List.set_cons_zero, List.set_cons_succ]
    refine anyZ_done (by kernel_rfl) ?_ _
    dsimp only [Only, Exit.then]
    clear f8 f15 f16 bk hWk zk hz HK HF1 Hend HMk HRp
    go_wp2_with fail
    refine HE.out.mono ?_
    rintro e w' ⟨rfl, hfin⟩
    have Hfin := hide hfin
    clear hfin
    go_wp2_with fail
    go_ret
    exact Hfin.out
  refine readyZ.call rfl rfl (run_call30 (by rfl) (by rfl) (by simp only [List.map_toArray, List.map_cons, List.map_nil]; rfl)) (hnew_any W2) ?_ readyZ.nil
  rintro e W3 ⟨rfl, h16⟩
  have b16 : Below W2.heap.size W2 W3 := h16 ▸ box1 _ _
  have f16 : W3.heap[W2.heap.size]? = some (.cells #[fn31, .slice none 0 0, .int .i64 0, .bool false] 247) := by rw [h16]; exact heap_alloc_new _ _
  have W3b : Below X.heap.size X W3 := bt W2b b16
  refine ⟨_, rfl, fun _ => HK.out _ W3b, ?_⟩
  try simp only [Act.put, List.getElem_toArray, List.getElem_cons_zero, List.getElem_cons_succ, List.setIfInBounds_toArray, List.set_cons_zero, List.set_cons_succ]
  have z16 : X.heap.size ≤ W2.heap.size := W2b.size
  clear h16
  obtain ⟨hb, hhb⟩ : ∃ hb, W2.heap.size = hb := ⟨_, rfl⟩
  try rw [hhb]
  rw [hhb] at f16 z16
  have f9 := (b16.block _ (Array.getElem?_eq_some_iff.1 f9).1).trans f9
  have f15 := (b16.block _ (Array.getElem?_eq_some_iff.1 f15).1).trans f15
  refine anyZ_ready (rs := [8]) (by kernel_rfl) (by simp) ?_
  obtain ⟨W4, r8, f8, b8⟩ := HMk.out W3
  have W4b : Below X.heap.size X W4 := bt W3b b8
  refine readyZ.cons rfl rfl (run_makeZ (by rfl) (by rfl) (by rfl) r8) (fun _ => HK.out _ W4b) ?_ readyZ.nil
  try simp only [Act.put, List.getElem_toArray, List.getElem_cons_zero, List.getElem_cons_succ, List.setIfInBounds_toArray, List.set_cons_zero, List.set_cons_succ]
  have z8 : X.heap.size ≤ W3.heap.size := W3b.size
  obtain ⟨gb, hgb⟩ : ∃ gb, W3.heap.size = gb := ⟨_, rfl⟩
  try rw [hgb]
  rw [hgb] at f8 z8
  have f9 := (b8.block _ (Array.getElem?_eq_some_iff.1 f9).1).trans f9
  have f15 := (b8.block _ (Array.getElem?_eq_some_iff.1 f15).1).trans f15
  have f16 := (b8.block _ (Array.getElem?_eq_some_iff.1 f16).1).trans f16
  refine anyZ_take 18 8 (v := .agg #[ptr p, .int .i64 c, .int .i64 s, .int .i64 ix, .int .i64 iy, .int .i64 iw, .int .i64 ih, .slice (some ⟨gb, 0, none⟩) N N, .slice (some ⟨cb, 0, none⟩) N N, ptr hb, (.func F fr bd)]) rfl (by kernel_rfl) (fun _ _ _ h => h.elim) (Or.inl ⟨by rfl, fun wx hx => by go_simp⟩) (HK.out _ W4b) ?_
  try simp only [Act.put, List.getElem_toArray, List.getElem_cons_zero, List.getElem_cons_succ, List.setIfInBounds_toArray, List.set_cons_zero, List.set_cons_succ]
  obtain ⟨Wk, hWk⟩ : ∃ W, W4.alloc (.cells #[ptr p, .int .i64 c, .int .i64 s, .int .i64 ix, .int .i64 iy, .int .i64 iw, .int .i64 ih, .slice (some ⟨gb, 0, none⟩) N N, .slice (some ⟨cb, 0, none⟩) N N, ptr hb, (.func F fr bd)] 190) = W := ⟨_, rfl⟩
  have bk : Below W4.heap.size W4 Wk := hWk ▸ box1 _ _
  have Wkb : Below X.heap.size X Wk := bt W4b bk
  refine anyZ_ready (rs := [19]) (by kernel_rfl) (by simp) ?_
  refine readyZ.cons rfl rfl (hWk ▸ run_box62 (by rfl) (by rfl)) (fun _ => HK.out _ Wkb) ?_ readyZ.nil
  try simp only [Act.put, List.getElem_toArray, List.getElem_cons_zero, List.getElem_cons_succ, List.setIfInBounds_toArray, List.set_cons_zero, List.set_cons_succ]
  have zk := W4b.size
  have hz := Hz.out
  have HE := hide (Hend.out Wk W4.heap.size gb cb hb Wkb (by rw [← hWk]; exact heap_alloc_new _ _) ((bk.block _ (Array.getElem?_eq_some_iff.1 f8).1).trans f8) ((bk.block _ (Array.getElem?_eq_some_iff.1 f15).1).trans f15) ((bk.block _ (Array.getElem?_eq_some_iff.1 f16).1).trans f16) (by omega))
  have c1 := (HF1.out Wk Wkb).1
  obtain ⟨⟨y0, y1⟩, -, -⟩ := c1
  generalize W4.heap.size = kk at HE ⊢
  refine anyZ_take 20 8 (v := ptr kk) rfl (by kernel_rfl) (fun _ _ _ h => h.elim) (Or.inl ⟨by rfl, fun wx hx => by go_simp⟩) (HK.out _ Wkb) ?_
  try simp only [Act.put, List.getElem_toArray, List.getElem_cons_zero, List.getElem_cons_succ, List.setIfInBounds_toArray, List.set_cons_zero, List.set_cons_succ]
  refine anyZ_done (by kernel_rfl) ?_ _
  dsimp only [Only, Exit.then]
  clear f8 f15 f16 bk hWk zk hz HK HF1 Hend HMk HRp
  go_wp2_with fail
  refine HE.out.mono ?_
  rintro e w' ⟨rfl, hfin⟩
  have Hfin := hide hfin
  clear hfin
  go_wp2_with fail
  go_ret
  exact Hfin.out
end Go.Proofs.YthiafmlgialbnaaGreatDoor
