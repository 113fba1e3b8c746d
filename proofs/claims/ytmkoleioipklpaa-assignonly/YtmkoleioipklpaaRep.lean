/-
  slices.Repeat of one number.
-/
import Derived.Test.YtmkoleioipklpaaNum
import Derived.WalkSpells
import Derived.Laws.MathBits
import Derived.Laws.CopyRow
import Derived.Deep.OwnRows
namespace Go.Proofs.Ytmkoleioipklpaa
open Go.RowKit
set_option linter.unusedVariables false
set_option linter.unusedSimpArgs false
attribute [local go_sem] Oper.semAt_some
set_option maxRecDepth 100000 in
set_option maxHeartbeats 2000000 in
theorem mul64_one (n : Int) (hn : 0 ≤ n ∧ n ≤ 16384) (w : World) : Calls Try.prog 52 #[.int .u64 1, .int .u64 n] w fun e w' => e = .returned (.tuple #[.int .u64 0, .int .u64 n]) ∧ w' = w := by
  have h1 : bits .and .u64 1 4294967295 = 1 := by rw [and_low32 1 (by omega) (by omega)]; omega
  have h2 : bits .and .u64 n 4294967295 = n := by rw [and_low32 n (by omega) (by omega)]; omega
  have h0 : bits .and .u64 0 4294967295 = 0 := by rw [and_low32 0 (by omega) (by omega)]; omega
  have hd : n / 4294967296 = 0 := by omega
  have hw : IntKind.u64.wrap n = n := by rw [IntKind.wrap_u64]; omega
  have hw0 : IntKind.u64.wrap 0 = 0 := by decide
  go_enter Try.func52, Try.ntmps52
  go_wp2_with (first | rw [h1] | rw [h2] | rw [h0] | rw [hd] | fail)
  refine bodyPost_ret (v := .tuple #[.int .u64 0, .int .u64 n]) ?_ rfl ⟨rfl, rfl⟩
  simp [results, Try.f52, go_sem, h1, h2, h0, hd, hw, hw0]
set_option maxRecDepth 100000 in
set_option maxHeartbeats 2000000 in
theorem mul_one (n : Int) (hn : 0 ≤ n ∧ n ≤ 16384) (w : World) : Calls Try.prog 34 #[.int .u64 1, .int .u64 n] w fun e w' => e = .returned (.tuple #[.int .u64 0, .int .u64 n]) ∧ w' = w := by
  have H := hide (mul64_one n hn w)
  go_enter Try.func34, Try.ntmps34
  go_wp2_with fail
  refine H.out.mono ?_
  rintro e w' ⟨rfl, rfl⟩
  go_wp2_with fail
  refine bodyPost_ret (v := .tuple #[.int .u64 0, .int .u64 n]) ?_ rfl ⟨rfl, rfl⟩
  simp [results, Try.f34, go_sem]
theorem made_list (z : Value) (n : Nat) : madeCells #[z] n = Array.replicate n z := by
  simp only [madeCells]
  refine Array.ext (by simp) (fun i h1 h2 => ?_)
  simp [Nat.mod_one]
theorem make_nums (n : Nat) (hn : n ≤ 16384) (w : World) : (Instr.makeSlice 24 (.int .i64 (n : Nat)) (.int .i64 (n : Nat))).run Try.prog w = .ok (.slice (some ⟨w.heap.size, 0, none⟩) n n) (w.alloc (.cells (Array.replicate n (.int .i64 0)) 3)) := by
  have := run_make_row' (P := Try.prog) 24 3 (.int .i64 0) 8 Try.underlying24 info3n rfl .i64 .i64 n (by omega) (by omega) w
  rw [made_list] at this
  exact this
/-- So many numbers z, then 0. -/
def repL (z : Int) (n i : Nat) : List Value := List.replicate i (.int .i64 z) ++ List.replicate (n - i) (.int .i64 0)
theorem wpList_copy_run {P : Program} {w : World} {ops : Array Oper} {rest : List Oper} {o : Oper} {a : Act} {Q : Exit → Act → World → Prop}
    (hgd : o.guard = none) (s x : Operand) (t : TypeId) (ho : o.op = .call { callee := .builtin .copy, args := #[s, x], argTypes := #[t, t] })
    (v xv : Value) (hs : a.eval s = v) (hx : a.eval x = xv) {v' : Value} {w' : World} (hr : (Builtin.copy_ #[t, t] o.type #[v, xv]).run P w = .ok v' w') (h : wpList P ops Q rest (a.put o.dst v') w') :
    wpList P ops Q (o :: rest) a w := by
  refine wpList_plain hgd fun K hK => ?_
  unfold Oper.wp
  simp [execOp, ho, resolve, invoke, builtin, hs, hx, hr, Result.andThen]
  exact hK _ _ h
theorem run_copyZ {P : Program} {ev : Operand → Value} {o : Oper} {w w' : World} {s x : Operand} {t : TypeId} {v xv v' : Value} (ho : o.op = .call { callee := .builtin .copy, args := #[s, x], argTypes := #[t, t] })
    (hs : ev s = v) (hx : ev x = xv) (hr : (Builtin.copy_ #[t, t] o.type #[v, xv]).run P w = .ok v' w') : (execOp ev o).run P w = .ok (.value v') w' := by
  simp [execOp, ho, resolve, invoke, builtin, hs, hx, hr, Result.andThen]
theorem one_rep {z : Int} {i : Nat} : ∀ v ∈ List.replicate i (Value.int .i64 z), v.oneCell' = true := fun v hv => by
  rw [List.eq_of_mem_replicate hv]; rfl
theorem rep_copy (w : World) (B : Nat) (z : Int) (n i m : Nat) (a : Addr) (c1 c2 sl : Nat) (ty : TypeId) (hg : w.heap[B]? = some (.cells (repL z n i).toArray 3)) (hm : m = Nat.min sl (n - i)) (hi : i ≤ n) (hsrc : ∀ j, j < m → w.cell? (a.add j) = some (.int .i64 z)) :
    ∃ w', (Builtin.copy_ #[24, 24] ty #[.slice (some ⟨B, i, none⟩) (n - i) c1, .slice (some a) sl c2]).run Try.prog w = .ok (.int .i64 (m : Nat)) w' ∧ w'.heap[B]? = some (.cells (repL z n (i + m)).toArray 3) ∧ ∀ N w0, Below N w0 w → N ≤ B → Below N w0 w' := by
  have hmn : m ≤ n - i := by rw [hm]; exact Nat.min_le_right _ _
  have := run_copy_row (P := Try.prog) w 24 24 ty 3 B i (n - i) c1 a sl c2 (repL z n i).toArray 3 (List.replicate m (.int .i64 z)) Try.underlying24 (by kernel_rfl) hg (by simp [hm]) (fun j v hv => by
    obtain ⟨h1, h2⟩ := List.getElem?_eq_some_iff.1 hv
    simp at h1 h2
    rw [← h2]
    exact hsrc j h1) (by simp [repL]; omega) one_rep
  refine ⟨_, this.trans (by rw [List.length_replicate]; rfl), ?_, fun N w0 hb hN => ?_⟩
  · have e1 : (List.replicate i (Value.int .i64 z) ++ List.replicate (n - i) (Value.int .i64 0)).take i = List.replicate i (Value.int .i64 z) := by
      rw [List.take_append_of_le_length (by simp)]; simp
    have e2 : (List.replicate i (Value.int .i64 z) ++ List.replicate (n - i) (Value.int .i64 0)).drop (i + m) = List.replicate (n - (i + m)) (Value.int .i64 0) := by
      rw [List.drop_append]; simp; omega
    have e3 : List.take i (repL z n i).toArray.toList ++ List.replicate m (Value.int .i64 z) ++ List.drop (i + m) (repL z n i).toArray.toList = repL z n (i + m) := by
      show List.take i (repL z n i) ++ _ ++ List.drop (i + m) (repL z n i) = _
      unfold repL
      rw [e1, e2, List.replicate_append_replicate]
    rw [e3]
    exact setRow_heap w B _ _ 3 _ hg
  · exact hb.trans ⟨rfl, rfl, rfl, by simp [World.setRow], fun k hk => setRow_other w B k _ (by omega)⟩
set_option maxRecDepth 100000 in
set_option maxHeartbeats 2000000 in
theorem repeat_is (g : Nat) (z : Int) (n : Nat) (hn : n ≤ 16384) (w : World) (hc : w.cell? ⟨g, 0, none⟩ = some (.int .i64 z)) (hg : g < w.heap.size) :
    Calls Try.prog 20 #[.slice (some ⟨g, 0, none⟩) 1 1, .int .i64 (n : Nat)] w fun e w' => e = .returned (.slice (some ⟨w.heap.size, 0, none⟩) n n) ∧ w'.heap[w.heap.size]? = some (.cells (repL z n n).toArray 3) ∧ Below w.heap.size w w' := by
  have hmk := make_nums n hn
  have HM := hide (mul_one (n : Nat) (by omega) w)
  have B0 : Below w.heap.size w (w.alloc (.cells (Array.replicate n (.int .i64 0)) 3)) := box1 _ _
  have R0 : (w.alloc (.cells (Array.replicate n (Value.int .i64 0)) 3)).heap[w.heap.size]? = some (.cells (repL z n 0).toArray 3) := by
    rw [heap_alloc_new]; simp [repL]
  obtain ⟨m0, hm0⟩ : ∃ m, min 1 n = m := ⟨_, rfl⟩
  have hm1 : m0 ≤ n ∧ m0 ≤ 1 ∧ (m0 = 0 → n = 0) := by omega
  obtain ⟨W1, r1, R1, K1⟩ := rep_copy (w.alloc (.cells (Array.replicate n (.int .i64 0)) 3)) w.heap.size z n 0 m0 ⟨g, 0, none⟩ n 1 1 3 R0 (by show m0 = min 1 n; omega) (by omega) (fun j hj => by
    obtain rfl : j = 0 := by omega
    rw [Addr.add_lit]
    exact cell_later B0 hc)
  have B1 := K1 _ _ B0 (Nat.le_refl _)
  have HR1 := hide (show (Builtin.copy_ #[24, 24] 3 #[.slice (some ⟨w.heap.size, 0, none⟩) n n, .slice (some ⟨g, 0, none⟩) 1 1]).run Try.prog (w.alloc (.cells (Array.replicate n (.int .i64 0)) 3)) = .ok (.int .i64 (m0 : Nat)) W1 from r1)
  have HS := hide (And.intro R1 B1)
  clear r1 R0 K1 B0 R1 B1
  go_enter Try.func20, Try.ntmps20
  go_wp2_with fail
  refine HM.out.mono ?_
  rintro e w' ⟨rfl, rfl⟩
  have hnp : ¬ ((n : Nat) : Int) < 0 := by omega
  go_wp2_with (rw [HR1.out])
  obtain ⟨B, hB⟩ : ∃ B, w'.heap.size = B := ⟨_, rfl⟩
  rw [hB] at HS ⊢
  have HB := hide hB
  clear hmk hB HR1 HM hc hg
  go_loopw [8] (fun v wr => ∃ i : Nat, v = .int .i64 (i : Nat) ∧ ((i = 0 → n = 0) ∧ i ≤ n) ∧ wr.heap[B]? = some (.cells (repL z n i).toArray 3) ∧ Below B w' wr) (fun v _ => n - (intOf v).toNat)
  case atStart => exact ⟨m0, rfl, by omega, by have := HS.out.1; rwa [Nat.zero_add] at this, HS.out.2⟩
  case round =>
    clear HS
    obtain ⟨i, rfl, ⟨hi1, hi2⟩, hR, hb⟩ := hrel
    by_cases hlt : i < n
    · obtain ⟨m, hm⟩ : ∃ m, Nat.min i (n - i) = m := ⟨_, rfl⟩
      have hmm : m = min i (n - i) := hm.symm
      have hi0 : 1 ≤ i := by rcases Nat.eq_zero_or_pos i with q | q; exact absurd (hi1 q) (by omega); exact q
      obtain ⟨W2, r2, R2, K2⟩ := rep_copy wr.drew B z n i m ⟨B, 0, none⟩ (n - i) n i 3 hR hm.symm hi2 (fun j hj => by
        rw [Addr.add_lit, Nat.zero_add]
        have hj2 : j < i := by omega
        have hR' : wr.drew.heap[B]? = some (.cells (repL z n i).toArray 3) := hR
        rw [cell_of_row _ B j _ _ _ hR']
        simp [repL, List.getElem?_append, hj2])
      have HA := hide r2
      have HE := hide (And.intro R2 (K2 _ _ hb.drew (Nat.le_refl _)))
      have hil : ((i : Nat) : Int) < (n : Nat) := by omega
      have hile : ((i : Nat) : Int) ≤ (n : Nat) := by omega
      have hwr : IntKind.i64.wrap (((i : Nat) : Int) + ((m : Nat) : Int)) = ((i : Nat) : Int) + ((m : Nat) : Int) := IntWalk.i64_in _ (by omega)
      have hne : ¬ n = i := by omega
      have Hm := hide hmm
      clear hR hb r2 R2 K2 hm hmm
      go_wp2_with fail
      refine wp_only ?_
      refine wp_region_z (fun _ => True) [] (by kernel_rfl) ?_
      refine anyZ_take 0 8 (v := .int .i64 (i : Nat)) rfl (by kernel_rfl) (fun _ _ _ h => h.elim) (Or.inl ⟨by rfl, fun wx hx => by go_simp⟩) trivial ?_
      try simp only [Act.put, List.getElem_toArray, List.getElem_cons_zero, List.getElem_cons_succ, List.setIfInBounds_toArray, List.set_cons_zero, List.set_cons_succ]
      refine anyZ_take 1 8 (v := .slice (some ⟨B, 0, none⟩) n n) rfl (by kernel_rfl) (fun _ _ _ h => h.elim) (Or.inl ⟨by rfl, fun wx hx => by go_simp⟩) trivial ?_
      try simp only [Act.put, List.getElem_toArray, List.getElem_cons_zero, List.getElem_cons_succ, List.setIfInBounds_toArray, List.set_cons_zero, List.set_cons_succ]
      refine anyZ_take 2 8 (v := .int .i64 (i : Nat)) rfl (by kernel_rfl) (fun _ _ _ h => h.elim) (Or.inl ⟨by rfl, fun wx hx => by go_simp⟩) trivial ?_
      try simp only [Act.put, List.getElem_toArray, List.getElem_cons_zero, List.getElem_cons_succ, List.setIfInBounds_toArray, List.set_cons_zero, List.set_cons_succ]
      refine anyZ_take 3 8 (v := .slice (some ⟨B, i, none⟩) (n - i) (n - i)) rfl (by kernel_rfl) (fun _ _ _ h => h.elim) (Or.inl ⟨by rfl, fun wx hx => by go_simp⟩) trivial ?_
      try simp only [Act.put, List.getElem_toArray, List.getElem_cons_zero, List.getElem_cons_succ, List.setIfInBounds_toArray, List.set_cons_zero, List.set_cons_succ]
      refine anyZ_take 4 8 (v := .slice (some ⟨B, 0, none⟩) n n) rfl (by kernel_rfl) (fun _ _ _ h => h.elim) (Or.inl ⟨by rfl, fun wx hx => by go_simp⟩) trivial ?_
      try simp only [Act.put, List.getElem_toArray, List.getElem_cons_zero, List.getElem_cons_succ, List.setIfInBounds_toArray, List.set_cons_zero, List.set_cons_succ]
      refine anyZ_take 5 8 (v := .int .i64 (i : Nat)) rfl (by kernel_rfl) (fun _ _ _ h => h.elim) (Or.inl ⟨by rfl, fun wx hx => by go_simp⟩) trivial ?_
      try simp only [Act.put, List.getElem_toArray, List.getElem_cons_zero, List.getElem_cons_succ, List.setIfInBounds_toArray, List.set_cons_zero, List.set_cons_succ]
      refine anyZ_take 6 8 (v := .slice (some ⟨B, 0, none⟩) i n) rfl (by kernel_rfl) (fun _ _ _ h => h.elim) (Or.inl ⟨by rfl, fun wx hx => by go_simp⟩) trivial ?_
      try simp only [Act.put, List.getElem_toArray, List.getElem_cons_zero, List.getElem_cons_succ, List.setIfInBounds_toArray, List.set_cons_zero, List.set_cons_succ]
      refine anyZ_ready (rs := [7]) (by kernel_rfl) (by simp) ?_
      refine readyZ.cons rfl rfl (run_copyZ (by rfl) (by rfl) (by rfl) HA.out) (fun _ => trivial) ?_ readyZ.nil
      try simp only [Act.put, List.getElem_toArray, List.getElem_cons_zero, List.getElem_cons_succ, List.setIfInBounds_toArray, List.set_cons_zero, List.set_cons_succ]
      refine anyZ_take 8 8 (v := .int .i64 (((i : Nat) : Int) + ((m : Nat) : Int))) rfl (by kernel_rfl) (fun _ _ _ h => h.elim) (Or.inl ⟨by rfl, fun wx hx => by go_simp⟩) trivial ?_
      try simp only [Act.put, List.getElem_toArray, List.getElem_cons_zero, List.getElem_cons_succ, List.setIfInBounds_toArray, List.set_cons_zero, List.set_cons_succ]
      refine anyZ_take 9 8 (v := .int .i64 (((i : Nat) : Int) + ((m : Nat) : Int))) rfl (by kernel_rfl) (fun _ _ _ h => h.elim) (Or.inl ⟨by rfl, fun wx hx => by go_simp⟩) trivial ?_
      try simp only [Act.put, List.getElem_toArray, List.getElem_cons_zero, List.getElem_cons_succ, List.setIfInBounds_toArray, List.set_cons_zero, List.set_cons_succ]
      refine anyZ_done (by kernel_rfl) ?_ _
      dsimp only [Only, Exit.then]
      go_wp2_with fail
      go_roundw
      case rel => exact ⟨i + m, by push_cast; rfl, by have := Hm.out; omega, HE.out.1, HE.out.2⟩
      case measure => have := Hm.out; simp [intOf]; omega
    · obtain rfl : i = n := by omega
      have hki : ¬ ((i : Nat) : Int) < (i : Nat) := by omega
      have HE := hide (And.intro hR hb)
      clear hR hb
      go_wp2_with fail
      go_ret
      rw [HB.out]
      exact ⟨rfl, HE.out⟩
end Go.Proofs.Ytmkoleioipklpaa
