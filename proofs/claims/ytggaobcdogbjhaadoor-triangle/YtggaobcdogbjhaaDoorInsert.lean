/-
  slices.Insert of one building into a row of the call's own.
-/
import Derived.Test.YtggaobcdogbjhaaDoorIndex
import Derived.Maps.AppendAt
import Derived.Laws.CopyOwn
import Derived.Deep.RegionLaw
import Derived.Lib.Overlaps
namespace Go.Proofs.YtggaobcdogbjhaaDoor
open Go.RowKit
set_option linter.unusedVariables false
def z55 : Value := .agg #[.int .i64 0, .int .i64 0, .int .i64 0, .int .i64 0, .int .i64 0]
theorem info55 : (Tryd.prog.info? 71).map (fun i => (i.zero, i.size, i.bytes)) = some (some z55, 5, 40) := by kernel_rfl
theorem sizeOf55 (w : World) : (Go.sizeOf 71).run Tryd.prog w = .ok 5 w := by kernel_rfl
theorem one_cs {t : Bd} : ∀ u ∈ t.cs, u.oneCell' = true := by
  intro u hu
  simp only [Bd.cs, List.mem_cons, List.not_mem_nil, or_false] at hu
  rcases hu with rfl | rfl | rfl | rfl | rfl <;> rfl
theorem one_all {l : List Bd} : ∀ u ∈ l.flatMap Bd.cs, u.oneCell' = true := by
  intro u hu
  obtain ⟨t, _, h⟩ := List.mem_flatMap.1 hu
  exact one_cs u h
theorem run_copy5 (w : World) (ty : TypeId) (g o dLen dCap : Nat) (a : Addr) (sLen sCap : Nat) (cur : List Value) (t : TypeId) (cs : List Value)
    (hg : w.heap[g]? = some (.cells cur.toArray t (0, 0))) (hn : cs.length = Nat.min sLen dLen * 5)
    (hsrc : ∀ j v, cs[j]? = some v → w.cell? (a.add j) = some v) (hfit : o + cs.length ≤ cur.length) (h1 : ∀ v ∈ cs, v.oneCell' = true) :
    (Builtin.copy_ #[23, 23] ty #[.slice (some ⟨g, o, none⟩) dLen dCap, .slice (some a) sLen sCap]).run Tryd.prog w =
      .ok (goInt (Nat.min sLen dLen)) (w.setRow g (splice cur o cs).toArray) := by
  have hl := run_loadCells_list (P := Tryd.prog) w a cs hsrc
  have hst := run_storeCells_at Tryd.prog g o t cs 0 cur.toArray w hg (by simpa using hfit) h1
  obtain ⟨i, hi, _, h5, _⟩ := info_parts info55
  simp [Builtin.copy_, run_underlying Tryd.underlying23, Builtin.lenOf, Builtin.firstCells, sizeOf, typeInfo, hi, h5, ← hn, hl, hst, splice]
theorem wp_copy_eq {P : Program} {w : World} {o : Oper} {a : Act} {K : Act → World → Prop} {Q : Exit → Act → World → Prop} (d s : Operand) (t t' : TypeId)
    (ho : o.op = .call { callee := .builtin .copy, args := #[d, s], argTypes := #[t, t'] }) {v u v' : Value} {w' : World} (hd : a.eval d = v) (hs : a.eval s = u)
    (hr : (Builtin.copy_ #[t, t'] o.type #[v, u]).run P w = .ok v' w') (h : K (a.put o.dst v') w') : o.wp P a w K Q := by
  unfold Oper.wp execOp
  simp only [ho, resolve, invoke, builtin, Sem.run_bind, Sem.run_pure, Result.andThen_ok, List.map_toArray, List.map_cons, List.map_nil, hd, hs, hr]
  exact h
theorem wpList_copy_eq {P : Program} {w : World} {ops : Array Oper} {rest : List Oper} {o : Oper} {a : Act} {Q : Exit → Act → World → Prop} (hgd : o.guard = none) (d s : Operand) (t t' : TypeId)
    (ho : o.op = .call { callee := .builtin .copy, args := #[d, s], argTypes := #[t, t'] }) {v u v' : Value} {w' : World} (hd : a.eval d = v) (hs : a.eval s = u)
    (hr : (Builtin.copy_ #[t, t'] o.type #[v, u]).run P w = .ok v' w') (h : wpList P ops Q rest (a.put o.dst v') w') : wpList P ops Q (o :: rest) a w :=
  wpList_plain hgd fun _ hK => wp_copy_eq d s t t' ho hd hs hr (hK _ _ h)
theorem step_copy_eq {P : Program} {ops : Array Oper} {o : Oper} {a : Act} {w : World} {K : Act → World → Prop} {Q : Exit → Act → World → Prop} {E : Prop} (hgd : o.guard = none) (d s : Operand) (t t' : TypeId)
    (ho : o.op = .call { callee := .builtin .copy, args := #[d, s], argTypes := #[t, t'] }) {v u v' : Value} {w' : World} (hd : a.eval d = v) (hs : a.eval s = u)
    (hr : (Builtin.copy_ #[t, t'] o.type #[v, u]).run P w = .ok v' w') (hK : K (a.put o.dst v') w') :
    if Region.wanted o (yielded ops a.tmps) = true then Oper.wp P o a w K Q else E := by
  have hw : Region.wanted o (yielded ops a.tmps) = true := by simp [Region.wanted, hgd]
  rw [if_pos hw]
  exact wp_copy_eq d s t t' ho hd hs hr hK
theorem wpList_append_eq {P : Program} {w : World} {ops : Array Oper} {rest : List Oper} {o : Oper} {a : Act} {Q : Exit → Act → World → Prop} (hgd : o.guard = none) (d s : Operand) (t t' : TypeId)
    (ho : o.op = .call { callee := .builtin .append, args := #[d, s], argTypes := #[t, t'] }) {v u v' : Value} {w' : World} (hd : a.eval d = v) (hs : a.eval s = u)
    (hr : (Builtin.append_ #[t, t'] o.type #[v, u]).run P w = .ok v' w') (h : wpList P ops Q rest (a.put o.dst v') w') : wpList P ops Q (o :: rest) a w := by
  refine wpList_plain hgd fun _ hK => ?_
  unfold Oper.wp execOp
  simp only [ho, resolve, invoke, builtin, Sem.run_bind, Sem.run_pure, Result.andThen_ok, List.map_toArray, List.map_cons, List.map_nil, hd, hs, hr]
  exact hK _ _ h
/-- append(s[:i], make(S, k)...) where there is no room. -/
theorem run_append_zeros (w : World) (ty : TypeId) (g i c k : Nat) (olds : List Value) (ho : olds.length = i * 5) (hold : ∀ j v, olds[j]? = some v → w.cell? ((⟨g, 0, none⟩ : Addr).add j) = some v) (hc : c < i + k) (hk : 0 < k) (hs : i + k ≤ 1000) :
    ∃ cap : Nat, i + k ≤ cap ∧ cap ≤ maxLen ∧ (Builtin.append_ #[23, 3] ty #[.slice (some ⟨g, 0, none⟩) i c, .int .i64 k]).run Tryd.prog w =
      .ok (.slice (some ⟨w.heap.size, 0, none⟩) (i + k) cap) (w.drew.alloc (.cells (olds.toArray ++ (Builtin.zeroCells z55.cells k ++ Builtin.zeroCells z55.cells (cap - (i + k)))) 71)) := by
  obtain ⟨f, hf, hz, h5, h40⟩ := info_parts info55
  refine ⟨grownCap w (i + k) c 71, grownCap_ge _ _ _ _, grownCap_le_maxLen _ _ _ _ (by unfold maxLen; omega), ?_⟩
  have hl := run_firstCells_some (P := Tryd.prog) w.drew 5 i ⟨g, 0, none⟩ i c olds ho (fun j v h => hold j v h)
  have hn : ¬ (i + k ≤ c) := by omega
  have hfit := growslice_fits (bytes := 40) (show c < i + k by omega) (by omega)
  have h48 : ¬ (281474976710656 < Builtin.nextslicecap (i + k) c * 40) := by omega
  have hw : IntKind.i64.wrap (k : Int) = k := by rw [IntKind.wrap_i64]; omega
  have hneg : ¬ ((k : Int) < 0) := by omega
  have hbig : ¬ ((281474976710656 : Int) < (k : Int) * 40) := by omega
  have h63 : ¬ ((9223372036854775807 : Int) < (i : Int) + (k : Int)) := by omega
  have hk5 : ¬ (k = 0) := by omega
  have hmx : max (k : Int) 0 = k := by omega
  simp [Builtin.append_, run_underlying Tryd.underlying23, run_underlying Tryd.underlying3, sizeOf, typeInfo, zeroValue, hf, hz, h5, h40, asInt, asIntOf, hw, hneg, hbig, hn, h63, h48, hmx, Question.forced, hl, newRow, grownCap]
  omega
theorem zero_len (k : Nat) : (Builtin.zeroCells z55.cells k).toList.length = k * 5 := by rw [Array.length_toList, size_zeroCells]; rfl
theorem row_form {w : World} {e : TypeId} {size : Nat} {v : Value} {n : Nat} {xs : List Value} (h : w.ownsRow 0 e size v (n + 1) xs) : ∃ g cap, v = .slice (some ⟨g, 0, none⟩) (n + 1) cap := by
  rcases h.2 with ⟨_, h0⟩ | ⟨g, cap, cur, e, _⟩
  · omega
  · exact ⟨g, cap, e⟩
/-- What slices.Insert tells. -/
def Inserted (w : World) (v : Value) (l' : List Bd) (e : Ending) (w' : World) : Prop :=
  ∃ g cap, e = .returned (.slice (some ⟨g, 0, none⟩) l'.length cap) ∧ Bds w' (.slice (some ⟨g, 0, none⟩) l'.length cap) l' ∧ w.grownBy w' v.ownBlock ∧ (v.ownBlock = some g ∨ w.heap.size ≤ g)
theorem cells_vb {w : World} {vb : Nat} {t : Bd} (h : w.heap[vb]? = some (.cells t.cs.toArray 71 (0, 0))) : ∀ j u, t.cs[j]? = some u → w.cell? ((⟨vb, 0, none⟩ : Addr).add j) = some u := by
  intro j u hu
  rw [Addr.add_lit, Nat.zero_add, cell_of_row w vb j _ _ _ h]
  simpa using hu
set_option maxRecDepth 100000 in
set_option maxHeartbeats 1000000 in
theorem insert_end (l : List Bd) (v : Value) (t : Bd) (vb : Nat) (w : World) (hv : Bds w v l) (hl : l.length < 256) (hvb : w.heap[vb]? = some (.cells t.cs.toArray 71 (0, 0))) :
    Calls Tryd.prog 43 #[v, .int .i64 (l.length : Nat), .slice (some ⟨vb, 0, none⟩) 1 1] w (Inserted w v (l ++ [t])) := by
  obtain ⟨f, hf, hz, h5, h40⟩ := info_parts info55
  have hnews := cells_vb hvb
  have H := hide hvb
  have HV := hide hv
  have hlen : (0 : Int) ≤ (l.length : Nat) ∧ ((l.length : Nat) : Int) < 256 := by omega
  obtain ⟨a, cap, rfl, hcap, hmax, -⟩ := hv.form
  have hmax' : cap ≤ 9223372036854775807 := hmax
  clear hv hvb
  have hm1 : l.length + 1 ≤ maxLen := by unfold maxLen; omega
  have hm2 : (l.length + 1) * 40 ≤ 140737488355328 := by omega
  by_cases hcc : cap = l.length
  · subst hcc
    go_enter Tryd.func43, Tryd.ntmps43
    go_wp2_with (at_builtin; refine wpList_append_own_at _ rfl _ _ 23 rfl 0 71 f z55 5 40 Tryd.underlying23 hf hz h5 h40 rfl (by decide) (.slice a l.length l.length) l.length _ rfl HV.out ⟨vb, 0, none⟩ 1 1 t.cs rfl rfl hnews one_cs hm1 hm2 (Nat.zero_le _) ?_; intro v' w1 hown' hgrow hnil hloc; obtain ⟨g', cap', rfl⟩ := row_form hown')
    go_ret
    refine ⟨g', cap', by simp, ?_, hgrow, ?_⟩
    · simpa [Bds] using hown'
    · rcases hloc with h | h
      · exact .inl (by rw [← h]; rfl)
      · simp only [Value.ownBlock, Option.some.injEq] at h; exact .inr (by omega)
  · have hcc' : ¬ cap ≤ l.length := by omega
    go_enter Tryd.func43, Tryd.ntmps43
    go_wp2_with (at_builtin; refine wpList_append_own_at _ rfl _ _ 23 rfl 0 71 f z55 5 40 Tryd.underlying23 hf hz h5 h40 rfl (by decide) (.slice a l.length cap) l.length _ rfl HV.out ⟨vb, 0, none⟩ 1 1 t.cs rfl rfl hnews one_cs hm1 hm2 (Nat.zero_le _) ?_; intro v' w1 hown' hgrow hnil hloc; obtain ⟨g', cap', rfl⟩ := row_form hown')
    go_ret
    refine ⟨g', cap', by simp, ?_, hgrow, ?_⟩
    · simpa [Bds] using hown'
    · rcases hloc with h | h
      · exact .inl (by rw [← h]; rfl)
      · simp only [Value.ownBlock, Option.some.injEq] at h; exact .inr (by omega)
theorem ov_any (w : World) (vb g n c n' c' o : Nat) (t : Bd) (cur : Array Value) (hne : vb ≠ g) (hvb : w.heap[vb]? = some (.cells t.cs.toArray 71 (0, 0))) (hg : w.heap[g]? = some (.cells cur 71 (0, 0))) (hc : cur.size ≠ 0) :
    (callFunc 64 #[.slice (some ⟨vb, 0, none⟩) n c, .slice (some ⟨g, o, none⟩) n' c']).run Tryd.prog w = .ok (.value (.bool false)) w := by
  rw [run_callFunc_extern Tryd.func64 (by kernel_rfl) (by kernel_rfl) (by kernel_rfl) (e := Extern.SlicesOverlaps.overlaps #[23, 23] #[4]) (by kernel_rfl),
    Lib.run_overlaps_apart w 23 4 71 Tryd.underlying23 5 sizeOf55 ⟨vb, 0, none⟩ ⟨g, o, none⟩ n c n' c' hne 71 71 5 cur.size (by simp [World.shape?, hvb, Bd.cs]) (by simp [World.shape?, hg]) hc (by simp [World.frozen?, hvb]) (by simp [World.frozen?, hvb])]
  rfl
end Go.Proofs.YtggaobcdogbjhaaDoor
