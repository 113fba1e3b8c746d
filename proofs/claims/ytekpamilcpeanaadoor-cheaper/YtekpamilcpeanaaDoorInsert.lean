/-
  slices.Insert of one building into a row of the call's own. slices.Insert of one building inside a row of the call's own: with room, and without.
-/
import Derived.Test.YtekpamilcpeanaaDoorSearch
import Derived.Maps.AppendAt
import Derived.Laws.CopyOwn
import Derived.Deep.RegionLaw
import Derived.Lib.Overlaps
namespace Go.Proofs.YtekpamilcpeanaaDoor
open Go.RowKit
set_option linter.unusedVariables false
def z55 : Value := .agg #[.int .i64 0, .int .i64 0, .int .i64 0, .int .i64 0, .int .i64 0]
theorem info55 : (Tryd.prog.info? 78).map (fun i => (i.zero, i.size, i.bytes)) = some (some z55, 5, 40) := by kernel_rfl
theorem sizeOf55 (w : World) : (Go.sizeOf 78).run Tryd.prog w = .ok 5 w := by kernel_rfl
theorem one_cs {t : Bd} : ∀ u ∈ t.cs, u.oneCell' = true := by
  intro u hu
  simp only [Bd.cs, List.mem_cons, List.not_mem_nil, or_false] at hu
  rcases hu with rfl | rfl | rfl | rfl | rfl <;> rfl
theorem one_all {l : List Bd} : ∀ u ∈ l.flatMap Bd.cs, u.oneCell' = true := by
  intro u hu
  obtain ⟨t, _, h⟩ := List.mem_flatMap.1 hu
  exact one_cs u h
theorem run_copy5 (w : World) (ty : TypeId) (g o dLen dCap : Nat) (a : Addr) (sLen sCap : Nat) (cur : List Value) (t : TypeId) (cs : List Value)
    (hg : w.heap[g]? = some (.cells cur.toArray t (0, 0))) (hn : cs.length = Nat.min sLen dLen * 5)
    (hsrc : ∀ j v, cs[j]? = some v → w.cell? (a.add j) = some v) (hfit : o + cs.length ≤ cur.length) (h1 : ∀ v ∈ cs, v.oneCell' = true) :
    (Builtin.copy_ #[33, 33] ty #[.slice (some ⟨g, o, none⟩) dLen dCap, .slice (some a) sLen sCap]).run Tryd.prog w =
      .ok (goInt (Nat.min sLen dLen)) (w.setRow g (splice cur o cs).toArray) := by
  have hl := run_loadCells_list (P := Tryd.prog) w a cs hsrc
  have hst := run_storeCells_at Tryd.prog g o t cs 0 cur.toArray w hg (by simpa using hfit) h1
  obtain ⟨i, hi, _, h5, _⟩ := info_parts info55
  simp [Builtin.copy_, run_underlying Tryd.underlying33, Builtin.lenOf, Builtin.firstCells, sizeOf, typeInfo, hi, h5, ← hn, hl, hst, splice]
theorem wp_copy_eq {P : Program} {w : World} {o : Oper} {a : Act} {K : Act → World → Prop} {Q : Exit → Act → World → Prop} (d s : Operand) (t t' : TypeId)
    (ho : o.op = .call { callee := .builtin .copy, args := #[d, s], argTypes := #[t, t'] }) {v u v' : Value} {w' : World} (hd : a.eval d = v) (hs : a.eval s = u)
    (hr : (Builtin.copy_ #[t, t'] o.type #[v, u]).run P w = .ok v' w') (h : K (a.put o.dst v') w') : o.wp P a w K Q := by
  unfold Oper.wp execOp
  simp only [ho, resolve, invoke, builtin, Sem.run_bind, Sem.run_pure, Result.andThen_ok, List.map_toArray, List.map_cons, List.map_nil, hd, hs, hr]
  exact h
theorem wpList_copy_eq {P : Program} {w : World} {ops : Array Oper} {rest : List Oper} {o : Oper} {a : Act} {Q : Exit → Act → World → Prop} (hgd : o.guard = none) (d s : Operand) (t t' : TypeId)
    (ho : o.op = .call { callee := .builtin .copy, args := #[d, s], argTypes := #[t, t'] }) {v u v' : Value} {w' : World} (hd : a.eval d = v) (hs : a.eval s = u)
    (hr : (Builtin.copy_ #[t, t'] o.type #[v, u]).run P w = .ok v' w') (h : wpList P ops Q rest (a.put o.dst v') w') : wpList P ops Q (o :: rest) a w :=
  wpList_plain hgd fun _ hK => wp_copy_eq d s t t' ho hd hs hr (hK _ _ h)
theorem step_copy_eq {P : Program} {ops : Array Oper} {o : Oper} {a : Act} {w : World} {K : Act → World → Prop} {Q : Exit → Act → World → Prop} {E : Prop} (hgd : o.guard = none) (d s : Operand) (t t' : TypeId)
    (ho : o.op = .call { callee := .builtin .copy, args := #[d, s], argTypes := #[t, t'] }) {v u v' : Value} {w' : World} (hd : a.eval d = v) (hs : a.eval s = u)
    (hr : (Builtin.copy_ #[t, t'] o.type #[v, u]).run P w = .ok v' w') (hK : K (a.put o.dst v') w') :
    if Region.wanted o (yielded ops a.tmps) = true then Oper.wp P o a w K Q else E := by
  have hw : Region.wanted o (yielded ops a.tmps) = true := by simp [Region.wanted, hgd]
  rw [if_pos hw]
  exact wp_copy_eq d s t t' ho hd hs hr hK
theorem wpList_append_eq {P : Program} {w : World} {ops : Array Oper} {rest : List Oper} {o : Oper} {a : Act} {Q : Exit → Act → World → Prop} (hgd : o.guard = none) (d s : Operand) (t t' : TypeId)
    (ho : o.op = .call { callee := .builtin .append, args := #[d, s], argTypes := #[t, t'] }) {v u v' : Value} {w' : World} (hd : a.eval d = v) (hs : a.eval s = u)
    (hr : (Builtin.append_ #[t, t'] o.type #[v, u]).run P w = .ok v' w') (h : wpList P ops Q rest (a.put o.dst v') w') : wpList P ops Q (o :: rest) a w := by
  refine wpList_plain hgd fun _ hK => ?_
  unfold Oper.wp execOp
  simp only [ho, resolve, invoke, builtin, Sem.run_bind, Sem.run_pure, Result.andThen_ok, List.map_toArray, List.map_cons, List.map_nil, hd, hs, hr]
  exact hK _ _ h
/-- append(s[:i], make(S, k)...) where there is no room. -/
theorem run_append_zeros (w : World) (ty : TypeId) (g i c k : Nat) (olds : List Value) (ho : olds.length = i * 5) (hold : ∀ j v, olds[j]? = some v → w.cell? ((⟨g, 0, none⟩ : Addr).add j) = some v) (hc : c < i + k) (hk : 0 < k) (hs : i + k ≤ 1000) :
    ∃ cap : Nat, i + k ≤ cap ∧ cap ≤ maxLen ∧ (Builtin.append_ #[33, 3] ty #[.slice (some ⟨g, 0, none⟩) i c, .int .i64 k]).run Tryd.prog w =
      .ok (.slice (some ⟨w.heap.size, 0, none⟩) (i + k) cap) (w.drew.alloc (.cells (olds.toArray ++ (Builtin.zeroCells z55.cells k ++ Builtin.zeroCells z55.cells (cap - (i + k)))) 78)) := by
  obtain ⟨f, hf, hz, h5, h40⟩ := info_parts info55
  refine ⟨grownCap w (i + k) c 78, grownCap_ge _ _ _ _, grownCap_le_maxLen _ _ _ _ (by unfold maxLen; omega), ?_⟩
  have hl := run_firstCells_some (P := Tryd.prog) w.drew 5 i ⟨g, 0, none⟩ i c olds ho (fun j v h => hold j v h)
  have hn : ¬ (i + k ≤ c) := by omega
  have hfit := growslice_fits (bytes := 40) (show c < i + k by omega) (by omega)
  have h48 : ¬ (281474976710656 < Builtin.nextslicecap (i + k) c * 40) := by omega
  have hw : IntKind.i64.wrap (k : Int) = k := by rw [IntKind.wrap_i64]; omega
  have hneg : ¬ ((k : Int) < 0) := by omega
  have hbig : ¬ ((281474976710656 : Int) < (k : Int) * 40) := by omega
  have h63 : ¬ ((9223372036854775807 : Int) < (i : Int) + (k : Int)) := by omega
  have hk5 : ¬ (k = 0) := by omega
  have hmx : max (k : Int) 0 = k := by omega
  simp [Builtin.append_, run_underlying Tryd.underlying33, run_underlying Tryd.underlying3, sizeOf, typeInfo, zeroValue, hf, hz, h5, h40, asInt, asIntOf, hw, hneg, hbig, hn, h63, h48, hmx, Question.forced, hl, newRow, grownCap]
  omega
theorem zero_len (k : Nat) : (Builtin.zeroCells z55.cells k).toList.length = k * 5 := by rw [Array.length_toList, size_zeroCells]; rfl
theorem row_form {w : World} {e : TypeId} {size : Nat} {v : Value} {n : Nat} {xs : List Value} (h : w.ownsRow 0 e size v (n + 1) xs) : ∃ g cap, v = .slice (some ⟨g, 0, none⟩) (n + 1) cap := by
  rcases h.2 with ⟨_, h0⟩ | ⟨g, cap, cur, e, _⟩
  · omega
  · exact ⟨g, cap, e⟩
/-- What slices.Insert tells. -/
def Inserted (w : World) (v : Value) (l' : List Bd) (e : Ending) (w' : World) : Prop :=
  ∃ g cap, e = .returned (.slice (some ⟨g, 0, none⟩) l'.length cap) ∧ Bds w' (.slice (some ⟨g, 0, none⟩) l'.length cap) l' ∧ w.grownBy w' v.ownBlock ∧ (v.ownBlock = some g ∨ w.heap.size ≤ g)
theorem cells_vb {w : World} {vb : Nat} {t : Bd} (h : w.heap[vb]? = some (.cells t.cs.toArray 78 (0, 0))) : ∀ j u, t.cs[j]? = some u → w.cell? ((⟨vb, 0, none⟩ : Addr).add j) = some u := by
  intro j u hu
  rw [Addr.add_lit, Nat.zero_add, cell_of_row w vb j _ _ _ h]
  simpa using hu
set_option maxRecDepth 100000 in
set_option maxHeartbeats 1000000 in
theorem insert_end (l : List Bd) (v : Value) (t : Bd) (vb : Nat) (w : World) (hv : Bds w v l) (hl : l.length < 256) (hvb : w.heap[vb]? = some (.cells t.cs.toArray 78 (0, 0))) :
    Calls Tryd.prog 64 #[v, .int .i64 (l.length : Nat), .slice (some ⟨vb, 0, none⟩) 1 1] w (Inserted w v (l ++ [t])) := by
  obtain ⟨f, hf, hz, h5, h40⟩ := info_parts info55
  have hnews := cells_vb hvb
  have H := hide hvb
  have HV := hide hv
  have hlen : (0 : Int) ≤ (l.length : Nat) ∧ ((l.length : Nat) : Int) < 256 := by omega
  obtain ⟨a, cap, rfl, hcap, hmax, -⟩ := hv.form
  have hmax' : cap ≤ 9223372036854775807 := hmax
  clear hv hvb
  have hm1 : l.length + 1 ≤ maxLen := by unfold maxLen; omega
  have hm2 : (l.length + 1) * 40 ≤ 140737488355328 := by omega
  by_cases hcc : cap = l.length
  · subst hcc
    go_enter Tryd.func64, Tryd.ntmps64
    go_wp2_with (at_builtin; refine wpList_append_own_at _ rfl _ _ 33 rfl 0 78 f z55 5 40 Tryd.underlying33 hf hz h5 h40 rfl (by decide) (.slice a l.length l.length) l.length _ rfl HV.out ⟨vb, 0, none⟩ 1 1 t.cs rfl rfl hnews one_cs hm1 hm2 (Nat.zero_le _) ?_; intro v' w1 hown' hgrow hnil hloc; obtain ⟨g', cap', rfl⟩ := row_form hown')
    go_ret
    refine ⟨g', cap', by simp, ?_, hgrow, ?_⟩
    · simpa [Bds] using hown'
    · rcases hloc with h | h
      · exact .inl (by rw [← h]; rfl)
      · simp only [Value.ownBlock, Option.some.injEq] at h; exact .inr (by omega)
  · have hcc' : ¬ cap ≤ l.length := by omega
    go_enter Tryd.func64, Tryd.ntmps64
    go_wp2_with (at_builtin; refine wpList_append_own_at _ rfl _ _ 33 rfl 0 78 f z55 5 40 Tryd.underlying33 hf hz h5 h40 rfl (by decide) (.slice a l.length cap) l.length _ rfl HV.out ⟨vb, 0, none⟩ 1 1 t.cs rfl rfl hnews one_cs hm1 hm2 (Nat.zero_le _) ?_; intro v' w1 hown' hgrow hnil hloc; obtain ⟨g', cap', rfl⟩ := row_form hown')
    go_ret
    refine ⟨g', cap', by simp, ?_, hgrow, ?_⟩
    · simpa [Bds] using hown'
    · rcases hloc with h | h
      · exact .inl (by rw [← h]; rfl)
      · simp only [Value.ownBlock, Option.some.injEq] at h; exact .inr (by omega)
theorem ov_any (w : World) (vb g n c n' c' o : Nat) (t : Bd) (cur : Array Value) (hne : vb ≠ g) (hvb : w.heap[vb]? = some (.cells t.cs.toArray 78 (0, 0))) (hg : w.heap[g]? = some (.cells cur 78 (0, 0))) (hc : cur.size ≠ 0) :
    (callFunc 82 #[.slice (some ⟨vb, 0, none⟩) n c, .slice (some ⟨g, o, none⟩) n' c']).run Tryd.prog w = .ok (.value (.bool false)) w := by
  rw [run_callFunc_extern Tryd.func82 (by kernel_rfl) (by kernel_rfl) (by kernel_rfl) (e := Extern.SlicesOverlaps.overlaps #[33, 33] #[4]) (by kernel_rfl),
    Lib.run_overlaps_apart w 33 4 78 Tryd.underlying33 5 sizeOf55 ⟨vb, 0, none⟩ ⟨g, o, none⟩ n c n' c' hne 78 78 5 cur.size (by simp [World.shape?, hvb, Bd.cs]) (by simp [World.shape?, hg]) hc (by simp [World.frozen?, hvb]) (by simp [World.frozen?, hvb])]
  rfl
end Go.Proofs.YtekpamilcpeanaaDoor
namespace Go.Proofs.YtekpamilcpeanaaDoor
open Go.RowKit
set_option linter.unusedVariables false
theorem nmin_l {a b : Nat} (h : a ≤ b) : Nat.min a b = a := Nat.min_eq_left h
theorem nmin_r {a b : Nat} (h : b ≤ a) : Nat.min a b = b := Nat.min_eq_right h
theorem cs_take (l : List Bd) (i : Nat) : (l.take i).flatMap Bd.cs = (l.flatMap Bd.cs).take (i * 5) := by
  induction i generalizing l with
  | zero => simp
  | succ i ih =>
    cases l with
    | nil => simp
    | cons t r =>
      rw [List.take_succ_cons, List.flatMap_cons, List.flatMap_cons, ih r, List.take_append]
      have : t.cs.length = 5 := rfl
      rw [List.take_of_length_le (l := t.cs) (by omega), this, show (i + 1) * 5 - 5 = i * 5 by omega]
theorem cs_drop (l : List Bd) (i : Nat) : (l.drop i).flatMap Bd.cs = (l.flatMap Bd.cs).drop (i * 5) := by
  induction i generalizing l with
  | zero => simp
  | succ i ih =>
    cases l with
    | nil => simp
    | cons t r =>
      rw [List.drop_succ_cons, List.flatMap_cons, ih r, List.drop_append]
      have : t.cs.length = 5 := rfl
      rw [List.drop_of_length_le (l := t.cs) (by omega), this, show (i + 1) * 5 - 5 = i * 5 by omega, List.nil_append]
theorem two_splice {α : Type} (X A C T : List α) (k m : Nat) (hA : A.length = k) (hT : T.length = m) (hX : X.take (k + C.length) = A ++ C) (hs : k + m + C.length ≤ X.length) :
    (splice (splice X (k + m) C) k T).take (k + m + C.length) = A ++ (T ++ C) := by
  have e0 : X.take k = A := by
    have := congrArg (List.take k) hX
    rw [List.take_take, Nat.min_eq_left (by omega), List.take_append_of_le_length (by omega), List.take_of_length_le (l := A) (by omega)] at this
    exact this
  have hk : k ≤ X.length := by omega
  have e1 : (splice X (k + m) C).take k = A := by
    unfold splice
    rw [List.take_append_of_le_length (by simp; omega), List.take_take, Nat.min_eq_left (by omega), e0]
  have e2 : (splice X (k + m) C).drop (k + m) = C ++ X.drop (k + m + C.length) := by
    unfold splice
    have hl : (X.take (k + m)).length = k + m := by simp; omega
    rw [List.drop_append_of_le_length (by omega), List.drop_of_length_le (by omega), List.nil_append]
  rw [splice, e1, hT, e2]
  rw [← List.append_assoc, ← List.append_assoc, List.take_append_of_le_length (by simp; omega), List.take_of_length_le (by simp; omega), List.append_assoc]
set_option maxRecDepth 100000 in
set_option maxHeartbeats 400000 in
theorem insert_room (l : List Bd) (g cap i : Nat) (t : Bd) (vb : Nat) (w : World) (hv : Bds w (.slice (some ⟨g, 0, none⟩) l.length cap) l) (hl : l.length < 256) (hi : i < l.length) (hvb : w.heap[vb]? = some (.cells t.cs.toArray 78 (0, 0))) (hne : vb ≠ g) (hroom : l.length + 1 ≤ cap) :
    Calls Tryd.prog 64 #[.slice (some ⟨g, 0, none⟩) l.length cap, .int .i64 i, .slice (some ⟨vb, 0, none⟩) 1 1] w (Inserted w (.slice (some ⟨g, 0, none⟩) l.length cap) (l.take i ++ t :: l.drop i)) := by
  obtain ⟨X, hX, hcap, hXl, hXt⟩ : ∃ X : List Value, w.heap[g]? = some (.cells X.toArray 78 (0, 0)) ∧ cap ≤ maxLen ∧ X.length = cap * 5 ∧ X.take (l.length * 5) = l.flatMap Bd.cs := by
    rcases hv.2 with ⟨e, _⟩ | ⟨g', cap', cur, e, hb, hg, hn, hm, hs, ht⟩
    · cases e
    · cases e; exact ⟨cur.toList, by simpa using hg, hm, by simpa using hs, ht⟩
  have hmax' : cap ≤ 9223372036854775807 := hcap
  obtain ⟨n, hn⟩ : ∃ n, n = l.length := ⟨_, rfl⟩
  have hov := fun c n' c' o => ov_any w vb g 1 c n' c' o t X.toArray hne hvb hX (by rw [List.size_toArray]; omega)
  have h1 : ¬ ((i : Int) = (l.length : Nat)) := by omega
  have h2 : ¬ ((cap : Int) < (l.length : Nat) + 1) := by omega
  have h3 : ¬ cap = i + 1 := by omega
  have h4 : ¬ cap = i := by omega
  have h5 : (i : Int) ≤ (l.length : Nat) := by omega
  have hw1 : IntKind.i64.wrap ((i : Int) + 1) = (i : Int) + 1 := by rw [IntKind.wrap_i64]; omega
  have hb1 : (0 : Int) ≤ (i : Int) + 1 := by omega
  have htn : ((i : Int) + 1).toNat = i + 1 := by omega
  have hb3 : (i : Int) ≤ (l.length : Nat) + 1 := by omega
  have hb6 : i ≤ l.length := by omega
  have hlen := cs_len (l.drop i)
  rw [List.length_drop] at hlen
  have hCc : ∀ j u, ((l.drop i).flatMap Bd.cs)[j]? = some u → w.cell? ⟨g, i * 5 + j, none⟩ = some u := fun j u hu => by
    rw [cs_drop, List.getElem?_drop] at hu
    have := hv.cells (g := g) rfl (i * 5 + j) u hu
    simpa [Addr.add_lit] using this
  obtain ⟨C, hC⟩ : ∃ C, C = (l.drop i).flatMap Bd.cs := ⟨_, rfl⟩
  rw [← hC] at hlen hCc
  have hC1 : ∀ u ∈ C, u.oneCell' = true := by rw [hC]; exact one_all
  obtain ⟨W1, hW1⟩ : ∃ W1, W1 = w.drew.setRow g (splice X ((i + 1) * 5) C).toArray := ⟨_, rfl⟩
  have hcp1 : ∀ ty o1 d1 c1 o2 d2 c2, o1 = (i + 1) * 5 → d1 = l.length - i → o2 = i * 5 → d2 = l.length + 1 - i → (Builtin.copy_ #[33, 33] ty #[.slice (some ⟨g, o1, none⟩) d1 c1, .slice (some ⟨g, o2, none⟩) d2 c2]).run Tryd.prog w.drew = .ok (goInt (l.length - i : Nat)) W1 := by
    rintro ty _ _ c1 _ _ c2 rfl rfl rfl rfl
    have := run_copy5 w.drew ty g ((i + 1) * 5) (l.length - i) c1 ⟨g, i * 5, none⟩ (l.length + 1 - i) c2 X 78 C hX (by rw [hlen, nmin_r (by omega)]) (fun j u hu => by rw [Addr.add_lit]; exact hCc j u hu) (by omega) hC1
    rw [this, hW1, nmin_r (by omega)]
  have hg1 : W1.heap[g]? = some (.cells (splice X ((i + 1) * 5) C).toArray 78 (0, 0)) := by rw [hW1]; exact setRow_heap w.drew g _ _ 78 _ hX
  have hv1 : W1.heap[vb]? = some (.cells t.cs.toArray 78 (0, 0)) := by rw [hW1, setRow_other w.drew g vb _ (by omega)]; exact hvb
  have hl1 : (splice X ((i + 1) * 5) C).length = X.length := length_splice _ _ _ (by omega)
  obtain ⟨W2, hW2⟩ : ∃ W2, W2 = W1.setRow g (splice (splice X ((i + 1) * 5) C) (i * 5) t.cs).toArray := ⟨_, rfl⟩
  have ht5 : t.cs.length = 5 := rfl
  have hcp2 : ∀ ty o1 d1 c1 c2, o1 = i * 5 → d1 = l.length + 1 - i → (Builtin.copy_ #[33, 33] ty #[.slice (some ⟨g, o1, none⟩) d1 c1, .slice (some ⟨vb, 0, none⟩) 1 c2]).run Tryd.prog W1 = .ok (goInt (1 : Nat)) W2 := by
    rintro ty _ _ c1 c2 rfl rfl
    have hm1 : Nat.min 1 (l.length + 1 - i) = 1 := nmin_l (by omega)
    have := run_copy5 W1 ty g (i * 5) (l.length + 1 - i) c1 ⟨vb, 0, none⟩ 1 c2 _ 78 t.cs hg1 (by rw [hm1]; rfl) (cells_vb hv1) (by omega) one_cs
    rw [this, hW2, hm1]
  have hg2 : W2.heap[g]? = some (.cells (splice (splice X ((i + 1) * 5) C) (i * 5) t.cs).toArray 78 (0, 0)) := by rw [hW2]; exact setRow_heap W1 g _ _ 78 _ hg1
  have hgr : w.grownBy W2 (some g) := by
    rw [hW2, hW1]
    exact ⟨rfl, rfl, rfl, by simp [World.setRow], fun k hk hn => by
      have : k ≠ g := fun e => hn (by rw [e])
      rw [setRow_other _ g k _ this, setRow_other _ g k _ this]; rfl⟩
  have hfin : Inserted w (.slice (some ⟨g, 0, none⟩) l.length cap) (l.take i ++ t :: l.drop i) (.returned (.slice (some ⟨g, 0, none⟩) (l.length + 1) cap)) W2 := by
    have hll : (l.take i ++ t :: l.drop i).length = l.length + 1 := by simp; omega
    refine ⟨g, cap, by rw [hll], ?_, hgr, .inl rfl⟩
    refine ⟨by rw [cs_len], .inr ⟨g, cap, _, by rw [hll], Nat.zero_le _, hg2, by omega, hcap, by rw [List.size_toArray, length_splice _ _ _ (by omega), hl1, hXl], ?_⟩⟩
    rw [hll, List.toList_toArray]
    have hA : ((l.take i).flatMap Bd.cs).length = i * 5 := by rw [cs_len, List.length_take]; omega
    have := two_splice X ((l.take i).flatMap Bd.cs) C t.cs (i * 5) 5 hA rfl (by rw [hlen, show i * 5 + (l.length - i) * 5 = l.length * 5 by omega, hXt, hC, ← List.flatMap_append, List.take_append_drop]) (by omega)
    rw [show i * 5 + 5 = (i + 1) * 5 by omega, hlen, show (i + 1) * 5 + (l.length - i) * 5 = (l.length + 1) * 5 by omega] at this
    rw [this, hC, List.flatMap_append, List.flatMap_cons]
  have hcp1' := fun ty => hcp1 ty ((i + 1) * 5) (l.length - i) (cap - (i + 1)) (i * 5) (l.length + 1 - i) (cap - i) rfl rfl rfl rfl
  have hcp2' := fun ty => hcp2 ty (i * 5) (l.length + 1 - i) (cap - i) 1 rfl rfl
  have HF := hide hfin
  have H1 := fun ty => hide (hcp1' ty)
  clear hfin hgr hg2 hl1 hg1 hv1 hCc hC1 hlen hXt hXl hX hv hvb hC hW1 hW2 hcp1 hcp2 hcp1' ht5 hn
  go_enter Tryd.func64, Tryd.ntmps64
  go_wp2_with (simp only [hov])
  go_region_law (refine step_copy_eq rfl _ _ 33 33 rfl (by simp [Act.eval, Act.put]) (by simp [Act.eval, Act.put]) (H1 _).out ?_)
  go_wp2_with fail
  go_ret
  exact HF.out
theorem grow_splice {α : Type} (A C T Z : List α) (k m : Nat) (hA : A.length = k) (hT : T.length = m) (hs : m + C.length ≤ Z.length) :
    (splice (splice (A ++ Z) k T) (k + m) C).take (k + m + C.length) = A ++ (T ++ C) := by
  subst hA; subst hT
  have e1 : splice (A ++ Z) A.length T = A ++ (T ++ Z.drop T.length) := by
    unfold splice
    rw [List.take_left, List.drop_append]
    simp
  rw [e1]
  unfold splice
  have e2 : (A ++ (T ++ Z.drop T.length)).take (A.length + T.length) = A ++ T := by
    rw [← List.append_assoc, List.take_append_of_le_length (by simp), List.take_of_length_le (by simp)]
  rw [e2, ← List.append_assoc, List.take_append_of_le_length (by simp; omega), List.take_of_length_le (by simp; omega), List.append_assoc]
set_option maxRecDepth 100000 in
set_option maxHeartbeats 400000 in
theorem insert_grow (l : List Bd) (g cap i : Nat) (t : Bd) (vb : Nat) (w : World) (hv : Bds w (.slice (some ⟨g, 0, none⟩) l.length cap) l) (hl : l.length < 256) (hi : i < l.length) (hvb : w.heap[vb]? = some (.cells t.cs.toArray 78 (0, 0))) (hne : vb ≠ g) (hroom : ¬ l.length + 1 ≤ cap) :
    Calls Tryd.prog 64 #[.slice (some ⟨g, 0, none⟩) l.length cap, .int .i64 i, .slice (some ⟨vb, 0, none⟩) 1 1] w (Inserted w (.slice (some ⟨g, 0, none⟩) l.length cap) (l.take i ++ t :: l.drop i)) := by
  obtain ⟨X, hX, hcap, hcl, hXl, hXt⟩ : ∃ X : List Value, w.heap[g]? = some (.cells X.toArray 78 (0, 0)) ∧ cap ≤ maxLen ∧ l.length ≤ cap ∧ X.length = cap * 5 ∧ X.take (l.length * 5) = l.flatMap Bd.cs := by
    rcases hv.2 with ⟨e, _⟩ | ⟨g', cap', cur, e, hb, hg, hn, hm, hs, ht⟩
    · cases e
    · cases e; exact ⟨cur.toList, by simpa using hg, hm, hn, by simpa using hs, ht⟩
  obtain rfl : cap = l.length := by omega
  have hvlt := (Array.getElem?_eq_some_iff.1 hvb).1
  have hglt := (Array.getElem?_eq_some_iff.1 hX).1
  have hlenD := cs_len (l.drop i)
  rw [List.length_drop] at hlenD
  have hlenA : ((l.take i).flatMap Bd.cs).length = i * 5 := by rw [cs_len, List.length_take]; omega
  have hCc : ∀ j u, ((l.drop i).flatMap Bd.cs)[j]? = some u → w.cell? ⟨g, i * 5 + j, none⟩ = some u := fun j u hu => by
    rw [cs_drop, List.getElem?_drop] at hu
    have := hv.cells (g := g) rfl (i * 5 + j) u hu
    simpa [Addr.add_lit] using this
  have hAc : ∀ j u, ((l.take i).flatMap Bd.cs)[j]? = some u → w.cell? ((⟨g, 0, none⟩ : Addr).add j) = some u := fun j u hu => by
    rw [cs_take, List.getElem?_take] at hu
    split at hu
    · exact hv.cells (g := g) rfl j u hu
    · cases hu
  obtain ⟨C, hC⟩ : ∃ C, C = (l.drop i).flatMap Bd.cs := ⟨_, rfl⟩
  obtain ⟨A, hA⟩ : ∃ A, A = (l.take i).flatMap Bd.cs := ⟨_, rfl⟩
  rw [← hC] at hlenD hCc
  rw [← hA] at hlenA hAc
  have hC1 : ∀ u ∈ C, u.oneCell' = true := by rw [hC]; exact one_all
  obtain ⟨cap', hge, hle, hrun⟩ : ∃ cap' : Nat, l.length + 1 ≤ cap' ∧ cap' ≤ maxLen ∧ ∀ ty, (Builtin.append_ #[33, 3] ty #[.slice (some ⟨g, 0, none⟩) i l.length, .int .i64 ((l.length : Int) + 1 - i)]).run Tryd.prog w =
      .ok (.slice (some ⟨w.heap.size, 0, none⟩) (l.length + 1) cap') (w.drew.alloc (.cells (A.toArray ++ (Builtin.zeroCells z55.cells (l.length + 1 - i) ++ Builtin.zeroCells z55.cells (cap' - (l.length + 1)))) 78)) := by
    obtain ⟨c, h1, h2, h3⟩ := run_append_zeros w 0 g i l.length (l.length + 1 - i) A hlenA hAc (by omega) (by omega) (by omega)
    rw [show i + (l.length + 1 - i) = l.length + 1 by omega] at h1 h3
    refine ⟨c, h1, h2, fun ty => ?_⟩
    have e : ((l.length : Int) + 1 - i) = ((l.length + 1 - i : Nat) : Int) := by omega
    rw [e]
    exact h3
  obtain ⟨Z, hZ⟩ : ∃ Z, Z = (Builtin.zeroCells z55.cells (l.length + 1 - i) ++ Builtin.zeroCells z55.cells (cap' - (l.length + 1))).toList := ⟨_, rfl⟩
  have hZl : Z.length = (cap' - i) * 5 := by
    rw [hZ, Array.toList_append, List.length_append, zero_len, zero_len]; omega
  obtain ⟨W0, hW0⟩ : ∃ W0, W0 = w.drew.alloc (.cells (A.toArray ++ (Builtin.zeroCells z55.cells (l.length + 1 - i) ++ Builtin.zeroCells z55.cells (cap' - (l.length + 1)))) 78) := ⟨_, rfl⟩
  rw [← hW0] at hrun
  have hZ0 : (A.toArray ++ (Builtin.zeroCells z55.cells (l.length + 1 - i) ++ Builtin.zeroCells z55.cells (cap' - (l.length + 1)))) = (A ++ Z).toArray := by
    apply Array.ext'; rw [hZ]; simp
  rw [hZ0] at hW0
  have hg0 : W0.heap[w.heap.size]? = some (.cells (A ++ Z).toArray 78 (0, 0)) := by rw [hW0]; exact heap_alloc_new w.drew _
  have hold : ∀ k, k < w.heap.size → W0.heap[k]? = w.heap[k]? := fun k hk => by rw [hW0]; exact Below.heap_alloc w.drew _ k hk
  have hv0 : W0.heap[vb]? = some (.cells t.cs.toArray 78 (0, 0)) := (hold vb hvlt).trans hvb
  obtain ⟨W1, hW1⟩ : ∃ W1, W1 = W0.setRow w.heap.size (splice (A ++ Z) (i * 5) t.cs).toArray := ⟨_, rfl⟩
  have ht5 : t.cs.length = 5 := rfl
  have hlAZ : (A ++ Z).length = cap' * 5 := by rw [List.length_append]; omega
  have hcp1 : ∀ ty c1, (Builtin.copy_ #[33, 33] ty #[.slice (some ⟨w.heap.size, i * 5, none⟩) (l.length + 1 - i) c1, .slice (some ⟨vb, 0, none⟩) 1 1]).run Tryd.prog W0 = .ok (goInt (1 : Nat)) W1 := by
    intro ty c1
    have hm1 : Nat.min 1 (l.length + 1 - i) = 1 := nmin_l (by omega)
    have := run_copy5 W0 ty w.heap.size (i * 5) (l.length + 1 - i) c1 ⟨vb, 0, none⟩ 1 1 _ 78 t.cs hg0 (by rw [hm1]; rfl) (cells_vb hv0) (by omega) one_cs
    rw [this, hW1, hm1]
  have hg1 : W1.heap[w.heap.size]? = some (.cells (splice (A ++ Z) (i * 5) t.cs).toArray 78 (0, 0)) := by rw [hW1]; exact setRow_heap W0 _ _ _ 78 _ hg0
  have hl1 : (splice (A ++ Z) (i * 5) t.cs).length = cap' * 5 := by rw [length_splice _ _ _ (by omega), hlAZ]
  have hold1 : ∀ k, k < w.heap.size → W1.heap[k]? = w.heap[k]? := fun k hk => by rw [hW1, setRow_other W0 _ k _ (by omega)]; exact hold k hk
  obtain ⟨W2, hW2⟩ : ∃ W2, W2 = W1.drew.setRow w.heap.size (splice (splice (A ++ Z) (i * 5) t.cs) ((i + 1) * 5) C).toArray := ⟨_, rfl⟩
  have hcp2 : ∀ ty c1 c2, (Builtin.copy_ #[33, 33] ty #[.slice (some ⟨w.heap.size, (i + 1) * 5, none⟩) (l.length - i) c1, .slice (some ⟨g, i * 5, none⟩) (l.length - i) c2]).run Tryd.prog W1.drew = .ok (goInt (l.length - i : Nat)) W2 := by
    intro ty c1 c2
    have := run_copy5 W1.drew ty w.heap.size ((i + 1) * 5) (l.length - i) c1 ⟨g, i * 5, none⟩ (l.length - i) c2 _ 78 C hg1 (by rw [hlenD, nmin_l (Nat.le_refl _)])
      (fun j u hu => by
        rw [Addr.add_lit]
        exact (World.cell?_of_block (w := w) (w' := W1.drew) (a := ⟨g, i * 5 + j, none⟩) (hold1 g hglt)).trans (hCc j u hu)) (by omega) hC1
    rw [this, hW2, nmin_l (Nat.le_refl _)]
  have hg2 : W2.heap[w.heap.size]? = some (.cells (splice (splice (A ++ Z) (i * 5) t.cs) ((i + 1) * 5) C).toArray 78 (0, 0)) := by rw [hW2]; exact setRow_heap W1.drew _ _ _ 78 _ hg1
  have hgr : w.grownBy W2 (some g) := by
    refine ⟨by rw [hW2, hW1, hW0]; rfl, by rw [hW2, hW1, hW0]; rfl, by rw [hW2, hW1, hW0]; rfl, ?_, fun k hk hn => ?_⟩
    · have := (Array.getElem?_eq_some_iff.1 hg2).1; omega
    · rw [hW2, setRow_other W1.drew _ k _ (by omega)]; exact hold1 k hk
  have hfin : Inserted w (.slice (some ⟨g, 0, none⟩) l.length l.length) (l.take i ++ t :: l.drop i) (.returned (.slice (some ⟨w.heap.size, 0, none⟩) (l.length + 1) cap')) W2 := by
    have hll : (l.take i ++ t :: l.drop i).length = l.length + 1 := by simp; omega
    refine ⟨w.heap.size, cap', by rw [hll], ?_, hgr, .inr (Nat.le_refl _)⟩
    refine ⟨by rw [cs_len], .inr ⟨w.heap.size, cap', _, by rw [hll], Nat.zero_le _, hg2, by omega, hle, by rw [List.size_toArray, length_splice _ _ _ (by omega), hl1], ?_⟩⟩
    rw [hll, List.toList_toArray]
    have := grow_splice A C t.cs Z (i * 5) 5 hlenA rfl (by omega)
    rw [show i * 5 + 5 = (i + 1) * 5 by omega, hlenD, show (i + 1) * 5 + (l.length - i) * 5 = (l.length + 1) * 5 by omega] at this
    rw [this, hC, hA, List.flatMap_append, List.flatMap_cons]
  have hw1 : IntKind.i64.wrap ((i : Int) + 1) = (i : Int) + 1 := by rw [IntKind.wrap_i64]; omega
  have hb1 : (0 : Int) ≤ (i : Int) + 1 := by omega
  have htn : ((i : Int) + 1).toNat = i + 1 := by omega
  have hb3 : (i : Int) ≤ (l.length : Nat) + 1 := by omega
  have hb6 : i ≤ l.length := by omega
  have h1 : ¬ ((i : Int) = (l.length : Nat)) := by omega
  have h3 : ¬ cap' = i + 1 := by omega
  have h4 : ¬ cap' = i := by omega
  have h5 : (i : Int) ≤ (l.length : Nat) := by omega
  have h6 : ¬ l.length = i := by omega
  have hcp1' := fun ty => hcp1 ty (cap' - i)
  have HR := fun ty => hide (hrun ty)
  have H2 := fun ty => hide (hcp2 ty (cap' - (i + 1)) (l.length - i))
  have hc' : cap' ≤ 9223372036854775807 := hle
  have HF := hide hfin
  clear hfin hgr hg2 hl1 hg1 hCc hC1 hlenD hlenA hXt hXl hX hv hvb hC hW1 hW2 hW0 hcp1 hcp2 ht5 hold hold1 hv0 hg0 hZ0 hZl hZ hA hAc hlAZ hrun
  go_enter Tryd.func64, Tryd.ntmps64
  go_wp2_with (at_builtin; refine wpList_append_eq rfl _ _ 33 3 rfl rfl rfl (HR _).out ?_)
  go_region_law (refine step_copy_eq rfl _ _ 33 33 rfl (by simp [Act.eval, Act.put]) (by simp [Act.eval, Act.put]) (H2 _).out ?_)
  go_wp2_with fail
  go_ret
  exact HF.out
theorem insert_any (l : List Bd) (v : Value) (i : Nat) (t : Bd) (vb : Nat) (w : World) (hv : Bds w v l) (hl : l.length < 256) (hi : i ≤ l.length) (hvb : w.heap[vb]? = some (.cells t.cs.toArray 78 (0, 0))) (hne : v.ownBlock ≠ some vb) :
    Calls Tryd.prog 64 #[v, .int .i64 i, .slice (some ⟨vb, 0, none⟩) 1 1] w (Inserted w v (l.take i ++ t :: l.drop i)) := by
  rcases Nat.lt_or_ge i l.length with h | h
  · rcases hv.2 with ⟨e, h0⟩ | ⟨g, cap, cur, rfl, _⟩
    · omega
    · have hvg : vb ≠ g := fun e => hne (by rw [e]; rfl)
      by_cases hr : l.length + 1 ≤ cap
      · exact insert_room l g cap i t vb w hv hl h hvb hvg hr
      · exact insert_grow l g cap i t vb w hv hl h hvb hvg hr
  · obtain rfl : i = l.length := by omega
    have := insert_end l v t vb w hv hl hvb
    simpa using this
end Go.Proofs.YtekpamilcpeanaaDoor
