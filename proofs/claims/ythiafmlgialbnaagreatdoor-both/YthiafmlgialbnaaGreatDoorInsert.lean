/-
  slices.BinarySearchFunc over buildings by rising number; where a number stands, or would come. slices.Insert of one building into a row of the call's own.
-/
import Derived.Test.YthiafmlgialbnaaGreatDoorSearch
import Derived.Maps.AppendAt
import Derived.Laws.CopyOwn
import Derived.Deep.RegionLaw
import Derived.Lib.Overlaps
namespace Go.Proofs.YthiafmlgialbnaaGreatDoor
open Go.RowKit
set_option linter.unusedVariables false
def Sorted (l : List Bd) : Prop := l.Pairwise (fun s t => s.id < t.id)
def pos (l : List Bd) (i : Int) : Nat := (l.takeWhile (fun t => decide (t.id < i))).length
def found (l : List Bd) (i : Int) : Bool := l.any (fun t => decide (t.id = i))
theorem pos_le : ∀ (l : List Bd) (i : Int), pos l i ≤ l.length
  | [], _ => Nat.le_refl _
  | t :: r, i => by
    unfold pos
    rw [List.takeWhile_cons]
    split
    · have := pos_le r i; unfold pos at this; simpa using this
    · simp
theorem pos_iff : ∀ {l : List Bd}, Sorted l → ∀ (i : Int) (k : Nat) (t : Bd), l[k]? = some t → (t.id < i ↔ k < pos l i)
  | [], _, _, _, _, h => by simp at h
  | s :: r, hs, i, 0, t, h => by
    simp at h; subst h
    unfold pos
    rw [List.takeWhile_cons]
    split <;> simp_all
  | s :: r, hs, i, k + 1, t, h => by
    simp at h
    obtain ⟨h1, h2⟩ := List.pairwise_cons.1 hs
    have hm : t ∈ r := List.mem_of_getElem? h
    have ih := pos_iff h2 i k t h
    have := h1 t hm
    unfold pos at ih ⊢
    rw [List.takeWhile_cons]
    split
    · rename_i hd; rw [ih]; simp
    · rename_i hd; simp at hd; simp; omega
theorem found_iff {l : List Bd} (hs : Sorted l) (i : Int) : found l i = true ↔ ∃ t, l[pos l i]? = some t ∧ t.id = i := by
  unfold found
  rw [List.any_eq_true]
  constructor
  · rintro ⟨t, hm, ht⟩
    simp at ht
    obtain ⟨k, hk⟩ := List.getElem?_of_mem hm
    have h1 := pos_iff hs i k t hk
    refine ⟨t, ?_, ht⟩
    have hle : pos l i ≤ k := by omega
    by_cases he : pos l i = k
    · rw [he]; exact hk
    · have hlt : pos l i < l.length := by have := (List.getElem?_eq_some_iff.1 hk).1; omega
      have h2 := pos_iff hs i (pos l i) l[pos l i] (List.getElem?_eq_getElem hlt)
      have h3 : l[pos l i].id < t.id := by
        have := List.pairwise_iff_getElem.1 hs (pos l i) k hlt (List.getElem?_eq_some_iff.1 hk).1 (by omega)
        rwa [(List.getElem?_eq_some_iff.1 hk).2] at this
      omega
  · rintro ⟨t, h1, h2⟩
    exact ⟨t, List.mem_of_getElem? h1, by simp [h2]⟩
theorem found_at {l : List Bd} (hs : Sorted l) {i : Int} {t : Bd} (h : l[pos l i]? = some t) : found l i = decide (t.id = i) := by
  rw [Bool.eq_iff_iff, found_iff hs, decide_eq_true_iff]
  exact ⟨fun ⟨u, h1, h2⟩ => by rw [h] at h1; cases h1; exact h2, fun e => ⟨t, h, e⟩⟩
theorem found_end {l : List Bd} (hs : Sorted l) {i : Int} (h : pos l i = l.length) : found l i = false := by
  rw [Bool.eq_false_iff]
  intro hf
  obtain ⟨t, h1, _⟩ := (found_iff hs i).1 hf
  rw [h] at h1
  simp at h1
theorem ret_ib {a b : Int} {c d : Bool} (h1 : a = b) (h2 : c = d) : Ending.returned (.tuple #[.int .i64 a, .bool c]) = .returned (.tuple #[.int .i64 b, .bool d]) := by rw [h1, h2]
theorem cmp_neg {x y : Int} : cmpI x y < 0 ↔ x < y := by unfold cmpI; split <;> (try split) <;> omega
theorem cmp_zero {x y : Int} : cmpI x y = 0 ↔ x = y := by unfold cmpI; split <;> (try split) <;> omega
set_option maxHeartbeats 1000000 in
set_option maxRecDepth 100000 in
theorem search_any (l : List Bd) (v : Value) (i : Int) (w : World) (hv : Bds w v l) (hs : Sorted l) (hl : l.length ≤ 256) :
    Calls Tryz.prog 105 #[v, .int .i64 i, .func (.func 106) #[] #[]] w fun e w' => e = .returned (.tuple #[.int .i64 (pos l i), .bool (found l i)]) ∧ Below w.heap.size w w' := by
  obtain ⟨a, cap, rfl, hcap, hmax, hat⟩ := hv.form
  have hlen : (0 : Int) ≤ (l.length : Nat) ∧ ((l.length : Nat) : Int) ≤ 256 := by omega
  go_enter Tryz.func105, Tryz.ntmps105
  go_wp2_with fail
  go_loopw [9, 10, 11] (fun p q r wr => ∃ m n : Nat, m ≤ pos l i ∧ pos l i ≤ n ∧ n ≤ l.length ∧ p = .int .i64 m ∧ q = .int .i64 n ∧ Below w.heap.size w wr) (fun p q r _ => (intOf q).toNat - (intOf p).toNat)
  case atStart =>
    exact ⟨0, l.length, Nat.zero_le _, pos_le l i, Nat.le_refl _, rfl, rfl, Below.refl _ _⟩
  case round =>
    obtain ⟨m, n, hm, hn, hn2, rfl, rfl, hb⟩ := hrel
    by_cases hlt : m < n
    · obtain ⟨h, hh, hmh, hhn⟩ : ∃ h : Nat, ((m : Int) + n) / 2 = (h : Int) ∧ m ≤ h ∧ h < n := ⟨(m + n) / 2, by omega, by omega, by omega⟩
      have hk : l[h]? = some l[h] := List.getElem?_eq_getElem (by omega)
      obtain ⟨t, ht⟩ : ∃ t, l[h]? = some t := ⟨_, hk⟩
      have hp := pos_iff hs i h t ht
      obtain ⟨g, rfl, hg, c0, c1, c2, c3, c4⟩ := (hat h t ht).kept hb
      have hsz : (h : Int) < (l.length : Nat) := by omega
      have Hp := hide hp
      have Hs := hide hs
      clear hk hp hs ht hat
      by_cases hc : t.id < i
      · have hc' : cmpI t.id i < 0 := cmp_neg.2 hc
        go_wp2_with fail
        refine (clo_any t i _).mono ?_
        rintro e w1 ⟨rfl, hb1⟩
        have hb2 := bt hb hb1
        go_wp2_with fail
        go_roundw
        case rel => exact ⟨h + 1, n, (Hp.out.1 hc), hn, hn2, by go_num, rfl, hb2⟩
        case measure => simp [intOf]; omega
      · have hc' : ¬ cmpI t.id i < 0 := fun e => hc (cmp_neg.1 e)
        go_wp2_with fail
        refine (clo_any t i _).mono ?_
        rintro e w1 ⟨rfl, hb1⟩
        have hb2 := bt hb hb1
        go_wp2_with fail
        go_roundw
        case rel => exact ⟨m, h, hm, by have := Hp.out; omega, by omega, rfl, rfl, hb2⟩
        case measure => simp [intOf]; omega
    · have hmn : m = pos l i := by omega
      have hnn : n = pos l i := by omega
      subst hmn
      subst hnn
      generalize hpl : pos l i = P at *
      have Hpl := hide hpl
      by_cases hP : P < l.length
      · obtain ⟨t, ht⟩ : ∃ t, l[P]? = some t := ⟨_, List.getElem?_eq_getElem hP⟩
        have hf : found l i = decide (t.id = i) := found_at hs (by rw [hpl]; exact ht)
        have Hf := hide hf
        obtain ⟨g, rfl, hg, c0, c1, c2, c3, c4⟩ := (hat P t ht).kept hb
        have hsz : (P : Int) < (l.length : Nat) := by omega
        clear hpl hf hat ht hs
        go_wp2_with fail
        refine (clo_any t i _).mono ?_
        rintro e w1 ⟨rfl, hb1⟩
        have hb2 := bt hb hb1
        go_wp2_with fail
        go_ret2
        exact ⟨ret_ib (by rw [Hpl.out]) (by rw [Hf.out, Bool.eq_iff_iff, decide_eq_true_iff]; simp [cmp_zero]), hb2⟩
      · have hf : found l i = false := found_end hs (by rw [hpl]; omega)
        have Hf := hide hf
        have hsz : ¬ (P : Int) < (l.length : Nat) := by omega
        clear hpl hf hat hs
        go_wp2_with fail
        go_ret2
        exact ⟨ret_ib (by rw [Hpl.out]) (by rw [Hf.out]), hb⟩
theorem index_any (l : List Bd) (v : Value) (i : Int) (p : Nat) (w : World) (hc : w.cell? ⟨p, 5, none⟩ = some v) (hv : Bds w v l) (hs : Sorted l) (hl : l.length ≤ 256) :
    Calls Tryz.prog 68 #[.pointer (some ⟨p, 0, none⟩), .int .i64 i] w fun e w' => e = .returned (.tuple #[.int .i64 (pos l i), .bool (found l i)]) ∧ Below w.heap.size w w' := by
  obtain ⟨a, cap, rfl, hcap, hmax, hat⟩ := hv.form
  go_enter Tryz.func68, Tryz.ntmps68
  go_wp2_with (go_at_call 105; refine (search_any l _ i _ hv hs hl).mono ?_; rintro e w1 ⟨rfl, hb1⟩)
  go_ret2
  exact ⟨rfl, hb1⟩
end Go.Proofs.YthiafmlgialbnaaGreatDoor
namespace Go.Proofs.YthiafmlgialbnaaGreatDoor
open Go.RowKit
set_option linter.unusedVariables false
def z55 : Value := .agg #[.int .i64 0, .int .i64 0, .int .i64 0, .int .i64 0, .int .i64 0]
theorem info55 : (Tryz.prog.info? 51).map (fun i => (i.zero, i.size, i.bytes)) = some (some z55, 5, 40) := by kernel_rfl
theorem sizeOf55 (w : World) : (Go.sizeOf 51).run Tryz.prog w = .ok 5 w := by kernel_rfl
theorem one_cs {t : Bd} : ∀ u ∈ t.cs, u.oneCell' = true := by
  intro u hu
  simp only [Bd.cs, List.mem_cons, List.not_mem_nil, or_false] at hu
  rcases hu with rfl | rfl | rfl | rfl | rfl <;> rfl
theorem one_all {l : List Bd} : ∀ u ∈ l.flatMap Bd.cs, u.oneCell' = true := by
  intro u hu
  obtain ⟨t, _, h⟩ := List.mem_flatMap.1 hu
  exact one_cs u h
theorem run_copy5 (w : World) (ty : TypeId) (g o dLen dCap : Nat) (a : Addr) (sLen sCap : Nat) (cur : List Value) (t : TypeId) (cs : List Value)
    (hg : w.heap[g]? = some (.cells cur.toArray t (0, 0))) (hn : cs.length = Nat.min sLen dLen * 5)
    (hsrc : ∀ j v, cs[j]? = some v → w.cell? (a.add j) = some v) (hfit : o + cs.length ≤ cur.length) (h1 : ∀ v ∈ cs, v.oneCell' = true) :
    (Builtin.copy_ #[23, 23] ty #[.slice (some ⟨g, o, none⟩) dLen dCap, .slice (some a) sLen sCap]).run Tryz.prog w =
      .ok (goInt (Nat.min sLen dLen)) (w.setRow g (splice cur o cs).toArray) := by
  have hl := run_loadCells_list (P := Tryz.prog) w a cs hsrc
  have hst := run_storeCells_at Tryz.prog g o t cs 0 cur.toArray w hg (by simpa using hfit) h1
  obtain ⟨i, hi, _, h5, _⟩ := info_parts info55
  simp [Builtin.copy_, run_underlying Tryz.underlying23, Builtin.lenOf, Builtin.firstCells, sizeOf, typeInfo, hi, h5, ← hn, hl, hst, splice]
theorem wp_copy_eq {P : Program} {w : World} {o : Oper} {a : Act} {K : Act → World → Prop} {Q : Exit → Act → World → Prop} (d s : Operand) (t t' : TypeId)
    (ho : o.op = .call { callee := .builtin .copy, args := #[d, s], argTypes := #[t, t'] }) {v u v' : Value} {w' : World} (hd : a.eval d = v) (hs : a.eval s = u)
    (hr : (Builtin.copy_ #[t, t'] o.type #[v, u]).run P w = .ok v' w') (h : K (a.put o.dst v') w') : o.wp P a w K Q := by
  unfold Oper.wp execOp
  simp only [ho, resolve, invoke, builtin, Sem.run_bind, Sem.run_pure, Result.andThen_ok, List.map_toArray, List.map_cons, List.map_nil, hd, hs, hr]
  exact h
theorem step_copy_eq {P : Program} {ops : Array Oper} {o : Oper} {a : Act} {w : World} {K : Act → World → Prop} {Q : Exit → Act → World → Prop} {E : Prop} (hgd : o.guard = none) (d s : Operand) (t t' : TypeId)
    (ho : o.op = .call { callee := .builtin .copy, args := #[d, s], argTypes := #[t, t'] }) {v u v' : Value} {w' : World} (hd : a.eval d = v) (hs : a.eval s = u)
    (hr : (Builtin.copy_ #[t, t'] o.type #[v, u]).run P w = .ok v' w') (hK : K (a.put o.dst v') w') :
    if Region.wanted o (yielded ops a.tmps) = true then Oper.wp P o a w K Q else E := by
  have hw : Region.wanted o (yielded ops a.tmps) = true := by simp [Region.wanted, hgd]
  rw [if_pos hw]
  exact wp_copy_eq d s t t' ho hd hs hr hK
theorem wpList_append_eq {P : Program} {w : World} {ops : Array Oper} {rest : List Oper} {o : Oper} {a : Act} {Q : Exit → Act → World → Prop} (hgd : o.guard = none) (d s : Operand) (t t' : TypeId)
    (ho : o.op = .call { callee := .builtin .append, args := #[d, s], argTypes := #[t, t'] }) {v u v' : Value} {w' : World} (hd : a.eval d = v) (hs : a.eval s = u)
    (hr : (Builtin.append_ #[t, t'] o.type #[v, u]).run P w = .ok v' w') (h : wpList P ops Q rest (a.put o.dst v') w') : wpList P ops Q (o :: rest) a w := by
  refine wpList_plain hgd fun _ hK => ?_
  unfold Oper.wp execOp
  simp only [ho, resolve, invoke, builtin, Sem.run_bind, Sem.run_pure, Result.andThen_ok, List.map_toArray, List.map_cons, List.map_nil, hd, hs, hr]
  exact hK _ _ h
/-- append(s[:i], make(S, k)...) where there is no room. -/
theorem run_append_zeros (w : World) (ty : TypeId) (g i c k : Nat) (olds : List Value) (ho : olds.length = i * 5) (hold : ∀ j v, olds[j]? = some v → w.cell? ((⟨g, 0, none⟩ : Addr).add j) = some v) (hc : c < i + k) (hk : 0 < k) (hs : i + k ≤ 1000) :
    ∃ cap : Nat, i + k ≤ cap ∧ cap ≤ maxLen ∧ (Builtin.append_ #[23, 3] ty #[.slice (some ⟨g, 0, none⟩) i c, .int .i64 k]).run Tryz.prog w =
      .ok (.slice (some ⟨w.heap.size, 0, none⟩) (i + k) cap) (w.drew.alloc (.cells (olds.toArray ++ (Builtin.zeroCells z55.cells k ++ Builtin.zeroCells z55.cells (cap - (i + k)))) 51)) := by
  obtain ⟨f, hf, hz, h5, h40⟩ := info_parts info55
  refine ⟨grownCap w (i + k) c 51, grownCap_ge _ _ _ _, grownCap_le_maxLen _ _ _ _ (by unfold maxLen; omega), ?_⟩
  have hl := run_firstCells_some (P := Tryz.prog) w.drew 5 i ⟨g, 0, none⟩ i c olds ho (fun j v h => hold j v h)
  have hn : ¬ (i + k ≤ c) := by omega
  have hfit := growslice_fits (bytes := 40) (show c < i + k by omega) (by omega)
  have h48 : ¬ (281474976710656 < Builtin.nextslicecap (i + k) c * 40) := by omega
  have hw : IntKind.i64.wrap (k : Int) = k := by rw [IntKind.wrap_i64]; omega
  have hneg : ¬ ((k : Int) < 0) := by omega
  have hbig : ¬ ((281474976710656 : Int) < (k : Int) * 40) := by omega
  have h63 : ¬ ((9223372036854775807 : Int) < (i : Int) + (k : Int)) := by omega
  have hk5 : ¬ (k = 0) := by omega
  have hmx : max (k : Int) 0 = k := by omega
  simp [Builtin.append_, run_underlying Tryz.underlying23, run_underlying Tryz.underlying3, sizeOf, typeInfo, zeroValue, hf, hz, h5, h40, asInt, asIntOf, hw, hneg, hbig, hn, h63, h48, hmx, Question.forced, hl, newRow, grownCap]
  omega
theorem zero_len (k : Nat) : (Builtin.zeroCells z55.cells k).toList.length = k * 5 := by rw [Array.length_toList, size_zeroCells]; rfl
theorem row_form {w : World} {e : TypeId} {size : Nat} {v : Value} {n : Nat} {xs : List Value} (h : w.ownsRow 0 e size v (n + 1) xs) : ∃ g cap, v = .slice (some ⟨g, 0, none⟩) (n + 1) cap := by
  rcases h.2 with ⟨_, h0⟩ | ⟨g, cap, cur, e, _⟩
  · omega
  · exact ⟨g, cap, e⟩
/-- What slices.Insert tells. -/
def Inserted (w : World) (v : Value) (l' : List Bd) (e : Ending) (w' : World) : Prop :=
  ∃ g cap, e = .returned (.slice (some ⟨g, 0, none⟩) l'.length cap) ∧ Bds w' (.slice (some ⟨g, 0, none⟩) l'.length cap) l' ∧ w.grownBy w' v.ownBlock ∧ (v.ownBlock = some g ∨ w.heap.size ≤ g)
theorem cells_vb {w : World} {vb : Nat} {t : Bd} (h : w.heap[vb]? = some (.cells t.cs.toArray 51 (0, 0))) : ∀ j u, t.cs[j]? = some u → w.cell? ((⟨vb, 0, none⟩ : Addr).add j) = some u := by
  intro j u hu
  rw [Addr.add_lit, Nat.zero_add, cell_of_row w vb j _ _ _ h]
  simpa using hu
set_option maxRecDepth 100000 in
set_option maxHeartbeats 1000000 in
theorem insert_end (l : List Bd) (v : Value) (t : Bd) (vb : Nat) (w : World) (hv : Bds w v l) (hl : l.length < 256) (hvb : w.heap[vb]? = some (.cells t.cs.toArray 51 (0, 0))) :
    Calls Tryz.prog 82 #[v, .int .i64 (l.length : Nat), .slice (some ⟨vb, 0, none⟩) 1 1] w (Inserted w v (l ++ [t])) := by
  obtain ⟨f, hf, hz, h5, h40⟩ := info_parts info55
  have hnews := cells_vb hvb
  have H := hide hvb
  have HV := hide hv
  have hlen : (0 : Int) ≤ (l.length : Nat) ∧ ((l.length : Nat) : Int) < 256 := by omega
  obtain ⟨a, cap, rfl, hcap, hmax, -⟩ := hv.form
  have hmax' : cap ≤ 9223372036854775807 := hmax
  clear hv hvb
  have hm1 : l.length + 1 ≤ maxLen := by unfold maxLen; omega
  have hm2 : (l.length + 1) * 40 ≤ 140737488355328 := by omega
  by_cases hcc : cap = l.length
  · subst hcc
    go_enter Tryz.func82, Tryz.ntmps82
    go_wp2_with (at_builtin; refine wpList_append_own_at _ rfl _ _ 23 rfl 0 51 f z55 5 40 Tryz.underlying23 hf hz h5 h40 rfl (by decide) (.slice a l.length l.length) l.length _ rfl HV.out ⟨vb, 0, none⟩ 1 1 t.cs rfl rfl hnews one_cs hm1 hm2 (Nat.zero_le _) ?_; intro v' w1 hown' hgrow hnil hloc; obtain ⟨g', cap', rfl⟩ := row_form hown')
    go_ret
    refine ⟨g', cap', by simp, ?_, hgrow, ?_⟩
    · simpa [Bds] using hown'
    · rcases hloc with h | h
      · exact .inl (by rw [← h]; rfl)
      · simp only [Value.ownBlock, Option.some.injEq] at h; exact .inr (by omega)
  · have hcc' : ¬ cap ≤ l.length := by omega
    go_enter Tryz.func82, Tryz.ntmps82
    go_wp2_with (at_builtin; refine wpList_append_own_at _ rfl _ _ 23 rfl 0 51 f z55 5 40 Tryz.underlying23 hf hz h5 h40 rfl (by decide) (.slice a l.length cap) l.length _ rfl HV.out ⟨vb, 0, none⟩ 1 1 t.cs rfl rfl hnews one_cs hm1 hm2 (Nat.zero_le _) ?_; intro v' w1 hown' hgrow hnil hloc; obtain ⟨g', cap', rfl⟩ := row_form hown')
    go_ret
    refine ⟨g', cap', by simp, ?_, hgrow, ?_⟩
    · simpa [Bds] using hown'
    · rcases hloc with h | h
      · exact .inl (by rw [← h]; rfl)
      · simp only [Value.ownBlock, Option.some.injEq] at h; exact .inr (by omega)
theorem ov_any (w : World) (vb g n c n' c' o : Nat) (t : Bd) (cur : Array Value) (hne : vb ≠ g) (hvb : w.heap[vb]? = some (.cells t.cs.toArray 51 (0, 0))) (hg : w.heap[g]? = some (.cells cur 51 (0, 0))) (hc : cur.size ≠ 0) :
    (callFunc 118 #[.slice (some ⟨vb, 0, none⟩) n c, .slice (some ⟨g, o, none⟩) n' c']).run Tryz.prog w = .ok (.value (.bool false)) w := by
  rw [run_callFunc_extern Tryz.func118 (by kernel_rfl) (by kernel_rfl) (by kernel_rfl) (e := Extern.SlicesOverlaps.overlaps #[23, 23] #[4]) (by kernel_rfl),
    Lib.run_overlaps_apart w 23 4 51 Tryz.underlying23 5 sizeOf55 ⟨vb, 0, none⟩ ⟨g, o, none⟩ n c n' c' hne 51 51 5 cur.size (by simp [World.shape?, hvb, Bd.cs]) (by simp [World.shape?, hg]) hc (by simp [World.frozen?, hvb]) (by simp [World.frozen?, hvb])]
  rfl
end Go.Proofs.YthiafmlgialbnaaGreatDoor
