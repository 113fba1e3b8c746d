/-
  slices.Collect over a rectangle's cells: a row of cells.
-/
import Derived.Test.YtpikfplmghofbaaPath
import Derived.Test.YtpikfplmghofbaaAw
set_option linter.unusedSimpArgs false
namespace Go.Proofs.Ytpikfplmghofbaa
open Go.RowKit Go.Shelf
set_option linter.unusedVariables false
attribute [local go_sem] Oper.semAt_some
theorem wpListIn_append_run {F : Fence} {nF : Nat} {P : Program} {w : World} {ops : Array Oper} {rest : List Oper} {o : Oper} {a : Act} {Q : Exit → Act → World → Prop}
    (hgd : o.guard = none) (s x : Operand) (t : TypeId) (ho : o.op = .call { callee := .builtin .append, args := #[s, x], argTypes := #[t, t] })
    (v xv : Value) (hs : a.eval s = v) (hx : a.eval x = xv) {v' : Value} {w' : World} (hr : (Builtin.append_ #[t, t] o.type #[v, xv]).run P w = .ok v' w') (h : wpListIn F nF P ops Q rest (a.put o.dst v') w') :
    wpListIn F nF P ops Q (o :: rest) a w := by
  refine wpListIn_plain hgd fun K hK => ?_
  unfold Oper.wpIn
  refine ⟨by simp [Oper.about, ho, resolve, Target.leads, Sem.run_pure], ?_⟩
  rw [Oper.semAt_plain F _ _ (by rw [ho]; intro c hc'; cases hc')]
  simp [execOp, ho, resolve, invoke, builtin, hs, hx, hr, Result.andThen]
  exact hK _ _ h
theorem turns_put (X : World) {l : Nat} (o : Obj) (S : Nat → Prop) (hl : S l) : Turns S X (X.putObj l o) := Turns.of_grown (grownBy_putObj' X l o) (fun k e => by cases e; exact hl)
/-- The slice v reads as the cells P, in memory of the call's own. -/
def Cn (w : World) (v : Value) (P : List (Int × Int)) : Prop := w.ownsRow 0 23 2 v P.length (P.flatMap ceCs)
theorem Cn.append {w : World} {v : Value} {P : List (Int × Int)} (h : Cn w v P) (x y : Int) (hlen : P.length ≤ 20000) :
    ∃ v' w', (Builtin.append_ #[27, 27] 27 #[v, .slice (some ⟨w.heap.size, 0, none⟩) 1 1]).run Try.prog (w.alloc (.cells #[.int .i64 x, .int .i64 y] 23)) = .ok v' w' ∧ Cn w' v' (P ++ [(x, y)]) ∧ (w.alloc (.cells #[.int .i64 x, .int .i64 y] 23)).grownBy w' v.ownBlock ∧ (v'.ownBlock = v.ownBlock ∨ ∃ k, v'.ownBlock = some k ∧ w.heap.size ≤ k) := by
  obtain ⟨fi, hf, hz, h1, h8⟩ := info_parts info23c
  obtain ⟨v', w', q1, q2, q3, q4, q5⟩ := run_append_own_at (P := Try.prog) (w.alloc (.cells #[.int .i64 x, .int .i64 y] 23)) 0 27 27 23 fi (.agg #[.int .i64 0, .int .i64 0]) 2 16 Try.underlying27 hf hz h1 h8 rfl (by decide) v P.length _ (World.ownsRow.alloc h _) ⟨w.heap.size, 0, none⟩ 1 1 (ceCs (x, y)) rfl (fun j u hu => by
      rw [Addr.add_lit, Nat.zero_add, cell_of_row _ w.heap.size j _ _ _ (heap_alloc_new w _)]
      simpa [ceCs] using hu) (by intro u hu; simp [ceCs] at hu; rcases hu with rfl | rfl <;> rfl) (by unfold maxLen; omega) (by omega) (Nat.zero_le _)
  refine ⟨v', w', q1, ?_, q3, q5.imp id (fun e => ⟨_, e, by simp⟩)⟩
  unfold Cn
  rw [List.flatMap_append, List.length_append]
  simpa using q2
theorem Cn.block {w : World} {v : Value} {P : List (Int × Int)} (h : Cn w v P) {k : Nat} (hk : v.ownBlock = some k) : ∃ cur, w.heap[k]? = some (.cells cur 23) := by
  rcases h.2 with ⟨e, _⟩ | ⟨g, cap, cur, e, hb, hg, r⟩
  · rw [e] at hk; simp [Value.ownBlock] at hk
  · rw [e] at hk
    simp [Value.ownBlock] at hk
    subst hk
    exact ⟨cur, hg⟩
theorem Cn.slice {w : World} {v : Value} {P : List (Int × Int)} (h : Cn w v P) : ∃ a n c, v = .slice a n c := by
  rcases h.2 with ⟨e, _⟩ | ⟨g, cap, cur, e, hb, hg, r⟩
  · exact ⟨_, _, _, e⟩
  · exact ⟨_, _, _, e⟩
theorem Cn.kept {w w' : World} {v : Value} {P : List (Int × Int)} (h : Cn w v P) (hb : Below w.heap.size w w') : Cn w' v P := row_kept (S := NoB) h (Turns.of_below hb) (fun _ _ => id)
theorem Cn.nil (w : World) : Cn w (.slice none 0 0) [] := ⟨rfl, .inl ⟨rfl, rfl⟩⟩
/-- What the loop of AppendSeq keeps. -/
structure Gt (w X : World) (v : Value) (pre : List (Int × Int)) : Prop where
  nn : Cn X v pre
  own : ∀ k, v.ownBlock = some k → w.heap.size < k
  bx : Boxed X w.heap.size 27 v
  below : Below w.heap.size w X
theorem Gt.own_from {w : World} {B : Nat} (hB : w.heap.size ≤ B) : OwnFrom B (fun pre X => ∃ v, Gt w X v pre) := by
  rintro pre X Y row ⟨v, h⟩ hg hr
  have hc : ∀ k, row = some k → ∃ o : Obj, X.heap[k]? = some o ∧ o.isCells = false := fun k e => (hr k e).2
  have T : Turns (fun k => row = some k) X Y := Turns.of_grown hg (fun k e => e)
  have hb : row ≠ some w.heap.size := fun e => by
    obtain ⟨o, ho, hn⟩ := hc _ e
    rw [show X.heap[w.heap.size]? = _ from h.bx] at ho
    cases ho
    cases hn
  refine ⟨v, row_kept h.nn T (fun k e q => ?_), h.own, boxed_kept h.bx T hb, ?_⟩
  · obtain ⟨cur, hk⟩ := h.nn.block e
    obtain ⟨o, ho, hn⟩ := hc k q
    rw [hk] at ho
    cases ho
    cases hn
  · exact ownFrom_below (β := Unit) (Nat.le_refl _) hB () X Y row h.below hg hr
theorem Gt.push {w X : World} {v : Value} {pre : List (Int × Int)} (h : Gt w X v pre) (x y : Int) (hlen : pre.length ≤ 20000) {B : Nat} (hB : w.heap.size < B) :
    ∃ v' Y, (Builtin.append_ #[27, 27] 27 #[v, .slice (some ⟨X.heap.size, 0, none⟩) 1 1]).run Try.prog (X.alloc (.cells #[.int .i64 x, .int .i64 y] 23)) = .ok v' Y ∧ (∃ a n c, v' = .slice a n c) ∧ Y.cell? ⟨w.heap.size, 0, none⟩ = some v ∧ Y.frozen? ⟨w.heap.size, 0, none⟩ = false ∧
      KeepsFrom B X (Y.setCell ⟨w.heap.size, 0, none⟩ v') ∧ Below w.heap.size X (Y.setCell ⟨w.heap.size, 0, none⟩ v') ∧ Gt w (Y.setCell ⟨w.heap.size, 0, none⟩ v') v' (pre ++ [(x, y)]) := by
  obtain ⟨v', Y, r1, n1, g1, o1⟩ := h.nn.append x y hlen
  have b1 := box1 X (.cells #[.int .i64 x, .int .i64 y] 23)
  have hsz := h.below.size
  have hlt := h.bx.lt
  have T1 : Turns (fun k => v.ownBlock = some k) X Y := (Turns.of_below b1).trans ((Turns.of_grown (S := fun k => v.ownBlock = some k) g1 (fun k e => e)).mono (fun k _ e => .inl e))
  have hb : v.ownBlock ≠ some w.heap.size := fun e => by have := h.own _ e; omega
  have bY := boxed_kept h.bx T1 hb
  have T2 : Turns (fun k => k = w.heap.size) Y (Y.setCell ⟨w.heap.size, 0, none⟩ v') := Turns.set (S := fun k => k = w.heap.size) _ rfl _
  have own' : ∀ k, v'.ownBlock = some k → w.heap.size < k := fun k e => by
    rcases o1 with q | ⟨k', q, hk⟩
    · exact h.own k (q ▸ e)
    · rw [q] at e; cases e; omega
  have bl : Below w.heap.size X (Y.setCell ⟨w.heap.size, 0, none⟩ v') := (T1.below (fun k e => Nat.le_of_lt (h.own k e)) hsz).trans (T2.below (fun k e => by omega) (by have := T1.size; omega))
  refine ⟨v', Y, r1, n1.slice, bY.cell, bY.frozen, ⟨Nat.le_trans T1.size T2.size, fun k o hk ho hn => ?_⟩, bl, ⟨row_kept n1 T2 (fun k e q => by have := own' k e; omega), own', bY.set _, h.below.trans bl⟩⟩
  have hv : v.ownBlock ≠ some k := fun e => by
    obtain ⟨cur, hk2⟩ := h.nn.block e
    rw [ho] at hk2
    cases hk2
    cases hn
  exact T2.same (by omega) (T1.same hv ho)
set_option maxRecDepth 100000 in
set_option maxHeartbeats 4000000 in
theorem gather_any (B : Nat) (x y a b : Int) (w : World) (hF : Four w B x y a b) (hN : may x y a b = true → b.toNat * a.toNat ≤ 20000) :
    Calls Try.prog 43 #[.slice none 0 0, .func (.func 44) #[] #[ptr B]] w fun e w' => ∃ v, e = .returned v ∧ Cn w' v ((allC x y a b).map (·.1)) ∧ (∀ k, v.ownBlock = some k → w.heap.size ≤ k) ∧ Below w.heap.size w w' := by
  refine (callsIn_wide (n := 10)).1 ?_
  refine callsIn_of_wp_marks Try.func43 rfl trivial ?_ rfl
  simp only [Try.ntmps43, List.size_toArray, List.length_cons, List.length_nil, Nat.reduceAdd, Nat.reduceSub, Array.replicate_succ, Array.replicate_zero, List.push_toArray, List.append_toArray, List.nil_append, List.cons_append]
  obtain ⟨X, hX⟩ : ∃ X, w.alloc (.cells #[.slice none 0 0] 27) = X := ⟨_, rfl⟩
  have bX : Below w.heap.size w X := hX ▸ box1 _ _
  have zX : X.heap.size = w.heap.size + 1 := by rw [← hX]; simp
  have mX : Boxed X w.heap.size 27 (.slice none 0 0) := hX ▸ Boxed.new w 27 _
  have hBl := hF.2.2
  gi_wp2_with (rw [hX])
  clear hX
  refine wpIn_rangeFunc_ownH rfl (n := 10) (by omega) (gf := 44) (lb := #[ptr B]) rfl trivial (enters_of Try.func44 (by kernel_rfl) rfl)
    (cells_stops (10 - 1) B 20000 x y a b X (hF.kept bX) hN) kB_t (kB_b (by omega)) (Below.refl _ _) (fun _ => rfl)
    (fun pre Y => ∃ v, Gt w Y v (pre.map (·.1))) (fun _ _ _ => False) (fun pre Y Z row hs hg hr => Gt.own_from (w := w) (B := X.heap.size) (by omega) (pre.map (·.1)) Y Z row hs hg hr) (fun _ _ _ _ _ h _ _ => h.elim)
    ⟨_, Cn.nil _, fun k e => by simp [Value.ownBlock] at e, mX, bX⟩
    (fun q a' Y => ∃ Bx, X.heap.size ≤ Bx ∧ Two Y Bx q.1.1 q.1.2 ∧ a' = { tmps := #[.slice none 0 0, .func (.func 44) #[] #[ptr B], ptr w.heap.size, undef, .slice none 0 0, ptr Bx, .func (.func 44) #[] #[ptr B], cel q.1.1 q.1.2, undef, undef, undef, undef, undef], defers := [] })
    (fun q a' _ X Y row hs hg hr => by obtain ⟨Bx, e1, e2, e3⟩ := hs; exact ⟨Bx, e1, e2.own hg (fun r e => (hr r e).2), e3⟩)
    ?assign ?body ?done ?stop
  case assign =>
    rintro lo pre q Y K ⟨v, hG⟩ hK
    have hl := hG.below.size
    have hl2 := hG.bx.lt
    gi_wp2
    refine hK _ _ ((KeepsOthers.alloc _ _).from _) (Below.heap_alloc _ _ _ (by omega)) ⟨v, hG.nn.kept (box1 _ _), hG.own, hG.bx.alloc _, hG.below.alloc (by omega) _⟩ ⟨Y.heap.size, by omega, Two.newAt rfl, rfl⟩
  case body =>
    rintro lo pre q a' Y hlo hlr ⟨v, hG⟩ ⟨Bx, hBx, bX, rfl⟩ hlt
    obtain ⟨v2, Z, rA, ⟨a2, n2, c2, rfl⟩, c1, f1, hk, hb, hG2⟩ := hG.push q.1.1 q.1.2 (by rw [List.length_map]; omega) (B := X.heap.size) (by omega)
    have cv := hG.bx.cell
    have HA := hide rA
    have HE := hide (show KeepsFrom X.heap.size Y (Z.setCell ⟨w.heap.size, 0, none⟩ (.slice a2 n2 c2)) ∧ KB B Y (Z.setCell ⟨w.heap.size, 0, none⟩ (.slice a2 n2 c2)) ∧ ∃ v, Gt w (Z.setCell ⟨w.heap.size, 0, none⟩ (.slice a2 n2 c2)) v ((pre ++ [q]).map (·.1)) from ⟨hk, kB_below hb hBl, _, by rw [List.map_append]; exact hG2⟩)
    obtain ⟨a1, n1, c3, hv1⟩ := hG.nn.slice
    subst hv1
    obtain ⟨⟨e0, e1⟩, -, -⟩ := id bX
    have d1 : (Y.alloc (.cells #[.int .i64 q.1.1, .int .i64 q.1.2] 23)).cell? ⟨w.heap.size, 0, none⟩ = some (.slice a1 n1 c3) := ((box1 Y _).cell (p := ⟨w.heap.size, 0, none⟩) hG.bx.lt).trans cv
    clear rA hk hb hG2 hG
    gi_wp2_with (gi_at_builtin; refine wpListIn_append_run rfl _ _ 27 rfl _ _ rfl rfl HA.out ?_)
    exact HE.out
  case done =>
    rintro D xs Y hD rfl ⟨v, hG⟩ hK
    have cv := hG.bx.cell
    obtain ⟨a1, n1, c3, hv1⟩ := hG.nn.slice
    subst hv1
    have HG := hide hG
    clear hG
    gi_wp2_with fail
    refine ⟨by simp, .inl ⟨_, _, rfl, run_takeDeferred hK, ?_⟩⟩
    have tp : Turns (fun k => k = D) Y (Y.putObj D (.deferred none)) := turns_put _ _ _ rfl
    refine ⟨.slice a1 n1 c3, by simp [results, Try.f43, go_sem], _, rfl, row_kept HG.out.nn tp (fun k e q => ?_), fun k e => Nat.le_of_lt (HG.out.own k e), HG.out.below.trans (tp.below (fun k e => by omega) HG.out.below.size)⟩
    obtain ⟨cur, hk⟩ := HG.out.nn.block e
    subst q
    rw [hK] at hk
    cases hk
  case stop => exact fun D c pre Y hD hp h hK => h.elim
theorem collect_any (B : Nat) (x y a b : Int) (w : World) (hF : Four w B x y a b) (hN : may x y a b = true → b.toNat * a.toNat ≤ 20000) :
    Calls Try.prog 28 #[.func (.func 44) #[] #[ptr B]] w fun e w' => ∃ v, e = .returned v ∧ Cn w' v ((allC x y a b).map (·.1)) ∧ (∀ k, v.ownBlock = some k → w.heap.size ≤ k) ∧ Below w.heap.size w w' := by
  have HG := hide (gather_any B x y a b w hF hN)
  go_enter Try.func28, Try.ntmps28
  go_wp2_with fail
  refine HG.out.mono ?_
  rintro e w1 ⟨v, rfl, h1, h2, h3⟩
  obtain ⟨a1, n1, c1, rfl⟩ := h1.slice
  have HE := hide (And.intro h1 (And.intro h2 h3))
  clear h1 h2 h3 HG
  go_wp2_with fail
  go_ret
  exact ⟨_, rfl, HE.out⟩
end Go.Proofs.Ytpikfplmghofbaa
