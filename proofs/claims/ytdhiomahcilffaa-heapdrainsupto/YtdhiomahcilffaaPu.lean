/-
  Push.
-/
import Derived.Test.YtdhiomahcilffaaLift
import Derived.Maps.AppendAt
namespace Go.Proofs.Ytdhiomahcilffaa
open Go.RowKit
set_option linter.unusedVariables false
set_option linter.unusedSimpArgs false
attribute [local go_sem] Oper.semAt_some
def z59 : Value := .agg #[.int .i64 0, .int .i64 0, .int .i64 0]
theorem info59 : (Try.prog.info? 59).map (fun i => (i.zero, i.size, i.bytes)) = some (some z59, 3, 24) := by kernel_rfl
theorem info_parts {P : Program} {t : TypeId} {z : Value} {s b : Nat} (h : (P.info? t).map (fun i => (i.zero, i.size, i.bytes)) = some (some z, s, b)) : ∃ i, P.info? t = some i ∧ i.zero = some z ∧ i.size = s ∧ i.bytes = b := by
  cases hi : P.info? t with
  | none => rw [hi] at h; cases h
  | some i => rw [hi] at h; simp at h; exact ⟨i, rfl, h.1, h.2.1, h.2.2⟩
theorem one_it {r : It} : ∀ u ∈ r.cs, u.oneCell' = true := by
  intro u hu
  simp only [It.cs, List.mem_cons, List.not_mem_nil, or_false] at hu
  rcases hu with rfl | rfl | rfl <;> rfl
/-- append as one step of a region that draws its order, onto a row of the call's own. -/
theorem step_append_row {P : Program} {ops : Array Oper} {o : Oper} {a : Act} {w : World} {K : Act → World → Prop} {Q : Exit → Act → World → Prop} {E : Prop} (hgd : o.guard = none) (s x : Operand) (t : TypeId)
    (ho : o.op = .call { callee := .builtin .append, args := #[s, x], argTypes := #[t, t] })
    (e : TypeId) (i : TypeInfo) (z : Value) (size bytes : Nat) (ht : P.underlying t = some (.slice e)) (hi : P.info? e = some i) (hz : i.zero = some z)
    (hsize : i.size = size) (hby : i.bytes = bytes) (hzs : z.cells.size = size) (hsz : 0 < size)
    (v : Value) (n : Nat) (xs : List Value) (hs : a.eval s = v) (hown : w.ownsRow 0 e size v n xs)
    (ad : Addr) (m c : Nat) (news : List Value) (hx : a.eval x = .slice (some ad) m c) (hl : news.length = m * size) (hnews : ∀ j u, news[j]? = some u → w.cell? (ad.add j) = some u) (h1 : ∀ u ∈ news, u.oneCell' = true)
    (h63 : n + m ≤ maxLen) (hbytes : (n + m) * bytes ≤ 140737488355328)
    (h : ∀ v' w', w'.ownsRow 0 e size v' (n + m) (xs ++ news) → w.grownBy w' v.ownBlock → (v'.ownBlock = v.ownBlock ∨ v'.ownBlock = some w.heap.size) → K (a.put o.dst v') w') :
    if Region.wanted o (yielded ops a.tmps) = true then Oper.wp P o a w K Q else E := by
  have hw : Region.wanted o (yielded ops a.tmps) = true := by simp [Region.wanted, hgd]
  rw [if_pos hw]
  obtain ⟨v', w', hr, h2, h3, h4, h5⟩ := run_append_own_at (P := P) w 0 t o.type e i z size bytes ht hi hz hsize hby hzs hsz v n xs hown ad m c news hl hnews h1 h63 hbytes (Nat.zero_le _)
  unfold Oper.wp execOp
  simp only [ho, resolve, invoke, builtin, Sem.run_bind, Sem.run_pure, Result.andThen_ok, List.map_toArray, List.map_cons, List.map_nil, hs, hx, hr]
  exact h v' w' h2 h3 h5
theorem it_new (w : World) (r : It) : ∀ j u, r.cs[j]? = some u → (w.alloc (.cells #[.int .i64 r.k, .int .i64 r.n, .int .i64 r.p] 59)).cell? ((⟨w.heap.size, 0, none⟩ : Addr).add j) = some u := by
  intro j u hu
  rw [Addr.add_lit, Nat.zero_add, cell_of_row _ w.heap.size j _ _ _ (heap_alloc_new w _)]
  simpa [It.cs] using hu
theorem row_form {w : World} {e : TypeId} {k n : Nat} {v : Value} {xs : List Value} (h : w.ownsRow 0 e k v (n + 1) xs) : ∃ g cap, v = .slice (some ⟨g, 0, none⟩) (n + 1) cap := by
  rcases h.2 with ⟨_, h0⟩ | ⟨g, cap, cur, e, _⟩
  · omega
  · exact ⟨g, cap, e⟩
/-- A heap in memory, with the values S that it holds. -/
def Hs (w : World) (b : Nat) (v : Value) (n : Int) (S : List It) : Prop := ∃ l, Hp w b v n false ∧ Its w v l ∧ Heap l ∧ l.Perm S
theorem Hs.kept {w w' : World} {b : Nat} {v : Value} {n : Int} {S : List It} {T : Nat → Prop} (h : Hs w b v n S) (ht : Turns T w w') (h1 : ¬ T b) (h2 : ∀ k, v.ownBlock = some k → ¬ T k) : Hs w' b v n S := by
  obtain ⟨l, a1, a2, a3, a4⟩ := h
  exact ⟨l, a1.kept ht h1, a2.kept ht h2, a3, a4⟩
theorem Hs.upto {w w' : World} {b : Nat} {v : Value} {n : Int} {S : List It} (h : Hs w b v n S) (hb : Below w.heap.size w w') : Hs w' b v n S := h.kept (T := NoB) (Turns.of_below hb) id (fun _ _ => id)
/-- What Push leaves. -/
def Pushed (w : World) (b : Nat) (v : Value) (n : Int) (S : List It) (t : It) (w' : World) : Prop :=
  ∃ v', Hs w' b v' (n + 1) (t :: S) ∧ Turns (fun k => k = b ∨ v.ownBlock = some k) w w' ∧ ∀ k, v'.ownBlock = some k → v.ownBlock = some k ∨ w.heap.size ≤ k
set_option maxRecDepth 100000 in
set_option maxHeartbeats 2000000 in
theorem push_is (b : Nat) (v : Value) (n : Int) (S : List It) (k m : Int) (w : World) (h : Hs w b v n S) (hn : 0 ≤ n ∧ n + 1 ≤ 9223372036854775807) (hlen : (S.length + 1) * 24 ≤ 140737488355328) :
    Calls Try.prog 9 #[ptr b, itv k m] w fun e w' => e = .returned (.tuple #[]) ∧ Pushed w b v n S ⟨k, m, n⟩ w' := by
  obtain ⟨l, hp, hv, hH, hS⟩ := h
  have hll : l.length = S.length := hS.length_eq
  have B0 : Below w.heap.size w (w.alloc (.cells #[.int .i64 k, .int .i64 m] 26)) := box1 _ _
  have b0 : (w.alloc (.cells #[.int .i64 k, .int .i64 m] 26)).cell? ⟨w.heap.size, 0, none⟩ = some (.int .i64 k) := by simp [go_sem]
  have b1 : (w.alloc (.cells #[.int .i64 k, .int .i64 m] 26)).cell? ⟨w.heap.size, 1, none⟩ = some (.int .i64 m) := by simp [go_sem]
  obtain ⟨X, hX⟩ : ∃ X, w.alloc (.cells #[.int .i64 k, .int .i64 m] 26) = X := ⟨_, rfl⟩
  rw [hX] at B0 b0 b1
  have hpX := hp.upto B0
  have hvX := hv.upto B0
  have hlt := hp.lt
  have hltX := hpX.lt
  have hne := hpX.ne_row hvX (by decide)
  have HX := hide hX
  have HT := hide (turns_any b v n false X hpX)
  have hvw : ∀ k, v.ownBlock = some k → k < w.heap.size := fun k e => by
    rcases hv.2 with ⟨rfl, _⟩ | ⟨g, cap, cur, rfl, _, hg, _⟩
    · simp [Value.ownBlock] at e
    · simp [Value.ownBlock] at e; subst e; exact (Array.getElem?_eq_some_iff.1 hg).1
  have c1 : X.cell? ⟨b, 1, none⟩ = some v := hpX.c 1
  have c2 : X.cell? ⟨b, 2, none⟩ = some (.int .i64 n) := hpX.c 2
  obtain ⟨fi, hf, hz, h3, h24⟩ := info_parts info59
  have hm1 : l.length + 1 ≤ maxLen := by unfold maxLen; omega
  have hby : (l.length + 1) * 24 ≤ 140737488355328 := by omega
  have hS0 : (X.cell? ⟨w.heap.size, 0, none⟩ = some (.int .i64 k) ∧ X.cell? ⟨w.heap.size, 1, none⟩ = some (.int .i64 m)) ∧ X.cell? ⟨b, 2, none⟩ = some (.int .i64 n) := ⟨⟨b0, b1⟩, c2⟩
  have hkeep : ∀ {wx : World} {T : Nat → Prop}, Turns T X wx → ¬ T w.heap.size → ¬ T b → (wx.cell? ⟨w.heap.size, 0, none⟩ = some (.int .i64 k) ∧ wx.cell? ⟨w.heap.size, 1, none⟩ = some (.int .i64 m)) ∧ wx.cell? ⟨b, 2, none⟩ = some (.int .i64 n) := fun {wx T} ht n1 n2 => by
    have hc : ∀ q i u, ¬ T q → X.cell? ⟨q, i, none⟩ = some u → wx.cell? ⟨q, i, none⟩ = some u := fun q i u hq hu => (World.cell?_of_block (a := ⟨q, i, none⟩) (ht.block q (World.block_lt_of_cell? X _ hu) hq)).trans hu
    exact ⟨⟨hc _ _ _ n1 b0, hc _ _ _ n1 b1⟩, hc _ _ _ n2 c2⟩
  have hS1 : ∀ o, ((X.alloc o).cell? ⟨w.heap.size, 0, none⟩ = some (.int .i64 k) ∧ (X.alloc o).cell? ⟨w.heap.size, 1, none⟩ = some (.int .i64 m)) ∧ (X.alloc o).cell? ⟨b, 2, none⟩ = some (.int .i64 n) := fun o => hkeep (Turns.of_below (S := NoB) (box1 X o)) id id
  have hbX : w.heap.size < X.heap.size := World.block_lt_of_cell? X _ b0
  have hvn : v.ownBlock ≠ some w.heap.size := fun e => by have := hvw _ e; omega
  have hT3 : ∀ {wx : World} {o : Obj}, (X.alloc o).drew.grownBy wx v.ownBlock → Turns (fun k => v.ownBlock = some k) X wx := fun {wx o} hg =>
    (Turns.of_below (box1 X o)).trans ((Turns.of_grown (w := (X.alloc o).drew) hg (fun k e => Or.inl e)).undrew)
  have hS2 : ∀ {wx : World} {o : Obj}, (X.alloc o).drew.grownBy wx v.ownBlock → (wx.cell? ⟨w.heap.size, 0, none⟩ = some (.int .i64 k) ∧ wx.cell? ⟨w.heap.size, 1, none⟩ = some (.int .i64 m)) ∧ wx.cell? ⟨b, 2, none⟩ = some (.int .i64 n) := fun {wx o} hg => hkeep (hT3 hg) hvn hne
  have hP3 : ∀ {wx : World} {o : Obj}, (X.alloc o).drew.grownBy wx v.ownBlock → Hp wx b v n false := fun {wx o} hg => hpX.kept (hT3 hg) hne
  have hS3 : ∀ {wx : World} {o : Obj} {u : Value}, (X.alloc o).drew.grownBy wx v.ownBlock → ((wx.setCell ⟨b, 1, none⟩ u).cell? ⟨w.heap.size, 0, none⟩ = some (.int .i64 k) ∧ (wx.setCell ⟨b, 1, none⟩ u).cell? ⟨w.heap.size, 1, none⟩ = some (.int .i64 m)) ∧ (wx.setCell ⟨b, 1, none⟩ u).cell? ⟨b, 2, none⟩ = some (.int .i64 n) := fun {wx o u} hg => by
    have h0 := hS2 hg
    have e1 : ∀ i, (wx.setCell ⟨b, 1, none⟩ u).cell? ⟨w.heap.size, i, none⟩ = wx.cell? ⟨w.heap.size, i, none⟩ := fun i => World.cell?_setCell_other _ _ _ _ (fun e => by cases e; omega)
    exact ⟨⟨(e1 0).trans h0.1.1, (e1 1).trans h0.1.2⟩, ((hP3 hg).set1 u).c 2⟩
  -- behind the store: the row with one more, the count one more, then lift
  have hEnd : ∀ {w3 : World} {g3 cap3 : Nat} {o : Obj}, (X.alloc o).drew.grownBy w3 v.ownBlock → w3.ownsRow 0 59 3 (.slice (some ⟨g3, 0, none⟩) (l.length + 1) cap3) (l.length + 1) (l.flatMap It.cs ++ (⟨k, m, n⟩ : It).cs) → ((Value.slice (some ⟨g3, 0, none⟩) (l.length + 1) cap3).ownBlock = v.ownBlock ∨ (Value.slice (some ⟨g3, 0, none⟩) (l.length + 1) cap3).ownBlock = some (X.alloc o).drew.heap.size) →
      Calls Try.prog 23 #[ptr b] ((w3.setCell ⟨b, 1, none⟩ (.slice (some ⟨g3, 0, none⟩) (l.length + 1) cap3)).setCell ⟨b, 2, none⟩ (.int .i64 (n + 1))) fun e w' => e = .returned (.tuple #[]) ∧ Pushed w b v n S ⟨k, m, n⟩ w' := fun {w3 g3 cap3 o} hg hown hloc => by
    have T3 := hT3 hg
    have hP4 := ((hP3 hg).set1 (.slice (some ⟨g3, 0, none⟩) (l.length + 1) cap3)).set2 (n + 1)
    have hr3 : Its w3 (.slice (some ⟨g3, 0, none⟩) (l.length + 1) cap3) (l ++ [⟨k, m, n⟩]) := by simpa [Its] using hown
    have T4 : Turns (fun j => j = b) w3 ((w3.setCell ⟨b, 1, none⟩ (.slice (some ⟨g3, 0, none⟩) (l.length + 1) cap3)).setCell ⟨b, 2, none⟩ (.int .i64 (n + 1))) :=
      (Turns.set (S := fun j => j = b) w3 (p := ⟨b, 1, none⟩) rfl _).trans ((Turns.set (S := fun j => j = b) _ (p := ⟨b, 2, none⟩) rfl _).mono (fun _ _ e => .inl e))
    have hr4 := hr3.kept T4 (fun j e q => by subst q; exact (hP3 hg).ne_row hr3 (by decide) e)
    have hlow := Low.push hH ⟨k, m, n⟩
    have TW : Turns (fun j => j = b ∨ v.ownBlock = some j) w ((w3.setCell ⟨b, 1, none⟩ (.slice (some ⟨g3, 0, none⟩) (l.length + 1) cap3)).setCell ⟨b, 2, none⟩ (.int .i64 (n + 1))) :=
      ((Turns.of_below (S := fun j => j = b ∨ v.ownBlock = some j) B0).trans (T3.mono (fun _ _ e => .inl (.inr e)))).trans (T4.mono (fun _ _ e => .inl (.inl e)))
    have hloc' : ∀ j, (Value.slice (some ⟨g3, 0, none⟩) (l.length + 1) cap3).ownBlock = some j → v.ownBlock = some j ∨ w.heap.size ≤ j := fun j e => by
      rcases hloc with q | q
      · exact .inl (q ▸ e)
      · rw [q] at e
        simp at e
        right; omega
    refine (lift_is b _ (n + 1) (l ++ [⟨k, m, n⟩]) _ hP4 hr4 (by simp) (by simpa using hlow)).mono ?_
    rintro e w' ⟨rfl, l', hH', q1, q2, q3, q4⟩
    refine ⟨rfl, _, ⟨l', q3, q1, hH', q2.trans ((List.perm_append_comm).trans (List.Perm.cons _ hS))⟩, TW.trans (q4.mono (fun j _ e => ?_)), hloc'⟩
    rcases hloc' j e with q | q
    · exact .inl (.inr q)
    · exact .inr q
  have HE : Hid (∀ {w3 : World} {g3 cap3 : Nat} {o : Obj}, (X.alloc o).drew.grownBy w3 v.ownBlock → w3.ownsRow 0 59 3 (.slice (some ⟨g3, 0, none⟩) (l.length + 1) cap3) (l.length + 1) (l.flatMap It.cs ++ (⟨k, m, n⟩ : It).cs) → ((Value.slice (some ⟨g3, 0, none⟩) (l.length + 1) cap3).ownBlock = v.ownBlock ∨ (Value.slice (some ⟨g3, 0, none⟩) (l.length + 1) cap3).ownBlock = some (X.alloc o).drew.heap.size) →
      Calls Try.prog 23 #[ptr b] ((w3.setCell ⟨b, 1, none⟩ (.slice (some ⟨g3, 0, none⟩) (l.length + 1) cap3)).setCell ⟨b, 2, none⟩ (.int .i64 (n + 1))) fun e w' => e = .returned (.tuple #[]) ∧ Pushed w b v n S ⟨k, m, n⟩ w') := @hEnd
  have HV := hide hvX
  clear hEnd hS hH hp hv hX hpX hvX hkeep B0 hvw hll hlen
  go_enter Try.func9, Try.ntmps9
  go_wp2_with (first | rw [HX.out] | (go_at_call 22; refine HT.out.mono ?_; rintro e w1 ⟨rfl, hw1⟩; have hw2 := hw1.symm; subst hw2))
  refine wp_only ?_
  refine wp_region_held_drew (S := fun wx => (wx.cell? ⟨w.heap.size, 0, none⟩ = some (.int .i64 k) ∧ wx.cell? ⟨w.heap.size, 1, none⟩ = some (.int .i64 m)) ∧ wx.cell? ⟨b, 2, none⟩ = some (.int .i64 n)) (by kernel_rfl) hS0 (fun hHeld => ?_)
  refine wpAnyH_take (i := 0) (v := ?_) rfl (by kernel_rfl) (by kernel_rfl) (by kernel_rfl) (fun _ _ _ h => h.elim) (Or.inl ⟨by rfl, ?_⟩) (by assumption) ?_
  rotate_left
  · intro wx hSw
    try dsimp only at hSw
    go_simp
    try with_reducible rfl
  try simp only [Act.put, List.getElem_toArray, List.getElem_cons_zero, List.getElem_cons_succ, List.setIfInBounds_toArray, List.set_cons_zero, List.set_cons_succ]
  refine wpAnyH_take (i := 1) (v := ?_) rfl (by kernel_rfl) (by kernel_rfl) (by kernel_rfl) (fun _ _ _ h => h.elim) (Or.inl ⟨by rfl, ?_⟩) (by assumption) ?_
  rotate_left
  · intro wx hSw
    try dsimp only at hSw
    go_simp
    try with_reducible rfl
  try simp only [Act.put, List.getElem_toArray, List.getElem_cons_zero, List.getElem_cons_succ, List.setIfInBounds_toArray, List.set_cons_zero, List.set_cons_succ]
  refine wpAnyH_take (i := 2) (v := ?_) rfl (by kernel_rfl) (by kernel_rfl) (by kernel_rfl) (fun _ _ _ h => h.elim) (Or.inl ⟨by rfl, ?_⟩) (by assumption) ?_
  rotate_left
  · intro wx hSw
    try dsimp only at hSw
    go_simp
    try with_reducible rfl
  try simp only [Act.put, List.getElem_toArray, List.getElem_cons_zero, List.getElem_cons_succ, List.setIfInBounds_toArray, List.set_cons_zero, List.set_cons_succ]
  refine wpAnyH_take (i := 3) (v := ?_) rfl (by kernel_rfl) (by kernel_rfl) (by kernel_rfl) (fun _ _ _ h => h.elim) (Or.inl ⟨by rfl, ?_⟩) (by assumption) ?_
  rotate_left
  · intro wx hSw
    try dsimp only at hSw
    go_simp
    try with_reducible rfl
  try simp only [Act.put, List.getElem_toArray, List.getElem_cons_zero, List.getElem_cons_succ, List.setIfInBounds_toArray, List.set_cons_zero, List.set_cons_succ]
  refine wpAnyH_take (i := 5) (v := ?_) rfl (by kernel_rfl) (by kernel_rfl) (by kernel_rfl) (fun _ _ _ h => h.elim) (Or.inl ⟨by rfl, ?_⟩) (by assumption) ?_
  rotate_left
  · intro wx hSw
    try dsimp only at hSw
    go_simp
    try with_reducible rfl
  try simp only [Act.put, List.getElem_toArray, List.getElem_cons_zero, List.getElem_cons_succ, List.setIfInBounds_toArray, List.set_cons_zero, List.set_cons_succ]
  refine wpAnyH_take (i := 6) (v := ?_) rfl (by kernel_rfl) (by kernel_rfl) (by kernel_rfl) (fun _ _ _ h => h.elim) (Or.inl ⟨by rfl, ?_⟩) (by assumption) ?_
  rotate_left
  · intro wx hSw
    try dsimp only at hSw
    go_simp
    try with_reducible rfl
  try simp only [Act.put, List.getElem_toArray, List.getElem_cons_zero, List.getElem_cons_succ, List.setIfInBounds_toArray, List.set_cons_zero, List.set_cons_succ]
  refine wpAnyH_take (i := 7) (v := ?_) rfl (by kernel_rfl) (by kernel_rfl) (by kernel_rfl) (fun _ _ _ h => h.elim) (Or.inl ⟨by rfl, ?_⟩) (by assumption) ?_
  rotate_left
  · intro wx hSw
    try dsimp only at hSw
    go_simp
    try with_reducible rfl
  try simp only [Act.put, List.getElem_toArray, List.getElem_cons_zero, List.getElem_cons_succ, List.setIfInBounds_toArray, List.set_cons_zero, List.set_cons_succ]
  refine wpAnyH_take (i := 8) (v := ?_) rfl (by kernel_rfl) (by kernel_rfl) (by kernel_rfl) (fun _ _ _ h => h.elim) (Or.inl ⟨by rfl, ?_⟩) (by assumption) ?_
  rotate_left
  · intro wx hSw
    try dsimp only at hSw
    go_simp
    try with_reducible rfl
  try simp only [Act.put, List.getElem_toArray, List.getElem_cons_zero, List.getElem_cons_succ, List.setIfInBounds_toArray, List.set_cons_zero, List.set_cons_succ]
  refine wpAnyH_take (i := 9) (v := ?_) rfl (by kernel_rfl) (by kernel_rfl) (by kernel_rfl) (fun _ _ _ h => h.elim) (Or.inl ⟨by rfl, ?_⟩) (by assumption) ?_
  rotate_left
  · intro wx hSw
    try dsimp only at hSw
    go_simp
    try with_reducible rfl
  try simp only [Act.put, List.getElem_toArray, List.getElem_cons_zero, List.getElem_cons_succ, List.setIfInBounds_toArray, List.set_cons_zero, List.set_cons_succ]
  refine wpAnyH_take (i := 10) (v := ?_) rfl (by kernel_rfl) (by kernel_rfl) (by kernel_rfl) (fun _ _ _ h => h.elim) (Or.inl ⟨by rfl, ?_⟩) (by assumption) ?_
  rotate_left
  · intro wx hSw
    try dsimp only at hSw
    go_simp
    try with_reducible rfl
  try simp only [Act.put, List.getElem_toArray, List.getElem_cons_zero, List.getElem_cons_succ, List.setIfInBounds_toArray, List.set_cons_zero, List.set_cons_succ]
  refine wpAnyH_ready (rs := [4, 11]) (by kernel_rfl) (by simp) ?_
  refine AllReadyH.cons rfl (fun K hK => ?_) ?_
  · go_simp
    refine hK.out _ _ ?_ (fun hHeld => ?_)
    · first | exact hS0 | exact hS1 _ | exact hS2 (by assumption) | exact hS3 (by assumption)
    clear hK K
    try simp only [Act.put, List.getElem_toArray, List.getElem_cons_zero, List.getElem_cons_succ, List.setIfInBounds_toArray, List.set_cons_zero, List.set_cons_succ]
    refine wpAnyH_ready (rs := [11]) (by kernel_rfl) (by simp) ?_
    refine AllReadyH.cons rfl (fun K hK => ?_) ?_
    · go_simp
      refine hK.out _ _ ?_ (fun hHeld => ?_)
      · first | exact hS0 | exact hS1 _ | exact hS2 (by assumption) | exact hS3 (by assumption)
      clear hK K
      try simp only [Act.put, List.getElem_toArray, List.getElem_cons_zero, List.getElem_cons_succ, List.setIfInBounds_toArray, List.set_cons_zero, List.set_cons_succ]
      refine wpAnyH_ready (rs := [12]) (by kernel_rfl) (by simp) ?_
      refine AllReadyH.cons rfl (fun K hK => ?_) ?_
      · refine step_append_row rfl _ _ 54 rfl 59 fi z59 3 24 Try.underlying54 hf hz h3 h24 rfl (by decide) v l.length _ (by simp [Act.eval]) (HV.out.alloc _) ⟨X.heap.size, 0, none⟩ 1 1 (⟨k, m, n⟩ : It).cs (by simp [Act.eval]) rfl (it_new X ⟨k, m, n⟩) one_it hm1 hby ?_
        intro v' w3 hown hgrow hloc'
        obtain ⟨g3, cap3, rfl⟩ := row_form hown
        have hd3 := hP3 hgrow
        have c73 : w3.cell? ⟨b, 1, none⟩ = some v := hd3.c 1
        have f73 := hd3.f 1
        refine hK.out _ _ ?_ (fun hHeld => ?_)
        · first | exact hS0 | exact hS1 _ | exact hS2 (by assumption) | exact hS3 (by assumption)
        clear hK K
        try simp only [Act.put, List.getElem_toArray, List.getElem_cons_zero, List.getElem_cons_succ, List.setIfInBounds_toArray, List.set_cons_zero, List.set_cons_succ]
        refine wpAnyH_take (i := 13) (v := ?_) rfl (by kernel_rfl) (by kernel_rfl) (by kernel_rfl) (fun _ _ _ h => h.elim) (Or.inl ⟨by rfl, ?_⟩) (by assumption) ?_
        rotate_left
        · intro wx hSw
          try dsimp only at hSw
          go_simp
          try with_reducible rfl
        try simp only [Act.put, List.getElem_toArray, List.getElem_cons_zero, List.getElem_cons_succ, List.setIfInBounds_toArray, List.set_cons_zero, List.set_cons_succ]
        refine wpAnyH_take (i := 14) (v := ?_) rfl (by kernel_rfl) (by kernel_rfl) (by kernel_rfl) (fun _ _ _ h => h.elim) (Or.inl ⟨by rfl, ?_⟩) (by assumption) ?_
        rotate_left
        · intro wx hSw
          try dsimp only at hSw
          go_simp
          try with_reducible rfl
        try simp only [Act.put, List.getElem_toArray, List.getElem_cons_zero, List.getElem_cons_succ, List.setIfInBounds_toArray, List.set_cons_zero, List.set_cons_succ]
        refine wpAnyH_ready (rs := [15]) (by kernel_rfl) (by simp) ?_
        refine AllReadyH.cons rfl (fun K hK => ?_) ?_
        · go_simp
          refine hK.out _ _ ?_ (fun hHeld => ?_)
          · first | exact hS0 | exact hS1 _ | exact hS2 (by assumption) | exact hS3 (by assumption)
          clear hK K
          try simp only [Act.put, List.getElem_toArray, List.getElem_cons_zero, List.getElem_cons_succ, List.setIfInBounds_toArray, List.set_cons_zero, List.set_cons_succ]
          refine wpAnyH_done (by kernel_rfl) ?_ _
          dsimp only [Only, Exit.then]
          have k2 : (w3.setCell ⟨b, 1, none⟩ (.slice (some ⟨g3, 0, none⟩) (l.length + 1) cap3)).cell? ⟨b, 2, none⟩ = some (.int .i64 n) := ((hP3 hgrow).set1 (.slice (some ⟨g3, 0, none⟩) (l.length + 1) cap3)).c 2
          have kf := ((hP3 hgrow).set1 (.slice (some ⟨g3, 0, none⟩) (l.length + 1) cap3)).f 2
          go_wp2_with fail
          refine (HE.out hgrow hown hloc').mono ?_
          rintro e w5 ⟨rfl, hq⟩
          have HQ := hide hq
          clear hq
          go_wp2_with fail
          go_end0
          exact ⟨rfl, HQ.out⟩
        exact AllReadyH.nil
      exact AllReadyH.nil
    exact AllReadyH.nil
  refine AllReadyH.cons rfl (fun K hK => ?_) ?_
  · go_simp
    refine hK.out _ _ ?_ (fun hHeld => ?_)
    · first | exact hS0 | exact hS1 _ | exact hS2 (by assumption) | exact hS3 (by assumption)
    clear hK K
    try simp only [Act.put, List.getElem_toArray, List.getElem_cons_zero, List.getElem_cons_succ, List.setIfInBounds_toArray, List.set_cons_zero, List.set_cons_succ]
    refine wpAnyH_ready (rs := [4]) (by kernel_rfl) (by simp) ?_
    refine AllReadyH.cons rfl (fun K hK => ?_) ?_
    · go_simp
      refine hK.out _ _ ?_ (fun hHeld => ?_)
      · first | exact hS0 | exact hS1 _ | exact hS2 (by assumption) | exact hS3 (by assumption)
      clear hK K
      try simp only [Act.put, List.getElem_toArray, List.getElem_cons_zero, List.getElem_cons_succ, List.setIfInBounds_toArray, List.set_cons_zero, List.set_cons_succ]
      refine wpAnyH_ready (rs := [12]) (by kernel_rfl) (by simp) ?_
      refine AllReadyH.cons rfl (fun K hK => ?_) ?_
      · refine step_append_row rfl _ _ 54 rfl 59 fi z59 3 24 Try.underlying54 hf hz h3 h24 rfl (by decide) v l.length _ (by simp [Act.eval]) (HV.out.alloc _) ⟨X.heap.size, 0, none⟩ 1 1 (⟨k, m, n⟩ : It).cs (by simp [Act.eval]) rfl (it_new X ⟨k, m, n⟩) one_it hm1 hby ?_
        intro v' w3 hown hgrow hloc'
        obtain ⟨g3, cap3, rfl⟩ := row_form hown
        have hd3 := hP3 hgrow
        have c73 : w3.cell? ⟨b, 1, none⟩ = some v := hd3.c 1
        have f73 := hd3.f 1
        refine hK.out _ _ ?_ (fun hHeld => ?_)
        · first | exact hS0 | exact hS1 _ | exact hS2 (by assumption) | exact hS3 (by assumption)
        clear hK K
        try simp only [Act.put, List.getElem_toArray, List.getElem_cons_zero, List.getElem_cons_succ, List.setIfInBounds_toArray, List.set_cons_zero, List.set_cons_succ]
        refine wpAnyH_take (i := 13) (v := ?_) rfl (by kernel_rfl) (by kernel_rfl) (by kernel_rfl) (fun _ _ _ h => h.elim) (Or.inl ⟨by rfl, ?_⟩) (by assumption) ?_
        rotate_left
        · intro wx hSw
          try dsimp only at hSw
          go_simp
          try with_reducible rfl
        try simp only [Act.put, List.getElem_toArray, List.getElem_cons_zero, List.getElem_cons_succ, List.setIfInBounds_toArray, List.set_cons_zero, List.set_cons_succ]
        refine wpAnyH_take (i := 14) (v := ?_) rfl (by kernel_rfl) (by kernel_rfl) (by kernel_rfl) (fun _ _ _ h => h.elim) (Or.inl ⟨by rfl, ?_⟩) (by assumption) ?_
        rotate_left
        · intro wx hSw
          try dsimp only at hSw
          go_simp
          try with_reducible rfl
        try simp only [Act.put, List.getElem_toArray, List.getElem_cons_zero, List.getElem_cons_succ, List.setIfInBounds_toArray, List.set_cons_zero, List.set_cons_succ]
        refine wpAnyH_ready (rs := [15]) (by kernel_rfl) (by simp) ?_
        refine AllReadyH.cons rfl (fun K hK => ?_) ?_
        · go_simp
          refine hK.out _ _ ?_ (fun hHeld => ?_)
          · first | exact hS0 | exact hS1 _ | exact hS2 (by assumption) | exact hS3 (by assumption)
          clear hK K
          try simp only [Act.put, List.getElem_toArray, List.getElem_cons_zero, List.getElem_cons_succ, List.setIfInBounds_toArray, List.set_cons_zero, List.set_cons_succ]
          refine wpAnyH_done (by kernel_rfl) ?_ _
          dsimp only [Only, Exit.then]
          have k2 : (w3.setCell ⟨b, 1, none⟩ (.slice (some ⟨g3, 0, none⟩) (l.length + 1) cap3)).cell? ⟨b, 2, none⟩ = some (.int .i64 n) := ((hP3 hgrow).set1 (.slice (some ⟨g3, 0, none⟩) (l.length + 1) cap3)).c 2
          have kf := ((hP3 hgrow).set1 (.slice (some ⟨g3, 0, none⟩) (l.length + 1) cap3)).f 2
          go_wp2_with fail
          refine (HE.out hgrow hown hloc').mono ?_
          rintro e w5 ⟨rfl, hq⟩
          have HQ := hide hq
          clear hq
          go_wp2_with fail
          go_end0
          exact ⟨rfl, HQ.out⟩
        exact AllReadyH.nil
      exact AllReadyH.nil
    exact AllReadyH.nil
  exact AllReadyH.nil
end Go.Proofs.Ytdhiomahcilffaa
