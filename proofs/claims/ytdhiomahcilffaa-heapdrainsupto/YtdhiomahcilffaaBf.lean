/-
  The heap's items in memory; which of two is popped before the other.
-/
import Derived.Test.YtdhiomahcilffaaHp
import Derived.Deep.DeepCutAuto
namespace Go.Proofs.Ytdhiomahcilffaa
open Go.RowKit
set_option linter.unusedVariables false
set_option linter.unusedSimpArgs false
theorem cs_len (l : List It) : (l.flatMap It.cs).length = l.length * 3 := by
  induction l with
  | nil => rfl
  | cons t r ih => rw [List.flatMap_cons, List.length_append, ih]; simp [It.cs]; omega
theorem cs_get : ∀ (l : List It) (i : Nat) (t : It) (j : Nat), l[i]? = some t → j < 3 → (l.flatMap It.cs)[i * 3 + j]? = t.cs[j]?
  | [], i, t, j, h, _ => by simp at h
  | s :: r, 0, t, j, h, hj => by
    simp at h; subst h
    rw [List.flatMap_cons, Nat.zero_mul, Nat.zero_add, List.getElem?_append_left (by simp [It.cs]; omega)]
  | s :: r, i + 1, t, j, h, hj => by
    simp at h
    rw [List.flatMap_cons, List.getElem?_append_right (by simp [It.cs]; omega)]
    rw [← cs_get r i t j h hj]
    congr 1
    simp [It.cs]; omega
theorem cs_set (t : It) : ∀ (L : List It) (j : Nat), j < L.length → (L.set j t).flatMap It.cs = (((L.flatMap It.cs).set (j * 3) (.int .i64 t.k)).set (j * 3 + 1) (.int .i64 t.n)).set (j * 3 + 2) (.int .i64 t.p)
  | [], j, h => by simp at h
  | s :: r, 0, _ => by simp [It.cs]
  | s :: r, j + 1, h => by
    have hj : j < r.length := by simpa using h
    rw [List.set_cons_succ, List.flatMap_cons, cs_set t r j hj, List.flatMap_cons]
    have hs : s.cs.length = 3 := rfl
    have key : ∀ (R : List Value) (o : Nat) (u : Value), (s.cs ++ R).set ((j + 1) * 3 + o) u = s.cs ++ R.set (j * 3 + o) u := fun R o u => by
      rw [List.set_append, if_neg (by omega), hs, show (j + 1) * 3 + o - 3 = j * 3 + o by omega]
    have k0 := key (r.flatMap It.cs) 0 (.int .i64 t.k)
    simp only [Nat.add_zero] at k0
    rw [k0, key, key]
/-- The slice v reads as the items l. -/
def Its (w : World) (v : Value) (l : List It) : Prop := w.ownsRow 0 59 3 v l.length (l.flatMap It.cs)
theorem row_kept {w w' : World} {e : TypeId} {k n : Nat} {v : Value} {xs : List Value} {S : Nat → Prop} (h : w.ownsRow 0 e k v n xs) (ht : Turns S w w') (hs : ∀ k, v.ownBlock = some k → ¬ S k) : w'.ownsRow 0 e k v n xs := by
  refine ⟨h.1, ?_⟩
  rcases h.2 with h1 | ⟨g, cap, cur, e, hb, hg, r⟩
  · exact .inl h1
  · exact .inr ⟨g, cap, cur, e, hb, ht.same (hs g (by rw [e]; rfl)) hg, r⟩
theorem Its.kept {w w' : World} {v : Value} {l : List It} {S : Nat → Prop} (h : Its w v l) (ht : Turns S w w') (hs : ∀ k, v.ownBlock = some k → ¬ S k) : Its w' v l := row_kept h ht hs
theorem Its.upto {w w' : World} {v : Value} {l : List It} (h : Its w v l) (hb : Below w.heap.size w w') : Its w' v l := h.kept (S := NoB) (Turns.of_below hb) (fun _ _ => id)
theorem Hp.upto {w w' : World} {b : Nat} {v : Value} {n : Int} {q : Bool} (h : Hp w b v n q) (hb : Below w.heap.size w w') : Hp w' b v n q := h.kept (S := NoB) (Turns.of_below hb) id
/-- A row of items, no longer empty. -/
theorem Its.form {w : World} {v : Value} {l : List It} (h : Its w v l) (hl : 0 < l.length) : ∃ g cap, v = .slice (some ⟨g, 0, none⟩) l.length cap ∧ l.length ≤ cap ∧ cap ≤ maxLen ∧ g < w.heap.size := by
  rcases h.2 with ⟨e, h0⟩ | ⟨g, cap, cur, e, hb, hg, hn, hm, hs, ht⟩
  · omega
  · exact ⟨g, cap, e, hn, hm, (Array.getElem?_eq_some_iff.1 hg).1⟩
theorem Its.slice {w : World} {v : Value} {l : List It} (h : Its w v l) : ∃ a cap, v = .slice a l.length cap ∧ l.length ≤ maxLen := by
  rcases h.2 with ⟨e, h0⟩ | ⟨g, cap, cur, e, hb, hg, hn, hm, hs, ht⟩
  · exact ⟨none, 0, by rw [h0]; exact e, by rw [h0]; decide⟩
  · exact ⟨_, cap, e, by omega⟩
theorem Its.at {w : World} {g cap : Nat} {l : List It} (h : Its w (.slice (some ⟨g, 0, none⟩) l.length cap) l) {j : Nat} {s : It} (hs : l[j]? = some s) :
    (w.cell? ⟨g, j * 3, none⟩ = some (.int .i64 s.k) ∧ w.cell? ⟨g, j * 3 + 1, none⟩ = some (.int .i64 s.n) ∧ w.cell? ⟨g, j * 3 + 2, none⟩ = some (.int .i64 s.p)) ∧ ∀ o, w.frozen? ⟨g, o, none⟩ = false := by
  have hc : ∀ o u, s.cs[o]? = some u → o < 3 → w.cell? ⟨g, j * 3 + o, none⟩ = some u := fun o u hu ho => by
    have := World.ownsRow.cells h (g := g) rfl (j * 3 + o) u (by rw [cs_get l j s o hs ho]; exact hu)
    simpa [Addr.add_lit] using this
  refine ⟨⟨hc 0 _ rfl (by omega), hc 1 _ rfl (by omega), hc 2 _ rfl (by omega)⟩, fun o => ?_⟩
  rcases h.2 with ⟨e, _⟩ | ⟨g', cap', cur, e, hb, hg, r⟩
  · cases e
  · simp only [Value.slice.injEq, Option.some.injEq, Addr.mk.injEq, and_true, true_and] at e
    obtain ⟨rfl, -⟩ := e
    simp [World.frozen?, hg]
theorem Its.set {w : World} {g cap : Nat} {l : List It} (h : Its w (.slice (some ⟨g, 0, none⟩) l.length cap) l) {j : Nat} (hj : j < l.length) (t : It) :
    Its (((w.setCell ⟨g, j * 3, none⟩ (.int .i64 t.k)).setCell ⟨g, j * 3 + 1, none⟩ (.int .i64 t.n)).setCell ⟨g, j * 3 + 2, none⟩ (.int .i64 t.p)) (.slice (some ⟨g, 0, none⟩) l.length cap) (l.set j t) := by
  unfold Its
  rw [cs_set t l j hj, List.length_set]
  exact (World.ownsRow.stored (World.ownsRow.stored (World.ownsRow.stored h (j * 3) _).1 (j * 3 + 1) _).1 (j * 3 + 2) _).1
/-- A box with one item. -/
def Bx (w : World) (x : Nat) (t : It) : Prop := w.heap[x]? = some (.cells #[.int .i64 t.k, .int .i64 t.n, .int .i64 t.p] 59 (0, 0))
theorem Bx.new (w : World) (t : It) : Bx (w.alloc (.cells #[.int .i64 t.k, .int .i64 t.n, .int .i64 t.p] 59)) w.heap.size t := heap_alloc_new w _
theorem Bx.upto {w w' : World} {x : Nat} {t : It} (h : Bx w x t) (hb : Below w.heap.size w w') : Bx w' x t := (hb.block x (Array.getElem?_eq_some_iff.1 h).1).trans h
theorem Bx.c {w : World} {x : Nat} {t : It} (h : Bx w x t) (j : Nat) : w.cell? ⟨x, j, none⟩ = (#[.int .i64 t.k, .int .i64 t.n, .int .i64 t.p] : Array Value)[j]? := cell_of_row w x j _ _ _ h
theorem bx_fst (w : World) (s : It) (o : Obj) : Bx ((w.alloc (.cells #[.int .i64 s.k, .int .i64 s.n, .int .i64 s.p] 59)).alloc o).drew w.heap.size s := (Bx.new w s).upto ((box1 _ o).drew)
theorem bx_snd (w : World) (t : It) (o : Obj) : Bx ((w.alloc o).alloc (.cells #[.int .i64 t.k, .int .i64 t.n, .int .i64 t.p] 59)).drew (w.heap.size + 1) t := by
  have := (Bx.new (w.alloc o) t).upto ((Below.refl _ _).drew)
  simpa using this
/-- Which of two items is popped before the other. -/
def lt (a b : It) : Bool := if a.p < b.p then !ah b.k a.k else ah a.k b.k
theorem lt_iff (a b : It) : lt a b = true ↔ (a.k / 4 < b.k / 4 ∨ a.k / 4 = b.k / 4 ∧ a.p < b.p) := by
  unfold lt ah
  split <;> simp <;> omega
abbrev C3 (w : World) (x o : Nat) (t : It) : Prop := w.cell? ⟨x, o, none⟩ = some (.int .i64 t.k) ∧ w.cell? ⟨x, o + 1, none⟩ = some (.int .i64 t.n) ∧ w.cell? ⟨x, o + 2, none⟩ = some (.int .i64 t.p)
theorem C3.upto {w w' : World} {x o : Nat} {t : It} (h : C3 w x o t) (hb : Below w.heap.size w w') : C3 w' x o t :=
  ⟨(hb.cell (World.block_lt_of_cell? w _ h.1)).trans h.1, (hb.cell (World.block_lt_of_cell? w _ h.2.1)).trans h.2.1, (hb.cell (World.block_lt_of_cell? w _ h.2.2)).trans h.2.2⟩
set_option maxRecDepth 100000 in
set_option maxHeartbeats 2000000 in
theorem before_is (b : Nat) (v : Value) (n : Int) (l : List It) (i j : Nat) (s t : It) (w : World) (h : Hp w b v n false) (hv : Its w v l) (hi : l[i]? = some s) (hj : l[j]? = some t) :
    Calls Try.prog 30 #[ptr b, .int .i64 (i : Nat), .int .i64 (j : Nat)] w fun e w' => e = .returned (.bool (lt s t)) ∧ Below w.heap.size w w' := by
  have hil : i < l.length := (List.getElem?_eq_some_iff.1 hi).1
  have hjl : j < l.length := (List.getElem?_eq_some_iff.1 hj).1
  obtain ⟨g, cap, rfl, hcap, hmax, hg⟩ := hv.form (by omega)
  have c1 : w.cell? ⟨b, 1, none⟩ = some (.slice (some ⟨g, 0, none⟩) l.length cap) := h.c 1
  have cs : C3 w g (i * 3) s := (hv.at hi).1
  have ct : C3 w g (j * 3) t := (hv.at hj).1
  have HA : Hid (∀ wx k m q o, Below w.heap.size w wx → Calls Try.prog 34 #[ptr b, itv k m, itv q o] wx fun e w' => e = .returned (.bool (ah k q)) ∧ Below wx.heap.size wx w') := hide fun wx k m q o hx => ahead_is b _ n k m q o wx (h.upto hx)
  have HS : Hid (∀ wx, Below w.heap.size w wx → wx.cell? ⟨b, 1, none⟩ = some (.slice (some ⟨g, 0, none⟩) l.length cap) ∧ C3 wx g (i * 3) s ∧ C3 wx g (j * 3) t) := hide fun wx hx => ⟨(hx.cell (World.block_lt_of_cell? w _ c1)).trans c1, C3.upto cs hx, C3.upto ct hx⟩
  have hm : l.length ≤ 9223372036854775807 := by unfold maxLen at hmax; omega
  obtain ⟨r, hr⟩ : ∃ r, lt s t = r := ⟨_, rfl⟩
  rw [hr]
  have HR := hide hr
  clear h hv hi hj hr
  go_enter Try.func30, Try.ntmps30
  go_wp2_with fail
  go_cut [7, 8] (fun s7 s8 wx => ∃ x y, s7 = ptr x ∧ s8 = ptr y ∧ Bx wx x s ∧ Bx wx y t ∧ Below w.heap.size w wx)
  case first =>
    refine wp_only ?_
    refine wp_region_held_drew (S := fun wx => wx.cell? ⟨b, 1, none⟩ = some (.slice (some ⟨g, 0, none⟩) l.length cap) ∧ C3 wx g (i * 3) s ∧ C3 wx g (j * 3) t) (by kernel_rfl) (HS.out _ (Below.refl _ _).drew) (fun hHeld => ?_)
    refine wpAnyH_take (i := 0) (v := ?_) rfl (by kernel_rfl) (by kernel_rfl) (by kernel_rfl) (fun _ _ _ h => h.elim) (Or.inl ⟨by rfl, ?_⟩) (by assumption) ?_
    rotate_left
    · intro wx hSw
      try dsimp only at hSw
      go_simp
      try with_reducible rfl
    try simp only [Act.put, List.getElem_toArray, List.getElem_cons_zero, List.getElem_cons_succ, List.setIfInBounds_toArray, List.set_cons_zero, List.set_cons_succ]
    refine wpAnyH_take (i := 1) (v := ?_) rfl (by kernel_rfl) (by kernel_rfl) (by kernel_rfl) (fun _ _ _ h => h.elim) (Or.inl ⟨by rfl, ?_⟩) (by assumption) ?_
    rotate_left
    · intro wx hSw
      try dsimp only at hSw
      go_simp
      try with_reducible rfl
    try simp only [Act.put, List.getElem_toArray, List.getElem_cons_zero, List.getElem_cons_succ, List.setIfInBounds_toArray, List.set_cons_zero, List.set_cons_succ]
    refine wpAnyH_take (i := 2) (v := ?_) rfl (by kernel_rfl) (by kernel_rfl) (by kernel_rfl) (fun _ _ _ h => h.elim) (Or.inl ⟨by rfl, ?_⟩) (by assumption) ?_
    rotate_left
    · intro wx hSw
      try dsimp only at hSw
      go_simp
      try with_reducible rfl
    try simp only [Act.put, List.getElem_toArray, List.getElem_cons_zero, List.getElem_cons_succ, List.setIfInBounds_toArray, List.set_cons_zero, List.set_cons_succ]
    refine wpAnyH_take (i := 3) (v := ?_) rfl (by kernel_rfl) (by kernel_rfl) (by kernel_rfl) (fun _ _ _ h => h.elim) (Or.inl ⟨by rfl, ?_⟩) (by assumption) ?_
    rotate_left
    · intro wx hSw
      try dsimp only at hSw
      go_simp
      try with_reducible rfl
    try simp only [Act.put, List.getElem_toArray, List.getElem_cons_zero, List.getElem_cons_succ, List.setIfInBounds_toArray, List.set_cons_zero, List.set_cons_succ]
    refine wpAnyH_take (i := 4) (v := ?_) rfl (by kernel_rfl) (by kernel_rfl) (by kernel_rfl) (fun _ _ _ h => h.elim) (Or.inl ⟨by rfl, ?_⟩) (by assumption) ?_
    rotate_left
    · intro wx hSw
      try dsimp only at hSw
      go_simp
      try with_reducible rfl
    try simp only [Act.put, List.getElem_toArray, List.getElem_cons_zero, List.getElem_cons_succ, List.setIfInBounds_toArray, List.set_cons_zero, List.set_cons_succ]
    refine wpAnyH_take (i := 5) (v := ?_) rfl (by kernel_rfl) (by kernel_rfl) (by kernel_rfl) (fun _ _ _ h => h.elim) (Or.inl ⟨by rfl, ?_⟩) (by assumption) ?_
    rotate_left
    · intro wx hSw
      try dsimp only at hSw
      go_simp
      try with_reducible rfl
    try simp only [Act.put, List.getElem_toArray, List.getElem_cons_zero, List.getElem_cons_succ, List.setIfInBounds_toArray, List.set_cons_zero, List.set_cons_succ]
    refine wpAnyH_take (i := 6) (v := ?_) rfl (by kernel_rfl) (by kernel_rfl) (by kernel_rfl) (fun _ _ _ h => h.elim) (Or.inl ⟨by rfl, ?_⟩) (by assumption) ?_
    rotate_left
    · intro wx hSw
      try dsimp only at hSw
      go_simp
      try with_reducible rfl
    try simp only [Act.put, List.getElem_toArray, List.getElem_cons_zero, List.getElem_cons_succ, List.setIfInBounds_toArray, List.set_cons_zero, List.set_cons_succ]
    refine wpAnyH_take (i := 7) (v := ?_) rfl (by kernel_rfl) (by kernel_rfl) (by kernel_rfl) (fun _ _ _ h => h.elim) (Or.inl ⟨by rfl, ?_⟩) (by assumption) ?_
    rotate_left
    · intro wx hSw
      try dsimp only at hSw
      go_simp
      try with_reducible rfl
    try simp only [Act.put, List.getElem_toArray, List.getElem_cons_zero, List.getElem_cons_succ, List.setIfInBounds_toArray, List.set_cons_zero, List.set_cons_succ]
    refine wpAnyH_take (i := 8) (v := ?_) rfl (by kernel_rfl) (by kernel_rfl) (by kernel_rfl) (fun _ _ _ h => h.elim) (Or.inl ⟨by rfl, ?_⟩) (by assumption) ?_
    rotate_left
    · intro wx hSw
      try dsimp only at hSw
      go_simp
      try with_reducible rfl
    try simp only [Act.put, List.getElem_toArray, List.getElem_cons_zero, List.getElem_cons_succ, List.setIfInBounds_toArray, List.set_cons_zero, List.set_cons_succ]
    refine wpAnyH_take (i := 9) (v := ?_) rfl (by kernel_rfl) (by kernel_rfl) (by kernel_rfl) (fun _ _ _ h => h.elim) (Or.inl ⟨by rfl, ?_⟩) (by assumption) ?_
    rotate_left
    · intro wx hSw
      try dsimp only at hSw
      go_simp
      try with_reducible rfl
    try simp only [Act.put, List.getElem_toArray, List.getElem_cons_zero, List.getElem_cons_succ, List.setIfInBounds_toArray, List.set_cons_zero, List.set_cons_succ]
    refine wpAnyH_take (i := 10) (v := ?_) rfl (by kernel_rfl) (by kernel_rfl) (by kernel_rfl) (fun _ _ _ h => h.elim) (Or.inl ⟨by rfl, ?_⟩) (by assumption) ?_
    rotate_left
    · intro wx hSw
      try dsimp only at hSw
      go_simp
      try with_reducible rfl
    try simp only [Act.put, List.getElem_toArray, List.getElem_cons_zero, List.getElem_cons_succ, List.setIfInBounds_toArray, List.set_cons_zero, List.set_cons_succ]
    refine wpAnyH_take (i := 11) (v := ?_) rfl (by kernel_rfl) (by kernel_rfl) (by kernel_rfl) (fun _ _ _ h => h.elim) (Or.inl ⟨by rfl, ?_⟩) (by assumption) ?_
    rotate_left
    · intro wx hSw
      try dsimp only at hSw
      go_simp
      try with_reducible rfl
    try simp only [Act.put, List.getElem_toArray, List.getElem_cons_zero, List.getElem_cons_succ, List.setIfInBounds_toArray, List.set_cons_zero, List.set_cons_succ]
    refine wpAnyH_take (i := 12) (v := ?_) rfl (by kernel_rfl) (by kernel_rfl) (by kernel_rfl) (fun _ _ _ h => h.elim) (Or.inl ⟨by rfl, ?_⟩) (by assumption) ?_
    rotate_left
    · intro wx hSw
      try dsimp only at hSw
      go_simp
      try with_reducible rfl
    try simp only [Act.put, List.getElem_toArray, List.getElem_cons_zero, List.getElem_cons_succ, List.setIfInBounds_toArray, List.set_cons_zero, List.set_cons_succ]
    refine wpAnyH_take (i := 13) (v := ?_) rfl (by kernel_rfl) (by kernel_rfl) (by kernel_rfl) (fun _ _ _ h => h.elim) (Or.inl ⟨by rfl, ?_⟩) (by assumption) ?_
    rotate_left
    · intro wx hSw
      try dsimp only at hSw
      go_simp
      try with_reducible rfl
    try simp only [Act.put, List.getElem_toArray, List.getElem_cons_zero, List.getElem_cons_succ, List.setIfInBounds_toArray, List.set_cons_zero, List.set_cons_succ]
    refine wpAnyH_ready (rs := [14, 15]) (by kernel_rfl) (by simp) ?_
    refine AllReadyH.cons rfl (fun K hK => ?_) ?_
    · go_simp
      refine hK.out _ _ ?_ (fun hHeld => ?_)
      · first | exact HS.out _ (box1 _ _).drew | exact HS.out _ (box2 _ _ _).drew
      clear hK K
      try simp only [Act.put, List.getElem_toArray, List.getElem_cons_zero, List.getElem_cons_succ, List.setIfInBounds_toArray, List.set_cons_zero, List.set_cons_succ]
      refine wpAnyH_ready (rs := [15]) (by kernel_rfl) (by simp) ?_
      refine AllReadyH.cons rfl (fun K hK => ?_) ?_
      · go_simp
        refine hK.out _ _ ?_ (fun hHeld => ?_)
        · first | exact HS.out _ (box1 _ _).drew | exact HS.out _ (box2 _ _ _).drew
        clear hK K
        try simp only [Act.put, List.getElem_toArray, List.getElem_cons_zero, List.getElem_cons_succ, List.setIfInBounds_toArray, List.set_cons_zero, List.set_cons_succ]
        refine wpAnyH_ready (rs := [16]) (by kernel_rfl) (by simp) ?_
        refine AllReadyH.cons rfl (fun K hK => ?_) ?_
        · go_simp
          refine hK.out _ _ ?_ (fun hHeld => ?_)
          · first | exact HS.out _ (box1 _ _).drew | exact HS.out _ (box2 _ _ _).drew
          clear hK K
          try simp only [Act.put, List.getElem_toArray, List.getElem_cons_zero, List.getElem_cons_succ, List.setIfInBounds_toArray, List.set_cons_zero, List.set_cons_succ]
          refine wpAnyH_ready (rs := [17]) (by kernel_rfl) (by simp) ?_
          refine AllReadyH.cons rfl (fun K hK => ?_) ?_
          · go_simp
            refine hK.out _ _ ?_ (fun hHeld => ?_)
            · first | exact HS.out _ (box1 _ _).drew | exact HS.out _ (box2 _ _ _).drew
            clear hK K
            try simp only [Act.put, List.getElem_toArray, List.getElem_cons_zero, List.getElem_cons_succ, List.setIfInBounds_toArray, List.set_cons_zero, List.set_cons_succ]
            refine wpAnyH_done (by kernel_rfl) ?_ _
            dsimp only [Only, Exit.then]
            go_wp2_with fail
            go_meet
            first | exact ⟨_, _, rfl, rfl, bx_fst _ _ _, bx_snd _ _ _, (box2 _ _ _).drew⟩ | exact ⟨_, _, rfl, rfl, bx_snd _ _ _, bx_fst _ _ _, (box2 _ _ _).drew⟩
          exact AllReadyH.nil
        exact AllReadyH.nil
      exact AllReadyH.nil
    refine AllReadyH.cons rfl (fun K hK => ?_) ?_
    · go_simp
      refine hK.out _ _ ?_ (fun hHeld => ?_)
      · first | exact HS.out _ (box1 _ _).drew | exact HS.out _ (box2 _ _ _).drew
      clear hK K
      try simp only [Act.put, List.getElem_toArray, List.getElem_cons_zero, List.getElem_cons_succ, List.setIfInBounds_toArray, List.set_cons_zero, List.set_cons_succ]
      refine wpAnyH_ready (rs := [14]) (by kernel_rfl) (by simp) ?_
      refine AllReadyH.cons rfl (fun K hK => ?_) ?_
      · go_simp
        refine hK.out _ _ ?_ (fun hHeld => ?_)
        · first | exact HS.out _ (box1 _ _).drew | exact HS.out _ (box2 _ _ _).drew
        clear hK K
        try simp only [Act.put, List.getElem_toArray, List.getElem_cons_zero, List.getElem_cons_succ, List.setIfInBounds_toArray, List.set_cons_zero, List.set_cons_succ]
        refine wpAnyH_ready (rs := [16]) (by kernel_rfl) (by simp) ?_
        refine AllReadyH.cons rfl (fun K hK => ?_) ?_
        · go_simp
          refine hK.out _ _ ?_ (fun hHeld => ?_)
          · first | exact HS.out _ (box1 _ _).drew | exact HS.out _ (box2 _ _ _).drew
          clear hK K
          try simp only [Act.put, List.getElem_toArray, List.getElem_cons_zero, List.getElem_cons_succ, List.setIfInBounds_toArray, List.set_cons_zero, List.set_cons_succ]
          refine wpAnyH_ready (rs := [17]) (by kernel_rfl) (by simp) ?_
          refine AllReadyH.cons rfl (fun K hK => ?_) ?_
          · go_simp
            refine hK.out _ _ ?_ (fun hHeld => ?_)
            · first | exact HS.out _ (box1 _ _).drew | exact HS.out _ (box2 _ _ _).drew
            clear hK K
            try simp only [Act.put, List.getElem_toArray, List.getElem_cons_zero, List.getElem_cons_succ, List.setIfInBounds_toArray, List.set_cons_zero, List.set_cons_succ]
            refine wpAnyH_done (by kernel_rfl) ?_ _
            dsimp only [Only, Exit.then]
            go_wp2_with fail
            go_meet
            first | exact ⟨_, _, rfl, rfl, bx_fst _ _ _, bx_snd _ _ _, (box2 _ _ _).drew⟩ | exact ⟨_, _, rfl, rfl, bx_snd _ _ _, bx_fst _ _ _, (box2 _ _ _).drew⟩
          exact AllReadyH.nil
        exact AllReadyH.nil
      exact AllReadyH.nil
    exact AllReadyH.nil
  case rest =>
    obtain ⟨x, y, rfl, rfl, hx, hy, hB⟩ := hcut
    rename World => wc
    have x0 : wc.cell? ⟨x, 0, none⟩ = some (.int .i64 s.k) := hx.c 0
    have x1 : wc.cell? ⟨x, 1, none⟩ = some (.int .i64 s.n) := hx.c 1
    have x2 : wc.cell? ⟨x, 2, none⟩ = some (.int .i64 s.p) := hx.c 2
    have y0 : wc.cell? ⟨y, 0, none⟩ = some (.int .i64 t.k) := hy.c 0
    have y1 : wc.cell? ⟨y, 1, none⟩ = some (.int .i64 t.n) := hy.c 1
    have y2 : wc.cell? ⟨y, 2, none⟩ = some (.int .i64 t.p) := hy.c 2
    have HB := hide hB
    by_cases hp : s.p < t.p
    · have e : lt s t = !ah t.k s.k := by rw [lt, if_pos hp]
      rw [HR.out] at e
      subst e
      go_wp2_with (go_at_call 34; refine (HA.out _ _ _ _ _ HB.out).mono ?_; rintro e w1 ⟨rfl, hb1⟩)
      go_ret
      exact ⟨rfl, bt HB.out hb1⟩
    · have e : lt s t = ah s.k t.k := by rw [lt, if_neg hp]
      rw [HR.out] at e
      subst e
      go_wp2_with (go_at_call 34; refine (HA.out _ _ _ _ _ HB.out).mono ?_; rintro e w1 ⟨rfl, hb1⟩)
      go_ret
      exact ⟨rfl, bt HB.out hb1⟩
end Go.Proofs.Ytdhiomahcilffaa
