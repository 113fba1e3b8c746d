/-
  same: an index and the document's hold the same units.
-/
import Derived.Test.YtkodeopkgmichaaRangeAll
import Derived.Test.YtkodeopkgmichaaHeldIn
namespace Go.Proofs.Ytkodeopkgmichaa
open Go.RowKit Go.Shelf
set_option linter.unusedVariables false
set_option linter.unusedSimpArgs false
attribute [local go_sem] Oper.semAt_some
/-- The slice v reads as the document's units l. -/
def Us (w : World) (v : Value) (l : List Bd) : Prop := w.ownsRow 0 58 5 v l.length (l.flatMap Bd.cs)
theorem Us.form {w : World} {v : Value} {l : List Bd} (h : Us w v l) :
    ∃ a cap, v = .slice a l.length cap ∧ l.length ≤ cap ∧ cap ≤ maxLen ∧ ∀ i t, l[i]? = some t → BdAt w a i t := by
  rcases h.2 with ⟨e, h0⟩ | ⟨g, cap, cur, e, hb, hg, hn, hm, hs, ht⟩
  · exact ⟨none, 0, by rw [h0]; exact e, by omega, by decide, fun i t hi => by
      have := List.eq_nil_of_length_eq_zero h0; subst this; simp at hi⟩
  · refine ⟨_, cap, e, hn, hm, fun i t hi => ?_⟩
    have hc : ∀ j u, t.cs[j]? = some u → j < 5 → w.cell? ⟨g, i * 5 + j, none⟩ = some u := fun j u hu hj => by
      have := World.ownsRow.cells h (g := g) (by rw [e]; rfl) (i * 5 + j) u (by rw [cs_get l i t j hi hj]; exact hu)
      simpa [Addr.add_lit] using this
    exact ⟨g, rfl, (Array.getElem?_eq_some_iff.1 hg).1, hc 0 _ rfl (by omega), hc 1 _ rfl (by omega), hc 2 _ rfl (by omega), hc 3 _ rfl (by omega), hc 4 _ rfl (by omega)⟩
/-- In block r lies the document's index: its units. -/
structure Rx (w : World) (r : Nat) (v : Value) (l : List Bd) : Prop where
  blk : w.heap[r]? = some (.cells #[v] 29 (0, 0))
  us : Us w v l
theorem Rx.c {w : World} {r : Nat} {v : Value} {l : List Bd} (h : Rx w r v l) : w.cell? ⟨r, 0, none⟩ = some v := cell_of_row w r 0 _ _ _ h.blk
theorem Rx.lt {w : World} {r : Nat} {v : Value} {l : List Bd} (h : Rx w r v l) : r < w.heap.size := (Array.getElem?_eq_some_iff.1 h.blk).1
theorem Rx.turned {S : Nat → Prop} {w w' : World} {r : Nat} {v : Value} {l : List Bd} (h : Rx w r v l) (ht : Turns S w w') (h1 : ¬ S r) (h2 : ∀ k, v.ownBlock = some k → ¬ S k) : Rx w' r v l :=
  ⟨ht.same h1 h.blk, row_kept h.us ht h2⟩
theorem Rx.kept {w w' : World} {r : Nat} {v : Value} {l : List Bd} (h : Rx w r v l) (hB : Below w.heap.size w w') : Rx w' r v l := h.turned (S := NoB) (Turns.of_below hB) id (fun _ _ => id)
theorem all_is (p : Nat) (w : World) : Calls Try.prog 20 #[ptr p] w fun e w' => e = .returned (.func (.func 38) #[] #[ptr w.heap.size]) ∧ w' = w.alloc (.cells #[ptr p] 24) := by
  go_enter Try.func20, Try.ntmps20
  go_wp2
  go_ret
  exact ⟨rfl, rfl⟩
theorem len_is (p fm bm m : Nat) (l : List Bd) (w : World) (h : St w p fm bm m l) : Calls Try.prog 23 #[ptr p] w fun e w' => e = .returned (.int .i64 (l.length : Nat)) ∧ w' = w := by
  exact len_any p fm bm l.length m _ _ w h.ix
set_option maxRecDepth 100000 in
set_option maxHeartbeats 4000000 in
theorem same_yes (p fm bm m r : Nat) (v : Value) (l : List Bd) (w : World) (h : St w p fm bm m l) (hr : Rx w r v l) :
    Calls Try.prog 10 #[ptr p, ptr r] w fun e w' => e = .returned (.bool true) ∧ Below w.heap.size w w' := by
  refine (callsIn_wide (n := 10)).1 ?_
  refine callsIn_of_wp_marks Try.func10 rfl trivial ?_ rfl
  simp only [Try.ntmps10, List.size_toArray, List.length_cons, List.length_nil, Nat.reduceAdd, Nat.reduceSub, Array.replicate_succ, Array.replicate_zero, List.push_toArray, List.append_toArray, List.nil_append, List.cons_append]
  have hpl := h.ix.lt
  have hrl := hr.lt
  gi_wp2_with fail
  refine ⟨trivial, ?_⟩
  refine (callsIn_wide.2 (all_is _ _)).mono ?_
  rintro e w4 ⟨rfl, rfl⟩
  gi_wp2_with fail
  obtain ⟨V, hV⟩ : ∃ V, (((w.alloc (.cells #[ptr r] 26)).alloc (.cells #[.bool false] 4)).alloc (.cells #[.int .i64 0] 3)).alloc (.cells #[ptr p] 24) = V := ⟨_, rfl⟩
  have bV : Below w.heap.size w V := by rw [← hV]; exact bt (box2 _ _ _) (box2 _ _ _)
  have zV : V.heap.size = w.heap.size + 4 := by rw [← hV]; simp
  have m0 : Boxed V w.heap.size 26 (ptr r) := by rw [← hV]; exact (((Boxed.new w 26 (ptr r)).alloc _).alloc _).alloc _
  have m1 : Boxed V (w.heap.size + 1) 4 (.bool false) := by
    rw [← hV]
    have := ((Boxed.new (w.alloc (.cells #[ptr r] 26)) 4 (.bool false)).alloc (.cells #[.int .i64 0] 3)).alloc (.cells #[ptr p] 24)
    simpa using this
  have m2 : Boxed V (w.heap.size + 1 + 1) 3 (.int .i64 0) := by
    rw [← hV]
    have := (Boxed.new ((w.alloc (.cells #[ptr r] 26)).alloc (.cells #[.bool false] 4)) 3 (.int .i64 0)).alloc (.cells #[ptr p] 24)
    simpa using this
  have m3 : Boxed V (w.heap.size + 1 + 1 + 1) 24 (ptr p) := by
    rw [← hV]
    have := Boxed.new (((w.alloc (.cells #[ptr r] 26)).alloc (.cells #[.bool false] 4)).alloc (.cells #[.int .i64 0] 3)) 24 (ptr p)
    simpa using this
  rw [hV]
  clear hV
  refine range_all (by omega) (c := w.heap.size + 1 + 1 + 1) (p := p) (L := l) rfl m3 (h.kept bV) rfl
    (fun C pre W => Boxed W w.heap.size 26 (ptr r) ∧ Boxed W (w.heap.size + 1) 4 (.bool false) ∧ Boxed W (w.heap.size + 1 + 1) 3 (.int .i64 (pre.length : Nat)) ∧ Below w.heap.size w W)
    ?hI ?h0
    (fun x a' W => ∃ q, V.heap.size + 2 ≤ q ∧ Four W q x.r.x x.r.y x.r.a x.r.b ∧ a' = { tmps := #[ptr p, ptr r, undef, ptr w.heap.size, ptr (w.heap.size + 1), ptr (w.heap.size + 1 + 1), .int .i64 x.id, ptr q, ptr p, .func (.func 38) #[] #[ptr (w.heap.size + 1 + 1 + 1)], .int .i64 x.id, x.r.v, undef, undef, undef, undef, undef, undef, undef, undef, undef, undef, undef, undef, undef, undef, undef, undef, undef, undef, undef, undef, undef, undef, undef, undef, undef, undef, undef, undef, undef, undef, undef, undef, undef, undef, undef, undef, undef, undef, undef, undef, undef, undef, undef, undef, undef, undef], defers := [] })
    ?hAx ?assign ?body ?done
  case hI =>
    rintro C pre X Y ⟨h1, h2, h3, h4⟩ t
    have hz := h3.lt
    exact ⟨boxed_kept h1 t (by omega), boxed_kept h2 t (by omega), boxed_kept h3 t (by omega), h4.trans (t.below (fun k e => by omega) h4.size)⟩
  case h0 =>
    intro W _ hb
    exact ⟨boxed_upto m0 hb (by omega), boxed_upto m1 hb (by omega), boxed_upto m2 hb (by omega), bV.trans (hb.mono (by omega))⟩
  case hAx =>
    rintro x a' X Y ⟨q, h1, h2, h3⟩ t
    exact ⟨q, h1, h2.turned t (by omega), h3⟩
  case assign =>
    rintro lo C pre x W K ⟨h1, h2, h3, h4⟩ hpre hCW hVC hK
    gi_wp2
    have hb1 := box1 W (.cells #[.int .i64 x.r.x, .int .i64 x.r.y, .int .i64 x.r.a, .int .i64 x.r.b] 34)
    exact hK _ _ (Kr.of_below hb1) ⟨boxed_upto h1 hb1 h1.lt, boxed_upto h2 hb1 h2.lt, boxed_upto h3 hb1 h3.lt, h4.trans (hb1.mono h4.size)⟩ ⟨W.heap.size, by omega, cells4 (Below.refl _ _), rfl⟩
  case body =>
    rintro lo C pre x a' W hl ⟨h1, h2, h3, h4⟩ ⟨q, hq, fq, rfl⟩ hpre hCW hVC
    have hk : l[pre.length]? = some x := by obtain ⟨t, rfl⟩ := hpre; simp
    have hlt : pre.length < l.length := (List.getElem?_eq_some_iff.1 hk).1
    have RW := hr.kept h4
    obtain ⟨a, cap, hv, hc1, hc2, hat⟩ := RW.us.form
    obtain ⟨g, rfl, hg, d0, d1, d2, d3, d4⟩ := hat _ _ hk
    subst hv
    obtain ⟨k, hkk⟩ : ∃ k, pre.length = k := ⟨_, rfl⟩
    have hpl2 : (pre ++ [x]).length = k + 1 := by simp [hkk]
    rw [hkk] at h3 hlt d0 d1 d2 d3 d4
    have cK : ∀ m : Lat W, m.w.cell? ⟨w.heap.size + 1 + 1, 0, none⟩ = some (.int .i64 (k : Nat)) := fun m => (boxed_upto h3 m.h h3.lt).cell
    have cY : ∀ m : Lat W, m.w.cell? ⟨w.heap.size, 0, none⟩ = some (ptr r) := fun m => (boxed_upto h1 m.h h1.lt).cell
    have cL : ∀ m : Lat W, m.w.cell? ⟨r, 0, none⟩ = some (.slice (some ⟨g, 0, none⟩) l.length cap) := fun m => (RW.kept m.h).c
    have e0 : ∀ m : Lat W, m.w.cell? ⟨g, k * 5, none⟩ = some (.int .i64 x.id) := fun m => (m.h.cell (p := ⟨g, k * 5, none⟩) hg).trans d0
    have e1 : ∀ m : Lat W, m.w.cell? ⟨g, k * 5 + 1, none⟩ = some (.int .i64 x.r.x) := fun m => (m.h.cell (p := ⟨g, k * 5 + 1, none⟩) hg).trans d1
    have e2 : ∀ m : Lat W, m.w.cell? ⟨g, k * 5 + 2, none⟩ = some (.int .i64 x.r.y) := fun m => (m.h.cell (p := ⟨g, k * 5 + 2, none⟩) hg).trans d2
    have e3 : ∀ m : Lat W, m.w.cell? ⟨g, k * 5 + 3, none⟩ = some (.int .i64 x.r.a) := fun m => (m.h.cell (p := ⟨g, k * 5 + 3, none⟩) hg).trans d3
    have e4 : ∀ m : Lat W, m.w.cell? ⟨g, k * 5 + 4, none⟩ = some (.int .i64 x.r.b) := fun m => (m.h.cell (p := ⟨g, k * 5 + 4, none⟩) hg).trans d4
    obtain ⟨⟨f0, f1, f2, f3⟩, -, hql⟩ := id fq
    have q0 : ∀ m : Lat W, m.w.cell? ⟨q, 0, none⟩ = some (.int .i64 x.r.x) := fun m => (m.h.cell (p := ⟨q, 0, none⟩) hql).trans f0
    have q1 : ∀ m : Lat W, m.w.cell? ⟨q, 1, none⟩ = some (.int .i64 x.r.y) := fun m => (m.h.cell (p := ⟨q, 1, none⟩) hql).trans f1
    have q2 : ∀ m : Lat W, m.w.cell? ⟨q, 2, none⟩ = some (.int .i64 x.r.a) := fun m => (m.h.cell (p := ⟨q, 2, none⟩) hql).trans f2
    have q3 : ∀ m : Lat W, m.w.cell? ⟨q, 3, none⟩ = some (.int .i64 x.r.b) := fun m => (m.h.cell (p := ⟨q, 3, none⟩) hql).trans f3
    have g1 : (k : Int) < (l.length : Nat) := by omega
    have g2 : (0 : Int) ≤ (k : Nat) := by omega
    have g4 : decide ((k : Int) < 0) = false := by simp
    have g5 : decide ((l.length : Int) ≤ (k : Nat)) = false := by simp; omega
    have g6 : ¬ ((l.length : Int) ≤ (k : Nat)) := by omega
    have g7 : decide (l.length ≤ k) = false := by simp; omega
    have hne := lat_some W
    have H1 := hide h1
    have H2 := hide h2
    have H3 := hide h3
    have H4 := hide h4
    clear h1 h2 h3 h4 d0 d1 d2 d3 d4 f0 f1 f2 f3 hat hk RW fq
    gi_wp2_with fail
    refine wpIn_region_lat (by kernel_rfl) (by kernel_rfl) (by kernel_rfl) ?_
    repeat (refine wpQuietIn_step (fun _ _ _ _ => trivial) (fun K hK => ?_); go_simp; refine hK _ ?_; clear hK K)
    refine wpQuietIn_nil ?_
    rintro _ ⟨m, rfl⟩
    have b1 := boxed_upto H1.out m.h H1.out.lt
    have b2 := boxed_upto H2.out m.h H2.out.lt
    have b3 := boxed_upto H3.out m.h H3.out.lt
    have b4 := H4.out.trans (m.h.mono H4.out.size)
    have ck := b3.cell
    have fk := b3.frozen
    have B1 := hide b1
    have B2 := hide b2
    have B3 := hide b3
    have B4 := hide b4
    have HKr : Hid (Kr V.heap.size C W m.w) := hide (Kr.of_below m.h)
    have hmax : (k : Int) ≤ 4611686018427387904 := by have := h.fine.len; omega
    clear b1 b2 b3 b4 cK cY cL e0 e1 e2 e3 e4 q0 q1 q2 q3 hne
    gi_wp2_with fail
    have T : Turns (fun j => j = w.heap.size + 1 + 1) m.w (m.w.setCell ⟨w.heap.size + 1 + 1, 0, none⟩ (.int .i64 ((k : Nat) + 1))) := Turns.set (S := fun j => j = w.heap.size + 1 + 1) _ rfl _
    refine ⟨HKr.out.trans (Kr.of_turns T (fun j _ _ _ e => by omega)), boxed_kept B1.out T (by omega), boxed_kept B2.out T (by omega), ?_, B4.out.trans (T.below (fun j e => by omega) B4.out.size)⟩
    rw [hpl2]
    exact B3.out.set _
  case done =>
    rintro D C W hD ⟨h1, h2, h3, h4⟩ hK
    have SW := h.kept h4
    have RW := hr.kept h4
    obtain ⟨a, cap, hv, hc1, hc2, -⟩ := RW.us.form
    subst hv
    have cR := RW.c
    have cK := h3.cell
    have cY := h1.cell
    have c4 := h2.cell
    have f4 := h2.frozen
    have HS := hide (show St W.drew p fm bm m l from SW.kept (Below.refl _ _).drew)
    have H2 := hide h2
    have H4 := hide h4
    have HK := hide hK
    have hg : decide ((l.length : Int) = (l.length : Int)) = true := by simp
    have hS : (fun wx : World => wx.cell? ⟨w.heap.size + 1 + 1, 0, none⟩ = some (.int .i64 (l.length : Nat)) ∧ wx.cell? ⟨w.heap.size, 0, none⟩ = some (ptr r) ∧ wx.cell? ⟨r, 0, none⟩ = some (.slice a l.length cap)) W.drew := ⟨cK, cY, cR⟩
    have TX : Turns (fun j => j = w.heap.size + 1) W.drew (W.drew.setCell ⟨w.heap.size + 1, 0, none⟩ (.bool true)) := Turns.set (S := fun j => j = w.heap.size + 1) _ rfl _
    have HSx : Hid ((fun wx : World => wx.cell? ⟨w.heap.size + 1 + 1, 0, none⟩ = some (.int .i64 (l.length : Nat)) ∧ wx.cell? ⟨w.heap.size, 0, none⟩ = some (ptr r) ∧ wx.cell? ⟨r, 0, none⟩ = some (.slice a l.length cap)) (W.drew.setCell ⟨w.heap.size + 1, 0, none⟩ (.bool true))) := hide ⟨TX.cell (by omega) cK, TX.cell (by omega) cY, TX.cell (by omega) cR⟩
    have HTX := hide TX
    clear h1 h2 h3 h4 hK SW RW TX
    gi_wp2_with fail
    refine wpIn_mono (Q := Only (fun a' Y => a' = { tmps := #[ptr p, ptr r, undef, ptr w.heap.size, ptr (w.heap.size + 1), ptr (w.heap.size + 1 + 1), undef, undef, ptr p, .func (.func 38) #[] #[ptr (w.heap.size + 1 + 1 + 1)], undef, undef, undef, undef, undef, undef, undef, undef, undef, undef, undef, undef, undef, undef, undef, undef, undef, undef, undef, undef, undef, undef, undef, undef, undef, undef, undef, undef, undef, undef, undef, undef, undef, undef, undef, .int .i64 (l.length : Nat), ptr r, ptr r, ptr r, .slice a l.length cap, .int .i64 (l.length : Nat), .bool true, .bool true, ptr p, .int .i64 (l.length : Nat), .int .i64 (l.length : Nat), .bool true, .bool true], defers := [{ target := .collected D, args := #[] }] } ∧ Y = W.drew.setCell ⟨w.heap.size + 1, 0, none⟩ (.bool true))) ?reg ?rest
    case rest =>
      rintro (_ | _ | _ | _ | _) a' Y hO
      all_goals first | exact hO.elim | skip
      obtain ⟨rfl, rfl⟩ := hO
      gi_wp2_with fail
      have hK8 : (W.drew.setCell ⟨w.heap.size + 1, 0, none⟩ (.bool true)).heap[D]? = some (.deferred (some [])) := HTX.out.same (by omega) HK.out
      refine ⟨by simp, .inl ⟨_, _, rfl, run_takeDeferred hK8, ?_⟩⟩
      have TD : Turns (fun k => k = D) (W.drew.setCell ⟨w.heap.size + 1, 0, none⟩ (.bool true)) ((W.drew.setCell ⟨w.heap.size + 1, 0, none⟩ (.bool true)).putObj D (.deferred none)) := turns_put _ _ _ rfl
      have hc9 := boxed_kept ((show Boxed W.drew (w.heap.size + 1) 4 (.bool false) from H2.out).set (.bool true)) TD (by omega)
      have hc9' : ((W.setCell ⟨w.heap.size + 1, 0, none⟩ (.bool true)).drew.putObj D (.deferred none)).cell? ⟨w.heap.size + 1, 0, none⟩ = some (.bool true) := hc9.cell
      have hB9 : Below w.heap.size w ((W.drew.setCell ⟨w.heap.size + 1, 0, none⟩ (.bool true)).putObj D (.deferred none)) :=
        (H4.out.trans ((Below.refl _ _).drew.mono H4.out.size)).trans ((HTX.out.below (B := w.heap.size) (fun k e => by omega) H4.out.size).trans (TD.below (fun k e => by omega) (Nat.le_trans H4.out.size HTX.out.size)))
      refine ⟨.bool true, ?_, rfl, hB9⟩
      simp [results, Try.f10, go_sem, hc9']
    refine wpIn_region_heldW (S := fun wx => wx.cell? ⟨w.heap.size + 1 + 1, 0, none⟩ = some (.int .i64 (l.length : Nat)) ∧ wx.cell? ⟨w.heap.size, 0, none⟩ = some (ptr r) ∧ wx.cell? ⟨r, 0, none⟩ = some (.slice a l.length cap)) only_in (by kernel_rfl) (by kernel_rfl) hS (fun hHeld => ?_)
    refine wpAnyH_take (i := 0) (v := ?_) rfl (by kernel_rfl) (by kernel_rfl) (by kernel_rfl) (fun _ _ _ h => h.elim) (Or.inl ⟨by rfl, ?_⟩) (by assumption) ?_
    rotate_left
    · intro wx hSw
      try dsimp only at hSw
      go_simp
      try with_reducible rfl
    try simp only [Act.put, List.getElem_toArray, List.getElem_cons_zero, List.getElem_cons_succ, List.setIfInBounds_toArray, List.set_cons_zero, List.set_cons_succ]
    refine wpAnyH_take (i := 1) (v := ?_) rfl (by kernel_rfl) (by kernel_rfl) (by kernel_rfl) (fun _ _ _ h => h.elim) (Or.inl ⟨by rfl, ?_⟩) (by assumption) ?_
    rotate_left
    · intro wx hSw
      try dsimp only at hSw
      go_simp
      try with_reducible rfl
    try simp only [Act.put, List.getElem_toArray, List.getElem_cons_zero, List.getElem_cons_succ, List.setIfInBounds_toArray, List.set_cons_zero, List.set_cons_succ]
    refine wpAnyH_take (i := 2) (v := ?_) rfl (by kernel_rfl) (by kernel_rfl) (by kernel_rfl) (fun _ _ _ h => h.elim) (Or.inl ⟨by rfl, ?_⟩) (by assumption) ?_
    rotate_left
    · intro wx hSw
      try dsimp only at hSw
      go_simp
      try with_reducible rfl
    try simp only [Act.put, List.getElem_toArray, List.getElem_cons_zero, List.getElem_cons_succ, List.setIfInBounds_toArray, List.set_cons_zero, List.set_cons_succ]
    refine wpAnyH_take (i := 3) (v := ?_) rfl (by kernel_rfl) (by kernel_rfl) (by kernel_rfl) (fun _ _ _ h => h.elim) (Or.inl ⟨by rfl, ?_⟩) (by assumption) ?_
    rotate_left
    · intro wx hSw
      try dsimp only at hSw
      go_simp
      try with_reducible rfl
    try simp only [Act.put, List.getElem_toArray, List.getElem_cons_zero, List.getElem_cons_succ, List.setIfInBounds_toArray, List.set_cons_zero, List.set_cons_succ]
    refine wpAnyH_take (i := 4) (v := ?_) rfl (by kernel_rfl) (by kernel_rfl) (by kernel_rfl) (fun _ _ _ h => h.elim) (Or.inl ⟨by rfl, ?_⟩) (by assumption) ?_
    rotate_left
    · intro wx hSw
      try dsimp only at hSw
      go_simp
      try with_reducible rfl
    try simp only [Act.put, List.getElem_toArray, List.getElem_cons_zero, List.getElem_cons_succ, List.setIfInBounds_toArray, List.set_cons_zero, List.set_cons_succ]
    refine wpAnyH_take (i := 5) (v := ?_) rfl (by kernel_rfl) (by kernel_rfl) (by kernel_rfl) (fun _ _ _ h => h.elim) (Or.inl ⟨by rfl, ?_⟩) (by assumption) ?_
    rotate_left
    · intro wx hSw
      try dsimp only at hSw
      go_simp
      try with_reducible rfl
    try simp only [Act.put, List.getElem_toArray, List.getElem_cons_zero, List.getElem_cons_succ, List.setIfInBounds_toArray, List.set_cons_zero, List.set_cons_succ]
    refine wpAnyH_take (i := 6) (v := ?_) rfl (by kernel_rfl) (by kernel_rfl) (by kernel_rfl) (fun _ _ _ h => h.elim) (Or.inl ⟨by rfl, ?_⟩) (by assumption) ?_
    rotate_left
    · intro wx hSw
      try dsimp only at hSw
      go_simp
      try with_reducible rfl
    try simp only [Act.put, List.getElem_toArray, List.getElem_cons_zero, List.getElem_cons_succ, List.setIfInBounds_toArray, List.set_cons_zero, List.set_cons_succ]
    refine wpAnyH_take (i := 7) (v := ?_) rfl (by kernel_rfl) (by kernel_rfl) (by kernel_rfl) (fun _ _ _ h => h.elim) (Or.inl ⟨by rfl, ?_⟩) (by assumption) ?_
    rotate_left
    · intro wx hSw
      try dsimp only at hSw
      go_simp
      try with_reducible rfl
    try simp only [Act.put, List.getElem_toArray, List.getElem_cons_zero, List.getElem_cons_succ, List.setIfInBounds_toArray, List.set_cons_zero, List.set_cons_succ]
    refine wpAnyH_take (i := 8) (v := ?_) rfl (by kernel_rfl) (by kernel_rfl) (by kernel_rfl) (fun _ _ _ h => h.elim) (Or.inl ⟨by rfl, ?_⟩) (by assumption) ?_
    rotate_left
    · intro wx hSw
      try dsimp only at hSw
      go_simp
      try with_reducible rfl
    try simp only [Act.put, List.getElem_toArray, List.getElem_cons_zero, List.getElem_cons_succ, List.setIfInBounds_toArray, List.set_cons_zero, List.set_cons_succ]
    refine wpAnyH_take (i := 10) (v := ?_) rfl (by kernel_rfl) (by kernel_rfl) (by kernel_rfl) (fun _ _ _ h => h.elim) (Or.inl ⟨by rfl, ?_⟩) (by assumption) ?_
    rotate_left
    · intro wx hSw
      try dsimp only at hSw
      go_simp
      try with_reducible rfl
    try simp only [Act.put, List.getElem_toArray, List.getElem_cons_zero, List.getElem_cons_succ, List.setIfInBounds_toArray, List.set_cons_zero, List.set_cons_succ]
    refine wpAnyH_ready (rs := [9]) (by kernel_rfl) (by simp) ?_
    refine AllReadyH.cons rfl (fun K hK => ?_) ?_
    · go_simp
      refine (len_is p fm bm m l _ HS.out).mono ?_
      rintro e w5 ⟨rfl, rfl⟩
      refine hK.out _ _ ?_ (fun hHeld => ?_)
      · first | exact hHeld | exact HSx.out
      clear hK K
      try simp only [Act.put, List.getElem_toArray, List.getElem_cons_zero, List.getElem_cons_succ, List.setIfInBounds_toArray, List.set_cons_zero, List.set_cons_succ]
      refine wpAnyH_take (i := 11) (v := ?_) rfl (by kernel_rfl) (by kernel_rfl) (by kernel_rfl) (fun _ _ _ h => h.elim) (Or.inl ⟨by rfl, ?_⟩) (by assumption) ?_
      rotate_left
      · intro wx hSw
        try dsimp only at hSw
        go_simp
        try with_reducible rfl
      try simp only [Act.put, List.getElem_toArray, List.getElem_cons_zero, List.getElem_cons_succ, List.setIfInBounds_toArray, List.set_cons_zero, List.set_cons_succ]
      refine wpAnyH_take (i := 12) (v := ?_) rfl (by kernel_rfl) (by kernel_rfl) (by kernel_rfl) (fun _ _ _ h => h.elim) (Or.inl ⟨by rfl, ?_⟩) (by assumption) ?_
      rotate_left
      · intro wx hSw
        try dsimp only at hSw
        go_simp
        try with_reducible rfl
      try simp only [Act.put, List.getElem_toArray, List.getElem_cons_zero, List.getElem_cons_succ, List.setIfInBounds_toArray, List.set_cons_zero, List.set_cons_succ]
      refine wpAnyH_ready (rs := [13]) (by kernel_rfl) (by simp) ?_
      refine AllReadyH.cons rfl (fun K hK => ?_) ?_
      · go_simp
        refine hK.out _ _ ?_ (fun hHeld => ?_)
        · first | exact hHeld | exact HSx.out
        clear hK K
        try simp only [Act.put, List.getElem_toArray, List.getElem_cons_zero, List.getElem_cons_succ, List.setIfInBounds_toArray, List.set_cons_zero, List.set_cons_succ]
        refine wpAnyH_done (by kernel_rfl) ?_ _
        exact ⟨rfl, rfl⟩
      exact AllReadyH.nil
    exact AllReadyH.nil
end Go.Proofs.Ytkodeopkgmichaa
