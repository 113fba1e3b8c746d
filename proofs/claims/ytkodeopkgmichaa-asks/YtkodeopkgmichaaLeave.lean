/-
  A unit that leaves.
-/
import Derived.Test.YtkodeopkgmichaaPut
namespace Go.Proofs.Ytkodeopkgmichaa
open Go.RowKit Go.Shelf
set_option linter.unusedVariables false
set_option linter.unusedSimpArgs false
attribute [local go_sem] Oper.semAt_some
/-- f, but nobody on the cells of pre. -/
def delAll (f : Int → Int → Option Int) (pre : List Cel) : Int → Int → Option Int := fun x y => if pre.any (fun q => decide (q.1.1 = x ∧ q.1.2 = y)) = true then none else f x y
theorem delAll_nil (f : Int → Int → Option Int) : delAll f [] = f := by funext x y; simp [delAll]
theorem delAll_snoc (f : Int → Int → Option Int) (pre : List Cel) (q : Cel) : delAll f (pre ++ [q]) = fun u v => if u = q.1.1 ∧ v = q.1.2 then none else delAll f pre u v := by
  funext u v
  unfold delAll
  rw [List.any_append]
  by_cases h : u = q.1.1 ∧ v = q.1.2
  · rw [if_pos h, if_pos]; simp [h.1, h.2]
  · rw [if_neg h]
    have : ([q].any fun q => decide (q.1.1 = u ∧ q.1.2 = v)) = false := by simp; intro h1 h2; exact h ⟨h1.symm, h2.symm⟩
    rw [this, Bool.or_false]
theorem ownFrom_who0 {B b n : Nat} {F : List Cel → Int → Int → Option Int} (hb : b < B) : OwnFrom B (fun (pre : List Cel) W => Who W b n (F pre)) := fun s X Y row hs hg hr =>
  hs.kept (Turns.of_grown (S := fun k => row = some k) hg (fun k e => e)) (fun e => by have := (hr _ e).1; omega)
/-- What leave leaves. -/
def Left (w : World) (p fm bm n m : Nat) (g : Int → Option Rc) (f : Int → Int → Option Int) (i : Int) (r : Rc) (w' : World) : Prop :=
  Ix w' p fm bm n m (fun j => if j = i then none else g j) (delAll f (allC r.x r.y r.a r.b)) ∧ Turns (fun k => k = fm ∨ k = bm) w w'
set_option maxRecDepth 100000 in
set_option maxHeartbeats 4000000 in
theorem leave_any (p fm bm n m : Nat) (g : Int → Option Rc) (f : Int → Int → Option Int) (i : Int) (r : Rc) (w : World) (h : Ix w p fm bm (n + 1) m g f) (hi : W64 i) (hs : (g i).isSome = true) :
    Calls Try.prog 35 #[ptr p, .int .i64 i, r.v] w fun e w' => e = .returned (.tuple #[]) ∧ Left w p fm bm n m g f i r w' := by
  refine (callsIn_wide (n := 10)).1 ?_
  refine callsIn_of_wp_marks Try.func35 rfl trivial ?_ rfl
  simp only [Try.ntmps35, List.size_toArray, List.length_cons, List.length_nil, Nat.reduceAdd, Nat.reduceSub, Array.replicate_succ, Array.replicate_zero, List.push_toArray, List.append_toArray, List.nil_append, List.cons_append]
  obtain ⟨hpf, hpb⟩ := h.apart
  have hpl := h.lt
  have hfl := h.feet.lt
  have hbl := h.who.lt
  obtain ⟨X, hX⟩ : ∃ X, (w.alloc (.cells #[ptr p] 24)).alloc (.cells #[.int .i64 r.x, .int .i64 r.y, .int .i64 r.a, .int .i64 r.b] 34) = X := ⟨_, rfl⟩
  have B0 : Below w.heap.size w X := by rw [← hX]; exact box2 _ _ _
  have z0 : X.heap.size = w.heap.size + 2 := by rw [← hX]; simp
  have P0 : Boxed X w.heap.size 24 (ptr p) := by rw [← hX]; exact (Boxed.new w 24 (ptr p)).alloc _
  have F0 : Four X (w.heap.size + 1) r.x r.y r.a r.b := by rw [← hX]; simp [Four, go_sem]
  have h0 := h.kept B0
  obtain ⟨W1, hdel, hf1, hg1⟩ := h0.feet.drop hi hs 0
  have T1 : Turns (fun k => k = fm) X W1 := Turns.of_grown hg1 (fun k e => by cases e; rfl)
  have c0 := P0.cell
  have c2 := h0.c0
  have HF := hide hf1
  have hz1 := T1.size
  have P1 := boxed_kept P0 T1 (by omega)
  have F1 := F0.turned T1 (by omega)
  have d0 := T1.cell (by omega) h0.c0
  have d1 := T1.cell (by omega) h0.c1
  have w1 : Who W1 bm m f := h0.who.kept T1 (by have := h.ne; omega)
  obtain ⟨⟨k0, k1, k2, k3⟩, -, -⟩ := id F1
  have HX := hide hX
  clear hf1 hg1 hX
  gi_wp2_with (rw [HX.out])
  refine ⟨trivial, ?_⟩
  refine (callsIn_wide.2 (cells_any _ _ _ _ _)).mono ?_
  rintro e w4 ⟨rfl, rfl⟩
  gi_wp2_with fail
  have FB : Four (W1.alloc (.cells #[.int .i64 r.x, .int .i64 r.y, .int .i64 r.a, .int .i64 r.b] 34)) W1.heap.size r.x r.y r.a r.b := cells4 (Below.refl _ _)
  have B4 := box1 W1 (.cells #[.int .i64 r.x, .int .i64 r.y, .int .i64 r.a, .int .i64 r.b] 34)
  have z4 : (W1.alloc (.cells #[.int .i64 r.x, .int .i64 r.y, .int .i64 r.a, .int .i64 r.b] 34)).heap.size = W1.heap.size + 1 := by simp
  obtain ⟨V, hV⟩ : ∃ V, W1.alloc (.cells #[.int .i64 r.x, .int .i64 r.y, .int .i64 r.a, .int .i64 r.b] 34) = V := ⟨_, rfl⟩
  rw [hV] at FB B4 z4 ⊢
  clear hV k0 k1 k2 k3 hdel c0 c2
  have T4 : Turns NoB W1 V := Turns.of_below B4
  have w4 := w1.kept T4 id
  have P4 := boxed_kept P1 T4 id
  have e0 := T4.cell id d0
  have e1 := T4.cell id d1
  have HF4 := hide (HF.out.kept T4 id)
  have TV : Turns (fun k => k = fm) w V := ((Turns.of_below (S := fun k => k = fm) B0).trans (T1.mono (fun k _ h => .inl h))).trans (T4.mono (fun _ _ h => h.elim))
  obtain ⟨L, hL⟩ : ∃ L, allC r.x r.y r.a r.b = L := ⟨_, rfl⟩
  have hseq := cells_stops (10 - 1) W1.heap.size L.length r.x r.y r.a r.b V FB (by rw [← hL]; exact allC_le)
  rw [hL] at hseq
  have hfb := h.ne
  refine wpIn_rangeFunc_ownH rfl (by omega) (gf := 63) (lb := #[ptr W1.heap.size]) rfl trivial (enters_of Try.func63 (by kernel_rfl) rfl)
    hseq kB_t (kB_b (by omega)) (Below.refl _ _) (fun _ => rfl)
    (fun pre W => Who W bm m (delAll f pre) ∧ Turns (fun k => k = bm) V W)
    (fun c pre W => False)
    (OwnFrom.and (ownFrom_who0 (by omega)) (ownFrom_turns (Nat.le_refl _)))
    (fun c s X Y row hs hg hr => hs)
    ⟨by rw [delAll_nil]; exact w4, Turns.refl _ _⟩
    (fun q a' W => ∃ Bx, V.heap.size ≤ Bx ∧ Two W Bx q.1.1 q.1.2 ∧ a' = { tmps := #[ptr p, .int .i64 i, r.v, ptr w.heap.size, undef, ptr (w.heap.size + 1), ptr Bx, ptr p, ptr p, ptr p, .map (some fm), .int .i64 i, r.v, .func (.func 63) #[] #[ptr W1.heap.size], cel q.1.1 q.1.2, undef, undef, undef, undef, undef], defers := [] })
    (fun q a' _ X Y row hs hg hr => by obtain ⟨Bx, e1, e2, e3⟩ := hs; exact ⟨Bx, e1, e2.own hg (fun r e => (hr r e).2), e3⟩)
    ?assign ?body ?done ?stop
  case assign =>
    rintro l pre q W K ⟨hwh, hT⟩ hK
    have hsB := hT.size
    gi_wp2
    exact hK _ _ ((KeepsOthers.alloc _ _).from _) (Below.heap_alloc _ _ _ (by omega)) ⟨hwh.kept (Turns.of_below (S := NoB) (box1 _ _)) id, hT.trans (Turns.of_below (box1 _ _))⟩ ⟨W.heap.size, by omega, Two.newAt rfl, rfl⟩
  case body =>
    rintro lo pre q a' W hl ⟨rr, hr⟩ ⟨hwh, hT⟩ ⟨Bx, hBx, bX, rfl⟩ hlt
    have hsB := hT.size
    have PW := boxed_kept P4 hT (by omega)
    obtain ⟨W2, hdel, hw5, hg5⟩ := (show Who W.drew bm m (delAll f pre) from hwh).drop q.2.1 q.2.2 0
    have d0 := bX.1.1
    have d1 := bX.1.2
    have c0 := PW.cell
    have c6 := hT.cell (by omega) e1
    have KF : KeepsFrom V.heap.size W W2 := ⟨hg5.size, fun k o hB hk ho => (hg5.block k (Array.getElem?_eq_some_iff.1 hk).1 (fun e => by cases e; omega)).trans hk⟩
    have KK : KB W1.heap.size W W2 := hg5.block W1.heap.size (show W1.heap.size < W.heap.size by omega) (fun e => by cases e; omega)
    have hI : Who W2 bm m (delAll f (pre ++ [q])) ∧ Turns (fun k => k = bm) V W2 :=
      ⟨by rw [delAll_snoc]; exact hw5, hT.trans ((Turns.of_grown (w := W.drew) hg5 (fun k e => by cases e; exact .inl rfl)).undrew)⟩
    have HI := hide hI
    clear hg5 hw5 hwh PW hI
    gi_wp2_with fail
    gi_region
    all_goals
      gi_wp2
      exact ⟨KF, KK, HI.out⟩
  case done =>
    rintro D xs W hD hxs ⟨hwh, hT⟩ hK
    rw [hxs] at hwh
    have hdp : D ≠ p := by omega
    have hdb : D ≠ bm := by omega
    have hdf : D ≠ fm := by omega
    have TD : Turns (fun k => k = D) W (W.putObj D (.deferred none)) := Turns.of_grown (grownBy_putObj' W D (.deferred none)) (fun k e => by cases e; rfl)
    have hSt : Left w p fm bm n m g f i r (W.putObj D (.deferred none)) := by
      refine ⟨⟨TD.cell (fun e => hdp e.symm) (hT.cell (by omega) e0), TD.cell (fun e => hdp e.symm) (hT.cell (by omega) e1), (HF4.out.kept hT hfb).kept TD (fun e => hdf e.symm), ?_, hfb⟩, ?_⟩
      · rw [hL]; exact hwh.kept TD (fun e => hdb e.symm)
      · have hz := TV.size
        exact ((TV.mono (fun k _ h => .inl h)).trans (hT.mono (fun k _ h => .inl (.inr h)))).trans (TD.mono (fun k _ h => .inr (by omega)))
    have HS := hide hSt
    clear hSt
    gi_wp2_with fail
    refine ⟨by simp, .inl ⟨_, _, rfl, run_takeDeferred hK, ?_⟩⟩
    exact ⟨.tuple #[], by simp [results, Try.f35, go_sem], rfl, HS.out⟩
  case stop =>
    rintro D c pre W hD hpre hIx hK
    exact hIx.elim
