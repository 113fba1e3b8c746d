/-
  A unit that stands.
-/
import Derived.Test.YtkodeopkgmichaaFree
namespace Go.Proofs.Ytkodeopkgmichaa
open Go.RowKit Go.Shelf
set_option linter.unusedVariables false
attribute [local go_sem] Oper.semAt_some
/-- f, but i on the cells of pre. -/
def putAll (f : Int → Int → Option Int) (pre : List Cel) (i : Int) : Int → Int → Option Int := fun x y => if pre.any (fun q => decide (q.1.1 = x ∧ q.1.2 = y)) = true then some i else f x y
theorem putAll_nil (f : Int → Int → Option Int) (i : Int) : putAll f [] i = f := by funext x y; simp [putAll]
theorem putAll_snoc (f : Int → Int → Option Int) (pre : List Cel) (q : Cel) (i : Int) : putAll f (pre ++ [q]) i = fun u v => if u = q.1.1 ∧ v = q.1.2 then some i else putAll f pre i u v := by
  funext u v
  unfold putAll
  rw [List.any_append]
  by_cases h : u = q.1.1 ∧ v = q.1.2
  · rw [if_pos h, if_pos]; simp [h.1, h.2]
  · rw [if_neg h]
    have : ([q].any fun q => decide (q.1.1 = u ∧ q.1.2 = v)) = false := by simp; intro h1 h2; exact h ⟨h1.symm, h2.symm⟩
    rw [this, Bool.or_false]
theorem ownFrom_who {B b n : Nat} {F : List Cel → Int → Int → Option Int} (hb : b < B) : OwnFrom B (fun (pre : List Cel) W => Who W b (n + pre.length) (F pre)) := fun s X Y row hs hg hr =>
  hs.kept (Turns.of_grown (S := fun k => row = some k) hg (fun k e => e)) (fun e => by have := (hr _ e).1; omega)
theorem ownFrom_turns {β : Type} {B : Nat} {S : Nat → Prop} {w0 : World} (hw : w0.heap.size ≤ B) : OwnFrom B (fun (_ : β) W => Turns S w0 W) := fun s X Y row hs hg hr =>
  hs.trans (Turns.of_grown hg (fun k e => .inr (by have := (hr k e).1; omega)))
theorem allC_le {x y a b : Int} : may x y a b = true → b.toNat * a.toNat ≤ (allC x y a b).length := fun h => by rw [allC, if_pos h, upto_length]; exact Nat.le_refl _
theorem boxed_kept {S : Nat → Prop} {W W' : World} {k : Nat} {t : TypeId} {v : Value} (h : Boxed W k t v) (ht : Turns S W W') (hs : ¬ S k) : Boxed W' k t v := ht.same hs h
theorem Turns.undrew {S : Nat → Prop} {w w' : World} (h : Turns S w.drew w') : Turns S w w' := ⟨h.os, h.tape, h.output, h.size, h.block⟩
theorem Four.turned {S : Nat → Prop} {W W' : World} {k : Nat} {x y a b : Int} (h : Four W k x y a b) (ht : Turns S W W') (hs : ¬ S k) : Four W' k x y a b := by
  have hb := ht.block k h.2.2 hs
  have hc := fun o => World.cell?_of_block (a := ⟨k, o, none⟩) hb
  have hf := fun o => World.frozen?_of_block (a := ⟨k, o, none⟩) hb
  exact ⟨⟨(hc 0).trans h.1.1, (hc 1).trans h.1.2.1, (hc 2).trans h.1.2.2.1, (hc 3).trans h.1.2.2.2⟩, ⟨(hf 0).trans h.2.1.1, (hf 1).trans h.2.1.2.1, (hf 2).trans h.2.1.2.2.1, (hf 3).trans h.2.1.2.2.2⟩, Nat.lt_of_lt_of_le h.2.2 ht.size⟩
/-- The index's block is told from its maps: it holds cells. -/
theorem Ix.apart {w : World} {p fm bm n m : Nat} {g : Int → Option Rc} {f : Int → Int → Option Int} (h : Ix w p fm bm n m g f) : p ≠ fm ∧ p ≠ bm := by
  obtain ⟨D, ⟨es, c, h1, _⟩, _⟩ := h.feet
  obtain ⟨D', ⟨es', c', h2, _⟩, _⟩ := h.who
  refine ⟨fun e => ?_, fun e => ?_⟩
  · have := h.c0; subst e; simp [World.cell?, h1] at this
  · have := h.c0; subst e; simp [World.cell?, h2] at this
theorem Ix.turned {S : Nat → Prop} {w w' : World} {p fm bm n m : Nat} {g : Int → Option Rc} {f : Int → Int → Option Int} (h : Ix w p fm bm n m g f) (ht : Turns S w w') (h1 : ¬ S p) (h2 : ¬ S fm) (h3 : ¬ S bm) : Ix w' p fm bm n m g f :=
  ⟨ht.cell h1 h.c0, ht.cell h1 h.c1, h.feet.kept ht h2, h.who.kept ht h3, h.ne⟩
/-- What stand leaves. -/
def Stood (w : World) (p fm bm n m : Nat) (g : Int → Option Rc) (f : Int → Int → Option Int) (i : Int) (r : Rc) (w' : World) : Prop :=
  Ix w' p fm bm (if (g i).isSome then n else n + 1) (m + (allC r.x r.y r.a r.b).length) (fun j => if j = i then some r else g j) (putAll f (allC r.x r.y r.a r.b) i) ∧ Turns (fun k => k = fm ∨ k = bm) w w'
set_option maxRecDepth 100000 in
set_option maxHeartbeats 4000000 in
theorem stand_any (p fm bm n m : Nat) (g : Int → Option Rc) (f : Int → Int → Option Int) (i : Int) (r : Rc) (w : World) (h : Ix w p fm bm n m g f) (hi : W64 i) (hn : n < maxLen) (hm : m + (allC r.x r.y r.a r.b).length < maxLen) :
    Calls Try.prog 36 #[ptr p, .int .i64 i, r.v] w fun e w' => e = .returned (.tuple #[]) ∧ Stood w p fm bm n m g f i r w' := by
  refine (callsIn_wide (n := 10)).1 ?_
  refine callsIn_of_wp_marks Try.func36 rfl trivial ?_ rfl
  simp only [Try.ntmps36, List.size_toArray, List.length_cons, List.length_nil, Nat.reduceAdd, Nat.reduceSub, Array.replicate_succ, Array.replicate_zero, List.push_toArray, List.append_toArray, List.nil_append, List.cons_append]
  obtain ⟨hpf, hpb⟩ := h.apart
  have hpl := h.lt
  have hfl := h.feet.lt
  have hbl := h.who.lt
  obtain ⟨X, hX⟩ : ∃ X, ((w.alloc (.cells #[ptr p] 24)).alloc (.cells #[.int .i64 i] 3)).alloc (.cells #[.int .i64 r.x, .int .i64 r.y, .int .i64 r.a, .int .i64 r.b] 34) = X := ⟨_, rfl⟩
  have B0 : Below w.heap.size w X := by rw [← hX]; exact bt (box2 _ _ _) (box1 _ _)
  have z0 : X.heap.size = w.heap.size + 3 := by rw [← hX]; simp
  have P0 : Boxed X w.heap.size 24 (ptr p) := by rw [← hX]; exact ((Boxed.new w 24 (ptr p)).alloc _).alloc _
  have I0 : Boxed X (w.heap.size + 1) 3 (.int .i64 i) := by
    rw [← hX]
    have := (Boxed.new (w.alloc (.cells #[ptr p] 24)) 3 (.int .i64 i)).alloc (.cells #[.int .i64 r.x, .int .i64 r.y, .int .i64 r.a, .int .i64 r.b] 34)
    simpa using this
  have F0 : Four X (w.heap.size + 1 + 1) r.x r.y r.a r.b := by rw [← hX]; simp [Four, go_sem]
  have h0 := h.kept B0
  obtain ⟨W1, hput, hf1, hg1⟩ := (show Feet X.drew fm n g from h0.feet).put hi r hn
  have T1 : Turns (fun k => k = fm) X W1 := (Turns.of_grown (w := X.drew) hg1 (fun k e => by cases e; rfl)).undrew
  have c0 := P0.cell
  have c1 := I0.cell
  have c2 := h0.c0
  obtain ⟨⟨k0, k1, k2, k3⟩, -, -⟩ := id F0
  have HF := hide hf1
  have HT := hide T1
  clear hf1 T1 hg1
  gi_wp2_with fail
  clear hX
  gi_region
  clear c0 c1 c2 k0 k1 k2 k3 hput
  have T1 := HT.out
  have hz1 := T1.size
  have P1 := boxed_kept P0 T1 (by omega)
  have I1 := boxed_kept I0 T1 (by omega)
  have F1 := F0.turned T1 (by omega)
  have d0 := T1.cell (by omega) h0.c0
  have d1 := T1.cell (by omega) h0.c1
  have w1 : Who W1 bm m f := h0.who.kept T1 (by have := h.ne; omega)
  obtain ⟨⟨k0, k1, k2, k3⟩, -, -⟩ := id F1
  gi_wp2_with fail
  refine ⟨trivial, ?_⟩
  refine (callsIn_wide.2 (cells_any _ _ _ _ _)).mono ?_
  rintro e w4 ⟨rfl, rfl⟩
  gi_wp2_with fail
  have FB : Four (W1.alloc (.cells #[.int .i64 r.x, .int .i64 r.y, .int .i64 r.a, .int .i64 r.b] 34)) W1.heap.size r.x r.y r.a r.b := cells4 (Below.refl _ _)
  have B4 := box1 W1 (.cells #[.int .i64 r.x, .int .i64 r.y, .int .i64 r.a, .int .i64 r.b] 34)
  have z4 : (W1.alloc (.cells #[.int .i64 r.x, .int .i64 r.y, .int .i64 r.a, .int .i64 r.b] 34)).heap.size = W1.heap.size + 1 := by simp
  obtain ⟨V, hV⟩ : ∃ V, W1.alloc (.cells #[.int .i64 r.x, .int .i64 r.y, .int .i64 r.a, .int .i64 r.b] 34) = V := ⟨_, rfl⟩
  rw [hV] at FB B4 z4 ⊢
  clear hV k0 k1 k2 k3
  have T4 : Turns NoB W1 V := Turns.of_below B4
  have w4 := w1.kept T4 id
  have P4 := boxed_kept P1 T4 id
  have I4 := boxed_kept I1 T4 id
  have e0 := T4.cell id d0
  have e1 := T4.cell id d1
  have HF4 := hide (HF.out.kept T4 id)
  have TV : Turns (fun k => k = fm) w V := ((Turns.of_below (S := fun k => k = fm) B0).trans (T1.mono (fun k _ h => .inl h))).trans (T4.mono (fun _ _ h => h.elim))
  obtain ⟨L, hL⟩ : ∃ L, allC r.x r.y r.a r.b = L := ⟨_, rfl⟩
  have hseq := cells_stops (10 - 1) W1.heap.size L.length r.x r.y r.a r.b V FB (by rw [← hL]; exact allC_le)
  rw [hL] at hseq hm
  have hfb := h.ne
  refine wpIn_rangeFunc_ownH rfl (by omega) (gf := 63) (lb := #[ptr W1.heap.size]) rfl trivial (enters_of Try.func63 (by kernel_rfl) rfl)
    hseq kB_t (kB_b (by omega)) (Below.refl _ _) (fun _ => rfl)
    (fun pre W => Who W bm (m + pre.length) (putAll f pre i) ∧ Turns (fun k => k = bm) V W)
    (fun c pre W => False)
    (OwnFrom.and (ownFrom_who (by omega)) (ownFrom_turns (Nat.le_refl _)))
    (fun c s X Y row hs hg hr => hs)
    ⟨by rw [putAll_nil]; exact w4, Turns.refl _ _⟩
    (fun q a' W => ∃ Bx, V.heap.size ≤ Bx ∧ Two W Bx q.1.1 q.1.2 ∧ a' = { tmps := #[ptr p, .int .i64 i, r.v, ptr w.heap.size, ptr (w.heap.size + 1), ptr (w.heap.size + 1 + 1), ptr Bx, ptr p, ptr p, ptr p, .map (some fm), .int .i64 i, r.v, r.v, .func (.func 63) #[] #[ptr W1.heap.size], cel q.1.1 q.1.2, undef, undef, undef, undef, undef, undef], defers := [] })
    (fun q a' _ X Y row hs hg hr => by obtain ⟨Bx, e1, e2, e3⟩ := hs; exact ⟨Bx, e1, e2.own hg (fun r e => (hr r e).2), e3⟩)
    ?assign ?body ?done ?stop
  case assign =>
    rintro l pre q W K ⟨hwh, hT⟩ hK
    have hsB := hT.size
    gi_wp2
    exact hK _ _ ((KeepsOthers.alloc _ _).from _) (Below.heap_alloc _ _ _ (by omega)) ⟨hwh.kept (Turns.of_below (S := NoB) (box1 _ _)) id, hT.trans (Turns.of_below (box1 _ _))⟩ ⟨W.heap.size, by omega, Two.newAt rfl, rfl⟩
  case body =>
    rintro lo pre q a' W hl ⟨rr, hr⟩ ⟨hwh, hT⟩ ⟨Bx, hBx, bX, rfl⟩ hlt
    have hsB := hT.size
    have PW := boxed_kept P4 hT (by omega)
    have IW := boxed_kept I4 hT (by omega)
    obtain ⟨W2, hput, hw5, hg5⟩ := (show Who W.drew bm (m + pre.length) (putAll f pre i) from hwh).put q.2.1 q.2.2 hi (by omega)
    have d0 := bX.1.1
    have d1 := bX.1.2
    have c0 := PW.cell
    have c1 := IW.cell
    have c6 := hT.cell (by omega) e1
    have KF : KeepsFrom V.heap.size W W2 := ⟨hg5.size, fun k o hB hk ho => (hg5.block k (Array.getElem?_eq_some_iff.1 hk).1 (fun e => by cases e; omega)).trans hk⟩
    have KK : KB W1.heap.size W W2 := hg5.block W1.heap.size (show W1.heap.size < W.heap.size by omega) (fun e => by cases e; omega)
    have hI : Who W2 bm (m + (pre ++ [q]).length) (putAll f (pre ++ [q]) i) ∧ Turns (fun k => k = bm) V W2 :=
      ⟨by rw [putAll_snoc, List.length_append, ← Nat.add_assoc]; exact hw5, hT.trans ((Turns.of_grown (w := W.drew) hg5 (fun k e => by cases e; exact .inl rfl)).undrew)⟩
    have HI := hide hI
    clear hg5 hw5 hwh PW IW hI
    gi_wp2_with fail
    gi_region
    all_goals
      gi_wp2
      exact ⟨KF, KK, HI.out⟩
  case done =>
    rintro D xs W hD hxs ⟨hwh, hT⟩ hK
    rw [hxs] at hwh
    have hdp : D ≠ p := by omega
    have hdb : D ≠ bm := by omega
    have hdf : D ≠ fm := by omega
    have TD : Turns (fun k => k = D) W (W.putObj D (.deferred none)) := Turns.of_grown (grownBy_putObj' W D (.deferred none)) (fun k e => by cases e; rfl)
    have hSt : Stood w p fm bm n m g f i r (W.putObj D (.deferred none)) := by
      refine ⟨⟨TD.cell (fun e => hdp e.symm) (hT.cell (by omega) e0), TD.cell (fun e => hdp e.symm) (hT.cell (by omega) e1), (HF4.out.kept hT hfb).kept TD (fun e => hdf e.symm), ?_, hfb⟩, ?_⟩
      · rw [hL]; exact hwh.kept TD (fun e => hdb e.symm)
      · have hz := TV.size
        exact ((TV.mono (fun k _ h => .inl h)).trans (hT.mono (fun k _ h => .inl (.inr h)))).trans (TD.mono (fun k _ h => .inr (by omega)))
    have HS := hide hSt
    clear hSt
    gi_wp2_with fail
    refine ⟨by simp, .inl ⟨_, _, rfl, run_takeDeferred hK, ?_⟩⟩
    exact ⟨.tuple #[], by simp [results, Try.f36, go_sem], rfl, HS.out⟩
  case stop =>
    rintro D c pre W hD hpre hIx hK
    exact hIx.elim
end Go.Proofs.Ytkodeopkgmichaa
