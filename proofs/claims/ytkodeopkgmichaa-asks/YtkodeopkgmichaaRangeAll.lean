/-
  A range over All.
-/
import Derived.Test.YtkodeopkgmichaaAllSeq
namespace Go.Proofs.Ytkodeopkgmichaa
open Go.RowKit Go.Shelf
set_option linter.unusedVariables false
set_option linter.unusedSimpArgs false
attribute [local go_sem] Oper.semAt_some
def alPost (B C : Nat) (I : Nat → List Bd → World → Prop) (xs : List Bd) (X : World) : Exit → Act → World → Prop
  | .normal, _, Y => Kr B C X Y ∧ I C xs Y
  | _, _, _ => False
theorem turns_put (X : World) {l : Nat} (o : Obj) (S : Nat → Prop) (hl : S l) : Turns S X (X.putObj l o) := by
  have h := grownBy_putObj' X l o
  exact ⟨h.os, h.tape, h.output, h.size, fun k hk hn => h.block k hk (fun e => hn (by cases e; exact hl))⟩
theorem range_all {n : Nat} {g : Operand} {ps : Array Tmp} {assign body : Code} {Q : Exit → Act → World → Prop} {a : Act} {w : World} (h1 : 1 ≤ n) {c p fm bm m : Nat} {L : List Bd}
    (hg : a.eval g = .func (.func 38) #[] #[ptr c]) (hc : Boxed w c 24 (ptr p)) (hs : St w p fm bm m L) (hps : ps.size = 2)
    (I : Nat → List Bd → World → Prop) (hI : ∀ C pre X Y, I C pre X → Turns (fun k => w.heap.size ≤ k ∧ k < C) X Y → I C pre Y) (h0 : ∀ W, w.heap.size + 2 ≤ W.heap.size → Below w.heap.size w W → I W.heap.size [] W)
    (Ax : Bd → Act → World → Prop) (hAx : ∀ x a' X Y, Ax x a' X → Turns (fun k => k = w.heap.size + 1) X Y → Ax x a' Y)
    (hassign : ∀ (l C : Nat) (pre : List Bd) (x : Bd) (W : World) (K : Act → World → Prop), I C pre W → pre ++ [x] <+: L → C ≤ W.heap.size → w.heap.size + 2 ≤ C → (∀ a' W', Kr w.heap.size C W W' → I C pre W' → Ax x a' W' → K a' W') →
      assign.wpIn (Fence.wide.inRound l) (n - 1 - 1) Try.prog (Exit.then K (fun _ _ _ => False)) { tmps := (ps.zip (encT x)).foldl (fun t (p, v) => t.setIfInBounds p v) a.tmps, defers := [] } W)
    (hbody : ∀ (l C : Nat) (pre : List Bd) (x : Bd) (a' : Act) (W : World), w.heap.size ≤ l → I C pre W → Ax x a' W → pre ++ [x] <+: L → C ≤ W.heap.size → w.heap.size + 2 ≤ C → body.wpIn (Fence.wide.inRound l) (n - 1 - 1) Try.prog (alPost w.heap.size C I (pre ++ [x]) W) a' W)
    (hdone : ∀ (D C : Nat) (W : World), w.heap.size ≤ D → I C L W → W.heap[D]? = some (.deferred (some [])) → Q .normal { a with defers := { target := .collected D, args := #[] } :: a.defers } W) :
    (Code.rangeFunc g ps assign body).wpIn Fence.wide n Try.prog Q a w := by
  have hcl := hc.lt
  refine wpIn_rangeFunc (fun fn hfn => ?_)
  generalize hrc : (fun st pe => ({ state := st, pending := pe, fn := fn, tmps := a.tmps, params := ps, assign := assign, body := body, defers := w.heap.size } : Loop)) = rc
  generalize hV : (w.alloc (.deferred (some []))).alloc (.loop (rc .ready none)) = V
  have zV : V.heap.size = w.heap.size + 2 := by rw [← hV]; simp
  have bV : Below w.heap.size w V := by rw [← hV]; exact box2 _ _ _
  have lV : V.heap[w.heap.size + 1]? = some (.loop (rc .ready none)) := by rw [← hV]; have := World.alloc_heap_new (w.alloc (.deferred (some []))) (.loop (rc .ready none)); rwa [World.size_alloc] at this
  have dV : V.heap[w.heap.size]? = some (.deferred (some [])) := by rw [← hV]; exact (Below.heap_alloc _ _ _ (by simp)).trans (World.alloc_heap_new w _)
  let Bk : LoopState → Option Code → World → Prop := fun st pe X => X.heap[w.heap.size + 1]? = some (.loop (rc st pe)) ∧ X.heap[w.heap.size]? = some (.deferred (some []))
  have stB : ∀ st pe {X Y : World}, Bk st pe X → Below V.heap.size X Y → Bk st pe Y := fun st pe X Y h t =>
    ⟨(t.block _ (by omega)).trans h.1, (t.block _ (by omega)).trans h.2⟩
  have kpB : ∀ {st pe} {C : Nat} {X Y : World}, w.heap.size + 2 ≤ C → Bk st pe X → Kr w.heap.size C X Y → Bk st pe Y := fun hC h k =>
    ⟨(k.2 _ (by omega) (by omega) (Array.getElem?_eq_some_iff.1 h.1).1).trans h.1, (k.2 _ (Nat.le_refl _) (by omega) (Array.getElem?_eq_some_iff.1 h.2).1).trans h.2⟩
  have turn : ∀ {X : World} {st pe} (st' : LoopState) (pe' : Option Code), Bk st pe X → Bk st' pe' (X.putObj (w.heap.size + 1) (.loop (rc st' pe'))) := fun st' pe' h =>
    ⟨World.putObj_heap_same (Array.getElem?_eq_some_iff.1 h.1).1, (World.putObj_heap_other (by omega)).trans h.2⟩
  have putI : ∀ {C : Nat} {s : List Bd} {X : World} (o : Obj), w.heap.size + 2 ≤ C → I C s X → I C s (X.putObj (w.heap.size + 1) o) := fun o hC h => hI _ _ _ _ h (turns_put _ o _ ⟨by omega, by omega⟩)
  refine ⟨w.heap.size + 1, [{ target := .collected w.heap.size, args := #[] }], V, { target := .fn (.func 38) #[ptr c], args := #[.func (.yield (w.heap.size + 1)) #[] #[]] }, V, 38, #[.func (.yield (w.heap.size + 1)) #[] #[], ptr c], V, ?_, ?_, fun _ _ => trivial, ?_, fun _ => h1, ?_⟩
  · rw [← hV, ← hrc]; exact run_enterLoop_outer _ _ _ _ _
  · simp only [resolve, hg]; simp [go_sem]
  · have eg := enters_of Try.func38 (by kernel_rfl) rfl
    simp [invoke, go_sem, eg]
  refine (all_seq (n - 1) c p fm bm m (w.heap.size + 1) L (fun C pre X => I C pre X ∧ Bk .ready none X ∧ w.heap.size + 2 ≤ C ∧ V.heap.size ≤ X.heap.size) V ((bV.block c hcl).trans hc) (hs.kept bV)
    (fun W1 hb => ⟨h0 W1 (by have := hb.size; omega) (bV.trans (hb.mono (by omega))), stB _ _ ⟨lV, dV⟩ hb, by have := hb.size; omega, hb.size⟩)
    (fun C pre X Y h hb => ⟨hI _ _ _ _ h.1 (Turns.of_below hb), stB _ _ h.2.1 (hb.mono h.2.2.2), h.2.2.1, Nat.le_trans h.2.2.2 hb.size⟩) ?_).mono ?_
  · rintro C pre x X ⟨iX, bX, hC, zX⟩ hnx hCX
    have hy := run_yield (P := Try.prog) (args := encT x) bX.1 (by rw [← hrc]; exact hps.symm)
    rw [← hrc] at hy
    refine ⟨fn, _, assign, body, hy, roundIn_of_wpIn trivial (hassign _ C pre x X _ iX hnx hCX hC ?_)⟩
    intro a' Y kY iY axY
    have bY := kpB hC bX kY
    refine ⟨_, run_beginRound bY.1 (by rw [← hrc]), ?_⟩
    rw [show (Obj.loop { rc .ready none with state := .busy }) = .loop (rc .busy none) by rw [← hrc]]
    have bZ := turn .busy none bY
    refine wpIn_mono (hbody _ C pre x a' _ (by omega) (putI _ hC iY) (hAx x a' _ _ axY (turns_put _ _ _ rfl)) hnx (by have := kY.1; simp; omega) hC) ?_
    rintro e a3 U hp
    cases e with
    | normal =>
      obtain ⟨kU, iU⟩ := hp
      have bU : Bk .busy none U := kpB hC bZ kU
      have hr : (Instr.endRound (w.heap.size + 1) none).run Try.prog U = .ok (.bool true) (U.putObj (w.heap.size + 1) (.loop (rc .ready none))) := by
        have := run_endRound (P := Try.prog) none bU.1
        rw [← hrc] at this ⊢
        exact this
      exact ⟨_, _, hr, (((kY.mono (by omega)).trans (Kr.put _ _ (by omega))).trans (kU.mono (by omega))).trans (Kr.put _ _ (by omega)), rfl, putI _ hC iU, turn _ _ bU, hC, by have h1 := kY.1; have h2 := kU.1; simp at h2 ⊢; omega⟩
    | ret => exact hp.elim
    | exit id => exact hp.elim
    | goto t => exact hp.elim
    | panic ch => exact hp.elim
    | outgrown => exact hp.elim
  · rintro e U ⟨⟨z, rfl⟩, C, iU, bU, hC, zU⟩
    refine ⟨none, _, ?_, hdone _ C _ (Nat.le_refl _) (putI (.loop (rc .exhausted none)) hC iU) (turn .exhausted none bU).2⟩
    have := run_endLoop (P := Try.prog) bU.1 (by rw [← hrc]; simp)
    rw [← hrc] at this ⊢
    exact this
end Go.Proofs.Ytkodeopkgmichaa
