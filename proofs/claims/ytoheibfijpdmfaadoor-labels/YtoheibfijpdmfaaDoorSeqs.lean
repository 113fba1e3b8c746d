/-
  A range over a function that itself ranges over another one: what such a function promises, and the loop over it. Around of the package: it ranges over the neighbours, and tells those that may be stepped to. A rectangle's cells gone through, each by its number; a list of bools gone through from its end. A row of marks in memory.
-/
import Derived.Test.YtoheibfijpdmfaaDoorCellsSeq
import Derived.Test.YtoheibfijpdmfaaDoorFld
namespace Go.Proofs.YtoheibfijpdmfaaDoor
open Go.RowKit Go.Shelf
set_option linter.unusedVariables false
/-- What lay from block B on lies as it lay. -/
def Keep (B : Nat) (W W' : World) : Prop := W.heap.size ≤ W'.heap.size ∧ ∀ k, B ≤ k → k < W.heap.size → W'.heap[k]? = W.heap[k]?
theorem Keep.refl (B : Nat) (W : World) : Keep B W W := ⟨Nat.le_refl _, fun _ _ _ => rfl⟩
theorem Keep.trans {B : Nat} {X Y Z : World} (h : Keep B X Y) (k : Keep B Y Z) : Keep B X Z := ⟨Nat.le_trans h.1 k.1, fun i hi hl => (k.2 i hi (Nat.lt_of_lt_of_le hl h.1)).trans (h.2 i hi hl)⟩
theorem Keep.mono {B C : Nat} {X Y : World} (h : Keep B X Y) (hB : B ≤ C) : Keep C X Y := ⟨h.1, fun i hi => h.2 i (Nat.le_trans hB hi)⟩
theorem Keep.at {B : Nat} {X Y : World} (h : Keep B X Y) {k : Nat} {o : Obj} (hB : B ≤ k) (hk : X.heap[k]? = some o) : Y.heap[k]? = some o := (h.2 k hB (Array.getElem?_eq_some_iff.1 hk).1).trans hk
theorem Keep.from {B : Nat} {X Y : World} (h : Keep B X Y) : KeepsFrom B X Y := ⟨h.1, fun k o hB hk _ => h.at hB hk⟩
theorem Keep.of_below {B : Nat} {X Y : World} (h : Below X.heap.size X Y) : Keep B X Y := ⟨h.size, fun k _ hk => h.block k hk⟩
theorem Keep.put {B : Nat} (X : World) {l : Nat} (o : Obj) (hl : l < B) : Keep B X (X.putObj l o) := ⟨by simp, fun k hB _ => World.putObj_heap_other (by omega)⟩
theorem Keep.set {B : Nat} (X : World) {p : Addr} (u : Value) (hp : p.block < B) : Keep B X (X.setCell p u) := ⟨by simp [World.setCell], fun k hB _ => Below.heap_setCell _ _ _ _ (by omega)⟩
/-- What an iterator promises that may keep records of its own: the rounds leave what it has laid. -/
def SeqOwn {α : Type} (n : Nat) (g : Nat) (lb : Array Value) (encs : α → Array Value) (Kp : World → World → Prop) (S Sp : List α → Prop) (N : Nat) (w : World) : Prop :=
  ∀ (l : Nat) (J Jx : List α → World → Prop) (W : World), Below w.heap.size w W → OwnFrom W.heap.size J → OwnFrom W.heap.size Jx →
    (∀ pre x X, J pre X → pre.length < N → YieldAt Fence.wide (n - 1) Tryd.prog l (encs x) X fun e Y =>
      Keep W.heap.size X Y ∧ ((e = .returned (.bool true) ∧ J (pre ++ [x]) Y ∧ Kp X Y) ∨ (e = .returned (.bool false) ∧ Jx (pre ++ [x]) Y ∧ Kp X Y))) →
    J [] W →
    CallsIn Fence.wide n Tryd.prog g (#[.func (.yield l) #[] #[]] ++ lb) W fun e Y => (∃ v, e = .returned v) ∧ ((∃ xs, S xs ∧ J xs Y) ∨ (∃ pre, Sp pre ∧ Jx pre Y))
def nestPost {α : Type} (B : Nat) (Kp : World → World → Prop) (I Ix : List α → World → Prop) (xs : List α) (X : World) : Exit → Act → World → Prop
  | .normal, _, Y => Keep B X Y ∧ Kp X Y ∧ I xs Y
  | .ret, _, Y => Keep B X Y ∧ Kp X Y ∧ Ix xs Y
  | _, _, _ => False
theorem range_nest {α : Type} {n : Nat} {g : Operand} {ps : Array Tmp} {assign body : Code} {Q : Exit → Act → World → Prop} {a : Act} {w w0 : World} (h1 : 1 ≤ n) {gf : Nat} {lb : Array Value}
    (hg : a.eval g = .func (.func gf) #[] lb) (eg : ∀ args w, (callFunc gf args).run Tryd.prog w = .ok (.enter gf args) w)
    {encs : α → Array Value} {Kp : World → World → Prop} {S Sp : List α → Prop} {N : Nat} (hseq : SeqOwn (n - 1) gf lb encs Kp S Sp N w0)
    (hKt : ∀ {A B C : World}, Kp A B → Kp B C → Kp A C) (hKb : ∀ (W : World) (l : Nat) (o o' : Obj), w.heap.size ≤ l → W.heap[l]? = some o → o.isCells = false → o.isWalk = false → Kp W (W.putObj l o'))
    (hb0 : Below w0.heap.size w0 w) (hps : ∀ x, (encs x).size = ps.size)
    (I Ix : List α → World → Prop) (hI : OwnFrom w.heap.size I) (hIx : OwnFrom w.heap.size Ix) (h0 : I [] w) (Ax : α → Act → World → Prop) (hAx : ∀ x a', OwnFrom w.heap.size (fun (_ : Unit) W => Ax x a' W))
    (hassign : ∀ (l : Nat) (pre : List α) (x : α) (W : World) (K : Act → World → Prop), I pre W → (∀ a' W', Keep w.heap.size W W' → Kp W W' → I pre W' → Ax x a' W' → K a' W') →
      assign.wpIn (Fence.wide.inRound l) (n - 1 - 1) Tryd.prog (Exit.then K (fun _ _ _ => False)) { tmps := (ps.zip (encs x)).foldl (fun t (p, v) => t.setIfInBounds p v) a.tmps, defers := [] } W)
    (hbody : ∀ (l : Nat) (pre : List α) (x : α) (a' : Act) (W : World), w.heap.size ≤ l → I pre W → Ax x a' W → pre.length < N → body.wpIn (Fence.wide.inRound l) (n - 1 - 1) Tryd.prog (nestPost w.heap.size Kp I Ix (pre ++ [x]) W) a' W)
    (hdone : ∀ (D : Nat) (xs : List α) (W : World), w.heap.size ≤ D → S xs → I xs W → W.heap[D]? = some (.deferred (some [])) → Q .normal { a with defers := { target := .collected D, args := #[] } :: a.defers } W)
    (hstop : ∀ (D : Nat) (pre : List α) (W : World), w.heap.size ≤ D → Sp pre → Ix pre W → W.heap[D]? = some (.deferred (some [])) → Code.ret.wpIn Fence.wide n Tryd.prog Q { a with defers := { target := .collected D, args := #[] } :: a.defers } W) :
    (Code.rangeFunc g ps assign body).wpIn Fence.wide n Tryd.prog Q a w := by
  refine wpIn_rangeFunc (fun fn hfn => ?_)
  generalize hrc : (fun st pe => ({ state := st, pending := pe, fn := fn, tmps := a.tmps, params := ps, assign := assign, body := body, defers := w.heap.size } : Loop)) = rc
  generalize hV : (w.alloc (.deferred (some []))).alloc (.loop (rc .ready none)) = V
  have zV : V.heap.size = w.heap.size + 1 + 1 := by rw [← hV]; simp
  have bV : Below w.heap.size w V := by rw [← hV]; exact box2 _ _ _
  have lV : V.heap[w.heap.size + 1]? = some (.loop (rc .ready none)) := by rw [← hV]; have := World.alloc_heap_new (w.alloc (.deferred (some []))) (.loop (rc .ready none)); rwa [World.size_alloc] at this
  have dV : V.heap[w.heap.size]? = some (.deferred (some [])) := by rw [← hV]; exact (Below.heap_alloc _ _ _ (by simp)).trans (World.alloc_heap_new w _)
  have iV : I [] V := hI _ _ _ none h0 (below_grown bV) (fun r e => by cases e)
  -- the records, in whatever state the loop is
  let Bk : LoopState → Option Code → World → Prop := fun st pe X => X.heap[w.heap.size + 1]? = some (.loop (rc st pe)) ∧ X.heap[w.heap.size]? = some (.deferred (some []))
  have ownB : ∀ st pe, OwnFrom V.heap.size (fun (_ : List α) X => Bk st pe X) := fun st pe s X Y row hs hgr hr =>
    ⟨(hgr.block _ (Array.getElem?_eq_some_iff.1 hs.1).1 (fun e => by have := (hr _ e.symm).1; omega)).trans hs.1, (hgr.block _ (Array.getElem?_eq_some_iff.1 hs.2).1 (fun e => by have := (hr _ e.symm).1; omega)).trans hs.2⟩
  have wide : ∀ {J : List α → World → Prop}, OwnFrom w.heap.size J → OwnFrom V.heap.size J := fun h s X Y row hs hgr hr => h s X Y row hs hgr (fun r e => ⟨by have := (hr r e).1; omega, (hr r e).2⟩)
  have turn : ∀ {X : World} {st pe} (st' : LoopState) (pe' : Option Code), Bk st pe X → Bk st' pe' (X.putObj (w.heap.size + 1) (.loop (rc st' pe'))) := fun st' pe' h =>
    ⟨World.putObj_heap_same (Array.getElem?_eq_some_iff.1 h.1).1, (World.putObj_heap_other (by omega)).trans h.2⟩
  refine ⟨w.heap.size + 1, [{ target := .collected w.heap.size, args := #[] }], V, { target := .fn (.func gf) lb, args := #[.func (.yield (w.heap.size + 1)) #[] #[]] }, V, gf, #[.func (.yield (w.heap.size + 1)) #[] #[]] ++ lb, V, ?_, ?_, fun _ _ => trivial, ?_, fun _ => h1, ?_⟩
  · rw [← hV, ← hrc]; exact run_enterLoop_outer _ _ _ _ _
  · simp only [resolve, hg]; simp [go_sem]
  · simp [invoke, go_sem, eg]
  refine (hseq (w.heap.size + 1) (fun pre X => I pre X ∧ Bk .ready none X) (fun pre X => Ix pre X ∧ Bk .done (some .ret) X) V (hb0.trans (bV.mono hb0.size))
    (OwnFrom.and (wide hI) (ownB _ _)) (OwnFrom.and (wide hIx) (ownB _ _)) ?_ ⟨iV, lV, dV⟩).mono ?_
  · rintro pre x X ⟨iX, bX⟩ hlen
    have hy := run_yield (P := Tryd.prog) (args := encs x) bX.1 (by rw [← hrc]; exact hps x)
    rw [← hrc] at hy
    refine ⟨fn, _, assign, body, hy, roundIn_of_wpIn trivial (hassign _ pre x X _ iX ?_)⟩
    intro a' Y kY kpY iY axY
    have bY : Bk .ready none Y := ⟨kY.at (by omega) bX.1, kY.at (Nat.le_refl _) bX.2⟩
    refine ⟨_, run_beginRound bY.1 (by rw [← hrc]), ?_⟩
    rw [show (Obj.loop { rc .ready none with state := .busy }) = .loop (rc .busy none) by rw [← hrc]]
    have bZ := turn .busy none bY
    refine wpIn_mono (hbody _ pre x a' _ (by omega) (hI.putObj _ iY (by omega) bY.1 rfl) ((hAx x a').putObj (s := ()) _ axY (by omega) bY.1 rfl) hlen) ?_
    have fin : ∀ (j : Option Code) (U : World), Keep w.heap.size (Y.putObj (w.heap.size + 1) (.loop (rc .busy none))) U →
        (Instr.endRound (w.heap.size + 1) j).run Tryd.prog U = .ok (.bool j.isNone) (U.putObj (w.heap.size + 1) (.loop (rc (if j.isNone then .ready else .done) j))) ∧ Bk .busy none U := fun j U kU => by
      have bU : Bk .busy none U := ⟨kU.at (by omega) bZ.1, kU.at (Nat.le_refl _) bZ.2⟩
      refine ⟨?_, bU⟩
      have := run_endRound (P := Tryd.prog) j bU.1
      rw [← hrc] at this ⊢
      exact this
    have kept : ∀ {U : World} (o : Obj), Keep w.heap.size (Y.putObj (w.heap.size + 1) (.loop (rc .busy none))) U → Keep V.heap.size X (U.putObj (w.heap.size + 1) o) := fun o kU =>
      ((kY.mono (by omega)).trans (Keep.put _ _ (by omega))).trans ((kU.mono (by omega)).trans (Keep.put _ _ (by omega)))
    rintro e a3 U hp
    cases e with
    | normal =>
      obtain ⟨kU, kpU, iU⟩ := hp
      obtain ⟨hr, bU⟩ := fin none U kU
      exact ⟨_, _, hr, kept _ kU, .inl ⟨rfl, ⟨hI.putObj _ iU (by omega) bU.1 rfl, turn _ _ bU⟩, hKt kpY (hKt (hKt (hKb _ _ _ _ (by omega) bY.1 rfl rfl) kpU) (hKb _ _ _ _ (by omega) bU.1 rfl rfl))⟩⟩
    | ret =>
      obtain ⟨kU, kpU, iU⟩ := hp
      obtain ⟨hr, bU⟩ := fin (some .ret) U kU
      exact ⟨_, _, hr, kept _ kU, .inr ⟨rfl, ⟨hIx.putObj _ iU (by omega) bU.1 rfl, turn _ _ bU⟩, hKt kpY (hKt (hKt (hKb _ _ _ _ (by omega) bY.1 rfl rfl) kpU) (hKb _ _ _ _ (by omega) bU.1 rfl rfl))⟩⟩
    | exit id => exact hp.elim
    | goto t => exact hp.elim
    | panic ch => exact hp.elim
    | outgrown => exact hp.elim
  · rintro e U ⟨⟨v, rfl⟩, (⟨xs, hS, iU, bU⟩ | ⟨pre, hS, iU, bU⟩)⟩
    · refine ⟨none, _, ?_, hdone _ xs _ (Nat.le_refl _) hS (hI.putObj (.loop (rc .exhausted none)) iU (by omega) bU.1 rfl) (turn .exhausted none bU).2⟩
      have := run_endLoop (P := Tryd.prog) bU.1 (by rw [← hrc]; simp)
      rw [← hrc] at this ⊢
      exact this
    · refine ⟨some .ret, _, ?_, hstop _ pre _ (Nat.le_refl _) hS (hIx.putObj (.loop (rc .exhausted (some .ret))) iU (by omega) bU.1 rfl) (turn .exhausted (some .ret) bU).2⟩
      have := run_endLoop (P := Tryd.prog) bU.1 (by rw [← hrc]; simp)
      rw [← hrc] at this ⊢
      exact this
end Go.Proofs.YtoheibfijpdmfaaDoor
namespace Go.Proofs.YtoheibfijpdmfaaDoor
open Go.RowKit Go.Shelf
set_option linter.unusedVariables false
attribute [local go_sem] Oper.semAt_some
theorem round_any {m m' l : Nat} {f : FuncId} {tmps : Array Value} {assign body : Code} {w : World} {R : Ending → World → Prop} (l' : Nat) (h : RoundIn Fence.wide m Tryd.prog l f tmps assign body w R) :
    RoundIn (Fence.wide.inRound l') m' Tryd.prog l f tmps assign body w R := ⟨h.1, fun c cs _ => h.2 c cs (fun d hd => by cases hd)⟩
theorem own_below {β : Type} {B : Nat} {J : β → World → Prop} (hJ : OwnFrom B J) {s : β} {W W' : World} (hs : J s W) (h : Below W.heap.size W W') : J s W' := hJ s W W' none hs (below_grown h) (fun r e => by cases e)
theorem own_wide {β : Type} {B C : Nat} {J : β → World → Prop} (h : OwnFrom B J) (hB : B ≤ C) : OwnFrom C J := fun s X Y row hs hgr hr => h s X Y row hs hgr (fun r e => ⟨by have := (hr r e).1; omega, (hr r e).2⟩)
theorem own_map {β γ : Type} {B : Nat} {J : β → World → Prop} (h : OwnFrom B J) (k : γ → β) : OwnFrom B (fun s W => J (k s) W) := fun s X Y row hs hgr hr => h (k s) X Y row hs hgr hr
theorem ownFrom_size {β : Type} (B N : Nat) : OwnFrom B (fun (_ : β) W => N ≤ W.heap.size) := fun _ _ _ _ hs hg _ => Nat.le_trans hs hg.size
end Go.Proofs.YtoheibfijpdmfaaDoor
set_option linter.unusedSimpArgs false
namespace Go.Proofs.YtoheibfijpdmfaaDoor
open Go.RowKit Go.Shelf
set_option linter.unusedVariables false
attribute [local go_sem] Oper.semAt_some
theorem take_next {α : Type} (l : List α) {k : Nat} (hk : k < l.length) : l.take (k + 1) = l.take k ++ [l[k]] := by rw [List.take_add_one, List.getElem?_eq_getElem hk]; rfl
theorem take_fin {N k : Nat} (hk : k < N) : (List.finRange N).take (k + 1) = (List.finRange N).take k ++ [⟨k, hk⟩] := by
  rw [take_next _ (by simpa using hk)]; simp
abbrev encF (x y : Int) (A : Nat) {N : Nat} (k : Fin N) : Array Value := #[.agg #[.int .i64 (x + (k.val % A : Nat)), .int .i64 (y + (k.val / A : Nat))]]
set_option maxRecDepth 100000 in
set_option maxHeartbeats 2000000 in
theorem cells_stopsF (n B : Nat) (x y : Int) (A Bn : Nat) (w : World) (hF : Four w B x y (A : Int) (Bn : Int)) (hm : may x y (A : Int) (Bn : Int) = true) :
    SeqStopsK Fence.wide n Tryd.prog 81 #[.pointer (some ⟨B, 0, none⟩)] (encF x y A (N := Bn * A)) (KB B) (fun xs => xs = List.finRange (Bn * A)) (fun pre => pre <+: List.finRange (Bn * A)) (Bn * A) w := fun l J Jx W hW hJ hJx hY h0 => by
  refine callsIn_of_wp Tryd.func81 rfl trivial ?_ rfl
  simp only [Tryd.ntmps81, List.size_toArray, List.length_cons, List.length_nil, Nat.reduceAdd, Nat.reduceSub, Array.replicate_succ, Array.replicate_zero, List.push_toArray, List.append_toArray, List.nil_append, List.cons_append]
  obtain ⟨⟨c0, c1, c2, c3⟩, _, z0⟩ := hF.kept hW
  obtain ⟨⟨⟨x0, x1⟩, y0, y1⟩, ⟨a0, a1⟩, ⟨b0, b1⟩, _⟩ := (may_iff _ _ _ _).1 hm
  gi_wp2_with fail
  refine ⟨trivial, fun h => (by cases h), ?_⟩
  refine (callsIn_wide.2 (may_is _ hm)).mono ?_
  rintro e w1 ⟨rfl, hb1⟩
  have F1 := (hF.kept hW).kept hb1
  have j1 := abides_below hJ h0 hb1
  have HB1 := hide (show KB B W w1 from kB_below hb1 z0)
  clear hb1
  obtain ⟨⟨c4, c5, c6, c7⟩, _, z1⟩ := id F1
  gi_wp2_with fail
  gi_loopw [10] (fun d wr => ∃ k : Nat, k ≤ Bn ∧ d = .int .i64 k ∧ J ((List.finRange (Bn * A)).take (k * A)) wr ∧ KB B W wr) (fun d _ => Bn - (intOf d).toNat)
  case atStart =>
    exact ⟨0, Nat.zero_le _, rfl, by rw [Nat.zero_mul]; exact j1, HB1.out⟩
  case round =>
    obtain ⟨k, hk, rfl, hJk, hBk⟩ := hrel
    rename World => wo
    have c8 := (kB_cell hBk 0).trans c0
    have c9 := (kB_cell hBk 1).trans c1
    have c10 := (kB_cell hBk 2).trans c2
    have c11 := (kB_cell hBk 3).trans c3
    by_cases hlt : k < Bn
    · gi_wp2_with fail
      gi_loopw [15] (fun d wr => ∃ j : Nat, j ≤ A ∧ d = .int .i64 j ∧ J ((List.finRange (Bn * A)).take (k * A + j)) wr ∧ KB B W wr) (fun d _ => A - (intOf d).toNat)
      case atStart =>
        exact ⟨0, Nat.zero_le _, rfl, hJk, hBk⟩
      case round =>
        obtain ⟨j, hj, rfl, hJj, hBj⟩ := hrel
        have d0 := (kB_cell hBj 0).trans c0
        have d1 := (kB_cell hBj 1).trans c1
        by_cases hjt : j < A
        · have hkj : k * A + j < Bn * A := row_lt hlt hjt (Nat.le_refl _)
          obtain ⟨fn, tmps, assign, body, hy, hR⟩ := hY ((List.finRange (Bn * A)).take (k * A + j)) ⟨k * A + j, hkj⟩ wr hJj (by simp; omega)
          have e1 := (idx_mod (w := A) (x := j) (y := k) hjt).1
          have e2 := (idx_mod (w := A) (x := j) (y := k) hjt).2
          dsimp only [encF] at hy
          rw [e1, e2] at hy
          clear e1 e2
          gi_wp2_with fail
          refine ⟨fun h => (by cases h), ?_⟩
          refine hR.mono ?_
          rintro e W3 (⟨rfl, hJ3, hk3⟩ | ⟨rfl, hJx3⟩)
          · gi_wp2_with fail
            go_roundw
            case rel => exact ⟨j + 1, by omega, by go_num, by rw [← Nat.add_assoc, take_fin hkj]; exact hJ3, kB_t hBj hk3⟩
            case measure => simp [intOf]; omega
          · gi_wp2_with fail
            refine bodyPost_ret (results_none rfl _ _ _) rfl ?_
            refine ⟨⟨_, rfl⟩, .inr ⟨_, ?_, hJx3⟩⟩
            rw [← take_fin hkj]
            exact List.take_prefix _ _
        · have hja : j = A := by omega
          subst hja
          gi_wp2_with fail
          go_roundw
          case rel => exact ⟨k + 1, by omega, by go_num, by rw [← row_end]; exact hJj, hBj⟩
          case measure => simp [intOf]; omega
    · have hkb : k = Bn := by omega
      subst hkb
      gi_wp2_with fail
      go_end0
      refine ⟨⟨_, rfl⟩, .inl ⟨_, ?_, hJk⟩⟩
      rw [List.take_of_length_le (by simp)]
/-- In block b lie n marks. -/
def Mks (w : World) (b n : Nat) (g : Nat → Bool) : Prop := w.heap[b]? = some (.cells ((List.range n).map (fun k => Value.bool (g k))).toArray 4 (0, 0))
section
variable {w w' : World} {b n : Nat} {g g' : Nat → Bool}
theorem Mks.lt (h : Mks w b n g) : b < w.heap.size := (Array.getElem?_eq_some_iff.1 h).1
theorem Mks.upto {n₀ : Nat} (h : Mks w b n g) (hb : Below n₀ w w') (hn : b < n₀) : Mks w' b n g := (hb.block b hn).trans h
theorem Mks.cell (h : Mks w b n g) {k : Nat} (hk : k < n) : w.cell? ⟨b, k, none⟩ = some (.bool (g k)) := by
  rw [cell_of_row w b k _ _ _ h]; simp [hk]
theorem Mks.f (h : Mks w b n g) (k : Nat) : w.frozen? ⟨b, k, none⟩ = false := by
  have h' : w.heap[b]? = _ := h
  simp [World.frozen?, h']
theorem Mks.congr (h : Mks w b n g) (e : ∀ k, k < n → g k = g' k) : Mks w b n g' := by
  unfold Mks at h ⊢
  rw [h]
  congr 3
  exact List.map_congr_left (fun k hk => by rw [e k (List.mem_range.1 hk)])
theorem Mks.set (h : Mks w b n g) {k : Nat} (hk : k < n) (v : Bool) : Mks (w.setCell ⟨b, k, none⟩ (.bool v)) b n (fun j => if j = k then v else g j) := by
  have h' : w.heap[b]? = _ := h
  unfold Mks
  have e : ((List.range n).map (fun k => Value.bool (g k))).set k (.bool v) = (List.range n).map (fun j => Value.bool (if j = k then v else g j)) := by
    refine List.ext_getElem (by simp) (fun i h1 h2 => ?_)
    simp only [List.getElem_set, List.getElem_map, List.getElem_range]
    by_cases hik : k = i
    · subst hik; simp
    · rw [if_neg hik, if_neg (fun e => hik e.symm)]
  simp [World.setCell, Array.getElem?_modify, h', e]
theorem Mks.own {W W' : World} {row : Option Nat} (h : Mks W b n g) (hg : W.grownBy W' row) (hr : ∀ r, row = some r → ∃ o : Obj, W.heap[r]? = some o ∧ o.isCells = false) : Mks W' b n g :=
  (hg.block b h.lt (fun e => by
    obtain ⟨o, ho, hc⟩ := hr b e.symm
    have h' : W.heap[b]? = _ := h
    rw [h'] at ho
    cases ho
    cases hc)).trans h
end
theorem info4 : (Tryd.prog.info? 4).map (fun i => (i.zero, i.size, i.bytes)) = some (some (.bool false), 1, 1) := by kernel_rfl
theorem made_list (z : Value) (n : Nat) : madeCells #[z] n = (List.replicate n z).toArray := by
  simp only [madeCells]
  refine Array.ext (by simp) (fun i h1 h2 => ?_)
  simp [Nat.mod_one]
theorem make_marks (n : Nat) (hn : n ≤ 16384) (w : World) : (Instr.makeSlice 43 (.int .i64 (n : Nat)) (.int .i64 (n : Nat))).run Tryd.prog w = .ok (sl w.heap.size n) (w.alloc (.cells ((List.range n).map (fun _ => Value.bool false)).toArray 4)) := by
  have := run_make_row' (P := Tryd.prog) 43 4 (.bool false) 1 Tryd.underlying43 info4 rfl .i64 .i64 n (by omega) (by omega) w
  rw [made_list] at this
  rw [this, List.map_const', List.length_range]
theorem made_marks (n : Nat) (w : World) : Mks (w.alloc (.cells ((List.range n).map (fun _ => Value.bool false)).toArray 4)) w.heap.size n (fun _ => false) := heap_alloc_new w _
theorem make_sizes (n : Nat) (hn : n ≤ 16384) (w : World) : (Instr.makeSlice 22 (.int .i64 (n : Nat)) (.int .i64 (n : Nat))).run Tryd.prog w = .ok (sl w.heap.size n) (w.alloc (.cells ((List.replicate n 0).map (fun n => Value.int .u8 (n : Nat))).toArray 5)) := by
  have := run_make_row' (P := Tryd.prog) 22 5 (.int .u8 0) 1 Tryd.underlying22 info5 rfl .i64 .i64 n (by omega) (by omega) w
  rw [made_list] at this
  rw [this, List.map_replicate]; rfl
theorem made_sizes (n : Nat) (w : World) : Szs (w.alloc (.cells ((List.replicate n 0).map (fun n => Value.int .u8 (n : Nat))).toArray 5)) w.heap.size (List.replicate n 0) := heap_alloc_new w _
/-- Two blocks are as they were. -/
def KB2 (B C : Nat) (W W' : World) : Prop := KB B W W' ∧ KB C W W'
theorem kB2_t {B C : Nat} {X Y Z : World} (h : KB2 B C X Y) (k : KB2 B C Y Z) : KB2 B C X Z := ⟨kB_t h.1 k.1, kB_t h.2 k.2⟩
abbrev encB {N : Nat} (q : Fin N × Bool) : Array Value := #[.int .i64 (q.1.val : Nat), .bool q.2]
/-- The numbers of a row of marks from the last one back, each with its mark. -/
def backL (N : Nat) (g : Nat → Bool) : List (Fin N × Bool) := (List.finRange N).reverse.map (fun i => (i, g i.val))
theorem backL_len (N : Nat) (g : Nat → Bool) : (backL N g).length = N := by simp [backL]
theorem backL_get (N : Nat) (g : Nat → Bool) {j : Nat} (hj : j < N) : (backL N g)[j]'(by rw [backL_len]; exact hj) = (⟨N - 1 - j, by omega⟩, g (N - 1 - j)) := by
  simp [backL]
set_option maxRecDepth 100000 in
set_option maxHeartbeats 2000000 in
theorem back_stops (n B C N : Nat) (g : Nat → Bool) (w : World) (hN : N ≤ 16384) (hB : Boxed w B 43 (sl C N)) (hM : Mks w C N g) :
    SeqStopsK Fence.wide n Tryd.prog 102 #[.pointer (some ⟨B, 0, none⟩)] (encB (N := N)) (KB2 B C) (fun xs => xs = backL N g) (fun pre => pre <+: backL N g) N w := fun l J Jx W hW hJ hJx hY h0 => by
  refine callsIn_of_wp Tryd.func102 rfl trivial ?_ rfl
  simp only [Tryd.ntmps102, List.size_toArray, List.length_cons, List.length_nil, Nat.reduceAdd, Nat.reduceSub, Array.replicate_succ, Array.replicate_zero, List.push_toArray, List.append_toArray, List.nil_append, List.cons_append]
  have bW := boxed_upto hB hW hB.lt
  have mW := hM.upto hW hM.lt
  have c0 := bW.cell
  have hNi : ((N : Nat) : Int) ≤ 16384 := by omega
  gi_wp2_with fail
  clear c0
  gi_loopw [3] (fun d wr => ∃ j : Nat, j ≤ N ∧ d = .int .i64 ((N : Int) - 1 - (j : Nat)) ∧ J ((backL N g).take j) wr ∧ KB2 B C W wr) (fun d _ => (intOf d + 1).toNat)
  case atStart => exact ⟨0, Nat.zero_le _, by simp, h0, rfl, rfl⟩
  case round =>
    obtain ⟨j, hj, rfl, hJj, hBj⟩ := hrel
    have c0 := ((kB_cell hBj.1 0).trans bW.cell)
    by_cases hlt : j < N
    · obtain ⟨i, hi⟩ : ∃ i : Nat, i = N - 1 - j := ⟨_, rfl⟩
      have hiN : i < N := by omega
      have m0 := ((kB_cell hBj.2 i).trans (mW.cell hiN))
      have hii : (N : Int) - 1 - (j : Nat) = (i : Nat) := by omega
      have hir : (0 : Int) ≤ (i : Nat) ∧ ((i : Nat) : Int) < (N : Nat) := by omega
      obtain ⟨fn, tmps, assign, body, hy, hR⟩ := hY ((backL N g).take j) (⟨i, hiN⟩, g i) wr hJj (by rw [List.length_take, backL_len]; omega)
      have hnx : (backL N g).take (j + 1) = (backL N g).take j ++ [(⟨i, hiN⟩, g i)] := by
        rw [take_next _ (by rw [backL_len]; exact hlt), backL_get N g hlt]
        subst hi; rfl
      have Hnx := hide hnx
      have Hi := hide hi
      dsimp only [encB] at hy
      rw [hii]
      clear hnx hi hii
      gi_wp2_with fail
      refine ⟨fun h => (by cases h), ?_⟩
      refine hR.mono ?_
      rintro e W3 (⟨rfl, hJ3, hk3⟩ | ⟨rfl, hJx3⟩)
      · gi_wp2_with fail
        go_roundw
        case rel => exact ⟨j + 1, by omega, by have := Hi.out; congr 1; omega, by rw [Hnx.out]; exact hJ3, kB2_t hBj hk3⟩
        case measure => simp [intOf] <;> omega
      · gi_wp2_with fail
        refine bodyPost_ret (results_none rfl _ _ _) rfl ?_
        refine ⟨⟨_, rfl⟩, .inr ⟨_, ?_, hJx3⟩⟩
        rw [← Hnx.out]
        exact List.take_prefix _ _
    · obtain rfl : j = N := by omega
      have hii : (j : Int) - 1 - (j : Nat) = -1 := by omega
      rw [hii]
      gi_wp2_with fail
      go_end0
      refine ⟨⟨_, rfl⟩, .inl ⟨_, ?_, hJj⟩⟩
      rw [List.take_of_length_le (by rw [backL_len]; exact Nat.le_refl _)]
end Go.Proofs.YtoheibfijpdmfaaDoor
