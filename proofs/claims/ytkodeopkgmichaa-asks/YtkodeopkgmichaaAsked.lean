/-
  A range over an iterator with memory of its own whose rounds may turn rows of ints that they made themselves. As OnCells, for rounds that may turn rows of ints. As Meeting, for rounds that may turn rows of ints. slices.Collect over an iterator of the index: a row of ints.
-/
import Derived.Test.YtkodeopkgmichaaNest
import Derived.Test.YtkodeopkgmichaaOnCells
import Derived.Test.YtkodeopkgmichaaMeeting
import Derived.Test.YtkodeopkgmichaaSame
namespace Go.Proofs.Ytkodeopkgmichaa
open Go.RowKit Go.Shelf
set_option linter.unusedVariables false
/-- What lay from block B on lies as it lay. -/
def ints : Obj → Bool
  | .cells _ t _ => t == 3
  | _ => false
/-- What lay from block B on lies as it lay, rows of ints aside. -/
def KeepI (B : Nat) (W W' : World) : Prop := W.heap.size ≤ W'.heap.size ∧ ∀ k o, B ≤ k → W.heap[k]? = some o → ints o = false → W'.heap[k]? = some o
theorem KeepI.refl (B : Nat) (W : World) : KeepI B W W := ⟨Nat.le_refl _, fun _ _ _ h _ => h⟩
theorem KeepI.trans {B : Nat} {X Y Z : World} (h : KeepI B X Y) (k : KeepI B Y Z) : KeepI B X Z := ⟨Nat.le_trans h.1 k.1, fun i o hi ho hn => k.2 i o hi (h.2 i o hi ho hn) hn⟩
theorem KeepI.mono {B C : Nat} {X Y : World} (h : KeepI B X Y) (hB : B ≤ C) : KeepI C X Y := ⟨h.1, fun i o hi => h.2 i o (Nat.le_trans hB hi)⟩
theorem KeepI.at {B : Nat} {X Y : World} (h : KeepI B X Y) {k : Nat} {o : Obj} (hB : B ≤ k) (hk : X.heap[k]? = some o) (hn : ints o = false) : Y.heap[k]? = some o := h.2 k o hB hk hn
theorem KeepI.from {B : Nat} {X Y : World} (h : KeepI B X Y) : KeepsFrom B X Y := ⟨h.1, fun k o hB hk hc => h.at hB hk (by cases o <;> first | rfl | (simp [Obj.isCells] at hc))⟩
theorem KeepI.of_below {B : Nat} {X Y : World} (h : Below X.heap.size X Y) : KeepI B X Y := ⟨h.size, fun k o _ hk _ => (h.block k (Array.getElem?_eq_some_iff.1 hk).1).trans hk⟩
theorem KeepI.put {B : Nat} (X : World) {l : Nat} (o : Obj) (hl : l < B) : KeepI B X (X.putObj l o) := ⟨by simp, fun k o' hB hk _ => (World.putObj_heap_other (by omega)).trans hk⟩
theorem KeepI.set {B : Nat} (X : World) {p : Addr} (u : Value) (hp : p.block < B) : KeepI B X (X.setCell p u) := ⟨by simp [World.setCell], fun k o hB hk _ => (Below.heap_setCell _ _ _ _ (by omega)).trans hk⟩
/-- What an iterator promises that may keep records of its own: the rounds leave what it has laid. -/
def SeqOwnI {α : Type} (n : Nat) (g : Nat) (lb : Array Value) (encs : α → Array Value) (Kp : World → World → Prop) (S Sp : List α → Prop) (N : Nat) (w : World) : Prop :=
  ∀ (l : Nat) (J Jx : List α → World → Prop) (W : World), Below w.heap.size w W → OwnFrom W.heap.size J → OwnFrom W.heap.size Jx →
    (∀ pre x X, J pre X → pre.length < N → YieldAt Fence.wide (n - 1) Try.prog l (encs x) X fun e Y =>
      KeepI W.heap.size X Y ∧ ((e = .returned (.bool true) ∧ J (pre ++ [x]) Y ∧ Kp X Y) ∨ (e = .returned (.bool false) ∧ Jx (pre ++ [x]) Y))) →
    J [] W →
    CallsIn Fence.wide n Try.prog g (#[.func (.yield l) #[] #[]] ++ lb) W fun e Y => (∃ v, e = .returned v) ∧ ((∃ xs, S xs ∧ J xs Y) ∨ (∃ pre, Sp pre ∧ Jx pre Y))
def nestPostI {α : Type} (B : Nat) (Kp : World → World → Prop) (I Ix : List α → World → Prop) (xs : List α) (X : World) : Exit → Act → World → Prop
  | .normal, _, Y => KeepI B X Y ∧ Kp X Y ∧ I xs Y
  | .ret, _, Y => KeepI B X Y ∧ Ix xs Y
  | _, _, _ => False
theorem range_nestI {α : Type} {n : Nat} {g : Operand} {ps : Array Tmp} {assign body : Code} {Q : Exit → Act → World → Prop} {a : Act} {w w0 : World} (h1 : 1 ≤ n) {gf : Nat} {lb : Array Value}
    (hg : a.eval g = .func (.func gf) #[] lb) (eg : ∀ args w, (callFunc gf args).run Try.prog w = .ok (.enter gf args) w)
    {encs : α → Array Value} {Kp : World → World → Prop} {S Sp : List α → Prop} {N : Nat} (hseq : SeqOwnI (n - 1) gf lb encs Kp S Sp N w0)
    (hKt : ∀ {A B C : World}, Kp A B → Kp B C → Kp A C) (hKb : ∀ (W : World) (l : Nat) (o o' : Obj), w.heap.size ≤ l → W.heap[l]? = some o → o.isCells = false → o.isWalk = false → Kp W (W.putObj l o'))
    (hb0 : Below w0.heap.size w0 w) (hps : ∀ x, (encs x).size = ps.size)
    (I Ix : List α → World → Prop) (hI : OwnFrom w.heap.size I) (hIx : OwnFrom w.heap.size Ix) (h0 : I [] w) (Ax : α → Act → World → Prop) (hAx : ∀ x a', OwnFrom w.heap.size (fun (_ : Unit) W => Ax x a' W))
    (hassign : ∀ (l : Nat) (pre : List α) (x : α) (W : World) (K : Act → World → Prop), I pre W → (∀ a' W', KeepI w.heap.size W W' → Kp W W' → I pre W' → Ax x a' W' → K a' W') →
      assign.wpIn (Fence.wide.inRound l) (n - 1 - 1) Try.prog (Exit.then K (fun _ _ _ => False)) { tmps := (ps.zip (encs x)).foldl (fun t (p, v) => t.setIfInBounds p v) a.tmps, defers := [] } W)
    (hbody : ∀ (l : Nat) (pre : List α) (x : α) (a' : Act) (W : World), w.heap.size ≤ l → I pre W → Ax x a' W → pre.length < N → body.wpIn (Fence.wide.inRound l) (n - 1 - 1) Try.prog (nestPostI w.heap.size Kp I Ix (pre ++ [x]) W) a' W)
    (hdone : ∀ (D : Nat) (xs : List α) (W : World), w.heap.size ≤ D → S xs → I xs W → W.heap[D]? = some (.deferred (some [])) → Q .normal { a with defers := { target := .collected D, args := #[] } :: a.defers } W)
    (hstop : ∀ (D : Nat) (pre : List α) (W : World), w.heap.size ≤ D → Sp pre → Ix pre W → W.heap[D]? = some (.deferred (some [])) → Code.ret.wpIn Fence.wide n Try.prog Q { a with defers := { target := .collected D, args := #[] } :: a.defers } W) :
    (Code.rangeFunc g ps assign body).wpIn Fence.wide n Try.prog Q a w := by
  refine wpIn_rangeFunc (fun fn hfn => ?_)
  generalize hrc : (fun st pe => ({ state := st, pending := pe, fn := fn, tmps := a.tmps, params := ps, assign := assign, body := body, defers := w.heap.size } : Loop)) = rc
  generalize hV : (w.alloc (.deferred (some []))).alloc (.loop (rc .ready none)) = V
  have zV : V.heap.size = w.heap.size + 1 + 1 := by rw [← hV]; simp
  have bV : Below w.heap.size w V := by rw [← hV]; exact box2 _ _ _
  have lV : V.heap[w.heap.size + 1]? = some (.loop (rc .ready none)) := by rw [← hV]; have := World.alloc_heap_new (w.alloc (.deferred (some []))) (.loop (rc .ready none)); rwa [World.size_alloc] at this
  have dV : V.heap[w.heap.size]? = some (.deferred (some [])) := by rw [← hV]; exact (Below.heap_alloc _ _ _ (by simp)).trans (World.alloc_heap_new w _)
  have iV : I [] V := hI _ _ _ none h0 (below_grown bV) (fun r e => by cases e)
  -- the records, in whatever state the loop is
  let Bk : LoopState → Option Code → World → Prop := fun st pe X => X.heap[w.heap.size + 1]? = some (.loop (rc st pe)) ∧ X.heap[w.heap.size]? = some (.deferred (some []))
  have ownB : ∀ st pe, OwnFrom V.heap.size (fun (_ : List α) X => Bk st pe X) := fun st pe s X Y row hs hgr hr =>
    ⟨(hgr.block _ (Array.getElem?_eq_some_iff.1 hs.1).1 (fun e => by have := (hr _ e.symm).1; omega)).trans hs.1, (hgr.block _ (Array.getElem?_eq_some_iff.1 hs.2).1 (fun e => by have := (hr _ e.symm).1; omega)).trans hs.2⟩
  have wide : ∀ {J : List α → World → Prop}, OwnFrom w.heap.size J → OwnFrom V.heap.size J := fun h s X Y row hs hgr hr => h s X Y row hs hgr (fun r e => ⟨by have := (hr r e).1; omega, (hr r e).2⟩)
  have turn : ∀ {X : World} {st pe} (st' : LoopState) (pe' : Option Code), Bk st pe X → Bk st' pe' (X.putObj (w.heap.size + 1) (.loop (rc st' pe'))) := fun st' pe' h =>
    ⟨World.putObj_heap_same (Array.getElem?_eq_some_iff.1 h.1).1, (World.putObj_heap_other (by omega)).trans h.2⟩
  refine ⟨w.heap.size + 1, [{ target := .collected w.heap.size, args := #[] }], V, { target := .fn (.func gf) lb, args := #[.func (.yield (w.heap.size + 1)) #[] #[]] }, V, gf, #[.func (.yield (w.heap.size + 1)) #[] #[]] ++ lb, V, ?_, ?_, fun _ _ => trivial, ?_, fun _ => h1, ?_⟩
  · rw [← hV, ← hrc]; exact run_enterLoop_outer _ _ _ _ _
  · simp only [resolve, hg]; simp [go_sem]
  · simp [invoke, go_sem, eg]
  refine (hseq (w.heap.size + 1) (fun pre X => I pre X ∧ Bk .ready none X) (fun pre X => Ix pre X ∧ Bk .done (some .ret) X) V (hb0.trans (bV.mono hb0.size))
    (OwnFrom.and (wide hI) (ownB _ _)) (OwnFrom.and (wide hIx) (ownB _ _)) ?_ ⟨iV, lV, dV⟩).mono ?_
  · rintro pre x X ⟨iX, bX⟩ hlen
    have hy := run_yield (P := Try.prog) (args := encs x) bX.1 (by rw [← hrc]; exact hps x)
    rw [← hrc] at hy
    refine ⟨fn, _, assign, body, hy, roundIn_of_wpIn trivial (hassign _ pre x X _ iX ?_)⟩
    intro a' Y kY kpY iY axY
    have bY : Bk .ready none Y := ⟨kY.at (by omega) bX.1 rfl, kY.at (Nat.le_refl _) bX.2 rfl⟩
    refine ⟨_, run_beginRound bY.1 (by rw [← hrc]), ?_⟩
    rw [show (Obj.loop { rc .ready none with state := .busy }) = .loop (rc .busy none) by rw [← hrc]]
    have bZ := turn .busy none bY
    refine wpIn_mono (hbody _ pre x a' _ (by omega) (hI.putObj _ iY (by omega) bY.1 rfl) ((hAx x a').putObj (s := ()) _ axY (by omega) bY.1 rfl) hlen) ?_
    have fin : ∀ (j : Option Code) (U : World), KeepI w.heap.size (Y.putObj (w.heap.size + 1) (.loop (rc .busy none))) U →
        (Instr.endRound (w.heap.size + 1) j).run Try.prog U = .ok (.bool j.isNone) (U.putObj (w.heap.size + 1) (.loop (rc (if j.isNone then .ready else .done) j))) ∧ Bk .busy none U := fun j U kU => by
      have bU : Bk .busy none U := ⟨kU.at (by omega) bZ.1 rfl, kU.at (Nat.le_refl _) bZ.2 rfl⟩
      refine ⟨?_, bU⟩
      have := run_endRound (P := Try.prog) j bU.1
      rw [← hrc] at this ⊢
      exact this
    have kept : ∀ {U : World} (o : Obj), KeepI w.heap.size (Y.putObj (w.heap.size + 1) (.loop (rc .busy none))) U → KeepI V.heap.size X (U.putObj (w.heap.size + 1) o) := fun o kU =>
      ((kY.mono (by omega)).trans (KeepI.put _ _ (by omega))).trans ((kU.mono (by omega)).trans (KeepI.put _ _ (by omega)))
    rintro e a3 U hp
    cases e with
    | normal =>
      obtain ⟨kU, kpU, iU⟩ := hp
      obtain ⟨hr, bU⟩ := fin none U kU
      exact ⟨_, _, hr, kept _ kU, .inl ⟨rfl, ⟨hI.putObj _ iU (by omega) bU.1 rfl, turn _ _ bU⟩, hKt kpY (hKt (hKt (hKb _ _ _ _ (by omega) bY.1 rfl rfl) kpU) (hKb _ _ _ _ (by omega) bU.1 rfl rfl))⟩⟩
    | ret =>
      obtain ⟨kU, iU⟩ := hp
      obtain ⟨hr, bU⟩ := fin (some .ret) U kU
      exact ⟨_, _, hr, kept _ kU, .inr ⟨rfl, hIx.putObj _ iU (by omega) bU.1 rfl, turn _ _ bU⟩⟩
    | exit id => exact hp.elim
    | goto t => exact hp.elim
    | panic ch => exact hp.elim
    | outgrown => exact hp.elim
  · rintro e U ⟨⟨v, rfl⟩, (⟨xs, hS, iU, bU⟩ | ⟨pre, hS, iU, bU⟩)⟩
    · refine ⟨none, _, ?_, hdone _ xs _ (Nat.le_refl _) hS (hI.putObj (.loop (rc .exhausted none)) iU (by omega) bU.1 rfl) (turn .exhausted none bU).2⟩
      have := run_endLoop (P := Try.prog) bU.1 (by rw [← hrc]; simp)
      rw [← hrc] at this ⊢
      exact this
    · refine ⟨some .ret, _, ?_, hstop _ pre _ (Nat.le_refl _) hS (hIx.putObj (.loop (rc .exhausted (some .ret))) iU (by omega) bU.1 rfl) (turn .exhausted (some .ret) bU).2⟩
      have := run_endLoop (P := Try.prog) bU.1 (by rw [← hrc]; simp)
      rw [← hrc] at this ⊢
      exact this
end Go.Proofs.Ytkodeopkgmichaa
namespace Go.Proofs.Ytkodeopkgmichaa
open Go.RowKit Go.Shelf
attribute [local go_sem] Oper.semAt_some
set_option linter.unusedVariables false
set_option linter.unusedSimpArgs false
theorem blk_own {β : Type} (b : Nat) (cs : Array Value) (t : TypeId) : Own (fun (_ : β) (X : World) => X.heap[b]? = some (.cells cs t)) := fun _ X Y row h hg hr => (hg.block b (Array.getElem?_eq_some_iff.1 h).1 (fun e => by
  obtain ⟨o, ho, hc⟩ := hr b e.symm
  rw [h] at ho
  cases ho
  cases hc)).trans h
set_option maxRecDepth 100000 in
set_option maxHeartbeats 4000000 in
theorem onCells_seqI (n p h bm m N : Nat) (f : Int → Int → Option Int) (x y a b : Int) (w : World) (hn : 1 ≤ n) (hP : Boxed w h 24 (ptr p)) (hF : Four w (h + 1) x y a b) (hc : w.cell? ⟨p, 1, none⟩ = some (.map (some bm))) (hw : Who w bm m f)
    (hN : may x y a b = true → b.toNat * a.toNat ≤ N) :
    SeqOwnI n 60 #[ptr (h + 1), ptr h] encI (Below w.heap.size) (fun xs => xs = onL f (allC x y a b)) (fun pre => pre <+: onL f (allC x y a b)) N w := fun l J Jx W hW hJ hJx hY h0 => by
  refine callsIn_of_wp_marks Try.func60 rfl trivial ?_ rfl
  simp only [Try.ntmps60, List.size_toArray, List.length_cons, List.length_nil, Nat.reduceAdd, Nat.reduceSub, Array.replicate_succ, Array.replicate_zero, List.push_toArray, List.append_toArray, List.nil_append, List.cons_append]
  have hpl := World.block_lt_of_cell? w _ hc
  have hbl := hw.lt
  have hhl := hP.lt
  have hfl := hF.2.2
  have hsW := hW.size
  obtain ⟨V0, hV0⟩ : ∃ V0, W.alloc (.cells #[.func (.yield l) #[] #[]] 87) = V0 := ⟨_, rfl⟩
  have B0 : Below W.heap.size W V0 := by rw [← hV0]; exact box1 _ _
  have Y0 : Boxed V0 W.heap.size 87 (.func (.yield l) #[] #[]) := by rw [← hV0]; exact Boxed.new W 87 _
  have z0 : V0.heap.size = W.heap.size + 1 := by rw [← hV0]; simp
  have hW0 : Below w.heap.size w V0 := hW.trans (B0.mono hW.size)
  have F0 : Four V0 (h + 1) x y a b := hF.kept hW0
  obtain ⟨⟨k0, k1, k2, k3⟩, -, -⟩ := F0
  gi_wp2_with fail
  refine ⟨trivial, ?_⟩
  refine (callsIn_wide.2 (cells_any _ _ _ _ _)).mono ?_
  rintro e w1 ⟨rfl, rfl⟩
  have F1 : Four (V0.alloc (.cells #[.int .i64 x, .int .i64 y, .int .i64 a, .int .i64 b] 34)) V0.heap.size x y a b := cells4 (Below.refl _ _)
  have B1 := box1 V0 (.cells #[.int .i64 x, .int .i64 y, .int .i64 a, .int .i64 b] 34)
  have z1 : (V0.alloc (.cells #[.int .i64 x, .int .i64 y, .int .i64 a, .int .i64 b] 34)).heap.size = W.heap.size + 2 := by simp [z0]
  clear hV0 k0 k1 k2 k3
  gi_wp2_with fail
  obtain ⟨V, hV⟩ : ∃ V, V0.alloc (.cells #[.int .i64 x, .int .i64 y, .int .i64 a, .int .i64 b] 34) = V := ⟨_, rfl⟩
  have R1 : V.heap[W.heap.size + 1]? = some (.cells #[.int .i64 x, .int .i64 y, .int .i64 a, .int .i64 b] 34) := by rw [← hV, ← z0]; exact heap_alloc_new V0 _
  rw [hV] at F1 B1 z1 ⊢
  clear hV
  have hWV : Below w.heap.size w V := hW0.trans (B1.mono hW0.size)
  have Y1 : Boxed V W.heap.size 87 (.func (.yield l) #[] #[]) := boxed_upto Y0 B1 (by omega)
  have j1 : J [] V := own_below hJ h0 (bt B0 B1)
  rw [z0] at F1
  refine wpIn_rangeFunc_ownH rfl hn (gf := 63) (lb := #[ptr (W.heap.size + 1)]) rfl trivial (enters_of Try.func63 (by kernel_rfl) rfl)
    (cells_stops (n - 1) (W.heap.size + 1) N x y a b V F1 hN) kB_t (kB_b (by omega)) (Below.refl _ _) (fun _ => rfl)
    (fun pre X => ((J (onL f pre) X ∧ Below w.heap.size w X) ∧ V.heap.size ≤ X.heap.size) ∧ (Boxed X W.heap.size 87 (.func (.yield l) #[] #[]) ∧ X.heap[W.heap.size + 1]? = some (.cells #[.int .i64 x, .int .i64 y, .int .i64 a, .int .i64 b] 34)))
    (fun c pre X => c = .ret ∧ Jx (onL f pre) X)
    (OwnFrom.and (OwnFrom.and (OwnFrom.and (own_map (own_wide hJ (by omega)) (onL f)) (ownFrom_below (Nat.le_refl _) (by omega))) (ownFrom_size _ _)) (OwnFrom.and (Own.from (boxed_own _ _ _) _) (Own.from (blk_own _ _ _) _)))
    (fun c => OwnFrom.and (ownFrom_pure _ _) (own_map (own_wide hJx (by omega)) (onL f)))
    ⟨⟨⟨j1, hWV⟩, Nat.le_refl _⟩, Y1, R1⟩
    (fun q a' X => ∃ Bx, V.heap.size ≤ Bx ∧ Two X Bx q.1.1 q.1.2 ∧ a' = { tmps := #[.func (.yield l) #[] #[], ptr (h + 1), ptr h, ptr W.heap.size, ptr Bx, undef, undef, rct x y a b, .func (.func 63) #[] #[ptr (W.heap.size + 1)], cel q.1.1 q.1.2, undef, undef, undef, undef, undef, undef, undef, undef, undef, undef, undef, undef, undef, undef, undef, undef], defers := [] })
    (fun q a' _ X Y row hs hg hr => by obtain ⟨Bx, e1, e2, e3⟩ := hs; exact ⟨Bx, e1, e2.own hg (fun r e => (hr r e).2), e3⟩)
    ?assign ?body ?done ?stop
  case assign =>
    rintro l' pre q X K ⟨⟨⟨hJX, hBX⟩, hzX⟩, bY, rX⟩ hK
    have hlY := bY.lt
    have hsX := hBX.size
    gi_wp2
    exact hK _ _ ((KeepsOthers.alloc _ _).from _) (Below.heap_alloc _ _ _ (by omega)) ⟨⟨⟨own_below hJ hJX (box1 _ _), hBX.alloc (by omega) _⟩, by simp; omega⟩, bY.alloc _, (Below.heap_alloc _ _ _ (by omega)).trans rX⟩ ⟨X.heap.size, by omega, Two.newAt rfl, rfl⟩
  case body =>
    rintro l' pre q a' X hl' ⟨r, hr⟩ ⟨⟨⟨hJX, hBX⟩, hzX⟩, bY, rX⟩ ⟨Bx, hBx, bX, rfl⟩ hlt
    have hsX := hBX.size
    have bP := boxed_upto hP hBX (by omega)
    have hwX := hw.upto hBX hbl
    have hne := lat_some X
    obtain ⟨d0, d1⟩ := bX.lat
    have c0 : ∀ n : Lat X, n.w.cell? ⟨h, 0, none⟩ = some (ptr p) := fun n => (n.h.cell (p := ⟨h, 0, none⟩) bP.lt).trans bP.cell
    have c6 : ∀ n : Lat X, n.w.cell? ⟨p, 1, none⟩ = some (.map (some bm)) := fun n => (n.h.cell (p := ⟨p, 1, none⟩) (Nat.lt_of_lt_of_le hpl hBX.size)).trans ((hBX.cell (p := ⟨p, 1, none⟩) hpl).trans hc)
    have hlook : ∀ n : Lat X, (Instr.lookup 60 (.map (some bm)) (cel q.1.1 q.1.2) true).run Try.prog n.w = .ok (.tuple #[.int .i64 ((f q.1.1 q.1.2).getD 0), .bool (f q.1.1 q.1.2).isSome]) n.w := fun n => (hwX.upto n.h hwX.lt).look q.2.1 q.2.2
    have hlen : (onL f pre).length < N := Nat.lt_of_le_of_lt (onL_len f pre) hlt
    have hon := onL_snoc f pre q
    cases hs : f q.1.1 q.1.2 with
    | none =>
      rw [hs] at hlook hon
      have HJ := hide hJX
      have Hon := hide hon
      clear hJX hs hon
      simp only [Option.getD_none, Option.isSome_none] at hlook
      gi_wp2_with fail
      refine wpIn_region_lat (by kernel_rfl) (by kernel_rfl) (by kernel_rfl) ?_
      repeat (refine wpQuietIn_step (fun _ _ _ _ => trivial) (fun K hK => ?_); go_simp; refine hK _ ?_; clear hK K)
      refine wpQuietIn_nil ?_
      rintro _ ⟨n1, rfl⟩
      gi_wp2_with fail
      refine ⟨fun f h => (by cases h), ?_⟩
      gi_wp2_with fail
      refine ⟨(keeps_below n1.h).from _, kB_below n1.h (by omega), ⟨⟨?_, hBX.trans (n1.h.mono (by omega))⟩, Nat.le_trans hzX n1.h.size⟩, boxed_upto bY n1.h bY.lt, (n1.h.block _ (Array.getElem?_eq_some_iff.1 rX).1).trans rX⟩
      rw [Hon.out]
      simp only [Option.toList_none, List.append_nil]
      exact own_below hJ HJ.out n1.h
    | some i =>
      rw [hs] at hlook hon
      have HJ := hide hJX
      have Hon := hide hon
      have HY := hide hY
      clear hJX hs hon hY
      simp only [Option.getD_some, Option.isSome_some] at hlook
      gi_wp2_with fail
      refine wpIn_region_lat (by kernel_rfl) (by kernel_rfl) (by kernel_rfl) ?_
      repeat (refine wpQuietIn_step (fun _ _ _ _ => trivial) (fun K hK => ?_); go_simp; refine hK _ ?_; clear hK K)
      refine wpQuietIn_nil ?_
      rintro _ ⟨n1, rfl⟩
      have bY1 := boxed_upto bY n1.h bY.lt
      have cY := bY1.cell
      obtain ⟨fn, tmps, asg, bd, hy, hR⟩ := HY.out (onL f pre) i n1.w (own_below hJ HJ.out n1.h) hlen
      dsimp only [encI] at hy
      gi_wp2_with fail
      refine ⟨fun h => (by cases h), ?_⟩
      refine (round_any _ hR).mono ?_
      rintro e Y ⟨hk, (⟨rfl, hJ3, hk3⟩ | ⟨rfl, hJx3⟩)⟩
      · have HJ3 := hide hJ3
        clear hJ3 hR hy
        have k1 : KeepI W.heap.size X Y := (KeepI.of_below n1.h).trans hk
        gi_wp2_with fail
        refine ⟨(k1.mono (by omega)).from, (k1.at (by omega) rX rfl).trans rX.symm, ⟨⟨?_, (hBX.trans (n1.h.mono (by omega))).trans hk3⟩, Nat.le_trans hzX k1.1⟩, k1.at (Nat.le_refl _) bY rfl, k1.at (by omega) rX rfl⟩
        rw [Hon.out]
        exact HJ3.out
      · have HJ3 := hide hJx3
        clear hJx3 hR hy
        have k1 : KeepI W.heap.size X Y := (KeepI.of_below n1.h).trans hk
        gi_wp2_with fail
        refine ⟨(k1.mono (by omega)).from, rfl, ?_⟩
        rw [Hon.out]
        exact HJ3.out
  case done =>
    rintro D xs X hD rfl ⟨⟨⟨hJX, hBX⟩, hzX⟩, bY, rX⟩ hK
    have HE := hide (hJ _ _ _ (some D) hJX (grownBy_putObj' X D (.deferred none)) (fun r e => by cases e; exact ⟨by omega, _, hK, rfl⟩))
    clear hJX
    gi_wp2_with fail
    refine ⟨by simp, .inl ⟨_, _, rfl, run_takeDeferred hK, ?_⟩⟩
    exact ⟨.tuple #[], by simp [results, Try.f60, go_sem], ⟨_, rfl⟩, .inl ⟨_, rfl, HE.out⟩⟩
  case stop =>
    rintro D c pre X hD hpre ⟨rfl, hJX⟩ hK
    have HE := hide (hJx _ _ _ (some D) hJX (grownBy_putObj' X D (.deferred none)) (fun r e => by cases e; exact ⟨by omega, _, hK, rfl⟩))
    clear hJX
    gi_wp2
    refine ⟨by simp, .inl ⟨_, _, rfl, run_takeDeferred hK, ?_⟩⟩
    exact ⟨.tuple #[], by simp [results, Try.f60, go_sem], ⟨_, rfl⟩, .inr ⟨_, onL_pre f hpre, HE.out⟩⟩
end Go.Proofs.Ytkodeopkgmichaa
namespace Go.Proofs.Ytkodeopkgmichaa
open Go.RowKit Go.Shelf
attribute [local go_sem] Oper.semAt_some
set_option linter.unusedVariables false
set_option linter.unusedSimpArgs false
set_option maxRecDepth 100000 in
set_option maxHeartbeats 4000000 in
theorem meeting_seqI (n p h fm bm m N : Nat) (l : List Bd) (f : Int → Int → Option Int) (x y a b : Int) (w : World) (hP : Boxed w h 24 (ptr p)) (hF : Four w (h + 1) x y a b) (hx : Ix w p fm bm l.length m (gOf l) f) (hs : Sorted l) (hi : ∀ t ∈ l, W64 t.id) (hN : l.length ≤ N) :
    SeqOwnI n 61 #[ptr h, ptr (h + 1)] encI (Below w.heap.size) (fun xs => ∃ L : List Bd, L.Perm l ∧ xs = mids L x y a b) (fun pre => ∀ j ∈ pre, j ∈ mids l x y a b) N w := fun lo J Jx W hW hJ hJx hY h0 => by
  refine callsIn_of_wp Try.func61 rfl trivial ?_ rfl
  simp only [Try.ntmps61, List.size_toArray, List.length_cons, List.length_nil, Nat.reduceAdd, Nat.reduceSub, Array.replicate_succ, Array.replicate_zero, List.push_toArray, List.append_toArray, List.nil_append, List.cons_append]
  have hpl := hx.lt
  have hfl := hx.feet.lt
  have hhl := hP.lt
  have hFl := hF.2.2
  have hsW := hW.size
  have xW := hx.upto hW (Nat.le_refl _)
  have PW := boxed_upto hP hW hhl
  have c0 := PW.cell
  have c1 := xW.c0
  obtain ⟨D, hown, hsz, hD⟩ := id xW.feet
  have HY := hide hY
  have HJ := hide hJ
  have HD := hide hD
  clear hY hD
  obtain ⟨w2, hrun, hrg0, hg2, hs2⟩ := hown.range law3 Try.underlying59
  gi_wp2_with fail
  have b2 : Below W.heap.size W w2 := ⟨hg2.os, hg2.tape, hg2.output, hg2.size, fun k hk => hg2.block k hk (by simp)⟩
  have hhas : ∀ t ∈ l, Maps.has D (.int .i64 t.id) = true := fun t ht => by rw [(HD.out t.id (hi t ht)).1, gOf_mem hs ht]; rfl
  have j2 := own_below hJ h0 b2
  have HJ2 := hide j2
  have HRG := hide hrg0
  have hb2w : Below w.heap.size w w2 := hW.trans (b2.mono hsW)
  have HB2 := hide hb2w
  clear hrun hrg0 hg2 c0 c1 j2 hb2w b2 hown xW PW
  gi_loopw [] (fun wr => ∃ (left : Lit → Bool) (cnt : Nat) (L : List Bd), wr.ranges Try.prog 3 rcElem fm W.heap.size l.length D left cnt ∧ (Come l L left ∧ ∀ kl, left kl = true → Maps.has D kl = true) ∧ J (mids L x y a b) wr ∧ Below w.heap.size w wr ∧ W.heap.size < wr.heap.size) (fun wr => wr.rangeLeft fm W.heap.size)
  case atStart => exact ⟨_, _, [], HRG.out, ⟨Come.start hhas, fun kl e => e⟩, HJ2.out, HB2.out, by omega⟩
  case round =>
    obtain ⟨left, cnt, L, hrg, ⟨hcm, hsub⟩, hj, hB, hzr⟩ := hrel
    rename World => wo
    rcases hrg.next law3 0 with ⟨hc0, hl0, hrun⟩ | ⟨key, vv, kl, yv, w3, cnt3, hkey, hlk, hv, hat, hrun, hrg3, hlt, hg3, hs3, hen⟩
    · have HFn : Hid (∃ L : List Bd, L.Perm l ∧ mids L x y a b = mids L x y a b ∧ J (mids L x y a b) wo) := hide ⟨L, hcm.done hl0, rfl, hj⟩
      clear hrg hcm hsub hB
      gi_wp2_with fail
      go_end0
      obtain ⟨L, q1, -, q3⟩ := HFn.out
      exact ⟨⟨_, rfl⟩, .inl ⟨_, ⟨L, q1, rfl⟩, q3⟩⟩
    · obtain ⟨u, rfl, rfl, hwx⟩ := Maps.keyOf_int_inv Try.underlying3 hkey
      obtain ⟨c, rfl, rfl⟩ := rcElem_inv hv
      have hgx : gOf l u = some c := by
        have h1 := (HD.out u hwx).1
        rw [hsub _ hlk] at h1
        have h2 := (HD.out u hwx).2
        rw [hat] at h2
        cases hq : gOf l u with
        | none => rw [hq] at h1; cases h1
        | some r => rw [hq] at h2; simp at h2; rw [Rc.d_inj h2]
      have hri : ∃ o : Obj, wo.heap[W.heap.size]? = some o ∧ o.isCells = false := by
        obtain ⟨_, _, _, _, _, _, _, _, _, e2, _⟩ := id hrg
        exact ⟨_, e2, rfl⟩
      have hj3 : J (mids L x y a b) w3 := HJ.out _ _ _ _ hj hg3 (fun r e => by cases e; exact ⟨Nat.le_refl _, hri⟩)
      have T3 : Turns (fun k => k = W.heap.size) wo w3 := Turns.of_grown hg3 (fun k e => by cases e; rfl)
      have hB3 : Below w.heap.size w w3 := hB.trans (T3.below (fun k e => by omega) hB.size)
      have b4 := box1 w3 (.cells #[.int .i64 c.x, .int .i64 c.y, .int .i64 c.a, .int .i64 c.b] 34)
      have F4 : Four (w3.alloc (.cells #[.int .i64 c.x, .int .i64 c.y, .int .i64 c.a, .int .i64 c.b] 34)) w3.heap.size c.x c.y c.a c.b := cells4 (Below.refl _ _)
      have hB4 : Below w.heap.size w (w3.alloc (.cells #[.int .i64 c.x, .int .i64 c.y, .int .i64 c.a, .int .i64 c.b] 34)) := hB3.trans (b4.mono hB3.size)
      have G4 := hF.kept hB4
      have hcm5 := hcm.step hs hgx hlk
      have hsub5 : ∀ kl, (left kl && !kl.sameKey (.int .i64 u)) = true → Maps.has D kl = true := fun kl e => by
        rw [Bool.and_eq_true] at e
        exact hsub kl e.1
      have hln := hcm5.len
      have hml := mids_len L x y a b
      have hmem : ⟨u, c⟩ ∈ l := gOf_some hgx
      obtain ⟨k0, k1, k2, k3, hkv⟩ := mtV_lit c.x c.y c.a c.b x y a b
      have HMt := hide (meet_any c.x c.y c.a c.b x y a b (w3.alloc (.cells #[.int .i64 c.x, .int .i64 c.y, .int .i64 c.a, .int .i64 c.b] 34)))
      rw [hkv] at HMt
      obtain ⟨⟨f0, f1, f2, f3⟩, -, -⟩ := id F4
      obtain ⟨⟨g0, g1, g2, g3⟩, -, -⟩ := id G4
      have hone := mids_snoc L ⟨u, c⟩ x y a b
      have hML : Hid (∀ j ∈ mids (L ++ [⟨u, c⟩]) x y a b, j ∈ mids l x y a b) := hide (fun j hj => by
        obtain ⟨t, ht, rfl⟩ := List.mem_map.1 hj
        obtain ⟨h1, h2⟩ := List.mem_filter.1 ht
        exact List.mem_map.2 ⟨t, List.mem_filter.2 ⟨hcm5.mem h1, h2⟩, rfl⟩)
      have HJ3 := hide hj3
      have HR3 := hide hrg3
      have HB4 := hide hB4
      have HRo := hide hrg
      have HLt := hide hlt
      have HC5 := hide (show Come l (L ++ [⟨u, c⟩]) (fun z => left z && !z.sameKey (.int .i64 u)) ∧ ∀ kl, (left kl && !kl.sameKey (.int .i64 u)) = true → Maps.has D kl = true from ⟨hcm5, hsub5⟩)
      have HOne := hide hone
      rw [List.length_append, List.length_singleton] at hln
      clear hj hj3 hrg hrg3 hcm hcm5 hsub hsub5 hB hB3 hB4 T3 hg3 F4 G4 b4 hkey hv hat hri hkv hone hmem hgx
      cases hb : mtB c.x c.y c.a c.b x y a b
      · rw [hb] at HMt
        have HBf := hide hb
        clear hb
        gi_wp2_with fail
        refine ⟨trivial, fun h => (by cases h), ?_⟩
        refine (callsIn_wide.2 HMt.out).mono ?_
        rintro e w5 ⟨rfl, hb5⟩
        obtain ⟨W6, hW6⟩ : ∃ W6, w5.alloc (.cells #[.int .i64 k0, .int .i64 k1, .int .i64 k2, .int .i64 k3] 34) = W6 := ⟨_, rfl⟩
        have b6 : Below w3.heap.size w3 W6 := bt (box1 _ _) (bt hb5 (by rw [← hW6]; exact box1 _ _))
        have hB6 : Below w.heap.size w W6 := HB4.out.trans ((bt hb5 (by rw [← hW6]; exact box1 _ _)).mono HB4.out.size)
        have hrg6 := ranges_same HR3.out (b6.block fm (by omega)) (b6.block W.heap.size (by omega))
        have hj6 := own_below HJ.out HJ3.out b6
        have hz6 := b6.size
        have HB6 := hide hB6
        have HR6 := hide hrg6
        have HW6 := hide hW6
        clear hb5 b6 hB6 hrg6 hW6 HMt
        have HJ6 := hide hj6
        clear hj6
        gi_wp2_with (rw [HW6.out])
        refine ⟨fun f h => (by cases h), ?_⟩
        gi_wp2_with fail
        go_roundw
        case rel =>
          refine ⟨_, _, L ++ [⟨u, c⟩], HR6.out, HC5.out, ?_, HB6.out, by omega⟩
          rw [HOne.out]
          simp only [HBf.out, Bool.false_eq_true, if_false, List.append_nil]
          exact HJ6.out
        case measure => rw [HR6.out.left_eq, HRo.out.left_eq]; exact HLt.out
      · rw [hb] at HMt
        have HBf := hide hb
        clear hb
        gi_wp2_with fail
        refine ⟨trivial, fun h => (by cases h), ?_⟩
        refine (callsIn_wide.2 HMt.out).mono ?_
        rintro e w5 ⟨rfl, hb5⟩
        obtain ⟨W6, hW6⟩ : ∃ W6, w5.alloc (.cells #[.int .i64 k0, .int .i64 k1, .int .i64 k2, .int .i64 k3] 34) = W6 := ⟨_, rfl⟩
        have b6 : Below w3.heap.size w3 W6 := bt (box1 _ _) (bt hb5 (by rw [← hW6]; exact box1 _ _))
        have hB6 : Below w.heap.size w W6 := HB4.out.trans ((bt hb5 (by rw [← hW6]; exact box1 _ _)).mono HB4.out.size)
        have hrg6 := ranges_same HR3.out (b6.block fm (by omega)) (b6.block W.heap.size (by omega))
        have hj6 := own_below HJ.out HJ3.out b6
        have hz6 := b6.size
        have HB6 := hide hB6
        have HR6 := hide hrg6
        have HW6 := hide hW6
        clear hb5 b6 hB6 hrg6 hW6 HMt
        obtain ⟨fn, tmps, assign, body, hy, hRd⟩ := HY.out (mids L x y a b) u W6 hj6 (by omega)
        dsimp only [encI] at hy
        have HRd := hide hRd
        clear hj6 hRd
        gi_wp2_with (rw [HW6.out])
        refine ⟨fun h => (by cases h), ?_⟩
        refine HRd.out.mono ?_
        rintro e W7 ⟨hk7, (⟨rfl, hJ7, hKp7⟩ | ⟨rfl, hJx7⟩)⟩
        · have HJ7 := hide hJ7
          have hrg7 := ranges_same HR6.out (hKp7.block fm (by omega)) (by obtain ⟨es, clock, since, seen, cc, -, -, -, -, hwk, -⟩ := HR6.out; exact (hk7.at (Nat.le_refl _) hwk rfl).trans hwk.symm)
          have HR7 := hide hrg7
          have HB7 := hide (HB6.out.trans hKp7)
          have hz7 := hk7.1
          clear hJ7 hrg7 hKp7 hk7 hy
          gi_wp2_with fail
          go_roundw
          case rel =>
            refine ⟨_, _, L ++ [⟨u, c⟩], HR7.out, HC5.out, ?_, HB7.out, by omega⟩
            rw [HOne.out]
            simp only [HBf.out, if_true]
            exact HJ7.out
          case measure => rw [HR7.out.left_eq, HRo.out.left_eq]; exact HLt.out
        · have HJx := hide hJx7
          clear hJx7 hk7 hy
          gi_wp2_with fail
          refine bodyPost_ret (results_none rfl _ _ _) rfl ?_
          refine ⟨⟨_, rfl⟩, .inr ⟨_, ?_, HJx.out⟩⟩
          have h9 := hML.out
          rw [HOne.out] at h9
          simpa only [HBf.out, if_true] using h9
end Go.Proofs.Ytkodeopkgmichaa
namespace Go.Proofs.Ytkodeopkgmichaa
open Go.RowKit Go.Shelf
set_option linter.unusedVariables false
set_option linter.unusedSimpArgs false
attribute [local go_sem] Oper.semAt_some
theorem wpListIn_append_run {F : Fence} {nF : Nat} {P : Program} {w : World} {ops : Array Oper} {rest : List Oper} {o : Oper} {a : Act} {Q : Exit → Act → World → Prop}
    (hgd : o.guard = none) (s x : Operand) (t : TypeId) (ho : o.op = .call { callee := .builtin .append, args := #[s, x], argTypes := #[t, t] })
    (v xv : Value) (hs : a.eval s = v) (hx : a.eval x = xv) {v' : Value} {w' : World} (hr : (Builtin.append_ #[t, t] o.type #[v, xv]).run P w = .ok v' w') (h : wpListIn F nF P ops Q rest (a.put o.dst v') w') :
    wpListIn F nF P ops Q (o :: rest) a w := by
  refine wpListIn_plain hgd fun K hK => ?_
  unfold Oper.wpIn
  refine ⟨by simp [Oper.about, ho, resolve, Target.leads, Sem.run_pure], ?_⟩
  rw [Oper.semAt_plain F _ _ (by rw [ho]; intro c hc'; cases hc')]
  simp [execOp, ho, resolve, invoke, builtin, hs, hx, hr, Result.andThen]
  exact hK _ _ h
/-- The slice v reads as the ints xs. -/
def Nn (w : World) (v : Value) (xs : List Int) : Prop := w.ownsRow 0 3 1 v xs.length (xs.map (Value.int .i64))
theorem info3 : (Try.prog.info? 3).map (fun i => (i.zero, i.size, i.bytes)) = some (some (.int .i64 0), 1, 8) := by kernel_rfl
theorem one_int {xs : List Int} : ∀ u ∈ xs.map (Value.int .i64), u.oneCell' = true := by
  intro u hu
  obtain ⟨t, _, rfl⟩ := List.mem_map.1 hu
  rfl
theorem Nn.append {w : World} {v : Value} {xs : List Int} (h : Nn w v xs) (t : Int) (hlen : xs.length ≤ 1000) :
    ∃ v' w', (Builtin.append_ #[45, 45] 45 #[v, .slice (some ⟨w.heap.size, 0, none⟩) 1 1]).run Try.prog (w.alloc (.cells #[.int .i64 t] 3)) = .ok v' w' ∧ Nn w' v' (xs ++ [t]) ∧ (w.alloc (.cells #[.int .i64 t] 3)).grownBy w' v.ownBlock ∧ (v'.ownBlock = v.ownBlock ∨ ∃ k, v'.ownBlock = some k ∧ w.heap.size ≤ k) := by
  obtain ⟨fi, hf, hz, h1, h8⟩ := info_parts info3
  obtain ⟨v', w', q1, q2, q3, q4, q5⟩ := run_append_own_at (P := Try.prog) (w.alloc (.cells #[.int .i64 t] 3)) 0 45 45 3 fi (.int .i64 0) 1 8 Try.underlying45 hf hz h1 h8 rfl (by decide) v xs.length _ (World.ownsRow.alloc h _) ⟨w.heap.size, 0, none⟩ 1 1 [.int .i64 t] rfl (fun j u hu => by
      rw [Addr.add_lit, Nat.zero_add, cell_of_row _ w.heap.size j _ _ _ (heap_alloc_new w _)]
      simpa using hu) (by intro u hu; simp at hu; subst hu; rfl) (by unfold maxLen; omega) (by omega) (Nat.zero_le _)
  refine ⟨v', w', q1, ?_, q3, q5.imp id (fun e => ⟨_, e, by simp⟩)⟩
  unfold Nn
  rw [List.map_append, List.length_append]
  simpa using q2
theorem Nn.block {w : World} {v : Value} {xs : List Int} (h : Nn w v xs) {k : Nat} (hk : v.ownBlock = some k) : ∃ cur, w.heap[k]? = some (.cells cur 3) := by
  rcases h.2 with ⟨e, _⟩ | ⟨g, cap, cur, e, hb, hg, r⟩
  · rw [e] at hk; simp [Value.ownBlock] at hk
  · rw [e] at hk
    simp [Value.ownBlock] at hk
    subst hk
    exact ⟨cur, hg⟩
theorem Nn.form {w : World} {v : Value} {xs : List Int} (h : Nn w v xs) : (v = .slice none 0 0 ∧ xs = []) ∨ ∃ g cap cur, v = .slice (some ⟨g, 0, none⟩) xs.length cap ∧ w.heap[g]? = some (.cells cur 3) ∧ xs.length ≤ cap ∧ cap ≤ maxLen ∧ cur.size = cap * 1 ∧ cur.toList.take xs.length = xs.map (Value.int .i64) := by
  rcases h.2 with ⟨e, h0⟩ | ⟨g, cap, cur, e, hb, hg, h1, h2, h3, h4⟩
  · exact .inl ⟨e, by simpa using h0⟩
  · exact .inr ⟨g, cap, cur, e, hg, by simpa using h1, h2, h3, by simpa using h4⟩
theorem Nn.slice {w : World} {v : Value} {xs : List Int} (h : Nn w v xs) : ∃ a n c, v = .slice a n c := by
  rcases h.form with ⟨e, -⟩ | ⟨g, cap, cur, e, -⟩
  · exact ⟨_, _, _, e⟩
  · exact ⟨_, _, _, e⟩
/-- What the loop of AppendSeq keeps. -/
structure Gt (w X : World) (v : Value) (pre : List Int) : Prop where
  nn : Nn X v pre
  own : ∀ k, v.ownBlock = some k → w.heap.size < k
  bx : Boxed X w.heap.size 45 v
  below : Below w.heap.size w X
theorem Gt.own_from {w : World} {B : Nat} (hB : w.heap.size ≤ B) : OwnFrom B (fun pre X => ∃ v, Gt w X v pre) := by
  rintro pre X Y row ⟨v, h⟩ hg hr
  have hc : ∀ k, row = some k → ∃ o : Obj, X.heap[k]? = some o ∧ o.isCells = false := fun k e => (hr k e).2
  have T : Turns (fun k => row = some k) X Y := Turns.of_grown hg (fun k e => e)
  have hb : row ≠ some w.heap.size := fun e => by
    obtain ⟨o, ho, hn⟩ := hc _ e
    rw [show X.heap[w.heap.size]? = _ from h.bx] at ho
    cases ho
    cases hn
  refine ⟨v, row_kept h.nn T (fun k e q => ?_), h.own, boxed_kept h.bx T hb, ?_⟩
  · obtain ⟨cur, hk⟩ := h.nn.block e
    obtain ⟨o, ho, hn⟩ := hc k q
    rw [hk] at ho
    cases ho
    cases hn
  · exact ownFrom_below (β := Unit) (Nat.le_refl _) hB () X Y row h.below hg hr
theorem Gt.push {w X : World} {v : Value} {pre : List Int} (h : Gt w X v pre) (t : Int) (hlen : pre.length ≤ 1000) {B : Nat} (hB : w.heap.size < B) :
    ∃ v' Y, (Builtin.append_ #[45, 45] 45 #[v, .slice (some ⟨X.heap.size, 0, none⟩) 1 1]).run Try.prog (X.alloc (.cells #[.int .i64 t] 3)) = .ok v' Y ∧ (∃ a n c, v' = .slice a n c) ∧ Y.cell? ⟨w.heap.size, 0, none⟩ = some v ∧ Y.frozen? ⟨w.heap.size, 0, none⟩ = false ∧
      KeepI B X (Y.setCell ⟨w.heap.size, 0, none⟩ v') ∧ Below w.heap.size X (Y.setCell ⟨w.heap.size, 0, none⟩ v') ∧ Gt w (Y.setCell ⟨w.heap.size, 0, none⟩ v') v' (pre ++ [t]) := by
  obtain ⟨v', Y, r1, n1, g1, o1⟩ := h.nn.append t hlen
  have b1 := box1 X (.cells #[.int .i64 t] 3)
  have hsz := h.below.size
  have hlt := h.bx.lt
  have T1 : Turns (fun k => v.ownBlock = some k) X Y := (Turns.of_below b1).trans ((Turns.of_grown (S := fun k => v.ownBlock = some k) g1 (fun k e => e)).mono (fun k _ e => .inl e))
  have hb : v.ownBlock ≠ some w.heap.size := fun e => by have := h.own _ e; omega
  have bY := boxed_kept h.bx T1 hb
  have T2 : Turns (fun k => k = w.heap.size) Y (Y.setCell ⟨w.heap.size, 0, none⟩ v') := Turns.set (S := fun k => k = w.heap.size) _ rfl _
  have own' : ∀ k, v'.ownBlock = some k → w.heap.size < k := fun k e => by
    rcases o1 with q | ⟨k', q, hk⟩
    · exact h.own k (q ▸ e)
    · rw [q] at e; cases e; omega
  have bl : Below w.heap.size X (Y.setCell ⟨w.heap.size, 0, none⟩ v') := (T1.below (fun k e => Nat.le_of_lt (h.own k e)) hsz).trans (T2.below (fun k e => by omega) (by have := T1.size; omega))
  refine ⟨v', Y, r1, n1.slice, bY.cell, bY.frozen, ⟨Nat.le_trans T1.size T2.size, fun k o hk ho hn => ?_⟩, bl, ⟨row_kept n1 T2 (fun k e q => by have := own' k e; omega), own', bY.set _, h.below.trans bl⟩⟩
  have hv : v.ownBlock ≠ some k := fun e => by
    obtain ⟨cur, hk2⟩ := h.nn.block e
    rw [ho] at hk2
    cases hk2
    cases hn
  exact T2.same (by omega) (T1.same hv ho)
theorem Nn.nil (w : World) : Nn w (.slice none 0 0) [] := ⟨rfl, .inl ⟨rfl, rfl⟩⟩
set_option maxRecDepth 100000 in
set_option maxHeartbeats 4000000 in
theorem gather_any {g : Nat} {lb : Array Value} {S Sp : List Int → Prop} {N : Nat} {w : World} (eg : ∀ args w, (callFunc g args).run Try.prog w = .ok (.enter g args) w) (hseq : SeqOwnI (10 - 1) g lb encI (Below w.heap.size) S Sp N w) (hN : N ≤ 1000) :
    Calls Try.prog 57 #[.slice none 0 0, .func (.func g) #[] lb] w fun e w' => ∃ v xs, e = .returned v ∧ S xs ∧ Nn w' v xs ∧ (∀ k, v.ownBlock = some k → w.heap.size ≤ k) ∧ Below w.heap.size w w' := by
  refine (callsIn_wide (n := 10)).1 ?_
  refine callsIn_of_wp_marks Try.func57 rfl trivial ?_ rfl
  simp only [Try.ntmps57, List.size_toArray, List.length_cons, List.length_nil, Nat.reduceAdd, Nat.reduceSub, Array.replicate_succ, Array.replicate_zero, List.push_toArray, List.append_toArray, List.nil_append, List.cons_append]
  obtain ⟨X, hX⟩ : ∃ X, w.alloc (.cells #[.slice none 0 0] 45) = X := ⟨_, rfl⟩
  have bX : Below w.heap.size w X := hX ▸ box1 _ _
  have zX : X.heap.size = w.heap.size + 1 := by rw [← hX]; simp
  have mX : Boxed X w.heap.size 45 (.slice none 0 0) := hX ▸ Boxed.new w 45 _
  gi_wp2_with (rw [hX])
  clear hX
  refine range_nestI (n := 10) (by omega) (gf := g) (lb := lb) rfl eg hseq (fun h k => h.trans k) (belowK_b (by omega)) bX (fun _ => rfl)
    (fun pre Y => ∃ v, Gt w Y v pre) (fun _ _ => False) (Gt.own_from (by omega)) (fun _ _ _ _ h _ _ => h.elim)
    ⟨_, Nn.nil _, fun k e => by simp [Value.ownBlock] at e, mX, bX⟩
    (fun j a' Y => a' = { tmps := #[.slice none 0 0, .func (.func g) #[] lb, ptr w.heap.size, undef, .slice none 0 0, .int .i64 j, .func (.func g) #[] lb, .int .i64 j, undef, undef, undef, undef, undef], defers := [] })
    (fun j a' _ Y Z row hs hg hr => hs)
    ?assign ?body ?done ?stop
  case assign =>
    rintro lo pre j Y K hI hK
    gi_wp2
    exact hK _ _ (KeepI.refl _ _) (Below.refl _ _) hI rfl
  case body =>
    rintro lo pre j a' Y hlo ⟨v, hG⟩ rfl hlt
    obtain ⟨v2, Z, rA, ⟨a2, n2, c2, rfl⟩, c1, f1, hk, hb, hG2⟩ := hG.push j (by omega) (B := X.heap.size) (by omega)
    have cv := hG.bx.cell
    have HA := hide rA
    have HE := hide (show KeepI X.heap.size Y (Z.setCell ⟨w.heap.size, 0, none⟩ (.slice a2 n2 c2)) ∧ Below w.heap.size Y (Z.setCell ⟨w.heap.size, 0, none⟩ (.slice a2 n2 c2)) ∧ ∃ v, Gt w (Z.setCell ⟨w.heap.size, 0, none⟩ (.slice a2 n2 c2)) v (pre ++ [j]) from ⟨hk, hb, _, hG2⟩)
    obtain ⟨a1, n1, c3, hv1⟩ := hG.nn.slice
    subst hv1
    have d1 : (Y.alloc (.cells #[.int .i64 j] 3)).cell? ⟨w.heap.size, 0, none⟩ = some (.slice a1 n1 c3) := ((box1 Y _).cell (p := ⟨w.heap.size, 0, none⟩) hG.bx.lt).trans cv
    clear rA hk hb hG2 hG
    gi_wp2_with (gi_at_builtin; refine wpListIn_append_run rfl _ _ 45 rfl _ _ rfl rfl HA.out ?_)
    exact HE.out
  case done =>
    rintro D xs Y hD hS ⟨v, hG⟩ hK
    have cv := hG.bx.cell
    obtain ⟨a1, n1, c3, hv1⟩ := hG.nn.slice
    subst hv1
    have HG := hide hG
    clear hG
    gi_wp2_with fail
    refine ⟨by simp, .inl ⟨_, _, rfl, run_takeDeferred hK, ?_⟩⟩
    have tp : Turns (fun k => k = D) Y (Y.putObj D (.deferred none)) := turns_put _ _ _ rfl
    refine ⟨.slice a1 n1 c3, by simp [results, Try.f57, go_sem], _, xs, rfl, hS, row_kept HG.out.nn tp (fun k e q => ?_), fun k e => Nat.le_of_lt (HG.out.own k e), HG.out.below.trans (tp.below (fun k e => by omega) HG.out.below.size)⟩
    obtain ⟨cur, hk⟩ := HG.out.nn.block e
    subst q
    rw [hK] at hk
    cases hk
  case stop => exact fun D pre Y hD hp h hK => h.elim
end Go.Proofs.Ytkodeopkgmichaa
