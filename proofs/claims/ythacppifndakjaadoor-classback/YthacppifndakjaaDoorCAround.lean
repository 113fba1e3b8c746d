/-
  A range over a function that itself ranges over another one: what such a function promises, and the loop over it. Around of the package: it ranges over the neighbours, and tells those that may be stepped to.
-/
import Derived.Test.YthacppifndakjaaDoorCellsSeq
import Derived.Test.YthacppifndakjaaDoorLegalSteps
import Derived.Test.YthacppifndakjaaDoorAwake
namespace Go.Proofs.YthacppifndakjaaDoor
open Go.RowKit Go.Shelf
set_option linter.unusedVariables false
/-- What lay from block B on lies as it lay. -/
def Keep (B : Nat) (W W' : World) : Prop := W.heap.size ≤ W'.heap.size ∧ ∀ k, B ≤ k → k < W.heap.size → W'.heap[k]? = W.heap[k]?
theorem Keep.refl (B : Nat) (W : World) : Keep B W W := ⟨Nat.le_refl _, fun _ _ _ => rfl⟩
theorem Keep.trans {B : Nat} {X Y Z : World} (h : Keep B X Y) (k : Keep B Y Z) : Keep B X Z := ⟨Nat.le_trans h.1 k.1, fun i hi hl => (k.2 i hi (Nat.lt_of_lt_of_le hl h.1)).trans (h.2 i hi hl)⟩
theorem Keep.mono {B C : Nat} {X Y : World} (h : Keep B X Y) (hB : B ≤ C) : Keep C X Y := ⟨h.1, fun i hi => h.2 i (Nat.le_trans hB hi)⟩
theorem Keep.at {B : Nat} {X Y : World} (h : Keep B X Y) {k : Nat} {o : Obj} (hB : B ≤ k) (hk : X.heap[k]? = some o) : Y.heap[k]? = some o := (h.2 k hB (Array.getElem?_eq_some_iff.1 hk).1).trans hk
theorem Keep.from {B : Nat} {X Y : World} (h : Keep B X Y) : KeepsFrom B X Y := ⟨h.1, fun k o hB hk _ => h.at hB hk⟩
theorem Keep.of_below {B : Nat} {X Y : World} (h : Below X.heap.size X Y) : Keep B X Y := ⟨h.size, fun k _ hk => h.block k hk⟩
theorem Keep.put {B : Nat} (X : World) {l : Nat} (o : Obj) (hl : l < B) : Keep B X (X.putObj l o) := ⟨by simp, fun k hB _ => World.putObj_heap_other (by omega)⟩
theorem Keep.set {B : Nat} (X : World) {p : Addr} (u : Value) (hp : p.block < B) : Keep B X (X.setCell p u) := ⟨by simp [World.setCell], fun k hB _ => Below.heap_setCell _ _ _ _ (by omega)⟩
/-- What an iterator promises that may keep records of its own: the rounds leave what it has laid. -/
def SeqOwn {α : Type} (n : Nat) (g : Nat) (lb : Array Value) (encs : α → Array Value) (Kp : World → World → Prop) (S Sp : List α → Prop) (N : Nat) (w : World) : Prop :=
  ∀ (l : Nat) (J Jx : List α → World → Prop) (W : World), Below w.heap.size w W → OwnFrom W.heap.size J → OwnFrom W.heap.size Jx →
    (∀ pre x X, J pre X → pre.length < N → YieldAt Fence.wide (n - 1) Tryd.prog l (encs x) X fun e Y =>
      Keep W.heap.size X Y ∧ ((e = .returned (.bool true) ∧ J (pre ++ [x]) Y ∧ Kp X Y) ∨ (e = .returned (.bool false) ∧ Jx (pre ++ [x]) Y))) →
    J [] W →
    CallsIn Fence.wide n Tryd.prog g (#[.func (.yield l) #[] #[]] ++ lb) W fun e Y => (∃ v, e = .returned v) ∧ ((∃ xs, S xs ∧ J xs Y) ∨ (∃ pre, Sp pre ∧ Jx pre Y))
def nestPost {α : Type} (B : Nat) (Kp : World → World → Prop) (I Ix : List α → World → Prop) (xs : List α) (X : World) : Exit → Act → World → Prop
  | .normal, _, Y => Keep B X Y ∧ Kp X Y ∧ I xs Y
  | .ret, _, Y => Keep B X Y ∧ Ix xs Y
  | _, _, _ => False
theorem range_nest {α : Type} {n : Nat} {g : Operand} {ps : Array Tmp} {assign body : Code} {Q : Exit → Act → World → Prop} {a : Act} {w w0 : World} (h1 : 1 ≤ n) {gf : Nat} {lb : Array Value}
    (hg : a.eval g = .func (.func gf) #[] lb) (eg : ∀ args w, (callFunc gf args).run Tryd.prog w = .ok (.enter gf args) w)
    {encs : α → Array Value} {Kp : World → World → Prop} {S Sp : List α → Prop} {N : Nat} (hseq : SeqOwn (n - 1) gf lb encs Kp S Sp N w0)
    (hKt : ∀ {A B C : World}, Kp A B → Kp B C → Kp A C) (hKb : ∀ (W : World) (l : Nat) (o o' : Obj), w.heap.size ≤ l → W.heap[l]? = some o → o.isCells = false → o.isWalk = false → Kp W (W.putObj l o'))
    (hb0 : Below w0.heap.size w0 w) (hps : ∀ x, (encs x).size = ps.size)
    (I Ix : List α → World → Prop) (hI : OwnFrom w.heap.size I) (hIx : OwnFrom w.heap.size Ix) (h0 : I [] w) (Ax : α → Act → World → Prop) (hAx : ∀ x a', OwnFrom w.heap.size (fun (_ : Unit) W => Ax x a' W))
    (hassign : ∀ (l : Nat) (pre : List α) (x : α) (W : World) (K : Act → World → Prop), I pre W → (∀ a' W', Keep w.heap.size W W' → Kp W W' → I pre W' → Ax x a' W' → K a' W') →
      assign.wpIn (Fence.wide.inRound l) (n - 1 - 1) Tryd.prog (Exit.then K (fun _ _ _ => False)) { tmps := (ps.zip (encs x)).foldl (fun t (p, v) => t.setIfInBounds p v) a.tmps, defers := [] } W)
    (hbody : ∀ (l : Nat) (pre : List α) (x : α) (a' : Act) (W : World), w.heap.size ≤ l → I pre W → Ax x a' W → pre.length < N → body.wpIn (Fence.wide.inRound l) (n - 1 - 1) Tryd.prog (nestPost w.heap.size Kp I Ix (pre ++ [x]) W) a' W)
    (hdone : ∀ (D : Nat) (xs : List α) (W : World), w.heap.size ≤ D → S xs → I xs W → W.heap[D]? = some (.deferred (some [])) → Q .normal { a with defers := { target := .collected D, args := #[] } :: a.defers } W)
    (hstop : ∀ (D : Nat) (pre : List α) (W : World), w.heap.size ≤ D → Sp pre → Ix pre W → W.heap[D]? = some (.deferred (some [])) → Code.ret.wpIn Fence.wide n Tryd.prog Q { a with defers := { target := .collected D, args := #[] } :: a.defers } W) :
    (Code.rangeFunc g ps assign body).wpIn Fence.wide n Tryd.prog Q a w := by
  refine wpIn_rangeFunc (fun fn hfn => ?_)
  generalize hrc : (fun st pe => ({ state := st, pending := pe, fn := fn, tmps := a.tmps, params := ps, assign := assign, body := body, defers := w.heap.size } : Loop)) = rc
  generalize hV : (w.alloc (.deferred (some []))).alloc (.loop (rc .ready none)) = V
  have zV : V.heap.size = w.heap.size + 1 + 1 := by rw [← hV]; simp
  have bV : Below w.heap.size w V := by rw [← hV]; exact box2 _ _ _
  have lV : V.heap[w.heap.size + 1]? = some (.loop (rc .ready none)) := by rw [← hV]; have := World.alloc_heap_new (w.alloc (.deferred (some []))) (.loop (rc .ready none)); rwa [World.size_alloc] at this
  have dV : V.heap[w.heap.size]? = some (.deferred (some [])) := by rw [← hV]; exact (Below.heap_alloc _ _ _ (by simp)).trans (World.alloc_heap_new w _)
  have iV : I [] V := hI _ _ _ none h0 (below_grown bV) (fun r e => by cases e)
  -- the records, in whatever state the loop is
  let Bk : LoopState → Option Code → World → Prop := fun st pe X => X.heap[w.heap.size + 1]? = some (.loop (rc st pe)) ∧ X.heap[w.heap.size]? = some (.deferred (some []))
  have ownB : ∀ st pe, OwnFrom V.heap.size (fun (_ : List α) X => Bk st pe X) := fun st pe s X Y row hs hgr hr =>
    ⟨(hgr.block _ (Array.getElem?_eq_some_iff.1 hs.1).1 (fun e => by have := (hr _ e.symm).1; omega)).trans hs.1, (hgr.block _ (Array.getElem?_eq_some_iff.1 hs.2).1 (fun e => by have := (hr _ e.symm).1; omega)).trans hs.2⟩
  have wide : ∀ {J : List α → World → Prop}, OwnFrom w.heap.size J → OwnFrom V.heap.size J := fun h s X Y row hs hgr hr => h s X Y row hs hgr (fun r e => ⟨by have := (hr r e).1; omega, (hr r e).2⟩)
  have turn : ∀ {X : World} {st pe} (st' : LoopState) (pe' : Option Code), Bk st pe X → Bk st' pe' (X.putObj (w.heap.size + 1) (.loop (rc st' pe'))) := fun st' pe' h =>
    ⟨World.putObj_heap_same (Array.getElem?_eq_some_iff.1 h.1).1, (World.putObj_heap_other (by omega)).trans h.2⟩
  refine ⟨w.heap.size + 1, [{ target := .collected w.heap.size, args := #[] }], V, { target := .fn (.func gf) lb, args := #[.func (.yield (w.heap.size + 1)) #[] #[]] }, V, gf, #[.func (.yield (w.heap.size + 1)) #[] #[]] ++ lb, V, ?_, ?_, fun _ _ => trivial, ?_, fun _ => h1, ?_⟩
  · rw [← hV, ← hrc]; exact run_enterLoop_outer _ _ _ _ _
  · simp only [resolve, hg]; simp [go_sem]
  · simp [invoke, go_sem, eg]
  refine (hseq (w.heap.size + 1) (fun pre X => I pre X ∧ Bk .ready none X) (fun pre X => Ix pre X ∧ Bk .done (some .ret) X) V (hb0.trans (bV.mono hb0.size))
    (OwnFrom.and (wide hI) (ownB _ _)) (OwnFrom.and (wide hIx) (ownB _ _)) ?_ ⟨iV, lV, dV⟩).mono ?_
  · rintro pre x X ⟨iX, bX⟩ hlen
    have hy := run_yield (P := Tryd.prog) (args := encs x) bX.1 (by rw [← hrc]; exact hps x)
    rw [← hrc] at hy
    refine ⟨fn, _, assign, body, hy, roundIn_of_wpIn trivial (hassign _ pre x X _ iX ?_)⟩
    intro a' Y kY kpY iY axY
    have bY : Bk .ready none Y := ⟨kY.at (by omega) bX.1, kY.at (Nat.le_refl _) bX.2⟩
    refine ⟨_, run_beginRound bY.1 (by rw [← hrc]), ?_⟩
    rw [show (Obj.loop { rc .ready none with state := .busy }) = .loop (rc .busy none) by rw [← hrc]]
    have bZ := turn .busy none bY
    refine wpIn_mono (hbody _ pre x a' _ (by omega) (hI.putObj _ iY (by omega) bY.1 rfl) ((hAx x a').putObj (s := ()) _ axY (by omega) bY.1 rfl) hlen) ?_
    have fin : ∀ (j : Option Code) (U : World), Keep w.heap.size (Y.putObj (w.heap.size + 1) (.loop (rc .busy none))) U →
        (Instr.endRound (w.heap.size + 1) j).run Tryd.prog U = .ok (.bool j.isNone) (U.putObj (w.heap.size + 1) (.loop (rc (if j.isNone then .ready else .done) j))) ∧ Bk .busy none U := fun j U kU => by
      have bU : Bk .busy none U := ⟨kU.at (by omega) bZ.1, kU.at (Nat.le_refl _) bZ.2⟩
      refine ⟨?_, bU⟩
      have := run_endRound (P := Tryd.prog) j bU.1
      rw [← hrc] at this ⊢
      exact this
    have kept : ∀ {U : World} (o : Obj), Keep w.heap.size (Y.putObj (w.heap.size + 1) (.loop (rc .busy none))) U → Keep V.heap.size X (U.putObj (w.heap.size + 1) o) := fun o kU =>
      ((kY.mono (by omega)).trans (Keep.put _ _ (by omega))).trans ((kU.mono (by omega)).trans (Keep.put _ _ (by omega)))
    rintro e a3 U hp
    cases e with
    | normal =>
      obtain ⟨kU, kpU, iU⟩ := hp
      obtain ⟨hr, bU⟩ := fin none U kU
      exact ⟨_, _, hr, kept _ kU, .inl ⟨rfl, ⟨hI.putObj _ iU (by omega) bU.1 rfl, turn _ _ bU⟩, hKt kpY (hKt (hKt (hKb _ _ _ _ (by omega) bY.1 rfl rfl) kpU) (hKb _ _ _ _ (by omega) bU.1 rfl rfl))⟩⟩
    | ret =>
      obtain ⟨kU, iU⟩ := hp
      obtain ⟨hr, bU⟩ := fin (some .ret) U kU
      exact ⟨_, _, hr, kept _ kU, .inr ⟨rfl, hIx.putObj _ iU (by omega) bU.1 rfl, turn _ _ bU⟩⟩
    | exit id => exact hp.elim
    | goto t => exact hp.elim
    | panic ch => exact hp.elim
    | outgrown => exact hp.elim
  · rintro e U ⟨⟨v, rfl⟩, (⟨xs, hS, iU, bU⟩ | ⟨pre, hS, iU, bU⟩)⟩
    · refine ⟨none, _, ?_, hdone _ xs _ (Nat.le_refl _) hS (hI.putObj (.loop (rc .exhausted none)) iU (by omega) bU.1 rfl) (turn .exhausted none bU).2⟩
      have := run_endLoop (P := Tryd.prog) bU.1 (by rw [← hrc]; simp)
      rw [← hrc] at this ⊢
      exact this
    · refine ⟨some .ret, _, ?_, hstop _ pre _ (Nat.le_refl _) hS (hIx.putObj (.loop (rc .exhausted (some .ret))) iU (by omega) bU.1 rfl) (turn .exhausted (some .ret) bU).2⟩
      have := run_endLoop (P := Tryd.prog) bU.1 (by rw [← hrc]; simp)
      rw [← hrc] at this ⊢
      exact this
end Go.Proofs.YthacppifndakjaaDoor
namespace Go.Proofs.YthacppifndakjaaDoor
open Go.RowKit Go.Shelf
set_option linter.unusedVariables false
attribute [local go_sem] Oper.semAt_some
theorem round_any {m m' l : Nat} {f : FuncId} {tmps : Array Value} {assign body : Code} {w : World} {R : Ending → World → Prop} (l' : Nat) (h : RoundIn Fence.wide m Tryd.prog l f tmps assign body w R) :
    RoundIn (Fence.wide.inRound l') m' Tryd.prog l f tmps assign body w R := ⟨h.1, fun c cs _ => h.2 c cs (fun d hd => by cases hd)⟩
theorem own_below {β : Type} {B : Nat} {J : β → World → Prop} (hJ : OwnFrom B J) {s : β} {W W' : World} (hs : J s W) (h : Below W.heap.size W W') : J s W' := hJ s W W' none hs (below_grown h) (fun r e => by cases e)
theorem own_wide {β : Type} {B C : Nat} {J : β → World → Prop} (h : OwnFrom B J) (hB : B ≤ C) : OwnFrom C J := fun s X Y row hs hgr hr => h s X Y row hs hgr (fun r e => ⟨by have := (hr r e).1; omega, (hr r e).2⟩)
theorem own_map {β γ : Type} {B : Nat} {J : β → World → Prop} (h : OwnFrom B J) (k : γ → β) : OwnFrom B (fun s W => J (k s) W) := fun s X Y row hs hgr hr => h (k s) X Y row hs hgr hr
theorem ownFrom_size {β : Type} (B N : Nat) : OwnFrom B (fun (_ : β) W => N ≤ W.heap.size) := fun _ _ _ _ hs hg _ => Nat.le_trans hs hg.size
/-- What a round over Around must leave: all below N, and the three boxes. -/
def KN (N h : Nat) (X Y : World) : Prop := Below N X Y ∧ Y.heap[h]? = X.heap[h]? ∧ Y.heap[h + 1]? = X.heap[h + 1]? ∧ Y.heap[h + 1 + 1]? = X.heap[h + 1 + 1]?
theorem KN.trans {N h : Nat} {X Y Z : World} (a : KN N h X Y) (b : KN N h Y Z) : KN N h X Z := ⟨a.1.trans b.1, b.2.1.trans a.2.1, b.2.2.1.trans a.2.2.1, b.2.2.2.trans a.2.2.2⟩
theorem KN.below {N h n : Nat} {X Y : World} (b : Below n X Y) (hN : N ≤ n) (hh : h + 1 + 1 < n) : KN N h X Y := ⟨b.mono hN, b.block _ (by omega), b.block _ (by omega), b.block _ (by omega)⟩
/-- The boxes that Around has captured. -/
def Cap (w : World) (h p : Nat) (c s x y : Int) : Prop := Boxed w h 37 (ptr p) ∧ Two w (h + 1) c s ∧ Two w (h + 1 + 1) x y
theorem Cap.blk {N h p : Nat} {c s x y : Int} {X Y : World} (a : Cap X h p c s x y) (k : KN N h X Y) : Cap Y h p c s x y := ⟨k.2.1.trans a.1, a.2.1.blk k.2.2.1, a.2.2.blk k.2.2.2⟩
theorem Cap.kept {h p : Nat} {c s x y : Int} {X Y : World} (a : Cap X h p c s x y) (b : Below X.heap.size X Y) : Cap Y h p c s x y := ⟨boxed_upto a.1 b a.1.lt, a.2.1.kept b, a.2.2.kept b⟩
theorem cap_own {B h p : Nat} {c s x y : Int} {β : Type} : OwnFrom B (fun (_ : β) W => Cap W h p c s x y) := fun s X Y row hs hg hr =>
  ⟨boxed_own _ _ (fun (_ : Unit) => ptr p) () X Y row hs.1 hg (fun r e => (hr r e).2), hs.2.1.own hg (fun r e => (hr r e).2), hs.2.2.own hg (fun r e => (hr r e).2)⟩
theorem arr_own' {β : Type} {B b : Nat} {F : Nat → Bool} : OwnFrom B (fun (_ : β) W => Arr W b F) := fun s X Y row hs hg hr => hs.own hg (fun r e => (hr r e).2)
/-- The legal ones of some directions. -/
def legL (S : Int → Int → Bool) (x y : Int) (l : List (Fin 8)) : List (Fin 8) := l.filter (fun i => lg S x y (i.val : Int))
theorem legL_snoc (S : Int → Int → Bool) (x y : Int) (l : List (Fin 8)) (k : Fin 8) : legL S x y (l ++ [k]) = legL S x y l ++ (if lg S x y (k.val : Int) = true then [k] else []) := by
  rw [legL, List.filter_append, legL]
  cases h : lg S x y (k.val : Int) <;> simp [h]
theorem legL_len (S : Int → Int → Bool) (x y : Int) (l : List (Fin 8)) : (legL S x y l).length ≤ l.length := List.length_filter_le _ _
theorem legL_pre (S : Int → Int → Bool) (x y : Int) {a b : List (Fin 8)} (h : a <+: b) : legL S x y a <+: legL S x y b := h.filter _
set_option maxRecDepth 100000 in
set_option maxHeartbeats 4000000 in
theorem caround_seq (n p h : Nat) (W H : Int) (tl : List Nat) (f : Int → Int → Option Int) (c s x y : Int) (w0 w : World) (hn : 1 ≤ n) (hw : Wl w0 p W H tl f) (hg : Grnd w0) (ho : Offs w0) (hB : Below w0.heap.size w0 w) (hC : Cap w h p c s x y) :
    SeqOwn n 40 #[ptr h, ptr (h + 1), ptr (h + 1 + 1)] (encA x y) (KN w0.heap.size h) (fun xs => xs = legL (stB W H tl f c s) x y (roundN x y 0 0 W H 8)) (fun pre => pre <+: legL (stB W H tl f c s) x y (roundN x y 0 0 W H 8)) 8 w := fun l J Jx V hV hJ hJx hY h0 => by
  refine callsIn_of_wp_marks Tryd.func40 rfl trivial ?_ rfl
  simp only [Tryd.ntmps40, List.size_toArray, List.length_cons, List.length_nil, Nat.reduceAdd, Nat.reduceSub, Array.replicate_succ, Array.replicate_zero, List.push_toArray, List.append_toArray, List.nil_append, List.cons_append]
  have hsV := hV.size
  have hBV : Below w0.heap.size w0 V := hB.trans (hV.mono hB.size)
  obtain ⟨G, hG⟩ : ∃ G : Nat → Bool, (fun k : Nat => lg (stB W H tl f c s) x y (k : Int)) = G := ⟨_, rfl⟩
  obtain ⟨V0, hV0⟩ : ∃ V0, V.alloc (.cells #[.func (.yield l) #[] #[]] 76) = V0 := ⟨_, rfl⟩
  have B0 : Below V.heap.size V V0 := by rw [← hV0]; exact box1 _ _
  have Y0 : Boxed V0 V.heap.size 76 (.func (.yield l) #[] #[]) := by rw [← hV0]; exact Boxed.new V 76 _
  have z0 : V0.heap.size = V.heap.size + 1 := by rw [← hV0]; simp
  have C0 : Cap V0 h p c s x y := (hC.kept hV).kept B0
  have HK : Hid (∀ wx, Below w0.heap.size w0 wx → Wl wx p W H tl f ∧ Grnd wx ∧ Offs wx) := hide fun wx hx => ⟨hw.kept hx, hg.kept hx, ho.kept hx⟩
  have HL : Hid (∀ wx, Below w0.heap.size w0 wx → Calls Tryd.prog 41 #[ptr p, shv c s, cel x y] wx fun e w' => e = .returned (arrV G) ∧ Below wx.heap.size wx w') := hide fun wx hx => by
    have q := HK.out wx hx
    have := ls_any p W H tl f c s x y wx q.1 q.2.1 q.2.2 (stands_of c s q.1 q.2.1)
    rw [show arrV (fun k => lg (stB W H tl f c s) x y k) = arrV G by rw [← hG]] at this
    exact this
  have hB0 : Below w0.heap.size w0 V0 := hBV.trans (B0.mono hBV.size)
  obtain ⟨p0, ⟨⟨s0, s1⟩, -, -⟩, ⟨⟨c0, c1⟩, -, -⟩⟩ := id C0
  have pc := p0.cell
  gi_wp2_with fail
  refine ⟨trivial, ?_⟩
  refine (callsIn_wide.2 (HL.out V0 hB0)).mono ?_
  rintro e w1 ⟨rfl, hb1⟩
  clear hV0 s0 s1 c0 c1 pc HL
  have A1 : Arr (w1.alloc (.cells #[.bool (G 0), .bool (G 1), .bool (G 2), .bool (G 3), .bool (G 4), .bool (G 5), .bool (G 6), .bool (G 7)] 44)) w1.heap.size G := heap_alloc_new w1 _
  have B1 : Below V0.heap.size V0 (w1.alloc (.cells #[.bool (G 0), .bool (G 1), .bool (G 2), .bool (G 3), .bool (G 4), .bool (G 5), .bool (G 6), .bool (G 7)] 44)) := bt hb1 (box1 _ _)
  have z1 : (w1.alloc (.cells #[.bool (G 0), .bool (G 1), .bool (G 2), .bool (G 3), .bool (G 4), .bool (G 5), .bool (G 6), .bool (G 7)] 44)).heap.size = w1.heap.size + 1 := by simp
  have y1 := hb1.size
  obtain ⟨X1, hX1⟩ : ∃ X1, w1.alloc (.cells #[.bool (G 0), .bool (G 1), .bool (G 2), .bool (G 3), .bool (G 4), .bool (G 5), .bool (G 6), .bool (G 7)] 44) = X1 := ⟨_, rfl⟩
  rw [hX1] at A1 B1 z1
  gi_wp2_with fail
  clear hX1
  have C1 := C0.kept B1
  have Y1 : Boxed X1 V.heap.size 76 (.func (.yield l) #[] #[]) := boxed_upto Y0 B1 (by omega)
  have hB1 : Below w0.heap.size w0 X1 := hB0.trans (B1.mono hB0.size)
  have pc := C1.1.cell
  obtain ⟨⟨c0, c1⟩, -, -⟩ := id C1.2.2
  refine Code.wpIn_mono (Q := Only (fun a' w' => ∃ (n1 : Lat X1), a' = { tmps := #[.func (.yield l) #[] #[], ptr h, ptr (h + 1), ptr (h + 1 + 1), ptr V.heap.size, ptr w1.heap.size, undef, undef, ptr p, shv c s, cel x y, arrV G, cel x y, ptr p, rct 0 0 W H, .func (.func 67) #[] #[ptr n1.w.heap.size, ptr (n1.w.heap.size + 1)], undef, undef, undef, undef, undef, undef, undef, undef, undef, undef, undef, undef], defers := [] } ∧ w' = (n1.w.alloc (.cells #[.int .i64 x, .int .i64 y] 25)).alloc (.cells #[.int .i64 0, .int .i64 0, .int .i64 W, .int .i64 H] 29))) ?rest ?_
  case rest =>
    rintro (_ | _ | _ | _ | _) a' w' hO
    all_goals first | exact hO.elim | skip
    obtain ⟨n1, rfl, rfl⟩ := hO
    clear pc c0 c1
    have BY := bt n1.h (box2 n1.w (.cells #[.int .i64 x, .int .i64 y] 25) (.cells #[.int .i64 0, .int .i64 0, .int .i64 W, .int .i64 H] 29))
    have T0 : Two ((n1.w.alloc (.cells #[.int .i64 x, .int .i64 y] 25)).alloc (.cells #[.int .i64 0, .int .i64 0, .int .i64 W, .int .i64 H] 29)) n1.w.heap.size x y := (Two.newAt rfl).alloc
    have F0 : Four ((n1.w.alloc (.cells #[.int .i64 x, .int .i64 y] 25)).alloc (.cells #[.int .i64 0, .int .i64 0, .int .i64 W, .int .i64 H] 29)) (n1.w.heap.size + 1) 0 0 W H := by
      simp [Four, go_sem]
    have hsz : ((n1.w.alloc (.cells #[.int .i64 x, .int .i64 y] 25)).alloc (.cells #[.int .i64 0, .int .i64 0, .int .i64 W, .int .i64 H] 29)).heap.size = n1.w.heap.size + 2 := by simp
    obtain ⟨U0, hU0⟩ : ∃ U0, (n1.w.alloc (.cells #[.int .i64 x, .int .i64 y] 25)).alloc (.cells #[.int .i64 0, .int .i64 0, .int .i64 W, .int .i64 H] 29) = U0 := ⟨_, rfl⟩
    rw [hU0] at BY T0 F0 hsz
    have zn := n1.h.size
    obtain ⟨Bb, hBb⟩ : ∃ Bb, n1.w.heap.size = Bb := ⟨_, rfl⟩
    gi_wp2_with fail
    rw [hU0]
    rw [hBb] at T0 F0 hsz zn ⊢
    clear hU0
    have C2 := C1.kept BY
    have Y2 := boxed_upto Y1 BY Y1.lt
    have A2 := A1.kept BY
    have hB2 : Below w0.heap.size w0 U0 := hB1.trans (BY.mono hB1.size)
    have j2 : J [] U0 := own_below hJ h0 (bt B0 (bt B1 BY))
    have hH1 := hC.2.2.2.2
    have ho2 := (HK.out U0 hB2).2.2
    have hw0s := hB.size
    clear C1 Y1 A1
    refine wpIn_rangeFunc_ownH rfl hn (gf := 67) (lb := #[ptr Bb, ptr (Bb + 1)]) rfl trivial (enters_of Tryd.func67 (by kernel_rfl) rfl)
      (around_stopsK (n - 1) Bb (Bb + 1) x y 0 0 W H U0 ho2 T0 F0) KA.trans (kA_b (by omega) (by omega) ho2.1) (Below.refl _ _) (fun _ => rfl)
      (fun pre X => ((((J (legL (stB W H tl f c s) x y pre) X ∧ Below w0.heap.size w0 X) ∧ U0.heap.size ≤ X.heap.size) ∧ Boxed X V.heap.size 76 (.func (.yield l) #[] #[])) ∧ Arr X w1.heap.size G) ∧ Cap X h p c s x y)
      (fun c' pre X => c' = .ret ∧ Jx (legL (stB W H tl f c s) x y pre) X)
      (OwnFrom.and (OwnFrom.and (OwnFrom.and (OwnFrom.and (OwnFrom.and (own_map (own_wide hJ (by omega)) (legL (stB W H tl f c s) x y)) (ownFrom_below (Nat.le_refl _) (by omega))) (ownFrom_size _ _)) (Own.from (boxed_own _ _ _) _)) arr_own') cap_own)
      (fun c' => OwnFrom.and (ownFrom_pure _ _) (own_map (own_wide hJx (by omega)) (legL (stB W H tl f c s) x y)))
      ⟨⟨⟨⟨⟨j2, hB2⟩, Nat.le_refl _⟩, Y2⟩, A2⟩, C2⟩
      (fun q a' X => ∃ Bx, U0.heap.size ≤ Bx ∧ Two X Bx (x + dX q.val) (y + dY q.val) ∧ a' = { tmps := #[.func (.yield l) #[] #[], ptr h, ptr (h + 1), ptr (h + 1 + 1), ptr V.heap.size, ptr w1.heap.size, .int .i64 (q.val : Int), ptr Bx, ptr p, shv c s, cel x y, arrV G, cel x y, ptr p, rct 0 0 W H, .func (.func 67) #[] #[ptr Bb, ptr (Bb + 1)], .int .i64 (q.val : Int), cel (x + dX q.val) (y + dY q.val), undef, undef, undef, undef, undef, undef, undef, undef, undef, undef], defers := [] })
      (fun q a' _ X Y row hs hg hr => by obtain ⟨Bx, e1, e2, e3⟩ := hs; exact ⟨Bx, e1, e2.own hg (fun r e => (hr r e).2), e3⟩)
      ?assign ?body ?done ?stop
    case assign =>
      rintro l' pre q X K ⟨⟨⟨⟨⟨hJX, hBX⟩, hzX⟩, bY⟩, aX⟩, cX⟩ hK
      have hsX := hBX.size
      gi_wp2
      exact hK _ _ ((KeepsOthers.alloc _ _).from _) (KA.below (box1 _ _) (by omega) (by omega) (by have := ho2.1; omega)) ⟨⟨⟨⟨⟨own_below hJ hJX (box1 _ _), hBX.alloc (by omega) _⟩, by simp; omega⟩, bY.alloc _⟩, aX.kept (box1 _ _)⟩, cX.kept (box1 _ _)⟩ ⟨X.heap.size, by omega, Two.newAt rfl, rfl⟩
    case body =>
      rintro l' pre q a' X hl' ⟨r, hr⟩ ⟨⟨⟨⟨⟨hJX, hBX⟩, hzX⟩, bY⟩, aX⟩, cX⟩ ⟨Bx, hBx, bX, rfl⟩ hlt
      have hsX := hBX.size
      have hlen : (legL (stB W H tl f c s) x y pre).length < 8 := Nat.lt_of_le_of_lt (legL_len _ _ _ pre) hlt
      have hon := legL_snoc (stB W H tl f c s) x y pre q
      obtain ⟨k, hk⟩ := q
      simp only at bX hon
      have hGk : G k = lg (stB W H tl f c s) x y (k : Int) := by rw [← hG]
      have gk := aX.c hk
      have hk0 : (0 : Int) ≤ (k : Int) := by omega
      have hk8 : (k : Int) < 8 := by omega
      rw [← hGk] at hon
      cases hb : G k
      · rw [hb] at gk
        rw [hb, if_neg (by simp), List.append_nil] at hon
        have HJ := hide hJX
        have Hon := hide hon
        clear hJX hon hGk hb
        gi_wp2_with fail
        refine ⟨fun f h => (by cases h), ?_⟩
        gi_wp2_with fail
        refine ⟨(KeepsOthers.refl _).from _, KA.refl _ _ _, ⟨⟨⟨⟨?_, hBX⟩, hzX⟩, bY⟩, aX⟩, cX⟩
        rw [Hon.out]
        exact HJ.out
      · rw [hb] at gk
        rw [hb, if_pos rfl] at hon
        have cY := bY.cell
        obtain ⟨⟨t0, t1⟩, -, -⟩ := id bX
        obtain ⟨fn, tmps, asg, bd, hy, hR⟩ := hY (legL (stB W H tl f c s) x y pre) ⟨k, hk⟩ X hJX hlen
        have Hon := hide hon
        clear hJX hon hGk hb hY
        dsimp only [encA] at hy
        gi_wp2_with fail
        refine ⟨fun h => (by cases h), ?_⟩
        refine (round_any _ hR).mono ?_
        rintro e Y ⟨hkp, (⟨rfl, hJ3, hk3⟩ | ⟨rfl, hJx3⟩)⟩
        · have HJ3 := hide hJ3
          clear hJ3 hR hy gk cY t0 t1
          gi_wp2_with fail
          refine ⟨(hkp.mono (by omega)).from, ⟨hkp.2 _ (by omega) (by omega), hkp.2 _ (by omega) (by omega), hk3.1.block 1 ho.1⟩, ⟨⟨⟨⟨?_, hBX.trans hk3.1⟩, Nat.le_trans hzX hkp.1⟩, hkp.at (Nat.le_refl _) bY⟩, hkp.at (by omega) aX⟩, cX.blk hk3⟩
          rw [Hon.out]
          exact HJ3.out
        · have HJ3 := hide hJx3
          clear hJx3 hR hy gk cY t0 t1
          gi_wp2_with fail
          refine ⟨(hkp.mono (by omega)).from, rfl, ?_⟩
          rw [Hon.out]
          exact HJ3.out
    case done =>
      rintro D xs X hD rfl ⟨⟨⟨⟨⟨hJX, hBX⟩, hzX⟩, bY⟩, aX⟩, cX⟩ hK
      have HE := hide (hJ _ _ _ (some D) hJX (grownBy_putObj' X D (.deferred none)) (fun r e => by cases e; exact ⟨by omega, _, hK, rfl⟩))
      clear hJX
      gi_wp2_with fail
      refine ⟨by simp, .inl ⟨_, _, rfl, run_takeDeferred hK, ?_⟩⟩
      exact ⟨.tuple #[], by simp [results, Tryd.f40, go_sem], ⟨_, rfl⟩, .inl ⟨_, rfl, HE.out⟩⟩
    case stop =>
      rintro D c' pre X hD hpre ⟨rfl, hJX⟩ hK
      have HE := hide (hJx _ _ _ (some D) hJX (grownBy_putObj' X D (.deferred none)) (fun r e => by cases e; exact ⟨by omega, _, hK, rfl⟩))
      clear hJX
      gi_wp2
      refine ⟨by simp, .inl ⟨_, _, rfl, run_takeDeferred hK, ?_⟩⟩
      exact ⟨.tuple #[], by simp [results, Tryd.f40, go_sem], ⟨_, rfl⟩, .inr ⟨_, legL_pre _ _ _ hpre, HE.out⟩⟩
  gi_region_with (first | (refine ⟨trivial, ?_⟩; refine (callsIn_wide.2 (all_is (HK.out X1.drew hB1.drew).1)).mono ?_; rintro e w2 ⟨rfl, hb2⟩; have pc2 := (hb2.cell (p := ⟨h, 0, none⟩) C1.1.lt).trans pc; have c02 := (hb2.cell (p := ⟨h + 1 + 1, 0, none⟩) C1.2.2.2.2).trans c0; have c12 := (hb2.cell (p := ⟨h + 1 + 1, 1, none⟩) C1.2.2.2.2).trans c1) | (refine ⟨trivial, ?_⟩; refine (callsIn_wide.2 (around_any _ _ _ _ _ _ _)).mono ?_; rintro e w3 ⟨rfl, rfl⟩))
  all_goals exact ⟨⟨w2, bt (Below.refl _ _).drew hb2⟩, rfl, rfl⟩
end Go.Proofs.YthacppifndakjaaDoor
