/-
  What cluster.All hands back goes through: all clusters of a World, row by row. A range over an iterator with memory of its own whose rounds may turn rows of portals that they made themselves. All clusters, gone through by rounds that may turn rows of portals. Loops over iterators that have memory of their own, and whose rounds may turn rows of one type.
-/
import Derived.Test.YthiafmlgialbnaaGreatDoorClus
set_option linter.unusedSimpArgs false
namespace Go.Proofs.YthiafmlgialbnaaGreatDoor
open Go.RowKit Go.Shelf
set_option linter.unusedVariables false
attribute [local go_sem] Oper.semAt_some
theorem round_any {m m' l : Nat} {f : FuncId} {tmps : Array Value} {assign body : Code} {w : World} {R : Ending → World → Prop} (l' : Nat) (h : RoundIn Fence.wide m Tryz.prog l f tmps assign body w R) :
    RoundIn (Fence.wide.inRound l') m' Tryz.prog l f tmps assign body w R := ⟨h.1, fun c cs _ => h.2 c cs (fun d hd => by cases hd)⟩
theorem own_below {β : Type} {B : Nat} {J : β → World → Prop} (hJ : OwnFrom B J) {s : β} {W W' : World} (hs : J s W) (h : Below W.heap.size W W') : J s W' := hJ s W W' none hs (below_grown h) (fun r e => by cases e)
theorem own_wide {β : Type} {B C : Nat} {J : β → World → Prop} (h : OwnFrom B J) (hB : B ≤ C) : OwnFrom C J := fun s X Y row hs hgr hr => h s X Y row hs hgr (fun r e => ⟨by have := (hr r e).1; omega, (hr r e).2⟩)
theorem ownFrom_size {β : Type} (B N : Nat) : OwnFrom B (fun (_ : β) W => N ≤ W.heap.size) := fun _ _ _ _ hs hg _ => Nat.le_trans hs hg.size
/-- All clusters of a World of so many tiles. -/
abbrev allK (W H : Int) : List Cel := allC 0 0 (clN W) (clN H)
set_option maxRecDepth 100000 in
set_option maxHeartbeats 4000000 in
theorem call_seq (n p h : Nat) (W H : Int) (tl : List Nat) (f : Int → Int → Option Int) (w : World) (hn : 1 ≤ n) (hP : Boxed w h 29 (ptr p)) (hw : Wl w p W H tl f) :
    SeqOwn n 55 #[ptr h] encC (fun _ _ => True) (fun xs => xs = allK W H) (fun pre => pre <+: allK W H) 256 w := fun l J Jx V hV hJ hJx hY h0 => by
  refine callsIn_of_wp_marks Tryz.func55 rfl trivial ?_ rfl
  simp only [Tryz.ntmps55, List.size_toArray, List.length_cons, List.length_nil, Nat.reduceAdd, Nat.reduceSub, Array.replicate_succ, Array.replicate_zero, List.push_toArray, List.append_toArray, List.nil_append, List.cons_append]
  have hs := hw.sides
  have hN : may 0 0 (clN W) (clN H) = true → (clN H).toNat * (clN W).toNat ≤ 256 := fun _ => by
    have := Nat.mul_le_mul (show (clN H).toNat ≤ 16 by unfold clN; omega) (show (clN W).toNat ≤ 16 by unfold clN; omega)
    omega
  unfold allK
  obtain ⟨V0, hV0⟩ : ∃ V0, V.alloc (.cells #[.func (.yield l) #[] #[]] 70) = V0 := ⟨_, rfl⟩
  have B0 : Below V.heap.size V V0 := by rw [← hV0]; exact box1 _ _
  have Y0 : Boxed V0 V.heap.size 70 (.func (.yield l) #[] #[]) := by rw [← hV0]; exact Boxed.new V 70 _
  have z0 : V0.heap.size = V.heap.size + 1 := by rw [← hV0]; simp
  have hW0 : Below w.heap.size w V0 := bt hV B0
  have P0 := boxed_upto hP hW0 hP.lt
  have c0 := P0.cell
  have HC := hide (clus_is (hw.kept hW0))
  generalize clN W = a at HC hN ⊢
  generalize clN H = b at HC hN ⊢
  clear hs hw P0
  gi_wp2_with fail
  refine ⟨trivial, ?_⟩
  refine (callsIn_wide.2 HC.out).mono ?_
  rintro e w1 ⟨rfl, hb1⟩
  clear hV0 HC c0
  gi_wp2_with fail
  refine ⟨trivial, ?_⟩
  refine (callsIn_wide.2 (cells_any _ _ _ _ _)).mono ?_
  rintro e w2 ⟨rfl, rfl⟩
  have F1 : Four (w1.alloc (.cells #[.int .i64 0, .int .i64 0, .int .i64 a, .int .i64 b] 49)) w1.heap.size 0 0 a b := cells4 (Below.refl _ _)
  have B1 := bt hb1 (box1 w1 (.cells #[.int .i64 0, .int .i64 0, .int .i64 a, .int .i64 b] 49))
  have z1 : (w1.alloc (.cells #[.int .i64 0, .int .i64 0, .int .i64 a, .int .i64 b] 49)).heap.size = w1.heap.size + 1 := by simp
  have hs1 := hb1.size
  clear hb1
  gi_wp2_with fail
  obtain ⟨X0, hX0⟩ : ∃ V, w1.alloc (.cells #[.int .i64 0, .int .i64 0, .int .i64 a, .int .i64 b] 49) = V := ⟨_, rfl⟩
  rw [hX0] at F1 B1 z1 ⊢
  clear hX0
  have Y1 : Boxed X0 V.heap.size 70 (.func (.yield l) #[] #[]) := boxed_upto Y0 B1 (by omega)
  have j1 : J [] X0 := own_below hJ h0 (bt B0 B1)
  refine wpIn_rangeFunc_ownH rfl hn (gf := 86) (lb := #[ptr w1.heap.size]) rfl trivial (enters_of Tryz.func86 (by kernel_rfl) rfl)
    (cells_stops (n - 1) w1.heap.size 256 0 0 a b X0 F1 hN) kB_t (kB_b (by omega)) (Below.refl _ _) (fun _ => rfl)
    (fun pre X => (J pre X ∧ X0.heap.size ≤ X.heap.size) ∧ Boxed X V.heap.size 70 (.func (.yield l) #[] #[]))
    (fun c pre X => c = .ret ∧ Jx pre X)
    (OwnFrom.and (OwnFrom.and (own_wide hJ (by omega)) (ownFrom_size _ _)) (Own.from (boxed_own _ _ _) _))
    (fun c => OwnFrom.and (ownFrom_pure _ _) (own_wide hJx (by omega)))
    ⟨⟨j1, Nat.le_refl _⟩, Y1⟩
    (fun q a' X => ∃ Bx, X0.heap.size ≤ Bx ∧ Two X Bx q.1.1 q.1.2 ∧ a' = { tmps := #[.func (.yield l) #[] #[], ptr h, ptr V.heap.size, ptr Bx, ptr p, rct 0 0 a b, .func (.func 86) #[] #[ptr w1.heap.size], cel q.1.1 q.1.2, undef, undef, undef, undef], defers := [] })
    (fun q a' _ X Y row hs hg hr => by obtain ⟨Bx, e1, e2, e3⟩ := hs; exact ⟨Bx, e1, e2.own hg (fun r e => (hr r e).2), e3⟩)
    ?assign ?body ?done ?stop
  case assign =>
    rintro l' pre q X K ⟨⟨hJX, hzX⟩, bY⟩ hK
    gi_wp2
    exact hK _ _ ((KeepsOthers.alloc _ _).from _) (Below.heap_alloc _ _ _ (by omega)) ⟨⟨own_below hJ hJX (box1 _ _), by simp; omega⟩, bY.alloc _⟩ ⟨X.heap.size, by omega, Two.newAt rfl, rfl⟩
  case body =>
    rintro l' pre q a' X hl' ⟨r, hr⟩ ⟨⟨hJX, hzX⟩, bY⟩ ⟨Bx, hBx, bX, rfl⟩ hlt
    have cY := bY.cell
    obtain ⟨⟨d0, d1⟩, -, -⟩ := id bX
    obtain ⟨fn, tmps, asg, bd, hy, hR⟩ := hY pre q X hJX hlt
    have HJ := hide hJX
    clear hJX
    dsimp only [encC] at hy
    gi_wp2_with fail
    refine ⟨fun h => (by cases h), ?_⟩
    refine (round_any _ hR).mono ?_
    rintro e Y ⟨hk, (⟨rfl, hJ3, hk3⟩ | ⟨rfl, hJx3⟩)⟩
    · have HJ3 := hide hJ3
      clear hJ3 hR hy
      gi_wp2_with fail
      exact ⟨(hk.mono (by omega)).from, hk.2 _ (by omega) (by omega), ⟨HJ3.out, Nat.le_trans hzX hk.1⟩, hk.at (Nat.le_refl _) bY⟩
    · have HJ3 := hide hJx3
      clear hJx3 hR hy
      gi_wp2_with fail
      exact ⟨(hk.mono (by omega)).from, rfl, HJ3.out⟩
  case done =>
    rintro D xs X hD rfl ⟨⟨hJX, hzX⟩, bY⟩ hK
    have HE := hide (hJ _ _ _ (some D) hJX (grownBy_putObj' X D (.deferred none)) (fun r e => by cases e; exact ⟨by omega, _, hK, rfl⟩))
    clear hJX
    gi_wp2_with fail
    refine ⟨by simp, .inl ⟨_, _, rfl, run_takeDeferred hK, ?_⟩⟩
    exact ⟨.tuple #[], by simp [results, Tryz.f55, go_sem], ⟨_, rfl⟩, .inl ⟨_, rfl, HE.out⟩⟩
  case stop =>
    rintro D c pre X hD hpre ⟨rfl, hJX⟩ hK
    have HE := hide (hJx _ _ _ (some D) hJX (grownBy_putObj' X D (.deferred none)) (fun r e => by cases e; exact ⟨by omega, _, hK, rfl⟩))
    clear hJX
    gi_wp2
    refine ⟨by simp, .inl ⟨_, _, rfl, run_takeDeferred hK, ?_⟩⟩
    exact ⟨.tuple #[], by simp [results, Tryz.f55, go_sem], ⟨_, rfl⟩, .inr ⟨_, hpre, HE.out⟩⟩
end Go.Proofs.YthiafmlgialbnaaGreatDoor
namespace Go.Proofs.YthiafmlgialbnaaGreatDoor
open Go.RowKit Go.Shelf
set_option linter.unusedVariables false
/-- What lay from block B on lies as it lay. -/
def ints : Obj → Bool
  | .cells _ t _ => t == 122
  | _ => false
/-- What lay from block B on lies as it lay, rows of portals aside. -/
def KeepI (B : Nat) (W W' : World) : Prop := W.heap.size ≤ W'.heap.size ∧ ∀ k o, B ≤ k → W.heap[k]? = some o → ints o = false → W'.heap[k]? = some o
/-- What an iterator promises that may keep records of its own: the rounds leave what it has laid. -/
def SeqOwnI {α : Type} (n : Nat) (g : Nat) (lb : Array Value) (encs : α → Array Value) (Kp : World → World → Prop) (S Sp : List α → Prop) (N : Nat) (w : World) : Prop :=
  ∀ (l : Nat) (J Jx : List α → World → Prop) (W : World), Below w.heap.size w W → OwnFrom W.heap.size J → OwnFrom W.heap.size Jx →
    (∀ pre x X, J pre X → pre.length < N → YieldAt Fence.wide (n - 1) Tryz.prog l (encs x) X fun e Y =>
      KeepI W.heap.size X Y ∧ ((e = .returned (.bool true) ∧ J (pre ++ [x]) Y ∧ Kp X Y) ∨ (e = .returned (.bool false) ∧ Jx (pre ++ [x]) Y))) →
    J [] W →
    CallsIn Fence.wide n Tryz.prog g (#[.func (.yield l) #[] #[]] ++ lb) W fun e Y => (∃ v, e = .returned v) ∧ ((∃ xs, S xs ∧ J xs Y) ∨ (∃ pre, Sp pre ∧ Jx pre Y))
def nestPostI {α : Type} (B : Nat) (Kp : World → World → Prop) (I Ix : List α → World → Prop) (xs : List α) (X : World) : Exit → Act → World → Prop
  | .normal, _, Y => KeepI B X Y ∧ Kp X Y ∧ I xs Y
  | .ret, _, Y => KeepI B X Y ∧ Ix xs Y
  | _, _, _ => False
end Go.Proofs.YthiafmlgialbnaaGreatDoor
set_option linter.unusedSimpArgs false
namespace Go.Proofs.YthiafmlgialbnaaGreatDoor
open Go.RowKit Go.Shelf
set_option linter.unusedVariables false
attribute [local go_sem] Oper.semAt_some
end Go.Proofs.YthiafmlgialbnaaGreatDoor
set_option linter.unusedSimpArgs false
namespace Go.Proofs.YthiafmlgialbnaaGreatDoor
open Go.RowKit Go.Shelf
set_option linter.unusedVariables false
attribute [local go_sem] Oper.semAt_some
section
variable {ty : TypeId}
/-- What lay from block B on lies as it lay. -/
def ofT (ty : TypeId) : Obj → Bool
  | .cells _ t _ => t == ty
  | _ => false
/-- What lay from block B on lies as it lay, rows of one type aside. -/
def KeepT (ty : TypeId) (B : Nat) (W W' : World) : Prop := W.heap.size ≤ W'.heap.size ∧ ∀ k o, B ≤ k → W.heap[k]? = some o → ofT ty o = false → W'.heap[k]? = some o
theorem KeepT.trans {B : Nat} {X Y Z : World} (h : KeepT ty B X Y) (k : KeepT ty B Y Z) : KeepT ty B X Z := ⟨Nat.le_trans h.1 k.1, fun i o hi ho hn => k.2 i o hi (h.2 i o hi ho hn) hn⟩
theorem KeepT.mono {B C : Nat} {X Y : World} (h : KeepT ty B X Y) (hB : B ≤ C) : KeepT ty C X Y := ⟨h.1, fun i o hi => h.2 i o (Nat.le_trans hB hi)⟩
theorem KeepT.at {B : Nat} {X Y : World} (h : KeepT ty B X Y) {k : Nat} {o : Obj} (hB : B ≤ k) (hk : X.heap[k]? = some o) (hn : ofT ty o = false) : Y.heap[k]? = some o := h.2 k o hB hk hn
theorem KeepT.from {B : Nat} {X Y : World} (h : KeepT ty B X Y) : KeepsFrom B X Y := ⟨h.1, fun k o hB hk hc => h.at hB hk (by cases o <;> first | rfl | (simp [Obj.isCells] at hc))⟩
theorem KeepT.of_below {B : Nat} {X Y : World} (h : Below X.heap.size X Y) : KeepT ty B X Y := ⟨h.size, fun k o _ hk _ => (h.block k (Array.getElem?_eq_some_iff.1 hk).1).trans hk⟩
theorem KeepT.put {B : Nat} (X : World) {l : Nat} (o : Obj) (hl : l < B) : KeepT ty B X (X.putObj l o) := ⟨by simp, fun k o' hB hk _ => (World.putObj_heap_other (by omega)).trans hk⟩
/-- What an iterator promises that may keep records of its own: the rounds leave what it has laid. -/
def SeqOwnT (ty : TypeId) {α : Type} (n : Nat) (g : Nat) (lb : Array Value) (encs : α → Array Value) (Kp : World → World → Prop) (S Sp : List α → Prop) (N : Nat) (w : World) : Prop :=
  ∀ (l : Nat) (J Jx : List α → World → Prop) (W : World), Below w.heap.size w W → OwnFrom W.heap.size J → OwnFrom W.heap.size Jx →
    (∀ pre x X, J pre X → pre.length < N → YieldAt Fence.wide (n - 1) Tryz.prog l (encs x) X fun e Y =>
      KeepT ty W.heap.size X Y ∧ ((e = .returned (.bool true) ∧ J (pre ++ [x]) Y ∧ Kp X Y) ∨ (e = .returned (.bool false) ∧ Jx (pre ++ [x]) Y))) →
    J [] W →
    CallsIn Fence.wide n Tryz.prog g (#[.func (.yield l) #[] #[]] ++ lb) W fun e Y => (∃ v, e = .returned v) ∧ ((∃ xs, S xs ∧ J xs Y) ∨ (∃ pre, Sp pre ∧ Jx pre Y))
def nestPostT (ty : TypeId) {α : Type} (B : Nat) (Kp : World → World → Prop) (I Ix : List α → World → Prop) (xs : List α) (X : World) : Exit → Act → World → Prop
  | .normal, _, Y => KeepT ty B X Y ∧ Kp X Y ∧ I xs Y
  | .ret, _, Y => KeepT ty B X Y ∧ Ix xs Y
  | _, _, _ => False
theorem range_nestT {α : Type} {n : Nat} {g : Operand} {ps : Array Tmp} {assign body : Code} {Q : Exit → Act → World → Prop} {a : Act} {w w0 : World} (h1 : 1 ≤ n) {gf : Nat} {lb : Array Value}
    (hg : a.eval g = .func (.func gf) #[] lb) (eg : ∀ args w, (callFunc gf args).run Tryz.prog w = .ok (.enter gf args) w)
    {encs : α → Array Value} {Kp : World → World → Prop} {S Sp : List α → Prop} {N : Nat} (hseq : SeqOwnT ty (n - 1) gf lb encs Kp S Sp N w0)
    (hKt : ∀ {A B C : World}, Kp A B → Kp B C → Kp A C) (hKb : ∀ (W : World) (l : Nat) (o o' : Obj), w.heap.size ≤ l → W.heap[l]? = some o → o.isCells = false → o.isWalk = false → Kp W (W.putObj l o'))
    (hb0 : Below w0.heap.size w0 w) (hps : ∀ x, (encs x).size = ps.size)
    (I Ix : List α → World → Prop) (hI : OwnFrom w.heap.size I) (hIx : OwnFrom w.heap.size Ix) (h0 : I [] w) (Ax : α → Act → World → Prop) (hAx : ∀ x a', OwnFrom w.heap.size (fun (_ : Unit) W => Ax x a' W))
    (hassign : ∀ (l : Nat) (pre : List α) (x : α) (W : World) (K : Act → World → Prop), I pre W → (∀ a' W', KeepT ty w.heap.size W W' → Kp W W' → I pre W' → Ax x a' W' → K a' W') →
      assign.wpIn (Fence.wide.inRound l) (n - 1 - 1) Tryz.prog (Exit.then K (fun _ _ _ => False)) { tmps := (ps.zip (encs x)).foldl (fun t (p, v) => t.setIfInBounds p v) a.tmps, defers := [] } W)
    (hbody : ∀ (l : Nat) (pre : List α) (x : α) (a' : Act) (W : World), w.heap.size ≤ l → I pre W → Ax x a' W → pre.length < N → body.wpIn (Fence.wide.inRound l) (n - 1 - 1) Tryz.prog (nestPostT ty w.heap.size Kp I Ix (pre ++ [x]) W) a' W)
    (hdone : ∀ (D : Nat) (xs : List α) (W : World), w.heap.size ≤ D → S xs → I xs W → W.heap[D]? = some (.deferred (some [])) → Q .normal { a with defers := { target := .collected D, args := #[] } :: a.defers } W)
    (hstop : ∀ (D : Nat) (pre : List α) (W : World), w.heap.size ≤ D → Sp pre → Ix pre W → W.heap[D]? = some (.deferred (some [])) → Code.ret.wpIn Fence.wide n Tryz.prog Q { a with defers := { target := .collected D, args := #[] } :: a.defers } W) :
    (Code.rangeFunc g ps assign body).wpIn Fence.wide n Tryz.prog Q a w := by
  refine wpIn_rangeFunc (fun fn hfn => ?_)
  generalize hrc : (fun st pe => ({ state := st, pending := pe, fn := fn, tmps := a.tmps, params := ps, assign := assign, body := body, defers := w.heap.size } : Loop)) = rc
  generalize hV : (w.alloc (.deferred (some []))).alloc (.loop (rc .ready none)) = V
  have zV : V.heap.size = w.heap.size + 1 + 1 := by rw [← hV]; simp
  have bV : Below w.heap.size w V := by rw [← hV]; exact box2 _ _ _
  have lV : V.heap[w.heap.size + 1]? = some (.loop (rc .ready none)) := by rw [← hV]; have := World.alloc_heap_new (w.alloc (.deferred (some []))) (.loop (rc .ready none)); rwa [World.size_alloc] at this
  have dV : V.heap[w.heap.size]? = some (.deferred (some [])) := by rw [← hV]; exact (Below.heap_alloc _ _ _ (by simp)).trans (World.alloc_heap_new w _)
  have iV : I [] V := hI _ _ _ none h0 (below_grown bV) (fun r e => by cases e)
  -- the records, in whatever state the loop is
  let Bk : LoopState → Option Code → World → Prop := fun st pe X => X.heap[w.heap.size + 1]? = some (.loop (rc st pe)) ∧ X.heap[w.heap.size]? = some (.deferred (some []))
  have ownB : ∀ st pe, OwnFrom V.heap.size (fun (_ : List α) X => Bk st pe X) := fun st pe s X Y row hs hgr hr =>
    ⟨(hgr.block _ (Array.getElem?_eq_some_iff.1 hs.1).1 (fun e => by have := (hr _ e.symm).1; omega)).trans hs.1, (hgr.block _ (Array.getElem?_eq_some_iff.1 hs.2).1 (fun e => by have := (hr _ e.symm).1; omega)).trans hs.2⟩
  have wide : ∀ {J : List α → World → Prop}, OwnFrom w.heap.size J → OwnFrom V.heap.size J := fun h s X Y row hs hgr hr => h s X Y row hs hgr (fun r e => ⟨by have := (hr r e).1; omega, (hr r e).2⟩)
  have turn : ∀ {X : World} {st pe} (st' : LoopState) (pe' : Option Code), Bk st pe X → Bk st' pe' (X.putObj (w.heap.size + 1) (.loop (rc st' pe'))) := fun st' pe' h =>
    ⟨World.putObj_heap_same (Array.getElem?_eq_some_iff.1 h.1).1, (World.putObj_heap_other (by omega)).trans h.2⟩
  refine ⟨w.heap.size + 1, [{ target := .collected w.heap.size, args := #[] }], V, { target := .fn (.func gf) lb, args := #[.func (.yield (w.heap.size + 1)) #[] #[]] }, V, gf, #[.func (.yield (w.heap.size + 1)) #[] #[]] ++ lb, V, ?_, ?_, fun _ _ => trivial, ?_, fun _ => h1, ?_⟩
  · rw [← hV, ← hrc]; exact run_enterLoop_outer _ _ _ _ _
  · simp only [resolve, hg]; simp [go_sem]
  · simp [invoke, go_sem, eg]
  refine (hseq (w.heap.size + 1) (fun pre X => I pre X ∧ Bk .ready none X) (fun pre X => Ix pre X ∧ Bk .done (some .ret) X) V (hb0.trans (bV.mono hb0.size))
    (OwnFrom.and (wide hI) (ownB _ _)) (OwnFrom.and (wide hIx) (ownB _ _)) ?_ ⟨iV, lV, dV⟩).mono ?_
  · rintro pre x X ⟨iX, bX⟩ hlen
    have hy := run_yield (P := Tryz.prog) (args := encs x) bX.1 (by rw [← hrc]; exact hps x)
    rw [← hrc] at hy
    refine ⟨fn, _, assign, body, hy, roundIn_of_wpIn trivial (hassign _ pre x X _ iX ?_)⟩
    intro a' Y kY kpY iY axY
    have bY : Bk .ready none Y := ⟨kY.at (by omega) bX.1 rfl, kY.at (Nat.le_refl _) bX.2 rfl⟩
    refine ⟨_, run_beginRound bY.1 (by rw [← hrc]), ?_⟩
    rw [show (Obj.loop { rc .ready none with state := .busy }) = .loop (rc .busy none) by rw [← hrc]]
    have bZ := turn .busy none bY
    refine wpIn_mono (hbody _ pre x a' _ (by omega) (hI.putObj _ iY (by omega) bY.1 rfl) ((hAx x a').putObj (s := ()) _ axY (by omega) bY.1 rfl) hlen) ?_
    have fin : ∀ (j : Option Code) (U : World), KeepT ty w.heap.size (Y.putObj (w.heap.size + 1) (.loop (rc .busy none))) U →
        (Instr.endRound (w.heap.size + 1) j).run Tryz.prog U = .ok (.bool j.isNone) (U.putObj (w.heap.size + 1) (.loop (rc (if j.isNone then .ready else .done) j))) ∧ Bk .busy none U := fun j U kU => by
      have bU : Bk .busy none U := ⟨kU.at (by omega) bZ.1 rfl, kU.at (Nat.le_refl _) bZ.2 rfl⟩
      refine ⟨?_, bU⟩
      have := run_endRound (P := Tryz.prog) j bU.1
      rw [← hrc] at this ⊢
      exact this
    have kept : ∀ {U : World} (o : Obj), KeepT ty w.heap.size (Y.putObj (w.heap.size + 1) (.loop (rc .busy none))) U → KeepT ty V.heap.size X (U.putObj (w.heap.size + 1) o) := fun o kU =>
      ((kY.mono (by omega)).trans (KeepT.put _ _ (by omega))).trans ((kU.mono (by omega)).trans (KeepT.put _ _ (by omega)))
    rintro e a3 U hp
    cases e with
    | normal =>
      obtain ⟨kU, kpU, iU⟩ := hp
      obtain ⟨hr, bU⟩ := fin none U kU
      exact ⟨_, _, hr, kept _ kU, .inl ⟨rfl, ⟨hI.putObj _ iU (by omega) bU.1 rfl, turn _ _ bU⟩, hKt kpY (hKt (hKt (hKb _ _ _ _ (by omega) bY.1 rfl rfl) kpU) (hKb _ _ _ _ (by omega) bU.1 rfl rfl))⟩⟩
    | ret =>
      obtain ⟨kU, iU⟩ := hp
      obtain ⟨hr, bU⟩ := fin (some .ret) U kU
      exact ⟨_, _, hr, kept _ kU, .inr ⟨rfl, hIx.putObj _ iU (by omega) bU.1 rfl, turn _ _ bU⟩⟩
    | exit id => exact hp.elim
    | goto t => exact hp.elim
    | panic ch => exact hp.elim
    | outgrown => exact hp.elim
  · rintro e U ⟨⟨v, rfl⟩, (⟨xs, hS, iU, bU⟩ | ⟨pre, hS, iU, bU⟩)⟩
    · refine ⟨none, _, ?_, hdone _ xs _ (Nat.le_refl _) hS (hI.putObj (.loop (rc .exhausted none)) iU (by omega) bU.1 rfl) (turn .exhausted none bU).2⟩
      have := run_endLoop (P := Tryz.prog) bU.1 (by rw [← hrc]; simp)
      rw [← hrc] at this ⊢
      exact this
    · refine ⟨some .ret, _, ?_, hstop _ pre _ (Nat.le_refl _) hS (hIx.putObj (.loop (rc .exhausted (some .ret))) iU (by omega) bU.1 rfl) (turn .exhausted (some .ret) bU).2⟩
      have := run_endLoop (P := Tryz.prog) bU.1 (by rw [← hrc]; simp)
      rw [← hrc] at this ⊢
      exact this
set_option linter.unusedSimpArgs false
set_option linter.unusedVariables false
attribute [local go_sem] Oper.semAt_some
end
end Go.Proofs.YthiafmlgialbnaaGreatDoor
